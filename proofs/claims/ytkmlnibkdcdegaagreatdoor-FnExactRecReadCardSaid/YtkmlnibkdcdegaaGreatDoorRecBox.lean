/-
  A record by value, and in a block; the law's own szRec, toRec, eqRec.
-/
import Derived.Test.YtkmlnibkdcdegaaGreatDoorPackDep
import Derived.Test.YtkmlnibkdcdegaaGreatDoorPackHeld
import Derived.Deep.RegionHeld3
import Derived.Deep.DeepCutAuto
namespace Go.Proofs.YtkmlnibkdcdegaaGreatDoor.Rec
open Go.ChangeShapes Go.WideShapes Go.ChangeAt Go.RowKit
open Dep (D I)
set_option linter.unusedVariables false
set_option maxRecDepth 100000
set_option linter.unusedSimpArgs false

/-- Where a record's lists lie. -/
structure P where
  A : Option Addr
  ca : Nat
  B : Option Addr
  cb : Nat
/-- A record by value. -/
def recV (r : R) (p : P) : Value := .agg #[.string r.k, .int .i64 r.i.c, .int .i64 r.i.s, .int .i64 r.i.e, .string r.d, .bool r.g, .slice p.A r.l.length p.ca, .slice p.B r.b.length p.cb]
/-- Its cells. -/
abbrev cellsV (r : R) (p : P) : Array Value := #[.string r.k, .int .i64 r.i.c, .int .i64 r.i.s, .int .i64 r.i.e, .string r.d, .bool r.g, .slice p.A r.l.length p.ca, .slice p.B r.b.length p.cb]
/-- Eight cells of a block. -/
abbrev C8 (W : World) (b : Nat) (r : R) (p : P) : Prop :=
  W.cell? ⟨b, 0, none⟩ = some (.string r.k) ∧ W.cell? ⟨b, 1, none⟩ = some (.int .i64 r.i.c) ∧ W.cell? ⟨b, 2, none⟩ = some (.int .i64 r.i.s) ∧ W.cell? ⟨b, 3, none⟩ = some (.int .i64 r.i.e) ∧
  W.cell? ⟨b, 4, none⟩ = some (.string r.d) ∧ W.cell? ⟨b, 5, none⟩ = some (.bool r.g) ∧ W.cell? ⟨b, 6, none⟩ = some (.slice p.A r.l.length p.ca) ∧ W.cell? ⟨b, 7, none⟩ = some (.slice p.B r.b.length p.cb)
theorem cells8 {W : World} {b t : Nat} {r : R} {p : P} (h : Blk W b t (cellsV r p)) : C8 W b r p := ⟨h.cell 0, h.cell 1, h.cell 2, h.cell 3, h.cell 4, h.cell 5, h.cell 6, h.cell 7⟩
/-- What a record's lists read as. -/
def Lies (w : World) (N : Nat) (r : R) (p : P) : Prop := Dep.Lies w N p.A r.l ∧ Str.Lies w N p.B r.b
theorem Lies.step {w w' : World} {B N M : Nat} {r : R} {p : P} (h : Lies w B r p) (hb : Below N w w') (hN : B ≤ N) (hM : B ≤ M) : Lies w' M r p := ⟨(h.1.below hb hN).more hM, (h.2.below hb hN).more hM⟩
theorem Lies.on {w w' : World} {r : R} {p : P} (h : Lies w w.heap.size r p) (hb : Below w.heap.size w w') : Lies w' w'.heap.size r p := h.step hb (Nat.le_refl _) hb.size
/-- A record's lists in blocks of their own. -/
def Held (w : World) (r : R) (p : P) (lo hi : Nat) : Prop := Dep.Held w p.A r.l lo hi ∧ Str.Held w p.B r.b lo hi
theorem Held.lies {W : World} {r : R} {p : P} {lo hi B : Nat} (h : Held W r p lo hi) (hB : hi ≤ B) : Lies W B r p := ⟨h.1.lies hB, h.2.lies hB⟩
theorem Held.step {W W' : World} {r : R} {p : P} {lo hi N : Nat} (h : Held W r p lo hi) (hb : Below N W W') (hN : hi ≤ N ∨ W.heap.size ≤ N) : Held W' r p lo hi := ⟨h.1.step hb hN, h.2.step hb hN⟩
theorem Held.above {W W' : World} {r : R} {p : P} {lo hi : Nat} (h : Held W r p lo hi) (ha : Above lo W W') : Held W' r p lo hi := ⟨h.1.keep fun k h1 _ _ => ha.2 k h1, h.2.keep fun k h1 _ _ => ha.2 k h1⟩
theorem Held.wide {W : World} {r : R} {p : P} {lo hi lo' hi' : Nat} (h : Held W r p lo hi) (hl : lo' ≤ lo) (hh : hi ≤ hi') : Held W r p lo' hi' := ⟨h.1.wide hl hh, h.2.wide hl hh⟩
/-- What comes in is no larger than a machine has room for. -/
def Sound (r : R) : Prop := r.k.size ≤ maxLen ∧ r.d.size ≤ maxLen ∧ r.l.length ≤ maxLen ∧ (∀ d ∈ r.l, d.k.size ≤ maxLen) ∧ r.b.length ≤ maxLen ∧ ∀ x ∈ r.b, x.size ≤ maxLen
/-- No part is larger than n. -/
def Small (r : R) (n : Int) : Prop := (r.k.size : Int) ≤ n ∧ (r.d.size : Int) ≤ n ∧ (r.l.length : Int) ≤ n ∧ (∀ d ∈ r.l, (d.k.size : Int) ≤ n) ∧ (r.b.length : Int) ≤ n ∧ ∀ x ∈ r.b, (x.size : Int) ≤ n

/-- A zero record's cells. -/
abbrev zeroV : Array Value := #[.string ⟨#[]⟩, .int .i64 0, .int .i64 0, .int .i64 0, .string ⟨#[]⟩, .bool false, .slice none 0 0, .slice none 0 0]

set_option maxHeartbeats 2000000 in
theorem eqRec_same (r : R) (p q : P) (w : World) (hp : Lies w w.heap.size r p) (hq : Lies w w.heap.size r q) (hl : r.l.length ≤ maxLen) (hb : r.b.length ≤ maxLen) :
    Calls Tryz.prog 17 #[recV r p, recV r q] w fun x w' => x = .returned (.bool true) ∧ Below w.heap.size w w' := by
  have HD := Lib.hid (fun W (hW : Below w.heap.size w W) => Dep.eqDepS_same p.A q.A r.l p.ca q.ca W ((hp.1.below hW (Nat.le_refl _)).more hW.size) ((hq.1.below hW (Nat.le_refl _)).more hW.size) hl)
  have HS := Lib.hid (fun W (hW : Below w.heap.size w W) => Str.eqStrings_any p.B q.B r.b r.b p.cb q.cb W ((hp.2.below hW (Nat.le_refl _)).more hW.size) ((hq.2.below hW (Nat.le_refl _)).more hW.size) hb hb)
  rw [Str.alikeB_true rfl] at HS
  have B0 := Lib.hid (((Below.refl w.heap.size w).alloc (Nat.le_refl _) (.cells (cellsV r p) 27)).alloc (by simp) (.cells (cellsV r q) 27))
  have X0 := Lib.hid ((Blk.new w 27 (cellsV r p)).alloc (.cells (cellsV r q) 27))
  have Y0 := Blk.new (w.alloc (.cells (cellsV r p) 27)) 27 (cellsV r q)
  simp only [World.size_alloc] at Y0
  have HY0 := Lib.hid Y0
  clear hp hq Y0
  unfold Dep.slV at HD
  unfold Str.slV at HS
  unfold recV
  have e0 : (r.k.toList == r.k.toList) = true := beq_self_eq_true _
  have e1 : (r.d.toList == r.d.toList) = true := beq_self_eq_true _
  have e2 : (r.g == r.g) = true := beq_self_eq_true _
  have e3 : (r.g != r.g) = false := by simp
  go_enter Tryz.func17, Tryz.ntmps17
  go_wp2_with fail
  refine (Id.eqId_same r.i.c r.i.s r.i.e _).mono ?_
  rintro x w1 ⟨rfl, hb1⟩
  have B1 := Lib.hid (B0.out.trans (hb1.mono B0.out.size))
  have X1 := Lib.hid (X0.out.on hb1)
  have Y1 := Lib.hid (HY0.out.on hb1)
  clear hb1 B0 X0 HY0
  obtain ⟨x0, x1, x2, x3, x4, x5, x6, x7⟩ := cells8 X1.out
  obtain ⟨y0, y1, y2, y3, y4, y5, y6, y7⟩ := cells8 Y1.out
  go_wp2_with fail
  refine (HD.out _ B1.out).mono ?_
  rintro x w2 ⟨rfl, hb2⟩
  have B2 := Lib.hid (B1.out.trans (hb2.mono B1.out.size))
  have X2 := Lib.hid (X1.out.on hb2)
  have Y2 := Lib.hid (Y1.out.on hb2)
  clear hb2 B1 X1 Y1 x0 x1 x2 x3 x4 x5 x6 x7 y0 y1 y2 y3 y4 y5 y6 y7
  obtain ⟨x0, x1, x2, x3, x4, x5, x6, x7⟩ := cells8 X2.out
  obtain ⟨y0, y1, y2, y3, y4, y5, y6, y7⟩ := cells8 Y2.out
  go_wp2_with fail
  refine (HS.out _ B2.out).mono ?_
  rintro x w3 ⟨rfl, hb3⟩
  have B3 := Lib.hid (B2.out.trans (hb3.mono B2.out.size))
  clear hb3
  go_wp2_with fail
  go_ret
  exact ⟨rfl, B3.out⟩
end Go.Proofs.YtkmlnibkdcdegaaGreatDoor.Rec
