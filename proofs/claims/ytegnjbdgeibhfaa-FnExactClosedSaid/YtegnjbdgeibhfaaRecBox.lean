/-
  A record by value, and in a block; the law's own szRec, toRec, eqRec.
-/
import Derived.Test.YtegnjbdgeibhfaaRecMath
import Derived.Test.YtegnjbdgeibhfaaPackStr
import Derived.Deep.RegionHeld3
import Derived.Deep.DeepCutAuto
namespace Go.Proofs.Ytegnjbdgeibhfaa.Rec
open Go.ChangeShapes Go.WideShapes Go.ChangeAt Go.RowKit
open Dep (D I)
set_option linter.unusedVariables false
set_option maxRecDepth 100000
set_option linter.unusedSimpArgs false

/-- Where a record's lists lie. -/
structure P where
  A : Option Addr
  ca : Nat
  B : Option Addr
  cb : Nat
/-- A record by value. -/
def recV (r : R) (p : P) : Value := .agg #[.string r.k, .int .i64 r.i.c, .int .i64 r.i.s, .int .i64 r.i.e, .string r.d, .bool r.g, .slice p.A r.l.length p.ca, .slice p.B r.b.length p.cb]
/-- Its cells. -/
abbrev cellsV (r : R) (p : P) : Array Value := #[.string r.k, .int .i64 r.i.c, .int .i64 r.i.s, .int .i64 r.i.e, .string r.d, .bool r.g, .slice p.A r.l.length p.ca, .slice p.B r.b.length p.cb]
/-- Eight cells of a block. -/
abbrev C8 (W : World) (b : Nat) (r : R) (p : P) : Prop :=
  W.cell? ⟨b, 0, none⟩ = some (.string r.k) ∧ W.cell? ⟨b, 1, none⟩ = some (.int .i64 r.i.c) ∧ W.cell? ⟨b, 2, none⟩ = some (.int .i64 r.i.s) ∧ W.cell? ⟨b, 3, none⟩ = some (.int .i64 r.i.e) ∧
  W.cell? ⟨b, 4, none⟩ = some (.string r.d) ∧ W.cell? ⟨b, 5, none⟩ = some (.bool r.g) ∧ W.cell? ⟨b, 6, none⟩ = some (.slice p.A r.l.length p.ca) ∧ W.cell? ⟨b, 7, none⟩ = some (.slice p.B r.b.length p.cb)
theorem cells8 {W : World} {b t : Nat} {r : R} {p : P} (h : Blk W b t (cellsV r p)) : C8 W b r p := ⟨h.cell 0, h.cell 1, h.cell 2, h.cell 3, h.cell 4, h.cell 5, h.cell 6, h.cell 7⟩
/-- What a record's lists read as. -/
def Lies (w : World) (N : Nat) (r : R) (p : P) : Prop := Dep.Lies w N p.A r.l ∧ Str.Lies w N p.B r.b
theorem Lies.step {w w' : World} {B N M : Nat} {r : R} {p : P} (h : Lies w B r p) (hb : Below N w w') (hN : B ≤ N) (hM : B ≤ M) : Lies w' M r p := ⟨(h.1.below hb hN).more hM, (h.2.below hb hN).more hM⟩
theorem Lies.on {w w' : World} {r : R} {p : P} (h : Lies w w.heap.size r p) (hb : Below w.heap.size w w') : Lies w' w'.heap.size r p := h.step hb (Nat.le_refl _) hb.size
/-- A record's lists in blocks of their own. -/
def Held (w : World) (r : R) (p : P) (lo hi : Nat) : Prop := Dep.Held w p.A r.l lo hi ∧ Str.Held w p.B r.b lo hi
theorem Held.lies {W : World} {r : R} {p : P} {lo hi B : Nat} (h : Held W r p lo hi) (hB : hi ≤ B) : Lies W B r p := ⟨h.1.lies hB, h.2.lies hB⟩
theorem Held.step {W W' : World} {r : R} {p : P} {lo hi N : Nat} (h : Held W r p lo hi) (hb : Below N W W') (hN : hi ≤ N ∨ W.heap.size ≤ N) : Held W' r p lo hi := ⟨h.1.step hb hN, h.2.step hb hN⟩
theorem Held.above {W W' : World} {r : R} {p : P} {lo hi : Nat} (h : Held W r p lo hi) (ha : Above lo W W') : Held W' r p lo hi := ⟨h.1.keep fun k h1 _ _ => ha.2 k h1, h.2.keep fun k h1 _ _ => ha.2 k h1⟩
theorem Held.wide {W : World} {r : R} {p : P} {lo hi lo' hi' : Nat} (h : Held W r p lo hi) (hl : lo' ≤ lo) (hh : hi ≤ hi') : Held W r p lo' hi' := ⟨h.1.wide hl hh, h.2.wide hl hh⟩
/-- What comes in is no larger than a machine has room for. -/
def Sound (r : R) : Prop := r.k.size ≤ maxLen ∧ r.d.size ≤ maxLen ∧ r.l.length ≤ maxLen ∧ (∀ d ∈ r.l, d.k.size ≤ maxLen) ∧ r.b.length ≤ maxLen ∧ ∀ x ∈ r.b, x.size ≤ maxLen
/-- No part is larger than n. -/
def Small (r : R) (n : Int) : Prop := (r.k.size : Int) ≤ n ∧ (r.d.size : Int) ≤ n ∧ (r.l.length : Int) ≤ n ∧ (∀ d ∈ r.l, (d.k.size : Int) ≤ n) ∧ (r.b.length : Int) ≤ n ∧ ∀ x ∈ r.b, (x.size : Int) ≤ n

theorem szRec_any (r : R) (p : P) (n : Int) (w : World) (h : Lies w w.heap.size r p) (hs : Sound r) (h0 : 0 ≤ n) (h1 : n ≤ 1048576) :
    Calls Try.prog 42 #[recV r p, .int .i64 n] w fun x w' => ∃ m : Int, x = .returned (.int .i64 m) ∧ (m = -1 ∨ (0 ≤ m ∧ m + (r.l.length + r.b.length : Nat) ≤ n ∧ Small r n)) ∧ Below w.heap.size w w' := by
  obtain ⟨hk, hd, hl, hlk, hb, hbk⟩ := hs
  have hk2 := hk
  have hd2 := hd
  unfold maxLen at hk2 hd2
  have HD := Lib.hid (fun W (m : Int) (a0 : 0 ≤ m) (a1 : m ≤ 1048576) (hW : Below w.heap.size w W) => Dep.szDepS_any p.A r.l p.ca m W ((h.1.below hW (Nat.le_refl _)).more hW.size) hl hlk a0 a1)
  have HS := Lib.hid (fun W (m : Int) (a0 : 0 ≤ m) (a1 : m ≤ 1048576) (hW : Below w.heap.size w W) => Str.szStringS_any p.B r.b p.cb m W ((h.2.below hW (Nat.le_refl _)).more hW.size) hb hbk a0 a1)
  have B1 := Lib.hid ((Below.refl w.heap.size w).alloc (Nat.le_refl _) (.cells (cellsV r p) 68))
  have R1 := Lib.hid (Blk.new w 68 (cellsV r p))
  clear h
  unfold Dep.slV at HD
  unfold Str.slV at HS
  unfold recV
  by_cases c1 : n < r.k.size
  · go_enter Try.func42, Try.ntmps42
    go_wp2_with fail
    go_ret
    exact ⟨-1, rfl, .inl rfl, B1.out⟩
  by_cases c2 : n - r.k.size < r.d.size
  · go_enter Try.func42, Try.ntmps42
    go_wp2_with fail
    go_ret
    exact ⟨-1, rfl, .inl rfl, B1.out⟩
  have e1 : ¬ n - (r.k.size : Int) - r.d.size < 0 := by omega
  go_enter Try.func42, Try.ntmps42
  go_wp2_with fail
  refine (HD.out _ _ (by omega) (by omega) B1.out).mono ?_
  rintro x w1 ⟨m1, rfl, hm1, hb1⟩
  have B2 := Lib.hid (B1.out.trans (hb1.mono B1.out.size))
  have R2 := Lib.hid (R1.out.on hb1)
  clear hb1
  rcases hm1 with rfl | ⟨a0, a1, a2, a3⟩
  · go_wp2_with fail
    go_ret
    exact ⟨-1, rfl, .inl rfl, B2.out⟩
  have a00 : ¬ m1 < 0 := by omega
  obtain ⟨q0, q1, q2, q3, q4, q5, q6, q7⟩ := cells8 R2.out
  go_wp2_with fail
  refine (HS.out _ _ a0 (by omega) B2.out).mono ?_
  rintro x w2 ⟨m2, rfl, hm2, rfl⟩
  rcases hm2 with rfl | ⟨b0, b1, b2, b3⟩
  · go_wp2_with fail
    go_ret
    exact ⟨-1, rfl, .inl rfl, B2.out⟩
  have b00 : ¬ m2 < 0 := by omega
  have HF := Lib.hid (show 0 ≤ m2 ∧ m2 + (r.l.length + r.b.length : Nat) ≤ n ∧ Small r n from ⟨b0, by omega, by omega, by omega, by omega, fun d hd => by have := a3 d hd; omega, by omega, fun x hx => by have := b3 x hx; omega⟩)
  go_wp2_with fail
  go_ret
  exact ⟨m2, rfl, .inr HF.out, B2.out⟩

/-- A zero record's cells. -/
abbrev zeroV : Array Value := #[.string ⟨#[]⟩, .int .i64 0, .int .i64 0, .int .i64 0, .string ⟨#[]⟩, .bool false, .slice none 0 0, .slice none 0 0]

set_option maxHeartbeats 2000000 in
theorem toRec_any (r : R) (p : P) (w : World) (h : Lies w w.heap.size r p) (hl : r.l.length ≤ 1048576) (hb : r.b.length ≤ 1048576) :
    Calls Try.prog 45 #[recV r p] w fun x w' => ∃ p', x = .returned (recV r p') ∧ Held w' r p' w.heap.size w'.heap.size ∧ p'.ca = r.l.length ∧ p'.cb = r.b.length ∧ Below w.heap.size w w' := by
  have HD := Lib.hid (fun W (hW : Below w.heap.size w W) => Dep.toDepS_any p.A r.l p.ca W ((h.1.below hW (Nat.le_refl _)).more hW.size) hl)
  have HS := Lib.hid (fun W (hW : Below w.heap.size w W) => Str.toStringS_any p.B r.b p.cb W ((h.2.below hW (Nat.le_refl _)).more hW.size) hb)
  have B0 := (((Below.refl w.heap.size w).alloc (Nat.le_refl _) (.cells (cellsV r p) 68)).alloc (by simp) (.cells zeroV 61)).alloc (by simp; omega) (.cells #[.string r.k, .int .i64 0, .int .i64 0, .int .i64 0, .string ⟨#[]⟩, .bool false, .slice none 0 0, .slice none 0 0] 61)
  have X0 := ((Blk.new w 68 (cellsV r p)).alloc (.cells zeroV 61)).alloc (.cells #[.string r.k, .int .i64 0, .int .i64 0, .int .i64 0, .string ⟨#[]⟩, .bool false, .slice none 0 0, .slice none 0 0] 61)
  have Y0 := (Blk.new (w.alloc (.cells (cellsV r p) 68)) 61 zeroV).alloc (.cells #[.string r.k, .int .i64 0, .int .i64 0, .int .i64 0, .string ⟨#[]⟩, .bool false, .slice none 0 0, .slice none 0 0] 61)
  have Z0 := Blk.new ((w.alloc (.cells (cellsV r p) 68)).alloc (.cells zeroV 61)) 61 #[.string r.k, .int .i64 0, .int .i64 0, .int .i64 0, .string ⟨#[]⟩, .bool false, .slice none 0 0, .slice none 0 0]
  simp only [World.size_alloc] at Y0 Z0
  have HB0 := Lib.hid B0
  have HX0 := Lib.hid X0
  have HY0 := Lib.hid Y0
  have HZ0 := Lib.hid Z0
  clear h B0 X0 Y0 Z0
  unfold Dep.slV at HD
  unfold Str.slV at HS
  unfold recV
  go_enter Try.func45, Try.ntmps45
  go_wp2_with fail
  refine (Id.toId_any r.i.c r.i.s r.i.e _).mono ?_
  rintro x w1 ⟨rfl, hb1⟩
  unfold Id.idV
  have B1 := Lib.hid (HB0.out.trans (hb1.mono HB0.out.size))
  have X1 := Lib.hid (HX0.out.on hb1)
  have Y1 := Lib.hid (HY0.out.on hb1)
  have Z1 := Lib.hid (HZ0.out.on hb1)
  clear hb1 HB0 HX0 HY0 HZ0
  obtain ⟨x0, x1, x2, x3, x4, x5, x6, x7⟩ := cells8 X1.out
  have z1 : w1.cell? ⟨w.heap.size + 1 + 1, 1, none⟩ = some (.int .i64 0) := Z1.out.cell 1
  have z2 : w1.cell? ⟨w.heap.size + 1 + 1, 2, none⟩ = some (.int .i64 0) := Z1.out.cell 2
  have z3 : w1.cell? ⟨w.heap.size + 1 + 1, 3, none⟩ = some (.int .i64 0) := Z1.out.cell 3
  have z4 : w1.cell? ⟨w.heap.size + 1 + 1, 4, none⟩ = some (.string ⟨#[]⟩) := Z1.out.cell 4
  have z5 : w1.cell? ⟨w.heap.size + 1 + 1, 5, none⟩ = some (.bool false) := Z1.out.cell 5
  have g1 := Z1.out.free 1
  have g2 := Z1.out.free 2
  have g3 := Z1.out.free 3
  have g4 := Z1.out.free 4
  have g5 := Z1.out.free 5
  have T1 := (((((Touch.refl (w.heap.size + 1 + 1) w1).set 1 (.int .i64 r.i.c)).set 2 (.int .i64 r.i.s)).set 3 (.int .i64 r.i.e)).set 4 (.string r.d)).set 5 (.bool r.g)
  have HB2 := Lib.hid (T1.below B1.out (by omega))
  have HX2 := Lib.hid (T1.blk X1.out (by omega))
  have HY2 := Lib.hid (T1.blk Y1.out (by omega))
  have HZ2 := Lib.hid (((((Z1.out.set 1 (.int .i64 r.i.c) rfl).set 2 (.int .i64 r.i.s) rfl).set 3 (.int .i64 r.i.e) rfl).set 4 (.string r.d) rfl).set 5 (.bool r.g) rfl)
  have hsz1 := T1.size
  clear T1 B1 X1 Y1 Z1
  go_wp2_with fail
  refine (HD.out _ HB2.out).mono ?_
  rintro x w2 ⟨gd, rfl, hgd, od, hb2⟩
  rw [hsz1] at hgd
  have hgd2 := HZ2.out.lt
  rw [hsz1] at hgd2
  have B3 := Lib.hid (HB2.out.trans (hb2.mono HB2.out.size))
  have X3 := Lib.hid (HX2.out.on hb2)
  have Y3 := Lib.hid (HY2.out.on hb2)
  have Z3 := Lib.hid (HZ2.out.on hb2)
  have D3 := Lib.hid (show Dep.Held w2 (some ⟨gd, 0, none⟩) r.l (w.heap.size + 1 + 1 + 1) w2.heap.size from Dep.Held.of_row od (Nat.le_refl _) (by omega))
  clear hb2 od HB2 HX2 HY2 HZ2 hsz1 x0 x1 x2 x3 x4 x5 x6 x7 z1 z2 z3 z4 z5 g1 g2 g3 g4 g5 hgd hgd2
  obtain ⟨x0, x1, x2, x3, x4, x5, x6, x7⟩ := cells8 X3.out
  have z6 : w2.cell? ⟨w.heap.size + 1 + 1, 6, none⟩ = some (.slice none 0 0) := Z3.out.cell 6
  have g6 := Z3.out.free 6
  have T3 := (Touch.refl (w.heap.size + 1 + 1) w2).set 6 (.slice (some ⟨gd, 0, none⟩) r.l.length r.l.length)
  have HB4 := Lib.hid (T3.below B3.out (by omega))
  have HX4 := Lib.hid (T3.blk X3.out (by omega))
  have HY4 := Lib.hid (T3.blk Y3.out (by omega))
  have HZ4 := Lib.hid (Z3.out.set 6 (.slice (some ⟨gd, 0, none⟩) r.l.length r.l.length) rfl)
  have HD4 := Lib.hid (D3.out.keep fun k h1 _ _ => T3.block k (by omega))
  have hsz3 := T3.size
  clear T3 B3 X3 Y3 Z3 D3
  go_wp2_with fail
  refine (HS.out _ HB4.out).mono ?_
  rintro x w3 ⟨gs, rfl, hgs, os, hb4⟩
  rw [hsz3] at hgs
  have hgs2 := HZ4.out.lt
  rw [hsz3] at hgs2
  have B5 := HB4.out.trans (hb4.mono HB4.out.size)
  have Y5 := HY4.out.on hb4
  have Z5 := HZ4.out.on hb4
  have hs3 : w2.heap.size ≤ w3.heap.size := by have := hb4.size; rw [hsz3] at this; exact this
  have D5 := HD4.out.step hb4 (.inr (Nat.le_refl _))
  have S5 := show Str.Held w3 (some ⟨gs, 0, none⟩) r.b (w.heap.size + 1 + 1 + 1) w3.heap.size from Str.Held.of_row os (Nat.le_refl _) (by omega)
  have z7 : w3.cell? ⟨w.heap.size + 1 + 1, 7, none⟩ = some (.slice none 0 0) := Z5.cell 7
  have g7 := Z5.free 7
  obtain ⟨p', hp⟩ : ∃ p' : P, p' = ⟨some ⟨gd, 0, none⟩, r.l.length, some ⟨gs, 0, none⟩, r.b.length⟩ := ⟨_, rfl⟩
  have Z6 := Z5.set 7 (.slice (some ⟨gs, 0, none⟩) r.b.length r.b.length) rfl
  have D6 := Lib.hid D5
  have S6 := Lib.hid S5
  have HB6 := Lib.hid B5
  have HY6 := Lib.hid Y5
  have HZ6 := Lib.hid Z6
  have hz6 := Z5.free 0
  have r0 := Y5.free 0
  have r1 := Y5.free 1
  have r2 := Y5.free 2
  have r3 := Y5.free 3
  have r4 := Y5.free 4
  have r5 := Y5.free 5
  have r6 := Y5.free 6
  have r7 := Y5.free 7
  have y0 : w3.cell? ⟨w.heap.size + 1 + 1, 0, none⟩ = some (.string r.k) := Z5.cell 0
  have y1 : w3.cell? ⟨w.heap.size + 1 + 1, 1, none⟩ = some (.int .i64 r.i.c) := Z5.cell 1
  have y2 : w3.cell? ⟨w.heap.size + 1 + 1, 2, none⟩ = some (.int .i64 r.i.s) := Z5.cell 2
  have y3 : w3.cell? ⟨w.heap.size + 1 + 1, 3, none⟩ = some (.int .i64 r.i.e) := Z5.cell 3
  have y4 : w3.cell? ⟨w.heap.size + 1 + 1, 4, none⟩ = some (.string r.d) := Z5.cell 4
  have y5 : w3.cell? ⟨w.heap.size + 1 + 1, 5, none⟩ = some (.bool r.g) := Z5.cell 5
  have y6 : w3.cell? ⟨w.heap.size + 1 + 1, 6, none⟩ = some (.slice (some ⟨gd, 0, none⟩) r.l.length r.l.length) := Z5.cell 6
  obtain ⟨c0, c1, c2, c3, c4, c5, c6, c7⟩ := (show C8 w3 (w.heap.size + 1) ⟨⟨#[]⟩, Dep.zero, ⟨#[]⟩, false, [], []⟩ ⟨none, 0, none, 0⟩ from cells8 (p := ⟨none, 0, none, 0⟩) (r := ⟨⟨#[]⟩, Dep.zero, ⟨#[]⟩, false, [], []⟩) Y5)
  clear hb4 os B5 Y5 Z5 D5 S5 Z6 HB4 HX4 HY4 HZ4 HD4 hsz3 hgs hgs2
  go_wp2_with fail
  refine bodyPost_ret (v := recV r p') (by simp [results, Try.results45, go_sem, recV, hp, c0, c1, c2, c3, c4, c5, c6, c7, y0, y1, y2, y3, y4, y5, y6]) rfl ?_
  have TA := (Touch.refl (w.heap.size + 1 + 1) w3).set 7 (.slice (some ⟨gs, 0, none⟩) r.b.length r.b.length)
  have TB := ((((((((Touch.refl (w.heap.size + 1) (w3.setCell ⟨w.heap.size + 1 + 1, 7, none⟩ (.slice (some ⟨gs, 0, none⟩) r.b.length r.b.length))).set 0 (.string r.k)).set 1 (.int .i64 r.i.c)).set 2 (.int .i64 r.i.s)).set 3 (.int .i64 r.i.e)).set 4 (.string r.d)).set 5 (.bool r.g)).set 6 (.slice (some ⟨gd, 0, none⟩) r.l.length r.l.length)).set 7 (.slice (some ⟨gs, 0, none⟩) r.b.length r.b.length)
  have hh : Held w3 r p' (w.heap.size + 1 + 1 + 1) w3.heap.size := by
    rw [hp]
    exact ⟨D6.out.wide (Nat.le_refl _) hs3, S6.out⟩
  refine ⟨p', rfl, (hh.above ((TA.above (by omega)).trans (TB.above (by omega)))).wide (by omega) ?_, by rw [hp], by rw [hp], TB.below (TA.below HB6.out (by omega)) (by omega)⟩
  rw [TB.size, TA.size]
  exact Nat.le_refl _

set_option maxHeartbeats 2000000 in
theorem eqRec_same (r : R) (p q : P) (w : World) (hp : Lies w w.heap.size r p) (hq : Lies w w.heap.size r q) (hl : r.l.length ≤ maxLen) (hb : r.b.length ≤ maxLen) :
    Calls Try.prog 49 #[recV r p, recV r q] w fun x w' => x = .returned (.bool true) ∧ Below w.heap.size w w' := by
  have HD := Lib.hid (fun W (hW : Below w.heap.size w W) => Dep.eqDepS_same p.A q.A r.l p.ca q.ca W ((hp.1.below hW (Nat.le_refl _)).more hW.size) ((hq.1.below hW (Nat.le_refl _)).more hW.size) hl)
  have HS := Lib.hid (fun W (hW : Below w.heap.size w W) => Str.eqStrings_any p.B q.B r.b r.b p.cb q.cb W ((hp.2.below hW (Nat.le_refl _)).more hW.size) ((hq.2.below hW (Nat.le_refl _)).more hW.size) hb hb)
  rw [Str.alikeB_true rfl] at HS
  have B0 := Lib.hid (((Below.refl w.heap.size w).alloc (Nat.le_refl _) (.cells (cellsV r p) 61)).alloc (by simp) (.cells (cellsV r q) 61))
  have X0 := Lib.hid ((Blk.new w 61 (cellsV r p)).alloc (.cells (cellsV r q) 61))
  have Y0 := Blk.new (w.alloc (.cells (cellsV r p) 61)) 61 (cellsV r q)
  simp only [World.size_alloc] at Y0
  have HY0 := Lib.hid Y0
  clear hp hq Y0
  unfold Dep.slV at HD
  unfold Str.slV at HS
  unfold recV
  have e0 : (r.k.toList == r.k.toList) = true := beq_self_eq_true _
  have e1 : (r.d.toList == r.d.toList) = true := beq_self_eq_true _
  have e2 : (r.g == r.g) = true := beq_self_eq_true _
  have e3 : (r.g != r.g) = false := by simp
  go_enter Try.func49, Try.ntmps49
  go_wp2_with fail
  refine (Id.eqId_same r.i.c r.i.s r.i.e _).mono ?_
  rintro x w1 ⟨rfl, hb1⟩
  have B1 := Lib.hid (B0.out.trans (hb1.mono B0.out.size))
  have X1 := Lib.hid (X0.out.on hb1)
  have Y1 := Lib.hid (HY0.out.on hb1)
  clear hb1 B0 X0 HY0
  obtain ⟨x0, x1, x2, x3, x4, x5, x6, x7⟩ := cells8 X1.out
  obtain ⟨y0, y1, y2, y3, y4, y5, y6, y7⟩ := cells8 Y1.out
  go_wp2_with fail
  refine (HD.out _ B1.out).mono ?_
  rintro x w2 ⟨rfl, hb2⟩
  have B2 := Lib.hid (B1.out.trans (hb2.mono B1.out.size))
  have X2 := Lib.hid (X1.out.on hb2)
  have Y2 := Lib.hid (Y1.out.on hb2)
  clear hb2 B1 X1 Y1 x0 x1 x2 x3 x4 x5 x6 x7 y0 y1 y2 y3 y4 y5 y6 y7
  obtain ⟨x0, x1, x2, x3, x4, x5, x6, x7⟩ := cells8 X2.out
  obtain ⟨y0, y1, y2, y3, y4, y5, y6, y7⟩ := cells8 Y2.out
  go_wp2_with fail
  refine (HS.out _ B2.out).mono ?_
  rintro x w3 ⟨rfl, hb3⟩
  have B3 := Lib.hid (B2.out.trans (hb3.mono B2.out.size))
  clear hb3
  go_wp2_with fail
  go_ret
  exact ⟨rfl, B3.out⟩
end Go.Proofs.Ytegnjbdgeibhfaa.Rec
