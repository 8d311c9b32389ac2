/-
  A record's answer: eqRecOut, and the law's own marks on it.
-/
import Derived.Test.YtkmlnibkdcdegaaGreatDoorRecIRead
import Derived.Test.YtkmlnibkdcdegaaGreatDoorRecMark
namespace Go.Proofs.YtkmlnibkdcdegaaGreatDoor.Rec
open Go.ChangeShapes Go.WideShapes Go.ChangeAt Go.RowKit
open Dep (D I)
set_option linter.unusedVariables false
set_option maxRecDepth 100000
set_option linter.unusedSimpArgs false

abbrev outC (r : R) (p : P) (c : Int) : Array Value := #[.string r.k, .int .i64 r.i.c, .int .i64 r.i.s, .int .i64 r.i.e, .string r.d, .bool r.g, .slice p.A r.l.length p.ca, .slice p.B r.b.length p.cb, .int .i64 c]
theorem cells9 {W : World} {b t : Nat} {r : R} {p : P} {c : Int} (h : Blk W b t (outC r p c)) : W.cell? ⟨b, 0, none⟩ = some (.string r.k) ∧ W.cell? ⟨b, 1, none⟩ = some (.int .i64 r.i.c) ∧ W.cell? ⟨b, 2, none⟩ = some (.int .i64 r.i.s) ∧ W.cell? ⟨b, 3, none⟩ = some (.int .i64 r.i.e) ∧ W.cell? ⟨b, 4, none⟩ = some (.string r.d) ∧ W.cell? ⟨b, 5, none⟩ = some (.bool r.g) ∧ W.cell? ⟨b, 6, none⟩ = some (.slice p.A r.l.length p.ca) ∧ W.cell? ⟨b, 7, none⟩ = some (.slice p.B r.b.length p.cb) ∧ W.cell? ⟨b, 8, none⟩ = some (.int .i64 c) :=
  ⟨h.cell 0, h.cell 1, h.cell 2, h.cell 3, h.cell 4, h.cell 5, h.cell 6, h.cell 7, h.cell 8⟩
theorem rdR_len (s : ByteArray) : (rdR s).l.length ≤ 6 ∧ (rdR s).b.length ≤ 4 := by
  unfold rdR
  split
  · unfold rR
    simp only
    rw [(rDs_place _ _ (rN_place _ _) _).1, (rKs_place _ _ (rN_place _ _) _).1]
    exact ⟨many_le _ _, many_le _ _⟩
  · exact ⟨Nat.zero_le _, Nat.zero_le _⟩

set_option maxHeartbeats 2000000 in
theorem eqRecOut_same (r : R) (p q : P) (c : Int) (w : World) (hp : Lies w w.heap.size r p) (hq : Lies w w.heap.size r q) (hl : r.l.length ≤ maxLen) (hb : r.b.length ≤ maxLen) :
    Calls Tryz.prog 6 #[outR r p c, outR r q c] w fun e w' => e = .returned (.bool true) ∧ Below w.heap.size w w' := by
  have hcc : (c == c) = true := beq_self_eq_true c
  have hcn : (c != c) = false := by simp
  have B1 := Lib.hid (((Below.refl w.heap.size w).alloc (Nat.le_refl _) (.cells (outC r p c) 29)).alloc (by simp) (.cells (outC r q c) 29))
  have X1 := Lib.hid ((Blk.new w 29 (outC r p c)).alloc (.cells (outC r q c) 29))
  have hy := Blk.new (w.alloc (.cells (outC r p c) 29)) 29 (outC r q c)
  simp only [World.size_alloc] at hy
  have Y1 := Lib.hid hy
  have HE := Lib.hid (fun W (hW : Below w.heap.size w W) => eqRec_same r p q W (hp.step hW (Nat.le_refl _) hW.size) (hq.step hW (Nat.le_refl _) hW.size) hl hb)
  clear hp hq hy
  unfold recV at HE
  unfold outR
  go_enter Tryz.func6, Tryz.ntmps6
  go_wp2_with fail
  refine (HE.out _ B1.out).mono ?_
  rintro e w1 ⟨rfl, hb1⟩
  have B2 := Lib.hid (B1.out.trans (hb1.mono B1.out.size))
  obtain ⟨x0, x1, x2, x3, x4, x5, x6, x7, x8⟩ := cells9 (X1.out.on hb1)
  obtain ⟨y0, y1, y2, y3, y4, y5, y6, y7, y8⟩ := cells9 (Y1.out.on hb1)
  clear hb1 B1 X1 Y1
  go_wp2_with fail
  go_ret
  exact ⟨rfl, B2.out⟩

theorem markRecOut_any (r : R) (p : P) (k lo hi : Nat) (c : Int) (w : World) (h : Held w r p lo hi) (hhi : hi ≤ w.heap.size) (hl : r.l.length ≤ 1048576) (hb : r.b.length ≤ 1048576) (hk : k ≤ 5000000) :
    Calls Tryz.prog 7 #[outR r p c, .int .i64 k] w fun e w' => e = .returned (.int .i64 ((k + 4 * r.l.length + r.b.length : Nat) : Int)) ∧ Dep.Held w' p.A (Dep.marks k r.l.length) lo hi ∧ Str.Held w' p.B (Str.marks (k + 4 * r.l.length) r.b.length) lo hi ∧ Marked w w' lo hi := by
  have M0 := Lib.hid (Marked.ofAlloc w (.cells (outC r p c) 29) lo hi)
  have HM := Lib.hid (markRec_any r p k lo hi (w.alloc (.cells (outC r p c) 29)) (h.step ((Below.refl _ w).alloc (Nat.le_refl _) _) (.inr (Nat.le_refl _))) (by simp; omega) hl hb hk)
  clear h
  unfold recV at HM
  unfold outR
  go_enter Tryz.func7, Tryz.ntmps7
  go_wp2_with fail
  refine HM.out.mono ?_
  rintro e w1 ⟨rfl, hd, hs, ht⟩
  have HD := Lib.hid hd
  have HS := Lib.hid hs
  have HT := Lib.hid (M0.out.trans ht)
  obtain ⟨z, hz⟩ : ∃ z : Nat, k + 4 * r.l.length + r.b.length = z := ⟨_, rfl⟩
  have HZ := Lib.hid hz
  rw [hz]
  clear hd hs ht hz
  go_wp2_with fail
  go_ret
  exact ⟨by rw [HZ.out]; rfl, HD.out, HS.out, HT.out⟩

set_option maxHeartbeats 2000000 in
theorem heldRec_any (r : R) (p : P) (k : Nat) (w : World) (hd : Dep.Lies w w.heap.size p.A (Dep.marks k r.l.length)) (hs : Str.Lies w w.heap.size p.B (Str.marks (k + 4 * r.l.length) r.b.length)) (hl : r.l.length ≤ 1048576) (hb : r.b.length ≤ 1048576) (hk : k ≤ 5000000) :
    Calls Tryz.prog 19 #[recV r p, .int .i64 k] w fun e w' => e = .returned (.int .i64 ((k + 4 * r.l.length + r.b.length : Nat) : Int)) ∧ Below w.heap.size w w' := by
  have B0 := Lib.hid ((Below.refl w.heap.size w).alloc (Nat.le_refl _) (.cells (cellsV r p) 27))
  have X0 := Lib.hid (Blk.new w 27 (cellsV r p))
  obtain ⟨z, hz⟩ : ∃ z : Nat, k + 4 * r.l.length = z := ⟨_, rfl⟩
  obtain ⟨z2, hz2⟩ : ∃ z2 : Nat, z + r.b.length = z2 := ⟨_, rfl⟩
  have hz3 : z ≤ 10000000 := by omega
  have HD := Lib.hid (fun W (hW : Below w.heap.size w W) => Dep.heldDepS_any p.A r.l.length p.ca k W ((hd.below hW (Nat.le_refl _)).more hW.size) hl (by omega))
  rw [hz] at hs HD ⊢
  have HS := Lib.hid (fun W (hW : Below w.heap.size w W) => Str.heldStringS_any p.B r.b.length p.cb z W ((hs.below hW (Nat.le_refl _)).more hW.size) hb hz3)
  rw [hz2] at HS ⊢
  have hn1 : ¬ ((z : Nat) : Int) < 0 := by omega
  have hn2 : ¬ ((z2 : Nat) : Int) < 0 := by omega
  clear hd hs hz hz2
  unfold recV
  go_enter Tryz.func19, Tryz.ntmps19
  go_wp2_with fail
  refine (HD.out _ B0.out).mono ?_
  rintro e w1 ⟨rfl, hb1⟩
  have B1 := Lib.hid (B0.out.trans (hb1.mono B0.out.size))
  have X1 := Lib.hid (X0.out.on hb1)
  clear hb1 B0 X0
  obtain ⟨x0, x1, x2, x3, x4, x5, x6, x7⟩ := cells8 X1.out
  go_wp2_with fail
  refine (HS.out _ B1.out).mono ?_
  rintro e w2 ⟨rfl, hb2⟩
  have B2 := Lib.hid (B1.out.trans (hb2.mono B1.out.size))
  clear hb2 B1 X1 x0 x1 x2 x3 x4 x5 x6 x7
  go_wp2_with fail
  go_ret
  exact ⟨rfl, B2.out⟩

theorem heldRecOut_any (r : R) (p : P) (k : Nat) (c : Int) (w : World) (hd : Dep.Lies w w.heap.size p.A (Dep.marks k r.l.length)) (hs : Str.Lies w w.heap.size p.B (Str.marks (k + 4 * r.l.length) r.b.length)) (hl : r.l.length ≤ 1048576) (hb : r.b.length ≤ 1048576) (hk : k ≤ 5000000) :
    Calls Tryz.prog 8 #[outR r p c, .int .i64 k] w fun e w' => e = .returned (.int .i64 ((k + 4 * r.l.length + r.b.length : Nat) : Int)) ∧ Below w.heap.size w w' := by
  have B0 := Lib.hid ((Below.refl w.heap.size w).alloc (Nat.le_refl _) (.cells (outC r p c) 29))
  have HM := Lib.hid (heldRec_any r p k _ ((hd.below B0.out (Nat.le_refl _)).more B0.out.size) ((hs.below B0.out (Nat.le_refl _)).more B0.out.size) hl hb hk)
  clear hd hs
  unfold recV at HM
  obtain ⟨z, hz⟩ : ∃ z : Nat, k + 4 * r.l.length + r.b.length = z := ⟨_, rfl⟩
  rw [hz] at HM ⊢
  have hn1 : ¬ ((z : Nat) : Int) < 0 := by omega
  clear hz
  unfold outR
  go_enter Tryz.func8, Tryz.ntmps8
  go_wp2_with fail
  refine HM.out.mono ?_
  rintro e w1 ⟨rfl, hb1⟩
  have B1 := Lib.hid (B0.out.trans (hb1.mono B0.out.size))
  clear hb1
  go_wp2_with fail
  go_ret
  exact ⟨rfl, B1.out⟩
end Go.Proofs.YtkmlnibkdcdegaaGreatDoor.Rec
