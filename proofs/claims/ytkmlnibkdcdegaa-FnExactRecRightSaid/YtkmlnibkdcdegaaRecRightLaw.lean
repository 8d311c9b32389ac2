/-
  FnExactRecRight answers true at every record.
-/
import Derived.Test.YtkmlnibkdcdegaaRecIRight
namespace Go.Proofs.Ytkmlnibkdcdegaa.Rec
open Go.ChangeShapes Go.WideShapes Go.ChangeAt Go.RowKit
open Dep (D I)
set_option linter.unusedVariables false
set_option maxRecDepth 100000
set_option linter.unusedSimpArgs false

set_option maxHeartbeats 8000000 in
theorem lawRight_any (r : R) (p : P) (w : World) (h : Lies w w.heap.size r p ∧ Sound r) :
    Calls Try.prog 5 #[recV r p] w fun e w' => e = .returned (.bool true) ∧ Below w.heap.size w w' := by
  obtain ⟨h, hs⟩ := h
  have H := Lib.hid h
  have HS := Lib.hid hs
  have B0 := (Below.refl w.heap.size w).alloc (Nat.le_refl _) (.cells (cellsV r p) 50)
  have X0 := Blk.new w 50 (cellsV r p)
  have bw := Lib.hid B0
  have b2 := Lib.hid X0
  clear h hs B0 X0
  unfold recV
  go_enter Try.func5, Try.ntmps5
  go_wp2_with fail
  generalize World.alloc w _ = v0 at bw b2 ⊢
  have sz0 := Lib.hid (show w.heap.size ≤ v0.heap.size from bw.out.size)
  refine (szRec_any r p 1048576 _ (H.out.step bw.out (Nat.le_refl _) bw.out.size) HS.out (by omega) (by omega)).mono ?_
  rintro e v1 ⟨m1, rfl, hm1, hb⟩
  have bw := Lib.hid (bw.out.trans (hb.mono bw.out.size))
  have b2 := Lib.hid (b2.out.on hb)
  have sz1 := Lib.hid (show v0.heap.size ≤ v1.heap.size from hb.size)
  clear hb
  rcases hm1 with rfl | ⟨m10, m11, sm1⟩
  · go_wp2_with fail
    go_ret
    exact ⟨rfl, bw.out⟩
  have m100 : ¬ m1 < 0 := by omega
  have hl1 : r.l.length ≤ 1048576 := by have := sm1.2.2.1; omega
  have hn1 : r.b.length ≤ 1048576 := by have := sm1.2.2.2.2.1; omega
  clear sm1
  obtain ⟨t, ht⟩ : ∃ t, recB r = t := ⟨_, rfl⟩
  have HT := Lib.hid ht
  clear ht
  have e0 : (t == t) = true := beq_self_eq_true t
  have e1 : (t != t) = false := by simp
  obtain ⟨b2c0, b2c1, b2c2, b2c3, b2c4, b2c5, b2c6, b2c7⟩ := cells8 b2.out
  go_wp2_with fail
  clear b2c0 b2c1 b2c2 b2c3 b2c4 b2c5 b2c6 b2c7
  refine (toRec_any r p _ (H.out.step bw.out (Nat.le_refl _) bw.out.size) hl1 hn1).mono ?_
  rintro e v2 ⟨x0p, rfl, x0h, -, -, hb⟩
  unfold recV
  have bw := Lib.hid (bw.out.trans (hb.mono bw.out.size))
  have b2 := Lib.hid (b2.out.on hb)
  have sz2 := Lib.hid (show v1.heap.size ≤ v2.heap.size from hb.size)
  have x0 := Lib.hid (show Held v2 r x0p v1.heap.size v2.heap.size from x0h)
  clear hb
  go_wp2_with fail
  refine (specRec_any r x0p _ (x0.out.lies (by have sz0_ := sz0.out; have sz1_ := sz1.out; have sz2_ := sz2.out; omega)) HS.out).mono ?_
  rintro e v3 ⟨rfl, hb⟩
  rw [HT.out]
  have bw := Lib.hid (bw.out.trans (hb.mono bw.out.size))
  have b2 := Lib.hid (b2.out.on hb)
  have x0 := Lib.hid (x0.out.step hb (.inr (Nat.le_refl _)))
  have sz3 := Lib.hid (show v2.heap.size ≤ v3.heap.size from hb.size)
  clear hb
  clear x0
  obtain ⟨b2c0, b2c1, b2c2, b2c3, b2c4, b2c5, b2c6, b2c7⟩ := cells8 b2.out
  go_wp2_with fail
  clear b2c0 b2c1 b2c2 b2c3 b2c4 b2c5 b2c6 b2c7
  refine (toRec_any r p _ (H.out.step bw.out (Nat.le_refl _) bw.out.size) hl1 hn1).mono ?_
  rintro e v4 ⟨y0p, rfl, y0h, -, -, hb⟩
  unfold recV
  have bw := Lib.hid (bw.out.trans (hb.mono bw.out.size))
  have b2 := Lib.hid (b2.out.on hb)
  have sz4 := Lib.hid (show v3.heap.size ≤ v4.heap.size from hb.size)
  have y0 := Lib.hid (show Held v4 r y0p v3.heap.size v4.heap.size from y0h)
  clear hb
  obtain ⟨b2c0, b2c1, b2c2, b2c3, b2c4, b2c5, b2c6, b2c7⟩ := cells8 (b2.out.alloc (Obj.cells (cellsV r y0p) 54))
  go_wp2_with fail
  clear b2c0 b2c1 b2c2 b2c3 b2c4 b2c5 b2c6 b2c7
  have bw := Lib.hid (bw.out.alloc bw.out.size (Obj.cells (cellsV r y0p) 54))
  have b2 := Lib.hid (b2.out.alloc (Obj.cells (cellsV r y0p) 54))
  have y0 := Lib.hid (y0.out.step ((Below.refl _ v4).alloc (Nat.le_refl _) (Obj.cells (cellsV r y0p) 54)) (.inr (Nat.le_refl _)))
  have b5 := Lib.hid (show Blk (World.alloc v4 (Obj.cells (cellsV r y0p) 54)) v4.heap.size 54 (cellsV r y0p) from Blk.new v4 54 (cellsV r y0p))
  have sz5 := Lib.hid (show v4.heap.size + 1 = (World.alloc v4 (Obj.cells (cellsV r y0p) 54)).heap.size by simp)
  generalize World.alloc v4 _ = v5 at bw b2 y0 b5 sz5 ⊢
  refine (implRec_any r y0p _ (y0.out.lies (by have sz0_ := sz0.out; have sz1_ := sz1.out; have sz2_ := sz2.out; have sz3_ := sz3.out; have sz4_ := sz4.out; have sz5_ := sz5.out; omega)) HS.out).mono ?_
  rintro e v6 ⟨rfl, hb⟩
  rw [HT.out]
  have bw := Lib.hid (bw.out.trans (hb.mono bw.out.size))
  have b2 := Lib.hid (b2.out.on hb)
  have y0 := Lib.hid (y0.out.step hb (.inr (Nat.le_refl _)))
  have b5 := Lib.hid (b5.out.on hb)
  have sz6 := Lib.hid (show v5.heap.size ≤ v6.heap.size from hb.size)
  clear hb
  go_wp2_with fail
  refine wp_region_held_drew (S := (fun W => (Below w.heap.size w W) ∧ (Blk W w.heap.size 50 (cellsV r p)) ∧ (Held W r y0p v3.heap.size v4.heap.size) ∧ (Blk W v4.heap.size 54 (cellsV r y0p)))) (by kernel_rfl) ?_ (fun hHeld => ?_)
  · exact ⟨bw.out.drew, b2.out, y0.out, b5.out⟩
  refine wpAnyH_take (i := 0) (v := ?_) rfl (by kernel_rfl) (by kernel_rfl) (by kernel_rfl) (fun _ _ _ h => h) (Or.inl ⟨by rfl, ?_⟩) hHeld ?_
  rotate_left
  · intro W hSw
    obtain ⟨q_bw, q_b2, q_y0, q_b5⟩ := hSw
    obtain ⟨hb20, hb21, hb22, hb23, hb24, hb25, hb26, hb27⟩ := cells8 q_b2
    obtain ⟨hb50, hb51, hb52, hb53, hb54, hb55, hb56, hb57⟩ := cells8 q_b5
    go_simp
    try with_reducible rfl
  try simp only [Act.put, List.setIfInBounds_toArray, List.set_cons_zero, List.set_cons_succ, List.getElem_toArray, List.getElem_cons_zero]
  refine wpAnyH_take (i := 1) (v := ?_) rfl (by kernel_rfl) (by kernel_rfl) (by kernel_rfl) (fun _ _ _ h => h) (Or.inl ⟨by rfl, ?_⟩) hHeld ?_
  rotate_left
  · intro W hSw
    obtain ⟨q_bw, q_b2, q_y0, q_b5⟩ := hSw
    obtain ⟨hb20, hb21, hb22, hb23, hb24, hb25, hb26, hb27⟩ := cells8 q_b2
    obtain ⟨hb50, hb51, hb52, hb53, hb54, hb55, hb56, hb57⟩ := cells8 q_b5
    go_simp
    try with_reducible rfl
  try simp only [Act.put, List.setIfInBounds_toArray, List.set_cons_zero, List.set_cons_succ, List.getElem_toArray, List.getElem_cons_succ, List.getElem_cons_zero]
  refine wpAnyH_ready (rs := [2]) (by kernel_rfl) (by simp) ?_
  refine AllReadyH.cons rfl (fun K hK => ?_) AllReadyH.nil
  go_simp
  refine (toRec_any r p _ (H.out.step hHeld.1 (Nat.le_refl _) hHeld.1.size) hl1 hn1).mono ?_
  rintro e v7 ⟨t0p, rfl, t0h, -, -, hb⟩
  have sz7 := Lib.hid (show v6.heap.size ≤ v7.heap.size from hb.size)
  unfold recV
  have t0 := Lib.hid (show Held v7 r t0p v6.heap.size v7.heap.size from t0h)
  clear t0h
  refine hK.out _ _ ?_ (fun hHeld => ?_)
  · first | exact ⟨hHeld.1.trans (hb.mono hHeld.1.size), hHeld.2.1.on hb, hHeld.2.2.1.step hb (.inr (Nat.le_refl _)), hHeld.2.2.2.on hb⟩ | assumption
  clear hK K
  try simp only [Act.put, List.setIfInBounds_toArray, List.set_cons_zero, List.set_cons_succ, List.getElem_toArray, List.getElem_cons_succ, List.getElem_cons_zero]
  refine wpAnyH_ready (rs := [3]) (by kernel_rfl) (by simp) ?_
  refine AllReadyH.cons rfl (fun K hK => ?_) AllReadyH.nil
  go_simp
  refine (eqRec_same r y0p t0p _ (hHeld.2.2.1.lies (by have sz0_ := sz0.out; have sz1_ := sz1.out; have sz2_ := sz2.out; have sz3_ := sz3.out; have sz4_ := sz4.out; have sz5_ := sz5.out; have sz6_ := sz6.out; have sz7_ := sz7.out; omega)) (t0.out.lies (by have sz0_ := sz0.out; have sz1_ := sz1.out; have sz2_ := sz2.out; have sz3_ := sz3.out; have sz4_ := sz4.out; have sz5_ := sz5.out; have sz6_ := sz6.out; have sz7_ := sz7.out; omega)) (by unfold maxLen; omega) (by unfold maxLen; omega)).mono ?_
  rintro e v8 ⟨rfl, hb⟩
  have sz8 := Lib.hid (show v7.heap.size ≤ v8.heap.size from hb.size)
  have t0 := Lib.hid (t0.out.step hb (.inr (Nat.le_refl _)))
  refine hK.out _ _ ?_ (fun hHeld => ?_)
  · first | exact ⟨hHeld.1.trans (hb.mono hHeld.1.size), hHeld.2.1.on hb, hHeld.2.2.1.step hb (.inr (Nat.le_refl _)), hHeld.2.2.2.on hb⟩ | assumption
  clear hK K
  try simp only [Act.put, List.setIfInBounds_toArray, List.set_cons_zero, List.set_cons_succ, List.getElem_toArray, List.getElem_cons_succ, List.getElem_cons_zero]
  refine wpAnyH_take (i := 4) (v := ?_) rfl (by kernel_rfl) (by kernel_rfl) (by kernel_rfl) (fun _ _ _ h => h) (Or.inl ⟨by rfl, ?_⟩) hHeld ?_
  rotate_left
  · intro W hSw
    obtain ⟨q_bw, q_b2, q_y0, q_b5⟩ := hSw
    obtain ⟨hb20, hb21, hb22, hb23, hb24, hb25, hb26, hb27⟩ := cells8 q_b2
    obtain ⟨hb50, hb51, hb52, hb53, hb54, hb55, hb56, hb57⟩ := cells8 q_b5
    go_simp
    try with_reducible rfl
  try simp only [Act.put, List.setIfInBounds_toArray, List.set_cons_zero, List.set_cons_succ, List.getElem_toArray, List.getElem_cons_succ, List.getElem_cons_zero]
  refine wpAnyH_done (by kernel_rfl) ?_ _
  obtain ⟨bw_, b2_, y0_, b5_⟩ := hHeld
  have bw := Lib.hid bw_
  have b2 := Lib.hid b2_
  have y0 := Lib.hid y0_
  have b5 := Lib.hid b5_
  clear bw_ b2_ y0_ b5_
  clear t0
  go_wp2_with fail
  go_ret
  exact ⟨rfl, bw.out⟩
end Go.Proofs.Ytkmlnibkdcdegaa.Rec
