/-
  FnExactNeeds answers true at every record.
-/
import Derived.Test.YtkmlnibkdcdegaaRecINeeds
import Derived.Test.YtkmlnibkdcdegaaRecMark
namespace Go.Proofs.Ytkmlnibkdcdegaa.Rec
open Go.ChangeShapes Go.WideShapes Go.ChangeAt Go.RowKit
open Dep (D I)
set_option linter.unusedVariables false
set_option maxRecDepth 100000
set_option linter.unusedSimpArgs false

set_option maxHeartbeats 8000000 in
theorem lawNeeds_any (r : R) (p : P) (w : World) (h : Lies w w.heap.size r p ∧ Sound r) :
    Calls Try.prog 7 #[recV r p] w fun e w' => e = .returned (.bool true) ∧ Below w.heap.size w w' := by
  obtain ⟨h, hs⟩ := h
  have H := Lib.hid h
  have HS := Lib.hid hs
  have B0 := (Below.refl w.heap.size w).alloc (Nat.le_refl _) (.cells (cellsV r p) 50)
  have X0 := Blk.new w 50 (cellsV r p)
  have bw := Lib.hid B0
  have b2 := Lib.hid X0
  clear h hs B0 X0
  unfold recV
  go_enter Try.func7, Try.ntmps7
  go_wp2_with fail
  generalize World.alloc w _ = v0 at bw b2 ⊢
  have sz0 := Lib.hid (show w.heap.size ≤ v0.heap.size from bw.out.size)
  refine (szRec_any r p 1048576 _ (H.out.step bw.out (Nat.le_refl _) bw.out.size) HS.out (by omega) (by omega)).mono ?_
  rintro e v1 ⟨m1, rfl, hm1, hb⟩
  have bw := Lib.hid (bw.out.trans (hb.mono bw.out.size))
  have b2 := Lib.hid (b2.out.on hb)
  have sz1 := Lib.hid (show v0.heap.size ≤ v1.heap.size from hb.size)
  clear hb
  rcases hm1 with rfl | ⟨m10, m11, sm1⟩
  · go_wp2_with fail
    go_ret
    exact ⟨rfl, bw.out⟩
  have m100 : ¬ m1 < 0 := by omega
  have hl1 : r.l.length ≤ 1048576 := by have := sm1.2.2.1; omega
  have hn1 : r.b.length ≤ 1048576 := by have := sm1.2.2.2.2.1; omega
  clear sm1
  have hnl := needsR_len r
  obtain ⟨nr, hnr⟩ : ∃ l, needsR r = l := ⟨_, rfl⟩
  have HNR := Lib.hid hnr
  rw [hnr] at hnl
  clear hnr
  obtain ⟨b2c0, b2c1, b2c2, b2c3, b2c4, b2c5, b2c6, b2c7⟩ := cells8 b2.out
  go_wp2_with fail
  clear b2c0 b2c1 b2c2 b2c3 b2c4 b2c5 b2c6 b2c7
  refine (toRec_any r p _ (H.out.step bw.out (Nat.le_refl _) bw.out.size) hl1 hn1).mono ?_
  rintro e v2 ⟨x1p, rfl, x1h, -, -, hb⟩
  unfold recV
  have bw := Lib.hid (bw.out.trans (hb.mono bw.out.size))
  have b2 := Lib.hid (b2.out.on hb)
  have sz2 := Lib.hid (show v1.heap.size ≤ v2.heap.size from hb.size)
  have x1 := Lib.hid (show Held v2 r x1p v1.heap.size v2.heap.size from x1h)
  clear hb
  go_wp2_with fail
  refine (specNeeds_any r x1p _ (x1.out.lies (by have sz0_ := sz0.out; have sz1_ := sz1.out; have sz2_ := sz2.out; omega)) HS.out).mono ?_
  rintro e v3 hg
  rw [HNR.out] at hg
  obtain ⟨w0A, w0c, rfl, hh, hb⟩ := hg
  have bw := Lib.hid (bw.out.trans (hb.mono bw.out.size))
  have b2 := Lib.hid (b2.out.on hb)
  have x1 := Lib.hid (x1.out.step hb (.inr (Nat.le_refl _)))
  have sz3 := Lib.hid (show v2.heap.size ≤ v3.heap.size from hb.size)
  have w0 := Lib.hid (show Dep.Held v3 w0A nr v2.heap.size v3.heap.size from hh)
  clear hb
  clear hh
  clear x1
  obtain ⟨b2c0, b2c1, b2c2, b2c3, b2c4, b2c5, b2c6, b2c7⟩ := cells8 b2.out
  go_wp2_with fail
  clear b2c0 b2c1 b2c2 b2c3 b2c4 b2c5 b2c6 b2c7
  refine (toRec_any r p _ (H.out.step bw.out (Nat.le_refl _) bw.out.size) hl1 hn1).mono ?_
  rintro e v4 ⟨x0p, rfl, x0h, -, -, hb⟩
  unfold recV
  have bw := Lib.hid (bw.out.trans (hb.mono bw.out.size))
  have b2 := Lib.hid (b2.out.on hb)
  have w0 := Lib.hid (w0.out.step hb (.inr (Nat.le_refl _)))
  have sz4 := Lib.hid (show v3.heap.size ≤ v4.heap.size from hb.size)
  have x0 := Lib.hid (show Held v4 r x0p v3.heap.size v4.heap.size from x0h)
  clear hb
  obtain ⟨b2c0, b2c1, b2c2, b2c3, b2c4, b2c5, b2c6, b2c7⟩ := cells8 (b2.out.alloc (Obj.cells (cellsV r x0p) 54))
  go_wp2_with fail
  clear b2c0 b2c1 b2c2 b2c3 b2c4 b2c5 b2c6 b2c7
  have bw := Lib.hid (bw.out.alloc bw.out.size (Obj.cells (cellsV r x0p) 54))
  have b2 := Lib.hid (b2.out.alloc (Obj.cells (cellsV r x0p) 54))
  have w0 := Lib.hid (w0.out.step ((Below.refl _ v4).alloc (Nat.le_refl _) (Obj.cells (cellsV r x0p) 54)) (.inr (Nat.le_refl _)))
  have x0 := Lib.hid (x0.out.step ((Below.refl _ v4).alloc (Nat.le_refl _) (Obj.cells (cellsV r x0p) 54)) (.inr (Nat.le_refl _)))
  have b5 := Lib.hid (show Blk (World.alloc v4 (Obj.cells (cellsV r x0p) 54)) v4.heap.size 54 (cellsV r x0p) from Blk.new v4 54 (cellsV r x0p))
  have sz5 := Lib.hid (show v4.heap.size + 1 = (World.alloc v4 (Obj.cells (cellsV r x0p) 54)).heap.size by simp)
  generalize World.alloc v4 _ = v5 at bw b2 w0 x0 b5 sz5 ⊢
  refine (implNeeds_any r x0p _ (x0.out.lies (by have sz0_ := sz0.out; have sz1_ := sz1.out; have sz2_ := sz2.out; have sz3_ := sz3.out; have sz4_ := sz4.out; have sz5_ := sz5.out; omega)) HS.out).mono ?_
  rintro e v6 hg
  rw [HNR.out] at hg
  obtain ⟨g0A, g0c, rfl, hh, hb⟩ := hg
  have bw := Lib.hid (bw.out.trans (hb.mono bw.out.size))
  have b2 := Lib.hid (b2.out.on hb)
  have w0 := Lib.hid (w0.out.step hb (.inr (Nat.le_refl _)))
  have x0 := Lib.hid (x0.out.step hb (.inr (Nat.le_refl _)))
  have b5 := Lib.hid (b5.out.on hb)
  have sz6 := Lib.hid (show v5.heap.size ≤ v6.heap.size from hb.size)
  have g0 := Lib.hid (show Dep.Held v6 g0A nr v5.heap.size v6.heap.size from hh)
  clear hb
  clear hh
  go_wp2_with fail
  refine (Dep.eqDepS_same g0A w0A nr g0c w0c _ (g0.out.lies (by have sz0_ := sz0.out; have sz1_ := sz1.out; have sz2_ := sz2.out; have sz3_ := sz3.out; have sz4_ := sz4.out; have sz5_ := sz5.out; have sz6_ := sz6.out; omega)) (w0.out.lies (by have sz0_ := sz0.out; have sz1_ := sz1.out; have sz2_ := sz2.out; have sz3_ := sz3.out; have sz4_ := sz4.out; have sz5_ := sz5.out; have sz6_ := sz6.out; omega)) (by unfold maxLen; omega)).mono ?_
  rintro e v7 ⟨rfl, hb⟩
  have bw := Lib.hid (bw.out.trans (hb.mono bw.out.size))
  have b2 := Lib.hid (b2.out.on hb)
  have w0 := Lib.hid (w0.out.step hb (.inr (Nat.le_refl _)))
  have x0 := Lib.hid (x0.out.step hb (.inr (Nat.le_refl _)))
  have b5 := Lib.hid (b5.out.on hb)
  have g0 := Lib.hid (g0.out.step hb (.inr (Nat.le_refl _)))
  have sz7 := Lib.hid (show v6.heap.size ≤ v7.heap.size from hb.size)
  clear hb
  go_wp2_with fail
  refine wp_region_held_drew (S := (fun W => (Below w.heap.size w W) ∧ (Blk W w.heap.size 50 (cellsV r p)) ∧ (Dep.Held W w0A nr v2.heap.size v3.heap.size) ∧ (Held W r x0p v3.heap.size v4.heap.size) ∧ (Blk W v4.heap.size 54 (cellsV r x0p)) ∧ (Dep.Held W g0A nr v5.heap.size v6.heap.size))) (by kernel_rfl) ?_ (fun hHeld => ?_)
  · exact ⟨bw.out.drew, b2.out, w0.out, x0.out, b5.out, g0.out⟩
  refine wpAnyH_take (i := 0) (v := ?_) rfl (by kernel_rfl) (by kernel_rfl) (by kernel_rfl) (fun _ _ _ h => h) (Or.inl ⟨by rfl, ?_⟩) hHeld ?_
  rotate_left
  · intro W hSw
    obtain ⟨q_bw, q_b2, q_w0, q_x0, q_b5, q_g0⟩ := hSw
    obtain ⟨hb20, hb21, hb22, hb23, hb24, hb25, hb26, hb27⟩ := cells8 q_b2
    obtain ⟨hb50, hb51, hb52, hb53, hb54, hb55, hb56, hb57⟩ := cells8 q_b5
    go_simp
    try with_reducible rfl
  try simp only [Act.put, List.setIfInBounds_toArray, List.set_cons_zero, List.set_cons_succ, List.getElem_toArray, List.getElem_cons_zero]
  refine wpAnyH_take (i := 1) (v := ?_) rfl (by kernel_rfl) (by kernel_rfl) (by kernel_rfl) (fun _ _ _ h => h) (Or.inl ⟨by rfl, ?_⟩) hHeld ?_
  rotate_left
  · intro W hSw
    obtain ⟨q_bw, q_b2, q_w0, q_x0, q_b5, q_g0⟩ := hSw
    obtain ⟨hb20, hb21, hb22, hb23, hb24, hb25, hb26, hb27⟩ := cells8 q_b2
    obtain ⟨hb50, hb51, hb52, hb53, hb54, hb55, hb56, hb57⟩ := cells8 q_b5
    go_simp
    try with_reducible rfl
  try simp only [Act.put, List.setIfInBounds_toArray, List.set_cons_zero, List.set_cons_succ, List.getElem_toArray, List.getElem_cons_succ, List.getElem_cons_zero]
  refine wpAnyH_ready (rs := [2]) (by kernel_rfl) (by simp) ?_
  refine AllReadyH.cons rfl (fun K hK => ?_) AllReadyH.nil
  go_simp
  refine (toRec_any r p _ (H.out.step hHeld.1 (Nat.le_refl _) hHeld.1.size) hl1 hn1).mono ?_
  rintro e v8 ⟨t0p, rfl, t0h, -, -, hb⟩
  have sz8 := Lib.hid (show v7.heap.size ≤ v8.heap.size from hb.size)
  unfold recV
  have t0 := Lib.hid (show Held v8 r t0p v7.heap.size v8.heap.size from t0h)
  clear t0h
  refine hK.out _ _ ?_ (fun hHeld => ?_)
  · first | exact ⟨hHeld.1.trans (hb.mono hHeld.1.size), hHeld.2.1.on hb, hHeld.2.2.1.step hb (.inr (Nat.le_refl _)), hHeld.2.2.2.1.step hb (.inr (Nat.le_refl _)), hHeld.2.2.2.2.1.on hb, hHeld.2.2.2.2.2.step hb (.inr (Nat.le_refl _))⟩ | assumption
  clear hK K
  try simp only [Act.put, List.setIfInBounds_toArray, List.set_cons_zero, List.set_cons_succ, List.getElem_toArray, List.getElem_cons_succ, List.getElem_cons_zero]
  refine wpAnyH_ready (rs := [3]) (by kernel_rfl) (by simp) ?_
  refine AllReadyH.cons rfl (fun K hK => ?_) AllReadyH.nil
  go_simp
  refine (eqRec_same r x0p t0p _ (hHeld.2.2.2.1.lies (by have sz0_ := sz0.out; have sz1_ := sz1.out; have sz2_ := sz2.out; have sz3_ := sz3.out; have sz4_ := sz4.out; have sz5_ := sz5.out; have sz6_ := sz6.out; have sz7_ := sz7.out; have sz8_ := sz8.out; omega)) (t0.out.lies (by have sz0_ := sz0.out; have sz1_ := sz1.out; have sz2_ := sz2.out; have sz3_ := sz3.out; have sz4_ := sz4.out; have sz5_ := sz5.out; have sz6_ := sz6.out; have sz7_ := sz7.out; have sz8_ := sz8.out; omega)) (by unfold maxLen; omega) (by unfold maxLen; omega)).mono ?_
  rintro e v9 ⟨rfl, hb⟩
  have sz9 := Lib.hid (show v8.heap.size ≤ v9.heap.size from hb.size)
  have t0 := Lib.hid (t0.out.step hb (.inr (Nat.le_refl _)))
  refine hK.out _ _ ?_ (fun hHeld => ?_)
  · first | exact ⟨hHeld.1.trans (hb.mono hHeld.1.size), hHeld.2.1.on hb, hHeld.2.2.1.step hb (.inr (Nat.le_refl _)), hHeld.2.2.2.1.step hb (.inr (Nat.le_refl _)), hHeld.2.2.2.2.1.on hb, hHeld.2.2.2.2.2.step hb (.inr (Nat.le_refl _))⟩ | assumption
  clear hK K
  try simp only [Act.put, List.setIfInBounds_toArray, List.set_cons_zero, List.set_cons_succ, List.getElem_toArray, List.getElem_cons_succ, List.getElem_cons_zero]
  refine wpAnyH_take (i := 4) (v := ?_) rfl (by kernel_rfl) (by kernel_rfl) (by kernel_rfl) (fun _ _ _ h => h) (Or.inl ⟨by rfl, ?_⟩) hHeld ?_
  rotate_left
  · intro W hSw
    obtain ⟨q_bw, q_b2, q_w0, q_x0, q_b5, q_g0⟩ := hSw
    obtain ⟨hb20, hb21, hb22, hb23, hb24, hb25, hb26, hb27⟩ := cells8 q_b2
    obtain ⟨hb50, hb51, hb52, hb53, hb54, hb55, hb56, hb57⟩ := cells8 q_b5
    go_simp
    try with_reducible rfl
  try simp only [Act.put, List.setIfInBounds_toArray, List.set_cons_zero, List.set_cons_succ, List.getElem_toArray, List.getElem_cons_succ, List.getElem_cons_zero]
  refine wpAnyH_done (by kernel_rfl) ?_ _
  obtain ⟨bw_, b2_, w0_, x0_, b5_, g0_⟩ := hHeld
  have bw := Lib.hid bw_
  have b2 := Lib.hid b2_
  have w0 := Lib.hid w0_
  have x0 := Lib.hid x0_
  have b5 := Lib.hid b5_
  have g0 := Lib.hid g0_
  clear bw_ b2_ w0_ x0_ b5_ g0_
  clear t0
  obtain ⟨b5c0, b5c1, b5c2, b5c3, b5c4, b5c5, b5c6, b5c7⟩ := cells8 b5.out
  go_wp2_with fail
  clear b5c0 b5c1 b5c2 b5c3 b5c4 b5c5 b5c6 b5c7
  have hx0 := x0.out
  clear x0
  have HX0 := Lib.hid hx0
  clear hx0
  refine (markRec_any r x0p 1 _ _ _ HX0.out (by have sz0_ := sz0.out; have sz1_ := sz1.out; have sz2_ := sz2.out; have sz3_ := sz3.out; have sz4_ := sz4.out; have sz5_ := sz5.out; have sz6_ := sz6.out; have sz7_ := sz7.out; have sz8_ := sz8.out; have sz9_ := sz9.out; omega) hl1 hn1 (by omega)).mono ?_
  rintro e v10 ⟨rfl, -, -, ht⟩
  have bw := Lib.hid (ht.below _ bw.out (by have sz0_ := sz0.out; have sz1_ := sz1.out; have sz2_ := sz2.out; have sz3_ := sz3.out; have sz4_ := sz4.out; have sz5_ := sz5.out; have sz6_ := sz6.out; have sz7_ := sz7.out; have sz8_ := sz8.out; have sz9_ := sz9.out; omega))
  have b2 := Lib.hid (ht.blk _ _ _ b2.out (by decide) (by decide))
  have w0 := Lib.hid (ht.deps _ _ _ _ w0.out (by have sz0_ := sz0.out; have sz1_ := sz1.out; have sz2_ := sz2.out; have sz3_ := sz3.out; have sz4_ := sz4.out; have sz5_ := sz5.out; have sz6_ := sz6.out; have sz7_ := sz7.out; have sz8_ := sz8.out; have sz9_ := sz9.out; omega))
  have b5 := Lib.hid (ht.blk _ _ _ b5.out (by decide) (by decide))
  have g0 := Lib.hid (ht.deps _ _ _ _ g0.out (by have sz0_ := sz0.out; have sz1_ := sz1.out; have sz2_ := sz2.out; have sz3_ := sz3.out; have sz4_ := sz4.out; have sz5_ := sz5.out; have sz6_ := sz6.out; have sz7_ := sz7.out; have sz8_ := sz8.out; have sz9_ := sz9.out; omega))
  have sz10 := Lib.hid (show v9.heap.size ≤ v10.heap.size from ht.size)
  clear ht HX0
  have hz0 : ¬ ((1 + 4 * r.l.length + r.b.length : Nat) : Int) < 0 := by omega
  obtain ⟨z0, hze0⟩ : ∃ z : Nat, 1 + 4 * r.l.length + r.b.length = z := ⟨_, rfl⟩
  rw [hze0] at hz0 ⊢
  clear hze0
  go_wp2_with fail
  refine (Dep.eqDepS_same g0A w0A nr g0c w0c _ (g0.out.lies (by have sz0_ := sz0.out; have sz1_ := sz1.out; have sz2_ := sz2.out; have sz3_ := sz3.out; have sz4_ := sz4.out; have sz5_ := sz5.out; have sz6_ := sz6.out; have sz7_ := sz7.out; have sz8_ := sz8.out; have sz9_ := sz9.out; have sz10_ := sz10.out; omega)) (w0.out.lies (by have sz0_ := sz0.out; have sz1_ := sz1.out; have sz2_ := sz2.out; have sz3_ := sz3.out; have sz4_ := sz4.out; have sz5_ := sz5.out; have sz6_ := sz6.out; have sz7_ := sz7.out; have sz8_ := sz8.out; have sz9_ := sz9.out; have sz10_ := sz10.out; omega)) (by unfold maxLen; omega)).mono ?_
  rintro e v11 ⟨rfl, hb⟩
  have bw := Lib.hid (bw.out.trans (hb.mono bw.out.size))
  have b2 := Lib.hid (b2.out.on hb)
  have w0 := Lib.hid (w0.out.step hb (.inr (Nat.le_refl _)))
  have b5 := Lib.hid (b5.out.on hb)
  have g0 := Lib.hid (g0.out.step hb (.inr (Nat.le_refl _)))
  have sz11 := Lib.hid (show v10.heap.size ≤ v11.heap.size from hb.size)
  clear hb
  go_wp2_with fail
  refine (Dep.mark_any g0A nr g0c 1 _ _ _ g0.out (by omega) (by omega)).mono ?_
  rintro e v12 ⟨rfl, hh, ht⟩
  have bw := Lib.hid (ht.below bw.out (by have sz0_ := sz0.out; have sz1_ := sz1.out; have sz2_ := sz2.out; have sz3_ := sz3.out; have sz4_ := sz4.out; have sz5_ := sz5.out; have sz6_ := sz6.out; have sz7_ := sz7.out; have sz8_ := sz8.out; have sz9_ := sz9.out; have sz10_ := sz10.out; have sz11_ := sz11.out; omega))
  have b2 := Lib.hid (Str.blk_turned ht b2.out (by decide))
  have w0 := Lib.hid (ht.held w0.out (by have sz0_ := sz0.out; have sz1_ := sz1.out; have sz2_ := sz2.out; have sz3_ := sz3.out; have sz4_ := sz4.out; have sz5_ := sz5.out; have sz6_ := sz6.out; have sz7_ := sz7.out; have sz8_ := sz8.out; have sz9_ := sz9.out; have sz10_ := sz10.out; have sz11_ := sz11.out; omega))
  have b5 := Lib.hid (Str.blk_turned ht b5.out (by decide))
  have g0 := Lib.hid (show Dep.Held v12 g0A (Dep.marks 1 nr.length) v5.heap.size v6.heap.size from hh)
  have sz12 := Lib.hid (show v11.heap.size ≤ v12.heap.size from ht.size)
  clear hh ht
  have hk3 : ¬ ((1 + 4 * nr.length : Nat) : Int) < 0 := by omega
  obtain ⟨z1, hz1⟩ : ∃ z : Nat, 1 + 4 * nr.length = z := ⟨_, rfl⟩
  have HZ1 := Lib.hid hz1
  rw [hz1] at hk3 ⊢
  have hze : ((z1 : Int) != (z1 : Int)) = false := by simp
  clear hz1
  go_wp2_with fail
  refine (Dep.heldDepS_any g0A nr.length g0c 1 _ (g0.out.lies (by have sz0_ := sz0.out; have sz1_ := sz1.out; have sz2_ := sz2.out; have sz3_ := sz3.out; have sz4_ := sz4.out; have sz5_ := sz5.out; have sz6_ := sz6.out; have sz7_ := sz7.out; have sz8_ := sz8.out; have sz9_ := sz9.out; have sz10_ := sz10.out; have sz11_ := sz11.out; have sz12_ := sz12.out; omega)) (by omega) (by omega)).mono ?_
  rintro e v13 ⟨rfl, hb⟩
  have bw := Lib.hid (bw.out.trans (hb.mono bw.out.size))
  have b2 := Lib.hid (b2.out.on hb)
  have w0 := Lib.hid (w0.out.step hb (.inr (Nat.le_refl _)))
  have b5 := Lib.hid (b5.out.on hb)
  have g0 := Lib.hid (g0.out.step hb (.inr (Nat.le_refl _)))
  have sz13 := Lib.hid (show v12.heap.size ≤ v13.heap.size from hb.size)
  clear hb
  rw [HZ1.out]
  obtain ⟨b2c0, b2c1, b2c2, b2c3, b2c4, b2c5, b2c6, b2c7⟩ := cells8 b2.out
  go_wp2_with fail
  clear b2c0 b2c1 b2c2 b2c3 b2c4 b2c5 b2c6 b2c7
  refine (toRec_any r p _ (H.out.step bw.out (Nat.le_refl _) bw.out.size) hl1 hn1).mono ?_
  rintro e v14 ⟨x2p, rfl, x2h, -, -, hb⟩
  unfold recV
  have bw := Lib.hid (bw.out.trans (hb.mono bw.out.size))
  have b2 := Lib.hid (b2.out.on hb)
  have w0 := Lib.hid (w0.out.step hb (.inr (Nat.le_refl _)))
  have b5 := Lib.hid (b5.out.on hb)
  have g0 := Lib.hid (g0.out.step hb (.inr (Nat.le_refl _)))
  have sz14 := Lib.hid (show v13.heap.size ≤ v14.heap.size from hb.size)
  have x2 := Lib.hid (show Held v14 r x2p v13.heap.size v14.heap.size from x2h)
  clear hb
  go_wp2_with fail
  refine (implNeeds_any r x2p _ (x2.out.lies (by have sz0_ := sz0.out; have sz1_ := sz1.out; have sz2_ := sz2.out; have sz3_ := sz3.out; have sz4_ := sz4.out; have sz5_ := sz5.out; have sz6_ := sz6.out; have sz7_ := sz7.out; have sz8_ := sz8.out; have sz9_ := sz9.out; have sz10_ := sz10.out; have sz11_ := sz11.out; have sz12_ := sz12.out; have sz13_ := sz13.out; have sz14_ := sz14.out; omega)) HS.out).mono ?_
  rintro e v15 hg
  rw [HNR.out] at hg
  obtain ⟨h0A, h0c, rfl, hh, hb⟩ := hg
  have bw := Lib.hid (bw.out.trans (hb.mono bw.out.size))
  have b2 := Lib.hid (b2.out.on hb)
  have w0 := Lib.hid (w0.out.step hb (.inr (Nat.le_refl _)))
  have b5 := Lib.hid (b5.out.on hb)
  have g0 := Lib.hid (g0.out.step hb (.inr (Nat.le_refl _)))
  have x2 := Lib.hid (x2.out.step hb (.inr (Nat.le_refl _)))
  have sz15 := Lib.hid (show v14.heap.size ≤ v15.heap.size from hb.size)
  have h0 := Lib.hid (show Dep.Held v15 h0A nr v14.heap.size v15.heap.size from hh)
  clear hb
  clear hh
  clear x2
  go_wp2_with fail
  refine (Dep.eqDepS_same h0A w0A nr h0c w0c _ (h0.out.lies (by have sz0_ := sz0.out; have sz1_ := sz1.out; have sz2_ := sz2.out; have sz3_ := sz3.out; have sz4_ := sz4.out; have sz5_ := sz5.out; have sz6_ := sz6.out; have sz7_ := sz7.out; have sz8_ := sz8.out; have sz9_ := sz9.out; have sz10_ := sz10.out; have sz11_ := sz11.out; have sz12_ := sz12.out; have sz13_ := sz13.out; have sz14_ := sz14.out; have sz15_ := sz15.out; omega)) (w0.out.lies (by have sz0_ := sz0.out; have sz1_ := sz1.out; have sz2_ := sz2.out; have sz3_ := sz3.out; have sz4_ := sz4.out; have sz5_ := sz5.out; have sz6_ := sz6.out; have sz7_ := sz7.out; have sz8_ := sz8.out; have sz9_ := sz9.out; have sz10_ := sz10.out; have sz11_ := sz11.out; have sz12_ := sz12.out; have sz13_ := sz13.out; have sz14_ := sz14.out; have sz15_ := sz15.out; omega)) (by unfold maxLen; omega)).mono ?_
  rintro e v16 ⟨rfl, hb⟩
  have bw := Lib.hid (bw.out.trans (hb.mono bw.out.size))
  have b2 := Lib.hid (b2.out.on hb)
  have w0 := Lib.hid (w0.out.step hb (.inr (Nat.le_refl _)))
  have b5 := Lib.hid (b5.out.on hb)
  have g0 := Lib.hid (g0.out.step hb (.inr (Nat.le_refl _)))
  have h0 := Lib.hid (h0.out.step hb (.inr (Nat.le_refl _)))
  have sz16 := Lib.hid (show v15.heap.size ≤ v16.heap.size from hb.size)
  clear hb
  go_wp2_with fail
  refine (Dep.heldDepS_any g0A nr.length g0c 1 _ (g0.out.lies (by have sz0_ := sz0.out; have sz1_ := sz1.out; have sz2_ := sz2.out; have sz3_ := sz3.out; have sz4_ := sz4.out; have sz5_ := sz5.out; have sz6_ := sz6.out; have sz7_ := sz7.out; have sz8_ := sz8.out; have sz9_ := sz9.out; have sz10_ := sz10.out; have sz11_ := sz11.out; have sz12_ := sz12.out; have sz13_ := sz13.out; have sz14_ := sz14.out; have sz15_ := sz15.out; have sz16_ := sz16.out; omega)) (by omega) (by omega)).mono ?_
  rintro e v17 ⟨rfl, hb⟩
  have bw := Lib.hid (bw.out.trans (hb.mono bw.out.size))
  have b2 := Lib.hid (b2.out.on hb)
  have w0 := Lib.hid (w0.out.step hb (.inr (Nat.le_refl _)))
  have b5 := Lib.hid (b5.out.on hb)
  have g0 := Lib.hid (g0.out.step hb (.inr (Nat.le_refl _)))
  have h0 := Lib.hid (h0.out.step hb (.inr (Nat.le_refl _)))
  have sz17 := Lib.hid (show v16.heap.size ≤ v17.heap.size from hb.size)
  clear hb
  rw [HZ1.out]
  go_wp2_with fail
  go_ret
  exact ⟨rfl, bw.out⟩
end Go.Proofs.Ytkmlnibkdcdegaa.Rec
