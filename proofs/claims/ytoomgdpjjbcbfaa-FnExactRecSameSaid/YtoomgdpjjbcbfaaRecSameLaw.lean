/-
  FnExactRecSame answers true at every two records.
-/
import Derived.Test.YtoomgdpjjbcbfaaRecSame
namespace Go.Proofs.Ytoomgdpjjbcbfaa.Rec
open Go.ChangeShapes Go.WideShapes Go.ChangeAt Go.RowKit
open Dep (D I)
set_option linter.unusedVariables false
set_option maxRecDepth 100000
set_option linter.unusedSimpArgs false

set_option maxHeartbeats 8000000 in
theorem lawSame_any (r : R) (p : P) (s : R) (q : P) (w : World) (h : Lies w w.heap.size r p ∧ Sound r) (h' : Lies w w.heap.size s q ∧ Sound s) :
    Calls Try.prog 3 #[recV r p, recV s q] w fun e w' => e = .returned (.bool true) ∧ Below w.heap.size w w' := by
  obtain ⟨h, hs⟩ := h
  obtain ⟨h', hs'⟩ := h'
  have H := Lib.hid h
  have H' := Lib.hid h'
  have HS := Lib.hid hs
  have HS' := Lib.hid hs'
  have B0 := ((Below.refl w.heap.size w).alloc (Nat.le_refl _) (.cells (cellsV r p) 27)).alloc (by simp) (.cells (cellsV s q) 27)
  have X0 := (Blk.new w 27 (cellsV r p)).alloc (.cells (cellsV s q) 27)
  have Y0 := Blk.new (w.alloc (.cells (cellsV r p) 27)) 27 (cellsV s q)
  simp only [World.size_alloc] at Y0
  have bw := Lib.hid B0
  have b2 := Lib.hid X0
  have b3 := Lib.hid Y0
  clear h h' hs hs' B0 X0 Y0
  unfold recV
  go_enter Try.func3, Try.ntmps3
  go_wp2_with fail
  generalize World.alloc (World.alloc w _) _ = v0 at bw b2 b3 ⊢
  have sz0 := Lib.hid (show w.heap.size ≤ v0.heap.size from bw.out.size)
  refine (szRec_any r p 1048576 _ (H.out.step bw.out (Nat.le_refl _) bw.out.size) HS.out (by omega) (by omega)).mono ?_
  rintro e v1 ⟨m1, rfl, hm1, hb⟩
  have bw := Lib.hid (bw.out.trans (hb.mono bw.out.size))
  have b2 := Lib.hid (b2.out.on hb)
  have b3 := Lib.hid (b3.out.on hb)
  have sz1 := Lib.hid (show v0.heap.size ≤ v1.heap.size from hb.size)
  clear hb
  rcases hm1 with rfl | ⟨m10, m11, sm1⟩
  · go_wp2_with fail
    go_ret
    exact ⟨rfl, bw.out⟩
  have m100 : ¬ m1 < 0 := by omega
  have SM1 := Lib.hid sm1
  clear sm1
  obtain ⟨b3c0, b3c1, b3c2, b3c3, b3c4, b3c5, b3c6, b3c7⟩ := cells8 b3.out
  go_wp2_with fail
  clear b3c0 b3c1 b3c2 b3c3 b3c4 b3c5 b3c6 b3c7
  refine (szRec_any s q m1 _ (H'.out.step bw.out (Nat.le_refl _) bw.out.size) HS'.out m10 (by omega)).mono ?_
  rintro e v2 ⟨m2, rfl, hm2, hb⟩
  have bw := Lib.hid (bw.out.trans (hb.mono bw.out.size))
  have b2 := Lib.hid (b2.out.on hb)
  have b3 := Lib.hid (b3.out.on hb)
  have sz2 := Lib.hid (show v1.heap.size ≤ v2.heap.size from hb.size)
  clear hb
  rcases hm2 with rfl | ⟨m20, m21, sm2⟩
  · go_wp2_with fail
    go_ret
    exact ⟨rfl, bw.out⟩
  have m200 : ¬ m2 < 0 := by omega
  have hl1 : r.l.length ≤ 1048576 := by have := SM1.out.2.2.1; omega
  have hl2 : s.l.length ≤ 1048576 := by have := sm2.2.2.1; omega
  have hn1 : r.b.length ≤ 1048576 := by have := SM1.out.2.2.2.2.1; omega
  have hn2 : s.b.length ≤ 1048576 := by have := sm2.2.2.2.2.1; omega
  clear sm2
  obtain ⟨t, ht⟩ : ∃ t, sameB r s = t := ⟨_, rfl⟩
  have HT := Lib.hid ht
  clear ht
  have e0 : (t == t) = true := beq_self_eq_true t
  have e1 : (t != t) = false := by simp
  go_wp2_with fail
  refine wp_region_held_drew (S := (fun W => (Below w.heap.size w W) ∧ (Blk W w.heap.size 27 (cellsV r p)) ∧ (Blk W (w.heap.size + 1) 27 (cellsV s q)))) (by kernel_rfl) ?_ (fun hHeld => ?_)
  · exact ⟨bw.out.drew, b2.out, b3.out⟩
  refine wpAnyH_take (i := 0) (v := ?_) rfl (by kernel_rfl) (by kernel_rfl) (by kernel_rfl) (fun _ _ _ h => h) (Or.inl ⟨by rfl, ?_⟩) hHeld ?_
  rotate_left
  · intro W hSw
    obtain ⟨_, q1, q2⟩ := hSw
    obtain ⟨hs1, hs2, hs3, hs4, hs5, hs6, hs7, hs8⟩ := cells8 q1
    obtain ⟨hs9, hs10, hs11, hs12, hs13, hs14, hs15, hs16⟩ := cells8 q2
    go_simp
    try with_reducible rfl
  try simp only [Act.put, List.setIfInBounds_toArray, List.set_cons_zero, List.set_cons_succ, List.getElem_toArray, List.getElem_cons_zero]
  refine wpAnyH_take (i := 2) (v := ?_) rfl (by kernel_rfl) (by kernel_rfl) (by kernel_rfl) (fun _ _ _ h => h) (Or.inl ⟨by rfl, ?_⟩) hHeld ?_
  rotate_left
  · intro W hSw
    obtain ⟨_, q1, q2⟩ := hSw
    obtain ⟨hs1, hs2, hs3, hs4, hs5, hs6, hs7, hs8⟩ := cells8 q1
    obtain ⟨hs9, hs10, hs11, hs12, hs13, hs14, hs15, hs16⟩ := cells8 q2
    go_simp
    try with_reducible rfl
  try simp only [Act.put, List.setIfInBounds_toArray, List.set_cons_zero, List.set_cons_succ, List.getElem_toArray, List.getElem_cons_succ, List.getElem_cons_zero]
  refine wpAnyH_ready (rs := [1]) (by kernel_rfl) (by simp) ?_
  refine AllReadyH.cons rfl (fun K hK => ?_) AllReadyH.nil
  go_simp
  refine (toRec_any r p _ (H.out.step hHeld.1 (Nat.le_refl _) hHeld.1.size) hl1 hn1).mono ?_
  rintro e v3 ⟨x0p, rfl, x0h, -, -, hb⟩
  have sz3 := Lib.hid (show v2.heap.size ≤ v3.heap.size from hb.size)
  unfold recV
  have x0 := Lib.hid (show Held v3 r x0p v2.heap.size v3.heap.size from x0h)
  clear x0h
  refine hK.out _ _ ?_ (fun hHeld => ?_)
  · first | exact ⟨hHeld.1.trans (hb.mono hHeld.1.size), hHeld.2.1.on hb, hHeld.2.2.on hb⟩ | assumption
  clear hK K
  try simp only [Act.put, List.setIfInBounds_toArray, List.set_cons_zero, List.set_cons_succ, List.getElem_toArray, List.getElem_cons_succ, List.getElem_cons_zero]
  refine wpAnyH_ready (rs := [3]) (by kernel_rfl) (by simp) ?_
  refine AllReadyH.cons rfl (fun K hK => ?_) AllReadyH.nil
  go_simp
  refine (toRec_any s q _ (H'.out.step hHeld.1 (Nat.le_refl _) hHeld.1.size) hl2 hn2).mono ?_
  rintro e v4 ⟨x1p, rfl, x1h, -, -, hb⟩
  have sz4 := Lib.hid (show v3.heap.size ≤ v4.heap.size from hb.size)
  have x0 := Lib.hid (x0.out.step hb (.inr (Nat.le_refl _)))
  unfold recV
  have x1 := Lib.hid (show Held v4 s x1p v3.heap.size v4.heap.size from x1h)
  clear x1h
  refine hK.out _ _ ?_ (fun hHeld => ?_)
  · first | exact ⟨hHeld.1.trans (hb.mono hHeld.1.size), hHeld.2.1.on hb, hHeld.2.2.on hb⟩ | assumption
  clear hK K
  try simp only [Act.put, List.setIfInBounds_toArray, List.set_cons_zero, List.set_cons_succ, List.getElem_toArray, List.getElem_cons_succ, List.getElem_cons_zero]
  refine wpAnyH_ready (rs := [4]) (by kernel_rfl) (by simp) ?_
  refine AllReadyH.cons rfl (fun K hK => ?_) AllReadyH.nil
  go_simp
  refine (specSame_any r s x0p x1p _ (x0.out.lies (by have sz0_ := sz0.out; have sz1_ := sz1.out; have sz2_ := sz2.out; have sz3_ := sz3.out; have sz4_ := sz4.out; omega)) (x1.out.lies (by have sz0_ := sz0.out; have sz1_ := sz1.out; have sz2_ := sz2.out; have sz3_ := sz3.out; have sz4_ := sz4.out; omega)) (by unfold maxLen; omega) (by unfold maxLen; omega) (by unfold maxLen; omega) (by unfold maxLen; omega)).mono ?_
  rintro e v5 ⟨rfl, hb⟩
  have sz5 := Lib.hid (show v4.heap.size ≤ v5.heap.size from hb.size)
  have x0 := Lib.hid (x0.out.step hb (.inr (Nat.le_refl _)))
  have x1 := Lib.hid (x1.out.step hb (.inr (Nat.le_refl _)))
  rw [HT.out]
  refine hK.out _ _ ?_ (fun hHeld => ?_)
  · first | exact ⟨hHeld.1.trans (hb.mono hHeld.1.size), hHeld.2.1.on hb, hHeld.2.2.on hb⟩ | assumption
  clear hK K
  try simp only [Act.put, List.setIfInBounds_toArray, List.set_cons_zero, List.set_cons_succ, List.getElem_toArray, List.getElem_cons_succ, List.getElem_cons_zero]
  refine wpAnyH_take (i := 5) (v := ?_) rfl (by kernel_rfl) (by kernel_rfl) (by kernel_rfl) (fun _ _ _ h => h) (Or.inl ⟨by rfl, ?_⟩) hHeld ?_
  rotate_left
  · intro W hSw
    obtain ⟨_, q1, q2⟩ := hSw
    obtain ⟨hs1, hs2, hs3, hs4, hs5, hs6, hs7, hs8⟩ := cells8 q1
    obtain ⟨hs9, hs10, hs11, hs12, hs13, hs14, hs15, hs16⟩ := cells8 q2
    go_simp
    try with_reducible rfl
  try simp only [Act.put, List.setIfInBounds_toArray, List.set_cons_zero, List.set_cons_succ, List.getElem_toArray, List.getElem_cons_succ, List.getElem_cons_zero]
  refine wpAnyH_done (by kernel_rfl) ?_ _
  obtain ⟨bw_, b2_, b3_⟩ := hHeld
  have bw := Lib.hid bw_
  have b2 := Lib.hid b2_
  have b3 := Lib.hid b3_
  clear bw_ b2_ b3_
  clear x0 x1
  obtain ⟨b2c0, b2c1, b2c2, b2c3, b2c4, b2c5, b2c6, b2c7⟩ := cells8 b2.out
  go_wp2_with fail
  clear b2c0 b2c1 b2c2 b2c3 b2c4 b2c5 b2c6 b2c7
  refine (toRec_any r p _ (H.out.step bw.out (Nat.le_refl _) bw.out.size) hl1 hn1).mono ?_
  rintro e v6 ⟨y0p, rfl, y0h, -, -, hb⟩
  unfold recV
  have bw := Lib.hid (bw.out.trans (hb.mono bw.out.size))
  have b2 := Lib.hid (b2.out.on hb)
  have b3 := Lib.hid (b3.out.on hb)
  have sz6 := Lib.hid (show v5.heap.size ≤ v6.heap.size from hb.size)
  have y0 := Lib.hid (show Held v6 r y0p v5.heap.size v6.heap.size from y0h)
  clear hb
  obtain ⟨b3c0, b3c1, b3c2, b3c3, b3c4, b3c5, b3c6, b3c7⟩ := cells8 (b3.out.alloc (Obj.cells (cellsV r y0p) 33))
  go_wp2_with fail
  clear b3c0 b3c1 b3c2 b3c3 b3c4 b3c5 b3c6 b3c7
  have bw := Lib.hid (bw.out.alloc bw.out.size (Obj.cells (cellsV r y0p) 33))
  have b2 := Lib.hid (b2.out.alloc (Obj.cells (cellsV r y0p) 33))
  have b3 := Lib.hid (b3.out.alloc (Obj.cells (cellsV r y0p) 33))
  have y0 := Lib.hid (y0.out.step ((Below.refl _ v6).alloc (Nat.le_refl _) (Obj.cells (cellsV r y0p) 33)) (.inr (Nat.le_refl _)))
  have b7 := Lib.hid (show Blk (World.alloc v6 (Obj.cells (cellsV r y0p) 33)) v6.heap.size 33 (cellsV r y0p) from Blk.new v6 33 (cellsV r y0p))
  have sz7 := Lib.hid (show v6.heap.size + 1 = (World.alloc v6 (Obj.cells (cellsV r y0p) 33)).heap.size by simp)
  generalize World.alloc v6 _ = v7 at bw b2 b3 y0 b7 sz7 ⊢
  refine (toRec_any s q _ (H'.out.step bw.out (Nat.le_refl _) bw.out.size) hl2 hn2).mono ?_
  rintro e v8 ⟨y1p, rfl, y1h, -, -, hb⟩
  unfold recV
  have bw := Lib.hid (bw.out.trans (hb.mono bw.out.size))
  have b2 := Lib.hid (b2.out.on hb)
  have b3 := Lib.hid (b3.out.on hb)
  have y0 := Lib.hid (y0.out.step hb (.inr (Nat.le_refl _)))
  have b7 := Lib.hid (b7.out.on hb)
  have sz8 := Lib.hid (show v7.heap.size ≤ v8.heap.size from hb.size)
  have y1 := Lib.hid (show Held v8 s y1p v7.heap.size v8.heap.size from y1h)
  clear hb
  obtain ⟨b7c0, b7c1, b7c2, b7c3, b7c4, b7c5, b7c6, b7c7⟩ := cells8 (b7.out.alloc (Obj.cells (cellsV s y1p) 33))
  go_wp2_with fail
  clear b7c0 b7c1 b7c2 b7c3 b7c4 b7c5 b7c6 b7c7
  have bw := Lib.hid (bw.out.alloc bw.out.size (Obj.cells (cellsV s y1p) 33))
  have b2 := Lib.hid (b2.out.alloc (Obj.cells (cellsV s y1p) 33))
  have b3 := Lib.hid (b3.out.alloc (Obj.cells (cellsV s y1p) 33))
  have y0 := Lib.hid (y0.out.step ((Below.refl _ v8).alloc (Nat.le_refl _) (Obj.cells (cellsV s y1p) 33)) (.inr (Nat.le_refl _)))
  have b7 := Lib.hid (b7.out.alloc (Obj.cells (cellsV s y1p) 33))
  have y1 := Lib.hid (y1.out.step ((Below.refl _ v8).alloc (Nat.le_refl _) (Obj.cells (cellsV s y1p) 33)) (.inr (Nat.le_refl _)))
  have b8 := Lib.hid (show Blk (World.alloc v8 (Obj.cells (cellsV s y1p) 33)) v8.heap.size 33 (cellsV s y1p) from Blk.new v8 33 (cellsV s y1p))
  have sz9 := Lib.hid (show v8.heap.size + 1 = (World.alloc v8 (Obj.cells (cellsV s y1p) 33)).heap.size by simp)
  generalize World.alloc v8 _ = v9 at bw b2 b3 y0 b7 y1 b8 sz9 ⊢
  refine (implSame_any r s y0p y1p _ (y0.out.lies (by have sz0_ := sz0.out; have sz1_ := sz1.out; have sz2_ := sz2.out; have sz3_ := sz3.out; have sz4_ := sz4.out; have sz5_ := sz5.out; have sz6_ := sz6.out; have sz7_ := sz7.out; have sz8_ := sz8.out; have sz9_ := sz9.out; omega)) (y1.out.lies (by have sz0_ := sz0.out; have sz1_ := sz1.out; have sz2_ := sz2.out; have sz3_ := sz3.out; have sz4_ := sz4.out; have sz5_ := sz5.out; have sz6_ := sz6.out; have sz7_ := sz7.out; have sz8_ := sz8.out; have sz9_ := sz9.out; omega)) (by unfold maxLen; omega) (by unfold maxLen; omega) (by unfold maxLen; omega) (by unfold maxLen; omega)).mono ?_
  rintro e v10 ⟨rfl, hb⟩
  rw [HT.out]
  have bw := Lib.hid (bw.out.trans (hb.mono bw.out.size))
  have b2 := Lib.hid (b2.out.on hb)
  have b3 := Lib.hid (b3.out.on hb)
  have y0 := Lib.hid (y0.out.step hb (.inr (Nat.le_refl _)))
  have b7 := Lib.hid (b7.out.on hb)
  have y1 := Lib.hid (y1.out.step hb (.inr (Nat.le_refl _)))
  have b8 := Lib.hid (b8.out.on hb)
  have sz10 := Lib.hid (show v9.heap.size ≤ v10.heap.size from hb.size)
  clear hb
  go_wp2_with fail
  refine wp_region_held_drew (S := (fun W => (Below w.heap.size w W) ∧ (Blk W w.heap.size 27 (cellsV r p)) ∧ (Blk W (w.heap.size + 1) 27 (cellsV s q)) ∧ (Held W r y0p v5.heap.size v6.heap.size) ∧ (Blk W v6.heap.size 33 (cellsV r y0p)) ∧ (Held W s y1p v7.heap.size v8.heap.size) ∧ (Blk W v8.heap.size 33 (cellsV s y1p)))) (by kernel_rfl) ?_ (fun hHeld => ?_)
  · exact ⟨bw.out.drew, b2.out, b3.out, y0.out, b7.out, y1.out, b8.out⟩
  refine wpAnyH_take (i := 0) (v := ?_) rfl (by kernel_rfl) (by kernel_rfl) (by kernel_rfl) (fun _ _ _ h => h) (Or.inl ⟨by rfl, ?_⟩) hHeld ?_
  rotate_left
  · intro W hSw
    obtain ⟨q_bw, q_b2, q_b3, q_y0, q_b7, q_y1, q_b8⟩ := hSw
    obtain ⟨hb20, hb21, hb22, hb23, hb24, hb25, hb26, hb27⟩ := cells8 q_b2
    obtain ⟨hb70, hb71, hb72, hb73, hb74, hb75, hb76, hb77⟩ := cells8 q_b7
    go_simp
    try with_reducible rfl
  try simp only [Act.put, List.setIfInBounds_toArray, List.set_cons_zero, List.set_cons_succ, List.getElem_toArray, List.getElem_cons_zero]
  refine wpAnyH_take (i := 1) (v := ?_) rfl (by kernel_rfl) (by kernel_rfl) (by kernel_rfl) (fun _ _ _ h => h) (Or.inl ⟨by rfl, ?_⟩) hHeld ?_
  rotate_left
  · intro W hSw
    obtain ⟨q_bw, q_b2, q_b3, q_y0, q_b7, q_y1, q_b8⟩ := hSw
    obtain ⟨hb20, hb21, hb22, hb23, hb24, hb25, hb26, hb27⟩ := cells8 q_b2
    obtain ⟨hb70, hb71, hb72, hb73, hb74, hb75, hb76, hb77⟩ := cells8 q_b7
    go_simp
    try with_reducible rfl
  try simp only [Act.put, List.setIfInBounds_toArray, List.set_cons_zero, List.set_cons_succ, List.getElem_toArray, List.getElem_cons_succ, List.getElem_cons_zero]
  refine wpAnyH_ready (rs := [2]) (by kernel_rfl) (by simp) ?_
  refine AllReadyH.cons rfl (fun K hK => ?_) AllReadyH.nil
  go_simp
  refine (toRec_any r p _ (H.out.step hHeld.1 (Nat.le_refl _) hHeld.1.size) hl1 hn1).mono ?_
  rintro e v11 ⟨t0p, rfl, t0h, -, -, hb⟩
  have sz11 := Lib.hid (show v10.heap.size ≤ v11.heap.size from hb.size)
  unfold recV
  have t0 := Lib.hid (show Held v11 r t0p v10.heap.size v11.heap.size from t0h)
  clear t0h
  refine hK.out _ _ ?_ (fun hHeld => ?_)
  · first | exact ⟨hHeld.1.trans (hb.mono hHeld.1.size), hHeld.2.1.on hb, hHeld.2.2.1.on hb, hHeld.2.2.2.1.step hb (.inr (Nat.le_refl _)), hHeld.2.2.2.2.1.on hb, hHeld.2.2.2.2.2.1.step hb (.inr (Nat.le_refl _)), hHeld.2.2.2.2.2.2.on hb⟩ | assumption
  clear hK K
  try simp only [Act.put, List.setIfInBounds_toArray, List.set_cons_zero, List.set_cons_succ, List.getElem_toArray, List.getElem_cons_succ, List.getElem_cons_zero]
  refine wpAnyH_ready (rs := [3]) (by kernel_rfl) (by simp) ?_
  refine AllReadyH.cons rfl (fun K hK => ?_) AllReadyH.nil
  go_simp
  refine (eqRec_same r y0p t0p _ (hHeld.2.2.2.1.lies (by have sz0_ := sz0.out; have sz1_ := sz1.out; have sz2_ := sz2.out; have sz3_ := sz3.out; have sz4_ := sz4.out; have sz5_ := sz5.out; have sz6_ := sz6.out; have sz7_ := sz7.out; have sz8_ := sz8.out; have sz9_ := sz9.out; have sz10_ := sz10.out; have sz11_ := sz11.out; omega)) (t0.out.lies (by have sz0_ := sz0.out; have sz1_ := sz1.out; have sz2_ := sz2.out; have sz3_ := sz3.out; have sz4_ := sz4.out; have sz5_ := sz5.out; have sz6_ := sz6.out; have sz7_ := sz7.out; have sz8_ := sz8.out; have sz9_ := sz9.out; have sz10_ := sz10.out; have sz11_ := sz11.out; omega)) (by unfold maxLen; omega) (by unfold maxLen; omega)).mono ?_
  rintro e v12 ⟨rfl, hb⟩
  have sz12 := Lib.hid (show v11.heap.size ≤ v12.heap.size from hb.size)
  have t0 := Lib.hid (t0.out.step hb (.inr (Nat.le_refl _)))
  refine hK.out _ _ ?_ (fun hHeld => ?_)
  · first | exact ⟨hHeld.1.trans (hb.mono hHeld.1.size), hHeld.2.1.on hb, hHeld.2.2.1.on hb, hHeld.2.2.2.1.step hb (.inr (Nat.le_refl _)), hHeld.2.2.2.2.1.on hb, hHeld.2.2.2.2.2.1.step hb (.inr (Nat.le_refl _)), hHeld.2.2.2.2.2.2.on hb⟩ | assumption
  clear hK K
  try simp only [Act.put, List.setIfInBounds_toArray, List.set_cons_zero, List.set_cons_succ, List.getElem_toArray, List.getElem_cons_succ, List.getElem_cons_zero]
  refine wpAnyH_take (i := 4) (v := ?_) rfl (by kernel_rfl) (by kernel_rfl) (by kernel_rfl) (fun _ _ _ h => h) (Or.inl ⟨by rfl, ?_⟩) hHeld ?_
  rotate_left
  · intro W hSw
    obtain ⟨q_bw, q_b2, q_b3, q_y0, q_b7, q_y1, q_b8⟩ := hSw
    obtain ⟨hb20, hb21, hb22, hb23, hb24, hb25, hb26, hb27⟩ := cells8 q_b2
    obtain ⟨hb70, hb71, hb72, hb73, hb74, hb75, hb76, hb77⟩ := cells8 q_b7
    go_simp
    try with_reducible rfl
  try simp only [Act.put, List.setIfInBounds_toArray, List.set_cons_zero, List.set_cons_succ, List.getElem_toArray, List.getElem_cons_succ, List.getElem_cons_zero]
  refine wpAnyH_done (by kernel_rfl) ?_ _
  obtain ⟨bw_, b2_, b3_, y0_, b7_, y1_, b8_⟩ := hHeld
  have bw := Lib.hid bw_
  have b2 := Lib.hid b2_
  have b3 := Lib.hid b3_
  have y0 := Lib.hid y0_
  have b7 := Lib.hid b7_
  have y1 := Lib.hid y1_
  have b8 := Lib.hid b8_
  clear bw_ b2_ b3_ y0_ b7_ y1_ b8_
  clear t0
  go_wp2_with fail
  refine wp_region_held_drew (S := (fun W => (Below w.heap.size w W) ∧ (Blk W w.heap.size 27 (cellsV r p)) ∧ (Blk W (w.heap.size + 1) 27 (cellsV s q)) ∧ (Held W r y0p v5.heap.size v6.heap.size) ∧ (Blk W v6.heap.size 33 (cellsV r y0p)) ∧ (Held W s y1p v7.heap.size v8.heap.size) ∧ (Blk W v8.heap.size 33 (cellsV s y1p)))) (by kernel_rfl) ?_ (fun hHeld => ?_)
  · exact ⟨bw.out.drew, b2.out, b3.out, y0.out, b7.out, y1.out, b8.out⟩
  refine wpAnyH_take (i := 0) (v := ?_) rfl (by kernel_rfl) (by kernel_rfl) (by kernel_rfl) (fun _ _ _ h => h) (Or.inl ⟨by rfl, ?_⟩) hHeld ?_
  rotate_left
  · intro W hSw
    obtain ⟨q_bw, q_b2, q_b3, q_y0, q_b7, q_y1, q_b8⟩ := hSw
    obtain ⟨hb30, hb31, hb32, hb33, hb34, hb35, hb36, hb37⟩ := cells8 q_b3
    obtain ⟨hb80, hb81, hb82, hb83, hb84, hb85, hb86, hb87⟩ := cells8 q_b8
    go_simp
    try with_reducible rfl
  try simp only [Act.put, List.setIfInBounds_toArray, List.set_cons_zero, List.set_cons_succ, List.getElem_toArray, List.getElem_cons_zero]
  refine wpAnyH_take (i := 1) (v := ?_) rfl (by kernel_rfl) (by kernel_rfl) (by kernel_rfl) (fun _ _ _ h => h) (Or.inl ⟨by rfl, ?_⟩) hHeld ?_
  rotate_left
  · intro W hSw
    obtain ⟨q_bw, q_b2, q_b3, q_y0, q_b7, q_y1, q_b8⟩ := hSw
    obtain ⟨hb30, hb31, hb32, hb33, hb34, hb35, hb36, hb37⟩ := cells8 q_b3
    obtain ⟨hb80, hb81, hb82, hb83, hb84, hb85, hb86, hb87⟩ := cells8 q_b8
    go_simp
    try with_reducible rfl
  try simp only [Act.put, List.setIfInBounds_toArray, List.set_cons_zero, List.set_cons_succ, List.getElem_toArray, List.getElem_cons_succ, List.getElem_cons_zero]
  refine wpAnyH_ready (rs := [2]) (by kernel_rfl) (by simp) ?_
  refine AllReadyH.cons rfl (fun K hK => ?_) AllReadyH.nil
  go_simp
  refine (toRec_any s q _ (H'.out.step hHeld.1 (Nat.le_refl _) hHeld.1.size) hl2 hn2).mono ?_
  rintro e v13 ⟨t1p, rfl, t1h, -, -, hb⟩
  have sz13 := Lib.hid (show v12.heap.size ≤ v13.heap.size from hb.size)
  unfold recV
  have t1 := Lib.hid (show Held v13 s t1p v12.heap.size v13.heap.size from t1h)
  clear t1h
  refine hK.out _ _ ?_ (fun hHeld => ?_)
  · first | exact ⟨hHeld.1.trans (hb.mono hHeld.1.size), hHeld.2.1.on hb, hHeld.2.2.1.on hb, hHeld.2.2.2.1.step hb (.inr (Nat.le_refl _)), hHeld.2.2.2.2.1.on hb, hHeld.2.2.2.2.2.1.step hb (.inr (Nat.le_refl _)), hHeld.2.2.2.2.2.2.on hb⟩ | assumption
  clear hK K
  try simp only [Act.put, List.setIfInBounds_toArray, List.set_cons_zero, List.set_cons_succ, List.getElem_toArray, List.getElem_cons_succ, List.getElem_cons_zero]
  refine wpAnyH_ready (rs := [3]) (by kernel_rfl) (by simp) ?_
  refine AllReadyH.cons rfl (fun K hK => ?_) AllReadyH.nil
  go_simp
  refine (eqRec_same s y1p t1p _ (hHeld.2.2.2.2.2.1.lies (by have sz0_ := sz0.out; have sz1_ := sz1.out; have sz2_ := sz2.out; have sz3_ := sz3.out; have sz4_ := sz4.out; have sz5_ := sz5.out; have sz6_ := sz6.out; have sz7_ := sz7.out; have sz8_ := sz8.out; have sz9_ := sz9.out; have sz10_ := sz10.out; have sz11_ := sz11.out; have sz12_ := sz12.out; have sz13_ := sz13.out; omega)) (t1.out.lies (by have sz0_ := sz0.out; have sz1_ := sz1.out; have sz2_ := sz2.out; have sz3_ := sz3.out; have sz4_ := sz4.out; have sz5_ := sz5.out; have sz6_ := sz6.out; have sz7_ := sz7.out; have sz8_ := sz8.out; have sz9_ := sz9.out; have sz10_ := sz10.out; have sz11_ := sz11.out; have sz12_ := sz12.out; have sz13_ := sz13.out; omega)) (by unfold maxLen; omega) (by unfold maxLen; omega)).mono ?_
  rintro e v14 ⟨rfl, hb⟩
  have sz14 := Lib.hid (show v13.heap.size ≤ v14.heap.size from hb.size)
  have t1 := Lib.hid (t1.out.step hb (.inr (Nat.le_refl _)))
  refine hK.out _ _ ?_ (fun hHeld => ?_)
  · first | exact ⟨hHeld.1.trans (hb.mono hHeld.1.size), hHeld.2.1.on hb, hHeld.2.2.1.on hb, hHeld.2.2.2.1.step hb (.inr (Nat.le_refl _)), hHeld.2.2.2.2.1.on hb, hHeld.2.2.2.2.2.1.step hb (.inr (Nat.le_refl _)), hHeld.2.2.2.2.2.2.on hb⟩ | assumption
  clear hK K
  try simp only [Act.put, List.setIfInBounds_toArray, List.set_cons_zero, List.set_cons_succ, List.getElem_toArray, List.getElem_cons_succ, List.getElem_cons_zero]
  refine wpAnyH_take (i := 4) (v := ?_) rfl (by kernel_rfl) (by kernel_rfl) (by kernel_rfl) (fun _ _ _ h => h) (Or.inl ⟨by rfl, ?_⟩) hHeld ?_
  rotate_left
  · intro W hSw
    obtain ⟨q_bw, q_b2, q_b3, q_y0, q_b7, q_y1, q_b8⟩ := hSw
    obtain ⟨hb30, hb31, hb32, hb33, hb34, hb35, hb36, hb37⟩ := cells8 q_b3
    obtain ⟨hb80, hb81, hb82, hb83, hb84, hb85, hb86, hb87⟩ := cells8 q_b8
    go_simp
    try with_reducible rfl
  try simp only [Act.put, List.setIfInBounds_toArray, List.set_cons_zero, List.set_cons_succ, List.getElem_toArray, List.getElem_cons_succ, List.getElem_cons_zero]
  refine wpAnyH_done (by kernel_rfl) ?_ _
  obtain ⟨bw_, b2_, b3_, y0_, b7_, y1_, b8_⟩ := hHeld
  have bw := Lib.hid bw_
  have b2 := Lib.hid b2_
  have b3 := Lib.hid b3_
  have y0 := Lib.hid y0_
  have b7 := Lib.hid b7_
  have y1 := Lib.hid y1_
  have b8 := Lib.hid b8_
  clear bw_ b2_ b3_ y0_ b7_ y1_ b8_
  clear t1
  go_wp2_with fail
  go_ret
  exact ⟨rfl, bw.out⟩
end Go.Proofs.Ytoomgdpjjbcbfaa.Rec
