/-
  FnExactSeenOf answers true at every shelf.
-/
import Derived.Test.YtegnjbdgeibhfaaGreatRsSeen
namespace Go.Proofs.YtegnjbdgeibhfaaGreat.Rs
open Go.ChangeShapes Go.WideShapes Go.ChangeAt Go.RowKit
open Rec (R P Sound Small recV cellsV)
open Dep (D I)
set_option linter.unusedVariables false
set_option maxRecDepth 100000
set_option linter.unusedSimpArgs false

set_option maxHeartbeats 8000000 in
set_option maxRecDepth 100000 in
theorem lawSeenOf_any (n : Ct) (w : World) (hn : IsCut w n) :
    Calls Tryz.prog 4 #[n.val] w fun e w' => e = .returned (.bool true) ∧ Below w.heap.size w w' := by
  obtain ⟨n0, n1, n2, n3⟩ := hn
  have Hn := Lib.hid n0
  have Kn := Lib.hid n3
  clear n0 n3
  have bw := Lib.hid ((Below.refl w.heap.size w).alloc (Nat.le_refl _) (Obj.cells #[Value.slice n.A n.s.length n.ca, Value.slice n.B n.m.length n.cb] 24))
  have bx := Lib.hid (Blk.new w 24 #[Value.slice n.A n.s.length n.ca, Value.slice n.B n.m.length n.cb])
  unfold Ct.val
  go_enter Tryz.func4, Tryz.ntmps4
  go_wp2_with fail
  generalize World.alloc w _ = v0 at bw bx ⊢
  have sz0 := Lib.hid (show w.heap.size ≤ v0.heap.size from bw.out.size)
  refine (szCut_any n 1048576 _ (Hn.out.on bw.out) n1 n2 Kn.out (by omega) (by omega)).mono ?_
  rintro e v1 ⟨m1, rfl, hm1, hb⟩
  have bw := Lib.hid (bw.out.trans (hb.mono bw.out.size))
  have bx := Lib.hid (bx.out.on hb)
  have sz1 := Lib.hid (show v0.heap.size ≤ v1.heap.size from hb.size)
  clear hb
  rcases hm1 with rfl | ⟨m10, sm1⟩
  · go_wp2_with fail
    go_ret
    exact ⟨rfl, bw.out⟩
  have Fn := Lib.hid (CFine.of_sz (by omega) Kn.out m10 sm1)
  have m100 : ¬ m1 < 0 := by omega
  have m1k : m1 ≤ 1048576 := by have := sm1.1; omega
  clear sm1
  have hnl := seenC_len (pc n)
  obtain ⟨nr, hnr⟩ : ∃ l, seenC (pc n) = l := ⟨_, rfl⟩
  have HNR := Lib.hid hnr
  rw [hnr] at hnl
  clear hnr
  obtain ⟨bxc0, bxc1⟩ := cell2 bx.out
  go_wp2_with fail
  clear bxc0 bxc1
  refine (toCt_any n _ (Hn.out.on bw.out) Fn.out).mono ?_
  rintro e v2 ⟨t0n, rfl, t0p, t0c, t0h, hb⟩
  have t0P := Lib.hid t0p
  have t0F := Lib.hid (Fn.out.same t0p)
  have t0C := Lib.hid t0c
  clear t0p t0c
  unfold Ct.val
  have bw := Lib.hid (bw.out.trans (hb.mono bw.out.size))
  have bx := Lib.hid (bx.out.on hb)
  have sz2 := Lib.hid (show v1.heap.size ≤ v2.heap.size from hb.size)
  have t0 := Lib.hid (show HeldC v2 t0n v1.heap.size v2.heap.size from t0h)
  clear hb
  clear t0h
  go_wp2_with fail
  refine (specSeenC_any t0n _ (t0.out.lies (by have sz0_ := sz0.out; have sz1_ := sz1.out; have sz2_ := sz2.out; omega)) t0F.out t0C.out).mono ?_
  rintro e v3 hg
  rw [t0P.out, HNR.out] at hg
  obtain ⟨w0A, w0c, rfl, hh, hb⟩ := hg
  unfold Dep.slV
  have bw := Lib.hid (bw.out.trans (hb.mono bw.out.size))
  have bx := Lib.hid (bx.out.on hb)
  have t0 := Lib.hid (t0.out.step hb (.inr (Nat.le_refl _)))
  have sz3 := Lib.hid (show v2.heap.size ≤ v3.heap.size from hb.size)
  have w0 := Lib.hid (show Dep.Held v3 w0A nr v2.heap.size v3.heap.size from hh)
  clear hb
  clear hh
  clear t0
  obtain ⟨bxc0, bxc1⟩ := cell2 bx.out
  go_wp2_with fail
  clear bxc0 bxc1
  refine (toCt_any n _ (Hn.out.on bw.out) Fn.out).mono ?_
  rintro e v4 ⟨x0n, rfl, x0p, x0c, x0h, hb⟩
  have x0P := Lib.hid x0p
  have x0F := Lib.hid (Fn.out.same x0p)
  have x0C := Lib.hid x0c
  clear x0p x0c
  unfold Ct.val
  have bw := Lib.hid (bw.out.trans (hb.mono bw.out.size))
  have bx := Lib.hid (bx.out.on hb)
  have w0 := Lib.hid (w0.out.step hb (.inr (Nat.le_refl _)))
  have sz4 := Lib.hid (show v3.heap.size ≤ v4.heap.size from hb.size)
  have x0 := Lib.hid (show HeldC v4 x0n v3.heap.size v4.heap.size from x0h)
  clear hb
  clear x0h
  go_wp2_with fail
  have bw := Lib.hid (bw.out.alloc bw.out.size (Obj.cells #[Value.slice x0n.A x0n.s.length x0n.ca, Value.slice x0n.B x0n.m.length x0n.cb] 35))
  have bx := Lib.hid (bx.out.alloc (Obj.cells #[Value.slice x0n.A x0n.s.length x0n.ca, Value.slice x0n.B x0n.m.length x0n.cb] 35))
  have w0 := Lib.hid (w0.out.step ((Below.refl _ v4).alloc (Nat.le_refl _) (Obj.cells #[Value.slice x0n.A x0n.s.length x0n.ca, Value.slice x0n.B x0n.m.length x0n.cb] 35)) (.inr (Nat.le_refl _)))
  have x0 := Lib.hid (x0.out.step ((Below.refl _ v4).alloc (Nat.le_refl _) (Obj.cells #[Value.slice x0n.A x0n.s.length x0n.ca, Value.slice x0n.B x0n.m.length x0n.cb] 35)) (.inr (Nat.le_refl _)))
  have y0 := Lib.hid (show Blk (World.alloc v4 (Obj.cells #[Value.slice x0n.A x0n.s.length x0n.ca, Value.slice x0n.B x0n.m.length x0n.cb] 35)) v4.heap.size 35 #[Value.slice x0n.A x0n.s.length x0n.ca, Value.slice x0n.B x0n.m.length x0n.cb] from Blk.new v4 35 #[Value.slice x0n.A x0n.s.length x0n.ca, Value.slice x0n.B x0n.m.length x0n.cb])
  have sz5 := Lib.hid (show v4.heap.size + 1 = (World.alloc v4 (Obj.cells #[Value.slice x0n.A x0n.s.length x0n.ca, Value.slice x0n.B x0n.m.length x0n.cb] 35)).heap.size by simp)
  generalize World.alloc v4 _ = v5 at bw bx w0 x0 y0 sz5 ⊢
  refine (implSeenC_any x0n _ (x0.out.lies (by have sz0_ := sz0.out; have sz1_ := sz1.out; have sz2_ := sz2.out; have sz3_ := sz3.out; have sz4_ := sz4.out; have sz5_ := sz5.out; omega)) x0F.out x0C.out).mono ?_
  rintro e v6 hg
  rw [x0P.out, HNR.out] at hg
  obtain ⟨g0A, g0c, rfl, hh, hb⟩ := hg
  unfold Dep.slV
  have bw := Lib.hid (bw.out.trans (hb.mono bw.out.size))
  have bx := Lib.hid (bx.out.on hb)
  have w0 := Lib.hid (w0.out.step hb (.inr (Nat.le_refl _)))
  have x0 := Lib.hid (x0.out.step hb (.inr (Nat.le_refl _)))
  have y0 := Lib.hid (y0.out.on hb)
  have sz6 := Lib.hid (show v5.heap.size ≤ v6.heap.size from hb.size)
  have g0 := Lib.hid (show Dep.Held v6 g0A nr v5.heap.size v6.heap.size from hh)
  clear hb
  clear hh
  go_wp2_with fail
  refine (Dep.eqDepS_same g0A w0A nr g0c w0c _ (g0.out.lies (by have sz0_ := sz0.out; have sz1_ := sz1.out; have sz2_ := sz2.out; have sz3_ := sz3.out; have sz4_ := sz4.out; have sz5_ := sz5.out; have sz6_ := sz6.out; omega)) (w0.out.lies (by have sz0_ := sz0.out; have sz1_ := sz1.out; have sz2_ := sz2.out; have sz3_ := sz3.out; have sz4_ := sz4.out; have sz5_ := sz5.out; have sz6_ := sz6.out; omega)) (by unfold maxLen; omega)).mono ?_
  rintro e v7 ⟨rfl, hb⟩
  have bw := Lib.hid (bw.out.trans (hb.mono bw.out.size))
  have bx := Lib.hid (bx.out.on hb)
  have w0 := Lib.hid (w0.out.step hb (.inr (Nat.le_refl _)))
  have x0 := Lib.hid (x0.out.step hb (.inr (Nat.le_refl _)))
  have y0 := Lib.hid (y0.out.on hb)
  have g0 := Lib.hid (g0.out.step hb (.inr (Nat.le_refl _)))
  have sz7 := Lib.hid (show v6.heap.size ≤ v7.heap.size from hb.size)
  clear hb
  go_wp2_with fail
  refine wp_region_held_drew (S := (fun W => (Below w.heap.size w W) ∧ (Blk W w.heap.size 24 #[Value.slice n.A n.s.length n.ca, Value.slice n.B n.m.length n.cb]) ∧ (Dep.Held W w0A nr v2.heap.size v3.heap.size) ∧ (HeldC W x0n v3.heap.size v4.heap.size) ∧ (Blk W v4.heap.size 35 #[Value.slice x0n.A x0n.s.length x0n.ca, Value.slice x0n.B x0n.m.length x0n.cb]) ∧ (Dep.Held W g0A nr v5.heap.size v6.heap.size))) (by kernel_rfl) ?_ (fun hHeld => ?_)
  · exact ⟨bw.out.drew, bx.out, w0.out, x0.out.drew, y0.out, g0.out⟩
  refine wpAnyH_take (i := 0) (v := ?_) rfl (by kernel_rfl) (by kernel_rfl) (by kernel_rfl) (fun _ _ _ h => h) (Or.inl ⟨by rfl, ?_⟩) hHeld ?_
  rotate_left
  · intro W hSw
    obtain ⟨q_bw, q_bx, q_w0, q_x0, q_y0, q_g0⟩ := hSw
    obtain ⟨hbx0, hbx1⟩ := cell2 q_bx
    obtain ⟨hy00, hy01⟩ := cell2 q_y0
    go_simp
    try with_reducible rfl
  try simp only [Act.put, List.setIfInBounds_toArray, List.set_cons_zero, List.set_cons_succ, List.getElem_toArray, List.getElem_cons_zero]
  refine wpAnyH_take (i := 1) (v := ?_) rfl (by kernel_rfl) (by kernel_rfl) (by kernel_rfl) (fun _ _ _ h => h) (Or.inl ⟨by rfl, ?_⟩) hHeld ?_
  rotate_left
  · intro W hSw
    obtain ⟨q_bw, q_bx, q_w0, q_x0, q_y0, q_g0⟩ := hSw
    obtain ⟨hbx0, hbx1⟩ := cell2 q_bx
    obtain ⟨hy00, hy01⟩ := cell2 q_y0
    go_simp
    try with_reducible rfl
  try simp only [Act.put, List.setIfInBounds_toArray, List.set_cons_zero, List.set_cons_succ, List.getElem_toArray, List.getElem_cons_succ, List.getElem_cons_zero]
  refine wpAnyH_ready (rs := [2]) (by kernel_rfl) (by simp) ?_
  refine AllReadyH.cons rfl (fun K hK => ?_) AllReadyH.nil
  go_simp
  refine (toCt_any n _ (Hn.out.on hHeld.1) Fn.out).mono ?_
  rintro e v8 ⟨t1n, rfl, t1p, t1c, t1h, hb⟩
  have sz8 := Lib.hid (show v7.heap.size ≤ v8.heap.size from hb.size)
  have t1P := Lib.hid t1p
  have t1F := Lib.hid (Fn.out.same t1p)
  have t1C := Lib.hid t1c
  clear t1p t1c
  unfold Ct.val
  have t1 := Lib.hid (show HeldC v8 t1n v7.heap.size v8.heap.size from t1h)
  clear t1h
  refine hK.out _ _ ?_ (fun hHeld => ?_)
  · first | exact ⟨hHeld.1.trans (hb.mono hHeld.1.size), hHeld.2.1.on hb, hHeld.2.2.1.step hb (.inr (Nat.le_refl _)), hHeld.2.2.2.1.step hb (.inr (Nat.le_refl _)), hHeld.2.2.2.2.1.on hb, hHeld.2.2.2.2.2.step hb (.inr (Nat.le_refl _))⟩ | assumption
  clear hK K
  try simp only [Act.put, List.setIfInBounds_toArray, List.set_cons_zero, List.set_cons_succ, List.getElem_toArray, List.getElem_cons_succ, List.getElem_cons_zero]
  refine wpAnyH_ready (rs := [3]) (by kernel_rfl) (by simp) ?_
  refine AllReadyH.cons rfl (fun K hK => ?_) AllReadyH.nil
  go_simp
  refine (eqCt_same x0n t1n _ (hHeld.2.2.2.1.lies (by have sz0_ := sz0.out; have sz1_ := sz1.out; have sz2_ := sz2.out; have sz3_ := sz3.out; have sz4_ := sz4.out; have sz5_ := sz5.out; have sz6_ := sz6.out; have sz7_ := sz7.out; have sz8_ := sz8.out; omega)) (t1.out.lies (by have sz0_ := sz0.out; have sz1_ := sz1.out; have sz2_ := sz2.out; have sz3_ := sz3.out; have sz4_ := sz4.out; have sz5_ := sz5.out; have sz6_ := sz6.out; have sz7_ := sz7.out; have sz8_ := sz8.out; omega)) (x0P.out.trans t1P.out.symm) x0F.out).mono ?_
  rintro e v9 ⟨rfl, hb⟩
  have sz9 := Lib.hid (show v8.heap.size ≤ v9.heap.size from hb.size)
  have t1 := Lib.hid (t1.out.step hb (.inr (Nat.le_refl _)))
  refine hK.out _ _ ?_ (fun hHeld => ?_)
  · first | exact ⟨hHeld.1.trans (hb.mono hHeld.1.size), hHeld.2.1.on hb, hHeld.2.2.1.step hb (.inr (Nat.le_refl _)), hHeld.2.2.2.1.step hb (.inr (Nat.le_refl _)), hHeld.2.2.2.2.1.on hb, hHeld.2.2.2.2.2.step hb (.inr (Nat.le_refl _))⟩ | assumption
  clear hK K
  try simp only [Act.put, List.setIfInBounds_toArray, List.set_cons_zero, List.set_cons_succ, List.getElem_toArray, List.getElem_cons_succ, List.getElem_cons_zero]
  refine wpAnyH_take (i := 4) (v := ?_) rfl (by kernel_rfl) (by kernel_rfl) (by kernel_rfl) (fun _ _ _ h => h) (Or.inl ⟨by rfl, ?_⟩) hHeld ?_
  rotate_left
  · intro W hSw
    obtain ⟨q_bw, q_bx, q_w0, q_x0, q_y0, q_g0⟩ := hSw
    obtain ⟨hbx0, hbx1⟩ := cell2 q_bx
    obtain ⟨hy00, hy01⟩ := cell2 q_y0
    go_simp
    try with_reducible rfl
  try simp only [Act.put, List.setIfInBounds_toArray, List.set_cons_zero, List.set_cons_succ, List.getElem_toArray, List.getElem_cons_succ, List.getElem_cons_zero]
  refine wpAnyH_done (by kernel_rfl) ?_ _
  obtain ⟨bw_, bx_, w0_, x0_, y0_, g0_⟩ := hHeld
  have bw := Lib.hid bw_
  have bx := Lib.hid bx_
  have w0 := Lib.hid w0_
  have x0 := Lib.hid x0_
  have y0 := Lib.hid y0_
  have g0 := Lib.hid g0_
  clear bw_ bx_ w0_ x0_ y0_ g0_
  clear t1 t1P t1F t1C
  obtain ⟨y0c0, y0c1⟩ := cell2 y0.out
  go_wp2_with fail
  clear y0c0 y0c1
  have := x0F.out.kC_le
  refine (markCt_any x0n 1 _ _ _ x0.out x0F.out (by have := x0F.out.kC_le; omega)).mono ?_
  rintro e v10 ⟨rfl, hh, ht⟩
  have bw := Lib.hid (ht.below bw.out (by have sz0_ := sz0.out; have sz1_ := sz1.out; have sz2_ := sz2.out; have sz3_ := sz3.out; have sz4_ := sz4.out; have sz5_ := sz5.out; have sz6_ := sz6.out; have sz7_ := sz7.out; have sz8_ := sz8.out; have sz9_ := sz9.out; omega))
  have bx := Lib.hid (ht.blk bx.out (by decide))
  have w0 := Lib.hid (ht.dep w0.out (by have sz0_ := sz0.out; have sz1_ := sz1.out; have sz2_ := sz2.out; have sz3_ := sz3.out; have sz4_ := sz4.out; have sz5_ := sz5.out; have sz6_ := sz6.out; have sz7_ := sz7.out; have sz8_ := sz8.out; have sz9_ := sz9.out; omega))
  have x0 := Lib.hid (show HeldC v10 (mkC 1 x0n) v3.heap.size v4.heap.size from hh)
  have y0 := Lib.hid (ht.blk y0.out (by decide))
  have g0 := Lib.hid (ht.dep g0.out (by have sz0_ := sz0.out; have sz1_ := sz1.out; have sz2_ := sz2.out; have sz3_ := sz3.out; have sz4_ := sz4.out; have sz5_ := sz5.out; have sz6_ := sz6.out; have sz7_ := sz7.out; have sz8_ := sz8.out; have sz9_ := sz9.out; omega))
  have sz10 := Lib.hid (show v9.heap.size ≤ v10.heap.size from ht.size)
  clear hh ht
  have hkx : ¬ ((1 + kC x0n : Nat) : Int) < 0 := by omega
  obtain ⟨zx, hzx⟩ : ∃ z : Nat, 1 + kC x0n = z := ⟨_, rfl⟩
  have Hzx := Lib.hid hzx
  rw [hzx] at hkx ⊢
  clear hzx
  clear x0
  go_wp2_with fail
  refine (Dep.eqDepS_same g0A w0A nr g0c w0c _ (g0.out.lies (by have sz0_ := sz0.out; have sz1_ := sz1.out; have sz2_ := sz2.out; have sz3_ := sz3.out; have sz4_ := sz4.out; have sz5_ := sz5.out; have sz6_ := sz6.out; have sz7_ := sz7.out; have sz8_ := sz8.out; have sz9_ := sz9.out; have sz10_ := sz10.out; omega)) (w0.out.lies (by have sz0_ := sz0.out; have sz1_ := sz1.out; have sz2_ := sz2.out; have sz3_ := sz3.out; have sz4_ := sz4.out; have sz5_ := sz5.out; have sz6_ := sz6.out; have sz7_ := sz7.out; have sz8_ := sz8.out; have sz9_ := sz9.out; have sz10_ := sz10.out; omega)) (by unfold maxLen; omega)).mono ?_
  rintro e v11 ⟨rfl, hb⟩
  have bw := Lib.hid (bw.out.trans (hb.mono bw.out.size))
  have bx := Lib.hid (bx.out.on hb)
  have w0 := Lib.hid (w0.out.step hb (.inr (Nat.le_refl _)))
  have y0 := Lib.hid (y0.out.on hb)
  have g0 := Lib.hid (g0.out.step hb (.inr (Nat.le_refl _)))
  have sz11 := Lib.hid (show v10.heap.size ≤ v11.heap.size from hb.size)
  clear hb
  go_wp2_with fail
  refine (Dep.mark_any g0A nr g0c 1 _ _ _ g0.out (by omega) (by omega)).mono ?_
  rintro e v12 ⟨rfl, hh, ht⟩
  have ht := Tch.ofDeps (ts := tsR) ht (by decide)
  have bw := Lib.hid (ht.below bw.out (by have sz0_ := sz0.out; have sz1_ := sz1.out; have sz2_ := sz2.out; have sz3_ := sz3.out; have sz4_ := sz4.out; have sz5_ := sz5.out; have sz6_ := sz6.out; have sz7_ := sz7.out; have sz8_ := sz8.out; have sz9_ := sz9.out; have sz10_ := sz10.out; have sz11_ := sz11.out; omega))
  have bx := Lib.hid (ht.blk bx.out (by decide))
  have w0 := Lib.hid (ht.dep w0.out (by have sz0_ := sz0.out; have sz1_ := sz1.out; have sz2_ := sz2.out; have sz3_ := sz3.out; have sz4_ := sz4.out; have sz5_ := sz5.out; have sz6_ := sz6.out; have sz7_ := sz7.out; have sz8_ := sz8.out; have sz9_ := sz9.out; have sz10_ := sz10.out; have sz11_ := sz11.out; omega))
  have y0 := Lib.hid (ht.blk y0.out (by decide))
  have g0 := Lib.hid (show Dep.Held v12 g0A (Dep.marks 1 nr.length) v5.heap.size v6.heap.size from hh)
  have sz12 := Lib.hid (show v11.heap.size ≤ v12.heap.size from ht.size)
  clear hh ht
  have hk3 : ¬ ((1 + 4 * nr.length : Nat) : Int) < 0 := by omega
  obtain ⟨z1, hz1⟩ : ∃ z : Nat, 1 + 4 * nr.length = z := ⟨_, rfl⟩
  have Hz1 := Lib.hid hz1
  rw [hz1] at hk3 ⊢
  clear hz1
  have hze : ((z1 : Int) != (z1 : Int)) = false := by simp
  go_wp2_with fail
  refine (Dep.heldDepS_any g0A nr.length g0c 1 _ (g0.out.lies (by have sz0_ := sz0.out; have sz1_ := sz1.out; have sz2_ := sz2.out; have sz3_ := sz3.out; have sz4_ := sz4.out; have sz5_ := sz5.out; have sz6_ := sz6.out; have sz7_ := sz7.out; have sz8_ := sz8.out; have sz9_ := sz9.out; have sz10_ := sz10.out; have sz11_ := sz11.out; have sz12_ := sz12.out; omega)) (by omega) (by omega)).mono ?_
  rintro e v13 ⟨rfl, hb⟩
  have bw := Lib.hid (bw.out.trans (hb.mono bw.out.size))
  have bx := Lib.hid (bx.out.on hb)
  have w0 := Lib.hid (w0.out.step hb (.inr (Nat.le_refl _)))
  have y0 := Lib.hid (y0.out.on hb)
  have g0 := Lib.hid (g0.out.step hb (.inr (Nat.le_refl _)))
  have sz13 := Lib.hid (show v12.heap.size ≤ v13.heap.size from hb.size)
  clear hb
  rw [Hz1.out]
  obtain ⟨bxc0, bxc1⟩ := cell2 bx.out
  go_wp2_with fail
  clear bxc0 bxc1
  refine (toCt_any n _ (Hn.out.on bw.out) Fn.out).mono ?_
  rintro e v14 ⟨x2n, rfl, x2p, x2c, x2h, hb⟩
  have x2P := Lib.hid x2p
  have x2F := Lib.hid (Fn.out.same x2p)
  have x2C := Lib.hid x2c
  clear x2p x2c
  unfold Ct.val
  have bw := Lib.hid (bw.out.trans (hb.mono bw.out.size))
  have bx := Lib.hid (bx.out.on hb)
  have w0 := Lib.hid (w0.out.step hb (.inr (Nat.le_refl _)))
  have y0 := Lib.hid (y0.out.on hb)
  have g0 := Lib.hid (g0.out.step hb (.inr (Nat.le_refl _)))
  have sz14 := Lib.hid (show v13.heap.size ≤ v14.heap.size from hb.size)
  have x2 := Lib.hid (show HeldC v14 x2n v13.heap.size v14.heap.size from x2h)
  clear hb
  clear x2h
  go_wp2_with fail
  refine (implSeenC_any x2n _ (x2.out.lies (by have sz0_ := sz0.out; have sz1_ := sz1.out; have sz2_ := sz2.out; have sz3_ := sz3.out; have sz4_ := sz4.out; have sz5_ := sz5.out; have sz6_ := sz6.out; have sz7_ := sz7.out; have sz8_ := sz8.out; have sz9_ := sz9.out; have sz10_ := sz10.out; have sz11_ := sz11.out; have sz12_ := sz12.out; have sz13_ := sz13.out; have sz14_ := sz14.out; omega)) x2F.out x2C.out).mono ?_
  rintro e v15 hg
  rw [x2P.out, HNR.out] at hg
  obtain ⟨h0A, h0c, rfl, hh, hb⟩ := hg
  unfold Dep.slV
  have bw := Lib.hid (bw.out.trans (hb.mono bw.out.size))
  have bx := Lib.hid (bx.out.on hb)
  have w0 := Lib.hid (w0.out.step hb (.inr (Nat.le_refl _)))
  have y0 := Lib.hid (y0.out.on hb)
  have g0 := Lib.hid (g0.out.step hb (.inr (Nat.le_refl _)))
  have x2 := Lib.hid (x2.out.step hb (.inr (Nat.le_refl _)))
  have sz15 := Lib.hid (show v14.heap.size ≤ v15.heap.size from hb.size)
  have h0 := Lib.hid (show Dep.Held v15 h0A nr v14.heap.size v15.heap.size from hh)
  clear hb
  clear hh
  clear x2
  go_wp2_with fail
  refine (Dep.eqDepS_same h0A w0A nr h0c w0c _ (h0.out.lies (by have sz0_ := sz0.out; have sz1_ := sz1.out; have sz2_ := sz2.out; have sz3_ := sz3.out; have sz4_ := sz4.out; have sz5_ := sz5.out; have sz6_ := sz6.out; have sz7_ := sz7.out; have sz8_ := sz8.out; have sz9_ := sz9.out; have sz10_ := sz10.out; have sz11_ := sz11.out; have sz12_ := sz12.out; have sz13_ := sz13.out; have sz14_ := sz14.out; have sz15_ := sz15.out; omega)) (w0.out.lies (by have sz0_ := sz0.out; have sz1_ := sz1.out; have sz2_ := sz2.out; have sz3_ := sz3.out; have sz4_ := sz4.out; have sz5_ := sz5.out; have sz6_ := sz6.out; have sz7_ := sz7.out; have sz8_ := sz8.out; have sz9_ := sz9.out; have sz10_ := sz10.out; have sz11_ := sz11.out; have sz12_ := sz12.out; have sz13_ := sz13.out; have sz14_ := sz14.out; have sz15_ := sz15.out; omega)) (by unfold maxLen; omega)).mono ?_
  rintro e v16 ⟨rfl, hb⟩
  have bw := Lib.hid (bw.out.trans (hb.mono bw.out.size))
  have bx := Lib.hid (bx.out.on hb)
  have w0 := Lib.hid (w0.out.step hb (.inr (Nat.le_refl _)))
  have y0 := Lib.hid (y0.out.on hb)
  have g0 := Lib.hid (g0.out.step hb (.inr (Nat.le_refl _)))
  have h0 := Lib.hid (h0.out.step hb (.inr (Nat.le_refl _)))
  have sz16 := Lib.hid (show v15.heap.size ≤ v16.heap.size from hb.size)
  clear hb
  go_wp2_with fail
  refine (Dep.heldDepS_any g0A nr.length g0c 1 _ (g0.out.lies (by have sz0_ := sz0.out; have sz1_ := sz1.out; have sz2_ := sz2.out; have sz3_ := sz3.out; have sz4_ := sz4.out; have sz5_ := sz5.out; have sz6_ := sz6.out; have sz7_ := sz7.out; have sz8_ := sz8.out; have sz9_ := sz9.out; have sz10_ := sz10.out; have sz11_ := sz11.out; have sz12_ := sz12.out; have sz13_ := sz13.out; have sz14_ := sz14.out; have sz15_ := sz15.out; have sz16_ := sz16.out; omega)) (by omega) (by omega)).mono ?_
  rintro e v17 ⟨rfl, hb⟩
  have bw := Lib.hid (bw.out.trans (hb.mono bw.out.size))
  have bx := Lib.hid (bx.out.on hb)
  have w0 := Lib.hid (w0.out.step hb (.inr (Nat.le_refl _)))
  have y0 := Lib.hid (y0.out.on hb)
  have g0 := Lib.hid (g0.out.step hb (.inr (Nat.le_refl _)))
  have h0 := Lib.hid (h0.out.step hb (.inr (Nat.le_refl _)))
  have sz17 := Lib.hid (show v16.heap.size ≤ v17.heap.size from hb.size)
  clear hb
  rw [Hz1.out]
  go_wp2_with fail
  go_ret
  exact ⟨rfl, bw.out⟩
end Go.Proofs.YtegnjbdgeibhfaaGreat.Rs
