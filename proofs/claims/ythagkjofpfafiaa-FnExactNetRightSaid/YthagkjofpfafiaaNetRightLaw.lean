/-
  FnExactNetRight answers true at every net.
-/
import Derived.Test.YthagkjofpfafiaaNetSRight
import Derived.Test.YthagkjofpfafiaaNetIRight
import Derived.Test.YthagkjofpfafiaaNetFew
namespace Go.Proofs.Ythagkjofpfafiaa.Net
open Go.ChangeShapes Go.WideShapes Go.ChangeAt Go.RowKit
open Sto (R Sl)
set_option linter.unusedVariables false
set_option maxRecDepth 100000
set_option linter.unusedSimpArgs false

set_option maxHeartbeats 8000000 in
set_option maxRecDepth 100000 in
theorem lawRight_any (n : Nt)  (w : World) (h : IsNet w n) :
    Calls Try.prog 3 #[n.val] w fun e w' => e = .returned (.bool true) ∧ Below w.heap.size w w' := by
  have HFI := Lib.hid h.fine
  obtain ⟨hn, hq1, hq2, -⟩ := h
  have H := Lib.hid hn
  have B0 := (Below.refl w.heap.size w).alloc (Nat.le_refl _) (.cells #[Value.slice n.A n.s.length n.ca, Value.slice n.B n.m.length n.cb] 25)
  have X0 := Blk.new w 25 #[Value.slice n.A n.s.length n.ca, Value.slice n.B n.m.length n.cb]
  have bw := Lib.hid B0
  have bx := Lib.hid X0
  clear hn B0 X0
  unfold Nt.val
  go_enter Try.func3, Try.ntmps3
  go_wp2_with fail
  generalize World.alloc w _ = v0 at bw bx ⊢
  have sz0 := Lib.hid (show w.heap.size ≤ v0.heap.size from bw.out.size)
  refine (szNet_any n _ (H.out.on bw.out) hq1 hq2 HFI.out).mono ?_
  rintro e v1 ⟨m1, rfl, hm1, hb⟩
  have bw := Lib.hid (bw.out.trans (hb.mono bw.out.size))
  have bx := Lib.hid (bx.out.on hb)
  have sz1 := Lib.hid (show v0.heap.size ≤ v1.heap.size from hb.size)
  clear hb
  rcases hm1 with rfl | ⟨m10, m11, sm1⟩
  · go_wp2_with fail
    go_ret
    exact ⟨rfl, bw.out⟩
  have m100 : ¬ m1 < 0 := by omega
  have HS := Lib.hid sm1
  have hs1 : n.s.length ≤ 1048576 := by have := sm1.1; omega
  have hs2 : n.m.length ≤ 1048576 := by have := sm1.1; omega
  have HL := Lib.hid (show ∀ x ∈ n.all, x.l.length ≤ 1048576 from fun x hx => by have := tot_mem hx; have := HS.out.1; omega)
  clear sm1
  obtain ⟨bb, hbb⟩ : ∃ bb, netB (pl n) = bb := ⟨_, rfl⟩
  have HBB := Lib.hid hbb
  clear hbb
  have hbe : (bb != bb) = false := by cases bb <;> rfl
  have hbe2 : (bb == bb) = true := by cases bb <;> rfl
  obtain ⟨bxc0, bxc1⟩ := blk2 bx.out
  go_wp2_with fail
  clear bxc0 bxc1
  refine (toNet_any n _ (H.out.on bw.out) hs1 hs2 HL.out).mono ?_
  rintro e v2 ⟨t0n, rfl, t0p, t0h, hb⟩
  have t0P := Lib.hid t0p
  clear t0p
  unfold Nt.val
  have bw := Lib.hid (bw.out.trans (hb.mono bw.out.size))
  have bx := Lib.hid (bx.out.on hb)
  have sz2 := Lib.hid (show v1.heap.size ≤ v2.heap.size from hb.size)
  have t0 := Lib.hid (show HeldN v2 t0n v1.heap.size v2.heap.size from t0h)
  clear hb
  clear t0h
  go_wp2_with fail
  refine (specRight_any t0n _ (t0.out.lies (by have sz0_ := sz0.out; have sz1_ := sz1.out; have sz2_ := sz2.out; omega)) (little_pl t0P.out HS.out)).mono ?_
  rintro e v3 ⟨rfl, hb⟩
  have bw := Lib.hid (bw.out.trans (hb.mono bw.out.size))
  have bx := Lib.hid (bx.out.on hb)
  have t0 := Lib.hid (t0.out.step hb (.inr (Nat.le_refl _)))
  have sz3 := Lib.hid (show v2.heap.size ≤ v3.heap.size from hb.size)
  clear hb
  clear t0
  rw [t0P.out, HBB.out]
  clear t0P
  obtain ⟨bxc0, bxc1⟩ := blk2 bx.out
  go_wp2_with fail
  clear bxc0 bxc1
  refine (toNet_any n _ (H.out.on bw.out) hs1 hs2 HL.out).mono ?_
  rintro e v4 ⟨x0n, rfl, x0p, x0h, hb⟩
  have x0P := Lib.hid x0p
  clear x0p
  unfold Nt.val
  have bw := Lib.hid (bw.out.trans (hb.mono bw.out.size))
  have bx := Lib.hid (bx.out.on hb)
  have sz4 := Lib.hid (show v3.heap.size ≤ v4.heap.size from hb.size)
  have x0 := Lib.hid (show HeldN v4 x0n v3.heap.size v4.heap.size from x0h)
  clear hb
  clear x0h
  have x0F := Lib.hid (few_of x0P.out HS.out)
  go_wp2_with fail
  have bw := Lib.hid (bw.out.alloc bw.out.size (Obj.cells #[Value.slice x0n.A x0n.s.length x0n.ca, Value.slice x0n.B x0n.m.length x0n.cb] 31))
  have bx := Lib.hid (bx.out.alloc (Obj.cells #[Value.slice x0n.A x0n.s.length x0n.ca, Value.slice x0n.B x0n.m.length x0n.cb] 31))
  have x0 := Lib.hid (x0.out.step ((Below.refl _ v4).alloc (Nat.le_refl _) (Obj.cells #[Value.slice x0n.A x0n.s.length x0n.ca, Value.slice x0n.B x0n.m.length x0n.cb] 31)) (.inr (Nat.le_refl _)))
  have b0 := Lib.hid (show Blk (World.alloc v4 (Obj.cells #[Value.slice x0n.A x0n.s.length x0n.ca, Value.slice x0n.B x0n.m.length x0n.cb] 31)) v4.heap.size 31 #[Value.slice x0n.A x0n.s.length x0n.ca, Value.slice x0n.B x0n.m.length x0n.cb] from Blk.new v4 31 #[Value.slice x0n.A x0n.s.length x0n.ca, Value.slice x0n.B x0n.m.length x0n.cb])
  have sz5 := Lib.hid (show v4.heap.size + 1 = (World.alloc v4 (Obj.cells #[Value.slice x0n.A x0n.s.length x0n.ca, Value.slice x0n.B x0n.m.length x0n.cb] 31)).heap.size by simp)
  generalize World.alloc v4 _ = v5 at bw bx x0 b0 sz5 ⊢
  refine (implRight_any x0n _ (x0.out.lies (by have sz0_ := sz0.out; have sz1_ := sz1.out; have sz2_ := sz2.out; have sz3_ := sz3.out; have sz4_ := sz4.out; have sz5_ := sz5.out; omega)) (little_pl x0P.out HS.out)).mono ?_
  rintro e v6 ⟨rfl, hb⟩
  have bw := Lib.hid (bw.out.trans (hb.mono bw.out.size))
  have bx := Lib.hid (bx.out.on hb)
  have x0 := Lib.hid (x0.out.step hb (.inr (Nat.le_refl _)))
  have b0 := Lib.hid (b0.out.on hb)
  have sz6 := Lib.hid (show v5.heap.size ≤ v6.heap.size from hb.size)
  clear hb
  rw [x0P.out, HBB.out]
  go_wp2_with fail
  refine wp_region_held_drew (S := (fun W => (Below w.heap.size w W) ∧ (Blk W w.heap.size 25 #[Value.slice n.A n.s.length n.ca, Value.slice n.B n.m.length n.cb]) ∧ (HeldN W x0n v3.heap.size v4.heap.size) ∧ (Blk W v4.heap.size 31 #[Value.slice x0n.A x0n.s.length x0n.ca, Value.slice x0n.B x0n.m.length x0n.cb]))) (by kernel_rfl) ?_ (fun hHeld => ?_)
  · exact ⟨bw.out.drew, bx.out, x0.out.drew, b0.out⟩
  refine wpAnyH_take (i := 0) (v := ?_) rfl (by kernel_rfl) (by kernel_rfl) (by kernel_rfl) (fun _ _ _ h => h) (Or.inl ⟨by rfl, ?_⟩) hHeld ?_
  rotate_left
  · intro W hSw
    obtain ⟨q_bw, q_bx, q_x0, q_b0⟩ := hSw
    obtain ⟨hbx0, hbx1⟩ := blk2 q_bx
    obtain ⟨hb00, hb01⟩ := blk2 q_b0
    go_simp
    try with_reducible rfl
  try simp only [Act.put, List.setIfInBounds_toArray, List.set_cons_zero, List.set_cons_succ, List.getElem_toArray, List.getElem_cons_zero]
  refine wpAnyH_take (i := 1) (v := ?_) rfl (by kernel_rfl) (by kernel_rfl) (by kernel_rfl) (fun _ _ _ h => h) (Or.inl ⟨by rfl, ?_⟩) hHeld ?_
  rotate_left
  · intro W hSw
    obtain ⟨q_bw, q_bx, q_x0, q_b0⟩ := hSw
    obtain ⟨hbx0, hbx1⟩ := blk2 q_bx
    obtain ⟨hb00, hb01⟩ := blk2 q_b0
    go_simp
    try with_reducible rfl
  try simp only [Act.put, List.setIfInBounds_toArray, List.set_cons_zero, List.set_cons_succ, List.getElem_toArray, List.getElem_cons_succ, List.getElem_cons_zero]
  refine wpAnyH_ready (rs := [2]) (by kernel_rfl) (by simp) ?_
  refine AllReadyH.cons rfl (fun K hK => ?_) AllReadyH.nil
  go_simp
  refine (toNet_any n _ (H.out.on hHeld.1) hs1 hs2 HL.out).mono ?_
  rintro e v7 ⟨t1n, rfl, t1p, t1h, hb⟩
  have sz7 := Lib.hid (show v6.heap.size ≤ v7.heap.size from hb.size)
  have t1P := Lib.hid t1p
  clear t1p
  unfold Nt.val
  have t1 := Lib.hid (show HeldN v7 t1n v6.heap.size v7.heap.size from t1h)
  clear t1h
  refine hK.out _ _ ?_ (fun hHeld => ?_)
  · first | exact ⟨hHeld.1.trans (hb.mono hHeld.1.size), hHeld.2.1.on hb, hHeld.2.2.1.step hb (.inr (Nat.le_refl _)), hHeld.2.2.2.on hb⟩ | assumption
  clear hK K
  try simp only [Act.put, List.setIfInBounds_toArray, List.set_cons_zero, List.set_cons_succ, List.getElem_toArray, List.getElem_cons_succ, List.getElem_cons_zero]
  refine wpAnyH_ready (rs := [3]) (by kernel_rfl) (by simp) ?_
  refine AllReadyH.cons rfl (fun K hK => ?_) AllReadyH.nil
  go_simp
  refine (eqNet_same x0n t1n _ (hHeld.2.2.1.lies (by have sz0_ := sz0.out; have sz1_ := sz1.out; have sz2_ := sz2.out; have sz3_ := sz3.out; have sz4_ := sz4.out; have sz5_ := sz5.out; have sz6_ := sz6.out; have sz7_ := sz7.out; omega)) (t1.out.lies (by have sz0_ := sz0.out; have sz1_ := sz1.out; have sz2_ := sz2.out; have sz3_ := sz3.out; have sz4_ := sz4.out; have sz5_ := sz5.out; have sz6_ := sz6.out; have sz7_ := sz7.out; omega)) (x0P.out.trans t1P.out.symm) x0F.out.1).mono ?_
  rintro e v8 ⟨rfl, hb⟩
  have sz8 := Lib.hid (show v7.heap.size ≤ v8.heap.size from hb.size)
  have t1 := Lib.hid (t1.out.step hb (.inr (Nat.le_refl _)))
  refine hK.out _ _ ?_ (fun hHeld => ?_)
  · first | exact ⟨hHeld.1.trans (hb.mono hHeld.1.size), hHeld.2.1.on hb, hHeld.2.2.1.step hb (.inr (Nat.le_refl _)), hHeld.2.2.2.on hb⟩ | assumption
  clear hK K
  try simp only [Act.put, List.setIfInBounds_toArray, List.set_cons_zero, List.set_cons_succ, List.getElem_toArray, List.getElem_cons_succ, List.getElem_cons_zero]
  refine wpAnyH_take (i := 4) (v := ?_) rfl (by kernel_rfl) (by kernel_rfl) (by kernel_rfl) (fun _ _ _ h => h) (Or.inl ⟨by rfl, ?_⟩) hHeld ?_
  rotate_left
  · intro W hSw
    obtain ⟨q_bw, q_bx, q_x0, q_b0⟩ := hSw
    obtain ⟨hbx0, hbx1⟩ := blk2 q_bx
    obtain ⟨hb00, hb01⟩ := blk2 q_b0
    go_simp
    try with_reducible rfl
  try simp only [Act.put, List.setIfInBounds_toArray, List.set_cons_zero, List.set_cons_succ, List.getElem_toArray, List.getElem_cons_succ, List.getElem_cons_zero]
  refine wpAnyH_done (by kernel_rfl) ?_ _
  obtain ⟨bw_, bx_, x0_, b0_⟩ := hHeld
  have bw := Lib.hid bw_
  have bx := Lib.hid bx_
  have x0 := Lib.hid x0_
  have b0 := Lib.hid b0_
  clear bw_ bx_ x0_ b0_
  clear t1 t1P
  go_wp2_with fail
  go_ret
  exact ⟨rfl, bw.out⟩
end Go.Proofs.Ythagkjofpfafiaa.Net
