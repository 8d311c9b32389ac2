/-
  FnExactShimRight answers true at every shim.
-/
import Derived.Test.YtegnjbdgeibhfaaGreatRsShR
namespace Go.Proofs.YtegnjbdgeibhfaaGreat.Rs
open Go.ChangeShapes Go.WideShapes Go.ChangeAt Go.RowKit
open Rec (R P Sound Small recV cellsV)
open Dep (D I)
set_option linter.unusedVariables false
set_option maxRecDepth 100000
set_option linter.unusedSimpArgs false

set_option maxHeartbeats 8000000 in
set_option maxRecDepth 100000 in
theorem lawShimRight_any (s : Sh) (w : World) (hs : IsSh w s) :
    Calls Tryz.prog 7 #[s.val] w fun e w' => e = .returned (.bool true) ∧ Below w.heap.size w w' := by
  obtain ⟨s0, s1, s2, s3, s4, s5⟩ := hs
  have Hs := Lib.hid s0
  have Ks := Lib.hid s2
  have Qs := Lib.hid s5
  clear s0 s2 s5
  have bw := Lib.hid ((Below.refl w.heap.size w).alloc (Nat.le_refl _) (Obj.cells #[Value.int IntKind.i64 s.me, Value.int IntKind.i64 s.ep, Value.int IntKind.i64 s.ck, Value.slice s.A s.l.length s.c, Value.slice s.n.A s.n.s.length s.n.ca, Value.slice s.n.B s.n.m.length s.n.cb] 60))
  have bx := Lib.hid (Blk.new w 60 #[Value.int IntKind.i64 s.me, Value.int IntKind.i64 s.ep, Value.int IntKind.i64 s.ck, Value.slice s.A s.l.length s.c, Value.slice s.n.A s.n.s.length s.n.ca, Value.slice s.n.B s.n.m.length s.n.cb])
  unfold Sh.val
  go_enter Tryz.func7, Tryz.ntmps7
  go_wp2_with fail
  generalize World.alloc w _ = v0 at bw bx ⊢
  have sz0 := Lib.hid (show w.heap.size ≤ v0.heap.size from bw.out.size)
  refine (szSh_any s 1048576 _ (Hs.out.on bw.out) s1 Ks.out s3 s4 Qs.out (by omega) (by omega)).mono ?_
  rintro e v1 ⟨m1, rfl, hm1, hb⟩
  have bw := Lib.hid (bw.out.trans (hb.mono bw.out.size))
  have bx := Lib.hid (bx.out.on hb)
  have sz1 := Lib.hid (show v0.heap.size ≤ v1.heap.size from hb.size)
  clear hb
  rcases hm1 with rfl | ⟨m10, sm1, m1t⟩
  · go_wp2_with fail
    go_ret
    exact ⟨rfl, bw.out⟩
  have Fs := Lib.hid sm1
  have m100 : ¬ m1 < 0 := by omega
  have m1k : m1 ≤ 1048576 := by omega
  clear sm1
  obtain ⟨bb, hbb⟩ : ∃ bb, shB (ps s) = bb := ⟨_, rfl⟩
  have HBB := Lib.hid hbb
  clear hbb
  have hbe : (bb != bb) = false := by cases bb <;> rfl
  have hbe2 : (bb == bb) = true := by cases bb <;> rfl
  obtain ⟨bxc0, bxc1, bxc2, bxc3, bxc4, bxc5⟩ := cell6 bx.out
  go_wp2_with fail
  clear bxc0 bxc1 bxc2 bxc3 bxc4 bxc5
  refine (toSh_any s _ (Hs.out.on bw.out) Fs.out).mono ?_
  rintro e v2 ⟨t0n, rfl, t0p, t0c, t0h, hb⟩
  have t0P := Lib.hid t0p
  have t0F := Lib.hid (Fs.out.same t0p)
  have t0C := Lib.hid t0c
  clear t0p t0c
  unfold Sh.val
  have bw := Lib.hid (bw.out.trans (hb.mono bw.out.size))
  have bx := Lib.hid (bx.out.on hb)
  have sz2 := Lib.hid (show v1.heap.size ≤ v2.heap.size from hb.size)
  have t0 := Lib.hid (show HeldS v2 t0n v1.heap.size v2.heap.size from t0h)
  clear hb
  clear t0h
  go_wp2_with fail
  refine (specSh_any t0n _ (t0.out.lies (by have sz0_ := sz0.out; have sz1_ := sz1.out; have sz2_ := sz2.out; omega)) t0F.out t0C.out).mono ?_
  rintro e v3 ⟨rfl, hb⟩
  have bw := Lib.hid (bw.out.trans (hb.mono bw.out.size))
  have bx := Lib.hid (bx.out.on hb)
  have t0 := Lib.hid (t0.out.step hb (.inr (Nat.le_refl _)))
  have sz3 := Lib.hid (show v2.heap.size ≤ v3.heap.size from hb.size)
  clear hb
  rw [t0P.out, HBB.out]
  clear t0
  obtain ⟨bxc0, bxc1, bxc2, bxc3, bxc4, bxc5⟩ := cell6 bx.out
  go_wp2_with fail
  clear bxc0 bxc1 bxc2 bxc3 bxc4 bxc5
  refine (toSh_any s _ (Hs.out.on bw.out) Fs.out).mono ?_
  rintro e v4 ⟨x0n, rfl, x0p, x0c, x0h, hb⟩
  have x0P := Lib.hid x0p
  have x0F := Lib.hid (Fs.out.same x0p)
  have x0C := Lib.hid x0c
  clear x0p x0c
  unfold Sh.val
  have bw := Lib.hid (bw.out.trans (hb.mono bw.out.size))
  have bx := Lib.hid (bx.out.on hb)
  have sz4 := Lib.hid (show v3.heap.size ≤ v4.heap.size from hb.size)
  have x0 := Lib.hid (show HeldS v4 x0n v3.heap.size v4.heap.size from x0h)
  clear hb
  clear x0h
  go_wp2_with fail
  have bw := Lib.hid (bw.out.alloc bw.out.size (Obj.cells #[Value.int IntKind.i64 x0n.me, Value.int IntKind.i64 x0n.ep, Value.int IntKind.i64 x0n.ck, Value.slice x0n.A x0n.l.length x0n.c, Value.slice x0n.n.A x0n.n.s.length x0n.n.ca, Value.slice x0n.n.B x0n.n.m.length x0n.n.cb] 64))
  have bx := Lib.hid (bx.out.alloc (Obj.cells #[Value.int IntKind.i64 x0n.me, Value.int IntKind.i64 x0n.ep, Value.int IntKind.i64 x0n.ck, Value.slice x0n.A x0n.l.length x0n.c, Value.slice x0n.n.A x0n.n.s.length x0n.n.ca, Value.slice x0n.n.B x0n.n.m.length x0n.n.cb] 64))
  have x0 := Lib.hid (x0.out.step ((Below.refl _ v4).alloc (Nat.le_refl _) (Obj.cells #[Value.int IntKind.i64 x0n.me, Value.int IntKind.i64 x0n.ep, Value.int IntKind.i64 x0n.ck, Value.slice x0n.A x0n.l.length x0n.c, Value.slice x0n.n.A x0n.n.s.length x0n.n.ca, Value.slice x0n.n.B x0n.n.m.length x0n.n.cb] 64)) (.inr (Nat.le_refl _)))
  have y0 := Lib.hid (show Blk (World.alloc v4 (Obj.cells #[Value.int IntKind.i64 x0n.me, Value.int IntKind.i64 x0n.ep, Value.int IntKind.i64 x0n.ck, Value.slice x0n.A x0n.l.length x0n.c, Value.slice x0n.n.A x0n.n.s.length x0n.n.ca, Value.slice x0n.n.B x0n.n.m.length x0n.n.cb] 64)) v4.heap.size 64 #[Value.int IntKind.i64 x0n.me, Value.int IntKind.i64 x0n.ep, Value.int IntKind.i64 x0n.ck, Value.slice x0n.A x0n.l.length x0n.c, Value.slice x0n.n.A x0n.n.s.length x0n.n.ca, Value.slice x0n.n.B x0n.n.m.length x0n.n.cb] from Blk.new v4 64 #[Value.int IntKind.i64 x0n.me, Value.int IntKind.i64 x0n.ep, Value.int IntKind.i64 x0n.ck, Value.slice x0n.A x0n.l.length x0n.c, Value.slice x0n.n.A x0n.n.s.length x0n.n.ca, Value.slice x0n.n.B x0n.n.m.length x0n.n.cb])
  have sz5 := Lib.hid (show v4.heap.size + 1 = (World.alloc v4 (Obj.cells #[Value.int IntKind.i64 x0n.me, Value.int IntKind.i64 x0n.ep, Value.int IntKind.i64 x0n.ck, Value.slice x0n.A x0n.l.length x0n.c, Value.slice x0n.n.A x0n.n.s.length x0n.n.ca, Value.slice x0n.n.B x0n.n.m.length x0n.n.cb] 64)).heap.size by simp)
  generalize World.alloc v4 _ = v5 at bw bx x0 y0 sz5 ⊢
  refine (implSh_any x0n _ (x0.out.lies (by have sz0_ := sz0.out; have sz1_ := sz1.out; have sz2_ := sz2.out; have sz3_ := sz3.out; have sz4_ := sz4.out; have sz5_ := sz5.out; omega)) x0F.out x0C.out).mono ?_
  rintro e v6 ⟨rfl, hb⟩
  have bw := Lib.hid (bw.out.trans (hb.mono bw.out.size))
  have bx := Lib.hid (bx.out.on hb)
  have x0 := Lib.hid (x0.out.step hb (.inr (Nat.le_refl _)))
  have y0 := Lib.hid (y0.out.on hb)
  have sz6 := Lib.hid (show v5.heap.size ≤ v6.heap.size from hb.size)
  clear hb
  rw [x0P.out, HBB.out]
  go_wp2_with fail
  refine wp_region_held_drew (S := (fun W => (Below w.heap.size w W) ∧ (Blk W w.heap.size 60 #[Value.int IntKind.i64 s.me, Value.int IntKind.i64 s.ep, Value.int IntKind.i64 s.ck, Value.slice s.A s.l.length s.c, Value.slice s.n.A s.n.s.length s.n.ca, Value.slice s.n.B s.n.m.length s.n.cb]) ∧ (HeldS W x0n v3.heap.size v4.heap.size) ∧ (Blk W v4.heap.size 64 #[Value.int IntKind.i64 x0n.me, Value.int IntKind.i64 x0n.ep, Value.int IntKind.i64 x0n.ck, Value.slice x0n.A x0n.l.length x0n.c, Value.slice x0n.n.A x0n.n.s.length x0n.n.ca, Value.slice x0n.n.B x0n.n.m.length x0n.n.cb]))) (by kernel_rfl) ?_ (fun hHeld => ?_)
  · exact ⟨bw.out.drew, bx.out, x0.out.drew, y0.out⟩
  refine wpAnyH_take (i := 0) (v := ?_) rfl (by kernel_rfl) (by kernel_rfl) (by kernel_rfl) (fun _ _ _ h => h) (Or.inl ⟨by rfl, ?_⟩) hHeld ?_
  rotate_left
  · intro W hSw
    obtain ⟨q_bw, q_bx, q_x0, q_y0⟩ := hSw
    obtain ⟨hbx0, hbx1, hbx2, hbx3, hbx4, hbx5⟩ := cell6 q_bx
    obtain ⟨hy00, hy01, hy02, hy03, hy04, hy05⟩ := cell6 q_y0
    go_simp
    try with_reducible rfl
  try simp only [Act.put, List.setIfInBounds_toArray, List.set_cons_zero, List.set_cons_succ, List.getElem_toArray, List.getElem_cons_zero]
  refine wpAnyH_take (i := 1) (v := ?_) rfl (by kernel_rfl) (by kernel_rfl) (by kernel_rfl) (fun _ _ _ h => h) (Or.inl ⟨by rfl, ?_⟩) hHeld ?_
  rotate_left
  · intro W hSw
    obtain ⟨q_bw, q_bx, q_x0, q_y0⟩ := hSw
    obtain ⟨hbx0, hbx1, hbx2, hbx3, hbx4, hbx5⟩ := cell6 q_bx
    obtain ⟨hy00, hy01, hy02, hy03, hy04, hy05⟩ := cell6 q_y0
    go_simp
    try with_reducible rfl
  try simp only [Act.put, List.setIfInBounds_toArray, List.set_cons_zero, List.set_cons_succ, List.getElem_toArray, List.getElem_cons_succ, List.getElem_cons_zero]
  refine wpAnyH_ready (rs := [2]) (by kernel_rfl) (by simp) ?_
  refine AllReadyH.cons rfl (fun K hK => ?_) AllReadyH.nil
  go_simp
  refine (toSh_any s _ (Hs.out.on hHeld.1) Fs.out).mono ?_
  rintro e v7 ⟨t1n, rfl, t1p, t1c, t1h, hb⟩
  have sz7 := Lib.hid (show v6.heap.size ≤ v7.heap.size from hb.size)
  have t1P := Lib.hid t1p
  have t1F := Lib.hid (Fs.out.same t1p)
  have t1C := Lib.hid t1c
  clear t1p t1c
  unfold Sh.val
  have t1 := Lib.hid (show HeldS v7 t1n v6.heap.size v7.heap.size from t1h)
  clear t1h
  refine hK.out _ _ ?_ (fun hHeld => ?_)
  · first | exact ⟨hHeld.1.trans (hb.mono hHeld.1.size), hHeld.2.1.on hb, hHeld.2.2.1.step hb (.inr (Nat.le_refl _)), hHeld.2.2.2.on hb⟩ | assumption
  clear hK K
  try simp only [Act.put, List.setIfInBounds_toArray, List.set_cons_zero, List.set_cons_succ, List.getElem_toArray, List.getElem_cons_succ, List.getElem_cons_zero]
  refine wpAnyH_ready (rs := [3]) (by kernel_rfl) (by simp) ?_
  refine AllReadyH.cons rfl (fun K hK => ?_) AllReadyH.nil
  go_simp
  try clear hb
  refine (eqSh_same x0n t1n _ (hHeld.2.2.1.lies (by have sz0_ := sz0.out; have sz1_ := sz1.out; have sz2_ := sz2.out; have sz3_ := sz3.out; have sz4_ := sz4.out; have sz5_ := sz5.out; have sz6_ := sz6.out; have sz7_ := sz7.out; omega)) (t1.out.lies (by have sz0_ := sz0.out; have sz1_ := sz1.out; have sz2_ := sz2.out; have sz3_ := sz3.out; have sz4_ := sz4.out; have sz5_ := sz5.out; have sz6_ := sz6.out; have sz7_ := sz7.out; omega)) (x0P.out.trans t1P.out.symm) x0F.out).mono ?_
  rintro e v8 ⟨rfl, hb⟩
  have sz8 := Lib.hid (show v7.heap.size ≤ v8.heap.size from hb.size)
  have t1 := Lib.hid (t1.out.step hb (.inr (Nat.le_refl _)))
  refine hK.out _ _ ?_ (fun hHeld => ?_)
  · first | exact ⟨hHeld.1.trans (hb.mono hHeld.1.size), hHeld.2.1.on hb, hHeld.2.2.1.step hb (.inr (Nat.le_refl _)), hHeld.2.2.2.on hb⟩ | assumption
  clear hK K
  try simp only [Act.put, List.setIfInBounds_toArray, List.set_cons_zero, List.set_cons_succ, List.getElem_toArray, List.getElem_cons_succ, List.getElem_cons_zero]
  refine wpAnyH_take (i := 4) (v := ?_) rfl (by kernel_rfl) (by kernel_rfl) (by kernel_rfl) (fun _ _ _ h => h) (Or.inl ⟨by rfl, ?_⟩) hHeld ?_
  rotate_left
  · intro W hSw
    obtain ⟨q_bw, q_bx, q_x0, q_y0⟩ := hSw
    obtain ⟨hbx0, hbx1, hbx2, hbx3, hbx4, hbx5⟩ := cell6 q_bx
    obtain ⟨hy00, hy01, hy02, hy03, hy04, hy05⟩ := cell6 q_y0
    go_simp
    try with_reducible rfl
  try simp only [Act.put, List.setIfInBounds_toArray, List.set_cons_zero, List.set_cons_succ, List.getElem_toArray, List.getElem_cons_succ, List.getElem_cons_zero]
  refine wpAnyH_done (by kernel_rfl) ?_ _
  obtain ⟨bw_, bx_, x0_, y0_⟩ := hHeld
  have bw := Lib.hid bw_
  have bx := Lib.hid bx_
  have x0 := Lib.hid x0_
  have y0 := Lib.hid y0_
  clear bw_ bx_ x0_ y0_
  go_wp2_with fail
  go_ret
  exact ⟨rfl, bw.out⟩
end Go.Proofs.YtegnjbdgeibhfaaGreat.Rs
