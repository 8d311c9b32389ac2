/-
  FnExactRowOf answers true at every shelf.
-/
import Derived.Test.YtegnjbdgeibhfaaGreatRsRow
import Derived.Test.YtegnjbdgeibhfaaGreatRsRecL
namespace Go.Proofs.YtegnjbdgeibhfaaGreat.Rs
open Go.ChangeShapes Go.WideShapes Go.ChangeAt Go.RowKit
open Rec (R P Sound Small recV cellsV)
open Dep (D I)
set_option linter.unusedVariables false
set_option maxRecDepth 100000
set_option linter.unusedSimpArgs false

set_option maxHeartbeats 8000000 in
set_option maxRecDepth 100000 in
theorem lawRowOf_any (n : Ct) (key : ByteArray) (hkey0 : key.size ≤ maxLen) (w : World) (hn : IsCut w n) :
    Calls Tryz.prog 3 #[n.val, .string key] w fun e w' => e = .returned (.bool true) ∧ Below w.heap.size w w' := by
  obtain ⟨n0, n1, n2, n3⟩ := hn
  have Hn := Lib.hid n0
  have Kn := Lib.hid n3
  clear n0 n3
  have bw := Lib.hid ((Below.refl w.heap.size w).alloc (Nat.le_refl _) (Obj.cells #[Value.slice n.A n.s.length n.ca, Value.slice n.B n.m.length n.cb] 24))
  have bx := Lib.hid (Blk.new w 24 #[Value.slice n.A n.s.length n.ca, Value.slice n.B n.m.length n.cb])
  unfold Ct.val
  by_cases hkey1 : 1048576 < key.size
  · go_enter Tryz.func3, Tryz.ntmps3
    go_wp2_with fail
    go_ret
    exact ⟨rfl, bw.out⟩
  have Hkey1 := Lib.hid (show key.size ≤ 1048576 from by omega)
  go_enter Tryz.func3, Tryz.ntmps3
  go_wp2_with fail
  generalize World.alloc w _ = v0 at bw bx ⊢
  have sz0 := Lib.hid (show w.heap.size ≤ v0.heap.size from bw.out.size)
  refine (szCut_any n 1048576 _ (Hn.out.on bw.out) n1 n2 Kn.out (by omega) (by omega)).mono ?_
  rintro e v1 ⟨m1, rfl, hm1, hb⟩
  have bw := Lib.hid (bw.out.trans (hb.mono bw.out.size))
  have bx := Lib.hid (bx.out.on hb)
  have sz1 := Lib.hid (show v0.heap.size ≤ v1.heap.size from hb.size)
  clear hb
  rcases hm1 with rfl | ⟨m10, sm1⟩
  · go_wp2_with fail
    go_ret
    exact ⟨rfl, bw.out⟩
  have Fn := Lib.hid (CFine.of_sz (by omega) Kn.out m10 sm1)
  have m100 : ¬ m1 < 0 := by omega
  have m1k : m1 ≤ 1048576 := by have := sm1.1; omega
  clear sm1
  have hrf := rowC_fine (pc n) key
  have hl6 := hrf.six
  have hb4 := hrf.b
  obtain ⟨jr, hjr⟩ : ∃ r, rowC (pc n) key = r := ⟨_, rfl⟩
  have HNR := Lib.hid hjr
  rw [hjr] at hl6 hb4
  clear hjr hrf
  obtain ⟨bxc0, bxc1⟩ := cell2 bx.out
  go_wp2_with fail
  clear bxc0 bxc1
  refine (toCt_any n _ (Hn.out.on bw.out) Fn.out).mono ?_
  rintro e v2 ⟨t0n, rfl, t0p, t0c, t0h, hb⟩
  have t0P := Lib.hid t0p
  have t0F := Lib.hid (Fn.out.same t0p)
  have t0C := Lib.hid t0c
  clear t0p t0c
  unfold Ct.val
  have bw := Lib.hid (bw.out.trans (hb.mono bw.out.size))
  have bx := Lib.hid (bx.out.on hb)
  have sz2 := Lib.hid (show v1.heap.size ≤ v2.heap.size from hb.size)
  have t0 := Lib.hid (show HeldC v2 t0n v1.heap.size v2.heap.size from t0h)
  clear hb
  clear t0h
  go_wp2_with fail
  refine (specRowC_any t0n key _ (t0.out.lies (by have sz0_ := sz0.out; have sz1_ := sz1.out; have sz2_ := sz2.out; omega)) t0F.out t0C.out Hkey1.out).mono ?_
  rintro e v3 hg
  rw [t0P.out, HNR.out] at hg
  obtain ⟨w0p, rfl, hh, hb⟩ := hg
  unfold recV
  have bw := Lib.hid (bw.out.trans (hb.mono bw.out.size))
  have bx := Lib.hid (bx.out.on hb)
  have t0 := Lib.hid (t0.out.step hb (.inr (Nat.le_refl _)))
  have sz3 := Lib.hid (show v2.heap.size ≤ v3.heap.size from hb.size)
  have w0 := Lib.hid (show Rec.Held v3 jr w0p v2.heap.size v3.heap.size from hh)
  clear hb
  clear hh
  clear t0
  obtain ⟨bxc0, bxc1⟩ := cell2 (bx.out.alloc (Obj.cells (cellsV jr w0p) 31))
  go_wp2_with fail
  clear bxc0 bxc1
  have bw := Lib.hid (bw.out.alloc bw.out.size (Obj.cells (cellsV jr w0p) 31))
  have bx := Lib.hid (bx.out.alloc (Obj.cells (cellsV jr w0p) 31))
  have w0 := Lib.hid (w0.out.step ((Below.refl _ v3).alloc (Nat.le_refl _) (Obj.cells (cellsV jr w0p) 31)) (.inr (Nat.le_refl _)))
  have o0 := Lib.hid (show Blk (World.alloc v3 (Obj.cells (cellsV jr w0p) 31)) v3.heap.size 31 (cellsV jr w0p) from Blk.new v3 31 (cellsV jr w0p))
  have sz4 := Lib.hid (show v3.heap.size + 1 = (World.alloc v3 (Obj.cells (cellsV jr w0p) 31)).heap.size by simp)
  generalize World.alloc v3 _ = v4 at bw bx w0 o0 sz4 ⊢
  refine (toCt_any n _ (Hn.out.on bw.out) Fn.out).mono ?_
  rintro e v5 ⟨x0n, rfl, x0p, x0c, x0h, hb⟩
  have x0P := Lib.hid x0p
  have x0F := Lib.hid (Fn.out.same x0p)
  have x0C := Lib.hid x0c
  clear x0p x0c
  unfold Ct.val
  have bw := Lib.hid (bw.out.trans (hb.mono bw.out.size))
  have bx := Lib.hid (bx.out.on hb)
  have w0 := Lib.hid (w0.out.step hb (.inr (Nat.le_refl _)))
  have o0 := Lib.hid (o0.out.on hb)
  have sz5 := Lib.hid (show v4.heap.size ≤ v5.heap.size from hb.size)
  have x0 := Lib.hid (show HeldC v5 x0n v4.heap.size v5.heap.size from x0h)
  clear hb
  clear x0h
  go_wp2_with fail
  have bw := Lib.hid (bw.out.alloc bw.out.size (Obj.cells #[Value.slice x0n.A x0n.s.length x0n.ca, Value.slice x0n.B x0n.m.length x0n.cb] 35))
  have bx := Lib.hid (bx.out.alloc (Obj.cells #[Value.slice x0n.A x0n.s.length x0n.ca, Value.slice x0n.B x0n.m.length x0n.cb] 35))
  have w0 := Lib.hid (w0.out.step ((Below.refl _ v5).alloc (Nat.le_refl _) (Obj.cells #[Value.slice x0n.A x0n.s.length x0n.ca, Value.slice x0n.B x0n.m.length x0n.cb] 35)) (.inr (Nat.le_refl _)))
  have o0 := Lib.hid (o0.out.alloc (Obj.cells #[Value.slice x0n.A x0n.s.length x0n.ca, Value.slice x0n.B x0n.m.length x0n.cb] 35))
  have x0 := Lib.hid (x0.out.step ((Below.refl _ v5).alloc (Nat.le_refl _) (Obj.cells #[Value.slice x0n.A x0n.s.length x0n.ca, Value.slice x0n.B x0n.m.length x0n.cb] 35)) (.inr (Nat.le_refl _)))
  have y0 := Lib.hid (show Blk (World.alloc v5 (Obj.cells #[Value.slice x0n.A x0n.s.length x0n.ca, Value.slice x0n.B x0n.m.length x0n.cb] 35)) v5.heap.size 35 #[Value.slice x0n.A x0n.s.length x0n.ca, Value.slice x0n.B x0n.m.length x0n.cb] from Blk.new v5 35 #[Value.slice x0n.A x0n.s.length x0n.ca, Value.slice x0n.B x0n.m.length x0n.cb])
  have sz6 := Lib.hid (show v5.heap.size + 1 = (World.alloc v5 (Obj.cells #[Value.slice x0n.A x0n.s.length x0n.ca, Value.slice x0n.B x0n.m.length x0n.cb] 35)).heap.size by simp)
  generalize World.alloc v5 _ = v6 at bw bx w0 o0 x0 y0 sz6 ⊢
  refine (implRowC_any x0n key _ (x0.out.lies (by have sz0_ := sz0.out; have sz1_ := sz1.out; have sz2_ := sz2.out; have sz3_ := sz3.out; have sz4_ := sz4.out; have sz5_ := sz5.out; have sz6_ := sz6.out; omega)) x0F.out x0C.out Hkey1.out).mono ?_
  rintro e v7 hg
  rw [x0P.out, HNR.out] at hg
  obtain ⟨g0p, rfl, hh, hb⟩ := hg
  unfold recV
  have bw := Lib.hid (bw.out.trans (hb.mono bw.out.size))
  have bx := Lib.hid (bx.out.on hb)
  have w0 := Lib.hid (w0.out.step hb (.inr (Nat.le_refl _)))
  have o0 := Lib.hid (o0.out.on hb)
  have x0 := Lib.hid (x0.out.step hb (.inr (Nat.le_refl _)))
  have y0 := Lib.hid (y0.out.on hb)
  have sz7 := Lib.hid (show v6.heap.size ≤ v7.heap.size from hb.size)
  have g0 := Lib.hid (show Rec.Held v7 jr g0p v6.heap.size v7.heap.size from hh)
  clear hb
  clear hh
  obtain ⟨o0c0, o0c1, o0c2, o0c3, o0c4, o0c5, o0c6, o0c7⟩ := Rec.cells8 (o0.out.alloc (Obj.cells (cellsV jr g0p) 31))
  go_wp2_with fail
  clear o0c0 o0c1 o0c2 o0c3 o0c4 o0c5 o0c6 o0c7
  have bw := Lib.hid (bw.out.alloc bw.out.size (Obj.cells (cellsV jr g0p) 31))
  have bx := Lib.hid (bx.out.alloc (Obj.cells (cellsV jr g0p) 31))
  have w0 := Lib.hid (w0.out.step ((Below.refl _ v7).alloc (Nat.le_refl _) (Obj.cells (cellsV jr g0p) 31)) (.inr (Nat.le_refl _)))
  have o0 := Lib.hid (o0.out.alloc (Obj.cells (cellsV jr g0p) 31))
  have x0 := Lib.hid (x0.out.step ((Below.refl _ v7).alloc (Nat.le_refl _) (Obj.cells (cellsV jr g0p) 31)) (.inr (Nat.le_refl _)))
  have y0 := Lib.hid (y0.out.alloc (Obj.cells (cellsV jr g0p) 31))
  have g0 := Lib.hid (g0.out.step ((Below.refl _ v7).alloc (Nat.le_refl _) (Obj.cells (cellsV jr g0p) 31)) (.inr (Nat.le_refl _)))
  have o1 := Lib.hid (show Blk (World.alloc v7 (Obj.cells (cellsV jr g0p) 31)) v7.heap.size 31 (cellsV jr g0p) from Blk.new v7 31 (cellsV jr g0p))
  have sz8 := Lib.hid (show v7.heap.size + 1 = (World.alloc v7 (Obj.cells (cellsV jr g0p) 31)).heap.size by simp)
  generalize World.alloc v7 _ = v8 at bw bx w0 o0 x0 y0 g0 o1 sz8 ⊢
  refine (Rec.eqRec_same jr g0p w0p _ (g0.out.lies (by have sz0_ := sz0.out; have sz1_ := sz1.out; have sz2_ := sz2.out; have sz3_ := sz3.out; have sz4_ := sz4.out; have sz5_ := sz5.out; have sz6_ := sz6.out; have sz7_ := sz7.out; have sz8_ := sz8.out; omega)) (w0.out.lies (by have sz0_ := sz0.out; have sz1_ := sz1.out; have sz2_ := sz2.out; have sz3_ := sz3.out; have sz4_ := sz4.out; have sz5_ := sz5.out; have sz6_ := sz6.out; have sz7_ := sz7.out; have sz8_ := sz8.out; omega)) (by unfold maxLen; omega) (by unfold maxLen; omega)).mono ?_
  rintro e v9 ⟨rfl, hb⟩
  have bw := Lib.hid (bw.out.trans (hb.mono bw.out.size))
  have bx := Lib.hid (bx.out.on hb)
  have w0 := Lib.hid (w0.out.step hb (.inr (Nat.le_refl _)))
  have o0 := Lib.hid (o0.out.on hb)
  have x0 := Lib.hid (x0.out.step hb (.inr (Nat.le_refl _)))
  have y0 := Lib.hid (y0.out.on hb)
  have g0 := Lib.hid (g0.out.step hb (.inr (Nat.le_refl _)))
  have o1 := Lib.hid (o1.out.on hb)
  have sz9 := Lib.hid (show v8.heap.size ≤ v9.heap.size from hb.size)
  clear hb
  go_wp2_with fail
  refine wp_region_held_drew (S := (fun W => (Below w.heap.size w W) ∧ (Blk W w.heap.size 24 #[Value.slice n.A n.s.length n.ca, Value.slice n.B n.m.length n.cb]) ∧ (Rec.Held W jr w0p v2.heap.size v3.heap.size) ∧ (Blk W v3.heap.size 31 (cellsV jr w0p)) ∧ (HeldC W x0n v4.heap.size v5.heap.size) ∧ (Blk W v5.heap.size 35 #[Value.slice x0n.A x0n.s.length x0n.ca, Value.slice x0n.B x0n.m.length x0n.cb]) ∧ (Rec.Held W jr g0p v6.heap.size v7.heap.size) ∧ (Blk W v7.heap.size 31 (cellsV jr g0p)))) (by kernel_rfl) ?_ (fun hHeld => ?_)
  · exact ⟨bw.out.drew, bx.out, w0.out, o0.out, x0.out.drew, y0.out, g0.out, o1.out⟩
  refine wpAnyH_take (i := 0) (v := ?_) rfl (by kernel_rfl) (by kernel_rfl) (by kernel_rfl) (fun _ _ _ h => h) (Or.inl ⟨by rfl, ?_⟩) hHeld ?_
  rotate_left
  · intro W hSw
    obtain ⟨q_bw, q_bx, q_w0, q_o0, q_x0, q_y0, q_g0, q_o1⟩ := hSw
    obtain ⟨hbx0, hbx1⟩ := cell2 q_bx
    obtain ⟨hy00, hy01⟩ := cell2 q_y0
    go_simp
    try with_reducible rfl
  try simp only [Act.put, List.setIfInBounds_toArray, List.set_cons_zero, List.set_cons_succ, List.getElem_toArray, List.getElem_cons_zero]
  refine wpAnyH_take (i := 1) (v := ?_) rfl (by kernel_rfl) (by kernel_rfl) (by kernel_rfl) (fun _ _ _ h => h) (Or.inl ⟨by rfl, ?_⟩) hHeld ?_
  rotate_left
  · intro W hSw
    obtain ⟨q_bw, q_bx, q_w0, q_o0, q_x0, q_y0, q_g0, q_o1⟩ := hSw
    obtain ⟨hbx0, hbx1⟩ := cell2 q_bx
    obtain ⟨hy00, hy01⟩ := cell2 q_y0
    go_simp
    try with_reducible rfl
  try simp only [Act.put, List.setIfInBounds_toArray, List.set_cons_zero, List.set_cons_succ, List.getElem_toArray, List.getElem_cons_succ, List.getElem_cons_zero]
  refine wpAnyH_ready (rs := [2]) (by kernel_rfl) (by simp) ?_
  refine AllReadyH.cons rfl (fun K hK => ?_) AllReadyH.nil
  go_simp
  refine (toCt_any n _ (Hn.out.on hHeld.1) Fn.out).mono ?_
  rintro e v10 ⟨t1n, rfl, t1p, t1c, t1h, hb⟩
  have sz10 := Lib.hid (show v9.heap.size ≤ v10.heap.size from hb.size)
  have t1P := Lib.hid t1p
  have t1F := Lib.hid (Fn.out.same t1p)
  have t1C := Lib.hid t1c
  clear t1p t1c
  unfold Ct.val
  have t1 := Lib.hid (show HeldC v10 t1n v9.heap.size v10.heap.size from t1h)
  clear t1h
  refine hK.out _ _ ?_ (fun hHeld => ?_)
  · first | exact ⟨hHeld.1.trans (hb.mono hHeld.1.size), hHeld.2.1.on hb, hHeld.2.2.1.step hb (.inr (Nat.le_refl _)), hHeld.2.2.2.1.on hb, hHeld.2.2.2.2.1.step hb (.inr (Nat.le_refl _)), hHeld.2.2.2.2.2.1.on hb, hHeld.2.2.2.2.2.2.1.step hb (.inr (Nat.le_refl _)), hHeld.2.2.2.2.2.2.2.on hb⟩ | assumption
  clear hK K
  try simp only [Act.put, List.setIfInBounds_toArray, List.set_cons_zero, List.set_cons_succ, List.getElem_toArray, List.getElem_cons_succ, List.getElem_cons_zero]
  refine wpAnyH_ready (rs := [3]) (by kernel_rfl) (by simp) ?_
  refine AllReadyH.cons rfl (fun K hK => ?_) AllReadyH.nil
  go_simp
  refine (eqCt_same x0n t1n _ (hHeld.2.2.2.2.1.lies (by have sz0_ := sz0.out; have sz1_ := sz1.out; have sz2_ := sz2.out; have sz3_ := sz3.out; have sz4_ := sz4.out; have sz5_ := sz5.out; have sz6_ := sz6.out; have sz7_ := sz7.out; have sz8_ := sz8.out; have sz9_ := sz9.out; have sz10_ := sz10.out; omega)) (t1.out.lies (by have sz0_ := sz0.out; have sz1_ := sz1.out; have sz2_ := sz2.out; have sz3_ := sz3.out; have sz4_ := sz4.out; have sz5_ := sz5.out; have sz6_ := sz6.out; have sz7_ := sz7.out; have sz8_ := sz8.out; have sz9_ := sz9.out; have sz10_ := sz10.out; omega)) (x0P.out.trans t1P.out.symm) x0F.out).mono ?_
  rintro e v11 ⟨rfl, hb⟩
  have sz11 := Lib.hid (show v10.heap.size ≤ v11.heap.size from hb.size)
  have t1 := Lib.hid (t1.out.step hb (.inr (Nat.le_refl _)))
  refine hK.out _ _ ?_ (fun hHeld => ?_)
  · first | exact ⟨hHeld.1.trans (hb.mono hHeld.1.size), hHeld.2.1.on hb, hHeld.2.2.1.step hb (.inr (Nat.le_refl _)), hHeld.2.2.2.1.on hb, hHeld.2.2.2.2.1.step hb (.inr (Nat.le_refl _)), hHeld.2.2.2.2.2.1.on hb, hHeld.2.2.2.2.2.2.1.step hb (.inr (Nat.le_refl _)), hHeld.2.2.2.2.2.2.2.on hb⟩ | assumption
  clear hK K
  try simp only [Act.put, List.setIfInBounds_toArray, List.set_cons_zero, List.set_cons_succ, List.getElem_toArray, List.getElem_cons_succ, List.getElem_cons_zero]
  refine wpAnyH_take (i := 4) (v := ?_) rfl (by kernel_rfl) (by kernel_rfl) (by kernel_rfl) (fun _ _ _ h => h) (Or.inl ⟨by rfl, ?_⟩) hHeld ?_
  rotate_left
  · intro W hSw
    obtain ⟨q_bw, q_bx, q_w0, q_o0, q_x0, q_y0, q_g0, q_o1⟩ := hSw
    obtain ⟨hbx0, hbx1⟩ := cell2 q_bx
    obtain ⟨hy00, hy01⟩ := cell2 q_y0
    go_simp
    try with_reducible rfl
  try simp only [Act.put, List.setIfInBounds_toArray, List.set_cons_zero, List.set_cons_succ, List.getElem_toArray, List.getElem_cons_succ, List.getElem_cons_zero]
  refine wpAnyH_done (by kernel_rfl) ?_ _
  obtain ⟨bw_, bx_, w0_, o0_, x0_, y0_, g0_, o1_⟩ := hHeld
  have bw := Lib.hid bw_
  have bx := Lib.hid bx_
  have w0 := Lib.hid w0_
  have o0 := Lib.hid o0_
  have x0 := Lib.hid x0_
  have y0 := Lib.hid y0_
  have g0 := Lib.hid g0_
  have o1 := Lib.hid o1_
  clear bw_ bx_ w0_ o0_ x0_ y0_ g0_ o1_
  clear t1 t1P t1F t1C
  obtain ⟨y0c0, y0c1⟩ := cell2 y0.out
  go_wp2_with fail
  clear y0c0 y0c1
  have := x0F.out.kC_le
  refine (markCt_any x0n 1 _ _ _ x0.out x0F.out (by have := x0F.out.kC_le; omega)).mono ?_
  rintro e v12 ⟨rfl, hh, ht⟩
  have bw := Lib.hid (ht.below bw.out (by have sz0_ := sz0.out; have sz1_ := sz1.out; have sz2_ := sz2.out; have sz3_ := sz3.out; have sz4_ := sz4.out; have sz5_ := sz5.out; have sz6_ := sz6.out; have sz7_ := sz7.out; have sz8_ := sz8.out; have sz9_ := sz9.out; have sz10_ := sz10.out; have sz11_ := sz11.out; omega))
  have bx := Lib.hid (ht.blk bx.out (by decide))
  have w0 := Lib.hid (ht.recd w0.out (by have sz0_ := sz0.out; have sz1_ := sz1.out; have sz2_ := sz2.out; have sz3_ := sz3.out; have sz4_ := sz4.out; have sz5_ := sz5.out; have sz6_ := sz6.out; have sz7_ := sz7.out; have sz8_ := sz8.out; have sz9_ := sz9.out; have sz10_ := sz10.out; have sz11_ := sz11.out; omega))
  have o0 := Lib.hid (ht.blk2 o0.out (by have sz0_ := sz0.out; have sz1_ := sz1.out; have sz2_ := sz2.out; have sz3_ := sz3.out; have sz4_ := sz4.out; have sz5_ := sz5.out; have sz6_ := sz6.out; have sz7_ := sz7.out; have sz8_ := sz8.out; have sz9_ := sz9.out; have sz10_ := sz10.out; have sz11_ := sz11.out; omega))
  have x0 := Lib.hid (show HeldC v12 (mkC 1 x0n) v4.heap.size v5.heap.size from hh)
  have y0 := Lib.hid (ht.blk y0.out (by decide))
  have g0 := Lib.hid (ht.recd g0.out (by have sz0_ := sz0.out; have sz1_ := sz1.out; have sz2_ := sz2.out; have sz3_ := sz3.out; have sz4_ := sz4.out; have sz5_ := sz5.out; have sz6_ := sz6.out; have sz7_ := sz7.out; have sz8_ := sz8.out; have sz9_ := sz9.out; have sz10_ := sz10.out; have sz11_ := sz11.out; omega))
  have o1 := Lib.hid (ht.blk2 o1.out (by have sz0_ := sz0.out; have sz1_ := sz1.out; have sz2_ := sz2.out; have sz3_ := sz3.out; have sz4_ := sz4.out; have sz5_ := sz5.out; have sz6_ := sz6.out; have sz7_ := sz7.out; have sz8_ := sz8.out; have sz9_ := sz9.out; have sz10_ := sz10.out; have sz11_ := sz11.out; omega))
  have sz12 := Lib.hid (show v11.heap.size ≤ v12.heap.size from ht.size)
  clear hh ht
  have hkx : ¬ ((1 + kC x0n : Nat) : Int) < 0 := by omega
  obtain ⟨zx, hzx⟩ : ∃ z : Nat, 1 + kC x0n = z := ⟨_, rfl⟩
  have Hzx := Lib.hid hzx
  rw [hzx] at hkx ⊢
  clear hzx
  clear x0
  obtain ⟨o1c0, o1c1, o1c2, o1c3, o1c4, o1c5, o1c6, o1c7⟩ := Rec.cells8 o1.out
  obtain ⟨o0c0, o0c1, o0c2, o0c3, o0c4, o0c5, o0c6, o0c7⟩ := Rec.cells8 o0.out
  go_wp2_with fail
  clear o1c0 o1c1 o1c2 o1c3 o1c4 o1c5 o1c6 o1c7 o0c0 o0c1 o0c2 o0c3 o0c4 o0c5 o0c6 o0c7
  refine (Rec.eqRec_same jr g0p w0p _ (g0.out.lies (by have sz0_ := sz0.out; have sz1_ := sz1.out; have sz2_ := sz2.out; have sz3_ := sz3.out; have sz4_ := sz4.out; have sz5_ := sz5.out; have sz6_ := sz6.out; have sz7_ := sz7.out; have sz8_ := sz8.out; have sz9_ := sz9.out; have sz10_ := sz10.out; have sz11_ := sz11.out; have sz12_ := sz12.out; omega)) (w0.out.lies (by have sz0_ := sz0.out; have sz1_ := sz1.out; have sz2_ := sz2.out; have sz3_ := sz3.out; have sz4_ := sz4.out; have sz5_ := sz5.out; have sz6_ := sz6.out; have sz7_ := sz7.out; have sz8_ := sz8.out; have sz9_ := sz9.out; have sz10_ := sz10.out; have sz11_ := sz11.out; have sz12_ := sz12.out; omega)) (by unfold maxLen; omega) (by unfold maxLen; omega)).mono ?_
  rintro e v13 ⟨rfl, hb⟩
  have bw := Lib.hid (bw.out.trans (hb.mono bw.out.size))
  have bx := Lib.hid (bx.out.on hb)
  have w0 := Lib.hid (w0.out.step hb (.inr (Nat.le_refl _)))
  have o0 := Lib.hid (o0.out.on hb)
  have y0 := Lib.hid (y0.out.on hb)
  have g0 := Lib.hid (g0.out.step hb (.inr (Nat.le_refl _)))
  have o1 := Lib.hid (o1.out.on hb)
  have sz13 := Lib.hid (show v12.heap.size ≤ v13.heap.size from hb.size)
  clear hb
  obtain ⟨o1c0, o1c1, o1c2, o1c3, o1c4, o1c5, o1c6, o1c7⟩ := Rec.cells8 o1.out
  go_wp2_with fail
  clear o1c0 o1c1 o1c2 o1c3 o1c4 o1c5 o1c6 o1c7
  refine (markRec1_any jr g0p 1 _ _ _ g0.out (by omega) (by omega) (by omega)).mono ?_
  rintro e v14 ⟨rfl, hh, ht⟩
  have bw := Lib.hid (ht.below bw.out (by have sz0_ := sz0.out; have sz1_ := sz1.out; have sz2_ := sz2.out; have sz3_ := sz3.out; have sz4_ := sz4.out; have sz5_ := sz5.out; have sz6_ := sz6.out; have sz7_ := sz7.out; have sz8_ := sz8.out; have sz9_ := sz9.out; have sz10_ := sz10.out; have sz11_ := sz11.out; have sz12_ := sz12.out; have sz13_ := sz13.out; omega))
  have bx := Lib.hid (ht.blk bx.out (by decide))
  have w0 := Lib.hid (ht.recd w0.out (by have sz0_ := sz0.out; have sz1_ := sz1.out; have sz2_ := sz2.out; have sz3_ := sz3.out; have sz4_ := sz4.out; have sz5_ := sz5.out; have sz6_ := sz6.out; have sz7_ := sz7.out; have sz8_ := sz8.out; have sz9_ := sz9.out; have sz10_ := sz10.out; have sz11_ := sz11.out; have sz12_ := sz12.out; have sz13_ := sz13.out; omega))
  have o0 := Lib.hid (ht.blk2 o0.out (by have sz0_ := sz0.out; have sz1_ := sz1.out; have sz2_ := sz2.out; have sz3_ := sz3.out; have sz4_ := sz4.out; have sz5_ := sz5.out; have sz6_ := sz6.out; have sz7_ := sz7.out; have sz8_ := sz8.out; have sz9_ := sz9.out; have sz10_ := sz10.out; have sz11_ := sz11.out; have sz12_ := sz12.out; have sz13_ := sz13.out; omega))
  have y0 := Lib.hid (ht.blk y0.out (by decide))
  have g0 := Lib.hid (show Rec.Held v14 (mkL 1 jr) g0p v6.heap.size v7.heap.size from hh)
  have o1 := Lib.hid (ht.blk2 o1.out (by have sz0_ := sz0.out; have sz1_ := sz1.out; have sz2_ := sz2.out; have sz3_ := sz3.out; have sz4_ := sz4.out; have sz5_ := sz5.out; have sz6_ := sz6.out; have sz7_ := sz7.out; have sz8_ := sz8.out; have sz9_ := sz9.out; have sz10_ := sz10.out; have sz11_ := sz11.out; have sz12_ := sz12.out; have sz13_ := sz13.out; omega))
  have sz14 := Lib.hid (show v13.heap.size ≤ v14.heap.size from ht.size)
  clear hh ht
  have hkl : kL jr = 4 * jr.l.length + jr.b.length := rfl
  have hk3 : ¬ ((1 + kL jr : Nat) : Int) < 0 := by omega
  obtain ⟨z1, hz1⟩ : ∃ z : Nat, 1 + kL jr = z := ⟨_, rfl⟩
  have Hz1 := Lib.hid hz1
  rw [hz1] at hk3 ⊢
  clear hz1
  clear hkl
  have hze : ((z1 : Int) != (z1 : Int)) = false := by simp
  obtain ⟨o1c0, o1c1, o1c2, o1c3, o1c4, o1c5, o1c6, o1c7⟩ := Rec.cells8 o1.out
  go_wp2_with fail
  clear o1c0 o1c1 o1c2 o1c3 o1c4 o1c5 o1c6 o1c7
  refine (heldRec1_any jr g0p 1 _ (g0.out.lies (by have sz0_ := sz0.out; have sz1_ := sz1.out; have sz2_ := sz2.out; have sz3_ := sz3.out; have sz4_ := sz4.out; have sz5_ := sz5.out; have sz6_ := sz6.out; have sz7_ := sz7.out; have sz8_ := sz8.out; have sz9_ := sz9.out; have sz10_ := sz10.out; have sz11_ := sz11.out; have sz12_ := sz12.out; have sz13_ := sz13.out; have sz14_ := sz14.out; omega)) (by omega) (by omega) (by omega)).mono ?_
  rintro e v15 ⟨rfl, hb⟩
  have bw := Lib.hid (bw.out.trans (hb.mono bw.out.size))
  have bx := Lib.hid (bx.out.on hb)
  have w0 := Lib.hid (w0.out.step hb (.inr (Nat.le_refl _)))
  have o0 := Lib.hid (o0.out.on hb)
  have y0 := Lib.hid (y0.out.on hb)
  have g0 := Lib.hid (g0.out.step hb (.inr (Nat.le_refl _)))
  have o1 := Lib.hid (o1.out.on hb)
  have sz15 := Lib.hid (show v14.heap.size ≤ v15.heap.size from hb.size)
  clear hb
  rw [Hz1.out]
  obtain ⟨bxc0, bxc1⟩ := cell2 bx.out
  go_wp2_with fail
  clear bxc0 bxc1
  refine (toCt_any n _ (Hn.out.on bw.out) Fn.out).mono ?_
  rintro e v16 ⟨x2n, rfl, x2p, x2c, x2h, hb⟩
  have x2P := Lib.hid x2p
  have x2F := Lib.hid (Fn.out.same x2p)
  have x2C := Lib.hid x2c
  clear x2p x2c
  unfold Ct.val
  have bw := Lib.hid (bw.out.trans (hb.mono bw.out.size))
  have bx := Lib.hid (bx.out.on hb)
  have w0 := Lib.hid (w0.out.step hb (.inr (Nat.le_refl _)))
  have o0 := Lib.hid (o0.out.on hb)
  have y0 := Lib.hid (y0.out.on hb)
  have g0 := Lib.hid (g0.out.step hb (.inr (Nat.le_refl _)))
  have o1 := Lib.hid (o1.out.on hb)
  have sz16 := Lib.hid (show v15.heap.size ≤ v16.heap.size from hb.size)
  have x2 := Lib.hid (show HeldC v16 x2n v15.heap.size v16.heap.size from x2h)
  clear hb
  clear x2h
  go_wp2_with fail
  refine (implRowC_any x2n key _ (x2.out.lies (by have sz0_ := sz0.out; have sz1_ := sz1.out; have sz2_ := sz2.out; have sz3_ := sz3.out; have sz4_ := sz4.out; have sz5_ := sz5.out; have sz6_ := sz6.out; have sz7_ := sz7.out; have sz8_ := sz8.out; have sz9_ := sz9.out; have sz10_ := sz10.out; have sz11_ := sz11.out; have sz12_ := sz12.out; have sz13_ := sz13.out; have sz14_ := sz14.out; have sz15_ := sz15.out; have sz16_ := sz16.out; omega)) x2F.out x2C.out Hkey1.out).mono ?_
  rintro e v17 hg
  rw [x2P.out, HNR.out] at hg
  obtain ⟨h0p, rfl, hh, hb⟩ := hg
  unfold recV
  have bw := Lib.hid (bw.out.trans (hb.mono bw.out.size))
  have bx := Lib.hid (bx.out.on hb)
  have w0 := Lib.hid (w0.out.step hb (.inr (Nat.le_refl _)))
  have o0 := Lib.hid (o0.out.on hb)
  have y0 := Lib.hid (y0.out.on hb)
  have g0 := Lib.hid (g0.out.step hb (.inr (Nat.le_refl _)))
  have o1 := Lib.hid (o1.out.on hb)
  have x2 := Lib.hid (x2.out.step hb (.inr (Nat.le_refl _)))
  have sz17 := Lib.hid (show v16.heap.size ≤ v17.heap.size from hb.size)
  have h0 := Lib.hid (show Rec.Held v17 jr h0p v16.heap.size v17.heap.size from hh)
  clear hb
  clear hh
  clear x2
  obtain ⟨o0c0, o0c1, o0c2, o0c3, o0c4, o0c5, o0c6, o0c7⟩ := Rec.cells8 (o0.out.alloc (Obj.cells (cellsV jr h0p) 31))
  go_wp2_with fail
  clear o0c0 o0c1 o0c2 o0c3 o0c4 o0c5 o0c6 o0c7
  have bw := Lib.hid (bw.out.alloc bw.out.size (Obj.cells (cellsV jr h0p) 31))
  have bx := Lib.hid (bx.out.alloc (Obj.cells (cellsV jr h0p) 31))
  have w0 := Lib.hid (w0.out.step ((Below.refl _ v17).alloc (Nat.le_refl _) (Obj.cells (cellsV jr h0p) 31)) (.inr (Nat.le_refl _)))
  have o0 := Lib.hid (o0.out.alloc (Obj.cells (cellsV jr h0p) 31))
  have y0 := Lib.hid (y0.out.alloc (Obj.cells (cellsV jr h0p) 31))
  have g0 := Lib.hid (g0.out.step ((Below.refl _ v17).alloc (Nat.le_refl _) (Obj.cells (cellsV jr h0p) 31)) (.inr (Nat.le_refl _)))
  have o1 := Lib.hid (o1.out.alloc (Obj.cells (cellsV jr h0p) 31))
  have h0 := Lib.hid (h0.out.step ((Below.refl _ v17).alloc (Nat.le_refl _) (Obj.cells (cellsV jr h0p) 31)) (.inr (Nat.le_refl _)))
  have o2 := Lib.hid (show Blk (World.alloc v17 (Obj.cells (cellsV jr h0p) 31)) v17.heap.size 31 (cellsV jr h0p) from Blk.new v17 31 (cellsV jr h0p))
  have sz18 := Lib.hid (show v17.heap.size + 1 = (World.alloc v17 (Obj.cells (cellsV jr h0p) 31)).heap.size by simp)
  generalize World.alloc v17 _ = v18 at bw bx w0 o0 y0 g0 o1 h0 o2 sz18 ⊢
  refine (Rec.eqRec_same jr h0p w0p _ (h0.out.lies (by have sz0_ := sz0.out; have sz1_ := sz1.out; have sz2_ := sz2.out; have sz3_ := sz3.out; have sz4_ := sz4.out; have sz5_ := sz5.out; have sz6_ := sz6.out; have sz7_ := sz7.out; have sz8_ := sz8.out; have sz9_ := sz9.out; have sz10_ := sz10.out; have sz11_ := sz11.out; have sz12_ := sz12.out; have sz13_ := sz13.out; have sz14_ := sz14.out; have sz15_ := sz15.out; have sz16_ := sz16.out; have sz17_ := sz17.out; have sz18_ := sz18.out; omega)) (w0.out.lies (by have sz0_ := sz0.out; have sz1_ := sz1.out; have sz2_ := sz2.out; have sz3_ := sz3.out; have sz4_ := sz4.out; have sz5_ := sz5.out; have sz6_ := sz6.out; have sz7_ := sz7.out; have sz8_ := sz8.out; have sz9_ := sz9.out; have sz10_ := sz10.out; have sz11_ := sz11.out; have sz12_ := sz12.out; have sz13_ := sz13.out; have sz14_ := sz14.out; have sz15_ := sz15.out; have sz16_ := sz16.out; have sz17_ := sz17.out; have sz18_ := sz18.out; omega)) (by unfold maxLen; omega) (by unfold maxLen; omega)).mono ?_
  rintro e v19 ⟨rfl, hb⟩
  have bw := Lib.hid (bw.out.trans (hb.mono bw.out.size))
  have bx := Lib.hid (bx.out.on hb)
  have w0 := Lib.hid (w0.out.step hb (.inr (Nat.le_refl _)))
  have o0 := Lib.hid (o0.out.on hb)
  have y0 := Lib.hid (y0.out.on hb)
  have g0 := Lib.hid (g0.out.step hb (.inr (Nat.le_refl _)))
  have o1 := Lib.hid (o1.out.on hb)
  have h0 := Lib.hid (h0.out.step hb (.inr (Nat.le_refl _)))
  have o2 := Lib.hid (o2.out.on hb)
  have sz19 := Lib.hid (show v18.heap.size ≤ v19.heap.size from hb.size)
  clear hb
  obtain ⟨o1c0, o1c1, o1c2, o1c3, o1c4, o1c5, o1c6, o1c7⟩ := Rec.cells8 o1.out
  go_wp2_with fail
  clear o1c0 o1c1 o1c2 o1c3 o1c4 o1c5 o1c6 o1c7
  refine (heldRec1_any jr g0p 1 _ (g0.out.lies (by have sz0_ := sz0.out; have sz1_ := sz1.out; have sz2_ := sz2.out; have sz3_ := sz3.out; have sz4_ := sz4.out; have sz5_ := sz5.out; have sz6_ := sz6.out; have sz7_ := sz7.out; have sz8_ := sz8.out; have sz9_ := sz9.out; have sz10_ := sz10.out; have sz11_ := sz11.out; have sz12_ := sz12.out; have sz13_ := sz13.out; have sz14_ := sz14.out; have sz15_ := sz15.out; have sz16_ := sz16.out; have sz17_ := sz17.out; have sz18_ := sz18.out; have sz19_ := sz19.out; omega)) (by omega) (by omega) (by omega)).mono ?_
  rintro e v20 ⟨rfl, hb⟩
  have bw := Lib.hid (bw.out.trans (hb.mono bw.out.size))
  have bx := Lib.hid (bx.out.on hb)
  have w0 := Lib.hid (w0.out.step hb (.inr (Nat.le_refl _)))
  have o0 := Lib.hid (o0.out.on hb)
  have y0 := Lib.hid (y0.out.on hb)
  have g0 := Lib.hid (g0.out.step hb (.inr (Nat.le_refl _)))
  have o1 := Lib.hid (o1.out.on hb)
  have h0 := Lib.hid (h0.out.step hb (.inr (Nat.le_refl _)))
  have o2 := Lib.hid (o2.out.on hb)
  have sz20 := Lib.hid (show v19.heap.size ≤ v20.heap.size from hb.size)
  clear hb
  rw [Hz1.out]
  go_wp2_with fail
  go_ret
  exact ⟨rfl, bw.out⟩
end Go.Proofs.YtegnjbdgeibhfaaGreat.Rs
