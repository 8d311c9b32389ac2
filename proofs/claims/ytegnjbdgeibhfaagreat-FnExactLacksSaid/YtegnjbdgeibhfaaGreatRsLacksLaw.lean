/-
  FnExactLacks answers true at every shelf and record.
-/
import Derived.Test.YtegnjbdgeibhfaaGreatRsLackB
namespace Go.Proofs.YtegnjbdgeibhfaaGreat.Rs
open Go.ChangeShapes Go.WideShapes Go.ChangeAt Go.RowKit
open Rec (R P Sound Small recV cellsV)
open Dep (D I)
set_option linter.unusedVariables false
set_option maxRecDepth 100000
set_option linter.unusedSimpArgs false

set_option maxHeartbeats 8000000 in
set_option maxRecDepth 100000 in
theorem lawLacks_any (n : Ct) (r : R) (p : P) (w : World) (hn : IsCut w n) (hr : Rec.Lies w w.heap.size r p ∧ Sound r) :
    Calls Tryz.prog 5 #[n.val, recV r p] w fun e w' => e = .returned (.bool true) ∧ Below w.heap.size w w' := by
  obtain ⟨n0, n1, n2, n3⟩ := hn
  have Hn := Lib.hid n0
  have Kn := Lib.hid n3
  clear n0 n3
  obtain ⟨r0, r1⟩ := hr
  have Hr := Lib.hid r0
  have Kr := Lib.hid r1
  clear r0 r1
  have bw := Lib.hid (((Below.refl w.heap.size w).alloc (by simp) (Obj.cells #[Value.slice n.A n.s.length n.ca, Value.slice n.B n.m.length n.cb] 24)).alloc (by simp) (Obj.cells (cellsV r p) 49))
  have bx0_ := ((Blk.new w 24 #[Value.slice n.A n.s.length n.ca, Value.slice n.B n.m.length n.cb]).alloc (Obj.cells (cellsV r p) 49))
  try simp only [World.size_alloc] at bx0_
  have bx0 := Lib.hid bx0_
  clear bx0_
  have bx1_ := (Blk.new (World.alloc w (Obj.cells #[Value.slice n.A n.s.length n.ca, Value.slice n.B n.m.length n.cb] 24)) 49 (cellsV r p))
  try simp only [World.size_alloc] at bx1_
  have bx1 := Lib.hid bx1_
  clear bx1_
  unfold Ct.val
  unfold recV
  go_enter Tryz.func5, Tryz.ntmps5
  go_wp2_with fail
  generalize World.alloc (World.alloc w _) _ = v0 at bw bx0 bx1 ⊢
  have sz0 := Lib.hid (show w.heap.size ≤ v0.heap.size from bw.out.size)
  have szb := Lib.hid (show w.heap.size + 1 < v0.heap.size from bx1.out.lt)
  refine (szCut_any n 1048576 _ (Hn.out.on bw.out) n1 n2 Kn.out (by omega) (by omega)).mono ?_
  rintro e v1 ⟨m1, rfl, hm1, hb⟩
  have bw := Lib.hid (bw.out.trans (hb.mono bw.out.size))
  have bx0 := Lib.hid (bx0.out.on hb)
  have bx1 := Lib.hid (bx1.out.on hb)
  have sz1 := Lib.hid (show v0.heap.size ≤ v1.heap.size from hb.size)
  clear hb
  rcases hm1 with rfl | ⟨m10, sm1⟩
  · go_wp2_with fail
    go_ret
    exact ⟨rfl, bw.out⟩
  have Fn := Lib.hid (CFine.of_sz (by omega) Kn.out m10 sm1)
  have m100 : ¬ m1 < 0 := by omega
  have m1k : m1 ≤ 1048576 := by have := sm1.1; omega
  have m1t : m1 + (n.s.length + tot n.s + (n.m.length + tot n.m) : Nat) ≤ 1048576 := sm1.1
  clear sm1
  obtain ⟨bx1c0, bx1c1, bx1c2, bx1c3, bx1c4, bx1c5, bx1c6, bx1c7⟩ := Rec.cells8 bx1.out
  go_wp2_with fail
  clear bx1c0 bx1c1 bx1c2 bx1c3 bx1c4 bx1c5 bx1c6 bx1c7
  refine (Rec.szRec_any r p m1 _ (Hr.out.step bw.out (Nat.le_refl _) bw.out.size) Kr.out (by omega) (by omega)).mono ?_
  rintro e v2 ⟨m2, rfl, hm2, hb⟩
  have bw := Lib.hid (bw.out.trans (hb.mono bw.out.size))
  have bx0 := Lib.hid (bx0.out.on hb)
  have bx1 := Lib.hid (bx1.out.on hb)
  have sz2 := Lib.hid (show v1.heap.size ≤ v2.heap.size from hb.size)
  clear hb
  rcases hm2 with rfl | ⟨m20, m21, sm2⟩
  · go_wp2_with fail
    go_ret
    exact ⟨rfl, bw.out⟩
  have m200 : ¬ m2 < 0 := by omega
  have rl : r.l.length ≤ 1048576 := by omega
  have rb : r.b.length ≤ 1048576 := by omega
  clear sm2
  have hnl := lackC_len (pc n) r
  obtain ⟨nr, hnr⟩ : ∃ l, lackC (pc n) r = l := ⟨_, rfl⟩
  have HNR := Lib.hid hnr
  rw [hnr] at hnl
  clear hnr
  have HKT := Lib.hid (show kC n + (4 * r.l.length + r.b.length) ≤ 6291456 from by have := kC_bound n; omega)
  have hkt := HKT.out
  go_wp2_with fail
  refine wp_region_held_drew (S := (fun W => (Below w.heap.size w W) ∧ (Blk W (w.heap.size) 24 #[Value.slice n.A n.s.length n.ca, Value.slice n.B n.m.length n.cb]) ∧ (Blk W (w.heap.size + 1) 49 (cellsV r p)))) (by kernel_rfl) ?_ (fun hHeld => ?_)
  · exact ⟨bw.out.drew, bx0.out, bx1.out⟩
  refine wpAnyH_take (i := 0) (v := ?_) rfl (by kernel_rfl) (by kernel_rfl) (by kernel_rfl) (fun _ _ _ h => h) (Or.inl ⟨by rfl, ?_⟩) hHeld ?_
  rotate_left
  · intro W hSw
    obtain ⟨q_bw, q_bx0, q_bx1⟩ := hSw
    obtain ⟨hbx00, hbx01⟩ := cell2 q_bx0
    obtain ⟨hbx10, hbx11, hbx12, hbx13, hbx14, hbx15, hbx16, hbx17⟩ := Rec.cells8 q_bx1
    go_simp
    try with_reducible rfl
  try simp only [Act.put, List.setIfInBounds_toArray, List.set_cons_zero, List.set_cons_succ, List.getElem_toArray, List.getElem_cons_zero]
  refine wpAnyH_take (i := 2) (v := ?_) rfl (by kernel_rfl) (by kernel_rfl) (by kernel_rfl) (fun _ _ _ h => h) (Or.inl ⟨by rfl, ?_⟩) hHeld ?_
  rotate_left
  · intro W hSw
    obtain ⟨q_bw, q_bx0, q_bx1⟩ := hSw
    obtain ⟨hbx00, hbx01⟩ := cell2 q_bx0
    obtain ⟨hbx10, hbx11, hbx12, hbx13, hbx14, hbx15, hbx16, hbx17⟩ := Rec.cells8 q_bx1
    go_simp
    try with_reducible rfl
  try simp only [Act.put, List.setIfInBounds_toArray, List.set_cons_zero, List.set_cons_succ, List.getElem_toArray, List.getElem_cons_succ, List.getElem_cons_zero]
  refine wpAnyH_ready (rs := [1]) (by kernel_rfl) (by simp) ?_
  refine AllReadyH.cons rfl (fun K hK => ?_) AllReadyH.nil
  go_simp
  refine (toCt_any n _ (Hn.out.on hHeld.1) Fn.out).mono ?_
  rintro e v3 ⟨t0n, rfl, t0p, t0c, t0h, hb⟩
  have sz3 := Lib.hid (show v2.heap.size ≤ v3.heap.size from hb.size)
  have t0P := Lib.hid t0p
  have t0F := Lib.hid (Fn.out.same t0p)
  have t0C := Lib.hid t0c
  clear t0p t0c
  unfold Ct.val
  have t0 := Lib.hid (show HeldC v3 t0n v2.heap.size v3.heap.size from t0h)
  clear t0h
  refine hK.out _ _ ?_ (fun hHeld => ?_)
  · first | exact ⟨hHeld.1.trans (hb.mono hHeld.1.size), hHeld.2.1.on hb, hHeld.2.2.on hb⟩ | assumption
  clear hK K
  try simp only [Act.put, List.setIfInBounds_toArray, List.set_cons_zero, List.set_cons_succ, List.getElem_toArray, List.getElem_cons_succ, List.getElem_cons_zero]
  refine wpAnyH_ready (rs := [3]) (by kernel_rfl) (by simp) ?_
  refine AllReadyH.cons rfl (fun K hK => ?_) AllReadyH.nil
  go_simp
  try clear hb
  refine (Rec.toRec_any r p _ (Hr.out.step hHeld.1 (Nat.le_refl _) hHeld.1.size) rl rb).mono ?_
  rintro e v4 ⟨t1p, rfl, t1h, -, -, hb⟩
  have sz4 := Lib.hid (show v3.heap.size ≤ v4.heap.size from hb.size)
  have t0 := Lib.hid (t0.out.step hb (.inr (Nat.le_refl _)))
  unfold recV
  have t1 := Lib.hid (show Rec.Held v4 r t1p v3.heap.size v4.heap.size from t1h)
  clear t1h
  refine hK.out _ _ ?_ (fun hHeld => ?_)
  · first | exact ⟨hHeld.1.trans (hb.mono hHeld.1.size), hHeld.2.1.on hb, hHeld.2.2.on hb⟩ | assumption
  clear hK K
  try simp only [Act.put, List.setIfInBounds_toArray, List.set_cons_zero, List.set_cons_succ, List.getElem_toArray, List.getElem_cons_succ, List.getElem_cons_zero]
  refine wpAnyH_ready (rs := [4]) (by kernel_rfl) (by simp) ?_
  refine AllReadyH.cons rfl (fun K hK => ?_) AllReadyH.nil
  go_simp
  try clear hb
  refine (specLackC_any t0n r t1p _ (t0.out.lies (by have sz0_ := sz0.out; have szb_ := szb.out; have sz1_ := sz1.out; have sz2_ := sz2.out; have sz3_ := sz3.out; have sz4_ := sz4.out; omega)) t0F.out t0C.out (t1.out.lies (by have sz0_ := sz0.out; have szb_ := szb.out; have sz1_ := sz1.out; have sz2_ := sz2.out; have sz3_ := sz3.out; have sz4_ := sz4.out; omega)) Kr.out).mono ?_
  rintro e v5 ⟨w0A, w0c, he, hh, hb⟩
  have sz5 := Lib.hid (show v4.heap.size ≤ v5.heap.size from hb.size)
  have t0 := Lib.hid (t0.out.step hb (.inr (Nat.le_refl _)))
  have t1 := Lib.hid (t1.out.step hb (.inr (Nat.le_refl _)))
  rw [t0P.out, HNR.out] at he hh
  subst he
  unfold Dep.slV
  have w0 := Lib.hid (show Dep.Held v5 w0A nr v4.heap.size v5.heap.size from hh)
  clear hh
  refine hK.out _ _ ?_ (fun hHeld => ?_)
  · first | exact ⟨hHeld.1.trans (hb.mono hHeld.1.size), hHeld.2.1.on hb, hHeld.2.2.on hb⟩ | assumption
  clear hK K
  try simp only [Act.put, List.setIfInBounds_toArray, List.set_cons_zero, List.set_cons_succ, List.getElem_toArray, List.getElem_cons_succ, List.getElem_cons_zero]
  refine wpAnyH_take (i := 5) (v := ?_) rfl (by kernel_rfl) (by kernel_rfl) (by kernel_rfl) (fun _ _ _ h => h) (Or.inl ⟨by rfl, ?_⟩) hHeld ?_
  rotate_left
  · intro W hSw
    obtain ⟨q_bw, q_bx0, q_bx1⟩ := hSw
    obtain ⟨hbx00, hbx01⟩ := cell2 q_bx0
    obtain ⟨hbx10, hbx11, hbx12, hbx13, hbx14, hbx15, hbx16, hbx17⟩ := Rec.cells8 q_bx1
    go_simp
    try with_reducible rfl
  try simp only [Act.put, List.setIfInBounds_toArray, List.set_cons_zero, List.set_cons_succ, List.getElem_toArray, List.getElem_cons_succ, List.getElem_cons_zero]
  refine wpAnyH_done (by kernel_rfl) ?_ _
  obtain ⟨bw_, bx0_, bx1_⟩ := hHeld
  have bw := Lib.hid bw_
  have bx0 := Lib.hid bx0_
  have bx1 := Lib.hid bx1_
  clear bw_ bx0_ bx1_
  clear t0 t1 t0P t0F t0C
  obtain ⟨bx0c0, bx0c1⟩ := cell2 bx0.out
  go_wp2_with fail
  clear bx0c0 bx0c1
  refine (toCt_any n _ (Hn.out.on bw.out) Fn.out).mono ?_
  rintro e v6 ⟨x0n, rfl, x0p, x0c, x0h, hb⟩
  have x0P := Lib.hid x0p
  have x0F := Lib.hid (Fn.out.same x0p)
  have x0C := Lib.hid x0c
  clear x0p x0c
  unfold Ct.val
  have bw := Lib.hid (bw.out.trans (hb.mono bw.out.size))
  have bx0 := Lib.hid (bx0.out.on hb)
  have bx1 := Lib.hid (bx1.out.on hb)
  have w0 := Lib.hid (w0.out.step hb (.inr (Nat.le_refl _)))
  have sz6 := Lib.hid (show v5.heap.size ≤ v6.heap.size from hb.size)
  have x0 := Lib.hid (show HeldC v6 x0n v5.heap.size v6.heap.size from x0h)
  clear hb
  clear x0h
  obtain ⟨bx1c0, bx1c1, bx1c2, bx1c3, bx1c4, bx1c5, bx1c6, bx1c7⟩ := Rec.cells8 (bx1.out.alloc (Obj.cells #[Value.slice x0n.A x0n.s.length x0n.ca, Value.slice x0n.B x0n.m.length x0n.cb] 35))
  go_wp2_with fail
  clear bx1c0 bx1c1 bx1c2 bx1c3 bx1c4 bx1c5 bx1c6 bx1c7
  have bw := Lib.hid (bw.out.alloc bw.out.size (Obj.cells #[Value.slice x0n.A x0n.s.length x0n.ca, Value.slice x0n.B x0n.m.length x0n.cb] 35))
  have bx0 := Lib.hid (bx0.out.alloc (Obj.cells #[Value.slice x0n.A x0n.s.length x0n.ca, Value.slice x0n.B x0n.m.length x0n.cb] 35))
  have bx1 := Lib.hid (bx1.out.alloc (Obj.cells #[Value.slice x0n.A x0n.s.length x0n.ca, Value.slice x0n.B x0n.m.length x0n.cb] 35))
  have w0 := Lib.hid (w0.out.step ((Below.refl _ v6).alloc (Nat.le_refl _) (Obj.cells #[Value.slice x0n.A x0n.s.length x0n.ca, Value.slice x0n.B x0n.m.length x0n.cb] 35)) (.inr (Nat.le_refl _)))
  have x0 := Lib.hid (x0.out.step ((Below.refl _ v6).alloc (Nat.le_refl _) (Obj.cells #[Value.slice x0n.A x0n.s.length x0n.ca, Value.slice x0n.B x0n.m.length x0n.cb] 35)) (.inr (Nat.le_refl _)))
  have y0 := Lib.hid (show Blk (World.alloc v6 (Obj.cells #[Value.slice x0n.A x0n.s.length x0n.ca, Value.slice x0n.B x0n.m.length x0n.cb] 35)) v6.heap.size 35 #[Value.slice x0n.A x0n.s.length x0n.ca, Value.slice x0n.B x0n.m.length x0n.cb] from Blk.new v6 35 #[Value.slice x0n.A x0n.s.length x0n.ca, Value.slice x0n.B x0n.m.length x0n.cb])
  have sz7 := Lib.hid (show v6.heap.size + 1 = (World.alloc v6 (Obj.cells #[Value.slice x0n.A x0n.s.length x0n.ca, Value.slice x0n.B x0n.m.length x0n.cb] 35)).heap.size by simp)
  generalize World.alloc v6 _ = v7 at bw bx0 bx1 w0 x0 y0 sz7 ⊢
  refine (Rec.toRec_any r p _ (Hr.out.step bw.out (Nat.le_refl _) bw.out.size) rl rb).mono ?_
  rintro e v8 ⟨x1p, rfl, x1h, -, -, hb⟩
  unfold recV
  have bw := Lib.hid (bw.out.trans (hb.mono bw.out.size))
  have bx0 := Lib.hid (bx0.out.on hb)
  have bx1 := Lib.hid (bx1.out.on hb)
  have w0 := Lib.hid (w0.out.step hb (.inr (Nat.le_refl _)))
  have x0 := Lib.hid (x0.out.step hb (.inr (Nat.le_refl _)))
  have y0 := Lib.hid (y0.out.on hb)
  have sz8 := Lib.hid (show v7.heap.size ≤ v8.heap.size from hb.size)
  have x1 := Lib.hid (show Rec.Held v8 r x1p v7.heap.size v8.heap.size from x1h)
  clear hb
  clear x1h
  obtain ⟨y0c0, y0c1⟩ := cell2 (y0.out.alloc (Obj.cells (cellsV r x1p) 31))
  go_wp2_with fail
  clear y0c0 y0c1
  have bw := Lib.hid (bw.out.alloc bw.out.size (Obj.cells (cellsV r x1p) 31))
  have bx0 := Lib.hid (bx0.out.alloc (Obj.cells (cellsV r x1p) 31))
  have bx1 := Lib.hid (bx1.out.alloc (Obj.cells (cellsV r x1p) 31))
  have w0 := Lib.hid (w0.out.step ((Below.refl _ v8).alloc (Nat.le_refl _) (Obj.cells (cellsV r x1p) 31)) (.inr (Nat.le_refl _)))
  have x0 := Lib.hid (x0.out.step ((Below.refl _ v8).alloc (Nat.le_refl _) (Obj.cells (cellsV r x1p) 31)) (.inr (Nat.le_refl _)))
  have y0 := Lib.hid (y0.out.alloc (Obj.cells (cellsV r x1p) 31))
  have x1 := Lib.hid (x1.out.step ((Below.refl _ v8).alloc (Nat.le_refl _) (Obj.cells (cellsV r x1p) 31)) (.inr (Nat.le_refl _)))
  have y1 := Lib.hid (show Blk (World.alloc v8 (Obj.cells (cellsV r x1p) 31)) v8.heap.size 31 (cellsV r x1p) from Blk.new v8 31 (cellsV r x1p))
  have sz9 := Lib.hid (show v8.heap.size + 1 = (World.alloc v8 (Obj.cells (cellsV r x1p) 31)).heap.size by simp)
  generalize World.alloc v8 _ = v9 at bw bx0 bx1 w0 x0 y0 x1 y1 sz9 ⊢
  refine (implLackC_any x0n r x1p _ (x0.out.lies (by have sz0_ := sz0.out; have szb_ := szb.out; have sz1_ := sz1.out; have sz2_ := sz2.out; have sz3_ := sz3.out; have sz4_ := sz4.out; have sz5_ := sz5.out; have sz6_ := sz6.out; have sz7_ := sz7.out; have sz8_ := sz8.out; have sz9_ := sz9.out; omega)) x0F.out x0C.out (x1.out.lies (by have sz0_ := sz0.out; have szb_ := szb.out; have sz1_ := sz1.out; have sz2_ := sz2.out; have sz3_ := sz3.out; have sz4_ := sz4.out; have sz5_ := sz5.out; have sz6_ := sz6.out; have sz7_ := sz7.out; have sz8_ := sz8.out; have sz9_ := sz9.out; omega)) Kr.out).mono ?_
  rintro e v10 hg
  rw [x0P.out, HNR.out] at hg
  obtain ⟨g0A, g0c, rfl, hh, hb⟩ := hg
  unfold Dep.slV
  have bw := Lib.hid (bw.out.trans (hb.mono bw.out.size))
  have bx0 := Lib.hid (bx0.out.on hb)
  have bx1 := Lib.hid (bx1.out.on hb)
  have w0 := Lib.hid (w0.out.step hb (.inr (Nat.le_refl _)))
  have x0 := Lib.hid (x0.out.step hb (.inr (Nat.le_refl _)))
  have y0 := Lib.hid (y0.out.on hb)
  have x1 := Lib.hid (x1.out.step hb (.inr (Nat.le_refl _)))
  have y1 := Lib.hid (y1.out.on hb)
  have sz10 := Lib.hid (show v9.heap.size ≤ v10.heap.size from hb.size)
  have g0 := Lib.hid (show Dep.Held v10 g0A nr v9.heap.size v10.heap.size from hh)
  clear hb
  clear hh
  go_wp2_with fail
  refine (Dep.eqDepS_same g0A w0A nr g0c w0c _ (g0.out.lies (by have sz0_ := sz0.out; have szb_ := szb.out; have sz1_ := sz1.out; have sz2_ := sz2.out; have sz3_ := sz3.out; have sz4_ := sz4.out; have sz5_ := sz5.out; have sz6_ := sz6.out; have sz7_ := sz7.out; have sz8_ := sz8.out; have sz9_ := sz9.out; have sz10_ := sz10.out; omega)) (w0.out.lies (by have sz0_ := sz0.out; have szb_ := szb.out; have sz1_ := sz1.out; have sz2_ := sz2.out; have sz3_ := sz3.out; have sz4_ := sz4.out; have sz5_ := sz5.out; have sz6_ := sz6.out; have sz7_ := sz7.out; have sz8_ := sz8.out; have sz9_ := sz9.out; have sz10_ := sz10.out; omega)) (by unfold maxLen; omega)).mono ?_
  rintro e v11 ⟨rfl, hb⟩
  have bw := Lib.hid (bw.out.trans (hb.mono bw.out.size))
  have bx0 := Lib.hid (bx0.out.on hb)
  have bx1 := Lib.hid (bx1.out.on hb)
  have w0 := Lib.hid (w0.out.step hb (.inr (Nat.le_refl _)))
  have x0 := Lib.hid (x0.out.step hb (.inr (Nat.le_refl _)))
  have y0 := Lib.hid (y0.out.on hb)
  have x1 := Lib.hid (x1.out.step hb (.inr (Nat.le_refl _)))
  have y1 := Lib.hid (y1.out.on hb)
  have g0 := Lib.hid (g0.out.step hb (.inr (Nat.le_refl _)))
  have sz11 := Lib.hid (show v10.heap.size ≤ v11.heap.size from hb.size)
  clear hb
  go_wp2_with fail
  refine wp_region_held_drew (S := (fun W => (Below w.heap.size w W) ∧ (Blk W (w.heap.size) 24 #[Value.slice n.A n.s.length n.ca, Value.slice n.B n.m.length n.cb]) ∧ (Blk W (w.heap.size + 1) 49 (cellsV r p)) ∧ (Dep.Held W w0A nr v4.heap.size v5.heap.size) ∧ (HeldC W x0n v5.heap.size v6.heap.size) ∧ (Blk W v6.heap.size 35 #[Value.slice x0n.A x0n.s.length x0n.ca, Value.slice x0n.B x0n.m.length x0n.cb]) ∧ (Rec.Held W r x1p v7.heap.size v8.heap.size) ∧ (Blk W v8.heap.size 31 (cellsV r x1p)) ∧ (Dep.Held W g0A nr v9.heap.size v10.heap.size))) (by kernel_rfl) ?_ (fun hHeld => ?_)
  · exact ⟨bw.out.drew, bx0.out, bx1.out, w0.out, x0.out.drew, y0.out, x1.out, y1.out, g0.out⟩
  refine wpAnyH_take (i := 0) (v := ?_) rfl (by kernel_rfl) (by kernel_rfl) (by kernel_rfl) (fun _ _ _ h => h) (Or.inl ⟨by rfl, ?_⟩) hHeld ?_
  rotate_left
  · intro W hSw
    obtain ⟨q_bw, q_bx0, q_bx1, q_w0, q_x0, q_y0, q_x1, q_y1, q_g0⟩ := hSw
    obtain ⟨hbx00, hbx01⟩ := cell2 q_bx0
    obtain ⟨hy00, hy01⟩ := cell2 q_y0
    go_simp
    try with_reducible rfl
  try simp only [Act.put, List.setIfInBounds_toArray, List.set_cons_zero, List.set_cons_succ, List.getElem_toArray, List.getElem_cons_zero]
  refine wpAnyH_take (i := 1) (v := ?_) rfl (by kernel_rfl) (by kernel_rfl) (by kernel_rfl) (fun _ _ _ h => h) (Or.inl ⟨by rfl, ?_⟩) hHeld ?_
  rotate_left
  · intro W hSw
    obtain ⟨q_bw, q_bx0, q_bx1, q_w0, q_x0, q_y0, q_x1, q_y1, q_g0⟩ := hSw
    obtain ⟨hbx00, hbx01⟩ := cell2 q_bx0
    obtain ⟨hy00, hy01⟩ := cell2 q_y0
    go_simp
    try with_reducible rfl
  try simp only [Act.put, List.setIfInBounds_toArray, List.set_cons_zero, List.set_cons_succ, List.getElem_toArray, List.getElem_cons_succ, List.getElem_cons_zero]
  refine wpAnyH_ready (rs := [2]) (by kernel_rfl) (by simp) ?_
  refine AllReadyH.cons rfl (fun K hK => ?_) AllReadyH.nil
  go_simp
  refine (toCt_any n _ (Hn.out.on hHeld.1) Fn.out).mono ?_
  rintro e v12 ⟨u0n, rfl, u0p, u0c, u0h, hb⟩
  have sz12 := Lib.hid (show v11.heap.size ≤ v12.heap.size from hb.size)
  have u0P := Lib.hid u0p
  have u0F := Lib.hid (Fn.out.same u0p)
  have u0C := Lib.hid u0c
  clear u0p u0c
  unfold Ct.val
  have u0 := Lib.hid (show HeldC v12 u0n v11.heap.size v12.heap.size from u0h)
  clear u0h
  refine hK.out _ _ ?_ (fun hHeld => ?_)
  · first | exact ⟨hHeld.1.trans (hb.mono hHeld.1.size), hHeld.2.1.on hb, hHeld.2.2.1.on hb, hHeld.2.2.2.1.step hb (.inr (Nat.le_refl _)), hHeld.2.2.2.2.1.step hb (.inr (Nat.le_refl _)), hHeld.2.2.2.2.2.1.on hb, hHeld.2.2.2.2.2.2.1.step hb (.inr (Nat.le_refl _)), hHeld.2.2.2.2.2.2.2.1.on hb, hHeld.2.2.2.2.2.2.2.2.step hb (.inr (Nat.le_refl _))⟩ | assumption
  clear hK K
  try simp only [Act.put, List.setIfInBounds_toArray, List.set_cons_zero, List.set_cons_succ, List.getElem_toArray, List.getElem_cons_succ, List.getElem_cons_zero]
  refine wpAnyH_ready (rs := [3]) (by kernel_rfl) (by simp) ?_
  refine AllReadyH.cons rfl (fun K hK => ?_) AllReadyH.nil
  go_simp
  try clear hb
  refine (eqCt_same x0n u0n _ (hHeld.2.2.2.2.1.lies (by have sz0_ := sz0.out; have szb_ := szb.out; have sz1_ := sz1.out; have sz2_ := sz2.out; have sz3_ := sz3.out; have sz4_ := sz4.out; have sz5_ := sz5.out; have sz6_ := sz6.out; have sz7_ := sz7.out; have sz8_ := sz8.out; have sz9_ := sz9.out; have sz10_ := sz10.out; have sz11_ := sz11.out; have sz12_ := sz12.out; omega)) (u0.out.lies (by have sz0_ := sz0.out; have szb_ := szb.out; have sz1_ := sz1.out; have sz2_ := sz2.out; have sz3_ := sz3.out; have sz4_ := sz4.out; have sz5_ := sz5.out; have sz6_ := sz6.out; have sz7_ := sz7.out; have sz8_ := sz8.out; have sz9_ := sz9.out; have sz10_ := sz10.out; have sz11_ := sz11.out; have sz12_ := sz12.out; omega)) (x0P.out.trans u0P.out.symm) x0F.out).mono ?_
  rintro e v13 ⟨rfl, hb⟩
  have sz13 := Lib.hid (show v12.heap.size ≤ v13.heap.size from hb.size)
  have u0 := Lib.hid (u0.out.step hb (.inr (Nat.le_refl _)))
  refine hK.out _ _ ?_ (fun hHeld => ?_)
  · first | exact ⟨hHeld.1.trans (hb.mono hHeld.1.size), hHeld.2.1.on hb, hHeld.2.2.1.on hb, hHeld.2.2.2.1.step hb (.inr (Nat.le_refl _)), hHeld.2.2.2.2.1.step hb (.inr (Nat.le_refl _)), hHeld.2.2.2.2.2.1.on hb, hHeld.2.2.2.2.2.2.1.step hb (.inr (Nat.le_refl _)), hHeld.2.2.2.2.2.2.2.1.on hb, hHeld.2.2.2.2.2.2.2.2.step hb (.inr (Nat.le_refl _))⟩ | assumption
  clear hK K
  try simp only [Act.put, List.setIfInBounds_toArray, List.set_cons_zero, List.set_cons_succ, List.getElem_toArray, List.getElem_cons_succ, List.getElem_cons_zero]
  refine wpAnyH_take (i := 4) (v := ?_) rfl (by kernel_rfl) (by kernel_rfl) (by kernel_rfl) (fun _ _ _ h => h) (Or.inl ⟨by rfl, ?_⟩) hHeld ?_
  rotate_left
  · intro W hSw
    obtain ⟨q_bw, q_bx0, q_bx1, q_w0, q_x0, q_y0, q_x1, q_y1, q_g0⟩ := hSw
    obtain ⟨hbx00, hbx01⟩ := cell2 q_bx0
    obtain ⟨hy00, hy01⟩ := cell2 q_y0
    go_simp
    try with_reducible rfl
  try simp only [Act.put, List.setIfInBounds_toArray, List.set_cons_zero, List.set_cons_succ, List.getElem_toArray, List.getElem_cons_succ, List.getElem_cons_zero]
  refine wpAnyH_done (by kernel_rfl) ?_ _
  obtain ⟨bw_, bx0_, bx1_, w0_, x0_, y0_, x1_, y1_, g0_⟩ := hHeld
  have bw := Lib.hid bw_
  have bx0 := Lib.hid bx0_
  have bx1 := Lib.hid bx1_
  have w0 := Lib.hid w0_
  have x0 := Lib.hid x0_
  have y0 := Lib.hid y0_
  have x1 := Lib.hid x1_
  have y1 := Lib.hid y1_
  have g0 := Lib.hid g0_
  clear bw_ bx0_ bx1_ w0_ x0_ y0_ x1_ y1_ g0_
  clear u0 u0P u0F u0C
  go_wp2_with fail
  refine wp_region_held_drew (S := (fun W => (Below w.heap.size w W) ∧ (Blk W (w.heap.size) 24 #[Value.slice n.A n.s.length n.ca, Value.slice n.B n.m.length n.cb]) ∧ (Blk W (w.heap.size + 1) 49 (cellsV r p)) ∧ (Dep.Held W w0A nr v4.heap.size v5.heap.size) ∧ (HeldC W x0n v5.heap.size v6.heap.size) ∧ (Blk W v6.heap.size 35 #[Value.slice x0n.A x0n.s.length x0n.ca, Value.slice x0n.B x0n.m.length x0n.cb]) ∧ (Rec.Held W r x1p v7.heap.size v8.heap.size) ∧ (Blk W v8.heap.size 31 (cellsV r x1p)) ∧ (Dep.Held W g0A nr v9.heap.size v10.heap.size))) (by kernel_rfl) ?_ (fun hHeld => ?_)
  · exact ⟨bw.out.drew, bx0.out, bx1.out, w0.out, x0.out.drew, y0.out, x1.out, y1.out, g0.out⟩
  refine wpAnyH_take (i := 0) (v := ?_) rfl (by kernel_rfl) (by kernel_rfl) (by kernel_rfl) (fun _ _ _ h => h) (Or.inl ⟨by rfl, ?_⟩) hHeld ?_
  rotate_left
  · intro W hSw
    obtain ⟨q_bw, q_bx0, q_bx1, q_w0, q_x0, q_y0, q_x1, q_y1, q_g0⟩ := hSw
    obtain ⟨hbx10, hbx11, hbx12, hbx13, hbx14, hbx15, hbx16, hbx17⟩ := Rec.cells8 q_bx1
    obtain ⟨hy10, hy11, hy12, hy13, hy14, hy15, hy16, hy17⟩ := Rec.cells8 q_y1
    go_simp
    try with_reducible rfl
  try simp only [Act.put, List.setIfInBounds_toArray, List.set_cons_zero, List.set_cons_succ, List.getElem_toArray, List.getElem_cons_zero]
  refine wpAnyH_take (i := 1) (v := ?_) rfl (by kernel_rfl) (by kernel_rfl) (by kernel_rfl) (fun _ _ _ h => h) (Or.inl ⟨by rfl, ?_⟩) hHeld ?_
  rotate_left
  · intro W hSw
    obtain ⟨q_bw, q_bx0, q_bx1, q_w0, q_x0, q_y0, q_x1, q_y1, q_g0⟩ := hSw
    obtain ⟨hbx10, hbx11, hbx12, hbx13, hbx14, hbx15, hbx16, hbx17⟩ := Rec.cells8 q_bx1
    obtain ⟨hy10, hy11, hy12, hy13, hy14, hy15, hy16, hy17⟩ := Rec.cells8 q_y1
    go_simp
    try with_reducible rfl
  try simp only [Act.put, List.setIfInBounds_toArray, List.set_cons_zero, List.set_cons_succ, List.getElem_toArray, List.getElem_cons_succ, List.getElem_cons_zero]
  refine wpAnyH_ready (rs := [2]) (by kernel_rfl) (by simp) ?_
  refine AllReadyH.cons rfl (fun K hK => ?_) AllReadyH.nil
  go_simp
  refine (Rec.toRec_any r p _ (Hr.out.step hHeld.1 (Nat.le_refl _) hHeld.1.size) rl rb).mono ?_
  rintro e v14 ⟨u1p, rfl, u1h, -, -, hb⟩
  have sz14 := Lib.hid (show v13.heap.size ≤ v14.heap.size from hb.size)
  unfold recV
  have u1 := Lib.hid (show Rec.Held v14 r u1p v13.heap.size v14.heap.size from u1h)
  clear u1h
  refine hK.out _ _ ?_ (fun hHeld => ?_)
  · first | exact ⟨hHeld.1.trans (hb.mono hHeld.1.size), hHeld.2.1.on hb, hHeld.2.2.1.on hb, hHeld.2.2.2.1.step hb (.inr (Nat.le_refl _)), hHeld.2.2.2.2.1.step hb (.inr (Nat.le_refl _)), hHeld.2.2.2.2.2.1.on hb, hHeld.2.2.2.2.2.2.1.step hb (.inr (Nat.le_refl _)), hHeld.2.2.2.2.2.2.2.1.on hb, hHeld.2.2.2.2.2.2.2.2.step hb (.inr (Nat.le_refl _))⟩ | assumption
  clear hK K
  try simp only [Act.put, List.setIfInBounds_toArray, List.set_cons_zero, List.set_cons_succ, List.getElem_toArray, List.getElem_cons_succ, List.getElem_cons_zero]
  refine wpAnyH_ready (rs := [3]) (by kernel_rfl) (by simp) ?_
  refine AllReadyH.cons rfl (fun K hK => ?_) AllReadyH.nil
  go_simp
  try clear hb
  refine (Rec.eqRec_same r x1p u1p _ (hHeld.2.2.2.2.2.2.1.lies (by have sz0_ := sz0.out; have szb_ := szb.out; have sz1_ := sz1.out; have sz2_ := sz2.out; have sz3_ := sz3.out; have sz4_ := sz4.out; have sz5_ := sz5.out; have sz6_ := sz6.out; have sz7_ := sz7.out; have sz8_ := sz8.out; have sz9_ := sz9.out; have sz10_ := sz10.out; have sz11_ := sz11.out; have sz12_ := sz12.out; have sz13_ := sz13.out; have sz14_ := sz14.out; omega)) (u1.out.lies (by have sz0_ := sz0.out; have szb_ := szb.out; have sz1_ := sz1.out; have sz2_ := sz2.out; have sz3_ := sz3.out; have sz4_ := sz4.out; have sz5_ := sz5.out; have sz6_ := sz6.out; have sz7_ := sz7.out; have sz8_ := sz8.out; have sz9_ := sz9.out; have sz10_ := sz10.out; have sz11_ := sz11.out; have sz12_ := sz12.out; have sz13_ := sz13.out; have sz14_ := sz14.out; omega)) (by unfold maxLen; omega) (by unfold maxLen; omega)).mono ?_
  rintro e v15 ⟨rfl, hb⟩
  have sz15 := Lib.hid (show v14.heap.size ≤ v15.heap.size from hb.size)
  have u1 := Lib.hid (u1.out.step hb (.inr (Nat.le_refl _)))
  refine hK.out _ _ ?_ (fun hHeld => ?_)
  · first | exact ⟨hHeld.1.trans (hb.mono hHeld.1.size), hHeld.2.1.on hb, hHeld.2.2.1.on hb, hHeld.2.2.2.1.step hb (.inr (Nat.le_refl _)), hHeld.2.2.2.2.1.step hb (.inr (Nat.le_refl _)), hHeld.2.2.2.2.2.1.on hb, hHeld.2.2.2.2.2.2.1.step hb (.inr (Nat.le_refl _)), hHeld.2.2.2.2.2.2.2.1.on hb, hHeld.2.2.2.2.2.2.2.2.step hb (.inr (Nat.le_refl _))⟩ | assumption
  clear hK K
  try simp only [Act.put, List.setIfInBounds_toArray, List.set_cons_zero, List.set_cons_succ, List.getElem_toArray, List.getElem_cons_succ, List.getElem_cons_zero]
  refine wpAnyH_take (i := 4) (v := ?_) rfl (by kernel_rfl) (by kernel_rfl) (by kernel_rfl) (fun _ _ _ h => h) (Or.inl ⟨by rfl, ?_⟩) hHeld ?_
  rotate_left
  · intro W hSw
    obtain ⟨q_bw, q_bx0, q_bx1, q_w0, q_x0, q_y0, q_x1, q_y1, q_g0⟩ := hSw
    obtain ⟨hbx10, hbx11, hbx12, hbx13, hbx14, hbx15, hbx16, hbx17⟩ := Rec.cells8 q_bx1
    obtain ⟨hy10, hy11, hy12, hy13, hy14, hy15, hy16, hy17⟩ := Rec.cells8 q_y1
    go_simp
    try with_reducible rfl
  try simp only [Act.put, List.setIfInBounds_toArray, List.set_cons_zero, List.set_cons_succ, List.getElem_toArray, List.getElem_cons_succ, List.getElem_cons_zero]
  refine wpAnyH_done (by kernel_rfl) ?_ _
  obtain ⟨bw_, bx0_, bx1_, w0_, x0_, y0_, x1_, y1_, g0_⟩ := hHeld
  have bw := Lib.hid bw_
  have bx0 := Lib.hid bx0_
  have bx1 := Lib.hid bx1_
  have w0 := Lib.hid w0_
  have x0 := Lib.hid x0_
  have y0 := Lib.hid y0_
  have x1 := Lib.hid x1_
  have y1 := Lib.hid y1_
  have g0 := Lib.hid g0_
  clear bw_ bx0_ bx1_ w0_ x0_ y0_ x1_ y1_ g0_
  clear u1
  obtain ⟨y0c0, y0c1⟩ := cell2 y0.out
  go_wp2_with fail
  clear y0c0 y0c1
  refine (markCt_any x0n 1 _ _ _ x0.out x0F.out (by have := x0F.out.kC_le; omega)).mono ?_
  rintro e v16 ⟨rfl, hh, ht⟩
  have bw := Lib.hid (ht.below bw.out (by have sz0_ := sz0.out; have szb_ := szb.out; have sz1_ := sz1.out; have sz2_ := sz2.out; have sz3_ := sz3.out; have sz4_ := sz4.out; have sz5_ := sz5.out; have sz6_ := sz6.out; have sz7_ := sz7.out; have sz8_ := sz8.out; have sz9_ := sz9.out; have sz10_ := sz10.out; have sz11_ := sz11.out; have sz12_ := sz12.out; have sz13_ := sz13.out; have sz14_ := sz14.out; have sz15_ := sz15.out; omega))
  have bx0 := Lib.hid (ht.blk bx0.out (by decide))
  have bx1 := Lib.hid (ht.blk bx1.out (by decide))
  have w0 := Lib.hid (ht.dep w0.out (by have sz0_ := sz0.out; have szb_ := szb.out; have sz1_ := sz1.out; have sz2_ := sz2.out; have sz3_ := sz3.out; have sz4_ := sz4.out; have sz5_ := sz5.out; have sz6_ := sz6.out; have sz7_ := sz7.out; have sz8_ := sz8.out; have sz9_ := sz9.out; have sz10_ := sz10.out; have sz11_ := sz11.out; have sz12_ := sz12.out; have sz13_ := sz13.out; have sz14_ := sz14.out; have sz15_ := sz15.out; omega))
  have x0 := Lib.hid (show HeldC v16 (mkC 1 x0n) v5.heap.size v6.heap.size from hh)
  have y0 := Lib.hid (ht.blk y0.out (by decide))
  have x1 := Lib.hid (ht.recd x1.out (by have sz0_ := sz0.out; have szb_ := szb.out; have sz1_ := sz1.out; have sz2_ := sz2.out; have sz3_ := sz3.out; have sz4_ := sz4.out; have sz5_ := sz5.out; have sz6_ := sz6.out; have sz7_ := sz7.out; have sz8_ := sz8.out; have sz9_ := sz9.out; have sz10_ := sz10.out; have sz11_ := sz11.out; have sz12_ := sz12.out; have sz13_ := sz13.out; have sz14_ := sz14.out; have sz15_ := sz15.out; omega))
  have y1 := Lib.hid (ht.blk2 y1.out (by have sz0_ := sz0.out; have szb_ := szb.out; have sz1_ := sz1.out; have sz2_ := sz2.out; have sz3_ := sz3.out; have sz4_ := sz4.out; have sz5_ := sz5.out; have sz6_ := sz6.out; have sz7_ := sz7.out; have sz8_ := sz8.out; have sz9_ := sz9.out; have sz10_ := sz10.out; have sz11_ := sz11.out; have sz12_ := sz12.out; have sz13_ := sz13.out; have sz14_ := sz14.out; have sz15_ := sz15.out; omega))
  have g0 := Lib.hid (ht.dep g0.out (by have sz0_ := sz0.out; have szb_ := szb.out; have sz1_ := sz1.out; have sz2_ := sz2.out; have sz3_ := sz3.out; have sz4_ := sz4.out; have sz5_ := sz5.out; have sz6_ := sz6.out; have sz7_ := sz7.out; have sz8_ := sz8.out; have sz9_ := sz9.out; have sz10_ := sz10.out; have sz11_ := sz11.out; have sz12_ := sz12.out; have sz13_ := sz13.out; have sz14_ := sz14.out; have sz15_ := sz15.out; omega))
  have sz16 := Lib.hid (show v15.heap.size ≤ v16.heap.size from ht.size)
  clear hh ht
  have hkx0 : ¬ ((1 + kC x0n : Nat) : Int) < 0 := by omega
  obtain ⟨zx0, hzx0⟩ : ∃ z : Nat, 1 + kC x0n = z := ⟨_, rfl⟩
  have Hzx0 := Lib.hid hzx0
  rw [hzx0] at hkx0 ⊢
  clear hzx0
  clear x0
  obtain ⟨y1c0, y1c1, y1c2, y1c3, y1c4, y1c5, y1c6, y1c7⟩ := Rec.cells8 y1.out
  go_wp2_with fail
  clear y1c0 y1c1 y1c2 y1c3 y1c4 y1c5 y1c6 y1c7
  refine (markRec1_any r x1p zx0 _ _ _ x1.out (by omega) (by omega) (by have h1 := Hzx0.out; have h2 := kC_same x0P.out; unfold kL; omega)).mono ?_
  rintro e v17 ⟨rfl, hh, ht⟩
  have bw := Lib.hid (ht.below bw.out (by have sz0_ := sz0.out; have szb_ := szb.out; have sz1_ := sz1.out; have sz2_ := sz2.out; have sz3_ := sz3.out; have sz4_ := sz4.out; have sz5_ := sz5.out; have sz6_ := sz6.out; have sz7_ := sz7.out; have sz8_ := sz8.out; have sz9_ := sz9.out; have sz10_ := sz10.out; have sz11_ := sz11.out; have sz12_ := sz12.out; have sz13_ := sz13.out; have sz14_ := sz14.out; have sz15_ := sz15.out; have sz16_ := sz16.out; omega))
  have bx0 := Lib.hid (ht.blk bx0.out (by decide))
  have bx1 := Lib.hid (ht.blk bx1.out (by decide))
  have w0 := Lib.hid (ht.dep w0.out (by have sz0_ := sz0.out; have szb_ := szb.out; have sz1_ := sz1.out; have sz2_ := sz2.out; have sz3_ := sz3.out; have sz4_ := sz4.out; have sz5_ := sz5.out; have sz6_ := sz6.out; have sz7_ := sz7.out; have sz8_ := sz8.out; have sz9_ := sz9.out; have sz10_ := sz10.out; have sz11_ := sz11.out; have sz12_ := sz12.out; have sz13_ := sz13.out; have sz14_ := sz14.out; have sz15_ := sz15.out; have sz16_ := sz16.out; omega))
  have y0 := Lib.hid (ht.blk y0.out (by decide))
  have x1 := Lib.hid (show Rec.Held v17 (mkL zx0 r) x1p v7.heap.size v8.heap.size from hh)
  have y1 := Lib.hid (ht.blk2 y1.out (by have sz0_ := sz0.out; have szb_ := szb.out; have sz1_ := sz1.out; have sz2_ := sz2.out; have sz3_ := sz3.out; have sz4_ := sz4.out; have sz5_ := sz5.out; have sz6_ := sz6.out; have sz7_ := sz7.out; have sz8_ := sz8.out; have sz9_ := sz9.out; have sz10_ := sz10.out; have sz11_ := sz11.out; have sz12_ := sz12.out; have sz13_ := sz13.out; have sz14_ := sz14.out; have sz15_ := sz15.out; have sz16_ := sz16.out; omega))
  have g0 := Lib.hid (ht.dep g0.out (by have sz0_ := sz0.out; have szb_ := szb.out; have sz1_ := sz1.out; have sz2_ := sz2.out; have sz3_ := sz3.out; have sz4_ := sz4.out; have sz5_ := sz5.out; have sz6_ := sz6.out; have sz7_ := sz7.out; have sz8_ := sz8.out; have sz9_ := sz9.out; have sz10_ := sz10.out; have sz11_ := sz11.out; have sz12_ := sz12.out; have sz13_ := sz13.out; have sz14_ := sz14.out; have sz15_ := sz15.out; have sz16_ := sz16.out; omega))
  have sz17 := Lib.hid (show v16.heap.size ≤ v17.heap.size from ht.size)
  clear hh ht
  have hkx1 : ¬ ((zx0 + kL r : Nat) : Int) < 0 := by omega
  obtain ⟨zx1, hzx1⟩ : ∃ z : Nat, zx0 + kL r = z := ⟨_, rfl⟩
  have Hzx1 := Lib.hid hzx1
  rw [hzx1] at hkx1 ⊢
  clear hzx1
  clear x1
  go_wp2_with fail
  refine (Dep.eqDepS_same g0A w0A nr g0c w0c _ (g0.out.lies (by have sz0_ := sz0.out; have szb_ := szb.out; have sz1_ := sz1.out; have sz2_ := sz2.out; have sz3_ := sz3.out; have sz4_ := sz4.out; have sz5_ := sz5.out; have sz6_ := sz6.out; have sz7_ := sz7.out; have sz8_ := sz8.out; have sz9_ := sz9.out; have sz10_ := sz10.out; have sz11_ := sz11.out; have sz12_ := sz12.out; have sz13_ := sz13.out; have sz14_ := sz14.out; have sz15_ := sz15.out; have sz16_ := sz16.out; have sz17_ := sz17.out; omega)) (w0.out.lies (by have sz0_ := sz0.out; have szb_ := szb.out; have sz1_ := sz1.out; have sz2_ := sz2.out; have sz3_ := sz3.out; have sz4_ := sz4.out; have sz5_ := sz5.out; have sz6_ := sz6.out; have sz7_ := sz7.out; have sz8_ := sz8.out; have sz9_ := sz9.out; have sz10_ := sz10.out; have sz11_ := sz11.out; have sz12_ := sz12.out; have sz13_ := sz13.out; have sz14_ := sz14.out; have sz15_ := sz15.out; have sz16_ := sz16.out; have sz17_ := sz17.out; omega)) (by unfold maxLen; omega)).mono ?_
  rintro e v18 ⟨rfl, hb⟩
  have bw := Lib.hid (bw.out.trans (hb.mono bw.out.size))
  have bx0 := Lib.hid (bx0.out.on hb)
  have bx1 := Lib.hid (bx1.out.on hb)
  have w0 := Lib.hid (w0.out.step hb (.inr (Nat.le_refl _)))
  have y0 := Lib.hid (y0.out.on hb)
  have y1 := Lib.hid (y1.out.on hb)
  have g0 := Lib.hid (g0.out.step hb (.inr (Nat.le_refl _)))
  have sz18 := Lib.hid (show v17.heap.size ≤ v18.heap.size from hb.size)
  clear hb
  go_wp2_with fail
  refine (Dep.mark_any g0A nr g0c 1 _ _ _ g0.out (by omega) (by omega)).mono ?_
  rintro e v19 ⟨rfl, hh, ht⟩
  have ht := Tch.ofDeps (ts := tsR) ht (by decide)
  have bw := Lib.hid (ht.below bw.out (by have sz0_ := sz0.out; have szb_ := szb.out; have sz1_ := sz1.out; have sz2_ := sz2.out; have sz3_ := sz3.out; have sz4_ := sz4.out; have sz5_ := sz5.out; have sz6_ := sz6.out; have sz7_ := sz7.out; have sz8_ := sz8.out; have sz9_ := sz9.out; have sz10_ := sz10.out; have sz11_ := sz11.out; have sz12_ := sz12.out; have sz13_ := sz13.out; have sz14_ := sz14.out; have sz15_ := sz15.out; have sz16_ := sz16.out; have sz17_ := sz17.out; have sz18_ := sz18.out; omega))
  have bx0 := Lib.hid (ht.blk bx0.out (by decide))
  have bx1 := Lib.hid (ht.blk bx1.out (by decide))
  have w0 := Lib.hid (ht.dep w0.out (by have sz0_ := sz0.out; have szb_ := szb.out; have sz1_ := sz1.out; have sz2_ := sz2.out; have sz3_ := sz3.out; have sz4_ := sz4.out; have sz5_ := sz5.out; have sz6_ := sz6.out; have sz7_ := sz7.out; have sz8_ := sz8.out; have sz9_ := sz9.out; have sz10_ := sz10.out; have sz11_ := sz11.out; have sz12_ := sz12.out; have sz13_ := sz13.out; have sz14_ := sz14.out; have sz15_ := sz15.out; have sz16_ := sz16.out; have sz17_ := sz17.out; have sz18_ := sz18.out; omega))
  have y0 := Lib.hid (ht.blk y0.out (by decide))
  have y1 := Lib.hid (ht.blk2 y1.out (by have sz0_ := sz0.out; have szb_ := szb.out; have sz1_ := sz1.out; have sz2_ := sz2.out; have sz3_ := sz3.out; have sz4_ := sz4.out; have sz5_ := sz5.out; have sz6_ := sz6.out; have sz7_ := sz7.out; have sz8_ := sz8.out; have sz9_ := sz9.out; have sz10_ := sz10.out; have sz11_ := sz11.out; have sz12_ := sz12.out; have sz13_ := sz13.out; have sz14_ := sz14.out; have sz15_ := sz15.out; have sz16_ := sz16.out; have sz17_ := sz17.out; have sz18_ := sz18.out; omega))
  have g0 := Lib.hid (show Dep.Held v19 g0A (Dep.marks 1 nr.length) v9.heap.size v10.heap.size from hh)
  have sz19 := Lib.hid (show v18.heap.size ≤ v19.heap.size from ht.size)
  clear hh ht
  have hk3 : ¬ ((1 + 4 * nr.length : Nat) : Int) < 0 := by omega
  obtain ⟨z1, hz1⟩ : ∃ z : Nat, 1 + 4 * nr.length = z := ⟨_, rfl⟩
  have Hz1 := Lib.hid hz1
  rw [hz1] at hk3 ⊢
  clear hz1
  have hze : ((z1 : Int) != (z1 : Int)) = false := by simp
  go_wp2_with fail
  refine (Dep.heldDepS_any g0A nr.length g0c 1 _ (g0.out.lies (by have sz0_ := sz0.out; have szb_ := szb.out; have sz1_ := sz1.out; have sz2_ := sz2.out; have sz3_ := sz3.out; have sz4_ := sz4.out; have sz5_ := sz5.out; have sz6_ := sz6.out; have sz7_ := sz7.out; have sz8_ := sz8.out; have sz9_ := sz9.out; have sz10_ := sz10.out; have sz11_ := sz11.out; have sz12_ := sz12.out; have sz13_ := sz13.out; have sz14_ := sz14.out; have sz15_ := sz15.out; have sz16_ := sz16.out; have sz17_ := sz17.out; have sz18_ := sz18.out; have sz19_ := sz19.out; omega)) (by omega) (by omega)).mono ?_
  rintro e v20 ⟨rfl, hb⟩
  have bw := Lib.hid (bw.out.trans (hb.mono bw.out.size))
  have bx0 := Lib.hid (bx0.out.on hb)
  have bx1 := Lib.hid (bx1.out.on hb)
  have w0 := Lib.hid (w0.out.step hb (.inr (Nat.le_refl _)))
  have y0 := Lib.hid (y0.out.on hb)
  have y1 := Lib.hid (y1.out.on hb)
  have g0 := Lib.hid (g0.out.step hb (.inr (Nat.le_refl _)))
  have sz20 := Lib.hid (show v19.heap.size ≤ v20.heap.size from hb.size)
  clear hb
  rw [Hz1.out]
  go_wp2_with fail
  refine wp_region_held_drew (S := (fun W => (Below w.heap.size w W) ∧ (Blk W (w.heap.size) 24 #[Value.slice n.A n.s.length n.ca, Value.slice n.B n.m.length n.cb]) ∧ (Blk W (w.heap.size + 1) 49 (cellsV r p)) ∧ (Dep.Held W w0A nr v4.heap.size v5.heap.size) ∧ (Blk W v6.heap.size 35 #[Value.slice x0n.A x0n.s.length x0n.ca, Value.slice x0n.B x0n.m.length x0n.cb]) ∧ (Blk W v8.heap.size 31 (cellsV r x1p)) ∧ (Dep.Held W g0A (Dep.marks 1 nr.length) v9.heap.size v10.heap.size))) (by kernel_rfl) ?_ (fun hHeld => ?_)
  · exact ⟨bw.out.drew, bx0.out, bx1.out, w0.out, y0.out, y1.out, g0.out⟩
  refine wpAnyH_take (i := 0) (v := ?_) rfl (by kernel_rfl) (by kernel_rfl) (by kernel_rfl) (fun _ _ _ h => h) (Or.inl ⟨by rfl, ?_⟩) hHeld ?_
  rotate_left
  · intro W hSw
    obtain ⟨q_bw, q_bx0, q_bx1, q_w0, q_y0, q_y1, q_g0⟩ := hSw
    obtain ⟨hbx00, hbx01⟩ := cell2 q_bx0
    obtain ⟨hbx10, hbx11, hbx12, hbx13, hbx14, hbx15, hbx16, hbx17⟩ := Rec.cells8 q_bx1
    go_simp
    try with_reducible rfl
  try simp only [Act.put, List.setIfInBounds_toArray, List.set_cons_zero, List.set_cons_succ, List.getElem_toArray, List.getElem_cons_zero]
  refine wpAnyH_take (i := 2) (v := ?_) rfl (by kernel_rfl) (by kernel_rfl) (by kernel_rfl) (fun _ _ _ h => h) (Or.inl ⟨by rfl, ?_⟩) hHeld ?_
  rotate_left
  · intro W hSw
    obtain ⟨q_bw, q_bx0, q_bx1, q_w0, q_y0, q_y1, q_g0⟩ := hSw
    obtain ⟨hbx00, hbx01⟩ := cell2 q_bx0
    obtain ⟨hbx10, hbx11, hbx12, hbx13, hbx14, hbx15, hbx16, hbx17⟩ := Rec.cells8 q_bx1
    go_simp
    try with_reducible rfl
  try simp only [Act.put, List.setIfInBounds_toArray, List.set_cons_zero, List.set_cons_succ, List.getElem_toArray, List.getElem_cons_succ, List.getElem_cons_zero]
  refine wpAnyH_ready (rs := [1]) (by kernel_rfl) (by simp) ?_
  refine AllReadyH.cons rfl (fun K hK => ?_) AllReadyH.nil
  go_simp
  refine (toCt_any n _ (Hn.out.on hHeld.1) Fn.out).mono ?_
  rintro e v21 ⟨s0n, rfl, s0p, s0c, s0h, hb⟩
  have sz21 := Lib.hid (show v20.heap.size ≤ v21.heap.size from hb.size)
  have s0P := Lib.hid s0p
  have s0F := Lib.hid (Fn.out.same s0p)
  have s0C := Lib.hid s0c
  clear s0p s0c
  unfold Ct.val
  have s0 := Lib.hid (show HeldC v21 s0n v20.heap.size v21.heap.size from s0h)
  clear s0h
  refine hK.out _ _ ?_ (fun hHeld => ?_)
  · first | exact ⟨hHeld.1.trans (hb.mono hHeld.1.size), hHeld.2.1.on hb, hHeld.2.2.1.on hb, hHeld.2.2.2.1.step hb (.inr (Nat.le_refl _)), hHeld.2.2.2.2.1.on hb, hHeld.2.2.2.2.2.1.on hb, hHeld.2.2.2.2.2.2.step hb (.inr (Nat.le_refl _))⟩ | assumption
  clear hK K
  try simp only [Act.put, List.setIfInBounds_toArray, List.set_cons_zero, List.set_cons_succ, List.getElem_toArray, List.getElem_cons_succ, List.getElem_cons_zero]
  refine wpAnyH_ready (rs := [3]) (by kernel_rfl) (by simp) ?_
  refine AllReadyH.cons rfl (fun K hK => ?_) AllReadyH.nil
  go_simp
  try clear hb
  refine (Rec.toRec_any r p _ (Hr.out.step hHeld.1 (Nat.le_refl _) hHeld.1.size) rl rb).mono ?_
  rintro e v22 ⟨s1p, rfl, s1h, -, -, hb⟩
  have sz22 := Lib.hid (show v21.heap.size ≤ v22.heap.size from hb.size)
  have s0 := Lib.hid (s0.out.step hb (.inr (Nat.le_refl _)))
  unfold recV
  have s1 := Lib.hid (show Rec.Held v22 r s1p v21.heap.size v22.heap.size from s1h)
  clear s1h
  refine hK.out _ _ ?_ (fun hHeld => ?_)
  · first | exact ⟨hHeld.1.trans (hb.mono hHeld.1.size), hHeld.2.1.on hb, hHeld.2.2.1.on hb, hHeld.2.2.2.1.step hb (.inr (Nat.le_refl _)), hHeld.2.2.2.2.1.on hb, hHeld.2.2.2.2.2.1.on hb, hHeld.2.2.2.2.2.2.step hb (.inr (Nat.le_refl _))⟩ | assumption
  clear hK K
  try simp only [Act.put, List.setIfInBounds_toArray, List.set_cons_zero, List.set_cons_succ, List.getElem_toArray, List.getElem_cons_succ, List.getElem_cons_zero]
  refine wpAnyH_ready (rs := [4]) (by kernel_rfl) (by simp) ?_
  refine AllReadyH.cons rfl (fun K hK => ?_) AllReadyH.nil
  go_simp
  try clear hb
  refine (implLackC_any s0n r s1p _ (s0.out.lies (by have sz0_ := sz0.out; have szb_ := szb.out; have sz1_ := sz1.out; have sz2_ := sz2.out; have sz3_ := sz3.out; have sz4_ := sz4.out; have sz5_ := sz5.out; have sz6_ := sz6.out; have sz7_ := sz7.out; have sz8_ := sz8.out; have sz9_ := sz9.out; have sz10_ := sz10.out; have sz11_ := sz11.out; have sz12_ := sz12.out; have sz13_ := sz13.out; have sz14_ := sz14.out; have sz15_ := sz15.out; have sz16_ := sz16.out; have sz17_ := sz17.out; have sz18_ := sz18.out; have sz19_ := sz19.out; have sz20_ := sz20.out; have sz21_ := sz21.out; have sz22_ := sz22.out; omega)) s0F.out s0C.out (s1.out.lies (by have sz0_ := sz0.out; have szb_ := szb.out; have sz1_ := sz1.out; have sz2_ := sz2.out; have sz3_ := sz3.out; have sz4_ := sz4.out; have sz5_ := sz5.out; have sz6_ := sz6.out; have sz7_ := sz7.out; have sz8_ := sz8.out; have sz9_ := sz9.out; have sz10_ := sz10.out; have sz11_ := sz11.out; have sz12_ := sz12.out; have sz13_ := sz13.out; have sz14_ := sz14.out; have sz15_ := sz15.out; have sz16_ := sz16.out; have sz17_ := sz17.out; have sz18_ := sz18.out; have sz19_ := sz19.out; have sz20_ := sz20.out; have sz21_ := sz21.out; have sz22_ := sz22.out; omega)) Kr.out).mono ?_
  rintro e v23 ⟨h0A, h0c, he, hh, hb⟩
  have sz23 := Lib.hid (show v22.heap.size ≤ v23.heap.size from hb.size)
  have s0 := Lib.hid (s0.out.step hb (.inr (Nat.le_refl _)))
  have s1 := Lib.hid (s1.out.step hb (.inr (Nat.le_refl _)))
  rw [s0P.out, HNR.out] at he hh
  subst he
  unfold Dep.slV
  have h0 := Lib.hid (show Dep.Held v23 h0A nr v22.heap.size v23.heap.size from hh)
  clear hh
  refine hK.out _ _ ?_ (fun hHeld => ?_)
  · first | exact ⟨hHeld.1.trans (hb.mono hHeld.1.size), hHeld.2.1.on hb, hHeld.2.2.1.on hb, hHeld.2.2.2.1.step hb (.inr (Nat.le_refl _)), hHeld.2.2.2.2.1.on hb, hHeld.2.2.2.2.2.1.on hb, hHeld.2.2.2.2.2.2.step hb (.inr (Nat.le_refl _))⟩ | assumption
  clear hK K
  try simp only [Act.put, List.setIfInBounds_toArray, List.set_cons_zero, List.set_cons_succ, List.getElem_toArray, List.getElem_cons_succ, List.getElem_cons_zero]
  refine wpAnyH_take (i := 5) (v := ?_) rfl (by kernel_rfl) (by kernel_rfl) (by kernel_rfl) (fun _ _ _ h => h) (Or.inl ⟨by rfl, ?_⟩) hHeld ?_
  rotate_left
  · intro W hSw
    obtain ⟨q_bw, q_bx0, q_bx1, q_w0, q_y0, q_y1, q_g0⟩ := hSw
    obtain ⟨hbx00, hbx01⟩ := cell2 q_bx0
    obtain ⟨hbx10, hbx11, hbx12, hbx13, hbx14, hbx15, hbx16, hbx17⟩ := Rec.cells8 q_bx1
    go_simp
    try with_reducible rfl
  try simp only [Act.put, List.setIfInBounds_toArray, List.set_cons_zero, List.set_cons_succ, List.getElem_toArray, List.getElem_cons_succ, List.getElem_cons_zero]
  refine wpAnyH_done (by kernel_rfl) ?_ _
  obtain ⟨bw_, bx0_, bx1_, w0_, y0_, y1_, g0_⟩ := hHeld
  have bw := Lib.hid bw_
  have bx0 := Lib.hid bx0_
  have bx1 := Lib.hid bx1_
  have w0 := Lib.hid w0_
  have y0 := Lib.hid y0_
  have y1 := Lib.hid y1_
  have g0 := Lib.hid g0_
  clear bw_ bx0_ bx1_ w0_ y0_ y1_ g0_
  clear s0 s1 s0P s0F s0C
  go_wp2_with fail
  refine (Dep.eqDepS_same h0A w0A nr h0c w0c _ (h0.out.lies (by have sz0_ := sz0.out; have szb_ := szb.out; have sz1_ := sz1.out; have sz2_ := sz2.out; have sz3_ := sz3.out; have sz4_ := sz4.out; have sz5_ := sz5.out; have sz6_ := sz6.out; have sz7_ := sz7.out; have sz8_ := sz8.out; have sz9_ := sz9.out; have sz10_ := sz10.out; have sz11_ := sz11.out; have sz12_ := sz12.out; have sz13_ := sz13.out; have sz14_ := sz14.out; have sz15_ := sz15.out; have sz16_ := sz16.out; have sz17_ := sz17.out; have sz18_ := sz18.out; have sz19_ := sz19.out; have sz20_ := sz20.out; have sz21_ := sz21.out; have sz22_ := sz22.out; have sz23_ := sz23.out; omega)) (w0.out.lies (by have sz0_ := sz0.out; have szb_ := szb.out; have sz1_ := sz1.out; have sz2_ := sz2.out; have sz3_ := sz3.out; have sz4_ := sz4.out; have sz5_ := sz5.out; have sz6_ := sz6.out; have sz7_ := sz7.out; have sz8_ := sz8.out; have sz9_ := sz9.out; have sz10_ := sz10.out; have sz11_ := sz11.out; have sz12_ := sz12.out; have sz13_ := sz13.out; have sz14_ := sz14.out; have sz15_ := sz15.out; have sz16_ := sz16.out; have sz17_ := sz17.out; have sz18_ := sz18.out; have sz19_ := sz19.out; have sz20_ := sz20.out; have sz21_ := sz21.out; have sz22_ := sz22.out; have sz23_ := sz23.out; omega)) (by unfold maxLen; omega)).mono ?_
  rintro e v24 ⟨rfl, hb⟩
  have bw := Lib.hid (bw.out.trans (hb.mono bw.out.size))
  have bx0 := Lib.hid (bx0.out.on hb)
  have bx1 := Lib.hid (bx1.out.on hb)
  have w0 := Lib.hid (w0.out.step hb (.inr (Nat.le_refl _)))
  have y0 := Lib.hid (y0.out.on hb)
  have y1 := Lib.hid (y1.out.on hb)
  have g0 := Lib.hid (g0.out.step hb (.inr (Nat.le_refl _)))
  have h0 := Lib.hid (h0.out.step hb (.inr (Nat.le_refl _)))
  have sz24 := Lib.hid (show v23.heap.size ≤ v24.heap.size from hb.size)
  clear hb
  go_wp2_with fail
  refine (Dep.heldDepS_any g0A nr.length g0c 1 _ (g0.out.lies (by have sz0_ := sz0.out; have szb_ := szb.out; have sz1_ := sz1.out; have sz2_ := sz2.out; have sz3_ := sz3.out; have sz4_ := sz4.out; have sz5_ := sz5.out; have sz6_ := sz6.out; have sz7_ := sz7.out; have sz8_ := sz8.out; have sz9_ := sz9.out; have sz10_ := sz10.out; have sz11_ := sz11.out; have sz12_ := sz12.out; have sz13_ := sz13.out; have sz14_ := sz14.out; have sz15_ := sz15.out; have sz16_ := sz16.out; have sz17_ := sz17.out; have sz18_ := sz18.out; have sz19_ := sz19.out; have sz20_ := sz20.out; have sz21_ := sz21.out; have sz22_ := sz22.out; have sz23_ := sz23.out; have sz24_ := sz24.out; omega)) (by omega) (by omega)).mono ?_
  rintro e v25 ⟨rfl, hb⟩
  have bw := Lib.hid (bw.out.trans (hb.mono bw.out.size))
  have bx0 := Lib.hid (bx0.out.on hb)
  have bx1 := Lib.hid (bx1.out.on hb)
  have w0 := Lib.hid (w0.out.step hb (.inr (Nat.le_refl _)))
  have y0 := Lib.hid (y0.out.on hb)
  have y1 := Lib.hid (y1.out.on hb)
  have g0 := Lib.hid (g0.out.step hb (.inr (Nat.le_refl _)))
  have h0 := Lib.hid (h0.out.step hb (.inr (Nat.le_refl _)))
  have sz25 := Lib.hid (show v24.heap.size ≤ v25.heap.size from hb.size)
  clear hb
  rw [Hz1.out]
  go_wp2_with fail
  go_ret
  exact ⟨rfl, bw.out⟩
end Go.Proofs.YtegnjbdgeibhfaaGreat.Rs
