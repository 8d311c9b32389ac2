/-
  FnExactLose answers true at every net.
-/
import Derived.Test.YthagkjofpfafiaaNetSmL
namespace Go.Proofs.Ythagkjofpfafiaa.Net
open Go.ChangeShapes Go.WideShapes Go.ChangeAt Go.RowKit
open Sto (R Sl)
set_option linter.unusedVariables false
set_option maxRecDepth 100000
set_option linter.unusedSimpArgs false

set_option maxHeartbeats 8000000 in
set_option maxRecDepth 100000 in
theorem lawLose_any (n : Nt) (i : Int) {hb1 : Prop} (_ : hb1)  (w : World) (h : IsNet w n) :
    Calls Try.prog 6 #[n.val, .int .i64 i] w fun e w' => e = .returned (.bool true) ∧ Below w.heap.size w w' := by
  have HFI := Lib.hid h.fine
  obtain ⟨hn, hq1, hq2, -⟩ := h
  have H := Lib.hid hn
  have B0 := (Below.refl w.heap.size w).alloc (Nat.le_refl _) (.cells #[Value.slice n.A n.s.length n.ca, Value.slice n.B n.m.length n.cb] 25)
  have X0 := Blk.new w 25 #[Value.slice n.A n.s.length n.ca, Value.slice n.B n.m.length n.cb]
  have bw := Lib.hid B0
  have bx := Lib.hid X0
  clear hn B0 X0
  unfold Nt.val
  go_enter Try.func6, Try.ntmps6
  go_wp2_with fail
  generalize World.alloc w _ = v0 at bw bx ⊢
  have sz0 := Lib.hid (show w.heap.size ≤ v0.heap.size from bw.out.size)
  refine (szNet_any n _ (H.out.on bw.out) hq1 hq2 HFI.out).mono ?_
  rintro e v1 ⟨m1, rfl, hm1, hb⟩
  have bw := Lib.hid (bw.out.trans (hb.mono bw.out.size))
  have bx := Lib.hid (bx.out.on hb)
  have sz1 := Lib.hid (show v0.heap.size ≤ v1.heap.size from hb.size)
  clear hb
  rcases hm1 with rfl | ⟨m10, m11, sm1⟩
  · go_wp2_with fail
    go_ret
    exact ⟨rfl, bw.out⟩
  have m100 : ¬ m1 < 0 := by omega
  have HS := Lib.hid sm1
  have hs1 : n.s.length ≤ 1048576 := by have := sm1.1; omega
  have hs2 : n.m.length ≤ 1048576 := by have := sm1.1; omega
  have HL := Lib.hid (show ∀ x ∈ n.all, x.l.length ≤ 1048576 from fun x hx => by have := tot_mem hx; have := HS.out.1; omega)
  clear sm1
  have HSM := Lib.hid (losP_sm (pl n) i)
  obtain ⟨jp, hjp⟩ : ∃ jp, losP (pl n) i = jp := ⟨_, rfl⟩
  obtain ⟨jc, hjc⟩ : ∃ jc, codeM (pl n) i = jc := ⟨_, rfl⟩
  have HPF := Lib.hid hjp
  have HCF := Lib.hid hjc
  rw [hjp] at HSM
  clear hjp hjc
  obtain ⟨bxc0, bxc1⟩ := blk2 bx.out
  go_wp2_with fail
  clear bxc0 bxc1
  refine (toNet_any n _ (H.out.on bw.out) hs1 hs2 HL.out).mono ?_
  rintro e v2 ⟨t0n, rfl, t0p, t0h, hb⟩
  have t0P := Lib.hid t0p
  clear t0p
  unfold Nt.val
  have bw := Lib.hid (bw.out.trans (hb.mono bw.out.size))
  have bx := Lib.hid (bx.out.on hb)
  have sz2 := Lib.hid (show v1.heap.size ≤ v2.heap.size from hb.size)
  have t0 := Lib.hid (show HeldN v2 t0n v1.heap.size v2.heap.size from t0h)
  clear hb
  clear t0h
  go_wp2_with fail

  refine (specLose_any t0n i _ (t0.out.lies (by have sz0_ := sz0.out; have sz1_ := sz1.out; have sz2_ := sz2.out; omega)) (little_pl t0P.out HS.out)).mono ?_
  rintro e v3 hans
  rw [t0P.out, HCF.out, HPF.out] at hans
  obtain ⟨w0n, rfl, w0p, hh, hb⟩ := hans
  have w0P := Lib.hid w0p
  clear w0p
  unfold Nt.out
  have bw := Lib.hid (bw.out.trans (hb.mono bw.out.size))
  have bx := Lib.hid (bx.out.on hb)
  have t0 := Lib.hid (t0.out.step hb (.inr (Nat.le_refl _)))
  have sz3 := Lib.hid (show v2.heap.size ≤ v3.heap.size from hb.size)
  have w0 := Lib.hid (show HeldN v3 w0n v2.heap.size v3.heap.size from hh)
  clear hb
  clear hh
  have w0F := Lib.hid (fewA_of w0P.out HSM.out)
  clear t0
  clear t0P
  obtain ⟨bxc0, bxc1⟩ := blk2 (bx.out.alloc (Obj.cells #[Value.slice w0n.A w0n.s.length w0n.ca, Value.slice w0n.B w0n.m.length w0n.cb, Value.int IntKind.i64 jc] 36))
  go_wp2_with fail
  clear bxc0 bxc1
  have bw := Lib.hid (bw.out.alloc bw.out.size (Obj.cells #[Value.slice w0n.A w0n.s.length w0n.ca, Value.slice w0n.B w0n.m.length w0n.cb, Value.int IntKind.i64 jc] 36))
  have bx := Lib.hid (bx.out.alloc (Obj.cells #[Value.slice w0n.A w0n.s.length w0n.ca, Value.slice w0n.B w0n.m.length w0n.cb, Value.int IntKind.i64 jc] 36))
  have w0 := Lib.hid (w0.out.step ((Below.refl _ v3).alloc (Nat.le_refl _) (Obj.cells #[Value.slice w0n.A w0n.s.length w0n.ca, Value.slice w0n.B w0n.m.length w0n.cb, Value.int IntKind.i64 jc] 36)) (.inr (Nat.le_refl _)))
  have o0 := Lib.hid (show Blk (World.alloc v3 (Obj.cells #[Value.slice w0n.A w0n.s.length w0n.ca, Value.slice w0n.B w0n.m.length w0n.cb, Value.int IntKind.i64 jc] 36)) v3.heap.size 36 #[Value.slice w0n.A w0n.s.length w0n.ca, Value.slice w0n.B w0n.m.length w0n.cb, Value.int IntKind.i64 jc] from Blk.new v3 36 #[Value.slice w0n.A w0n.s.length w0n.ca, Value.slice w0n.B w0n.m.length w0n.cb, Value.int IntKind.i64 jc])
  have sz4 := Lib.hid (show v3.heap.size + 1 = (World.alloc v3 (Obj.cells #[Value.slice w0n.A w0n.s.length w0n.ca, Value.slice w0n.B w0n.m.length w0n.cb, Value.int IntKind.i64 jc] 36)).heap.size by simp)
  generalize World.alloc v3 _ = v4 at bw bx w0 o0 sz4 ⊢
  refine (toNet_any n _ (H.out.on bw.out) hs1 hs2 HL.out).mono ?_
  rintro e v5 ⟨x0n, rfl, x0p, x0h, hb⟩
  have x0P := Lib.hid x0p
  clear x0p
  unfold Nt.val
  have bw := Lib.hid (bw.out.trans (hb.mono bw.out.size))
  have bx := Lib.hid (bx.out.on hb)
  have w0 := Lib.hid (w0.out.step hb (.inr (Nat.le_refl _)))
  have o0 := Lib.hid (o0.out.on hb)
  have sz5 := Lib.hid (show v4.heap.size ≤ v5.heap.size from hb.size)
  have x0 := Lib.hid (show HeldN v5 x0n v4.heap.size v5.heap.size from x0h)
  clear hb
  clear x0h
  have x0F := Lib.hid (few_of x0P.out HS.out)
  go_wp2_with fail
  have bw := Lib.hid (bw.out.alloc bw.out.size (Obj.cells #[Value.slice x0n.A x0n.s.length x0n.ca, Value.slice x0n.B x0n.m.length x0n.cb] 31))
  have bx := Lib.hid (bx.out.alloc (Obj.cells #[Value.slice x0n.A x0n.s.length x0n.ca, Value.slice x0n.B x0n.m.length x0n.cb] 31))
  have w0 := Lib.hid (w0.out.step ((Below.refl _ v5).alloc (Nat.le_refl _) (Obj.cells #[Value.slice x0n.A x0n.s.length x0n.ca, Value.slice x0n.B x0n.m.length x0n.cb] 31)) (.inr (Nat.le_refl _)))
  have o0 := Lib.hid (o0.out.alloc (Obj.cells #[Value.slice x0n.A x0n.s.length x0n.ca, Value.slice x0n.B x0n.m.length x0n.cb] 31))
  have x0 := Lib.hid (x0.out.step ((Below.refl _ v5).alloc (Nat.le_refl _) (Obj.cells #[Value.slice x0n.A x0n.s.length x0n.ca, Value.slice x0n.B x0n.m.length x0n.cb] 31)) (.inr (Nat.le_refl _)))
  have b0 := Lib.hid (show Blk (World.alloc v5 (Obj.cells #[Value.slice x0n.A x0n.s.length x0n.ca, Value.slice x0n.B x0n.m.length x0n.cb] 31)) v5.heap.size 31 #[Value.slice x0n.A x0n.s.length x0n.ca, Value.slice x0n.B x0n.m.length x0n.cb] from Blk.new v5 31 #[Value.slice x0n.A x0n.s.length x0n.ca, Value.slice x0n.B x0n.m.length x0n.cb])
  have sz6 := Lib.hid (show v5.heap.size + 1 = (World.alloc v5 (Obj.cells #[Value.slice x0n.A x0n.s.length x0n.ca, Value.slice x0n.B x0n.m.length x0n.cb] 31)).heap.size by simp)
  generalize World.alloc v5 _ = v6 at bw bx w0 o0 x0 b0 sz6 ⊢

  refine (implLose_any x0n i _ (x0.out.lies (by have sz0_ := sz0.out; have sz1_ := sz1.out; have sz2_ := sz2.out; have sz3_ := sz3.out; have sz4_ := sz4.out; have sz5_ := sz5.out; have sz6_ := sz6.out; omega)) (little_pl x0P.out HS.out)).mono ?_
  rintro e v7 hans
  rw [x0P.out, HCF.out, HPF.out] at hans
  obtain ⟨w1n, rfl, w1p, hh, hb⟩ := hans
  have w1P := Lib.hid w1p
  clear w1p
  unfold Nt.out
  have bw := Lib.hid (bw.out.trans (hb.mono bw.out.size))
  have bx := Lib.hid (bx.out.on hb)
  have w0 := Lib.hid (w0.out.step hb (.inr (Nat.le_refl _)))
  have o0 := Lib.hid (o0.out.on hb)
  have x0 := Lib.hid (x0.out.step hb (.inr (Nat.le_refl _)))
  have b0 := Lib.hid (b0.out.on hb)
  have sz7 := Lib.hid (show v6.heap.size ≤ v7.heap.size from hb.size)
  have w1 := Lib.hid (show HeldN v7 w1n v6.heap.size v7.heap.size from hh)
  clear hb
  clear hh
  have w1F := Lib.hid (fewA_of w1P.out HSM.out)
  obtain ⟨o0c0, o0c1, o0c2⟩ := blk3 (o0.out.alloc (Obj.cells #[Value.slice w1n.A w1n.s.length w1n.ca, Value.slice w1n.B w1n.m.length w1n.cb, Value.int IntKind.i64 jc] 36))
  go_wp2_with fail
  clear o0c0 o0c1 o0c2
  have bw := Lib.hid (bw.out.alloc bw.out.size (Obj.cells #[Value.slice w1n.A w1n.s.length w1n.ca, Value.slice w1n.B w1n.m.length w1n.cb, Value.int IntKind.i64 jc] 36))
  have bx := Lib.hid (bx.out.alloc (Obj.cells #[Value.slice w1n.A w1n.s.length w1n.ca, Value.slice w1n.B w1n.m.length w1n.cb, Value.int IntKind.i64 jc] 36))
  have w0 := Lib.hid (w0.out.step ((Below.refl _ v7).alloc (Nat.le_refl _) (Obj.cells #[Value.slice w1n.A w1n.s.length w1n.ca, Value.slice w1n.B w1n.m.length w1n.cb, Value.int IntKind.i64 jc] 36)) (.inr (Nat.le_refl _)))
  have o0 := Lib.hid (o0.out.alloc (Obj.cells #[Value.slice w1n.A w1n.s.length w1n.ca, Value.slice w1n.B w1n.m.length w1n.cb, Value.int IntKind.i64 jc] 36))
  have x0 := Lib.hid (x0.out.step ((Below.refl _ v7).alloc (Nat.le_refl _) (Obj.cells #[Value.slice w1n.A w1n.s.length w1n.ca, Value.slice w1n.B w1n.m.length w1n.cb, Value.int IntKind.i64 jc] 36)) (.inr (Nat.le_refl _)))
  have b0 := Lib.hid (b0.out.alloc (Obj.cells #[Value.slice w1n.A w1n.s.length w1n.ca, Value.slice w1n.B w1n.m.length w1n.cb, Value.int IntKind.i64 jc] 36))
  have w1 := Lib.hid (w1.out.step ((Below.refl _ v7).alloc (Nat.le_refl _) (Obj.cells #[Value.slice w1n.A w1n.s.length w1n.ca, Value.slice w1n.B w1n.m.length w1n.cb, Value.int IntKind.i64 jc] 36)) (.inr (Nat.le_refl _)))
  have o1 := Lib.hid (show Blk (World.alloc v7 (Obj.cells #[Value.slice w1n.A w1n.s.length w1n.ca, Value.slice w1n.B w1n.m.length w1n.cb, Value.int IntKind.i64 jc] 36)) v7.heap.size 36 #[Value.slice w1n.A w1n.s.length w1n.ca, Value.slice w1n.B w1n.m.length w1n.cb, Value.int IntKind.i64 jc] from Blk.new v7 36 #[Value.slice w1n.A w1n.s.length w1n.ca, Value.slice w1n.B w1n.m.length w1n.cb, Value.int IntKind.i64 jc])
  have sz8 := Lib.hid (show v7.heap.size + 1 = (World.alloc v7 (Obj.cells #[Value.slice w1n.A w1n.s.length w1n.ca, Value.slice w1n.B w1n.m.length w1n.cb, Value.int IntKind.i64 jc] 36)).heap.size by simp)
  generalize World.alloc v7 _ = v8 at bw bx w0 o0 x0 b0 w1 o1 sz8 ⊢
  refine (eqNetOut_same w1n w0n jc _ (w1.out.lies (by have sz0_ := sz0.out; have sz1_ := sz1.out; have sz2_ := sz2.out; have sz3_ := sz3.out; have sz4_ := sz4.out; have sz5_ := sz5.out; have sz6_ := sz6.out; have sz7_ := sz7.out; have sz8_ := sz8.out; omega)) (w0.out.lies (by have sz0_ := sz0.out; have sz1_ := sz1.out; have sz2_ := sz2.out; have sz3_ := sz3.out; have sz4_ := sz4.out; have sz5_ := sz5.out; have sz6_ := sz6.out; have sz7_ := sz7.out; have sz8_ := sz8.out; omega)) (w1P.out.trans w0P.out.symm) w1F.out.1).mono ?_
  rintro e v9 ⟨rfl, hb⟩
  have bw := Lib.hid (bw.out.trans (hb.mono bw.out.size))
  have bx := Lib.hid (bx.out.on hb)
  have w0 := Lib.hid (w0.out.step hb (.inr (Nat.le_refl _)))
  have o0 := Lib.hid (o0.out.on hb)
  have x0 := Lib.hid (x0.out.step hb (.inr (Nat.le_refl _)))
  have b0 := Lib.hid (b0.out.on hb)
  have w1 := Lib.hid (w1.out.step hb (.inr (Nat.le_refl _)))
  have o1 := Lib.hid (o1.out.on hb)
  have sz9 := Lib.hid (show v8.heap.size ≤ v9.heap.size from hb.size)
  clear hb
  go_wp2_with fail
  refine wp_region_held_drew (S := (fun W => (Below w.heap.size w W) ∧ (Blk W w.heap.size 25 #[Value.slice n.A n.s.length n.ca, Value.slice n.B n.m.length n.cb]) ∧ (HeldN W w0n v2.heap.size v3.heap.size) ∧ (Blk W v3.heap.size 36 #[Value.slice w0n.A w0n.s.length w0n.ca, Value.slice w0n.B w0n.m.length w0n.cb, Value.int IntKind.i64 jc]) ∧ (HeldN W x0n v4.heap.size v5.heap.size) ∧ (Blk W v5.heap.size 31 #[Value.slice x0n.A x0n.s.length x0n.ca, Value.slice x0n.B x0n.m.length x0n.cb]) ∧ (HeldN W w1n v6.heap.size v7.heap.size) ∧ (Blk W v7.heap.size 36 #[Value.slice w1n.A w1n.s.length w1n.ca, Value.slice w1n.B w1n.m.length w1n.cb, Value.int IntKind.i64 jc]))) (by kernel_rfl) ?_ (fun hHeld => ?_)
  · exact ⟨bw.out.drew, bx.out, w0.out.drew, o0.out, x0.out.drew, b0.out, w1.out.drew, o1.out⟩
  refine wpAnyH_take (i := 0) (v := ?_) rfl (by kernel_rfl) (by kernel_rfl) (by kernel_rfl) (fun _ _ _ h => h) (Or.inl ⟨by rfl, ?_⟩) hHeld ?_
  rotate_left
  · intro W hSw
    obtain ⟨q_bw, q_bx, q_w0, q_o0, q_x0, q_b0, q_w1, q_o1⟩ := hSw
    obtain ⟨hbx0, hbx1⟩ := blk2 q_bx
    obtain ⟨hb00, hb01⟩ := blk2 q_b0
    go_simp
    try with_reducible rfl
  try simp only [Act.put, List.setIfInBounds_toArray, List.set_cons_zero, List.set_cons_succ, List.getElem_toArray, List.getElem_cons_zero]
  refine wpAnyH_take (i := 1) (v := ?_) rfl (by kernel_rfl) (by kernel_rfl) (by kernel_rfl) (fun _ _ _ h => h) (Or.inl ⟨by rfl, ?_⟩) hHeld ?_
  rotate_left
  · intro W hSw
    obtain ⟨q_bw, q_bx, q_w0, q_o0, q_x0, q_b0, q_w1, q_o1⟩ := hSw
    obtain ⟨hbx0, hbx1⟩ := blk2 q_bx
    obtain ⟨hb00, hb01⟩ := blk2 q_b0
    go_simp
    try with_reducible rfl
  try simp only [Act.put, List.setIfInBounds_toArray, List.set_cons_zero, List.set_cons_succ, List.getElem_toArray, List.getElem_cons_succ, List.getElem_cons_zero]
  refine wpAnyH_ready (rs := [2]) (by kernel_rfl) (by simp) ?_
  refine AllReadyH.cons rfl (fun K hK => ?_) AllReadyH.nil
  go_simp
  refine (toNet_any n _ (H.out.on hHeld.1) hs1 hs2 HL.out).mono ?_
  rintro e v10 ⟨t1n, rfl, t1p, t1h, hb⟩
  have sz10 := Lib.hid (show v9.heap.size ≤ v10.heap.size from hb.size)
  have t1P := Lib.hid t1p
  clear t1p
  unfold Nt.val
  have t1 := Lib.hid (show HeldN v10 t1n v9.heap.size v10.heap.size from t1h)
  clear t1h
  refine hK.out _ _ ?_ (fun hHeld => ?_)
  · first | exact ⟨hHeld.1.trans (hb.mono hHeld.1.size), hHeld.2.1.on hb, hHeld.2.2.1.step hb (.inr (Nat.le_refl _)), hHeld.2.2.2.1.on hb, hHeld.2.2.2.2.1.step hb (.inr (Nat.le_refl _)), hHeld.2.2.2.2.2.1.on hb, hHeld.2.2.2.2.2.2.1.step hb (.inr (Nat.le_refl _)), hHeld.2.2.2.2.2.2.2.on hb⟩ | assumption
  clear hK K
  try simp only [Act.put, List.setIfInBounds_toArray, List.set_cons_zero, List.set_cons_succ, List.getElem_toArray, List.getElem_cons_succ, List.getElem_cons_zero]
  refine wpAnyH_ready (rs := [3]) (by kernel_rfl) (by simp) ?_
  refine AllReadyH.cons rfl (fun K hK => ?_) AllReadyH.nil
  go_simp
  refine (eqNet_same x0n t1n _ (hHeld.2.2.2.2.1.lies (by have sz0_ := sz0.out; have sz1_ := sz1.out; have sz2_ := sz2.out; have sz3_ := sz3.out; have sz4_ := sz4.out; have sz5_ := sz5.out; have sz6_ := sz6.out; have sz7_ := sz7.out; have sz8_ := sz8.out; have sz9_ := sz9.out; have sz10_ := sz10.out; omega)) (t1.out.lies (by have sz0_ := sz0.out; have sz1_ := sz1.out; have sz2_ := sz2.out; have sz3_ := sz3.out; have sz4_ := sz4.out; have sz5_ := sz5.out; have sz6_ := sz6.out; have sz7_ := sz7.out; have sz8_ := sz8.out; have sz9_ := sz9.out; have sz10_ := sz10.out; omega)) (x0P.out.trans t1P.out.symm) x0F.out.1).mono ?_
  rintro e v11 ⟨rfl, hb⟩
  have sz11 := Lib.hid (show v10.heap.size ≤ v11.heap.size from hb.size)
  have t1 := Lib.hid (t1.out.step hb (.inr (Nat.le_refl _)))
  refine hK.out _ _ ?_ (fun hHeld => ?_)
  · first | exact ⟨hHeld.1.trans (hb.mono hHeld.1.size), hHeld.2.1.on hb, hHeld.2.2.1.step hb (.inr (Nat.le_refl _)), hHeld.2.2.2.1.on hb, hHeld.2.2.2.2.1.step hb (.inr (Nat.le_refl _)), hHeld.2.2.2.2.2.1.on hb, hHeld.2.2.2.2.2.2.1.step hb (.inr (Nat.le_refl _)), hHeld.2.2.2.2.2.2.2.on hb⟩ | assumption
  clear hK K
  try simp only [Act.put, List.setIfInBounds_toArray, List.set_cons_zero, List.set_cons_succ, List.getElem_toArray, List.getElem_cons_succ, List.getElem_cons_zero]
  refine wpAnyH_take (i := 4) (v := ?_) rfl (by kernel_rfl) (by kernel_rfl) (by kernel_rfl) (fun _ _ _ h => h) (Or.inl ⟨by rfl, ?_⟩) hHeld ?_
  rotate_left
  · intro W hSw
    obtain ⟨q_bw, q_bx, q_w0, q_o0, q_x0, q_b0, q_w1, q_o1⟩ := hSw
    obtain ⟨hbx0, hbx1⟩ := blk2 q_bx
    obtain ⟨hb00, hb01⟩ := blk2 q_b0
    go_simp
    try with_reducible rfl
  try simp only [Act.put, List.setIfInBounds_toArray, List.set_cons_zero, List.set_cons_succ, List.getElem_toArray, List.getElem_cons_succ, List.getElem_cons_zero]
  refine wpAnyH_done (by kernel_rfl) ?_ _
  obtain ⟨bw_, bx_, w0_, o0_, x0_, b0_, w1_, o1_⟩ := hHeld
  have bw := Lib.hid bw_
  have bx := Lib.hid bx_
  have w0 := Lib.hid w0_
  have o0 := Lib.hid o0_
  have x0 := Lib.hid x0_
  have b0 := Lib.hid b0_
  have w1 := Lib.hid w1_
  have o1 := Lib.hid o1_
  clear bw_ bx_ w0_ o0_ x0_ b0_ w1_ o1_
  clear t1 t1P
  obtain ⟨b0c0, b0c1⟩ := blk2 b0.out
  go_wp2_with fail
  clear b0c0 b0c1
  refine (markNet_any x0n 1 _ _ _ x0.out (by have sz0_ := sz0.out; have sz1_ := sz1.out; have sz2_ := sz2.out; have sz3_ := sz3.out; have sz4_ := sz4.out; have sz5_ := sz5.out; have sz6_ := sz6.out; have sz7_ := sz7.out; have sz8_ := sz8.out; have sz9_ := sz9.out; have sz10_ := sz10.out; have sz11_ := sz11.out; omega) x0F.out.2).mono ?_
  rintro e v12 ⟨rfl, hh, ht⟩
  have bw := Lib.hid (ht.below bw.out (by have sz0_ := sz0.out; have sz1_ := sz1.out; have sz2_ := sz2.out; have sz3_ := sz3.out; have sz4_ := sz4.out; have sz5_ := sz5.out; have sz6_ := sz6.out; have sz7_ := sz7.out; have sz8_ := sz8.out; have sz9_ := sz9.out; have sz10_ := sz10.out; have sz11_ := sz11.out; omega))
  have bx := Lib.hid (ht.blk bx.out (by decide) (by decide))
  have w0 := Lib.hid (ht.heldN w0.out (by have sz0_ := sz0.out; have sz1_ := sz1.out; have sz2_ := sz2.out; have sz3_ := sz3.out; have sz4_ := sz4.out; have sz5_ := sz5.out; have sz6_ := sz6.out; have sz7_ := sz7.out; have sz8_ := sz8.out; have sz9_ := sz9.out; have sz10_ := sz10.out; have sz11_ := sz11.out; omega))
  have o0 := Lib.hid (ht.blk o0.out (by decide) (by decide))
  have x0 := Lib.hid (show HeldN v12 (mkN 1 x0n) v4.heap.size v5.heap.size from hh)
  have b0 := Lib.hid (ht.blk b0.out (by decide) (by decide))
  have w1 := Lib.hid (ht.heldN w1.out (by have sz0_ := sz0.out; have sz1_ := sz1.out; have sz2_ := sz2.out; have sz3_ := sz3.out; have sz4_ := sz4.out; have sz5_ := sz5.out; have sz6_ := sz6.out; have sz7_ := sz7.out; have sz8_ := sz8.out; have sz9_ := sz9.out; have sz10_ := sz10.out; have sz11_ := sz11.out; omega))
  have o1 := Lib.hid (ht.blk o1.out (by decide) (by decide))
  have sz12 := Lib.hid (show v11.heap.size ≤ v12.heap.size from ht.size)
  clear hh ht
  have hkx : ¬ ((kN 1 x0n : Nat) : Int) < 0 := by omega
  obtain ⟨zx, hzx⟩ : ∃ z : Nat, kN 1 x0n = z := ⟨_, rfl⟩
  rw [hzx] at hkx ⊢
  clear hzx
  clear x0
  obtain ⟨o1c0, o1c1, o1c2⟩ := blk3 o1.out
  obtain ⟨o0c0, o0c1, o0c2⟩ := blk3 o0.out
  go_wp2_with fail
  clear o1c0 o1c1 o1c2 o0c0 o0c1 o0c2
  refine (eqNetOut_same w1n w0n jc _ (w1.out.lies (by have sz0_ := sz0.out; have sz1_ := sz1.out; have sz2_ := sz2.out; have sz3_ := sz3.out; have sz4_ := sz4.out; have sz5_ := sz5.out; have sz6_ := sz6.out; have sz7_ := sz7.out; have sz8_ := sz8.out; have sz9_ := sz9.out; have sz10_ := sz10.out; have sz11_ := sz11.out; have sz12_ := sz12.out; omega)) (w0.out.lies (by have sz0_ := sz0.out; have sz1_ := sz1.out; have sz2_ := sz2.out; have sz3_ := sz3.out; have sz4_ := sz4.out; have sz5_ := sz5.out; have sz6_ := sz6.out; have sz7_ := sz7.out; have sz8_ := sz8.out; have sz9_ := sz9.out; have sz10_ := sz10.out; have sz11_ := sz11.out; have sz12_ := sz12.out; omega)) (w1P.out.trans w0P.out.symm) w1F.out.1).mono ?_
  rintro e v13 ⟨rfl, hb⟩
  have bw := Lib.hid (bw.out.trans (hb.mono bw.out.size))
  have bx := Lib.hid (bx.out.on hb)
  have w0 := Lib.hid (w0.out.step hb (.inr (Nat.le_refl _)))
  have o0 := Lib.hid (o0.out.on hb)
  have b0 := Lib.hid (b0.out.on hb)
  have w1 := Lib.hid (w1.out.step hb (.inr (Nat.le_refl _)))
  have o1 := Lib.hid (o1.out.on hb)
  have sz13 := Lib.hid (show v12.heap.size ≤ v13.heap.size from hb.size)
  clear hb
  obtain ⟨o1c0, o1c1, o1c2⟩ := blk3 o1.out
  go_wp2_with fail
  clear o1c0 o1c1 o1c2
  refine (markNetOut_any w1n jc 1 _ _ _ w1.out (by have sz0_ := sz0.out; have sz1_ := sz1.out; have sz2_ := sz2.out; have sz3_ := sz3.out; have sz4_ := sz4.out; have sz5_ := sz5.out; have sz6_ := sz6.out; have sz7_ := sz7.out; have sz8_ := sz8.out; have sz9_ := sz9.out; have sz10_ := sz10.out; have sz11_ := sz11.out; have sz12_ := sz12.out; have sz13_ := sz13.out; omega) w1F.out.2).mono ?_
  rintro e v14 ⟨rfl, hh, ht⟩
  have bw := Lib.hid (ht.below bw.out (by have sz0_ := sz0.out; have sz1_ := sz1.out; have sz2_ := sz2.out; have sz3_ := sz3.out; have sz4_ := sz4.out; have sz5_ := sz5.out; have sz6_ := sz6.out; have sz7_ := sz7.out; have sz8_ := sz8.out; have sz9_ := sz9.out; have sz10_ := sz10.out; have sz11_ := sz11.out; have sz12_ := sz12.out; have sz13_ := sz13.out; omega))
  have bx := Lib.hid (ht.blk bx.out (by decide) (by decide))
  have w0 := Lib.hid (ht.heldN w0.out (by have sz0_ := sz0.out; have sz1_ := sz1.out; have sz2_ := sz2.out; have sz3_ := sz3.out; have sz4_ := sz4.out; have sz5_ := sz5.out; have sz6_ := sz6.out; have sz7_ := sz7.out; have sz8_ := sz8.out; have sz9_ := sz9.out; have sz10_ := sz10.out; have sz11_ := sz11.out; have sz12_ := sz12.out; have sz13_ := sz13.out; omega))
  have o0 := Lib.hid (ht.blk o0.out (by decide) (by decide))
  have b0 := Lib.hid (ht.blk b0.out (by decide) (by decide))
  have w1 := Lib.hid (show HeldN v14 (mkN 1 w1n) v6.heap.size v7.heap.size from hh)
  have o1 := Lib.hid (ht.blk o1.out (by decide) (by decide))
  have sz14 := Lib.hid (show v13.heap.size ≤ v14.heap.size from ht.size)
  clear hh ht
  have hk3 : ¬ ((kN 1 w1n : Nat) : Int) < 0 := by omega
  obtain ⟨z1, hz1⟩ : ∃ z : Nat, kN 1 w1n = z := ⟨_, rfl⟩
  have HZ1 := Lib.hid hz1
  rw [hz1] at hk3 ⊢
  have hze : ((z1 : Int) != (z1 : Int)) = false := by simp
  clear hz1
  obtain ⟨o1c0, o1c1, o1c2⟩ := blk3 o1.out
  go_wp2_with fail
  clear o1c0 o1c1 o1c2
  refine (heldNetOut_any w1n jc 1 _ (w1.out.lies (by have sz0_ := sz0.out; have sz1_ := sz1.out; have sz2_ := sz2.out; have sz3_ := sz3.out; have sz4_ := sz4.out; have sz5_ := sz5.out; have sz6_ := sz6.out; have sz7_ := sz7.out; have sz8_ := sz8.out; have sz9_ := sz9.out; have sz10_ := sz10.out; have sz11_ := sz11.out; have sz12_ := sz12.out; have sz13_ := sz13.out; have sz14_ := sz14.out; omega)) w1F.out.2).mono ?_
  rintro e v15 ⟨rfl, hb⟩
  have bw := Lib.hid (bw.out.trans (hb.mono bw.out.size))
  have bx := Lib.hid (bx.out.on hb)
  have w0 := Lib.hid (w0.out.step hb (.inr (Nat.le_refl _)))
  have o0 := Lib.hid (o0.out.on hb)
  have b0 := Lib.hid (b0.out.on hb)
  have w1 := Lib.hid (w1.out.step hb (.inr (Nat.le_refl _)))
  have o1 := Lib.hid (o1.out.on hb)
  have sz15 := Lib.hid (show v14.heap.size ≤ v15.heap.size from hb.size)
  clear hb
  rw [HZ1.out]
  obtain ⟨bxc0, bxc1⟩ := blk2 bx.out
  go_wp2_with fail
  clear bxc0 bxc1
  refine (toNet_any n _ (H.out.on bw.out) hs1 hs2 HL.out).mono ?_
  rintro e v16 ⟨x2n, rfl, x2p, x2h, hb⟩
  have x2P := Lib.hid x2p
  clear x2p
  unfold Nt.val
  have bw := Lib.hid (bw.out.trans (hb.mono bw.out.size))
  have bx := Lib.hid (bx.out.on hb)
  have w0 := Lib.hid (w0.out.step hb (.inr (Nat.le_refl _)))
  have o0 := Lib.hid (o0.out.on hb)
  have b0 := Lib.hid (b0.out.on hb)
  have w1 := Lib.hid (w1.out.step hb (.inr (Nat.le_refl _)))
  have o1 := Lib.hid (o1.out.on hb)
  have sz16 := Lib.hid (show v15.heap.size ≤ v16.heap.size from hb.size)
  have x2 := Lib.hid (show HeldN v16 x2n v15.heap.size v16.heap.size from x2h)
  clear hb
  clear x2h
  go_wp2_with fail

  refine (implLose_any x2n i _ (x2.out.lies (by have sz0_ := sz0.out; have sz1_ := sz1.out; have sz2_ := sz2.out; have sz3_ := sz3.out; have sz4_ := sz4.out; have sz5_ := sz5.out; have sz6_ := sz6.out; have sz7_ := sz7.out; have sz8_ := sz8.out; have sz9_ := sz9.out; have sz10_ := sz10.out; have sz11_ := sz11.out; have sz12_ := sz12.out; have sz13_ := sz13.out; have sz14_ := sz14.out; have sz15_ := sz15.out; have sz16_ := sz16.out; omega)) (little_pl x2P.out HS.out)).mono ?_
  rintro e v17 hans
  rw [x2P.out, HCF.out, HPF.out] at hans
  obtain ⟨w2n, rfl, w2p, hh, hb⟩ := hans
  have w2P := Lib.hid w2p
  clear w2p
  unfold Nt.out
  have bw := Lib.hid (bw.out.trans (hb.mono bw.out.size))
  have bx := Lib.hid (bx.out.on hb)
  have w0 := Lib.hid (w0.out.step hb (.inr (Nat.le_refl _)))
  have o0 := Lib.hid (o0.out.on hb)
  have b0 := Lib.hid (b0.out.on hb)
  have w1 := Lib.hid (w1.out.step hb (.inr (Nat.le_refl _)))
  have o1 := Lib.hid (o1.out.on hb)
  have x2 := Lib.hid (x2.out.step hb (.inr (Nat.le_refl _)))
  have sz17 := Lib.hid (show v16.heap.size ≤ v17.heap.size from hb.size)
  have w2 := Lib.hid (show HeldN v17 w2n v16.heap.size v17.heap.size from hh)
  clear hb
  clear hh
  have w2F := Lib.hid (fewA_of w2P.out HSM.out)
  clear x2
  obtain ⟨o0c0, o0c1, o0c2⟩ := blk3 (o0.out.alloc (Obj.cells #[Value.slice w2n.A w2n.s.length w2n.ca, Value.slice w2n.B w2n.m.length w2n.cb, Value.int IntKind.i64 jc] 36))
  go_wp2_with fail
  clear o0c0 o0c1 o0c2
  have bw := Lib.hid (bw.out.alloc bw.out.size (Obj.cells #[Value.slice w2n.A w2n.s.length w2n.ca, Value.slice w2n.B w2n.m.length w2n.cb, Value.int IntKind.i64 jc] 36))
  have bx := Lib.hid (bx.out.alloc (Obj.cells #[Value.slice w2n.A w2n.s.length w2n.ca, Value.slice w2n.B w2n.m.length w2n.cb, Value.int IntKind.i64 jc] 36))
  have w0 := Lib.hid (w0.out.step ((Below.refl _ v17).alloc (Nat.le_refl _) (Obj.cells #[Value.slice w2n.A w2n.s.length w2n.ca, Value.slice w2n.B w2n.m.length w2n.cb, Value.int IntKind.i64 jc] 36)) (.inr (Nat.le_refl _)))
  have o0 := Lib.hid (o0.out.alloc (Obj.cells #[Value.slice w2n.A w2n.s.length w2n.ca, Value.slice w2n.B w2n.m.length w2n.cb, Value.int IntKind.i64 jc] 36))
  have b0 := Lib.hid (b0.out.alloc (Obj.cells #[Value.slice w2n.A w2n.s.length w2n.ca, Value.slice w2n.B w2n.m.length w2n.cb, Value.int IntKind.i64 jc] 36))
  have w1 := Lib.hid (w1.out.step ((Below.refl _ v17).alloc (Nat.le_refl _) (Obj.cells #[Value.slice w2n.A w2n.s.length w2n.ca, Value.slice w2n.B w2n.m.length w2n.cb, Value.int IntKind.i64 jc] 36)) (.inr (Nat.le_refl _)))
  have o1 := Lib.hid (o1.out.alloc (Obj.cells #[Value.slice w2n.A w2n.s.length w2n.ca, Value.slice w2n.B w2n.m.length w2n.cb, Value.int IntKind.i64 jc] 36))
  have w2 := Lib.hid (w2.out.step ((Below.refl _ v17).alloc (Nat.le_refl _) (Obj.cells #[Value.slice w2n.A w2n.s.length w2n.ca, Value.slice w2n.B w2n.m.length w2n.cb, Value.int IntKind.i64 jc] 36)) (.inr (Nat.le_refl _)))
  have o2 := Lib.hid (show Blk (World.alloc v17 (Obj.cells #[Value.slice w2n.A w2n.s.length w2n.ca, Value.slice w2n.B w2n.m.length w2n.cb, Value.int IntKind.i64 jc] 36)) v17.heap.size 36 #[Value.slice w2n.A w2n.s.length w2n.ca, Value.slice w2n.B w2n.m.length w2n.cb, Value.int IntKind.i64 jc] from Blk.new v17 36 #[Value.slice w2n.A w2n.s.length w2n.ca, Value.slice w2n.B w2n.m.length w2n.cb, Value.int IntKind.i64 jc])
  have sz18 := Lib.hid (show v17.heap.size + 1 = (World.alloc v17 (Obj.cells #[Value.slice w2n.A w2n.s.length w2n.ca, Value.slice w2n.B w2n.m.length w2n.cb, Value.int IntKind.i64 jc] 36)).heap.size by simp)
  generalize World.alloc v17 _ = v18 at bw bx w0 o0 b0 w1 o1 w2 o2 sz18 ⊢
  refine (eqNetOut_same w2n w0n jc _ (w2.out.lies (by have sz0_ := sz0.out; have sz1_ := sz1.out; have sz2_ := sz2.out; have sz3_ := sz3.out; have sz4_ := sz4.out; have sz5_ := sz5.out; have sz6_ := sz6.out; have sz7_ := sz7.out; have sz8_ := sz8.out; have sz9_ := sz9.out; have sz10_ := sz10.out; have sz11_ := sz11.out; have sz12_ := sz12.out; have sz13_ := sz13.out; have sz14_ := sz14.out; have sz15_ := sz15.out; have sz16_ := sz16.out; have sz17_ := sz17.out; have sz18_ := sz18.out; omega)) (w0.out.lies (by have sz0_ := sz0.out; have sz1_ := sz1.out; have sz2_ := sz2.out; have sz3_ := sz3.out; have sz4_ := sz4.out; have sz5_ := sz5.out; have sz6_ := sz6.out; have sz7_ := sz7.out; have sz8_ := sz8.out; have sz9_ := sz9.out; have sz10_ := sz10.out; have sz11_ := sz11.out; have sz12_ := sz12.out; have sz13_ := sz13.out; have sz14_ := sz14.out; have sz15_ := sz15.out; have sz16_ := sz16.out; have sz17_ := sz17.out; have sz18_ := sz18.out; omega)) (w2P.out.trans w0P.out.symm) w2F.out.1).mono ?_
  rintro e v19 ⟨rfl, hb⟩
  have bw := Lib.hid (bw.out.trans (hb.mono bw.out.size))
  have bx := Lib.hid (bx.out.on hb)
  have w0 := Lib.hid (w0.out.step hb (.inr (Nat.le_refl _)))
  have o0 := Lib.hid (o0.out.on hb)
  have b0 := Lib.hid (b0.out.on hb)
  have w1 := Lib.hid (w1.out.step hb (.inr (Nat.le_refl _)))
  have o1 := Lib.hid (o1.out.on hb)
  have w2 := Lib.hid (w2.out.step hb (.inr (Nat.le_refl _)))
  have o2 := Lib.hid (o2.out.on hb)
  have sz19 := Lib.hid (show v18.heap.size ≤ v19.heap.size from hb.size)
  clear hb
  obtain ⟨o1c0, o1c1, o1c2⟩ := blk3 o1.out
  go_wp2_with fail
  clear o1c0 o1c1 o1c2
  refine (heldNetOut_any w1n jc 1 _ (w1.out.lies (by have sz0_ := sz0.out; have sz1_ := sz1.out; have sz2_ := sz2.out; have sz3_ := sz3.out; have sz4_ := sz4.out; have sz5_ := sz5.out; have sz6_ := sz6.out; have sz7_ := sz7.out; have sz8_ := sz8.out; have sz9_ := sz9.out; have sz10_ := sz10.out; have sz11_ := sz11.out; have sz12_ := sz12.out; have sz13_ := sz13.out; have sz14_ := sz14.out; have sz15_ := sz15.out; have sz16_ := sz16.out; have sz17_ := sz17.out; have sz18_ := sz18.out; have sz19_ := sz19.out; omega)) w1F.out.2).mono ?_
  rintro e v20 ⟨rfl, hb⟩
  have bw := Lib.hid (bw.out.trans (hb.mono bw.out.size))
  have bx := Lib.hid (bx.out.on hb)
  have w0 := Lib.hid (w0.out.step hb (.inr (Nat.le_refl _)))
  have o0 := Lib.hid (o0.out.on hb)
  have b0 := Lib.hid (b0.out.on hb)
  have w1 := Lib.hid (w1.out.step hb (.inr (Nat.le_refl _)))
  have o1 := Lib.hid (o1.out.on hb)
  have w2 := Lib.hid (w2.out.step hb (.inr (Nat.le_refl _)))
  have o2 := Lib.hid (o2.out.on hb)
  have sz20 := Lib.hid (show v19.heap.size ≤ v20.heap.size from hb.size)
  clear hb
  rw [HZ1.out]
  go_wp2_with fail
  go_ret
  exact ⟨rfl, bw.out⟩
end Go.Proofs.Ythagkjofpfafiaa.Net
