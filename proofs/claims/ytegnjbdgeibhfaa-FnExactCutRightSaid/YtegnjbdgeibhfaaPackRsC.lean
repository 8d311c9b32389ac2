/-
  Several texts in one: RsKeysS, RsPartS, RsCutS.
-/
import Derived.Test.YtegnjbdgeibhfaaRsCutI
import Derived.Test.YtegnjbdgeibhfaaRsS
/-
  spec.l07Keys.
-/
namespace Go.Proofs.Ytegnjbdgeibhfaa.Rs
open Go.ChangeShapes Go.WideShapes Go.ChangeAt Go.RowKit
open Rec (R P Sound recV cellsV recB needsR rec_of)
open Net (Cl Bk HeldV)
open Dep (D I depsB coversB ofV joinV)
set_option linter.unusedVariables false
set_option maxRecDepth 100000

theorem fold_snoc_needs (a : List D) (l : List Q) (k : Nat) (h : k < l.length) : foldJ a ((pr (l.take (k + 1))).map needsR) = joinV (foldJ a ((pr (l.take k)).map needsR)) (needsR l[k].r) := by
  rw [take_snoc l k h]
  unfold pr
  rw [List.map_append, List.map_append]
  exact foldJ_snoc _ _ _

set_option maxHeartbeats 4000000 in
set_option maxRecDepth 100000 in
theorem keysS_any (A B : Option Addr) (rows wait : List Q) (ca cb : Nat) (w : World) (h : LRs w w.heap.size A rows) (hw : LRs w w.heap.size B wait) (hr : ListOk (pr rows)) (hp : ListOk (pr wait)) :
    Calls Try.prog 33 #[.agg #[.slice A rows.length ca, .slice B wait.length cb]] w fun e w' => ∃ ad c, e = .returned (.slice (some ad) (keysV (pr rows) (pr wait)).length c) ∧ Below w.heap.size w w' := by
  have hwl : wait.length ≤ 6 := by have := hp.1; rwa [pr_len] at this
  have HS1 := Lib.hid (fun W (hW : Below w.heap.size w W) => seen_any A rows ca W (h.on hW) hr)
  have HS2 := Lib.hid (fun W (hW : Below w.heap.size w W) => seen_any B wait cb W (hw.on hW) hp)
  have HW := Lib.hid hw
  have HP := Lib.hid hp
  have HR6 := Lib.hid (show (mk (pr rows)).length ≤ 6 from by rw [mk_len]; exact hr.1)
  have HW6 := Lib.hid (show (mk (pr wait)).length ≤ 6 from by rw [mk_len]; exact hp.1)
  have B0 := Lib.hid ((Below.refl w.heap.size w).alloc (Nat.le_refl _) (Obj.cells #[.slice A rows.length ca, .slice B wait.length cb] 25))
  have X0 := Lib.hid (Blk.new w 25 #[.slice A rows.length ca, .slice B wait.length cb])
  clear h hw hr hp
  go_enter Try.func33, Try.ntmps33
  go_wp2_with fail
  refine wp_region_held_drew (S := (fun W => Blk W w.heap.size 25 #[.slice A rows.length ca, .slice B wait.length cb] ∧ Below w.heap.size w W)) (by kernel_rfl) ?_ (fun hHeld => ?_)
  · exact ⟨X0.out.drew, B0.out.drew⟩
  refine wpAnyH_take (i := 0) (v := ?_) rfl (by kernel_rfl) (by kernel_rfl) (by kernel_rfl) (fun _ _ _ h => h) (Or.inl ⟨by rfl, ?_⟩) hHeld ?_
  rotate_left
  · intro W hSw
    obtain ⟨hs1, hs2⟩ := cell2 hSw.1
    go_simp
    try with_reducible rfl
  try simp only [Act.put, List.setIfInBounds_toArray, List.set_cons_zero, List.set_cons_succ, List.getElem_toArray, List.getElem_cons_zero]
  refine wpAnyH_take (i := 1) (v := ?_) rfl (by kernel_rfl) (by kernel_rfl) (by kernel_rfl) (fun _ _ _ h => h) (Or.inl ⟨by rfl, ?_⟩) hHeld ?_
  rotate_left
  · intro W hSw
    obtain ⟨hs1, hs2⟩ := cell2 hSw.1
    go_simp
    try with_reducible rfl
  try simp only [Act.put, List.setIfInBounds_toArray, List.set_cons_zero, List.set_cons_succ, List.getElem_toArray, List.getElem_cons_succ, List.getElem_cons_zero]
  refine wpAnyH_take (i := 3) (v := ?_) rfl (by kernel_rfl) (by kernel_rfl) (by kernel_rfl) (fun _ _ _ h => h) (Or.inl ⟨by rfl, ?_⟩) hHeld ?_
  rotate_left
  · intro W hSw
    obtain ⟨hs1, hs2⟩ := cell2 hSw.1
    go_simp
    try with_reducible rfl
  try simp only [Act.put, List.setIfInBounds_toArray, List.set_cons_zero, List.set_cons_succ, List.getElem_toArray, List.getElem_cons_succ, List.getElem_cons_zero]
  refine wpAnyH_take (i := 4) (v := ?_) rfl (by kernel_rfl) (by kernel_rfl) (by kernel_rfl) (fun _ _ _ h => h) (Or.inl ⟨by rfl, ?_⟩) hHeld ?_
  rotate_left
  · intro W hSw
    obtain ⟨hs1, hs2⟩ := cell2 hSw.1
    go_simp
    try with_reducible rfl
  try simp only [Act.put, List.setIfInBounds_toArray, List.set_cons_zero, List.set_cons_succ, List.getElem_toArray, List.getElem_cons_succ, List.getElem_cons_zero]
  refine wpAnyH_ready (rs := [2]) (by kernel_rfl) (by simp) ?_
  refine AllReadyH.cons rfl (fun K hK => ?_) AllReadyH.nil
  go_simp
  refine (HS1.out _ hHeld.2).mono ?_
  rintro e w1 ⟨v, rfl, ho, hv, hb⟩
  obtain ⟨_, ad1, c1, rfl, _, _, hL1⟩ := Dep.own_addr ho hv
  have L1 := Lib.hid hL1
  clear ho hv hL1
  unfold Dep.slV
  refine hK.out _ _ ?_ (fun hHeld => ?_)
  · exact ⟨hHeld.1.on hb, hHeld.2.trans (hb.mono hHeld.2.size)⟩
  clear hK K
  try simp only [Act.put, List.setIfInBounds_toArray, List.set_cons_zero, List.set_cons_succ, List.getElem_toArray, List.getElem_cons_succ, List.getElem_cons_zero]
  refine wpAnyH_ready (rs := [5]) (by kernel_rfl) (by simp) ?_
  refine AllReadyH.cons rfl (fun K hK => ?_) AllReadyH.nil
  go_simp
  refine (HS2.out _ hHeld.2).mono ?_
  rintro e w2 ⟨v, rfl, ho, hv, hb⟩
  obtain ⟨_, ad2, c2, rfl, _, _, hL2⟩ := Dep.own_addr ho hv
  have L2 := Lib.hid hL2
  have L1 := Lib.hid ((L1.out.below hb (Nat.le_refl _)).more hb.size)
  clear ho hv hL2
  unfold Dep.slV
  refine hK.out _ _ ?_ (fun hHeld => ?_)
  · exact ⟨hHeld.1.on hb, hHeld.2.trans (hb.mono hHeld.2.size)⟩
  clear hK K
  try simp only [Act.put, List.setIfInBounds_toArray, List.set_cons_zero, List.set_cons_succ, List.getElem_toArray, List.getElem_cons_succ, List.getElem_cons_zero]
  refine wpAnyH_ready (rs := [6]) (by kernel_rfl) (by simp) ?_
  refine AllReadyH.cons rfl (fun K hK => ?_) AllReadyH.nil
  go_simp
  refine (Dep.specJoin_any (some ad1) (some ad2) (mk (pr rows)) (mk (pr wait)) c1 c2 _ L1.out L2.out (by have := HR6.out; omega) (by have := HW6.out; omega)).mono ?_
  rintro e w3 ⟨v, rfl, ho, hv, hb⟩
  obtain ⟨_, ad3, c3, rfl, _, _, hL3⟩ := Dep.own_addr ho hv
  have L3 := Lib.hid hL3
  clear ho hv hL3
  unfold Dep.slV
  refine hK.out _ _ ?_ (fun hHeld => ?_)
  · exact ⟨hHeld.1.on hb, hHeld.2.trans (hb.mono hHeld.2.size)⟩
  clear hK K
  try simp only [Act.put, List.setIfInBounds_toArray, List.set_cons_zero, List.set_cons_succ, List.getElem_toArray, List.getElem_cons_succ, List.getElem_cons_zero]
  refine wpAnyH_take (i := 7) (v := ?_) rfl (by kernel_rfl) (by kernel_rfl) (by kernel_rfl) (fun _ _ _ h => h) (Or.inl ⟨by rfl, ?_⟩) hHeld ?_
  rotate_left
  · intro W hSw
    obtain ⟨hs1, hs2⟩ := cell2 hSw.1
    go_simp
    try with_reducible rfl
  try simp only [Act.put, List.setIfInBounds_toArray, List.set_cons_zero, List.set_cons_succ, List.getElem_toArray, List.getElem_cons_succ, List.getElem_cons_zero]
  refine wpAnyH_done (by kernel_rfl) ?_ _
  have X3 := Lib.hid hHeld.1
  have B3 := Lib.hid hHeld.2
  have HJL := Lib.hid (Dep.length_join (mk (pr wait)) (mk (pr rows)))
  go_wp2_with fail
  go_loopw [3, 4] (fun o i wr => ∃ k : Nat, k ≤ wait.length ∧ i = .int .i64 k ∧ ∃ (ad : Addr) (c : Nat) (K : List D), o = .slice (some ad) K.length c ∧ Hid (K = foldJ (joinV (mk (pr rows)) (mk (pr wait))) ((pr (wait.take k)).map needsR) ∧ K.length ≤ 12 + 6 * k ∧ Dep.Lies wr wr.heap.size (some ad) K ∧ Blk wr w.heap.size 25 #[.slice A rows.length ca, .slice B wait.length cb] ∧ Below w.heap.size w wr)) (fun _ i _ => wait.length - (intOf i).toNat)
  case atStart => exact ⟨0, by omega, rfl, ad3, c3, _, rfl, Lib.hid ⟨rfl, by have := HJL.out; have := HR6.out; have := HW6.out; omega, L3.out, X3.out, B3.out⟩⟩
  case round =>
    obtain ⟨k, hk, rfl, ad, c, K, rfl, HX⟩ := hrel
    obtain ⟨x0, x1⟩ := cell2 HX.out.2.2.2.1
    by_cases hlt : k < wait.length
    · obtain ⟨bd, rfl, _, ⟨y0, y1, y2, y3, y4, y5, y6, y7⟩, hL0⟩ := (HW.out.below HX.out.2.2.2.2 (Nat.le_refl _)).at_ hlt
      have hok : recB wait[k].r = true := HP.out.2.1 _ (List.mem_map.2 ⟨_, List.getElem_mem hlt, rfl⟩)
      have HFS := Lib.hid (fold_snoc_needs (joinV (mk (pr rows)) (mk (pr wait))) wait k hlt)
      obtain ⟨y, hy⟩ : ∃ y, wait[k] = y := ⟨_, rfl⟩
      rw [hy] at y0 y1 y2 y3 y4 y5 y6 y7 hL0 hok HFS
      clear hy
      obtain ⟨r, p⟩ := y
      simp only at y0 y1 y2 y3 y4 y5 y6 y7 hL0 hok HFS
      have hro := rec_of hok
      have hb4 := (Rec.keys_of hro.2.2.2.2.2.1).1
      have hd6 := (Dep.ok_of hro.2.2.2.2.1).1
      have HC := Lib.hid (Rec.specNeeds0_any r p wr (hL0.step (Below.refl w.heap.size wr) (Nat.le_refl _) HX.out.2.2.2.2.size) (by omega) (by omega))
      rw [← Rec.needsR_ok hro] at HC
      unfold recV at HC
      have HNL := Lib.hid (Rec.needsR_len r)
      clear hL0 hro hb4 hd6 hok
      obtain ⟨nr, hnr⟩ : ∃ n, needsR r = n := ⟨_, rfl⟩
      rw [hnr] at HC HNL HFS
      clear hnr
      have HKL := Lib.hid HX.out.2.1
      go_wp2_with fail
      refine HC.out.mono ?_
      rintro e w4 ⟨v, rfl, ho, hv, hb⟩
      obtain ⟨_, ad4, c4, rfl, _, _, hL4⟩ := Dep.own_addr ho hv
      have B4 := Lib.hid (HX.out.2.2.2.2.trans (hb.mono HX.out.2.2.2.2.size))
      have X4 := Lib.hid (HX.out.2.2.2.1.on hb)
      have HJ := Lib.hid (Dep.specJoin_any (some ad) (some ad4) K nr c c4 w4 ((HX.out.2.2.1.below hb (Nat.le_refl _)).more hb.size) hL4 (by have := HKL.out; omega) (by have := HNL.out; omega))
      unfold Dep.slV at HJ ⊢
      clear ho hv hb hL4 y0 y1 y2 y3 y4 y5 y6 y7 x0 x1
      go_wp2_with fail
      refine HJ.out.mono ?_
      rintro e w5 ⟨v, rfl, ho, hv, hb⟩
      obtain ⟨_, ad5, c5, rfl, _, _, hL5⟩ := Dep.own_addr ho hv
      have B5 := Lib.hid (B4.out.trans (hb.mono B4.out.size))
      have X5 := Lib.hid (X4.out.on hb)
      have L5 := Lib.hid hL5
      have HLJ := Lib.hid (Dep.length_join nr K)
      unfold Dep.slV
      clear ho hv hb hL5 HJ
      go_wp2_with fail
      go_roundw
      case rel => exact ⟨k + 1, by omega, by go_num, ad5, c5, _, rfl, Lib.hid ⟨by rw [HFS.out, ← HX.out.1], by have := HLJ.out; have := HKL.out; have := HNL.out; omega, L5.out, X5.out, B5.out⟩⟩
      case measure => simp [intOf]; omega
    · have e3 : K = keysV (pr rows) (pr wait) := by
        have := HX.out.1
        rw [List.take_of_length_le (by omega)] at this
        exact this
      have E3 := Lib.hid e3
      clear e3
      go_wp2_with fail
      go_ret
      exact ⟨ad, c, by rw [E3.out]; rfl, HX.out.2.2.2.2⟩
end Go.Proofs.Ytegnjbdgeibhfaa.Rs

/-
  spec.l07Part.
-/
namespace Go.Proofs.Ytegnjbdgeibhfaa.Rs
open Go.ChangeShapes Go.WideShapes Go.ChangeAt Go.RowKit
open Rec (R P Sound recV cellsV recB needsR rec_of)
open Net (Cl Bk HeldV addr0)
open Dep (D I depsB coversB ofV joinV)
set_option linter.unusedVariables false
set_option maxRecDepth 100000

theorem cl_pre {w : World} {B : Nat} {A : Option Addr} {a b : List Value} (h : Cl w B A (a ++ b)) : Cl w B A a := fun h0 => by
  obtain ⟨ad, e, hb, hc⟩ := h (by rw [List.length_append]; omega)
  refine ⟨ad, e, hb, fun j u hu => hc j u ?_⟩
  rw [List.getElem?_append_left (List.getElem?_eq_some_iff.1 hu).1]; exact hu
theorem cl_suf {w : World} {B g : Nat} {a b : List Value} {k : Nat} (h : Cl w B (some ⟨g, 0, none⟩) (a ++ b)) (hk : a.length = k) : Cl w B (some ⟨g, k, none⟩) b := fun h0 => by
  obtain ⟨ad, e, hb, hc⟩ := h (by rw [List.length_append]; omega)
  cases e
  refine ⟨_, rfl, hb, fun j u hu => ?_⟩
  have := hc (k + j) u (by rw [List.getElem?_append_right (by omega), hk, Nat.add_sub_cancel_left]; exact hu)
  rw [addr0] at this
  rw [Addr.add_lit]
  exact this
set_option maxHeartbeats 4000000 in
set_option maxRecDepth 100000 in
theorem partS_any (A : Option Addr) (bd : Addr) (rows wait : List Q) (ca cb : Nat) (w : World) (h : LRs w w.heap.size A rows) (hw : LRs w w.heap.size (some bd) wait) (hr : ListOk (pr rows)) (hp : ListOk (pr wait)) :
    Calls Try.prog 37 #[.agg #[.slice A rows.length ca, .slice (some bd) wait.length cb]] w fun e w' => ∃ (g c : Nat) (pt : List Q), e = .returned (.slice (some ⟨g, 0, none⟩) pt.length c) ∧ w'.ownsRow w.heap.size 61 8 (.slice (some ⟨g, 0, none⟩) pt.length c) pt.length (rv pt) ∧ pr pt = partR (pr rows) (pr wait).length (pr wait) ∧ pt.Sublist wait ∧ Below w.heap.size w w' := by
  have hwl : wait.length ≤ 6 := by have := hp.1; rwa [pr_len] at this
  have HS1 := Lib.hid (fun W (hW : Below w.heap.size w W) => seen_any A rows ca W (h.on hW) hr)
  have HW0 := Lib.hid hw
  have HP := Lib.hid hp
  have HR6 := Lib.hid (show (mk (pr rows)).length ≤ 6 from by rw [mk_len]; exact hr.1)
  have B0 := Lib.hid ((Below.refl w.heap.size w).alloc (Nat.le_refl _) (Obj.cells #[.slice A rows.length ca, .slice (some bd) wait.length cb] 25))
  have B00 := Lib.hid (B0.out.alloc B0.out.size (Obj.cells #[] 61))
  have X00 := Lib.hid ((Blk.new w 25 #[.slice A rows.length ca, .slice (some bd) wait.length cb]).alloc (Obj.cells #[] 61))
  have HC := Lib.hid (hw.1.below B00.out (Nat.le_refl _))
  have HON := Lib.hid (show ((w.alloc (Obj.cells #[.slice A rows.length ca, .slice (some bd) wait.length cb] 25)).alloc (Obj.cells #[] 61)).ownsRow (w.heap.size + 1) 61 8 (.slice (some ⟨w.heap.size + 1, 0, none⟩) 0 0) 0 [] from by
    have h := o_none (w.alloc (Obj.cells #[.slice A rows.length ca, .slice (some bd) wait.length cb] 25)) 61 8
    rwa [World.size_alloc] at h)
  clear h hw hr hp
  go_enter Try.func37, Try.ntmps37
  go_wp2_with (at_builtin; refine wpList_app fit_recs rfl rfl rfl (rv wait) rfl rfl HON.out HC.out (by rw [rv_len]) (rv_one wait) (by omega) (by simp) ?_; intro v1 W1 ho1 hg1 hn1; have X1 := Lib.hid (show Blk W1 w.heap.size 25 #[.slice A rows.length ca, .slice (some bd) wait.length cb] from (o_types HON.out hg1 (by decide) _ _ X00.out).trans X00.out); rw [Nat.zero_add, List.nil_append] at ho1; have B1 := Lib.hid (B00.out.grown hg1 B00.out.size (fun j e => by cases e; simp)); have HO1 := Lib.hid (o_less ho1 (base' := w.heap.size) (by simp)); have HN1 := Lib.hid (fun e => by cases (hn1 e).1 : v1 = .slice none 0 0 → False); clear ho1 hg1 hn1)
  obtain ⟨g, c, rfl, -, -, -, -⟩ := o_val_ne HO1.out HN1.out
  clear HC HN1 X00 B00 B0
  go_loopg [3, 4] (wait.length * 10 + wait.length) (fun gh o i wr => ∃ (g c : Nat) (pt : List Q) (k : Nat), o = .slice (some ⟨g, 0, none⟩) pt.length c ∧ i = .int .i64 k ∧ k ≤ pt.length ∧ Hid (gh = pt.length * 10 + (pt.length - k)) ∧ pt.length ≤ 6 ∧ Hid (wr.ownsRow w.heap.size 61 8 (.slice (some ⟨g, 0, none⟩) pt.length c) pt.length (rv pt) ∧ partR (pr rows) (pr pt).length (pr pt) = partR (pr rows) (pr wait).length (pr wait) ∧ pt.Sublist wait ∧ (∀ j (hj : j < (pr pt).length), j < k → coversB (joinV (mk (pr rows)) (mk (pr pt))) (needsR (pr pt)[j]) = true) ∧ Blk wr w.heap.size 25 #[.slice A rows.length ca, .slice (some bd) wait.length cb] ∧ Below w.heap.size w wr))
  case atStart => exact ⟨g, c, wait, 0, rfl, rfl, Nat.zero_le _, Lib.hid rfl, hwl, Lib.hid ⟨HO1.out, rfl, List.Sublist.refl _, fun j hj hjk => absurd hjk (by omega), X1.out, B1.out⟩⟩
  case round =>
    obtain ⟨g, c, pt, k, rfl, rfl, hk, HGH, hpl, HR⟩ := hrel
    obtain ⟨x0, x1⟩ := cell2 HR.out.2.2.2.2.1
    by_cases hlt : k < pt.length
    · have hsub := HR.out.2.2.1
      have hok := ok_sub HP.out (hsub.map Q.r)
      obtain ⟨_, _, e0, hnc, _, hcl, -⟩ := o_val HR.out.1
      cases e0
      have HLP := Lib.hid (show LRs wr wr.heap.size (some ⟨g, 0, none⟩) pt from ⟨hcl, fun q hq => ((HW0.out.on HR.out.2.2.2.2.2).2 q (hsub.subset hq))⟩)
      have HSP := Lib.hid (fun W (hW : Below wr.heap.size wr W) => seen_any (some ⟨g, 0, none⟩) pt c W (HLP.out.on hW) hok)
      have HP6 := Lib.hid (show (mk (pr pt)).length ≤ 6 from by rw [mk_len]; exact hok.1)
      have hokr : recB pt[k].r = true := hok.2.1 _ (List.mem_map.2 ⟨_, List.getElem_mem hlt, rfl⟩)
      have HNC := Lib.hid hnc
      have HWZ := Lib.hid (show w.heap.size ≤ wr.heap.size from HR.out.2.2.2.2.2.size)
      have hkp : k < (pr pt).length := by rw [pr_len]; exact hlt
      have HKP := Lib.hid hkp
      have HKK := Lib.hid (show ∀ h : k < (pr pt).length, (pr pt)[k]'h = pt[k].r from fun h => pr_at hlt)
      have HQK := Lib.hid (show ∃ q, pt[k] = q from ⟨_, rfl⟩)
      clear hcl hsub hok hnc hkp
      go_wp2_with fail
      refine (HS1.out _ HR.out.2.2.2.2.2).mono ?_
      rintro e w1 ⟨v, rfl, ho, hv, hb⟩
      obtain ⟨_, ad1, c1, rfl, _, _, hL1⟩ := Dep.own_addr ho hv
      have D1 := Lib.hid hb
      have L1 := Lib.hid hL1
      clear ho hv hL1 hb x0 x1
      unfold Dep.slV
      go_wp2_with fail
      refine (HSP.out _ D1.out).mono ?_
      rintro e w2 ⟨v, rfl, ho, hv, hb⟩
      obtain ⟨_, ad2, c2, rfl, _, _, hL2⟩ := Dep.own_addr ho hv
      have D2 := Lib.hid (D1.out.trans (hb.mono D1.out.size))
      have L1 := Lib.hid ((L1.out.below hb (Nat.le_refl _)).more hb.size)
      have L2 := Lib.hid hL2
      clear ho hv hL2 hb
      unfold Dep.slV
      go_wp2_with fail
      refine (Dep.specJoin_any (some ad1) (some ad2) (mk (pr rows)) (mk (pr pt)) c1 c2 _ L1.out L2.out (by have := HR6.out; omega) (by have := HP6.out; omega)).mono ?_
      rintro e w3 ⟨v, rfl, ho, hv, hb⟩
      obtain ⟨_, ad3, c3, rfl, _, _, hL3⟩ := Dep.own_addr ho hv
      have D3 := Lib.hid (D2.out.trans (hb.mono D2.out.size))
      have L3 := Lib.hid hL3
      have HJL := Lib.hid (Dep.length_join (mk (pr pt)) (mk (pr rows)))
      clear ho hv hL3 hb L1 L2
      obtain ⟨M, hM⟩ : ∃ M, joinV (mk (pr rows)) (mk (pr pt)) = M := ⟨_, rfl⟩
      have HMM := Lib.hid hM
      rw [hM] at L3 HJL ⊢
      clear hM
      unfold Dep.slV
      obtain ⟨_, e0, _, ⟨y0, y1, y2, y3, y4, y5, y6, y7⟩, hL0⟩ := (HLP.out.on D3.out).at_ hlt
      cases e0
      obtain ⟨y, hy⟩ : ∃ y, pt[k] = y := ⟨_, rfl⟩
      rw [hy] at y0 y1 y2 y3 y4 y5 y6 y7 hL0 hokr HKK
      clear hy HQK
      obtain ⟨r, p⟩ := y
      simp only at hL0 hokr HKK
      simp only [addr0, Nat.add_assoc, Nat.reduceAdd] at y0 y1 y2 y3 y4 y5 y6 y7
      have hro := rec_of hokr
      have hb4 := (Rec.keys_of hro.2.2.2.2.2.1).1
      have hd6 := (Dep.ok_of hro.2.2.2.2.1).1
      have HCN := Lib.hid (Rec.specNeeds0_any r p w3 hL0 (by omega) (by omega))
      rw [← Rec.needsR_ok hro] at HCN
      unfold recV at HCN
      have HNL := Lib.hid (Rec.needsR_len r)
      clear hL0 hro hb4 hd6 hokr
      obtain ⟨nr, hnr⟩ : ∃ n, needsR r = n := ⟨_, rfl⟩
      have HNR := Lib.hid hnr
      rw [hnr] at HCN HNL
      clear hnr
      go_wp2_with fail
      refine HCN.out.mono ?_
      rintro e w4 ⟨v, rfl, ho, hv, hb⟩
      obtain ⟨_, ad4, c4, rfl, _, _, hL4⟩ := Dep.own_addr ho hv
      have D4 := Lib.hid (D3.out.trans (hb.mono D3.out.size))
      have HCV := Lib.hid (Dep.specCov_any (some ad3) (some ad4) M nr c3 c4 w4 ((L3.out.below hb (Nat.le_refl _)).more hb.size) hL4 (by have := HJL.out; have := HR6.out; have := HP6.out; unfold maxLen; omega) (by have := HNL.out; unfold maxLen; omega))
      unfold Dep.slV at HCV ⊢
      clear ho hv hb hL4 y0 y1 y2 y3 y4 y5 y6 y7
      go_wp2_with fail
      refine HCV.out.mono ?_
      rintro e w5 ⟨rfl, hb⟩
      have D5 := Lib.hid (D4.out.trans (hb.mono D4.out.size))
      have HO5 := Lib.hid (o_step HR.out.1 D5.out (Nat.le_refl _))
      have X5 := Lib.hid (HR.out.2.2.2.2.1.on D5.out)
      have B5 := Lib.hid (HR.out.2.2.2.2.2.trans (D5.out.mono HWZ.out))
      clear hb D1 D2 D3 D4
      cases hcv : coversB M nr
      · have HCF := Lib.hid hcv
        clear hcv
        have HFB := Lib.hid (bad_some (rows := pr rows) (p := pr pt) (i := k) HKP.out (by rw [HMM.out, HKK.out, HNR.out]; exact HCF.out) (fun j hj hjk => HR.out.2.2.2.1 j hj hjk))
        have HPS := Lib.hid (part_step HKP.out HFB.out)
        have HLC := Lib.hid (show pt.length ≤ c from by
          obtain ⟨_, _, e, h1, _⟩ := o_val HO5.out
          cases e; exact h1)
        have HPRE := Lib.hid (show Cl (World.alloc w5 (Obj.cells #[] 61)) (World.alloc w5 (Obj.cells #[] 61)).heap.size (some ⟨g, 0, none⟩) (rv (pt.take k)) from by
          obtain ⟨_, _, e, _, _, hc, _⟩ := o_val (o_alloc HO5.out (Obj.cells #[] 61))
          cases e
          rw [show rv pt = rv (pt.take k) ++ rv (pt.drop k) from by rw [← rv_append, List.take_append_drop]] at hc
          exact cl_pre hc)
        have hkc : (k : Int) ≤ c := by have := HLC.out; omega
        have hki : (k : Int) + 1 ≤ pt.length := by omega
        have hka : (0 : Int) ≤ (k : Int) + 1 := by omega
        have hpc : (pt.length : Int) ≤ c := by have := HLC.out; omega
        go_upto_region 8 with (at_builtin; refine wpList_app fit_recs rfl rfl rfl (rv (pt.take k)) rfl rfl (o_none w5 61 8) HPRE.out (by rw [rv_len, List.length_take, Nat.min_eq_left (Nat.le_of_lt hlt)]) (rv_one _) (by omega) (by simp) ?_; intro v1 u1 ho hg hn; rw [Nat.zero_add, List.nil_append] at ho; obtain ⟨g6, c6, rfl, -, -, -, -⟩ := o_val_ne ho (fun e => by cases (hn e).1); have HO6 := Lib.hid ho; have B6 := Lib.hid (((Below.refl w5.heap.size w5).alloc (Nat.le_refl _) (Obj.cells #[] 61)).grown hg (by simp) (fun k e => by cases e; exact Nat.le_refl _)); clear ho hg hn)
        have HCL := Lib.hid (show Cl u1 u1.heap.size (some ⟨g, 0, none⟩) (rv pt) from by
          obtain ⟨_, _, e, _, _, hc, _⟩ := o_val (o_step HO5.out B6.out (Nat.le_refl _))
          cases e
          exact hc)
        by_cases hcap : c = k + 1
        · have HSUF := Lib.hid (show Cl u1 u1.heap.size (some ⟨g, 0, none⟩) (rv (pt.drop (k + 1))) from by
            have e0 : pt.drop (k + 1) = [] := List.drop_eq_nil_of_le (by have := HLC.out; omega)
            rw [e0]; exact Cl.nil _ _ _)
          subst hcap
          go_upto_region 9 with (at_builtin; refine wpList_app fit_recs rfl rfl rfl (rv (pt.drop (k + 1))) rfl rfl HO6.out HSUF.out (by rw [rv_len, List.length_drop] <;> omega) (rv_one _) (by omega) (by have := B6.out.size; omega) ?_; intro v2 u2 ho2 hg2 hn2; rw [show k + (pt.length - (k + 1)) = pt.length - 1 by omega] at ho2; obtain ⟨g7, c7, rfl, -, -, -, -⟩ := o_val_ne ho2 (fun e => by cases (hn2 e).1); have B7 := Lib.hid (B6.out.grown hg2 B6.out.size (fun j e => o_base HO6.out j e)); have HO7 := Lib.hid ho2; clear ho2 hg2 hn2)
          have HL7 := Lib.hid (show (pt.eraseIdx k).length = pt.length - 1 from by rw [List.length_eraseIdx]; simp [hlt])
          go_wp2_with fail
          go_roundg ((pt.length - 1) * 10 + (pt.length - 1))
          case measure => have := HGH.out; omega
          case rel =>
            refine ⟨g7, c7, pt.eraseIdx k, 0, by rw [HL7.out], by go_num, Nat.zero_le _, Lib.hid (by rw [HL7.out]; rfl), by rw [HL7.out]; omega, Lib.hid ⟨?_, ?_, ?_, fun j hj hjk => absurd hjk (by omega), X5.out.on B7.out, B5.out.trans (B7.out.mono B5.out.size)⟩⟩
            · rw [HL7.out, erase_eq pt k hlt, rv_append]
              exact o_less HO7.out B5.out.size
            · rw [pr_erase, ← HPS.out]; exact HR.out.2.1
            · exact (List.eraseIdx_sublist _ _).trans HR.out.2.2.1
        · have HSUF := Lib.hid (show Cl u1 u1.heap.size (some ⟨g, (k + 1) * 8, none⟩) (rv (pt.drop (k + 1))) from by
            have hc := HCL.out
            rw [show rv pt = rv (pt.take (k + 1)) ++ rv (pt.drop (k + 1)) from by rw [← rv_append, List.take_append_drop]] at hc
            exact cl_suf hc (by rw [rv_len, List.length_take]; omega))
          go_upto_region 9 with (at_builtin; refine wpList_app fit_recs rfl rfl rfl (rv (pt.drop (k + 1))) rfl rfl HO6.out HSUF.out (by rw [rv_len, List.length_drop] <;> omega) (rv_one _) (by omega) (by have := B6.out.size; omega) ?_; intro v2 u2 ho2 hg2 hn2; rw [show k + (pt.length - (k + 1)) = pt.length - 1 by omega] at ho2; obtain ⟨g7, c7, rfl, -, -, -, -⟩ := o_val_ne ho2 (fun e => by cases (hn2 e).1); have B7 := Lib.hid (B6.out.grown hg2 B6.out.size (fun j e => o_base HO6.out j e)); have HO7 := Lib.hid ho2; clear ho2 hg2 hn2)
          have HL7 := Lib.hid (show (pt.eraseIdx k).length = pt.length - 1 from by rw [List.length_eraseIdx]; simp [hlt])
          go_wp2_with fail
          go_roundg ((pt.length - 1) * 10 + (pt.length - 1))
          case measure => have := HGH.out; omega
          case rel =>
            refine ⟨g7, c7, pt.eraseIdx k, 0, by rw [HL7.out], by go_num, Nat.zero_le _, Lib.hid (by rw [HL7.out]; rfl), by rw [HL7.out]; omega, Lib.hid ⟨?_, ?_, ?_, fun j hj hjk => absurd hjk (by omega), X5.out.on B7.out, B5.out.trans (B7.out.mono B5.out.size)⟩⟩
            · rw [HL7.out, erase_eq pt k hlt, rv_append]
              exact o_less HO7.out B5.out.size
            · rw [pr_erase, ← HPS.out]; exact HR.out.2.1
            · exact (List.eraseIdx_sublist _ _).trans HR.out.2.2.1
      · have HT := Lib.hid hcv
        clear hcv
        go_wp2_with fail
        go_roundg (pt.length * 10 + (pt.length - (k + 1)))
        case measure => have := HGH.out; omega
        case rel =>
          refine ⟨g, c, pt, k + 1, rfl, by go_num, by omega, Lib.hid rfl, hpl, Lib.hid ⟨HO5.out, HR.out.2.1, HR.out.2.2.1, fun j hj hjk => ?_, X5.out, B5.out⟩⟩
          by_cases e : j = k
          · subst e; rw [HMM.out, HKK.out, HNR.out]; exact HT.out
          · exact HR.out.2.2.2.1 j hj (by omega)
    · have HFN := Lib.hid (bad_none (rows := pr rows) (p := pr pt) (fun j hj => HR.out.2.2.2.1 j hj (by rw [pr_len] at hj; omega)))
      go_wp2_with fail
      go_ret
      exact ⟨g, c, pt, rfl, HR.out.1, by rw [← HR.out.2.1, part_done HFN.out], HR.out.2.2.1, HR.out.2.2.2.2.2⟩
end Go.Proofs.Ytegnjbdgeibhfaa.Rs

/-
  spec.CutRight.
-/
namespace Go.Proofs.Ytegnjbdgeibhfaa.Rs
open Go.ChangeShapes Go.WideShapes Go.ChangeAt Go.RowKit
open Rec (R P Sound recV cellsV recB needsR rec_of)
open Net (Cl Bk HeldV)
open Dep (D I depsB coversB covB ofV joinV K4)
set_option linter.unusedVariables false
set_option maxRecDepth 100000

/-- Two cells and a record stand, and nothing below is written. -/
abbrev CutQ (w : World) (b : Nat) (u v : Value) (a : Addr) (r : R) (p : P) (W : World) : Prop := (W.cell? ⟨b, 0, none⟩ = some u ∧ W.cell? ⟨b, 1, none⟩ = some v) ∧ RPAt W a r p ∧ Below w.heap.size w W
theorem CutQ.step {w W W' : World} {b : Nat} {u v : Value} {a : Addr} {r : R} {p : P} (h : CutQ w b u v a r p W) (hb : Below W.heap.size W W') : CutQ w b u v a r p W' := by
  obtain ⟨⟨h1, h2⟩, ⟨y0, y1, y2, y3, y4, y5, y6, y7⟩, h3⟩ := h
  have c := fun {q : Addr} {z : Value} (e : W.cell? q = some z) => Lib.Below.cellOf hb e (Nat.le_refl _)
  exact ⟨⟨c h1, c h2⟩, ⟨c y0, c y1, c y2, c y3, c y4, c y5, c y6, c y7⟩, h3.trans (hb.mono h3.size)⟩
theorem CutQ.drew {w W : World} {b : Nat} {u v : Value} {a : Addr} {r : R} {p : P} (h : CutQ w b u v a r p W) : CutQ w b u v a r p W.drew := ⟨h.1, h.2.1, h.2.2.drew⟩
theorem CutQ.below {w W : World} {b : Nat} {u v : Value} {a : Addr} {r : R} {p : P} (h : CutQ w b u v a r p W) : Below w.heap.size w W := h.2.2
theorem up_all {rows : List R} {wait : List Q} (h : ∀ j (hj : j < wait.length), (ofV (mk rows) wait[j].r.k).less wait[j].r.i = true) : upB rows (pr wait) = true := by
  unfold upB pr
  rw [List.all_map, List.all_eq_true]
  intro q hq
  obtain ⟨j, hj, rfl⟩ := List.getElem_of_mem hq
  exact h j hj
theorem up_one {rows : List R} {wait : List Q} {k : Nat} (hk : k < wait.length) (h : (ofV (mk rows) wait[k].r.k).less wait[k].r.i = false) : upB rows (pr wait) = false := by
  unfold upB pr
  rw [List.all_map, List.all_eq_false]
  exact ⟨wait[k], List.getElem_mem hk, by simp [h]⟩

set_option maxHeartbeats 4000000 in
set_option maxRecDepth 100000 in
theorem specCut_any (A : Option Addr) (bd : Addr) (rows wait : List Q) (ca cb : Nat) (w : World) (h : LRs w w.heap.size A rows) (hw : LRs w w.heap.size (some bd) wait) (hrl : rows.length ≤ 1048576) (hwl : wait.length ≤ 1048576) (hsr : ∀ q ∈ rows, Sound q.r) (hsw : ∀ q ∈ wait, Sound q.r) :
    Calls Try.prog 12 #[.agg #[.slice A rows.length ca, .slice (some bd) wait.length cb]] w fun x w' => x = .returned (.bool (cutB (pr rows) (pr wait))) ∧ Below w.heap.size w w' := by
  have B0 := Lib.hid ((Below.refl w.heap.size w).alloc (Nat.le_refl _) (Obj.cells #[.slice A rows.length ca, .slice (some bd) wait.length cb] 25))
  have X0 := Lib.hid (Blk.new w 25 #[.slice A rows.length ca, .slice (some bd) wait.length cb])
  have HCL := Lib.hid (fun W (hW : Below w.heap.size w W) => specClosed_any A rows ca W (h.on hW) (by omega) hsr)
  have HRR := Lib.hid (fun W (hW : Below w.heap.size w W) => list_any (some bd) wait cb W (hw.on hW) (by unfold maxLen; omega) hsw)
  have HKS := Lib.hid (fun (h1 : ListOk (pr rows)) (h2 : ListOk (pr wait)) W (hW : Below w.heap.size w W) => keysS_any A (some bd) rows wait ca cb W (h.on hW) (hw.on hW) h1 h2)
  have HSE := Lib.hid (fun (h1 : ListOk (pr rows)) W (hW : Below w.heap.size w W) => seen_any A rows ca W (h.on hW) h1)
  have HPT := Lib.hid (fun (h1 : ListOk (pr rows)) (h2 : ListOk (pr wait)) W (hW : Below w.heap.size w W) => partS_any A bd rows wait ca cb W (h.on hW) (hw.on hW) h1 h2)
  have HW0 := Lib.hid hw
  clear h hw hsr hsw
  go_enter Try.func12, Try.ntmps12
  go_wp2_with fail
  refine (HCL.out _ B0.out).mono ?_
  rintro e w1 ⟨rfl, hb⟩
  have B1 := Lib.hid (B0.out.trans (hb.mono B0.out.size))
  have X1 := Lib.hid (X0.out.on hb)
  clear hb HCL
  cases hc : closedB (pr rows)
  · have HN := Lib.hid (cut_c (wait := pr wait) hc)
    clear hc
    go_wp2_with fail
    go_ret
    exact ⟨Key.ret_bool HN.out.symm, B1.out⟩
  have HC := Lib.hid hc
  have HRO := Lib.hid (closed_list hc)
  clear hc
  obtain ⟨x0, x1⟩ := cell2 X1.out
  go_wp2_with fail
  clear x0 x1
  refine (HRR.out _ B1.out).mono ?_
  rintro e w2 ⟨rfl, hb⟩
  have B2 := Lib.hid (B1.out.trans (hb.mono B1.out.size))
  have X2 := Lib.hid (X1.out.on hb)
  clear hb HRR
  cases hl : listB (pr wait)
  · have HN := Lib.hid (cut_l (rows := pr rows) hl)
    clear hl
    go_wp2_with fail
    go_ret
    exact ⟨Key.ret_bool HN.out.symm, B2.out⟩
  have HL := Lib.hid hl
  have HWO := Lib.hid (list_of hl)
  clear hl
  obtain ⟨x0, x1⟩ := cell2 X2.out
  go_wp2_with fail
  clear x0 x1
  refine (HKS.out HRO.out HWO.out _ B2.out).mono ?_
  rintro e w3 ⟨adk, ck, rfl, hb⟩
  have B3 := Lib.hid (B2.out.trans (hb.mono B2.out.size))
  have X3 := Lib.hid (X2.out.on hb)
  clear hb HKS
  have HFT := Lib.hid (show fitsB (pr rows) (pr wait) = decide ((keysV (pr rows) (pr wait)).length ≤ 6) from rfl)
  obtain ⟨nk, hnk⟩ : ∃ n, (keysV (pr rows) (pr wait)).length = n := ⟨_, rfl⟩
  rw [hnk] at HFT ⊢
  clear hnk
  by_cases hgt : (6 : Int) < nk
  · have HN := Lib.hid (cut_f (HFT.out.trans (decide_eq_false (by omega))))
    go_wp2_with fail
    go_ret
    exact ⟨Key.ret_bool HN.out.symm, B3.out⟩
  have HF := Lib.hid (HFT.out.trans (decide_eq_true (by omega)))
  obtain ⟨x0, x1⟩ := cell2 X3.out
  go_wp2_with fail
  clear x0 x1 hgt HFT
  refine (HSE.out HRO.out _ B3.out).mono ?_
  rintro e w4 ⟨v, rfl, ho, hv, hb⟩
  obtain ⟨_, ads, cs, rfl, _, _, hLs⟩ := Dep.own_addr ho hv
  have HLS := Lib.hid hLs
  have B4 := Lib.hid (B3.out.trans (hb.mono B3.out.size))
  have X4 := Lib.hid (X3.out.on hb)
  have HML := Lib.hid (show (mk (pr rows)).length ≤ maxLen from by rw [mk_len]; have := HRO.out.1; unfold maxLen; omega)
  have HUA := Lib.hid (fun ha => up_all (rows := pr rows) (wait := wait) ha)
  have HUO := Lib.hid (fun (k : Nat) (hk : k < wait.length) ha => up_one (rows := pr rows) (wait := wait) hk ha)
  clear ho hv hb hLs HSE
  obtain ⟨M, hM⟩ : ∃ M, mk (pr rows) = M := ⟨_, rfl⟩
  rw [hM] at HLS HML HUA HUO ⊢
  clear hM
  have HOF := Lib.hid (fun (q : ByteArray) W (hW : Below w4.heap.size w4 W) => Dep.specOf_any (some ads) M cs q W ((HLS.out.below hW (Nat.le_refl _)).more hW.size) HML.out)
  unfold Dep.slV at HOF ⊢
  go_wp2_with fail
  go_loopw [4] (fun i wr => ∃ k : Nat, k ≤ wait.length ∧ i = .int .i64 k ∧ Hid ((∀ j (hj : j < wait.length), j < k → (ofV M wait[j].r.k).less wait[j].r.i = true) ∧ Below w4.heap.size w4 wr)) (fun i _ => wait.length - (intOf i).toNat)
  case atStart => exact ⟨0, by omega, rfl, Lib.hid ⟨fun j hj hjk => absurd hjk (by omega), Below.refl _ _⟩⟩
  case round =>
    obtain ⟨k, hk, rfl, HR⟩ := hrel
    have HBR := Lib.hid (B4.out.trans (HR.out.2.mono B4.out.size))
    obtain ⟨x0, x1⟩ := cell2 (X4.out.on HR.out.2)
    by_cases hlt : k < wait.length
    · obtain ⟨_, e0, _, hq, -⟩ := ((HW0.out.on B4.out).on HR.out.2).at_ hlt
      cases e0
      have HNO := Lib.hid (fun ha => HUO.out k hlt ha)
      have HYE := Lib.hid (show (ofV M wait[k].r.k).less wait[k].r.i = true → ∀ j (hj : j < wait.length), j < k + 1 → (ofV M wait[j].r.k).less wait[j].r.i = true from fun ha j hj hjk => by
        by_cases e : j = k
        · subst e; exact ha
        · exact HR.out.1 j hj (by omega))
      obtain ⟨y, hy⟩ : ∃ y, wait[k] = y := ⟨_, rfl⟩
      rw [hy] at hq HNO HYE
      clear hy
      obtain ⟨r, p⟩ := y
      simp only [QAt] at hq HNO HYE
      obtain ⟨t, ht⟩ : ∃ t, (ofV M r.k).less r.i = t := ⟨_, rfl⟩
      have HT := Lib.hid ht
      rw [ht] at HNO HYE
      clear ht
      have hst : CutQ w4 w.heap.size (.slice A rows.length ca) (.slice (some bd) wait.length cb) (bd.add (k * 8)) r p wr := ⟨⟨x0, x1⟩, hq, HR.out.2⟩
      clear hq
      go_wp2_with fail
      clear x0 x1
      go_region_held3 (fun W => (W.cell? ⟨w.heap.size, 0, none⟩ = some (.slice A rows.length ca) ∧ W.cell? ⟨w.heap.size, 1, none⟩ = some (.slice (some bd) wait.length cb)) ∧ RPAt W (bd.add (k * 8)) r p ∧ Below w4.heap.size w4 W)
        (first | exact CutQ.drew (by assumption) | exact CutQ.step (by assumption) hb)
        (first | (go_at_call 36; refine (HOF.out r.k _ (CutQ.below (by assumption))).mono ?_; rintro x w' ⟨rfl, hb⟩) | (go_at_call 35; refine (Dep.specLessI_any (ofV M r.k) r.i _).mono ?_; rintro x w' ⟨rfl, hb⟩; rw [HT.out]))
      have hend : CutQ w4 w.heap.size (.slice A rows.length ca) (.slice (some bd) wait.length cb) (bd.add (k * 8)) r p w' := by assumption
      have HE := Lib.hid hend.2.2
      clear hend hst
      cases t
      · have HN := Lib.hid (cut_u (HNO.out rfl))
        go_wp2_with fail
        go_ret
        exact ⟨Key.ret_bool HN.out.symm, B4.out.trans (HE.out.mono B4.out.size)⟩
      · go_wp2_with fail
        go_roundw
        case rel => exact ⟨k + 1, by omega, by go_num, Lib.hid ⟨HYE.out rfl, HE.out⟩⟩
        case measure => simp [intOf]; omega
    · have HU := Lib.hid (HUA.out (fun j hj => HR.out.1 j hj (by omega)))
      go_wp2_with fail
      clear x0 x1
      refine (HPT.out HRO.out HWO.out _ HBR.out).mono ?_
      rintro e w5 ⟨g, c, pt, rfl, _, hpt, _, hb⟩
      have B5 := Lib.hid (HBR.out.trans (hb.mono HBR.out.size))
      have HEM := Lib.hid ((cut_p HC.out HL.out HF.out HU.out).trans (empty_len hpt))
      clear hb hpt
      go_wp2_with fail
      go_ret
      exact ⟨Key.ret_bool HEM.out.symm, B5.out⟩
end Go.Proofs.Ytegnjbdgeibhfaa.Rs
