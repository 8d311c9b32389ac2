/-
  Lacks of the model and of the program, whole.
-/
import Derived.Test.YtegnjbdgeibhfaaGreatRsLack
namespace Go.Proofs.YtegnjbdgeibhfaaGreat.Rs
open Go.ChangeShapes Go.WideShapes Go.ChangeAt Go.RowKit
open Rec (R P Sound recV cellsV recB needsR needsR_no needsR_len rec_of)
open Net (Cl Bk HeldV)
open Dep (D I depsB ofV Four)
set_option linter.unusedVariables false
set_option maxRecDepth 100000
set_option linter.unusedSimpArgs false
attribute [local go_sem] Dep.sem_pure0 Dep.sem_store0

set_option maxHeartbeats 4000000 in
set_option maxRecDepth 100000 in
theorem implLack_any (A : Option Addr) (bd : Addr) (rows wait : List Q) (ca cb : Nat) (r : R) (p : P) (w : World) (h : LRs w w.heap.size A rows) (hw : LRs w w.heap.size (some bd) wait) (hrl : rows.length ≤ 1048576) (hwl : wait.length ≤ 1048576) (hsr : ∀ q ∈ rows, Sound q.r) (hsw : ∀ q ∈ wait, Sound q.r) (hL : Rec.Lies w w.heap.size r p) (hs : Sound r) :
    Calls Tryz.prog 29 #[.agg #[.slice A rows.length ca, .slice (some bd) wait.length cb], recV r p] w fun e w' => ∃ A' c, e = .returned (Dep.slV A' (lackC (pr rows, pr wait) r) c) ∧ Dep.Held w' A' (lackC (pr rows, pr wait) r) w.heap.size w'.heap.size ∧ Below w.heap.size w w' := by
  have B0 := Lib.hid (((Below.refl w.heap.size w).alloc (Nat.le_refl _) (Obj.cells #[.slice A rows.length ca, .slice (some bd) wait.length cb] 35)).alloc (by simp) (Obj.cells (cellsV r p) 31))
  have X0 := Lib.hid ((Blk.new w 35 #[.slice A rows.length ca, .slice (some bd) wait.length cb]).alloc (Obj.cells (cellsV r p) 31))
  have y0 := Blk.new (w.alloc (Obj.cells #[.slice A rows.length ca, .slice (some bd) wait.length cb] 35)) 31 (cellsV r p)
  rw [World.size_alloc] at y0
  have Y0 := Lib.hid y0
  clear y0
  have HC := Lib.hid (fun W (hW : Below w.heap.size w W) => implCut_any A bd rows wait ca cb W (h.on hW) (hw.on hW) hrl hwl hsr hsw)
  have HM := Lib.hid (fun W (hW : Below w.heap.size w W) => recMarks_any A rows ca W (h.on hW) hrl)
  have HN := Lib.hid (fun W (hW : Below w.heap.size w W) => Rec.implNeeds_any r p W (hL.step hW (Nat.le_refl _) hW.size) hs)
  have HNL := Lib.hid (show (needsR r).length ≤ 1000000 from by have := needsR_len r; omega)
  clear h hw hsr hsw hL hs
  unfold recV at HN ⊢
  obtain ⟨x0, x1⟩ := cell2 X0.out
  go_enter Tryz.func29, Tryz.ntmps29
  go_wp2_with fail
  clear x0 x1
  generalize World.alloc (World.alloc w _) _ = W0 at B0 X0 Y0 ⊢
  refine (HC.out _ B0.out).mono ?_
  rintro e w1 ⟨rfl, hb⟩
  have B1 := Lib.hid (B0.out.trans (hb.mono B0.out.size))
  have X1 := Lib.hid (X0.out.on hb)
  have Y1 := Lib.hid (Y0.out.on hb)
  clear hb HC X0 Y0
  cases hc : cutB (pr rows) (pr wait)
  · have HZ := Lib.hid (lackC_no (p := (pr rows, pr wait)) (r := r) hc)
    clear hc
    go_wp2_with fail
    go_ret
    rw [HZ.out]
    exact ⟨none, 0, rfl, .inl ⟨rfl, rfl⟩, B1.out⟩
  · have HZ := Lib.hid (lackC_yes (p := (pr rows, pr wait)) (r := r) hc)
    have HML := Lib.hid (show (mk (pr rows)).length ≤ maxLen from by rw [mk_pr_len]; unfold maxLen; omega)
    clear hc
    obtain ⟨M, hM⟩ : ∃ M, mk (pr rows) = M := ⟨_, rfl⟩
    have HMM := Lib.hid hM
    rw [hM] at HML HZ
    clear hM
    obtain ⟨nr, hnr⟩ : ∃ n, needsR r = n := ⟨_, rfl⟩
    rw [hnr] at HN HNL HZ
    clear hnr
    unfold Rec.Gives at HN
    go_wp2_with fail
    refine wp_region_held_drew (S := (fun W => Blk W w.heap.size 35 #[.slice A rows.length ca, .slice (some bd) wait.length cb] ∧ Blk W (w.heap.size + 1) 31 (cellsV r p) ∧ Below w.heap.size w W)) (by kernel_rfl) ?_ (fun hHeld => ?_)
    · exact ⟨X1.out, Y1.out, B1.out.drew⟩
    refine wpAnyH_take (i := 0) (v := ?_) rfl (by kernel_rfl) (by kernel_rfl) (by kernel_rfl) (fun _ _ _ h => h) (Or.inl ⟨by rfl, ?_⟩) hHeld ?_
    rotate_left
    · intro W hSw
      obtain ⟨q1, q2, _⟩ := hSw
      obtain ⟨hs1, hs2⟩ := cell2 q1
      obtain ⟨hs3, hs4, hs5, hs6, hs7, hs8, hs9, hs10⟩ := Rec.cells8 q2
      go_simp
      try with_reducible rfl
    try simp only [Act.put, List.setIfInBounds_toArray, List.set_cons_zero, List.set_cons_succ, List.getElem_toArray, List.getElem_cons_zero]
    refine wpAnyH_take (i := 1) (v := ?_) rfl (by kernel_rfl) (by kernel_rfl) (by kernel_rfl) (fun _ _ _ h => h) (Or.inl ⟨by rfl, ?_⟩) hHeld ?_
    rotate_left
    · intro W hSw
      obtain ⟨q1, q2, _⟩ := hSw
      obtain ⟨hs1, hs2⟩ := cell2 q1
      obtain ⟨hs3, hs4, hs5, hs6, hs7, hs8, hs9, hs10⟩ := Rec.cells8 q2
      go_simp
      try with_reducible rfl
    try simp only [Act.put, List.setIfInBounds_toArray, List.set_cons_zero, List.set_cons_succ, List.getElem_toArray, List.getElem_cons_succ, List.getElem_cons_zero]
    refine wpAnyH_take (i := 3) (v := ?_) rfl (by kernel_rfl) (by kernel_rfl) (by kernel_rfl) (fun _ _ _ h => h) (Or.inl ⟨by rfl, ?_⟩) hHeld ?_
    rotate_left
    · intro W hSw
      obtain ⟨q1, q2, _⟩ := hSw
      obtain ⟨hs1, hs2⟩ := cell2 q1
      obtain ⟨hs3, hs4, hs5, hs6, hs7, hs8, hs9, hs10⟩ := Rec.cells8 q2
      go_simp
      try with_reducible rfl
    try simp only [Act.put, List.setIfInBounds_toArray, List.set_cons_zero, List.set_cons_succ, List.getElem_toArray, List.getElem_cons_succ, List.getElem_cons_zero]
    refine wpAnyH_ready (rs := [2]) (by kernel_rfl) (by simp) ?_
    refine AllReadyH.cons rfl (fun K hK => ?_) AllReadyH.nil
    go_simp
    refine (HM.out _ hHeld.2.2).mono ?_
    rintro e w3 ⟨A3, c3, rfl, hc3, hL3, _, hb⟩
    have HL3 := Lib.hid hL3
    rw [HMM.out] at HL3
    rw [HMM.out]
    clear hL3 hc3
    unfold Dep.slV
    refine hK.out _ _ ?_ (fun hHeld => ?_)
    · exact ⟨hHeld.1.on hb, hHeld.2.1.on hb, hHeld.2.2.trans (hb.mono hHeld.2.2.size)⟩
    clear hK K
    try simp only [Act.put, List.setIfInBounds_toArray, List.set_cons_zero, List.set_cons_succ, List.getElem_toArray, List.getElem_cons_succ, List.getElem_cons_zero]
    refine wpAnyH_ready (rs := [4]) (by kernel_rfl) (by simp) ?_
    refine AllReadyH.cons rfl (fun K hK => ?_) AllReadyH.nil
    go_simp
    refine (HN.out _ hHeld.2.2).mono ?_
    rintro e w4 ⟨A4, c4, rfl, hh4, hb⟩
    have HL4 := Lib.hid ((HL3.out.below hb (Nat.le_refl _)).more hb.size)
    have HN4 := Lib.hid (hh4.lies (Nat.le_refl _))
    clear hh4
    refine hK.out _ _ ?_ (fun hHeld => ?_)
    · exact ⟨hHeld.1.on hb, hHeld.2.1.on hb, hHeld.2.2.trans (hb.mono hHeld.2.2.size)⟩
    clear hK K
    try simp only [Act.put, List.setIfInBounds_toArray, List.set_cons_zero, List.set_cons_succ, List.getElem_toArray, List.getElem_cons_succ, List.getElem_cons_zero]
    refine wpAnyH_ready (rs := [5]) (by kernel_rfl) (by simp) ?_
    refine AllReadyH.cons rfl (fun K hK => ?_) AllReadyH.nil
    go_simp
    refine (lacked_any A3 A4 M nr c3 c4 _ HL4.out HN4.out HML.out HNL.out).mono ?_
    rintro e w5 ⟨A5, c5, rfl, hh5, hb⟩
    have H5 := Lib.hid (hh5.wide (lo' := w.heap.size) hHeld.2.2.size (Nat.le_refl _))
    clear hh5
    unfold Dep.slV
    refine hK.out _ _ ?_ (fun hHeld => ?_)
    · exact ⟨hHeld.1.on hb, hHeld.2.1.on hb, hHeld.2.2.trans (hb.mono hHeld.2.2.size)⟩
    clear hK K
    try simp only [Act.put, List.setIfInBounds_toArray, List.set_cons_zero, List.set_cons_succ, List.getElem_toArray, List.getElem_cons_succ, List.getElem_cons_zero]
    refine wpAnyH_take (i := 6) (v := ?_) rfl (by kernel_rfl) (by kernel_rfl) (by kernel_rfl) (fun _ _ _ h => h) (Or.inl ⟨by rfl, ?_⟩) hHeld ?_
    rotate_left
    · intro W hSw
      obtain ⟨q1, q2, _⟩ := hSw
      obtain ⟨hs1, hs2⟩ := cell2 q1
      obtain ⟨hs3, hs4, hs5, hs6, hs7, hs8, hs9, hs10⟩ := Rec.cells8 q2
      go_simp
      try with_reducible rfl
    try simp only [Act.put, List.setIfInBounds_toArray, List.set_cons_zero, List.set_cons_succ, List.getElem_toArray, List.getElem_cons_succ, List.getElem_cons_zero]
    refine wpAnyH_done (by kernel_rfl) ?_ _
    go_wp2_with fail
    have B9 := Lib.hid hHeld.2.2
    go_ret
    rw [HZ.out]
    exact ⟨A5, c5, rfl, H5.out, B9.out⟩

/-- A dep's place; nothing below is written, nor what was there. -/
abbrev AtTwo (w w1 : World) (a : Addr) (d : D) (W : World) : Prop := Dep.At W a d ∧ Below w.heap.size w W ∧ Below w1.heap.size w1 W
theorem AtTwo.step {w w1 W W' : World} {a : Addr} {d : D} (h : AtTwo w w1 a d W) (hb : Below W.heap.size W W') : AtTwo w w1 a d W' :=
  ⟨⟨Lib.Below.cellOf hb h.1.1 (Nat.le_refl _), Lib.Below.cellOf hb h.1.2.1 (Nat.le_refl _), Lib.Below.cellOf hb h.1.2.2.1 (Nat.le_refl _), Lib.Below.cellOf hb h.1.2.2.2 (Nat.le_refl _)⟩, h.2.1.trans (hb.mono h.2.1.size), h.2.2.trans (hb.mono h.2.2.size)⟩
theorem AtTwo.drew {w w1 W : World} {a : Addr} {d : D} (h : AtTwo w w1 a d W) : AtTwo w w1 a d W.drew := ⟨h.1, h.2.1.drew, h.2.2.drew⟩
theorem AtTwo.below {w w1 W : World} {a : Addr} {d : D} (h : AtTwo w w1 a d W) : Below w.heap.size w W := h.2.1
set_option maxHeartbeats 4000000 in
set_option maxRecDepth 100000 in
theorem specLack_any (A : Option Addr) (bd : Addr) (rows wait : List Q) (ca cb : Nat) (r : R) (p : P) (w : World) (h : LRs w w.heap.size A rows) (hw : LRs w w.heap.size (some bd) wait) (hrl : rows.length ≤ 1048576) (hwl : wait.length ≤ 1048576) (hsr : ∀ q ∈ rows, Sound q.r) (hsw : ∀ q ∈ wait, Sound q.r) (hL : Rec.Lies w w.heap.size r p) (hs : Sound r) :
    Calls Tryz.prog 27 #[.agg #[.slice A rows.length ca, .slice (some bd) wait.length cb], recV r p] w fun e w' => ∃ A' c, e = .returned (Dep.slV A' (lackC (pr rows, pr wait) r) c) ∧ Dep.Held w' A' (lackC (pr rows, pr wait) r) w.heap.size w'.heap.size ∧ Below w.heap.size w w' := by
  have B0 := Lib.hid (((Below.refl w.heap.size w).alloc (Nat.le_refl _) (Obj.cells #[.slice A rows.length ca, .slice (some bd) wait.length cb] 35)).alloc (by simp) (Obj.cells (cellsV r p) 31))
  have X0 := Lib.hid ((Blk.new w 35 #[.slice A rows.length ca, .slice (some bd) wait.length cb]).alloc (Obj.cells (cellsV r p) 31))
  have y0 := Blk.new (w.alloc (Obj.cells #[.slice A rows.length ca, .slice (some bd) wait.length cb] 35)) 31 (cellsV r p)
  rw [World.size_alloc] at y0
  have Y0 := Lib.hid y0
  clear y0
  have z0 := Dep.own_none ((w.alloc (Obj.cells #[.slice A rows.length ca, .slice (some bd) wait.length cb] 35)).alloc (Obj.cells (cellsV r p) 31))
  simp only [World.size_alloc] at z0
  have HO0 := Lib.hid (o_less z0 (base' := w.heap.size) (by omega))
  have HH0 := Lib.hid (show Dep.Held (((w.alloc (Obj.cells #[.slice A rows.length ca, .slice (some bd) wait.length cb] 35)).alloc (Obj.cells (cellsV r p) 31)).alloc (Obj.cells #[] 103)) (some ⟨w.heap.size + 1 + 1, 0, none⟩) [] w.heap.size (w.heap.size + 1 + 1 + 1) from by
    have := held_empty ((w.alloc (Obj.cells #[.slice A rows.length ca, .slice (some bd) wait.length cb] 35)).alloc (Obj.cells (cellsV r p) 31))
    simp only [World.size_alloc] at this
    exact this.wide (by omega) (Nat.le_refl _))
  clear z0
  have B0 := Lib.hid (B0.out.alloc B0.out.size (Obj.cells #[] 103))
  have X0 := Lib.hid (X0.out.alloc (Obj.cells #[] 103))
  have Y0 := Lib.hid (Y0.out.alloc (Obj.cells #[] 103))
  have HC := Lib.hid (fun W (hW : Below w.heap.size w W) => specCut_any A bd rows wait ca cb W (h.on hW) (hw.on hW) hrl hwl hsr hsw)
  have HRR := Lib.hid (fun W (hW : Below w.heap.size w W) => Rec.specRec_any r p W (hL.step hW (Nat.le_refl _) hW.size) hs)
  have HN := Lib.hid (fun (c1 : r.l.length ≤ 400) (c2 : r.b.length ≤ 400) W (hW : Below w.heap.size w W) => Rec.specNeeds0_any r p W (hL.step hW (Nat.le_refl _) hW.size) c1 c2)
  have HSE := Lib.hid (fun (h1 : ListOk (pr rows)) W (hW : Below w.heap.size w W) => seen_any A rows ca W (h.on hW) h1)
  clear h hw hsr hsw hL hs
  unfold recV at HRR HN ⊢
  obtain ⟨x0, x1⟩ := cell2 X0.out
  go_enter Tryz.func27, Tryz.ntmps27
  go_wp2_with fail
  clear x0 x1
  have hzz : w.heap.size + 1 + 1 + 1 = (((w.alloc (Obj.cells #[.slice A rows.length ca, .slice (some bd) wait.length cb] 35)).alloc (Obj.cells (cellsV r p) 31)).alloc (Obj.cells #[] 103)).heap.size := by simp
  have HZZ := Lib.hid hzz
  clear hzz
  generalize World.alloc (World.alloc (World.alloc w _) _) _ = W0 at B0 X0 Y0 HO0 HH0 HZZ ⊢
  refine (HC.out _ B0.out).mono ?_
  rintro e w1 ⟨rfl, hb⟩
  have B1 := Lib.hid (B0.out.trans (hb.mono B0.out.size))
  have X1 := Lib.hid (X0.out.on hb)
  have Y1 := Lib.hid (Y0.out.on hb)
  have HO1 := Lib.hid (o_step HO0.out hb (Nat.le_refl _))
  have HH1 := Lib.hid ((HH0.out.step hb (.inr (Nat.le_refl _))).wide (Nat.le_refl _) (show w.heap.size + 1 + 1 + 1 ≤ w1.heap.size by have := hb.size; have := HZZ.out; omega))
  have HWZ1 := Lib.hid (show w.heap.size + 3 ≤ w1.heap.size from by have := hb.size; have := HZZ.out; omega)
  clear hb HC X0 Y0 HO0 HH0
  cases hc : cutB (pr rows) (pr wait)
  · have HZ := Lib.hid (lackC_no (p := (pr rows, pr wait)) (r := r) hc)
    clear hc
    go_wp2_with fail
    go_ret
    rw [HZ.out]
    exact ⟨some ⟨w.heap.size + 1 + 1, 0, none⟩, 0, rfl, HH1.out, B1.out⟩
  have HZ := Lib.hid (lackC_yes (p := (pr rows, pr wait)) (r := r) hc)
  have HRO := Lib.hid (cut_list hc)
  clear hc
  obtain ⟨x0, x1, x2, x3, x4, x5, x6, x7⟩ := Rec.cells8 Y1.out
  go_wp2_with fail
  clear x0 x1 x2 x3 x4 x5 x6 x7
  refine (HRR.out _ B1.out).mono ?_
  rintro e w2 ⟨rfl, hb⟩
  have B2 := Lib.hid (B1.out.trans (hb.mono B1.out.size))
  have X2 := Lib.hid (X1.out.on hb)
  have Y2 := Lib.hid (Y1.out.on hb)
  have HO2 := Lib.hid (o_step HO1.out hb (Nat.le_refl _))
  have HH2 := Lib.hid ((HH1.out.step hb (.inr (Nat.le_refl _))).wide (Nat.le_refl _) hb.size)
  have HWZ2 := Lib.hid (show w.heap.size + 3 ≤ w2.heap.size from Nat.le_trans HWZ1.out hb.size)
  clear hb HRR X1 Y1 HO1 HH1
  cases hr : recB r
  · have HBD := Lib.hid (lackC_bad (p := (pr rows, pr wait)) hr)
    clear hr
    go_wp2_with fail
    go_ret
    rw [HBD.out]
    exact ⟨some ⟨w.heap.size + 1 + 1, 0, none⟩, 0, rfl, HH2.out, B2.out⟩
  have hro := rec_of hr
  have HRF := Lib.hid (show r.l.length ≤ 400 ∧ r.b.length ≤ 400 from ⟨by have := (Dep.ok_of hro.2.2.2.2.1).1; omega, by have := (Rec.keys_of hro.2.2.2.2.2.1).1; omega⟩)
  have HNE := Lib.hid (Rec.needsR_ok hro)
  have HNL := Lib.hid (needsR_len r)
  clear hr hro HH2
  obtain ⟨x0, x1, x2, x3, x4, x5, x6, x7⟩ := Rec.cells8 Y2.out
  go_wp2_with fail
  clear x0 x1 x2 x3 x4 x5 x6 x7
  refine (HN.out HRF.out.1 HRF.out.2 _ B2.out).mono ?_
  rintro e w3 ⟨v3, rfl, ho3, hv3, hb⟩
  rw [← HNE.out] at ho3
  obtain ⟨_, ad3, c3, rfl, hc31, hc32, hL3⟩ := Dep.own_addr ho3 hv3
  have HL3 := Lib.hid (Dep.Held.of_own ho3)
  have HW2Z := Lib.hid (show w.heap.size + 3 ≤ w2.heap.size from HWZ2.out)
  have HW3Z := Lib.hid (show w.heap.size + 3 ≤ w3.heap.size from Nat.le_trans HWZ2.out hb.size)
  have B3 := Lib.hid (B2.out.trans (hb.mono B2.out.size))
  have X3 := Lib.hid (X2.out.on hb)
  have HO3 := Lib.hid (o_step HO2.out hb (Nat.le_refl _))
  clear hb HN X2 Y2 HO2 ho3 hv3 hL3 hc31 hc32
  obtain ⟨nr, hnr⟩ : ∃ n, needsR r = n := ⟨_, rfl⟩
  rw [hnr] at HL3 HNL HZ ⊢
  clear hnr HNE
  unfold Dep.slV
  obtain ⟨x0, x1⟩ := cell2 X3.out
  go_wp2_with fail
  clear x0 x1
  refine (HSE.out HRO.out _ B3.out).mono ?_
  rintro e w4 ⟨v4, rfl, ho4, hv4, hb⟩
  obtain ⟨_, ad4, c4, rfl, hc41, hc42, hL4⟩ := Dep.own_addr ho4 hv4
  have HL4 := Lib.hid ((Dep.Held.of_own ho4).wide (lo' := w.heap.size + 3) HW3Z.out (Nat.le_refl _))
  have HL34 := Lib.hid ((HL3.out.step hb (.inr (Nat.le_refl _))).wide (lo' := w.heap.size + 3) HW2Z.out hb.size)
  have B4 := Lib.hid (B3.out.trans (hb.mono B3.out.size))
  have HO4 := Lib.hid (o_step HO3.out hb (Nat.le_refl _))
  have HML := Lib.hid (show (mk (pr rows)).length ≤ maxLen from by rw [mk_len]; have := HRO.out.1; unfold maxLen; omega)
  clear hb HSE X3 HO3 ho4 hv4 hL4 hc41 hc42 HL3
  obtain ⟨M, hM⟩ : ∃ M, mk (pr rows) = M := ⟨_, rfl⟩
  rw [hM] at HL4 HML HZ ⊢
  clear hM
  have HOF := Lib.hid (fun (q : ByteArray) W (hW : Dep.Lies W W.heap.size (some ad4) M) => Dep.specOf_any (some ad4) M c4 q W hW HML.out)
  unfold Dep.slV at HOF ⊢
  have hn6 := HNL.out
  go_wp2_with fail
  go_loopw [5, 8] (fun o i wr => ∃ k : Nat, k ≤ nr.length ∧ i = .int .i64 k ∧ Hid (wr.ownsRow w.heap.size 103 4 o (lackV M (nr.take k)).length (Dep.flat (lackV M (nr.take k))) ∧ Below w.heap.size w wr ∧ (∀ g, o.ownBlock = some g → g = w.heap.size + 1 + 1 ∨ w4.heap.size ≤ g) ∧ Dep.Held wr (some ad3) nr (w.heap.size + 3) w4.heap.size ∧ Dep.Held wr (some ad4) M (w.heap.size + 3) w4.heap.size ∧ w4.heap.size ≤ wr.heap.size)) (fun _ i _ => nr.length - (intOf i).toNat)
  case atStart => exact ⟨0, by omega, rfl, Lib.hid ⟨HO4.out, B4.out, fun g e => .inl (by cases e; rfl), HL34.out, HL4.out, Nat.le_refl _⟩⟩
  case round =>
    obtain ⟨k, hk, rfl, HR⟩ := hrel
    by_cases hlt : k < nr.length
    · obtain ⟨hr1, hr2, hr3, hr4, hr5, hr6⟩ := HR.out
      obtain ⟨_, e0, _, hat⟩ := (hr4.lies hr6).at_ hlt
      cases e0
      have HY := Lib.hid (fun ht => lack_yes (M := M) hlt ht)
      have HN := Lib.hid (fun ht => lack_no (M := M) hlt ht)
      have HU := Lib.hid (lack_len M (nr.take k))
      obtain ⟨y, hy⟩ : ∃ y, nr[k] = y := ⟨_, rfl⟩
      rw [hy] at hat HY HN
      clear hy
      obtain ⟨t, ht⟩ : ∃ t, (ofV M y.k).less y.i = t := ⟨_, rfl⟩
      have HT := Lib.hid ht
      rw [ht] at HY HN
      clear ht
      have HMW := Lib.hid (fun W (hW : Below wr.heap.size wr W) => (hr5.step hW (.inr (Nat.le_refl _))).lies (Nat.le_trans hr6 hW.size))
      have hst : AtTwo w wr (ad3.add (k * 4)) y wr := ⟨hat, hr2, Below.refl _ _⟩
      clear hat hr1 hr2 hr3 hr4 hr5 hr6
      go_wp2_with fail
      go_region_held3 (fun W => Dep.At W (ad3.add (k * 4)) y ∧ Below w.heap.size w W ∧ Below wr.heap.size wr W)
        (first | exact AtTwo.drew (by assumption) | exact AtTwo.step (by assumption) hb)
        (first | (go_at_call 81; refine (HOF.out y.k _ (HMW.out _ (And.right (And.right (by assumption))))).mono ?_; rintro x w' ⟨rfl, hb⟩) | (go_at_call 80; refine (Dep.specLessI_any (ofV M y.k) y.i _).mono ?_; rintro x w' ⟨rfl, hb⟩; rw [HT.out]))
      have hend : AtTwo w wr (ad3.add (k * 4)) y w' := by assumption
      have HE := Lib.hid hend.2.1
      have HE2 := Lib.hid hend.2.2
      have HO2 := Lib.hid (o_step HR.out.1 hend.2.2 (Nat.le_refl _))
      have HD3 := Lib.hid (HR.out.2.2.2.1.step hend.2.2 (.inr (Nat.le_refl _)))
      have HD4 := Lib.hid (HR.out.2.2.2.2.1.step hend.2.2 (.inr (Nat.le_refl _)))
      have HZ6 := Lib.hid (Nat.le_trans HR.out.2.2.2.2.2 hend.2.2.size)
      cases t
      · have e4 := HN.out rfl
        clear hend hst
        go_wp2_with fail
        go_roundw
        case rel => exact ⟨k + 1, by omega, by go_num, Lib.hid ⟨by rw [e4]; exact HO2.out, HE.out, HR.out.2.2.1, HD3.out, HD4.out, HZ6.out⟩⟩
        case measure => simp [intOf]; omega
      · have HY4 := Lib.hid (HY.out rfl)
        obtain ⟨x0, x1, x2, x3⟩ := hend.1
        clear hend hst
        go_wp2_with (at_builtin; refine wpList_app5 fit_deps rfl rfl rfl (Dep.flat [y]) rfl rfl (Dep.own_alloc HO2.out y.obj) (dep_cells w' y) rfl (Dep.flat_one _) (by have := HU.out; rw [List.length_take] at this; omega) (by have := HE.out.size; simp; omega) ?_; intro v2 W2 ho2 hg2 hq2; have hBg := (HE.out.alloc HE.out.size y.obj).grown hg2 (by have := HE.out.size; simp; omega) (o_base HO2.out); have B2' := Lib.hid hBg; have hk2 : ∀ g, v2.ownBlock = some g → g = w.heap.size + 1 + 1 ∨ w4.heap.size ≤ g := (fun g e => by rcases hq2 with h | h; exact HR.out.2.2.1 g (h ▸ e); exact .inr (by rw [h] at e; injection e with e; have := HZ6.out; simp at e; omega)); have HK2 := Lib.hid hk2; have hkk : ∀ g, w.heap.size + 3 ≤ g → g < w4.heap.size → W2.heap[g]? = w'.heap[g]? := (fun g h1 h2 => (hg2.block g (by have := HZ6.out; simp; omega) (fun e => by have := HR.out.2.2.1 g e.symm; omega)).trans (heap_alloc_old w' _ (by have := HZ6.out; omega))); have HD3' := Lib.hid (HD3.out.keep fun g h1 h2 _ => hkk g h1 h2); have HD4' := Lib.hid (HD4.out.keep fun g h1 h2 _ => hkk g h1 h2); have HZ7 := Lib.hid (show w4.heap.size ≤ W2.heap.size from by have := hg2.size; have := HZ6.out; simp at *; omega); rw [← Dep.flat_append, ← HY4.out] at ho2; have O2 := Lib.hid ho2; clear ho2 hg2 hBg hq2 hk2 hkk)
        go_roundw
        case rel =>
          refine ⟨k + 1, by omega, by go_num, Lib.hid ⟨?_, B2'.out, HK2.out, HD3'.out, HD4'.out, HZ7.out⟩⟩
          have e5 : (lackV M (nr.take k)).length + 1 = (lackV M (nr.take (k + 1))).length := by rw [HY4.out]; simp
          rw [← e5]
          exact O2.out
        case measure => simp [intOf]; omega
    · have e3 : nr.take k = nr := List.take_of_length_le (by omega)
      rw [e3] at HR
      clear e3
      go_wp2_with fail
      go_ret
      obtain ⟨A', c, ev, hc, hh⟩ := held_own HR.out.1
      rw [HZ.out]
      exact ⟨A', c, congrArg Ending.returned ev, hh, HR.out.2.1⟩

theorem specLackC_any (n : Ct) (r : R) (p : P) (w : World) (h : CLies w w.heap.size n) (hf : CFine n) (hc : CCopy n) (hL : Rec.Lies w w.heap.size r p) (hs : Sound r) :
    Calls Tryz.prog 27 #[n.val, recV r p] w fun e w' => ∃ A' c, e = .returned (Dep.slV A' (lackC (pc n) r) c) ∧ Dep.Held w' A' (lackC (pc n) r) w.heap.size w'.heap.size ∧ Below w.heap.size w w' := by
  obtain ⟨A, s, ca, B, m, cb⟩ := n
  obtain ⟨bd, hB⟩ := hc
  simp only at hB
  subst hB
  exact specLack_any A bd s m ca cb r p w h.1 h.2 hf.s hf.m (fun q hq => hf.k q (List.mem_append_left _ hq)) (fun q hq => hf.k q (List.mem_append_right _ hq)) hL hs
theorem implLackC_any (n : Ct) (r : R) (p : P) (w : World) (h : CLies w w.heap.size n) (hf : CFine n) (hc : CCopy n) (hL : Rec.Lies w w.heap.size r p) (hs : Sound r) :
    Calls Tryz.prog 29 #[n.val, recV r p] w fun e w' => ∃ A' c, e = .returned (Dep.slV A' (lackC (pc n) r) c) ∧ Dep.Held w' A' (lackC (pc n) r) w.heap.size w'.heap.size ∧ Below w.heap.size w w' := by
  obtain ⟨A, s, ca, B, m, cb⟩ := n
  obtain ⟨bd, hB⟩ := hc
  simp only at hB
  subst hB
  exact implLack_any A bd s m ca cb r p w h.1 h.2 hf.s hf.m (fun q hq => hf.k q (List.mem_append_left _ hq)) (fun q hq => hf.k q (List.mem_append_right _ hq)) hL hs
theorem kR_pr {a b : List Q} (h : pr a = pr b) : kR a = kR b := by
  have e : ∀ l : List Q, kR l = ((pr l).map fun r => 6 + 4 * r.l.length + r.b.length).sum := fun l => by unfold kR pr; rw [List.map_map]; rfl
  rw [e, e, h]
theorem kC_same {n n' : Ct} (h : pc n' = pc n) : kC n' = kC n := by
  unfold pc at h
  injection h with e1 e2
  unfold kC
  rw [kR_pr e1, kR_pr e2]
theorem kC_bound (n : Ct) : kC n ≤ 6 * (n.s.length + tot n.s + (n.m.length + tot n.m)) := by
  have h1 := kR_le n.s
  have h2 := kR_le n.m
  unfold kC
  omega
end Go.Proofs.YtegnjbdgeibhfaaGreat.Rs
