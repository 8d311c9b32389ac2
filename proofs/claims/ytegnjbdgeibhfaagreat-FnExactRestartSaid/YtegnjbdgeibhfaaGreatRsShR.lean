/-
  When a shim is right; ShimRight of the model and of the program.
-/
import Derived.Test.YtegnjbdgeibhfaaGreatRsShB
import Derived.Test.YtegnjbdgeibhfaaGreatRsSeen
namespace Go.Proofs.YtegnjbdgeibhfaaGreat.Rs
open Go.ChangeShapes Go.WideShapes Go.ChangeAt Go.RowKit
open Rec (R P Sound recV cellsV recB)
open Net (Cl Bk HeldV)
open Dep (D I depsB coversB covB clockB)
set_option linter.unusedVariables false
set_option maxRecDepth 100000
set_option linter.unusedSimpArgs false

noncomputable def cutC (p : List R × List R) : Bool := cutB p.1 p.2
theorem specCutC_any (n : Ct) (w : World) (h : CLies w w.heap.size n) (hf : CFine n) (hc : CCopy n) :
    Calls Tryz.prog 62 #[n.val] w fun e w' => e = .returned (.bool (cutC (pc n))) ∧ Below w.heap.size w w' := by
  obtain ⟨A, s, ca, B, m, cb⟩ := n
  obtain ⟨bd, hB⟩ := hc
  simp only at hB
  subst hB
  exact specCut_any A bd s m ca cb w h.1 h.2 hf.s hf.m (fun q hq => hf.k q (List.mem_append_left _ hq)) (fun q hq => hf.k q (List.mem_append_right _ hq))
theorem implCutC_any (n : Ct) (w : World) (h : CLies w w.heap.size n) (hf : CFine n) (hc : CCopy n) :
    Calls Tryz.prog 65 #[n.val] w fun e w' => e = .returned (.bool (cutC (pc n))) ∧ Below w.heap.size w w' := by
  obtain ⟨A, s, ca, B, m, cb⟩ := n
  obtain ⟨bd, hB⟩ := hc
  simp only at hB
  subst hB
  exact implCut_any A bd s m ca cb w h.1 h.2 hf.s hf.m (fun q hq => hf.k q (List.mem_append_left _ hq)) (fun q hq => hf.k q (List.mem_append_right _ hq))

/-- A right shim. -/
noncomputable def shB (p : PS) : Bool := Id.inB p.me 1 3 && (Id.inB p.ep 0 99 && (Id.inB p.ck 0 1000000 && (cutC p.c && (depsB p.l && (coversB (mk p.c.1) p.l && decide (clockB (mk p.c.1) ≤ p.ck))))))
theorem sh_1 {p : PS} (h : Id.inB p.me 1 3 = false) : shB p = false := by unfold shB; rw [h]; rfl
theorem sh_2 {p : PS} (h : Id.inB p.ep 0 99 = false) : shB p = false := by unfold shB; rw [h]; simp
theorem sh_3 {p : PS} (h : Id.inB p.ck 0 1000000 = false) : shB p = false := by unfold shB; rw [h]; simp
theorem sh_4 {p : PS} (h : cutC p.c = false) : shB p = false := by unfold shB; rw [h]; simp
theorem sh_5 {p : PS} (h : depsB p.l = false) : shB p = false := by unfold shB; rw [h]; simp
theorem sh_6 {p : PS} (h : coversB (mk p.c.1) p.l = false) : shB p = false := by unfold shB; rw [h]; simp
theorem sh_7 {p : PS} (h1 : Id.inB p.me 1 3 = true) (h2 : Id.inB p.ep 0 99 = true) (h3 : Id.inB p.ck 0 1000000 = true) (h4 : cutC p.c = true) (h5 : depsB p.l = true) (h6 : coversB (mk p.c.1) p.l = true) : shB p = decide (clockB (mk p.c.1) ≤ p.ck) := by
  unfold shB; rw [h1, h2, h3, h4, h5, h6]; rfl
theorem cov_fine {p : PS} (h4 : cutC p.c = true) (h : covB (mk p.c.1) p.l = false) : shB p = false := by
  have h1 := mk_ok (cut_list h4)
  unfold covB at h
  rw [h1, Bool.true_and] at h
  cases h5 : depsB p.l
  · exact sh_5 h5
  · rw [h5, Bool.true_and] at h
    exact sh_6 h
theorem cov_both {p : PS} (h : covB (mk p.c.1) p.l = true) : depsB p.l = true ∧ coversB (mk p.c.1) p.l = true := by
  unfold covB at h
  rw [Bool.and_eq_true, Bool.and_eq_true] at h
  exact ⟨h.1.2, h.2⟩
theorem mk_keys {n : Ct} (hf : CFine n) : ∀ d ∈ mk (pc n).1, d.k.size ≤ maxLen := fun d hd => by
  obtain ⟨r, hr, rfl⟩ := List.mem_map.1 hd
  obtain ⟨q, hq, rfl⟩ := List.mem_map.1 hr
  exact (hf.k q (List.mem_append_left _ hq)).1
theorem mk_short {n : Ct} (hf : CFine n) : (mk (pc n).1).length ≤ maxLen := by
  have e : (mk (pc n).1).length = n.s.length := mk_pr_len n.s
  have := hf.s
  unfold maxLen; omega

set_option maxHeartbeats 4000000 in
set_option maxRecDepth 100000 in
theorem implSh_any (s : Sh) (w : World) (h : SLies w w.heap.size s) (hf : SFine s) (hc : SCopy s) :
    Calls Tryz.prog 38 #[s.val] w fun e w' => e = .returned (.bool (shB (ps s))) ∧ Below w.heap.size w w' := by
  have B0 := Lib.hid ((Below.refl w.heap.size w).alloc (Nat.le_refl _) (Obj.cells #[Value.int IntKind.i64 s.me, Value.int IntKind.i64 s.ep, Value.int IntKind.i64 s.ck, Value.slice s.A s.l.length s.c, Value.slice s.n.A s.n.s.length s.n.ca, Value.slice s.n.B s.n.m.length s.n.cb] 64))
  have X0 := Lib.hid (Blk.new w 64 #[Value.int IntKind.i64 s.me, Value.int IntKind.i64 s.ep, Value.int IntKind.i64 s.ck, Value.slice s.A s.l.length s.c, Value.slice s.n.A s.n.s.length s.n.ca, Value.slice s.n.B s.n.m.length s.n.cb])
  have HC := Lib.hid (fun W (hW : Below w.heap.size w W) => implCutC_any s.n W (h.2.on hW) hf.n hc)
  have HSE := Lib.hid (fun W (hW : Below w.heap.size w W) => implSeenC_any s.n W (h.2.on hW) hf.n hc)
  have HCV := Lib.hid (fun A4 c4 W (hW : Below w.heap.size w W) (hL : Dep.Lies W W.heap.size A4 (mk (pc s.n).1)) => Dep.implCovers_any A4 s.A (mk (pc s.n).1) s.l c4 s.c W hL ((h.1.below hW (Nat.le_refl _)).more hW.size) (mk_short hf.n) (by have := hf.l; unfold maxLen; omega) (mk_keys hf.n) hf.k)
  have HCK := Lib.hid (fun A4 c4 W (hW : Below w.heap.size w W) (hL : Dep.Lies W W.heap.size A4 (mk (pc s.n).1)) => Dep.implClock_any A4 (mk (pc s.n).1) c4 W hL (mk_short hf.n) (mk_keys hf.n))
  clear h hf hc
  unfold Ct.val at HC HSE
  unfold Dep.slV at HCV HCK
  unfold Sh.val
  obtain ⟨x0, x1, x2, x3, x4, x5⟩ := cell6 X0.out
  go_enter Tryz.func38, Tryz.ntmps38
  go_wp2_with fail
  refine (Id.within_any s.me 1 3 _).mono ?_
  rintro e w' ⟨rfl, rfl⟩
  cases e1 : Id.inB s.me 1 3
  · have HN := Lib.hid (sh_1 (p := ps s) e1)
    clear e1
    go_wp2_with fail
    go_ret
    exact ⟨Key.ret_bool HN.out.symm, B0.out⟩
  have E1 := Lib.hid e1
  clear e1
  go_wp2_with fail
  refine (Id.within_any s.ep 0 99 _).mono ?_
  rintro e w' ⟨rfl, rfl⟩
  cases e2 : Id.inB s.ep 0 99
  · have HN := Lib.hid (sh_2 (p := ps s) e2)
    clear e2
    go_wp2_with fail
    go_ret
    exact ⟨Key.ret_bool HN.out.symm, B0.out⟩
  have E2 := Lib.hid e2
  clear e2
  go_wp2_with fail
  refine (Id.within_any s.ck 0 1000000 _).mono ?_
  rintro e w' ⟨rfl, rfl⟩
  cases e3 : Id.inB s.ck 0 1000000
  · have HN := Lib.hid (sh_3 (p := ps s) e3)
    clear e3
    go_wp2_with fail
    go_ret
    exact ⟨Key.ret_bool HN.out.symm, B0.out⟩
  have E3 := Lib.hid e3
  clear e3
  go_wp2_with fail
  clear x0 x1 x2 x3 x4 x5
  generalize World.alloc w _ = W0 at B0 X0 ⊢
  have B1 := B0
  have X1 := X0
  cases e4 : cutC (pc s.n)
  · have HN := Lib.hid (sh_4 (p := ps s) e4)
    rw [e4] at HC
    clear e4
    refine wp_region_held_drew (S := (fun W => Blk W w.heap.size 64 #[Value.int IntKind.i64 s.me, Value.int IntKind.i64 s.ep, Value.int IntKind.i64 s.ck, Value.slice s.A s.l.length s.c, Value.slice s.n.A s.n.s.length s.n.ca, Value.slice s.n.B s.n.m.length s.n.cb] ∧ Below w.heap.size w W)) (by kernel_rfl) ?_ (fun hHeld => ?_)
    · exact ⟨X1.out, B1.out.drew⟩
    refine wpAnyH_take (i := 0) (v := ?_) rfl (by kernel_rfl) (by kernel_rfl) (by kernel_rfl) (fun _ _ _ h => h) (Or.inl ⟨by rfl, ?_⟩) hHeld ?_
    rotate_left
    · intro W hSw
      obtain ⟨q1, _⟩ := hSw
      obtain ⟨hs1, hs2, hs3, hs4, hs5, hs6⟩ := cell6 q1
      go_simp
      try with_reducible rfl
    try simp only [Act.put, List.setIfInBounds_toArray, List.set_cons_zero, List.set_cons_succ, List.getElem_toArray, List.getElem_cons_zero]
    refine wpAnyH_take (i := 1) (v := ?_) rfl (by kernel_rfl) (by kernel_rfl) (by kernel_rfl) (fun _ _ _ h => h) (Or.inl ⟨by rfl, ?_⟩) hHeld ?_
    rotate_left
    · intro W hSw
      obtain ⟨q1, _⟩ := hSw
      obtain ⟨hs1, hs2, hs3, hs4, hs5, hs6⟩ := cell6 q1
      go_simp
      try with_reducible rfl
    try simp only [Act.put, List.setIfInBounds_toArray, List.set_cons_zero, List.set_cons_succ, List.getElem_toArray, List.getElem_cons_succ, List.getElem_cons_zero]
    refine wpAnyH_ready (rs := [2]) (by kernel_rfl) (by simp) ?_
    refine AllReadyH.cons rfl (fun K hK => ?_) AllReadyH.nil
    go_simp
    refine (HC.out _ hHeld.2).mono ?_
    rintro e w3 ⟨rfl, hb⟩
    refine hK.out _ _ ?_ (fun hHeld => ?_)
    · exact ⟨hHeld.1.on hb, hHeld.2.trans (hb.mono hHeld.2.size)⟩
    clear hK K
    try simp only [Act.put, List.setIfInBounds_toArray, List.set_cons_zero, List.set_cons_succ, List.getElem_toArray, List.getElem_cons_succ, List.getElem_cons_zero]
    refine wpAnyH_take (i := 3) (v := ?_) rfl (by kernel_rfl) (by kernel_rfl) (by kernel_rfl) (fun _ _ _ h => h) (Or.inl ⟨by rfl, ?_⟩) hHeld ?_
    rotate_left
    · intro W hSw
      obtain ⟨q1, _⟩ := hSw
      obtain ⟨hs1, hs2, hs3, hs4, hs5, hs6⟩ := cell6 q1
      go_simp
      try with_reducible rfl
    try simp only [Act.put, List.setIfInBounds_toArray, List.set_cons_zero, List.set_cons_succ, List.getElem_toArray, List.getElem_cons_succ, List.getElem_cons_zero]
    refine wpAnyH_take (i := 4) (v := ?_) rfl (by kernel_rfl) (by kernel_rfl) (by kernel_rfl) (fun _ _ _ h => h) (Or.inl ⟨by rfl, ?_⟩) hHeld ?_
    rotate_left
    · intro W hSw
      obtain ⟨q1, _⟩ := hSw
      obtain ⟨hs1, hs2, hs3, hs4, hs5, hs6⟩ := cell6 q1
      go_simp
      try with_reducible rfl
    try simp only [Act.put, List.setIfInBounds_toArray, List.set_cons_zero, List.set_cons_succ, List.getElem_toArray, List.getElem_cons_succ, List.getElem_cons_zero]
    refine wpAnyH_take (i := 5) (v := undef) rfl (by kernel_rfl) (by kernel_rfl) (by kernel_rfl) (fun _ _ _ h => h) (Or.inr ⟨by rfl, rfl⟩) hHeld ?_
    try simp only [Act.put, List.setIfInBounds_toArray, List.set_cons_zero, List.set_cons_succ, List.getElem_toArray, List.getElem_cons_succ, List.getElem_cons_zero]
    refine wpAnyH_take (i := 6) (v := undef) rfl (by kernel_rfl) (by kernel_rfl) (by kernel_rfl) (fun _ _ _ h => h) (Or.inr ⟨by rfl, rfl⟩) hHeld ?_
    try simp only [Act.put, List.setIfInBounds_toArray, List.set_cons_zero, List.set_cons_succ, List.getElem_toArray, List.getElem_cons_succ, List.getElem_cons_zero]
    refine wpAnyH_take (i := 8) (v := undef) rfl (by kernel_rfl) (by kernel_rfl) (by kernel_rfl) (fun _ _ _ h => h) (Or.inr ⟨by rfl, rfl⟩) hHeld ?_
    try simp only [Act.put, List.setIfInBounds_toArray, List.set_cons_zero, List.set_cons_succ, List.getElem_toArray, List.getElem_cons_succ, List.getElem_cons_zero]
    refine wpAnyH_take (i := 9) (v := undef) rfl (by kernel_rfl) (by kernel_rfl) (by kernel_rfl) (fun _ _ _ h => h) (Or.inr ⟨by rfl, rfl⟩) hHeld ?_
    try simp only [Act.put, List.setIfInBounds_toArray, List.set_cons_zero, List.set_cons_succ, List.getElem_toArray, List.getElem_cons_succ, List.getElem_cons_zero]
    refine wpAnyH_ready (rs := [7]) (by kernel_rfl) (by simp) ?_
    refine AllReadyH.cons rfl (fun K hK => ?_) AllReadyH.nil
    go_simp
    refine hK.out _ _ ?_ (fun hHeld => ?_)
    · assumption
    clear hK K
    try simp only [Act.put, List.setIfInBounds_toArray, List.set_cons_zero, List.set_cons_succ, List.getElem_toArray, List.getElem_cons_succ, List.getElem_cons_zero]
    refine wpAnyH_ready (rs := [10]) (by kernel_rfl) (by simp) ?_
    refine AllReadyH.cons rfl (fun K hK => ?_) AllReadyH.nil
    go_simp
    refine hK.out _ _ ?_ (fun hHeld => ?_)
    · assumption
    clear hK K
    try simp only [Act.put, List.setIfInBounds_toArray, List.set_cons_zero, List.set_cons_succ, List.getElem_toArray, List.getElem_cons_succ, List.getElem_cons_zero]
    refine wpAnyH_take (i := 11) (v := undef) rfl (by kernel_rfl) (by kernel_rfl) (by kernel_rfl) (fun _ _ _ h => h) (Or.inr ⟨by rfl, rfl⟩) hHeld ?_
    try simp only [Act.put, List.setIfInBounds_toArray, List.set_cons_zero, List.set_cons_succ, List.getElem_toArray, List.getElem_cons_succ, List.getElem_cons_zero]
    refine wpAnyH_take (i := 12) (v := ?_) rfl (by kernel_rfl) (by kernel_rfl) (by kernel_rfl) (fun _ _ _ h => h) (Or.inl ⟨by rfl, ?_⟩) hHeld ?_
    rotate_left
    · intro W hSw
      obtain ⟨q1, _⟩ := hSw
      obtain ⟨hs1, hs2, hs3, hs4, hs5, hs6⟩ := cell6 q1
      go_simp
      try with_reducible rfl
    try simp only [Act.put, List.setIfInBounds_toArray, List.set_cons_zero, List.set_cons_succ, List.getElem_toArray, List.getElem_cons_succ, List.getElem_cons_zero]
    refine wpAnyH_done (by kernel_rfl) ?_ _
    have B9 := Lib.hid hHeld.2
    go_wp2_with fail
    go_ret
    exact ⟨Key.ret_bool HN.out.symm, B9.out⟩
  have E4 := Lib.hid e4
  have ESE := Lib.hid (show seenC (pc s.n) = mk (pc s.n).1 from seen_yes e4)
  rw [e4] at HC
  rw [ESE.out] at HSE
  clear e4
  obtain ⟨cv, hcv⟩ : ∃ cv, covB (mk (pc s.n).1) s.l = cv := ⟨_, rfl⟩
  have HCVB := Lib.hid hcv
  rw [hcv] at HCV
  clear hcv
  obtain ⟨M, hM⟩ : ∃ M, mk (pc s.n).1 = M := ⟨_, rfl⟩
  have HMM := Lib.hid hM
  rw [hM] at HSE HCV HCK
  clear hM
  cases cv
  · have HN := Lib.hid (cov_fine (p := ps s) E4.out HCVB.out)
    refine wp_region_held_drew (S := (fun W => Blk W w.heap.size 64 #[Value.int IntKind.i64 s.me, Value.int IntKind.i64 s.ep, Value.int IntKind.i64 s.ck, Value.slice s.A s.l.length s.c, Value.slice s.n.A s.n.s.length s.n.ca, Value.slice s.n.B s.n.m.length s.n.cb] ∧ Below w.heap.size w W)) (by kernel_rfl) ?_ (fun hHeld => ?_)
    · exact ⟨X1.out, B1.out.drew⟩
    refine wpAnyH_take (i := 0) (v := ?_) rfl (by kernel_rfl) (by kernel_rfl) (by kernel_rfl) (fun _ _ _ h => h) (Or.inl ⟨by rfl, ?_⟩) hHeld ?_
    rotate_left
    · intro W hSw
      obtain ⟨q1, _⟩ := hSw
      obtain ⟨hs1, hs2, hs3, hs4, hs5, hs6⟩ := cell6 q1
      go_simp
      try with_reducible rfl
    try simp only [Act.put, List.setIfInBounds_toArray, List.set_cons_zero, List.set_cons_succ, List.getElem_toArray, List.getElem_cons_zero]
    refine wpAnyH_take (i := 1) (v := ?_) rfl (by kernel_rfl) (by kernel_rfl) (by kernel_rfl) (fun _ _ _ h => h) (Or.inl ⟨by rfl, ?_⟩) hHeld ?_
    rotate_left
    · intro W hSw
      obtain ⟨q1, _⟩ := hSw
      obtain ⟨hs1, hs2, hs3, hs4, hs5, hs6⟩ := cell6 q1
      go_simp
      try with_reducible rfl
    try simp only [Act.put, List.setIfInBounds_toArray, List.set_cons_zero, List.set_cons_succ, List.getElem_toArray, List.getElem_cons_succ, List.getElem_cons_zero]
    refine wpAnyH_ready (rs := [2]) (by kernel_rfl) (by simp) ?_
    refine AllReadyH.cons rfl (fun K hK => ?_) AllReadyH.nil
    go_simp
    refine (HC.out _ hHeld.2).mono ?_
    rintro e w3 ⟨rfl, hb⟩
    refine hK.out _ _ ?_ (fun hHeld => ?_)
    · exact ⟨hHeld.1.on hb, hHeld.2.trans (hb.mono hHeld.2.size)⟩
    clear hK K
    try simp only [Act.put, List.setIfInBounds_toArray, List.set_cons_zero, List.set_cons_succ, List.getElem_toArray, List.getElem_cons_succ, List.getElem_cons_zero]
    refine wpAnyH_take (i := 3) (v := ?_) rfl (by kernel_rfl) (by kernel_rfl) (by kernel_rfl) (fun _ _ _ h => h) (Or.inl ⟨by rfl, ?_⟩) hHeld ?_
    rotate_left
    · intro W hSw
      obtain ⟨q1, _⟩ := hSw
      obtain ⟨hs1, hs2, hs3, hs4, hs5, hs6⟩ := cell6 q1
      go_simp
      try with_reducible rfl
    try simp only [Act.put, List.setIfInBounds_toArray, List.set_cons_zero, List.set_cons_succ, List.getElem_toArray, List.getElem_cons_succ, List.getElem_cons_zero]
    refine wpAnyH_take (i := 4) (v := ?_) rfl (by kernel_rfl) (by kernel_rfl) (by kernel_rfl) (fun _ _ _ h => h) (Or.inl ⟨by rfl, ?_⟩) hHeld ?_
    rotate_left
    · intro W hSw
      obtain ⟨q1, _⟩ := hSw
      obtain ⟨hs1, hs2, hs3, hs4, hs5, hs6⟩ := cell6 q1
      go_simp
      try with_reducible rfl
    try simp only [Act.put, List.setIfInBounds_toArray, List.set_cons_zero, List.set_cons_succ, List.getElem_toArray, List.getElem_cons_succ, List.getElem_cons_zero]
    refine wpAnyH_take (i := 5) (v := ?_) rfl (by kernel_rfl) (by kernel_rfl) (by kernel_rfl) (fun _ _ _ h => h) (Or.inl ⟨by rfl, ?_⟩) hHeld ?_
    rotate_left
    · intro W hSw
      obtain ⟨q1, _⟩ := hSw
      obtain ⟨hs1, hs2, hs3, hs4, hs5, hs6⟩ := cell6 q1
      go_simp
      try with_reducible rfl
    try simp only [Act.put, List.setIfInBounds_toArray, List.set_cons_zero, List.set_cons_succ, List.getElem_toArray, List.getElem_cons_succ, List.getElem_cons_zero]
    refine wpAnyH_take (i := 6) (v := ?_) rfl (by kernel_rfl) (by kernel_rfl) (by kernel_rfl) (fun _ _ _ h => h) (Or.inl ⟨by rfl, ?_⟩) hHeld ?_
    rotate_left
    · intro W hSw
      obtain ⟨q1, _⟩ := hSw
      obtain ⟨hs1, hs2, hs3, hs4, hs5, hs6⟩ := cell6 q1
      go_simp
      try with_reducible rfl
    try simp only [Act.put, List.setIfInBounds_toArray, List.set_cons_zero, List.set_cons_succ, List.getElem_toArray, List.getElem_cons_succ, List.getElem_cons_zero]
    refine wpAnyH_take (i := 8) (v := ?_) rfl (by kernel_rfl) (by kernel_rfl) (by kernel_rfl) (fun _ _ _ h => h) (Or.inl ⟨by rfl, ?_⟩) hHeld ?_
    rotate_left
    · intro W hSw
      obtain ⟨q1, _⟩ := hSw
      obtain ⟨hs1, hs2, hs3, hs4, hs5, hs6⟩ := cell6 q1
      go_simp
      try with_reducible rfl
    try simp only [Act.put, List.setIfInBounds_toArray, List.set_cons_zero, List.set_cons_succ, List.getElem_toArray, List.getElem_cons_succ, List.getElem_cons_zero]
    refine wpAnyH_take (i := 9) (v := ?_) rfl (by kernel_rfl) (by kernel_rfl) (by kernel_rfl) (fun _ _ _ h => h) (Or.inl ⟨by rfl, ?_⟩) hHeld ?_
    rotate_left
    · intro W hSw
      obtain ⟨q1, _⟩ := hSw
      obtain ⟨hs1, hs2, hs3, hs4, hs5, hs6⟩ := cell6 q1
      go_simp
      try with_reducible rfl
    try simp only [Act.put, List.setIfInBounds_toArray, List.set_cons_zero, List.set_cons_succ, List.getElem_toArray, List.getElem_cons_succ, List.getElem_cons_zero]
    refine wpAnyH_ready (rs := [7]) (by kernel_rfl) (by simp) ?_
    refine AllReadyH.cons rfl (fun K hK => ?_) AllReadyH.nil
    go_simp
    refine (HSE.out _ hHeld.2).mono ?_
    rintro e w4 ⟨A4, c4, rfl, hh4, hb⟩
    have HS4 := Lib.hid (hh4.lies (Nat.le_refl _))
    clear hh4
    unfold Dep.slV
    refine hK.out _ _ ?_ (fun hHeld => ?_)
    · exact ⟨hHeld.1.on hb, hHeld.2.trans (hb.mono hHeld.2.size)⟩
    clear hK K
    try simp only [Act.put, List.setIfInBounds_toArray, List.set_cons_zero, List.set_cons_succ, List.getElem_toArray, List.getElem_cons_succ, List.getElem_cons_zero]
    refine wpAnyH_ready (rs := [10]) (by kernel_rfl) (by simp) ?_
    refine AllReadyH.cons rfl (fun K hK => ?_) AllReadyH.nil
    go_simp
    refine (HCV.out _ _ _ hHeld.2 HS4.out).mono ?_
    rintro e w5 ⟨rfl, hb⟩
    refine hK.out _ _ ?_ (fun hHeld => ?_)
    · exact ⟨hHeld.1.on hb, hHeld.2.trans (hb.mono hHeld.2.size)⟩
    clear hK K
    try simp only [Act.put, List.setIfInBounds_toArray, List.set_cons_zero, List.set_cons_succ, List.getElem_toArray, List.getElem_cons_succ, List.getElem_cons_zero]
    refine wpAnyH_take (i := 11) (v := ?_) rfl (by kernel_rfl) (by kernel_rfl) (by kernel_rfl) (fun _ _ _ h => h) (Or.inl ⟨by rfl, ?_⟩) hHeld ?_
    rotate_left
    · intro W hSw
      obtain ⟨q1, _⟩ := hSw
      obtain ⟨hs1, hs2, hs3, hs4, hs5, hs6⟩ := cell6 q1
      go_simp
      try with_reducible rfl
    try simp only [Act.put, List.setIfInBounds_toArray, List.set_cons_zero, List.set_cons_succ, List.getElem_toArray, List.getElem_cons_succ, List.getElem_cons_zero]
    refine wpAnyH_take (i := 12) (v := ?_) rfl (by kernel_rfl) (by kernel_rfl) (by kernel_rfl) (fun _ _ _ h => h) (Or.inl ⟨by rfl, ?_⟩) hHeld ?_
    rotate_left
    · intro W hSw
      obtain ⟨q1, _⟩ := hSw
      obtain ⟨hs1, hs2, hs3, hs4, hs5, hs6⟩ := cell6 q1
      go_simp
      try with_reducible rfl
    try simp only [Act.put, List.setIfInBounds_toArray, List.set_cons_zero, List.set_cons_succ, List.getElem_toArray, List.getElem_cons_succ, List.getElem_cons_zero]
    refine wpAnyH_done (by kernel_rfl) ?_ _
    have B9 := Lib.hid hHeld.2
    go_wp2_with fail
    go_ret
    exact ⟨Key.ret_bool HN.out.symm, B9.out⟩
  have HB := Lib.hid (cov_both (p := ps s) HCVB.out)
  have HV := Lib.hid (sh_7 (p := ps s) E1.out E2.out E3.out E4.out HB.out.1 HB.out.2)
  refine wp_region_held_drew (S := (fun W => Blk W w.heap.size 64 #[Value.int IntKind.i64 s.me, Value.int IntKind.i64 s.ep, Value.int IntKind.i64 s.ck, Value.slice s.A s.l.length s.c, Value.slice s.n.A s.n.s.length s.n.ca, Value.slice s.n.B s.n.m.length s.n.cb] ∧ Below w.heap.size w W)) (by kernel_rfl) ?_ (fun hHeld => ?_)
  · exact ⟨X1.out, B1.out.drew⟩
  refine wpAnyH_take (i := 0) (v := ?_) rfl (by kernel_rfl) (by kernel_rfl) (by kernel_rfl) (fun _ _ _ h => h) (Or.inl ⟨by rfl, ?_⟩) hHeld ?_
  rotate_left
  · intro W hSw
    obtain ⟨q1, _⟩ := hSw
    obtain ⟨hs1, hs2, hs3, hs4, hs5, hs6⟩ := cell6 q1
    go_simp
    try with_reducible rfl
  try simp only [Act.put, List.setIfInBounds_toArray, List.set_cons_zero, List.set_cons_succ, List.getElem_toArray, List.getElem_cons_zero]
  refine wpAnyH_take (i := 1) (v := ?_) rfl (by kernel_rfl) (by kernel_rfl) (by kernel_rfl) (fun _ _ _ h => h) (Or.inl ⟨by rfl, ?_⟩) hHeld ?_
  rotate_left
  · intro W hSw
    obtain ⟨q1, _⟩ := hSw
    obtain ⟨hs1, hs2, hs3, hs4, hs5, hs6⟩ := cell6 q1
    go_simp
    try with_reducible rfl
  try simp only [Act.put, List.setIfInBounds_toArray, List.set_cons_zero, List.set_cons_succ, List.getElem_toArray, List.getElem_cons_succ, List.getElem_cons_zero]
  refine wpAnyH_ready (rs := [2]) (by kernel_rfl) (by simp) ?_
  refine AllReadyH.cons rfl (fun K hK => ?_) AllReadyH.nil
  go_simp
  refine (HC.out _ hHeld.2).mono ?_
  rintro e w3 ⟨rfl, hb⟩
  refine hK.out _ _ ?_ (fun hHeld => ?_)
  · exact ⟨hHeld.1.on hb, hHeld.2.trans (hb.mono hHeld.2.size)⟩
  clear hK K
  try simp only [Act.put, List.setIfInBounds_toArray, List.set_cons_zero, List.set_cons_succ, List.getElem_toArray, List.getElem_cons_succ, List.getElem_cons_zero]
  refine wpAnyH_take (i := 3) (v := ?_) rfl (by kernel_rfl) (by kernel_rfl) (by kernel_rfl) (fun _ _ _ h => h) (Or.inl ⟨by rfl, ?_⟩) hHeld ?_
  rotate_left
  · intro W hSw
    obtain ⟨q1, _⟩ := hSw
    obtain ⟨hs1, hs2, hs3, hs4, hs5, hs6⟩ := cell6 q1
    go_simp
    try with_reducible rfl
  try simp only [Act.put, List.setIfInBounds_toArray, List.set_cons_zero, List.set_cons_succ, List.getElem_toArray, List.getElem_cons_succ, List.getElem_cons_zero]
  refine wpAnyH_take (i := 4) (v := ?_) rfl (by kernel_rfl) (by kernel_rfl) (by kernel_rfl) (fun _ _ _ h => h) (Or.inl ⟨by rfl, ?_⟩) hHeld ?_
  rotate_left
  · intro W hSw
    obtain ⟨q1, _⟩ := hSw
    obtain ⟨hs1, hs2, hs3, hs4, hs5, hs6⟩ := cell6 q1
    go_simp
    try with_reducible rfl
  try simp only [Act.put, List.setIfInBounds_toArray, List.set_cons_zero, List.set_cons_succ, List.getElem_toArray, List.getElem_cons_succ, List.getElem_cons_zero]
  refine wpAnyH_take (i := 5) (v := ?_) rfl (by kernel_rfl) (by kernel_rfl) (by kernel_rfl) (fun _ _ _ h => h) (Or.inl ⟨by rfl, ?_⟩) hHeld ?_
  rotate_left
  · intro W hSw
    obtain ⟨q1, _⟩ := hSw
    obtain ⟨hs1, hs2, hs3, hs4, hs5, hs6⟩ := cell6 q1
    go_simp
    try with_reducible rfl
  try simp only [Act.put, List.setIfInBounds_toArray, List.set_cons_zero, List.set_cons_succ, List.getElem_toArray, List.getElem_cons_succ, List.getElem_cons_zero]
  refine wpAnyH_take (i := 6) (v := ?_) rfl (by kernel_rfl) (by kernel_rfl) (by kernel_rfl) (fun _ _ _ h => h) (Or.inl ⟨by rfl, ?_⟩) hHeld ?_
  rotate_left
  · intro W hSw
    obtain ⟨q1, _⟩ := hSw
    obtain ⟨hs1, hs2, hs3, hs4, hs5, hs6⟩ := cell6 q1
    go_simp
    try with_reducible rfl
  try simp only [Act.put, List.setIfInBounds_toArray, List.set_cons_zero, List.set_cons_succ, List.getElem_toArray, List.getElem_cons_succ, List.getElem_cons_zero]
  refine wpAnyH_take (i := 8) (v := ?_) rfl (by kernel_rfl) (by kernel_rfl) (by kernel_rfl) (fun _ _ _ h => h) (Or.inl ⟨by rfl, ?_⟩) hHeld ?_
  rotate_left
  · intro W hSw
    obtain ⟨q1, _⟩ := hSw
    obtain ⟨hs1, hs2, hs3, hs4, hs5, hs6⟩ := cell6 q1
    go_simp
    try with_reducible rfl
  try simp only [Act.put, List.setIfInBounds_toArray, List.set_cons_zero, List.set_cons_succ, List.getElem_toArray, List.getElem_cons_succ, List.getElem_cons_zero]
  refine wpAnyH_take (i := 9) (v := ?_) rfl (by kernel_rfl) (by kernel_rfl) (by kernel_rfl) (fun _ _ _ h => h) (Or.inl ⟨by rfl, ?_⟩) hHeld ?_
  rotate_left
  · intro W hSw
    obtain ⟨q1, _⟩ := hSw
    obtain ⟨hs1, hs2, hs3, hs4, hs5, hs6⟩ := cell6 q1
    go_simp
    try with_reducible rfl
  try simp only [Act.put, List.setIfInBounds_toArray, List.set_cons_zero, List.set_cons_succ, List.getElem_toArray, List.getElem_cons_succ, List.getElem_cons_zero]
  refine wpAnyH_ready (rs := [7]) (by kernel_rfl) (by simp) ?_
  refine AllReadyH.cons rfl (fun K hK => ?_) AllReadyH.nil
  go_simp
  refine (HSE.out _ hHeld.2).mono ?_
  rintro e w4 ⟨A4, c4, rfl, hh4, hb⟩
  have HS4 := Lib.hid (hh4.lies (Nat.le_refl _))
  clear hh4
  unfold Dep.slV
  refine hK.out _ _ ?_ (fun hHeld => ?_)
  · exact ⟨hHeld.1.on hb, hHeld.2.trans (hb.mono hHeld.2.size)⟩
  clear hK K
  try simp only [Act.put, List.setIfInBounds_toArray, List.set_cons_zero, List.set_cons_succ, List.getElem_toArray, List.getElem_cons_succ, List.getElem_cons_zero]
  refine wpAnyH_ready (rs := [10]) (by kernel_rfl) (by simp) ?_
  refine AllReadyH.cons rfl (fun K hK => ?_) AllReadyH.nil
  go_simp
  refine (HCV.out _ _ _ hHeld.2 HS4.out).mono ?_
  rintro e w5 ⟨rfl, hb⟩
  refine hK.out _ _ ?_ (fun hHeld => ?_)
  · exact ⟨hHeld.1.on hb, hHeld.2.trans (hb.mono hHeld.2.size)⟩
  clear hK K
  try simp only [Act.put, List.setIfInBounds_toArray, List.set_cons_zero, List.set_cons_succ, List.getElem_toArray, List.getElem_cons_succ, List.getElem_cons_zero]
  refine wpAnyH_take (i := 11) (v := ?_) rfl (by kernel_rfl) (by kernel_rfl) (by kernel_rfl) (fun _ _ _ h => h) (Or.inl ⟨by rfl, ?_⟩) hHeld ?_
  rotate_left
  · intro W hSw
    obtain ⟨q1, _⟩ := hSw
    obtain ⟨hs1, hs2, hs3, hs4, hs5, hs6⟩ := cell6 q1
    go_simp
    try with_reducible rfl
  try simp only [Act.put, List.setIfInBounds_toArray, List.set_cons_zero, List.set_cons_succ, List.getElem_toArray, List.getElem_cons_succ, List.getElem_cons_zero]
  refine wpAnyH_take (i := 12) (v := ?_) rfl (by kernel_rfl) (by kernel_rfl) (by kernel_rfl) (fun _ _ _ h => h) (Or.inl ⟨by rfl, ?_⟩) hHeld ?_
  rotate_left
  · intro W hSw
    obtain ⟨q1, _⟩ := hSw
    obtain ⟨hs1, hs2, hs3, hs4, hs5, hs6⟩ := cell6 q1
    go_simp
    try with_reducible rfl
  try simp only [Act.put, List.setIfInBounds_toArray, List.set_cons_zero, List.set_cons_succ, List.getElem_toArray, List.getElem_cons_succ, List.getElem_cons_zero]
  refine wpAnyH_done (by kernel_rfl) ?_ _
  have B1 := Lib.hid hHeld.2
  have X1 := Lib.hid hHeld.1
  clear hHeld HS4
  go_wp2_with fail
  obtain ⟨ck, hck⟩ : ∃ ck, clockB M = ck := ⟨_, rfl⟩
  have HKK := Lib.hid (show clockB (mk (pc s.n).1) = ck from by rw [HMM.out]; exact hck)
  rw [hck] at HCK
  clear hck
  refine wp_region_held_drew (S := (fun W => Blk W w.heap.size 64 #[Value.int IntKind.i64 s.me, Value.int IntKind.i64 s.ep, Value.int IntKind.i64 s.ck, Value.slice s.A s.l.length s.c, Value.slice s.n.A s.n.s.length s.n.ca, Value.slice s.n.B s.n.m.length s.n.cb] ∧ Below w.heap.size w W)) (by kernel_rfl) ?_ (fun hHeld => ?_)
  · exact ⟨X1.out, B1.out.drew⟩
  refine wpAnyH_take (i := 0) (v := ?_) rfl (by kernel_rfl) (by kernel_rfl) (by kernel_rfl) (fun _ _ _ h => h) (Or.inl ⟨by rfl, ?_⟩) hHeld ?_
  rotate_left
  · intro W hSw
    obtain ⟨q1, _⟩ := hSw
    obtain ⟨hs1, hs2, hs3, hs4, hs5, hs6⟩ := cell6 q1
    go_simp
    try with_reducible rfl
  try simp only [Act.put, List.setIfInBounds_toArray, List.set_cons_zero, List.set_cons_succ, List.getElem_toArray, List.getElem_cons_zero]
  refine wpAnyH_take (i := 1) (v := ?_) rfl (by kernel_rfl) (by kernel_rfl) (by kernel_rfl) (fun _ _ _ h => h) (Or.inl ⟨by rfl, ?_⟩) hHeld ?_
  rotate_left
  · intro W hSw
    obtain ⟨q1, _⟩ := hSw
    obtain ⟨hs1, hs2, hs3, hs4, hs5, hs6⟩ := cell6 q1
    go_simp
    try with_reducible rfl
  try simp only [Act.put, List.setIfInBounds_toArray, List.set_cons_zero, List.set_cons_succ, List.getElem_toArray, List.getElem_cons_succ, List.getElem_cons_zero]
  refine wpAnyH_take (i := 4) (v := ?_) rfl (by kernel_rfl) (by kernel_rfl) (by kernel_rfl) (fun _ _ _ h => h) (Or.inl ⟨by rfl, ?_⟩) hHeld ?_
  rotate_left
  · intro W hSw
    obtain ⟨q1, _⟩ := hSw
    obtain ⟨hs1, hs2, hs3, hs4, hs5, hs6⟩ := cell6 q1
    go_simp
    try with_reducible rfl
  try simp only [Act.put, List.setIfInBounds_toArray, List.set_cons_zero, List.set_cons_succ, List.getElem_toArray, List.getElem_cons_succ, List.getElem_cons_zero]
  refine wpAnyH_take (i := 5) (v := ?_) rfl (by kernel_rfl) (by kernel_rfl) (by kernel_rfl) (fun _ _ _ h => h) (Or.inl ⟨by rfl, ?_⟩) hHeld ?_
  rotate_left
  · intro W hSw
    obtain ⟨q1, _⟩ := hSw
    obtain ⟨hs1, hs2, hs3, hs4, hs5, hs6⟩ := cell6 q1
    go_simp
    try with_reducible rfl
  try simp only [Act.put, List.setIfInBounds_toArray, List.set_cons_zero, List.set_cons_succ, List.getElem_toArray, List.getElem_cons_succ, List.getElem_cons_zero]
  refine wpAnyH_ready (rs := [2]) (by kernel_rfl) (by simp) ?_
  refine AllReadyH.cons rfl (fun K hK => ?_) AllReadyH.nil
  go_simp
  refine (HSE.out _ hHeld.2).mono ?_
  rintro e w4 ⟨A4, c4, rfl, hh4, hb⟩
  have HS4 := Lib.hid (hh4.lies (Nat.le_refl _))
  clear hh4
  unfold Dep.slV
  refine hK.out _ _ ?_ (fun hHeld => ?_)
  · exact ⟨hHeld.1.on hb, hHeld.2.trans (hb.mono hHeld.2.size)⟩
  clear hK K
  try simp only [Act.put, List.setIfInBounds_toArray, List.set_cons_zero, List.set_cons_succ, List.getElem_toArray, List.getElem_cons_succ, List.getElem_cons_zero]
  refine wpAnyH_ready (rs := [3]) (by kernel_rfl) (by simp) ?_
  refine AllReadyH.cons rfl (fun K hK => ?_) AllReadyH.nil
  go_simp
  refine (HCK.out _ _ _ hHeld.2 HS4.out).mono ?_
  rintro e w6 ⟨rfl, hb⟩
  refine hK.out _ _ ?_ (fun hHeld => ?_)
  · exact ⟨hHeld.1.on hb, hHeld.2.trans (hb.mono hHeld.2.size)⟩
  clear hK K
  try simp only [Act.put, List.setIfInBounds_toArray, List.set_cons_zero, List.set_cons_succ, List.getElem_toArray, List.getElem_cons_succ, List.getElem_cons_zero]
  refine wpAnyH_take (i := 6) (v := ?_) rfl (by kernel_rfl) (by kernel_rfl) (by kernel_rfl) (fun _ _ _ h => h) (Or.inl ⟨by rfl, ?_⟩) hHeld ?_
  rotate_left
  · intro W hSw
    obtain ⟨q1, _⟩ := hSw
    obtain ⟨hs1, hs2, hs3, hs4, hs5, hs6⟩ := cell6 q1
    go_simp
    try with_reducible rfl
  try simp only [Act.put, List.setIfInBounds_toArray, List.set_cons_zero, List.set_cons_succ, List.getElem_toArray, List.getElem_cons_succ, List.getElem_cons_zero]
  refine wpAnyH_take (i := 7) (v := ?_) rfl (by kernel_rfl) (by kernel_rfl) (by kernel_rfl) (fun _ _ _ h => h) (Or.inl ⟨by rfl, ?_⟩) hHeld ?_
  rotate_left
  · intro W hSw
    obtain ⟨q1, _⟩ := hSw
    obtain ⟨hs1, hs2, hs3, hs4, hs5, hs6⟩ := cell6 q1
    go_simp
    try with_reducible rfl
  try simp only [Act.put, List.setIfInBounds_toArray, List.set_cons_zero, List.set_cons_succ, List.getElem_toArray, List.getElem_cons_succ, List.getElem_cons_zero]
  refine wpAnyH_done (by kernel_rfl) ?_ _
  have B9 := Lib.hid hHeld.2
  go_wp2_with fail
  go_ret
  refine ⟨Key.ret_bool ?_, B9.out⟩
  rw [HV.out]
  show decide (ck ≤ s.ck) = decide (clockB (mk (pc s.n).1) ≤ s.ck)
  rw [HKK.out]

set_option maxHeartbeats 4000000 in
set_option maxRecDepth 100000 in
theorem specSh_any (s : Sh) (w : World) (h : SLies w w.heap.size s) (hf : SFine s) (hc : SCopy s) :
    Calls Tryz.prog 36 #[s.val] w fun e w' => e = .returned (.bool (shB (ps s))) ∧ Below w.heap.size w w' := by
  have B0 := Lib.hid ((Below.refl w.heap.size w).alloc (Nat.le_refl _) (Obj.cells #[Value.int IntKind.i64 s.me, Value.int IntKind.i64 s.ep, Value.int IntKind.i64 s.ck, Value.slice s.A s.l.length s.c, Value.slice s.n.A s.n.s.length s.n.ca, Value.slice s.n.B s.n.m.length s.n.cb] 64))
  have X0 := Lib.hid (Blk.new w 64 #[Value.int IntKind.i64 s.me, Value.int IntKind.i64 s.ep, Value.int IntKind.i64 s.ck, Value.slice s.A s.l.length s.c, Value.slice s.n.A s.n.s.length s.n.ca, Value.slice s.n.B s.n.m.length s.n.cb])
  have HC := Lib.hid (fun W (hW : Below w.heap.size w W) => specCutC_any s.n W (h.2.on hW) hf.n hc)
  have HDR := Lib.hid (fun W (hW : Below w.heap.size w W) => Dep.specDeps_any s.A s.l s.c W ((h.1.below hW (Nat.le_refl _)).more hW.size) (by have := hf.l; unfold maxLen; omega) hf.k)
  have HSE := Lib.hid (fun (h1 : ListOk (pr s.n.s)) W (hW : Below w.heap.size w W) => seen_any s.n.A s.n.s s.n.ca W (h.2.1.on hW) h1)
  have HCV := Lib.hid (fun A4 c4 W (hW : Below w.heap.size w W) (hL : Dep.Lies W W.heap.size A4 (mk (pc s.n).1)) => Dep.specCov_any A4 s.A (mk (pc s.n).1) s.l c4 s.c W hL ((h.1.below hW (Nat.le_refl _)).more hW.size) (mk_short hf.n) (by have := hf.l; unfold maxLen; omega))
  have HCK := Lib.hid (fun A4 c4 W (hW : Below w.heap.size w W) (hL : Dep.Lies W W.heap.size A4 (mk (pc s.n).1)) => Dep.specClock_any A4 (mk (pc s.n).1) c4 W hL (mk_short hf.n) (mk_keys hf.n))
  clear h hf hc
  unfold Ct.val at HC
  unfold Dep.slV at HCV HCK HDR
  unfold Sh.val
  obtain ⟨x0, x1, x2, x3, x4, x5⟩ := cell6 X0.out
  go_enter Tryz.func36, Tryz.ntmps36
  go_wp2_with fail
  refine (Id.is_any s.me 1 3 _).mono ?_
  rintro e w' ⟨rfl, rfl⟩
  cases e1 : Id.inB s.me 1 3
  · have HN := Lib.hid (sh_1 (p := ps s) e1)
    clear e1
    go_wp2_with fail
    go_ret
    exact ⟨Key.ret_bool HN.out.symm, B0.out⟩
  have E1 := Lib.hid e1
  clear e1
  go_wp2_with fail
  refine (Id.is_any s.ep 0 99 _).mono ?_
  rintro e w' ⟨rfl, rfl⟩
  cases e2 : Id.inB s.ep 0 99
  · have HN := Lib.hid (sh_2 (p := ps s) e2)
    clear e2
    go_wp2_with fail
    go_ret
    exact ⟨Key.ret_bool HN.out.symm, B0.out⟩
  have E2 := Lib.hid e2
  clear e2
  go_wp2_with fail
  refine (Id.is_any s.ck 0 1000000 _).mono ?_
  rintro e w' ⟨rfl, rfl⟩
  cases e3 : Id.inB s.ck 0 1000000
  · have HN := Lib.hid (sh_3 (p := ps s) e3)
    clear e3
    go_wp2_with fail
    go_ret
    exact ⟨Key.ret_bool HN.out.symm, B0.out⟩
  have E3 := Lib.hid e3
  clear e3
  go_wp2_with fail
  clear x0 x1 x2 x3 x4 x5
  generalize World.alloc w _ = W0 at B0 X0 ⊢
  refine (HC.out _ B0.out).mono ?_
  rintro e w1 ⟨rfl, hb⟩
  have B1 := Lib.hid (B0.out.trans (hb.mono B0.out.size))
  have X1 := Lib.hid (X0.out.on hb)
  clear hb HC X0
  cases e4 : cutC (pc s.n)
  · have HN := Lib.hid (sh_4 (p := ps s) e4)
    clear e4
    go_wp2_with fail
    go_ret
    exact ⟨Key.ret_bool HN.out.symm, B1.out⟩
  have E4 := Lib.hid e4
  clear e4
  obtain ⟨x0, x1, x2, x3, x4, x5⟩ := cell6 X1.out
  go_wp2_with fail
  clear x0 x1 x2 x3 x4 x5
  refine (HDR.out _ B1.out).mono ?_
  rintro e w2 ⟨rfl, hb⟩
  have B2 := Lib.hid (B1.out.trans (hb.mono B1.out.size))
  have X2 := Lib.hid (X1.out.on hb)
  clear hb HDR X1
  cases e5 : depsB s.l
  · have HN := Lib.hid (sh_5 (p := ps s) e5)
    clear e5
    go_wp2_with fail
    go_ret
    exact ⟨Key.ret_bool HN.out.symm, B2.out⟩
  have E5 := Lib.hid e5
  have HLO := Lib.hid (show ListOk (pr s.n.s) from cut_list E4.out)
  clear e5
  obtain ⟨x0, x1, x2, x3, x4, x5⟩ := cell6 X2.out
  go_wp2_with fail
  clear x0 x1 x2 x3 x4 x5
  refine (HSE.out HLO.out _ B2.out).mono ?_
  rintro e w3 ⟨v, rfl, ho, hv, hb⟩
  obtain ⟨A4, c4, rfl, hcc, hh⟩ := held_own ho
  have B1 := Lib.hid (B2.out.trans (hb.mono B2.out.size))
  have X1 := Lib.hid (X2.out.on hb)
  have hls : Dep.Lies w3 w3.heap.size A4 (mk (pc s.n).1) := hh.lies (Nat.le_refl _)
  have HS3 := Lib.hid hls
  clear hb ho hv hcc hh hls
  obtain ⟨cv, hcv⟩ : ∃ cv, coversB (mk (pc s.n).1) s.l = cv := ⟨_, rfl⟩
  have HCVB := Lib.hid hcv
  rw [hcv] at HCV
  clear hcv
  obtain ⟨M, hM⟩ : ∃ M, mk (pc s.n).1 = M := ⟨_, rfl⟩
  have HMM := Lib.hid hM
  have hM2 : mk (pr s.n.s) = M := hM
  rw [hM] at HCV HCK HS3
  rw [hM2]
  clear hM hM2
  obtain ⟨ck, hck⟩ : ∃ ck, clockB M = ck := ⟨_, rfl⟩
  have HKK := Lib.hid (show clockB (mk (pc s.n).1) = ck from by rw [HMM.out]; exact hck)
  rw [hck] at HCK
  clear hck
  unfold Dep.slV
  go_wp2_with fail
  have HS4 := Lib.hid (HS3.out.more (Nat.le_refl _))
  cases cv
  · have HN := Lib.hid (sh_6 (p := ps s) HCVB.out)
    refine wp_region_held_drew (S := (fun W => Blk W w.heap.size 64 #[Value.int IntKind.i64 s.me, Value.int IntKind.i64 s.ep, Value.int IntKind.i64 s.ck, Value.slice s.A s.l.length s.c, Value.slice s.n.A s.n.s.length s.n.ca, Value.slice s.n.B s.n.m.length s.n.cb] ∧ Below w.heap.size w W)) (by kernel_rfl) ?_ (fun hHeld => ?_)
    · exact ⟨X1.out, B1.out.drew⟩
    refine wpAnyH_take (i := 0) (v := ?_) rfl (by kernel_rfl) (by kernel_rfl) (by kernel_rfl) (fun _ _ _ h => h) (Or.inl ⟨by rfl, ?_⟩) hHeld ?_
    rotate_left
    · intro W hSw
      obtain ⟨q1, _⟩ := hSw
      obtain ⟨hs1, hs2, hs3, hs4, hs5, hs6⟩ := cell6 q1
      go_simp
      try with_reducible rfl
    try simp only [Act.put, List.setIfInBounds_toArray, List.set_cons_zero, List.set_cons_succ, List.getElem_toArray, List.getElem_cons_zero]
    refine wpAnyH_take (i := 1) (v := ?_) rfl (by kernel_rfl) (by kernel_rfl) (by kernel_rfl) (fun _ _ _ h => h) (Or.inl ⟨by rfl, ?_⟩) hHeld ?_
    rotate_left
    · intro W hSw
      obtain ⟨q1, _⟩ := hSw
      obtain ⟨hs1, hs2, hs3, hs4, hs5, hs6⟩ := cell6 q1
      go_simp
      try with_reducible rfl
    try simp only [Act.put, List.setIfInBounds_toArray, List.set_cons_zero, List.set_cons_succ, List.getElem_toArray, List.getElem_cons_succ, List.getElem_cons_zero]
    refine wpAnyH_take (i := 2) (v := ?_) rfl (by kernel_rfl) (by kernel_rfl) (by kernel_rfl) (fun _ _ _ h => h) (Or.inl ⟨by rfl, ?_⟩) hHeld ?_
    rotate_left
    · intro W hSw
      obtain ⟨q1, _⟩ := hSw
      obtain ⟨hs1, hs2, hs3, hs4, hs5, hs6⟩ := cell6 q1
      go_simp
      try with_reducible rfl
    try simp only [Act.put, List.setIfInBounds_toArray, List.set_cons_zero, List.set_cons_succ, List.getElem_toArray, List.getElem_cons_succ, List.getElem_cons_zero]
    refine wpAnyH_ready (rs := [3]) (by kernel_rfl) (by simp) ?_
    refine AllReadyH.cons rfl (fun K hK => ?_) AllReadyH.nil
    go_simp
    refine (HCV.out A4 c4 _ hHeld.2 HS3.out).mono ?_
    rintro e w5 ⟨rfl, hb⟩
    refine hK.out _ _ ?_ (fun hHeld => ?_)
    · exact ⟨hHeld.1.on hb, hHeld.2.trans (hb.mono hHeld.2.size)⟩
    clear hK K
    try simp only [Act.put, List.setIfInBounds_toArray, List.set_cons_zero, List.set_cons_succ, List.getElem_toArray, List.getElem_cons_succ, List.getElem_cons_zero]
    refine wpAnyH_take (i := 4) (v := ?_) rfl (by kernel_rfl) (by kernel_rfl) (by kernel_rfl) (fun _ _ _ h => h) (Or.inl ⟨by rfl, ?_⟩) hHeld ?_
    rotate_left
    · intro W hSw
      obtain ⟨q1, _⟩ := hSw
      obtain ⟨hs1, hs2, hs3, hs4, hs5, hs6⟩ := cell6 q1
      go_simp
      try with_reducible rfl
    try simp only [Act.put, List.setIfInBounds_toArray, List.set_cons_zero, List.set_cons_succ, List.getElem_toArray, List.getElem_cons_succ, List.getElem_cons_zero]
    refine wpAnyH_take (i := 5) (v := undef) rfl (by kernel_rfl) (by kernel_rfl) (by kernel_rfl) (fun _ _ _ h => h) (Or.inr ⟨by rfl, rfl⟩) hHeld ?_
    try simp only [Act.put, List.setIfInBounds_toArray, List.set_cons_zero, List.set_cons_succ, List.getElem_toArray, List.getElem_cons_succ, List.getElem_cons_zero]
    refine wpAnyH_take (i := 7) (v := undef) rfl (by kernel_rfl) (by kernel_rfl) (by kernel_rfl) (fun _ _ _ h => h) (Or.inr ⟨by rfl, rfl⟩) hHeld ?_
    try simp only [Act.put, List.setIfInBounds_toArray, List.set_cons_zero, List.set_cons_succ, List.getElem_toArray, List.getElem_cons_succ, List.getElem_cons_zero]
    refine wpAnyH_take (i := 8) (v := undef) rfl (by kernel_rfl) (by kernel_rfl) (by kernel_rfl) (fun _ _ _ h => h) (Or.inr ⟨by rfl, rfl⟩) hHeld ?_
    try simp only [Act.put, List.setIfInBounds_toArray, List.set_cons_zero, List.set_cons_succ, List.getElem_toArray, List.getElem_cons_succ, List.getElem_cons_zero]
    refine wpAnyH_ready (rs := [6]) (by kernel_rfl) (by simp) ?_
    refine AllReadyH.cons rfl (fun K hK => ?_) AllReadyH.nil
    go_simp
    refine hK.out _ _ ?_ (fun hHeld => ?_)
    · assumption
    clear hK K
    try simp only [Act.put, List.setIfInBounds_toArray, List.set_cons_zero, List.set_cons_succ, List.getElem_toArray, List.getElem_cons_succ, List.getElem_cons_zero]
    refine wpAnyH_take (i := 9) (v := undef) rfl (by kernel_rfl) (by kernel_rfl) (by kernel_rfl) (fun _ _ _ h => h) (Or.inr ⟨by rfl, rfl⟩) hHeld ?_
    try simp only [Act.put, List.setIfInBounds_toArray, List.set_cons_zero, List.set_cons_succ, List.getElem_toArray, List.getElem_cons_succ, List.getElem_cons_zero]
    refine wpAnyH_take (i := 10) (v := ?_) rfl (by kernel_rfl) (by kernel_rfl) (by kernel_rfl) (fun _ _ _ h => h) (Or.inl ⟨by rfl, ?_⟩) hHeld ?_
    rotate_left
    · intro W hSw
      obtain ⟨q1, _⟩ := hSw
      obtain ⟨hs1, hs2, hs3, hs4, hs5, hs6⟩ := cell6 q1
      go_simp
      try with_reducible rfl
    try simp only [Act.put, List.setIfInBounds_toArray, List.set_cons_zero, List.set_cons_succ, List.getElem_toArray, List.getElem_cons_succ, List.getElem_cons_zero]
    refine wpAnyH_take (i := 11) (v := ?_) rfl (by kernel_rfl) (by kernel_rfl) (by kernel_rfl) (fun _ _ _ h => h) (Or.inl ⟨by rfl, ?_⟩) hHeld ?_
    rotate_left
    · intro W hSw
      obtain ⟨q1, _⟩ := hSw
      obtain ⟨hs1, hs2, hs3, hs4, hs5, hs6⟩ := cell6 q1
      go_simp
      try with_reducible rfl
    try simp only [Act.put, List.setIfInBounds_toArray, List.set_cons_zero, List.set_cons_succ, List.getElem_toArray, List.getElem_cons_succ, List.getElem_cons_zero]
    refine wpAnyH_done (by kernel_rfl) ?_ _
    have B9 := Lib.hid hHeld.2
    go_wp2_with fail
    go_ret
    exact ⟨Key.ret_bool HN.out.symm, B9.out⟩
  have HV := Lib.hid (sh_7 (p := ps s) E1.out E2.out E3.out E4.out E5.out HCVB.out)
  refine wp_region_held_drew (S := (fun W => Blk W w.heap.size 64 #[Value.int IntKind.i64 s.me, Value.int IntKind.i64 s.ep, Value.int IntKind.i64 s.ck, Value.slice s.A s.l.length s.c, Value.slice s.n.A s.n.s.length s.n.ca, Value.slice s.n.B s.n.m.length s.n.cb] ∧ Below w.heap.size w W)) (by kernel_rfl) ?_ (fun hHeld => ?_)
  · exact ⟨X1.out, B1.out.drew⟩
  refine wpAnyH_take (i := 0) (v := ?_) rfl (by kernel_rfl) (by kernel_rfl) (by kernel_rfl) (fun _ _ _ h => h) (Or.inl ⟨by rfl, ?_⟩) hHeld ?_
  rotate_left
  · intro W hSw
    obtain ⟨q1, _⟩ := hSw
    obtain ⟨hs1, hs2, hs3, hs4, hs5, hs6⟩ := cell6 q1
    go_simp
    try with_reducible rfl
  try simp only [Act.put, List.setIfInBounds_toArray, List.set_cons_zero, List.set_cons_succ, List.getElem_toArray, List.getElem_cons_zero]
  refine wpAnyH_take (i := 1) (v := ?_) rfl (by kernel_rfl) (by kernel_rfl) (by kernel_rfl) (fun _ _ _ h => h) (Or.inl ⟨by rfl, ?_⟩) hHeld ?_
  rotate_left
  · intro W hSw
    obtain ⟨q1, _⟩ := hSw
    obtain ⟨hs1, hs2, hs3, hs4, hs5, hs6⟩ := cell6 q1
    go_simp
    try with_reducible rfl
  try simp only [Act.put, List.setIfInBounds_toArray, List.set_cons_zero, List.set_cons_succ, List.getElem_toArray, List.getElem_cons_succ, List.getElem_cons_zero]
  refine wpAnyH_take (i := 2) (v := ?_) rfl (by kernel_rfl) (by kernel_rfl) (by kernel_rfl) (fun _ _ _ h => h) (Or.inl ⟨by rfl, ?_⟩) hHeld ?_
  rotate_left
  · intro W hSw
    obtain ⟨q1, _⟩ := hSw
    obtain ⟨hs1, hs2, hs3, hs4, hs5, hs6⟩ := cell6 q1
    go_simp
    try with_reducible rfl
  try simp only [Act.put, List.setIfInBounds_toArray, List.set_cons_zero, List.set_cons_succ, List.getElem_toArray, List.getElem_cons_succ, List.getElem_cons_zero]
  refine wpAnyH_ready (rs := [3]) (by kernel_rfl) (by simp) ?_
  refine AllReadyH.cons rfl (fun K hK => ?_) AllReadyH.nil
  go_simp
  refine (HCV.out A4 c4 _ hHeld.2 HS3.out).mono ?_
  rintro e w5 ⟨rfl, hb⟩
  have HS5 := Lib.hid (((show Dep.Lies (World.drew w3) (World.drew w3).heap.size A4 M from HS3.out).below hb (Nat.le_refl _)).more hb.size)
  refine hK.out _ _ ?_ (fun hHeld => ?_)
  · exact ⟨hHeld.1.on hb, hHeld.2.trans (hb.mono hHeld.2.size)⟩
  clear hK K
  try simp only [Act.put, List.setIfInBounds_toArray, List.set_cons_zero, List.set_cons_succ, List.getElem_toArray, List.getElem_cons_succ, List.getElem_cons_zero]
  refine wpAnyH_take (i := 4) (v := ?_) rfl (by kernel_rfl) (by kernel_rfl) (by kernel_rfl) (fun _ _ _ h => h) (Or.inl ⟨by rfl, ?_⟩) hHeld ?_
  rotate_left
  · intro W hSw
    obtain ⟨q1, _⟩ := hSw
    obtain ⟨hs1, hs2, hs3, hs4, hs5, hs6⟩ := cell6 q1
    go_simp
    try with_reducible rfl
  try simp only [Act.put, List.setIfInBounds_toArray, List.set_cons_zero, List.set_cons_succ, List.getElem_toArray, List.getElem_cons_succ, List.getElem_cons_zero]
  refine wpAnyH_take (i := 5) (v := ?_) rfl (by kernel_rfl) (by kernel_rfl) (by kernel_rfl) (fun _ _ _ h => h) (Or.inl ⟨by rfl, ?_⟩) hHeld ?_
  rotate_left
  · intro W hSw
    obtain ⟨q1, _⟩ := hSw
    obtain ⟨hs1, hs2, hs3, hs4, hs5, hs6⟩ := cell6 q1
    go_simp
    try with_reducible rfl
  try simp only [Act.put, List.setIfInBounds_toArray, List.set_cons_zero, List.set_cons_succ, List.getElem_toArray, List.getElem_cons_succ, List.getElem_cons_zero]
  refine wpAnyH_take (i := 7) (v := ?_) rfl (by kernel_rfl) (by kernel_rfl) (by kernel_rfl) (fun _ _ _ h => h) (Or.inl ⟨by rfl, ?_⟩) hHeld ?_
  rotate_left
  · intro W hSw
    obtain ⟨q1, _⟩ := hSw
    obtain ⟨hs1, hs2, hs3, hs4, hs5, hs6⟩ := cell6 q1
    go_simp
    try with_reducible rfl
  try simp only [Act.put, List.setIfInBounds_toArray, List.set_cons_zero, List.set_cons_succ, List.getElem_toArray, List.getElem_cons_succ, List.getElem_cons_zero]
  refine wpAnyH_take (i := 8) (v := ?_) rfl (by kernel_rfl) (by kernel_rfl) (by kernel_rfl) (fun _ _ _ h => h) (Or.inl ⟨by rfl, ?_⟩) hHeld ?_
  rotate_left
  · intro W hSw
    obtain ⟨q1, _⟩ := hSw
    obtain ⟨hs1, hs2, hs3, hs4, hs5, hs6⟩ := cell6 q1
    go_simp
    try with_reducible rfl
  try simp only [Act.put, List.setIfInBounds_toArray, List.set_cons_zero, List.set_cons_succ, List.getElem_toArray, List.getElem_cons_succ, List.getElem_cons_zero]
  refine wpAnyH_ready (rs := [6]) (by kernel_rfl) (by simp) ?_
  refine AllReadyH.cons rfl (fun K hK => ?_) AllReadyH.nil
  go_simp
  refine (HCK.out A4 c4 _ hHeld.2 HS5.out).mono ?_
  rintro e w6 ⟨rfl, hb⟩
  refine hK.out _ _ ?_ (fun hHeld => ?_)
  · exact ⟨hHeld.1.on hb, hHeld.2.trans (hb.mono hHeld.2.size)⟩
  clear hK K
  try simp only [Act.put, List.setIfInBounds_toArray, List.set_cons_zero, List.set_cons_succ, List.getElem_toArray, List.getElem_cons_succ, List.getElem_cons_zero]
  refine wpAnyH_take (i := 9) (v := ?_) rfl (by kernel_rfl) (by kernel_rfl) (by kernel_rfl) (fun _ _ _ h => h) (Or.inl ⟨by rfl, ?_⟩) hHeld ?_
  rotate_left
  · intro W hSw
    obtain ⟨q1, _⟩ := hSw
    obtain ⟨hs1, hs2, hs3, hs4, hs5, hs6⟩ := cell6 q1
    go_simp
    try with_reducible rfl
  try simp only [Act.put, List.setIfInBounds_toArray, List.set_cons_zero, List.set_cons_succ, List.getElem_toArray, List.getElem_cons_succ, List.getElem_cons_zero]
  refine wpAnyH_take (i := 10) (v := ?_) rfl (by kernel_rfl) (by kernel_rfl) (by kernel_rfl) (fun _ _ _ h => h) (Or.inl ⟨by rfl, ?_⟩) hHeld ?_
  rotate_left
  · intro W hSw
    obtain ⟨q1, _⟩ := hSw
    obtain ⟨hs1, hs2, hs3, hs4, hs5, hs6⟩ := cell6 q1
    go_simp
    try with_reducible rfl
  try simp only [Act.put, List.setIfInBounds_toArray, List.set_cons_zero, List.set_cons_succ, List.getElem_toArray, List.getElem_cons_succ, List.getElem_cons_zero]
  refine wpAnyH_take (i := 11) (v := ?_) rfl (by kernel_rfl) (by kernel_rfl) (by kernel_rfl) (fun _ _ _ h => h) (Or.inl ⟨by rfl, ?_⟩) hHeld ?_
  rotate_left
  · intro W hSw
    obtain ⟨q1, _⟩ := hSw
    obtain ⟨hs1, hs2, hs3, hs4, hs5, hs6⟩ := cell6 q1
    go_simp
    try with_reducible rfl
  try simp only [Act.put, List.setIfInBounds_toArray, List.set_cons_zero, List.set_cons_succ, List.getElem_toArray, List.getElem_cons_succ, List.getElem_cons_zero]
  refine wpAnyH_done (by kernel_rfl) ?_ _
  have B9 := Lib.hid hHeld.2
  go_wp2_with fail
  go_ret
  refine ⟨Key.ret_bool ?_, B9.out⟩
  rw [HV.out]
  show decide (ck ≤ s.ck) = decide (clockB (mk (pc s.n).1) ≤ s.ck)
  rw [HKK.out]
end Go.Proofs.YtegnjbdgeibhfaaGreat.Rs
