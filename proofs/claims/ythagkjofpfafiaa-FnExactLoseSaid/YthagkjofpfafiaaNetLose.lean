/-
  slices.Delete at letters, impl.Lose, spec.l06Take, spec.Lose.
-/
import Derived.Test.YthagkjofpfafiaaNetDel
import Derived.Test.YthagkjofpfafiaaNetIGossip
import Derived.Test.YthagkjofpfafiaaNetSGossip
import Derived.StillTailTactics
namespace Go.Proofs.Ythagkjofpfafiaa.Net
open Go.ChangeShapes Go.WideShapes Go.ChangeAt Go.RowKit
open Sto (R Sl flat)
set_option linter.unusedVariables false
set_option maxRecDepth 100000
set_option linter.unusedSimpArgs false

set_option maxHeartbeats 2000000 in
set_option maxRecDepth 100000 in
theorem delete_any (g cap k base : Nat) (m : List Ml) (w : World) (h : w.ownsRow base 51 3 (.slice (some ⟨g, 0, none⟩) m.length cap) m.length (mv m)) (hk : k < m.length) (hm : m.length ≤ 1048576) :
    Calls Try.prog 51 #[.slice (some ⟨g, 0, none⟩) m.length cap, .int .i64 k, .int .i64 ((k : Int) + 1)] w fun e w' => e = .returned (.slice (some ⟨g, 0, none⟩) (m.length - 1) cap) ∧ w'.ownsRow base 51 3 (.slice (some ⟨g, 0, none⟩) (m.length - 1) cap) (m.length - 1) (mv (m.eraseIdx k)) ∧ w.grownBy w' (some g) := by
  obtain ⟨g', c', e, hnc, hcm, _, hbk⟩ := o_val_ne h (fun e => by cases e)
  cases e
  have HOW := Lib.hid h
  have HBK := Lib.hid hbk
  unfold maxLen at hcm
  have HCEL := Lib.hid (show ∀ j, j < (mv (m.drop (k + 1))).length → ((World.drew w).cell? ⟨g, k * 3 + j, none⟩).isSome = true from fun j hj => by
    rw [mv_len, List.length_drop] at hj
    obtain ⟨u, hu⟩ := hbk.cell (j := k * 3 + j) (by omega)
    show (w.cell? _).isSome = true
    rw [hu]; rfl)
  have HFRZ := Lib.hid (show ∀ j, j < (mv (m.drop (k + 1))).length → (World.drew w).frozen? ⟨g, k * 3 + j, none⟩ = false from fun j hj => hbk.free _)
  have HN0 := Lib.hid (show ∀ (j : Nat) (u : Value), (mv (m.drop (k + 1)))[j]? = some u → w.cell? ⟨g, (k + 1) * 3 + j, none⟩ = some u from fun j u hu => by
    refine hbk.at_ ?_
    have e1 : mv m = mv (m.take (k + 1)) ++ mv (m.drop (k + 1)) := by rw [← mv_append, List.take_append_drop]
    have e2 : (mv (m.take (k + 1))).length = (k + 1) * 3 := by rw [mv_len, List.length_take]; omega
    rw [e1, List.getElem?_append_right (by omega), e2]
    rw [show (k + 1) * 3 + j - (k + 1) * 3 = j by omega]
    exact hu)
  clear h hbk
  have HBV := Lib.hid (bk_setCells (mv (m.drop (k + 1))) (k * 3) (World.drew w) _ (show Bk (World.drew w) g 51 (cap * 3) (mv m) from HBK.out) (by rw [mv_len, mv_len, List.length_drop]; omega))
  have HE := Lib.hid (own_erase (w := World.drew w) (k := k) HOW.out hk)
  have HG := Lib.hid (Dep.grown_trans (Dep.grown_of_below (some g) (((Below.refl w.heap.size w).drew))) (Dep.grown_trans (grown_setCells (g := g) (mv (m.drop (k + 1))) (k * 3) (World.drew w)) (grown_setCells (g := g) [.int .i64 0, .int .i64 0, .slice none 0 0] ((m.length - 1) * 3) _)))
  have HC2 := Lib.hid (show ∀ j, j < 3 → (((World.drew w).setCells g (k * 3) (mv (m.drop (k + 1)))).cell? ⟨g, (m.length - 1) * 3 + j, none⟩).isSome = true from fun j hj => by
    obtain ⟨u, hu⟩ := HBV.out.cell (j := (m.length - 1) * 3 + j) (by omega)
    rw [hu]; rfl)
  have HF2 := Lib.hid (show ∀ j, j < 3 → ((World.drew w).setCells g (k * 3) (mv (m.drop (k + 1)))).frozen? ⟨g, (m.length - 1) * 3 + j, none⟩ = false from fun j hj => HBV.out.free _)
  have hkc : k ≤ cap := by omega
  have hka : (0 : Int) ≤ (k : Int) + 1 := by omega
  have hkb : (k : Int) + 1 ≤ m.length := by omega
  by_cases hcap : cap = k + 1
  · subst hcap
    have hkc2 : (k : Int) ≤ (k : Int) + 1 := by omega
    have HNEWS := Lib.hid (show ∀ (j : Nat) (u : Value), (mv (m.drop (k + 1)))[j]? = some u → (World.drew w).cell? ((⟨g, 0, none⟩ : Addr).add j) = some u from fun j u hu => by
      have := (List.getElem?_eq_some_iff.1 hu).1
      rw [mv_len, List.length_drop] at this
      omega)
    go_enter Try.func51, Try.ntmps51
    go_wp2_with fail
    refine wp_region_held_drew (S := (fun _ => True)) (by kernel_rfl) ?_ (fun hHeld => ?_)
    · trivial
    refine wpAnyH_take (i := 0) (v := ?_) rfl (by kernel_rfl) (by kernel_rfl) (by kernel_rfl) (fun _ _ _ h => h) (Or.inl ⟨by rfl, ?_⟩) hHeld ?_
    rotate_left
    · intro W hSw
      have hq := hSw
      go_simp
      try with_reducible rfl
    try simp only [Act.put, List.setIfInBounds_toArray, List.set_cons_zero, List.set_cons_succ, List.getElem_toArray, List.getElem_cons_zero]
    refine wpAnyH_take (i := 1) (v := ?_) rfl (by kernel_rfl) (by kernel_rfl) (by kernel_rfl) (fun _ _ _ h => h) (Or.inl ⟨by rfl, ?_⟩) hHeld ?_
    rotate_left
    · intro W hSw
      have hq := hSw
      go_simp
      try with_reducible rfl
    try simp only [Act.put, List.setIfInBounds_toArray, List.set_cons_zero, List.set_cons_succ, List.getElem_toArray, List.getElem_cons_succ, List.getElem_cons_zero]
    refine wpAnyH_take (i := 2) (v := ?_) rfl (by kernel_rfl) (by kernel_rfl) (by kernel_rfl) (fun _ _ _ h => h) (Or.inl ⟨by rfl, ?_⟩) hHeld ?_
    rotate_left
    · intro W hSw
      have hq := hSw
      go_simp
      try with_reducible rfl
    try simp only [Act.put, List.setIfInBounds_toArray, List.set_cons_zero, List.set_cons_succ, List.getElem_toArray, List.getElem_cons_succ, List.getElem_cons_zero]
    refine wpAnyH_take (i := 3) (v := ?_) rfl (by kernel_rfl) (by kernel_rfl) (by kernel_rfl) (fun _ _ _ h => h) (Or.inl ⟨by rfl, ?_⟩) hHeld ?_
    rotate_left
    · intro W hSw
      have hq := hSw
      go_simp
      try with_reducible rfl
    try simp only [Act.put, List.setIfInBounds_toArray, List.set_cons_zero, List.set_cons_succ, List.getElem_toArray, List.getElem_cons_succ, List.getElem_cons_zero]
    refine wpAnyH_take (i := 4) (v := ?_) rfl (by kernel_rfl) (by kernel_rfl) (by kernel_rfl) (fun _ _ _ h => h) (Or.inl ⟨by rfl, ?_⟩) hHeld ?_
    rotate_left
    · intro W hSw
      have hq := hSw
      go_simp
      try with_reducible rfl
    try simp only [Act.put, List.setIfInBounds_toArray, List.set_cons_zero, List.set_cons_succ, List.getElem_toArray, List.getElem_cons_succ, List.getElem_cons_zero]
    refine wpAnyH_take (i := 5) (v := ?_) rfl (by kernel_rfl) (by kernel_rfl) (by kernel_rfl) (fun _ _ _ h => h) (Or.inl ⟨by rfl, ?_⟩) hHeld ?_
    rotate_left
    · intro W hSw
      have hq := hSw
      go_simp
      try with_reducible rfl
    try simp only [Act.put, List.setIfInBounds_toArray, List.set_cons_zero, List.set_cons_succ, List.getElem_toArray, List.getElem_cons_succ, List.getElem_cons_zero]
    refine wpAnyH_ready (rs := [6]) (by kernel_rfl) (by simp) ?_
    refine AllReadyH.cons rfl (fun K hK => ?_) AllReadyH.nil
    refine Dep.wanted_in (by rfl) ?_
    refine wp_room fit_letters rfl (mv (m.drop (k + 1))) rfl rfl (by rw [mv_len, List.length_drop]; omega) (HNEWS.out) (mv_one _) (by omega) HCEL.out HFRZ.out ?_
    refine hK.out _ _ ?_ (fun hHeld => ?_)
    · trivial
    clear hK K
    try simp only [Act.put, List.setIfInBounds_toArray, List.set_cons_zero, List.set_cons_succ, List.getElem_toArray, List.getElem_cons_succ, List.getElem_cons_zero]
    refine wpAnyH_take (i := 7) (v := ?_) rfl (by kernel_rfl) (by kernel_rfl) (by kernel_rfl) (fun _ _ _ h => h) (Or.inl ⟨by rfl, ?_⟩) hHeld ?_
    rotate_left
    · intro W hSw
      have hq := hSw
      go_simp
      try with_reducible rfl
    try simp only [Act.put, List.setIfInBounds_toArray, List.set_cons_zero, List.set_cons_succ, List.getElem_toArray, List.getElem_cons_succ, List.getElem_cons_zero]
    refine wpAnyH_done (by kernel_rfl) ?_ _
    generalize (World.drew w).setCells g (k * 3) (mv (m.drop (k + 1))) = V at HBV HE HG HC2 HF2 ⊢
    clear hHeld hka hkb hkc
    have hmk : m.length = k + 1 := by omega
    rw [hmk] at HC2 HF2 HE HG ⊢
    simp only [Nat.add_sub_cancel, Nat.add_zero] at HC2 HF2 HE HG ⊢
    go_wp2_with (refine wpList_clear rfl rfl rfl HC2.out HF2.out ?_)
    go_ret
    rw [show m.length - 1 = k by omega]
    exact ⟨rfl, HE.out, HG.out⟩
  · have HNEWS := Lib.hid (show ∀ (j : Nat) (u : Value), (mv (m.drop (k + 1)))[j]? = some u → (World.drew w).cell? ((⟨g, (k + 1) * 3, none⟩ : Addr).add j) = some u from fun j u hu => by
      have e : (⟨g, (k + 1) * 3, none⟩ : Addr).add j = ⟨g, (k + 1) * 3 + j, none⟩ := Addr.add_lit _ _ _
      rw [e]
      exact HN0.out j u hu)
    go_enter Try.func51, Try.ntmps51
    go_wp2_with fail
    refine wp_region_held_drew (S := (fun _ => True)) (by kernel_rfl) ?_ (fun hHeld => ?_)
    · trivial
    refine wpAnyH_take (i := 0) (v := ?_) rfl (by kernel_rfl) (by kernel_rfl) (by kernel_rfl) (fun _ _ _ h => h) (Or.inl ⟨by rfl, ?_⟩) hHeld ?_
    rotate_left
    · intro W hSw
      have hq := hSw
      go_simp
      try with_reducible rfl
    try simp only [Act.put, List.setIfInBounds_toArray, List.set_cons_zero, List.set_cons_succ, List.getElem_toArray, List.getElem_cons_zero]
    refine wpAnyH_take (i := 1) (v := ?_) rfl (by kernel_rfl) (by kernel_rfl) (by kernel_rfl) (fun _ _ _ h => h) (Or.inl ⟨by rfl, ?_⟩) hHeld ?_
    rotate_left
    · intro W hSw
      have hq := hSw
      go_simp
      try with_reducible rfl
    try simp only [Act.put, List.setIfInBounds_toArray, List.set_cons_zero, List.set_cons_succ, List.getElem_toArray, List.getElem_cons_succ, List.getElem_cons_zero]
    refine wpAnyH_take (i := 2) (v := ?_) rfl (by kernel_rfl) (by kernel_rfl) (by kernel_rfl) (fun _ _ _ h => h) (Or.inl ⟨by rfl, ?_⟩) hHeld ?_
    rotate_left
    · intro W hSw
      have hq := hSw
      go_simp
      try with_reducible rfl
    try simp only [Act.put, List.setIfInBounds_toArray, List.set_cons_zero, List.set_cons_succ, List.getElem_toArray, List.getElem_cons_succ, List.getElem_cons_zero]
    refine wpAnyH_take (i := 3) (v := ?_) rfl (by kernel_rfl) (by kernel_rfl) (by kernel_rfl) (fun _ _ _ h => h) (Or.inl ⟨by rfl, ?_⟩) hHeld ?_
    rotate_left
    · intro W hSw
      have hq := hSw
      go_simp
      try with_reducible rfl
    try simp only [Act.put, List.setIfInBounds_toArray, List.set_cons_zero, List.set_cons_succ, List.getElem_toArray, List.getElem_cons_succ, List.getElem_cons_zero]
    refine wpAnyH_take (i := 4) (v := ?_) rfl (by kernel_rfl) (by kernel_rfl) (by kernel_rfl) (fun _ _ _ h => h) (Or.inl ⟨by rfl, ?_⟩) hHeld ?_
    rotate_left
    · intro W hSw
      have hq := hSw
      go_simp
      try with_reducible rfl
    try simp only [Act.put, List.setIfInBounds_toArray, List.set_cons_zero, List.set_cons_succ, List.getElem_toArray, List.getElem_cons_succ, List.getElem_cons_zero]
    refine wpAnyH_take (i := 5) (v := ?_) rfl (by kernel_rfl) (by kernel_rfl) (by kernel_rfl) (fun _ _ _ h => h) (Or.inl ⟨by rfl, ?_⟩) hHeld ?_
    rotate_left
    · intro W hSw
      have hq := hSw
      go_simp
      try with_reducible rfl
    try simp only [Act.put, List.setIfInBounds_toArray, List.set_cons_zero, List.set_cons_succ, List.getElem_toArray, List.getElem_cons_succ, List.getElem_cons_zero]
    refine wpAnyH_ready (rs := [6]) (by kernel_rfl) (by simp) ?_
    refine AllReadyH.cons rfl (fun K hK => ?_) AllReadyH.nil
    refine Dep.wanted_in (by rfl) ?_
    refine wp_room fit_letters rfl (mv (m.drop (k + 1))) rfl rfl (by rw [mv_len, List.length_drop]) (HNEWS.out) (mv_one _) (by omega) HCEL.out HFRZ.out ?_
    refine hK.out _ _ ?_ (fun hHeld => ?_)
    · trivial
    clear hK K
    try simp only [Act.put, List.setIfInBounds_toArray, List.set_cons_zero, List.set_cons_succ, List.getElem_toArray, List.getElem_cons_succ, List.getElem_cons_zero]
    refine wpAnyH_take (i := 7) (v := ?_) rfl (by kernel_rfl) (by kernel_rfl) (by kernel_rfl) (fun _ _ _ h => h) (Or.inl ⟨by rfl, ?_⟩) hHeld ?_
    rotate_left
    · intro W hSw
      have hq := hSw
      go_simp
      try with_reducible rfl
    try simp only [Act.put, List.setIfInBounds_toArray, List.set_cons_zero, List.set_cons_succ, List.getElem_toArray, List.getElem_cons_succ, List.getElem_cons_zero]
    refine wpAnyH_done (by kernel_rfl) ?_ _
    generalize (World.drew w).setCells g (k * 3) (mv (m.drop (k + 1))) = V at HBV HE HG HC2 HF2 ⊢
    clear hHeld hka hkb hkc
    have hkl : k + (m.length - (k + 1)) = m.length - 1 := by omega
    rw [hkl]
    have hl1 : m.length - (m.length - 1) = 1 := by omega
    clear hkl
    go_wp2_with (refine wpList_clear rfl rfl rfl HC2.out HF2.out ?_)
    go_ret
    exact ⟨rfl, HE.out, HG.out⟩

theorem cl_pre {w : World} {B : Nat} {A : Option Addr} {a b : List Value} (h : Cl w B A (a ++ b)) : Cl w B A a := fun h0 => by
  obtain ⟨ad, e, hb, hc⟩ := h (by rw [List.length_append]; omega)
  refine ⟨ad, e, hb, fun j u hu => hc j u ?_⟩
  rw [List.getElem?_append_left (List.getElem?_eq_some_iff.1 hu).1]; exact hu
theorem cl_suf {w : World} {B g : Nat} {a b : List Value} {k : Nat} (h : Cl w B (some ⟨g, 0, none⟩) (a ++ b)) (hk : a.length = k) : Cl w B (some ⟨g, k, none⟩) b := fun h0 => by
  obtain ⟨ad, e, hb, hc⟩ := h (by rw [List.length_append]; omega)
  cases e
  refine ⟨_, rfl, hb, fun j u hu => ?_⟩
  have := hc (k + j) u (by rw [List.getElem?_append_right (by omega), hk, Nat.add_sub_cancel_left]; exact hu)
  rw [addr0] at this
  rw [Addr.add_lit]
  exact this
theorem pm_erase (m : List Ml) (k : Nat) (hk : k < m.length) : pm (m.eraseIdx k) = (pm m).eraseIdx k := by
  rw [erase_eq m k hk, erase_eq (pm m) k (by rw [pm_len]; exact hk)]
  unfold pm
  rw [List.map_append, List.map_take, List.map_drop]
noncomputable def losP (p : List (List R) × List Pm) (i : Int) : List (List R) × List Pm := if codeM p i = 0 then (p.1, p.2.eraseIdx i.toNat) else ([], [])
theorem code_place {p : List (List R) × List Pm} {i : Int} (hc : codeM p i = 0) : netB p = true ∧ place p.2.length i = true := by
  unfold codeM at hc
  cases hr : netB p
  · rw [hr] at hc; simp at hc
  · cases hq : place p.2.length i
    · rw [hr, hq] at hc; simp at hc
    · exact ⟨rfl, rfl⟩
theorem own_some {W : World} {n : Nt} {a : Nat} (h : OwnN W n a) (hm : 0 < n.m.length) : ∃ g, n.B = some ⟨g, 0, none⟩ ∧ g < W.heap.size ∧ n.m.length ≤ n.cb ∧ n.cb ≤ maxLen := by
  rcases h.m0.2 with ⟨_, h0⟩ | ⟨g, cap, cur, e, hb, hh, hnc, hcm, _⟩
  · omega
  · injection e with e1 e2 e3
    exact ⟨g, e1, (Array.getElem?_eq_some_iff.1 hh).1, by omega, by omega⟩

set_option maxHeartbeats 4000000 in
set_option maxRecDepth 100000 in
theorem implLose_any (n : Nt) (i : Int) (w : World) (h : NLies w w.heap.size n) (hL : Little n) :
    Calls Try.prog 22 #[n.val, .int .i64 i] w fun e w' => AnsN w e w' (losP (pl n) i) (codeM (pl n) i) := by
  have hsl : n.s.length ≤ 1048576 := by have := hL.1; omega
  have hml : n.m.length ≤ 1048576 := by have := hL.1; omega
  have B0 := ((Below.refl w.heap.size w).alloc (Nat.le_refl _) (Obj.cells #[.slice n.A n.s.length n.ca, .slice n.B n.m.length n.cb] 31)).alloc (by simp) (Obj.cells #[.slice none 0 0, .slice none 0 0, .int .i64 0] 36)
  have p0 := (Blk.new w 31 #[.slice n.A n.s.length n.ca, .slice n.B n.m.length n.cb]).alloc (Obj.cells #[.slice none 0 0, .slice none 0 0, .int .i64 0] 36)
  have p1 := Blk.new (World.alloc w (Obj.cells #[.slice n.A n.s.length n.ca, .slice n.B n.m.length n.cb] 31)) 36 #[.slice none 0 0, .slice none 0 0, .int .i64 0]
  simp only [World.size_alloc] at p1
  have hz : (World.alloc (World.alloc w (Obj.cells #[.slice n.A n.s.length n.ca, .slice n.B n.m.length n.cb] 31)) (Obj.cells #[.slice none 0 0, .slice none 0 0, .int .i64 0] 36)).heap.size = w.heap.size + 2 := by simp
  have HZ := Lib.hid hz
  have HB0 := Lib.hid B0
  have HP0 := Lib.hid p0
  have HP1 := Lib.hid p1
  clear hz B0 p0 p1
  have HP2L := Lib.hid (show (pl n).2.length = n.m.length from pm_len _)
  have HMC := Lib.hid (fun W (hW : Below w.heap.size w W) => mailCode_any n i W (h.on hW) hL)
  by_cases hc : codeM (pl n) i = 0
  case neg =>
    have HGP := Lib.hid (show losP (pl n) i = ([], []) by unfold losP; rw [if_neg hc])
    rw [HGP.out]
    have hc2 : (codeM (pl n) i == 0) = false := beq_eq_false_iff_ne.2 hc
    have hc3 : (codeM (pl n) i != 0) = true := by simpa using hc
    obtain ⟨cv, hcv⟩ : ∃ cv, codeM (pl n) i = cv := ⟨_, rfl⟩
    rw [hcv] at HMC hc hc2 hc3 ⊢
    clear hcv h hL HGP
    unfold Nt.val at HMC ⊢
    go_enter Try.func22, Try.ntmps22
    go_wp2_with fail
    refine (HMC.out _ HB0.out).mono ?_
    rintro e w1 ⟨rfl, hb⟩
    have HB0 := Lib.hid (HB0.out.trans (hb.mono HB0.out.size))
    have HP0 := Lib.hid (HP0.out.on hb)
    have HP1 := Lib.hid (HP1.out.on hb)
    have HZ := Lib.hid (show w.heap.size + 2 ≤ w1.heap.size from by have := HZ.out; have := hb.size; omega)
    clear hb
    obtain ⟨q0, q1, q2⟩ := blk3 HP1.out
    have g0 := HP1.out.free 0
    have g1 := HP1.out.free 1
    have g2 := HP1.out.free 2
    go_wp2_with fail
    refine bodyPost_ret (v := .agg #[.slice none 0 0, .slice none 0 0, .int .i64 cv]) (by simp [results, Try.results22, go_sem, q0, q1, q2]) rfl ?_
    exact AnsN.ill (((HB0.out.setCell (p := ⟨w.heap.size + 1, 0, none⟩) (by show w.heap.size ≤ w.heap.size + 1; omega) _).setCell (p := ⟨w.heap.size + 1, 1, none⟩) (by show w.heap.size ≤ w.heap.size + 1; omega) _).setCell (p := ⟨w.heap.size + 1, 2, none⟩) (by show w.heap.size ≤ w.heap.size + 1; omega) _)
  obtain ⟨k, rfl, hk⟩ := place_nat (code_place hc).2
  rw [HP2L.out] at hk
  have HGP := Lib.hid (show losP (pl n) k = ((pl n).1, (pl n).2.eraseIdx k) by unfold losP; rw [if_pos hc, Int.toNat_natCast])
  rw [HGP.out, hc]
  rw [hc] at HMC
  have HCP := Lib.hid (fun W (hW : Below w.heap.size w W) => newNet_any n W (h.on hW) hL)
  clear hc h hL HGP
  unfold Nt.val at HMC HCP ⊢
  go_enter Try.func22, Try.ntmps22
  go_wp2_with fail
  refine (HMC.out _ HB0.out).mono ?_
  rintro e w1 ⟨rfl, hb⟩
  have HB0 := Lib.hid (HB0.out.trans (hb.mono HB0.out.size))
  have HP0 := Lib.hid (HP0.out.on hb)
  have HP1 := Lib.hid (HP1.out.on hb)
  have HZ := Lib.hid (show w.heap.size + 2 ≤ w1.heap.size from by have := HZ.out; have := hb.size; omega)
  clear hb
  obtain ⟨b0, b1⟩ := blk2 HP0.out
  go_wp2_with fail
  clear b0 b1
  refine (HCP.out _ HB0.out).mono ?_
  rintro e v0 ⟨n', rfl, hp, ho, hb⟩
  have HPP := Lib.hid hp
  have HO1 := Lib.hid (ho.less (show w.heap.size + 2 ≤ _ from HZ.out))
  have hnm : n'.m.length = n.m.length := by have := congrArg (fun q => q.2.length) hp; simpa [pl, pm_len] using this
  have hnl : n'.m.length ≤ 1048576 := by omega
  have HB0 := Lib.hid (HB0.out.trans (hb.mono HB0.out.size))
  have HP0 := Lib.hid (HP0.out.on hb)
  have HP1 := Lib.hid (HP1.out.on hb)
  have HZ := Lib.hid (show w.heap.size + 2 ≤ v0.heap.size from by have := HZ.out; have := hb.size; omega)
  have HNM := Lib.hid hnm
  clear hp ho hb hnm
  unfold Nt.val
  have hkm : k < n'.m.length := by have := HNM.out; omega
  obtain ⟨g, hgB, hgl, hcb, hcm⟩ := own_some HO1.out (by omega)
  obtain ⟨A1, s1, ca1, B1, m1, cb1⟩ := n'
  simp only at hgB hkm hnl hgl hcb hcm
  subst hgB
  have HDEL := Lib.hid (delete_any g cb1 k (w.heap.size + 2) m1 (World.alloc v0 (Obj.cells #[.slice A1 s1.length ca1, .slice (some ⟨g, 0, none⟩) m1.length cb1] 31)) (HO1.out.alloc (Obj.cells #[.slice A1 s1.length ca1, .slice (some ⟨g, 0, none⟩) m1.length cb1] 31)).m0 hkm hnl)
  have hki : (k : Int) + 1 ≤ 1048577 := by omega
  go_wp2_with fail
  refine HDEL.out.mono ?_
  rintro e w2 ⟨rfl, ho2, hg2⟩
  have N3 := Lib.hid ((HO1.out.alloc (Obj.cells #[.slice A1 s1.length ca1, .slice (some ⟨g, 0, none⟩) m1.length cb1] 31)).delM hg2 ho2 hkm)
  have HX3 := Lib.hid (show Blk w2 v0.heap.size 31 #[.slice A1 s1.length ca1, .slice (some ⟨g, 0, none⟩) m1.length cb1] from (hg2.block _ (Blk.new v0 31 #[.slice A1 s1.length ca1, .slice (some ⟨g, 0, none⟩) m1.length cb1]).lt (fun e => by injection e with e; omega)).trans (Blk.new v0 31 #[.slice A1 s1.length ca1, .slice (some ⟨g, 0, none⟩) m1.length cb1]))
  have Z3 := Lib.hid (show Blk w2 (w.heap.size + 1) 36 #[.slice none 0 0, .slice none 0 0, .int .i64 0] from (hg2.block _ (HP1.out.alloc (Obj.cells #[.slice A1 s1.length ca1, .slice (some ⟨g, 0, none⟩) m1.length cb1] 31)).lt (fun e => by injection e with e; have := (HO1.out.lt g rfl).1; omega)).trans (HP1.out.alloc (Obj.cells #[.slice A1 s1.length ca1, .slice (some ⟨g, 0, none⟩) m1.length cb1] 31)))
  have B3 := Lib.hid ((HB0.out.alloc HB0.out.size (Obj.cells #[.slice A1 s1.length ca1, .slice (some ⟨g, 0, none⟩) m1.length cb1] 31)).grown hg2 (by have := HB0.out.size; simp; omega) (fun q e => by cases e; have := (HO1.out.lt g rfl).1; omega))
  obtain ⟨x0, x1⟩ := blk2 HX3.out
  have xf := HX3.out.free 1
  obtain ⟨q0, q1, q2⟩ := blk3 Z3.out
  have g0 := Z3.out.free 0
  have g1 := Z3.out.free 1
  have g2 := Z3.out.free 2
  clear ho2 hg2
  go_upto_region 6 with fail
  clear x0 x1 xf q0 q1 q2 g0 g1 g2
  have HXS := Lib.hid (out_set9 HX3.out (Value.slice (some ⟨g, 0, none⟩) (m1.length - 1) cb1))
  have N4 := Lib.hid (N3.out.box HX3.out (by decide) (by decide) (by decide) 1 (Value.slice (some ⟨g, 0, none⟩) (m1.length - 1) cb1))
  have B4 := Lib.hid (B3.out.setCell (p := ⟨v0.heap.size, 1, none⟩) (by show w.heap.size ≤ v0.heap.size; have := HZ.out; omega) (Value.slice (some ⟨g, 0, none⟩) (m1.length - 1) cb1))
  have Z4 := Lib.hid (Z3.out.other (p := ⟨v0.heap.size, 1, none⟩) (by show w.heap.size + 1 ≠ v0.heap.size; have := HZ.out; omega) (Value.slice (some ⟨g, 0, none⟩) (m1.length - 1) cb1))
  generalize w2.setCell ⟨v0.heap.size, 1, none⟩ (Value.slice (some ⟨g, 0, none⟩) (m1.length - 1) cb1) = w4 at HXS N4 B4 Z4 ⊢
  obtain ⟨y0, y1⟩ := blk2 HXS.out
  obtain ⟨q0, q1, q2⟩ := blk3 Z4.out
  have g0 := Z4.out.free 0
  have g1 := Z4.out.free 1
  have g2 := Z4.out.free 2
  have he : (m1.eraseIdx k).length = m1.length - 1 := by rw [List.length_eraseIdx]; simp [hkm]
  have HE := Lib.hid he
  clear he HX3
  go_wp2_with fail
  refine bodyPost_ret (v := Nt.out ⟨A1, s1, ca1, some ⟨g, 0, none⟩, m1.eraseIdx k, cb1⟩ 0) (by simp [results, Try.results22, go_sem, Nt.out, q0, q1, q2, HE.out]) rfl ?_
  refine AnsN.own ?_ ?_ ?_
  · exact (((N4.out.box Z4.out (by decide) (by decide) (by decide) 0 _).box (Z4.out.set 0 _ rfl) (by decide) (by decide) (by decide) 1 _).box ((Z4.out.set 0 _ rfl).set 1 _ rfl) (by decide) (by decide) (by decide) 2 _).less (by omega)
  · rw [← HPP.out]; show (ps s1, pm (m1.eraseIdx k)) = _; rw [pm_erase m1 k hkm]; rfl
  · exact ((B4.out.setCell (p := ⟨w.heap.size + 1, 0, none⟩) (by show w.heap.size ≤ w.heap.size + 1; omega) _).setCell (p := ⟨w.heap.size + 1, 1, none⟩) (by show w.heap.size ≤ w.heap.size + 1; omega) _).setCell (p := ⟨w.heap.size + 1, 2, none⟩) (by show w.heap.size ≤ w.heap.size + 1; omega) _
end Go.Proofs.Ythagkjofpfafiaa.Net
