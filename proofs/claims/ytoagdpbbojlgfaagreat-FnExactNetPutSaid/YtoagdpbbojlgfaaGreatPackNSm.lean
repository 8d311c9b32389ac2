/-
  Several texts in one: NetSm, NetAnsM.
-/
import Derived.Test.YtoagdpbbojlgfaaGreatNetFew
import Derived.Test.YtoagdpbbojlgfaaGreatNetIGossip
import Derived.Test.YtoagdpbbojlgfaaGreatRowOut
/-
  How much the answers on nets hold.
-/
namespace Go.Proofs.YtoagdpbbojlgfaaGreat.Net
open Sto (R Sl)
set_option linter.unusedVariables false
set_option maxRecDepth 100000

theorem sm_nil : Sm ([], []) := ⟨by simp, by simp, fun l hl => by simp [allP] at hl⟩
theorem sm_ok {p : List (List R) × List Pm} (h : OkN p) : Sm p := ⟨by have := h.1.2; omega, by have := h.2.1; omega, fun l hl => by have := (Sto.ok_of (h.2.2.2.1 l hl)).1; omega⟩
theorem sm_add {p : List (List R) × List Pm} (h : OkN p) (y : Pm) (hy : y.l.length ≤ 400) : Sm (addP p y) := by
  refine ⟨by have := h.1.2; unfold addP; simp only; omega, by have := h.2.1; unfold addP; simp; omega, fun l hl => ?_⟩
  unfold addP allP at hl
  rw [List.map_append, ← List.append_assoc] at hl
  rcases List.mem_append.1 hl with hl | hl
  · exact (sm_ok h).2.2 l hl
  · obtain rfl : l = y.l := by simpa using hl
    exact hy
theorem getD_small {L : List (List R)} (h : ∀ l ∈ L, l.length ≤ 400) (k : Nat) : (L.getD k []).length ≤ 400 := by
  rw [List.getD]
  cases e : L[k]? with
  | none => simp
  | some l => simpa using h l (List.mem_of_getElem? e)
theorem gosP_sm (p : List (List R) × List Pm) (f t : Int) : Sm (gosP p f t) := by
  unfold gosP
  split
  · rename_i h
    have ho := okN_of h
    split
    · split
      · exact sm_nil
      · refine sm_add ho _ (getD_small (fun l hl => ?_) _)
        have := (Sto.ok_of (ho.2.2.2.1 l (List.mem_append_left _ hl))).1
        omega
    · exact sm_nil
  · exact sm_nil
theorem twiP_sm (p : List (List R) × List Pm) (i : Int) : Sm (twiP p i) := by
  unfold twiP
  split
  · rename_i h
    have ho : OkN p := by
      unfold codeM at h
      split at h
      · rename_i h2; exact okN_of h2
      · cases h
    split
    · exact sm_nil
    · refine sm_add ho _ ?_
      rw [List.getD]
      cases e : p.2[i.toNat]? with
      | none => simp
      | some y =>
        have := (Sto.ok_of (ho.2.2.2.1 y.l (List.mem_append_right _ (List.mem_map.2 ⟨y, List.mem_of_getElem? e, rfl⟩)))).1
        simp only [Option.getD_some]; omega
  · exact sm_nil
end Go.Proofs.YtoagdpbbojlgfaaGreat.Net

/-
  What NetPut, Deliver and Spread answer, as plain mathematics; where all keys fit, the keys of a part fit too.
-/
namespace Go.Proofs.YtoagdpbbojlgfaaGreat.Net
open Sto (R Sl mergeW putW findW Sorted Ok rowsB rowB mergeC mergeR putC putR)
set_option linter.unusedVariables false
set_option maxRecDepth 100000

theorem nodup_len {α : Type} [DecidableEq α] : ∀ (xs ys : List α), xs.Nodup → (∀ x ∈ xs, x ∈ ys) → xs.length ≤ ys.length
  | [], _, _, _ => Nat.zero_le _
  | x :: xs, ys, hn, hs => by
    have hx := hs x (by simp)
    have h1 := nodup_len xs (ys.erase x) (List.nodup_cons.1 hn).2 fun y hy => (List.mem_erase_of_ne (by rintro rfl; exact (List.nodup_cons.1 hn).1 hy)).2 (hs y (by simp [hy]))
    rw [List.length_erase_of_mem hx] at h1
    have h2 := List.length_pos_of_mem hx
    simp only [List.length_cons]
    omega
theorem nodup_keys {a : List R} (ha : Sorted a) : (a.map R.k).Nodup := by
  rw [List.nodup_iff_pairwise_ne, List.pairwise_map]
  exact ha.imp fun h => Dep.kl_ne h
/-- As many keys there as here, at least. -/
theorem keys_le {a b : List R} (ha : Sorted a) (h : ∀ x ∈ a, ∃ y ∈ b, y.k = x.k) : a.length ≤ b.length := by
  have := nodup_len (a.map R.k) (b.map R.k) (nodup_keys ha) fun k hk => by
    obtain ⟨x, hx, rfl⟩ := List.mem_map.1 hk
    obtain ⟨y, hy, e⟩ := h x hx
    exact List.mem_map.2 ⟨y, hy, e⟩
  simpa using this
/-- What has its keys among those of all is no longer than all merged. -/
def Among (L : List (List R)) (a : List R) : Prop := ∀ r ∈ a, ∃ l ∈ L, ∃ y ∈ l, y.k = r.k
theorem among_mem {L : List (List R)} {a : List R} (h : a ∈ L) : Among L a := fun r hr => ⟨a, h, r, hr, rfl⟩
theorem among_len {L : List (List R)} {a : List R} (hL : ∀ l ∈ L, rowsB l = true) (ha : Sorted a) (h : Among L a) : a.length ≤ (mergeAll L).length := by
  obtain ⟨_, _, hk⟩ := mergeAll_facts L fun l hl => Sto.ok_of (hL l hl)
  exact keys_le ha fun x hx => (hk x.k).2 (h x hx)
theorem merge_has {a b : List R} (ha : Sorted a) (hb : Sorted b) (q : ByteArray) : (∃ r ∈ mergeW a b, r.k = q) ↔ (∃ r ∈ a, r.k = q) ∨ ∃ r ∈ b, r.k = q := by
  rw [← find_some, (Sto.merge_facts b a ha hb).2, both_some, find_some, find_some]
theorem among_merge {L : List (List R)} {a b : List R} (ha : Sorted a) (hb : Sorted b) (ka : Among L a) (kb : Among L b) : Among L (mergeW a b) := fun r hr => by
  rcases (merge_has ha hb r.k).1 ⟨r, hr, rfl⟩ with ⟨y, hy, e⟩ | ⟨y, hy, e⟩
  · rw [← e]; exact ka y hy
  · rw [← e]; exact kb y hy
/-- Two parts of what fits are merged. -/
theorem fits_merge {L : List (List R)} (hL : ∀ l ∈ L, rowsB l = true) (h6 : (mergeAll L).length ≤ 6) {a b : List R} (ha : rowsB a = true) (hb : rowsB b = true) (ka : Among L a) (kb : Among L b) :
    mergeC a b = 0 ∧ mergeR a b = mergeW a b ∧ rowsB (mergeW a b) = true ∧ Among L (mergeW a b) := by
  have oa := Sto.ok_of ha
  have ob := Sto.ok_of hb
  have hs := (Sto.merge_facts b a oa.2.2 ob.2.2).1
  have hk := among_merge oa.2.2 ob.2.2 ka kb
  have hl := among_len hL hs hk
  have hc : mergeC a b = 0 := by
    unfold mergeC
    rw [if_neg (by have := oa.1; have := ob.1; omega), if_pos ⟨ha, hb⟩, if_neg (by omega)]
  exact ⟨hc, by unfold mergeR; rw [if_pos hc], Sto.rowsB_true ⟨by omega, Sto.good_merge oa.2.1 ob.2.1, hs⟩, hk⟩

theorem rows_nil : rowsB [] = true := Sto.rowsB_true ⟨by simp, fun r hr => absurd hr (by simp), List.Pairwise.nil⟩
/-- A beginning of what fits, merged. -/
theorem fits_all {L : List (List R)} (hL : ∀ l ∈ L, rowsB l = true) (h6 : (mergeAll L).length ≤ 6) : ∀ P : List (List R), (∀ l ∈ P, l ∈ L) → rowsB (mergeAll P) = true ∧ Among L (mergeAll P) := by
  intro P
  refine snoc_ind (p := fun P => (∀ l ∈ P, l ∈ L) → rowsB (mergeAll P) = true ∧ Among L (mergeAll P)) (fun _ => ⟨rows_nil, fun r hr => absurd hr (by simp [mergeAll])⟩) (fun P l ih h => ?_) P
  obtain ⟨i1, i2⟩ := ih fun x hx => h x (List.mem_append_left _ hx)
  have hl := h l (List.mem_append_right _ (List.mem_singleton.2 rfl))
  rw [mergeAll_snoc]
  obtain ⟨_, _, h1, h2⟩ := fits_merge hL h6 i1 (hL l hl) i2 (among_mem hl)
  exact ⟨h1, h2⟩
theorem fits_next {L : List (List R)} (hL : ∀ l ∈ L, rowsB l = true) (h6 : (mergeAll L).length ≤ 6) (P : List (List R)) (l : List R) (hP : ∀ x ∈ P, x ∈ L) (hl : l ∈ L) : mergeC (mergeAll P) l = 0 ∧ mergeR (mergeAll P) l = mergeAll (P ++ [l]) := by
  obtain ⟨i1, i2⟩ := fits_all hL h6 P hP
  obtain ⟨h0, h1, _, _⟩ := fits_merge hL h6 i1 (hL l hl) i2 (among_mem hl)
  exact ⟨h0, by rw [h1, mergeAll_snoc]⟩

/-- The answer of Deliver, its code being that of the letter's place. -/
noncomputable def delP (p : List (List R) × List Pm) (i : Int) : List (List R) × List Pm :=
  if codeM p i = 0 then (p.1.set (p.2.getD i.toNat ⟨0, 0, []⟩).t.toNat (mergeW (p.1.getD (p.2.getD i.toNat ⟨0, 0, []⟩).t.toNat []) (p.2.getD i.toNat ⟨0, 0, []⟩).l), p.2.eraseIdx i.toNat) else ([], [])
/-- The answer of Spread. -/
noncomputable def sprC (p : List (List R) × List Pm) : Int := if netB p = true then 0 else 1
noncomputable def sprP (p : List (List R) × List Pm) : List (List R) × List Pm := if netB p = true then (List.replicate p.1.length (mergeAll (allP p)), []) else ([], [])
/-- The answer of NetPut. -/
noncomputable def nputC (p : List (List R) × List Pm) (at_ : Int) (x : R) : Int :=
  if netB p = true ∧ rowB x = true then (if place p.1.length at_ = true then (if 6 < (mergeAll (allP p ++ [[x]])).length then 9 else 0) else 6) else 1
noncomputable def nputP (p : List (List R) × List Pm) (at_ : Int) (x : R) : List (List R) × List Pm :=
  if nputC p at_ x = 0 then (p.1.set at_.toNat (putW (p.1.getD at_.toNat []) x), p.2) else ([], [])

theorem okM_of {p : List (List R) × List Pm} {i : Int} (h : codeM p i = 0) : OkN p ∧ ∃ k : Nat, i = k ∧ k < p.2.length := by
  unfold codeM at h
  cases hr : netB p
  · rw [hr] at h; simp at h
  · cases hq : place p.2.length i
    · rw [hr, hq] at h; simp at h
    · obtain ⟨k, rfl, hk⟩ := place_nat hq
      exact ⟨okN_of hr, k, rfl, hk⟩
theorem sm_set {p : List (List R) × List Pm} (h : OkN p) {k : Nat} {l : List R} (hl : l.length ≤ 400) {m : List Pm} (hm : ∀ y ∈ m, y ∈ p.2) (hml : m.length ≤ 40) : Sm (p.1.set k l, m) := by
  have ho := sm_ok h
  refine ⟨by simpa using ho.1, by simp only; omega, fun x hx => ?_⟩
  unfold allP at hx
  rcases List.mem_append.1 hx with hx | hx
  · rcases List.mem_or_eq_of_mem_set hx with hx | rfl
    · exact ho.2.2 x (List.mem_append_left _ hx)
    · exact hl
  · obtain ⟨y, hy, rfl⟩ := List.mem_map.1 hx
    exact ho.2.2 y.l (List.mem_append_right _ (List.mem_map.2 ⟨y, hm y hy, rfl⟩))
theorem getD_len {L : List (List R)} (h : ∀ l ∈ L, rowsB l = true) (k : Nat) : (L.getD k []).length ≤ 6 := by
  rw [List.getD]
  cases e : L[k]? with
  | none => simp
  | some l => simpa using (Sto.ok_of (h l (List.mem_of_getElem? e))).1
theorem delP_sm (p : List (List R) × List Pm) (i : Int) : Sm (delP p i) := by
  unfold delP
  split
  · rename_i h
    obtain ⟨ho, k, rfl, hk⟩ := okM_of h
    refine sm_set ho ?_ (fun y hy => (List.eraseIdx_sublist _ _).subset hy) (Nat.le_trans (List.eraseIdx_sublist _ _).length_le ho.2.1)
    have h1 := Sto.merge_len (p.2.getD (k : Int).toNat ⟨0, 0, []⟩).l (p.1.getD (p.2.getD (k : Int).toNat ⟨0, 0, []⟩).t.toNat [])
    have h2 := getD_len (L := p.1) (fun l hl => ho.2.2.2.1 l (List.mem_append_left _ hl)) (p.2.getD (k : Int).toNat ⟨0, 0, []⟩).t.toNat
    have h3 : (p.2.getD (k : Int).toNat ⟨0, 0, []⟩).l.length ≤ 6 := by
      rw [Int.toNat_natCast, List.getD, List.getElem?_eq_getElem hk]
      exact (Sto.ok_of (ho.2.2.2.1 _ (List.mem_append_right _ (List.mem_map.2 ⟨_, List.getElem_mem hk, rfl⟩)))).1
    omega
  · exact sm_nil
theorem sprP_sm (p : List (List R) × List Pm) : Sm (sprP p) := by
  unfold sprP
  split
  · rename_i h
    have ho := okN_of h
    refine ⟨by have := ho.1.2; simp only [List.length_replicate]; omega, by simp, fun l hl => ?_⟩
    have : l = mergeAll (allP p) := by
      unfold allP at hl
      simp only [List.map_nil, List.append_nil] at hl
      exact (List.mem_replicate.1 hl).2
    have := ho.2.2.2.2
    subst l
    omega
  · exact sm_nil
theorem nputP_sm (p : List (List R) × List Pm) (at_ : Int) (x : R) : Sm (nputP p at_ x) := by
  unfold nputP
  split
  · rename_i h
    have ho : OkN p := by
      unfold nputC at h
      split at h
      · rename_i h2; exact okN_of h2.1
      · cases h
    refine sm_set ho ?_ (fun y hy => hy) ho.2.1
    have h1 := Sto.put_len (p.1.getD at_.toNat []) x
    have h2 := getD_len (L := p.1) (fun l hl => ho.2.2.2.1 l (List.mem_append_left _ hl)) at_.toNat
    omega
  · exact sm_nil
end Go.Proofs.YtoagdpbbojlgfaaGreat.Net
