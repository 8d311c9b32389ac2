/-
  The keys of what is joined, one above the other; what is joined, key by key.
-/
import Derived.Test.YthagkjofpfafiaaDepKeys
namespace Go.Proofs.Ythagkjofpfafiaa.Dep
open Go.ChangeShapes Go.WideShapes Go.ChangeAt Go.RowKit
set_option linter.unusedVariables false
set_option maxRecDepth 100000

theorem zero_max' {x : I} (h : x.right = true ∨ x = zero) : zero.max x = x := by
  rcases h with h | h
  · exact I.zero_max h
  · rw [h, I.max_idem]
theorem max_zero_iff {x y : I} (hx : x.right = true ∨ x = zero) (hy : y.right = true ∨ y = zero) (h : x.max y = zero) : x = zero ∧ y = zero := by
  rcases hx with hx | hx <;> rcases hy with hy | hy
  · exact absurd h (I.ne_zero (I.max_right hx hy))
  · rw [hy, I.max_comm, I.zero_max hx] at h; exact ⟨h, hy⟩
  · rw [hx, I.zero_max hy] at h; exact ⟨hx, h⟩
  · exact ⟨hx, hy⟩
theorem key_of_ne {l : List D} {q : ByteArray} (h : ofV l q ≠ zero) : ∃ d ∈ l, d.k = q := by
  rcases ofV_cases l q with ⟨d, hd, hk, _⟩ | ⟨_, h0⟩
  · exact ⟨d, hd, hk⟩
  · exact absurd h0 h
theorem ofV_ne {l : List D} (hs : Sorted l) (hg : Good l) {d : D} (hd : d ∈ l) : ofV l d.k ≠ zero := by
  rw [ofV_mem hs hd]; exact I.ne_zero (hg d hd).2

section
variable {a b : List D}
theorem join_key (ha : Ok a) (hb : Ok b) {d : D} (hd : d ∈ joinV a b) : ∃ x ∈ a ++ b, x.k = d.k := by
  obtain ⟨h1, h2, h3⟩ := join_facts b a ha.2.2 ha.2.1 hb.2.2 hb.2.1
  have hne := ofV_ne h1 h2 hd
  rw [h3] at hne
  by_cases e : ofV a d.k = zero
  · by_cases e2 : ofV b d.k = zero
    · rw [e, e2, I.max_idem] at hne; exact absurd rfl hne
    · obtain ⟨x, hx, hk⟩ := key_of_ne e2
      exact ⟨x, by simp [hx], hk⟩
  · obtain ⟨x, hx, hk⟩ := key_of_ne e
    exact ⟨x, by simp [hx], hk⟩
theorem join_has (ha : Ok a) (hb : Ok b) {x : D} (hx : x ∈ a ++ b) : ∃ d ∈ joinV a b, d.k = x.k := by
  obtain ⟨h1, h2, h3⟩ := join_facts b a ha.2.2 ha.2.1 hb.2.2 hb.2.1
  apply key_of_ne
  rw [h3]
  intro e
  obtain ⟨e1, e2⟩ := max_zero_iff (ofV_right ha.2.1 _) (ofV_right hb.2.1 _) e
  rcases List.mem_append.1 hx with hx | hx
  · exact ofV_ne ha.2.2 ha.2.1 hx e1
  · exact ofV_ne hb.2.2 hb.2.1 hx e2

theorem getD_map (l : List D) (i : Nat) (h : i < l.length) : (l.map D.k).getD i ⟨#[]⟩ = l[i].k := by
  simp [List.getD, h]
theorem sorted_lt {l : List D} (h : Sorted l) {i j : Nat} (hj : j < l.length) (hij : i < j) : kl (l[i]'(by omega)).k l[j].k = true :=
  List.pairwise_iff_getElem.1 h i j (by omega) hj hij

theorem chain_join (ha : Ok a) (hb : Ok b) : Chain (a ++ b) ((joinV a b).map D.k) := by
  obtain ⟨h1, h2, h3⟩ := join_facts b a ha.2.2 ha.2.1 hb.2.2 hb.2.1
  have hne : ∀ k ∈ (joinV a b).map D.k, k ≠ ⟨#[]⟩ := by
    intro k hk e
    obtain ⟨d, hd, rfl⟩ := List.mem_map.1 hk
    have := (Key.ok_of (h2 d hd).1).1
    rw [e] at this
    have h0 : (⟨#[]⟩ : ByteArray).size = 0 := rfl
    omega
  refine ⟨fun i hi => ?_, hne, ?_⟩
  · rw [List.length_map] at hi
    obtain ⟨last, hlast⟩ : ∃ last, (if i = 0 then ⟨#[]⟩ else ((joinV a b).map D.k).getD (i - 1) ⟨#[]⟩) = last := ⟨_, rfl⟩
    rw [hlast]
    -- what stands at i or beyond is above the last one; what stands ahead is not
    have above : ∀ j (hj : j < (joinV a b).length), i ≤ j → kl last (joinV a b)[j].k = true := by
      intro j hj hij
      rw [← hlast]
      by_cases e : i = 0
      · rw [if_pos e]; exact kl_empty (h2 _ (List.getElem_mem hj)).1
      · rw [if_neg e, getD_map _ _ (by omega)]; exact sorted_lt h1 hj (by omega)
    have under : ∀ j (hj : j < (joinV a b).length), j < i → kl last (joinV a b)[j].k = false := by
      intro j hj hij
      cases hc : kl last (joinV a b)[j].k
      · rfl
      · rw [← hlast, if_neg (by omega), getD_map _ _ (by omega)] at hc
        by_cases e : j = i - 1
        · subst e; exact absurd hc (kl_irrefl _)
        · exact absurd hc (kl_asymm (sorted_lt h1 (by omega) (by omega)))
    rcases above_spec last (a ++ b) with ⟨e, hn⟩ | ⟨⟨x, hx, hxe⟩, hl, hmin⟩
    · rw [e]
      by_cases hin : i < (joinV a b).length
      · obtain ⟨y, hy, hye⟩ := join_key ha hb (List.getElem_mem hin)
        have := hn y hy
        rw [hye, above i hin (Nat.le_refl _)] at this
        cases this
      · rw [List.getD, List.getElem?_eq_none (by simp; omega)]; rfl
    · obtain ⟨d, hd, hdk⟩ := join_has ha hb hx
      obtain ⟨j, hj, rfl⟩ := List.getElem_of_mem hd
      rw [← hxe, ← hdk] at hl hmin ⊢
      by_cases hji : j < i
      · rw [under j hj hji] at hl; cases hl
      · have hin : i < (joinV a b).length := by omega
        rw [getD_map _ _ hin]
        by_cases e : j = i
        · subst e; rfl
        · obtain ⟨y, hy, hye⟩ := join_key ha hb (List.getElem_mem hin)
          have := hmin y hy (by rw [hye]; exact above i hin (Nat.le_refl _))
          rw [hye, sorted_lt h1 hj (by omega)] at this
          cases this
  · rw [List.nodup_iff_pairwise_ne, List.pairwise_map]
    exact h1.imp fun h => kl_ne h
/-- The greatest Id of a key in some lists. -/
def mostV (ls : List (List D)) (k : ByteArray) : I := ls.foldl (fun m l => m.max (ofV l k)) zero
theorem most_snoc (ls : List (List D)) (l : List D) (k : ByteArray) : mostV (ls ++ [l]) k = (mostV ls k).max (ofV l k) := by
  unfold mostV; rw [List.foldl_append]; rfl
theorem join_keys (ha : Ok a) (hb : Ok b) : joinV a b = ((joinV a b).map D.k).map fun k => ⟨k, mostV [a, b] k⟩ := by
  obtain ⟨h1, h2, h3⟩ := join_facts b a ha.2.2 ha.2.1 hb.2.2 hb.2.1
  rw [List.map_map]
  have : ∀ d ∈ joinV a b, (Function.comp (fun k => (⟨k, mostV [a, b] k⟩ : D)) D.k) d = d := by
    intro d hd
    have e : mostV [a, b] d.k = d.i := by
      show (zero.max (ofV a d.k)).max (ofV b d.k) = d.i
      rw [zero_max' (ofV_right ha.2.1 _), ← h3, ofV_mem h1 hd]
    show (⟨d.k, mostV [a, b] d.k⟩ : D) = d
    rw [e]
  rw [List.map_congr_left this]
  simp
end
end Go.Proofs.Ythagkjofpfafiaa.Dep
