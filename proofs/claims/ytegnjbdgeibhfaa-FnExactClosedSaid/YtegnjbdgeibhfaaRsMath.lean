/-
  Lists of records, as plain mathematics: when they are right and rising, when they are closed. No program is spoken of.
-/
import Derived.Test.YtegnjbdgeibhfaaPackRecB
namespace Go.Proofs.Ytegnjbdgeibhfaa.Rs
open Rec (R RecOk recB rec_of needsR needsR_ok)
open Dep (D I kl Ok Sorted depsB ofV putV joinV coversB covB)
set_option linter.unusedVariables false
set_option maxRecDepth 100000

/-- Key and Id of each record. -/
def mk (l : List R) : List D := l.map fun r => ⟨r.k, r.i⟩
theorem mk_len (l : List R) : (mk l).length = l.length := by simp [mk]
theorem mk_at {l : List R} {k : Nat} (h : k < l.length) : (mk l)[k]'(by rw [mk_len]; exact h) = ⟨l[k].k, l[k].i⟩ := by simp [mk]
theorem mk_step (l : List R) (k : Nat) (h : k < l.length) : mk (l.take (k + 1)) = mk (l.take k) ++ [⟨l[k].k, l[k].i⟩] := by
  unfold mk
  rw [show l.take (k + 1) = l.take k ++ [l[k]] by simp, List.map_append]
  rfl
/-- Right records, rising, at most six. -/
def ListOk (l : List R) : Prop := l.length ≤ 6 ∧ (∀ r ∈ l, recB r = true) ∧ l.Pairwise fun x y => kl x.k y.k = true
noncomputable def listB (l : List R) : Bool := @decide (ListOk l) (Classical.propDecidable _)
theorem listB_true {l : List R} (h : ListOk l) : listB l = true := by simp [listB, h]
theorem listB_false {l : List R} (h : ¬ ListOk l) : listB l = false := by simp [listB, h]
theorem list_of {l : List R} (h : listB l = true) : ListOk l := by
  rcases Classical.em (ListOk l) with h1 | h1
  · exact h1
  · rw [listB_false h1] at h; cases h
theorem sorted_mk {l : List R} : Sorted (mk l) ↔ l.Pairwise fun x y => kl x.k y.k = true := by
  unfold Sorted mk
  rw [List.pairwise_map]
theorem listB_mk (l : List R) : listB l = (depsB (mk l) && !(l.any fun r => !recB r)) := by
  by_cases h : ListOk l
  · have h1 : depsB (mk l) = true := Dep.depsB_true ⟨by rw [mk_len]; exact h.1, fun d hd => by
      obtain ⟨r, hr, rfl⟩ := List.mem_map.1 hd
      exact ⟨(rec_of (h.2.1 r hr)).1, (rec_of (h.2.1 r hr)).2.1⟩, sorted_mk.2 h.2.2⟩
    have h2 : (l.any fun r => !recB r) = false := by
      rw [List.any_eq_false]
      intro r hr
      simp [h.2.1 r hr]
    rw [listB_true h, h1, h2]
    rfl
  · rw [listB_false h]
    cases h1 : depsB (mk l)
    · rfl
    · cases h2 : (l.any fun r => !recB r)
      · exfalso
        have ho := Dep.ok_of h1
        rw [List.any_eq_false] at h2
        exact h ⟨by have := ho.1; rwa [mk_len] at this, fun r hr => by have := h2 r hr; simpa using this, sorted_mk.1 ho.2.2⟩
      · rfl
theorem mk_ok {l : List R} (h : ListOk l) : depsB (mk l) = true := by
  have := listB_mk l
  rw [listB_true h] at this
  cases h1 : depsB (mk l)
  · rw [h1] at this; simp at this
  · rfl
theorem needs_depsB {r : R} (h : recB r = true) : depsB (needsR r) = true := by
  have ho := rec_of h
  rw [needsR_ok ho]
  exact (Rec.needs_ok ho.2.2.2.2.1 ho.2.2.2.2.2.1 ho.2.1 ho.2.2.2.2.2.2.2).1
/-- Closed records. -/
noncomputable def closedB (l : List R) : Bool := listB l && l.all fun r => coversB (mk l) (needsR r)
theorem closed_no {l : List R} (h : listB l = false) : closedB l = false := by unfold closedB; rw [h]; rfl
theorem closed_here {l : List R} {k : Nat} (hk : k < l.length) (h : coversB (mk l) (needsR l[k]) = false) : closedB l = false := by
  unfold closedB
  have : (l.all fun r => coversB (mk l) (needsR r)) = false := by
    rw [List.all_eq_false]
    exact ⟨l[k], List.getElem_mem hk, by rw [h]; simp⟩
  rw [this, Bool.and_false]
theorem closed_all {l : List R} (h : listB l = true) (hc : ∀ j (hj : j < l.length), coversB (mk l) (needsR l[j]) = true) : closedB l = true := by
  unfold closedB
  rw [h, Bool.true_and, List.all_eq_true]
  intro r hr
  obtain ⟨j, hj, rfl⟩ := List.getElem_of_mem hr
  exact hc j hj

theorem not_ok_rec {l : List R} {k : Nat} (hk : k < l.length) (h : recB l[k] = false) : listB l = false := listB_false fun ho => by
  have := ho.2.1 l[k] (List.getElem_mem hk); rw [h] at this; cases this
theorem not_ok_less {l : List R} {j : Nat} (hj : j + 1 < l.length) (h : kl l[j].k l[j + 1].k = false) : listB l = false := listB_false fun ho => by
  have := List.pairwise_iff_getElem.1 ho.2.2 j (j + 1) (by omega) hj (by omega); rw [h] at this; cases this
/-- What is found out so far. -/
def SoFar (l : List R) (k : Nat) : Prop := (∀ j (hj : j < l.length), j < k → recB l[j] = true) ∧ ∀ j (hj : j + 1 < l.length), j + 1 < k → kl l[j].k l[j + 1].k = true
theorem rising_of {l : List R} (h : ∀ j (hj : j + 1 < l.length), kl l[j].k l[j + 1].k = true) : l.Pairwise fun x y => kl x.k y.k = true := by
  refine sorted_mk.1 (Dep.sorted_of fun j hj => ?_)
  have := h j (by simpa [mk] using hj)
  simpa [mk] using this
theorem SoFar.all {l : List R} {k : Nat} (h : SoFar l k) (hk : l.length ≤ k) : listB l = decide (l.length ≤ 6) := by
  by_cases h6 : l.length ≤ 6
  · rw [decide_eq_true h6]
    exact listB_true ⟨h6, fun d hd => by obtain ⟨j, hj, rfl⟩ := List.getElem_of_mem hd; exact h.1 j hj (by omega), rising_of fun j hj => h.2 j hj (by omega)⟩
  · rw [decide_eq_false h6]
    exact listB_false fun ho => h6 ho.1
theorem SoFar.first {l : List R} (h : SoFar l 0) (hk : 0 < l.length) (h1 : recB l[0] = true) : SoFar l 1 :=
  ⟨fun j hj hjk => by have : j = 0 := by omega
                      subst this; exact h1, fun j hj hjk => absurd hjk (by omega)⟩
theorem SoFar.next {l : List R} {k : Nat} (h : SoFar l (k + 1)) (hk : k + 1 < l.length) (h1 : recB l[k + 1] = true) (h3 : kl l[k].k l[k + 1].k = true) : SoFar l (k + 1 + 1) :=
  ⟨fun j hj hjk => by
    by_cases e : j = k + 1
    · subst e; exact h1
    · exact h.1 j hj (by omega), fun j hj hjk => by
    by_cases e : j = k
    · subst e; exact h3
    · exact h.2 j hj (by omega)⟩
/-- What stands before the next one, put together one by one, is just that. -/
theorem mk_put {l : List R} (h : ListOk l) {k : Nat} (hk : k < l.length) : putV (mk (l.take k)) l[k].k l[k].i = mk (l.take (k + 1)) := by
  have hlen : (mk (l.take k)).length = k := by rw [mk_len, List.length_take]; omega
  rw [Dep.put_at l[k].i (k := k) (by omega) (fun j hj hjk => by
    have e : (mk (l.take k))[j] = ⟨l[j].k, l[j].i⟩ := by simp [mk]
    rw [e]
    exact List.pairwise_iff_getElem.1 h.2.2 j k (by omega) hk hjk) (fun hj => absurd hj (by omega)), mk_step l k hk, List.take_of_length_le (by omega), dif_neg (by omega)]
end Go.Proofs.Ytegnjbdgeibhfaa.Rs
