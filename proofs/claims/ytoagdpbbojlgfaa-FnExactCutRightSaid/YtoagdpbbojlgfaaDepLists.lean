/-
  impl.listsCode: the first fault of some lists.
-/
import Derived.Test.YtoagdpbbojlgfaaPackAll
namespace Go.Proofs.Ytoagdpbbojlgfaa.Dep
open Go.ChangeShapes Go.WideShapes Go.ChangeAt Go.RowKit
set_option linter.unusedVariables false
set_option maxRecDepth 100000

open Classical in
noncomputable def codeV (L : List (List D)) : Int := if (∃ l ∈ L, 400 < l.length) then 2 else if (∀ l ∈ L, depsB l = true) then 0 else 1
theorem code_big {L : List (List D)} {l : List D} (h : l ∈ L) (hl : 400 < l.length) : codeV L = 2 := by unfold codeV; rw [if_pos ⟨l, h, hl⟩]
theorem code_all {L : List (List D)} (h : ∀ l ∈ L, ¬ 400 < l.length) : codeV L = if @decide (∀ l ∈ L, depsB l = true) (Classical.propDecidable _) = true then 0 else 1 := by
  unfold codeV
  rw [if_neg (by rintro ⟨l, hl, h2⟩; exact h l hl h2)]
  by_cases e : ∀ l ∈ L, depsB l = true
  · rw [if_pos e, if_pos (by simpa using e)]
  · rw [if_neg e, if_neg (by simpa using e)]
theorem take_mem {L : List (List D)} {k : Nat} (hk : k < L.length) (p : List D → Prop) : (∀ l ∈ L.take (k + 1), p l) ↔ (∀ l ∈ L.take k, p l) ∧ p L[k] := by
  rw [show L.take (k + 1) = L.take k ++ [L[k]] by simp]
  constructor
  · intro h
    exact ⟨fun l hl => h l (List.mem_append_left _ hl), h _ (List.mem_append_right _ (List.mem_singleton.2 rfl))⟩
  · rintro ⟨h1, h2⟩ l hl
    rcases List.mem_append.1 hl with hl | hl
    · exact h1 l hl
    · obtain rfl : l = L[k] := by simpa using hl
      exact h2

end Go.Proofs.Ytoagdpbbojlgfaa.Dep
