/-
  Two slices of deps compared: spec.l04SameDeps, slices.Equal.
-/
import Derived.Test.YtoagdpbbojlgfaaPackDep
import Derived.BigQuiet
namespace Go.Proofs.Ytoagdpbbojlgfaa.Dep
open Go.ChangeShapes Go.WideShapes Go.ChangeAt Go.RowKit
set_option linter.unusedVariables false
set_option maxRecDepth 100000
set_option linter.unusedSimpArgs false

theorem drewN_under {w W : World} {n : Nat} (h : Below n w W) (k : Nat) : Below n w (W.drewN k) := ⟨h.os, h.tape, h.output, h.size, h.block⟩
noncomputable def alikeB (l m : List D) : Bool := @decide (l = m) (Classical.propDecidable _)
theorem alikeB_true {l m : List D} (h : l = m) : alikeB l m = true := by simp [alikeB, h]
theorem alikeB_false {l m : List D} (h : ¬ l = m) : alikeB l m = false := by simp [alikeB, h]
theorem alike_of {l m : List D} (h : alikeB l m = true) : l = m := by
  rcases Classical.em (l = m) with h1 | h1
  · exact h1
  · rw [alikeB_false h1] at h; cases h
theorem d_ext {x y : D} (h0 : x.k = y.k) (h1 : x.i.c = y.i.c) (h2 : x.i.s = y.i.s) (h3 : x.i.e = y.i.e) : x = y := by
  obtain ⟨k, ⟨c, s, e⟩⟩ := x; obtain ⟨k', ⟨c', s', e'⟩⟩ := y; simp only at h0 h1 h2 h3; subst h0 h1 h2 h3; rfl
theorem dep_ne {x y : D} (h : ¬ x = y) : ((x.k.toList == y.k.toList) = false) ∨ ((x.k.toList == y.k.toList) = true ∧ (x.i.c == y.i.c) = false) ∨ ((x.k.toList == y.k.toList) = true ∧ (x.i.c == y.i.c) = true ∧ (x.i.s == y.i.s) = false) ∨
    ((x.k.toList == y.k.toList) = true ∧ (x.i.c == y.i.c) = true ∧ (x.i.s == y.i.s) = true ∧ (x.i.e == y.i.e) = false) := by
  cases e0 : (x.k.toList == y.k.toList)
  · exact .inl rfl
  cases e1 : (x.i.c == y.i.c)
  · exact .inr (.inl ⟨rfl, rfl⟩)
  cases e2 : (x.i.s == y.i.s)
  · exact .inr (.inr (.inl ⟨rfl, rfl, rfl⟩))
  cases e3 : (x.i.e == y.i.e)
  · exact .inr (.inr (.inr ⟨rfl, rfl, rfl, rfl⟩))
  refine absurd (d_ext (list_eq ?_) (beq_iff_eq.1 e1) (beq_iff_eq.1 e2) (beq_iff_eq.1 e3)) h
  rw [← ByteArray.toList_eq, ← ByteArray.toList_eq]
  exact beq_iff_eq.1 e0

end Go.Proofs.Ytoagdpbbojlgfaa.Dep
