/-
  spec.ClockOf: the greatest clock of right deps, else 0.
-/
import Derived.Test.YtlhebgfiljmeiaaDepRight
namespace Go.Proofs.Ytlhebgfiljmeiaa.Dep
open Go.ChangeShapes Go.WideShapes Go.ChangeAt Go.RowKit
set_option linter.unusedVariables false
set_option maxRecDepth 100000

def max2 (a b : Int) : Int := if a > b then a else b
noncomputable def clockB (l : List D) : Int := if depsB l = true then clockV l else 0
theorem clock_step (l : List D) (k : Nat) (h : k < l.length) : clockV (l.take (k + 1)) = max2 (clockV (l.take k)) l[k].i.c := by
  unfold clockV max2
  rw [show l.take (k + 1) = l.take k ++ [l[k]] by simp, List.foldl_append]
  rfl

end Go.Proofs.Ytlhebgfiljmeiaa.Dep
