/-
  impl.DepOf, impl.Covers, impl.ClockOf.
-/
import Derived.Test.YtlhebgfiljmeiaaDepIRight
import Derived.Test.YtlhebgfiljmeiaaDepCov2
import Derived.Test.YtlhebgfiljmeiaaDepClock
namespace Go.Proofs.Ytlhebgfiljmeiaa.Dep
open Go.ChangeShapes Go.WideShapes Go.ChangeAt Go.RowKit
set_option linter.unusedVariables false
set_option maxRecDepth 100000

theorem max2_max (a b : Int) : max2 a b = max a b := by unfold max2; split <;> omega

end Go.Proofs.Ytlhebgfiljmeiaa.Dep
