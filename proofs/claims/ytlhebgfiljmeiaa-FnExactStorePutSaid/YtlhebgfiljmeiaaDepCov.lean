/-
  spec.l03Covers, spec.Covers, spec.DepOf at right deps and others.
-/
import Derived.Test.YtlhebgfiljmeiaaDepRight
namespace Go.Proofs.Ytlhebgfiljmeiaa.Dep
open Go.ChangeShapes Go.WideShapes Go.ChangeAt Go.RowKit
set_option linter.unusedVariables false
set_option maxRecDepth 100000

theorem specLessI_any (x y : I) (w : World) :
    Calls Try.prog 60 #[x.val, y.val] w fun e w' => e = .returned (.bool (x.less y)) ∧ Below w.heap.size w w' := Id.specLess_any x.c x.s x.e y.c y.s y.e w

end Go.Proofs.Ytlhebgfiljmeiaa.Dep
