/-
  spec.Covers and spec.DepOf of any deps.
-/
import Derived.Test.YtoagdpbbojlgfaaDepCov
namespace Go.Proofs.Ytoagdpbbojlgfaa.Dep
open Go.ChangeShapes Go.WideShapes Go.ChangeAt Go.RowKit
set_option linter.unusedVariables false
set_option maxRecDepth 100000

noncomputable def covB (a b : List D) : Bool := depsB a && depsB b && coversB a b
noncomputable def depOf (l : List D) (q : ByteArray) : I := if depsB l = true then ofV l q else zero

end Go.Proofs.Ytoagdpbbojlgfaa.Dep
