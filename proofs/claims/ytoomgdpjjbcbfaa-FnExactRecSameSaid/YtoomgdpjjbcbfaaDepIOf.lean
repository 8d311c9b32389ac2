/-
  impl.idAt and impl.DepOf: the Id at a key.
-/
import Derived.Test.YtoomgdpjjbcbfaaDepTo
namespace Go.Proofs.Ytoomgdpjjbcbfaa.Dep
open Go.ChangeShapes Go.WideShapes Go.ChangeAt Go.RowKit
set_option linter.unusedVariables false
set_option maxRecDepth 100000

/-- A dep in a block of its own. -/
abbrev D.obj (d : D) : Obj := Obj.cells #[Value.string d.k, Value.int IntKind.i64 d.i.c, Value.int IntKind.i64 d.i.s, Value.int IntKind.i64 d.i.e] 47

end Go.Proofs.Ytoomgdpjjbcbfaa.Dep
