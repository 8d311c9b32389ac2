/-
  Ids: IdRight, IdLess and MaxId of the program and of the given model answer the same, at every three int64.
-/
import Derived.Test.YtoomgdpjjbcbfaaRows
import Derived.WalkKit
import Derived.ProofKit
import Derived.OpenShut
import Derived.ShutString
import Derived.Lib.Hide
import Derived.StillTailTactics
namespace Go.Proofs.Ytoomgdpjjbcbfaa.Id
open Go.ChangeShapes Go.WideShapes Go.ChangeAt Go.RowKit
set_option linter.unusedVariables false
set_option maxRecDepth 100000

def inB (n l m : Int) : Bool := decide (l ≤ n ∧ n ≤ m)
def rightB (c s e : Int) : Bool := inB c 1 1000000 && inB s 1 3 && inB e 0 99
def cmpV (x y : Int) : Int := if x < y then -1 else if y < x then 1 else 0
def lessB (c s e c' s' e' : Int) : Bool := decide (c < c' ∨ (c = c' ∧ (s < s' ∨ (s = s' ∧ e < e'))))
/-- An Id by value. -/
def idV (c s e : Int) : Value := .agg #[.int .i64 c, .int .i64 s, .int .i64 e]

/-- The first of three that is not 0. -/
def orV (x y z : Int) : Int := if x ≠ 0 then x else if y ≠ 0 then y else z
def at3 (x y z : Int) : Nat → Int
  | 0 => x
  | 1 => y
  | _ => z

end Go.Proofs.Ytoomgdpjjbcbfaa.Id
