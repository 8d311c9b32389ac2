/-
  No cell of these rows narrows 'for every input' (looked for: loops, veiled, ifaces, maps, wideKeys, modest, calm, conditions, laid).
  DERIVED. THE GIVEN ROWS OF THIS SEAT. 3 by the template 'for every input the law returns true; each argument reads behind the call as it read before'; 0 by the template 'total and deterministic' (their statements: YtbkgampfehjpaaaTotals.lean).
  GIVEN WITH THE SEED: the statements are not yours to turn. If you find one false, say at which input.
  Laid BY PROGRAM, IN A SANDBOX (cutbox-rows.mjs): the forced cells as the released guide's own fill.sh prints them over the translation d6b2dd91ed299f8b… (all of the seat's roots in one cut). By AI agents, Wed Nov 11 2026. No macro, syntax, notation, axiom, sorry.
-/
import Derived.Test.YtbkgampfehjpaaaChecked
import GoSem.Claim
import GoSem.ClaimJoined
import GoSem.ClaimMapViews
import Derived.JoinedTies
import Derived.KernelRfl
namespace Go.Proofs.Ytbkgampfehjpaaa
/- THE CELL 'sum', in the pinned program and in every row, IS THE sha256 OF THE DUMP (.gsa) THAT YtbkgampfehjpaaaProg.lean LOADS. Nothing in Lean hashes anything: it is a label: what it is worth is what the hold of that sum in a sandbox is worth. -/
noncomputable def Try.pinned : Pinned := { name := "ytbkgampfehjpaaa", sum := "d6b2dd91ed299f8baee7952979659d5ed925d29abbb0a5b34c31ed7921b73887", checked := Try.checked }
namespace Rows
def none {H : Type} : Left H := { results := [], args := [] }

/-- 'laws.FnExactIdRight': WHATEVER THE INPUT: true; the input reads as it did. -/
def fnExactIdRightSpec : ChangeSpec := { name := "fnExactIdRight", fn := fun _ => fun
  | [d] => { results := [.lit (.bool true)], args := [d] }
  | _ => none }
def fnExactIdRightRow : OpenClaim := { program := "ytbkgampfehjpaaa", sum := "d6b2dd91ed299f8baee7952979659d5ed925d29abbb0a5b34c31ed7921b73887", func := "loop.example/g00782/laws.FnExactIdRight", spec := "fnExactIdRight", apart := false }
def FnExactIdRightSaid : Prop := fnExactIdRightRow.holds Try.pinned (OpenSpec.ofChange fnExactIdRightSpec)

/-- ITS FALSE NEIGHBOUR: 'it returns false'. Refute it at one input. -/
def fnExactIdRightWrong : ChangeSpec := { name := "fnExactIdRight", fn := fun _ => fun
  | [d] => { results := [.lit (.bool false)], args := [d] }
  | _ => none }
def FnExactIdRightWrongFalsely : Prop := fnExactIdRightRow.holds Try.pinned (OpenSpec.ofChange fnExactIdRightWrong)

/-- 'laws.FnExactIdLess': WHATEVER THE INPUT: true; the input reads as it did. -/
def fnExactIdLessSpec : ChangeSpec := { name := "fnExactIdLess", fn := fun _ => fun
  | [d1, d2] => { results := [.lit (.bool true)], args := [d1, d2] }
  | _ => none }
def fnExactIdLessRow : OpenClaim := { program := "ytbkgampfehjpaaa", sum := "d6b2dd91ed299f8baee7952979659d5ed925d29abbb0a5b34c31ed7921b73887", func := "loop.example/g00782/laws.FnExactIdLess", spec := "fnExactIdLess", unfollowed := true, recurses := true, apart := false }
def FnExactIdLessSaid : Prop := fnExactIdLessRow.holds Try.pinned (OpenSpec.ofChange fnExactIdLessSpec)

/-- ITS FALSE NEIGHBOUR: 'it returns false'. Refute it at one input. -/
def fnExactIdLessWrong : ChangeSpec := { name := "fnExactIdLess", fn := fun _ => fun
  | [d1, d2] => { results := [.lit (.bool false)], args := [d1, d2] }
  | _ => none }
def FnExactIdLessWrongFalsely : Prop := fnExactIdLessRow.holds Try.pinned (OpenSpec.ofChange fnExactIdLessWrong)

/-- 'laws.FnExactMaxId': WHATEVER THE INPUT: true; the input reads as it did. -/
def fnExactMaxIdSpec : ChangeSpec := { name := "fnExactMaxId", fn := fun _ => fun
  | [d1, d2] => { results := [.lit (.bool true)], args := [d1, d2] }
  | _ => none }
def fnExactMaxIdRow : OpenClaim := { program := "ytbkgampfehjpaaa", sum := "d6b2dd91ed299f8baee7952979659d5ed925d29abbb0a5b34c31ed7921b73887", func := "loop.example/g00782/laws.FnExactMaxId", spec := "fnExactMaxId", unfollowed := true, recurses := true, apart := false }
def FnExactMaxIdSaid : Prop := fnExactMaxIdRow.holds Try.pinned (OpenSpec.ofChange fnExactMaxIdSpec)

/-- ITS FALSE NEIGHBOUR: 'it returns false'. Refute it at one input. -/
def fnExactMaxIdWrong : ChangeSpec := { name := "fnExactMaxId", fn := fun _ => fun
  | [d1, d2] => { results := [.lit (.bool false)], args := [d1, d2] }
  | _ => none }
def FnExactMaxIdWrongFalsely : Prop := fnExactMaxIdRow.holds Try.pinned (OpenSpec.ofChange fnExactMaxIdWrong)

/- THE SECOND FORM. 'bulk': how many values and letters a reading holds, each counted each time it is reached (what is shared counts as often as it is met; a slice's spare places count too). A statement '..UptoSaid' is the law's where the arguments, and the package variables that the reading takes, are together of bulk at most 1048576: NARROWER than '..Said'. Prove '..Said' where nothing that the law and all that it calls make is longer than what came in: it says more and counts as full. Else prove '..UptoSaid'. A law counts once. -/
mutual
def uptoBulk {H : Type} : DataW H → Nat
  | .lit (.string bytes) => bytes.length + 1
  | .lit _ => 1
  | .nil => 1
  | .ptr d => uptoBulk d + 1
  | .slice elems spare => uptoBulkAll elems + uptoBulkAll spare + 1
  | .agg parts => uptoBulkAll parts + 1
  | .iface _ d => uptoBulk d + 1
  | .map entries => uptoBulkEntries entries + 1
  | .held _ => 1
def uptoBulkAll {H : Type} : List (DataW H) → Nat
  | [] => 0
  | d :: r => uptoBulk d + uptoBulkAll r
def uptoBulkEntries {H : Type} : List (Lit × DataW H) → Nat
  | [] => 0
  | x :: r => uptoBulkEntry x + uptoBulkEntries r
def uptoBulkEntry {H : Type} : Lit × DataW H → Nat
  | (.string bytes, d) => bytes.length + uptoBulk d + 1
  | (_, d) => uptoBulk d + 1
 end
def uptoSmall : (H : Type) → List (DataW H) → Bool := fun _ ds => decide (uptoBulkAll ds ≤ 1048576)
def OpenSpec.upto (s : _root_.Go.ChangeSpec) : _root_.Go.OpenSpec := { _root_.Go.OpenSpec.ofChange s with cond := some uptoSmall }

/-- 'laws.FnExactIdRight', WHERE WHAT IT READS IS OF BULK AT MOST 1048576: true; the input reads as it did. -/
def fnExactIdRightUptoRow : OpenClaim := { program := "ytbkgampfehjpaaa", sum := "d6b2dd91ed299f8baee7952979659d5ed925d29abbb0a5b34c31ed7921b73887", func := "loop.example/g00782/laws.FnExactIdRight", spec := "fnExactIdRight", apart := false, narrowed := true }
def FnExactIdRightUptoSaid : Prop := fnExactIdRightUptoRow.holds Try.pinned (OpenSpec.upto fnExactIdRightSpec)

/-- 'laws.FnExactIdLess', WHERE WHAT IT READS IS OF BULK AT MOST 1048576: true; the input reads as it did. -/
def fnExactIdLessUptoRow : OpenClaim := { program := "ytbkgampfehjpaaa", sum := "d6b2dd91ed299f8baee7952979659d5ed925d29abbb0a5b34c31ed7921b73887", func := "loop.example/g00782/laws.FnExactIdLess", spec := "fnExactIdLess", unfollowed := true, recurses := true, apart := false, narrowed := true }
def FnExactIdLessUptoSaid : Prop := fnExactIdLessUptoRow.holds Try.pinned (OpenSpec.upto fnExactIdLessSpec)

/-- 'laws.FnExactMaxId', WHERE WHAT IT READS IS OF BULK AT MOST 1048576: true; the input reads as it did. -/
def fnExactMaxIdUptoRow : OpenClaim := { program := "ytbkgampfehjpaaa", sum := "d6b2dd91ed299f8baee7952979659d5ed925d29abbb0a5b34c31ed7921b73887", func := "loop.example/g00782/laws.FnExactMaxId", spec := "fnExactMaxId", unfollowed := true, recurses := true, apart := false, narrowed := true }
def FnExactMaxIdUptoSaid : Prop := fnExactMaxIdUptoRow.holds Try.pinned (OpenSpec.upto fnExactMaxIdSpec)

end Rows
end Go.Proofs.Ytbkgampfehjpaaa
