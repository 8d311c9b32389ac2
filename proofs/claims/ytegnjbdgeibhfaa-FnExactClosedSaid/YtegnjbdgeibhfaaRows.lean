/-
  No cell of these rows narrows 'for every input' (looked for: loops, veiled, ifaces, maps, wideKeys, modest, calm, conditions, laid).
  DERIVED. THE GIVEN ROWS OF THIS SEAT. 3 by the template 'for every input the law returns true; each argument reads behind the call as it read before'; 0 by the template 'total and deterministic' (their statements: YtegnjbdgeibhfaaTotals.lean).
  GIVEN WITH THE SEED: the statements are not yours to turn. If you find one false, say at which input.
  Laid BY PROGRAM, IN A SANDBOX (cutbox-rows.mjs): the forced cells as the released guide's own fill.sh prints them over the translation efcb055ff4f62262… (all of the seat's roots in one cut). By AI agents, Wed Nov 11 2026. No macro, syntax, notation, axiom, sorry.
-/
import Derived.Test.YtegnjbdgeibhfaaChecked
import GoSem.Claim
import GoSem.ClaimJoined
import GoSem.ClaimMapViews
import Derived.JoinedTies
import Derived.KernelRfl
namespace Go.Proofs.Ytegnjbdgeibhfaa
/- THE CELL 'sum', in the pinned program and in every row, IS THE sha256 OF THE DUMP (.gsa) THAT YtegnjbdgeibhfaaProg.lean LOADS. Nothing in Lean hashes anything: it is a label: what it is worth is what the hold of that sum in a sandbox is worth. -/
noncomputable def Try.pinned : Pinned := { name := "ytegnjbdgeibhfaa", sum := "efcb055ff4f62262c139ef3a164fa39beb03eaca01e31e949e9ca9874919bd21", checked := Try.checked }
namespace Rows
def none {H : Type} : Left H := { results := [], args := [] }

/-- 'laws.FnExactShimNew': WHATEVER THE INPUT: true; the input reads as it did. -/
def fnExactShimNewSpec : ChangeSpec := { name := "fnExactShimNew", fn := fun _ => fun
  | [d] => { results := [.lit (.bool true)], args := [d] }
  | _ => none }
def fnExactShimNewRow : OpenClaim := { program := "ytegnjbdgeibhfaa", sum := "efcb055ff4f62262c139ef3a164fa39beb03eaca01e31e949e9ca9874919bd21", func := "loop.example/g00782/laws.FnExactShimNew", spec := "fnExactShimNew", apart := false }
def FnExactShimNewSaid : Prop := fnExactShimNewRow.holds Try.pinned (OpenSpec.ofChange fnExactShimNewSpec)

/-- ITS FALSE NEIGHBOUR: 'it returns false'. Refute it at one input. -/
def fnExactShimNewWrong : ChangeSpec := { name := "fnExactShimNew", fn := fun _ => fun
  | [d] => { results := [.lit (.bool false)], args := [d] }
  | _ => none }
def FnExactShimNewWrongFalsely : Prop := fnExactShimNewRow.holds Try.pinned (OpenSpec.ofChange fnExactShimNewWrong)

/-- 'laws.FnExactCutRight': WHATEVER THE INPUT: true; the input reads as it did. -/
def fnExactCutRightSpec : ChangeSpec := { name := "fnExactCutRight", fn := fun _ => fun
  | [d] => { results := [.lit (.bool true)], args := [d] }
  | _ => none }
def fnExactCutRightRow : OpenClaim := { program := "ytegnjbdgeibhfaa", sum := "efcb055ff4f62262c139ef3a164fa39beb03eaca01e31e949e9ca9874919bd21", func := "loop.example/g00782/laws.FnExactCutRight", spec := "fnExactCutRight", unfollowed := true, recurses := true, apart := false }
def FnExactCutRightSaid : Prop := fnExactCutRightRow.holds Try.pinned (OpenSpec.ofChange fnExactCutRightSpec)

/-- ITS FALSE NEIGHBOUR: 'it returns false'. Refute it at one input. -/
def fnExactCutRightWrong : ChangeSpec := { name := "fnExactCutRight", fn := fun _ => fun
  | [d] => { results := [.lit (.bool false)], args := [d] }
  | _ => none }
def FnExactCutRightWrongFalsely : Prop := fnExactCutRightRow.holds Try.pinned (OpenSpec.ofChange fnExactCutRightWrong)

/-- 'laws.FnExactClosed': WHATEVER THE INPUT: true; the input reads as it did. -/
def fnExactClosedSpec : ChangeSpec := { name := "fnExactClosed", fn := fun _ => fun
  | [d] => { results := [.lit (.bool true)], args := [d] }
  | _ => none }
def fnExactClosedRow : OpenClaim := { program := "ytegnjbdgeibhfaa", sum := "efcb055ff4f62262c139ef3a164fa39beb03eaca01e31e949e9ca9874919bd21", func := "loop.example/g00782/laws.FnExactClosed", spec := "fnExactClosed", unfollowed := true, recurses := true, apart := false }
def FnExactClosedSaid : Prop := fnExactClosedRow.holds Try.pinned (OpenSpec.ofChange fnExactClosedSpec)

/-- ITS FALSE NEIGHBOUR: 'it returns false'. Refute it at one input. -/
def fnExactClosedWrong : ChangeSpec := { name := "fnExactClosed", fn := fun _ => fun
  | [d] => { results := [.lit (.bool false)], args := [d] }
  | _ => none }
def FnExactClosedWrongFalsely : Prop := fnExactClosedRow.holds Try.pinned (OpenSpec.ofChange fnExactClosedWrong)

/- THE SECOND FORM. 'bulk': how many values and letters a reading holds, each counted each time it is reached (what is shared counts as often as it is met; a slice's spare places count too). A statement '..UptoSaid' is the law's where the arguments, and the package variables that the reading takes, are together of bulk at most 1048576: NARROWER than '..Said'. Prove '..Said' where nothing that the law and all that it calls make is longer than what came in: it says more and counts as full. Else prove '..UptoSaid'. A law counts once. -/
mutual
def uptoBulk {H : Type} : DataW H → Nat
  | .lit (.string bytes) => bytes.length + 1
  | .lit _ => 1
  | .nil => 1
  | .ptr d => uptoBulk d + 1
  | .slice elems spare => uptoBulkAll elems + uptoBulkAll spare + 1
  | .agg parts => uptoBulkAll parts + 1
  | .iface _ d => uptoBulk d + 1
  | .map entries => uptoBulkEntries entries + 1
  | .held _ => 1
def uptoBulkAll {H : Type} : List (DataW H) → Nat
  | [] => 0
  | d :: r => uptoBulk d + uptoBulkAll r
def uptoBulkEntries {H : Type} : List (Lit × DataW H) → Nat
  | [] => 0
  | x :: r => uptoBulkEntry x + uptoBulkEntries r
def uptoBulkEntry {H : Type} : Lit × DataW H → Nat
  | (.string bytes, d) => bytes.length + uptoBulk d + 1
  | (_, d) => uptoBulk d + 1
 end
def uptoSmall : (H : Type) → List (DataW H) → Bool := fun _ ds => decide (uptoBulkAll ds ≤ 1048576)
def OpenSpec.upto (s : _root_.Go.ChangeSpec) : _root_.Go.OpenSpec := { _root_.Go.OpenSpec.ofChange s with cond := some uptoSmall }

/-- 'laws.FnExactShimNew', WHERE WHAT IT READS IS OF BULK AT MOST 1048576: true; the input reads as it did. -/
def fnExactShimNewUptoRow : OpenClaim := { program := "ytegnjbdgeibhfaa", sum := "efcb055ff4f62262c139ef3a164fa39beb03eaca01e31e949e9ca9874919bd21", func := "loop.example/g00782/laws.FnExactShimNew", spec := "fnExactShimNew", apart := false, narrowed := true }
def FnExactShimNewUptoSaid : Prop := fnExactShimNewUptoRow.holds Try.pinned (OpenSpec.upto fnExactShimNewSpec)

/-- 'laws.FnExactCutRight', WHERE WHAT IT READS IS OF BULK AT MOST 1048576: true; the input reads as it did. -/
def fnExactCutRightUptoRow : OpenClaim := { program := "ytegnjbdgeibhfaa", sum := "efcb055ff4f62262c139ef3a164fa39beb03eaca01e31e949e9ca9874919bd21", func := "loop.example/g00782/laws.FnExactCutRight", spec := "fnExactCutRight", unfollowed := true, recurses := true, apart := false, narrowed := true }
def FnExactCutRightUptoSaid : Prop := fnExactCutRightUptoRow.holds Try.pinned (OpenSpec.upto fnExactCutRightSpec)

/-- 'laws.FnExactClosed', WHERE WHAT IT READS IS OF BULK AT MOST 1048576: true; the input reads as it did. -/
def fnExactClosedUptoRow : OpenClaim := { program := "ytegnjbdgeibhfaa", sum := "efcb055ff4f62262c139ef3a164fa39beb03eaca01e31e949e9ca9874919bd21", func := "loop.example/g00782/laws.FnExactClosed", spec := "fnExactClosed", unfollowed := true, recurses := true, apart := false, narrowed := true }
def FnExactClosedUptoSaid : Prop := fnExactClosedUptoRow.holds Try.pinned (OpenSpec.upto fnExactClosedSpec)

end Rows
end Go.Proofs.Ytegnjbdgeibhfaa
