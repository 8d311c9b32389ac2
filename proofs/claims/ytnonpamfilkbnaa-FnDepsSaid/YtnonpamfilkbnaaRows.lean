/-
  No cell of these rows narrows 'for every input' (looked for: loops, veiled, ifaces, maps, wideKeys, modest, calm, conditions, laid).
  DERIVED. THE GIVEN ROWS OF THIS SEAT. 8 by the template 'for every input the law returns true; each argument reads behind the call as it read before'; 0 by the template 'total and deterministic' (their statements: YtnonpamfilkbnaaTotals.lean).
  GIVEN WITH THE SEED: the statements are not yours to turn. If you find one false, say at which input.
  Laid BY PROGRAM, IN A SANDBOX (cutbox-rows.mjs): the forced cells as the released guide's own fill.sh prints them over the translation e77684bfaf7857b1… (all of the seat's roots in one cut). By AI agents, Wed Nov 11 2026. No macro, syntax, notation, axiom, sorry.
-/
import Derived.Test.YtnonpamfilkbnaaChecked
import GoSem.Claim
import GoSem.ClaimJoined
import GoSem.ClaimMapViews
import Derived.JoinedTies
import Derived.KernelRfl
namespace Go.Proofs.Ytnonpamfilkbnaa
/- THE CELL 'sum', in the pinned program and in every row, IS THE sha256 OF THE DUMP (.gsa) THAT YtnonpamfilkbnaaProg.lean LOADS. Nothing in Lean hashes anything: it is a label: what it is worth is what the hold of that sum in a sandbox is worth. -/
noncomputable def Try.pinned : Pinned := { name := "ytnonpamfilkbnaa", sum := "e77684bfaf7857b15fcaa77410ae09cdaa6cefff1e6f7a872f7b268cfa887680", checked := Try.checked }
namespace Rows
def none {H : Type} : Left H := { results := [], args := [] }

/-- 'laws.FnDeps': WHATEVER THE INPUT: true; the input reads as it did. -/
def fnDepsSpec : ChangeSpec := { name := "fnDeps", fn := fun _ => fun
  | [d1, d2] => { results := [.lit (.bool true)], args := [d1, d2] }
  | _ => none }
def fnDepsRow : OpenClaim := { program := "ytnonpamfilkbnaa", sum := "e77684bfaf7857b15fcaa77410ae09cdaa6cefff1e6f7a872f7b268cfa887680", func := "loop.example/g00782/laws.FnDeps", spec := "fnDeps", unfollowed := true, recurses := true, apart := false }
def FnDepsSaid : Prop := fnDepsRow.holds Try.pinned (OpenSpec.ofChange fnDepsSpec)

/-- ITS FALSE NEIGHBOUR: 'it returns false'. Refute it at one input. -/
def fnDepsWrong : ChangeSpec := { name := "fnDeps", fn := fun _ => fun
  | [d1, d2] => { results := [.lit (.bool false)], args := [d1, d2] }
  | _ => none }
def FnDepsWrongFalsely : Prop := fnDepsRow.holds Try.pinned (OpenSpec.ofChange fnDepsWrong)

/-- 'laws.FnExactKeyRight': WHATEVER THE INPUT: true; the input reads as it did. -/
def fnExactKeyRightSpec : ChangeSpec := { name := "fnExactKeyRight", fn := fun _ => fun
  | [d] => { results := [.lit (.bool true)], args := [d] }
  | _ => none }
def fnExactKeyRightRow : OpenClaim := { program := "ytnonpamfilkbnaa", sum := "e77684bfaf7857b15fcaa77410ae09cdaa6cefff1e6f7a872f7b268cfa887680", func := "loop.example/g00782/laws.FnExactKeyRight", spec := "fnExactKeyRight", apart := false }
def FnExactKeyRightSaid : Prop := fnExactKeyRightRow.holds Try.pinned (OpenSpec.ofChange fnExactKeyRightSpec)

/-- ITS FALSE NEIGHBOUR: 'it returns false'. Refute it at one input. -/
def fnExactKeyRightWrong : ChangeSpec := { name := "fnExactKeyRight", fn := fun _ => fun
  | [d] => { results := [.lit (.bool false)], args := [d] }
  | _ => none }
def FnExactKeyRightWrongFalsely : Prop := fnExactKeyRightRow.holds Try.pinned (OpenSpec.ofChange fnExactKeyRightWrong)

/-- 'laws.FnExactDepsRight': WHATEVER THE INPUT: true; the input reads as it did. -/
def fnExactDepsRightSpec : ChangeSpec := { name := "fnExactDepsRight", fn := fun _ => fun
  | [d] => { results := [.lit (.bool true)], args := [d] }
  | _ => none }
def fnExactDepsRightRow : OpenClaim := { program := "ytnonpamfilkbnaa", sum := "e77684bfaf7857b15fcaa77410ae09cdaa6cefff1e6f7a872f7b268cfa887680", func := "loop.example/g00782/laws.FnExactDepsRight", spec := "fnExactDepsRight", apart := false }
def FnExactDepsRightSaid : Prop := fnExactDepsRightRow.holds Try.pinned (OpenSpec.ofChange fnExactDepsRightSpec)

/-- ITS FALSE NEIGHBOUR: 'it returns false'. Refute it at one input. -/
def fnExactDepsRightWrong : ChangeSpec := { name := "fnExactDepsRight", fn := fun _ => fun
  | [d] => { results := [.lit (.bool false)], args := [d] }
  | _ => none }
def FnExactDepsRightWrongFalsely : Prop := fnExactDepsRightRow.holds Try.pinned (OpenSpec.ofChange fnExactDepsRightWrong)

/-- 'laws.FnExactDepOf': WHATEVER THE INPUT: true; the input reads as it did. -/
def fnExactDepOfSpec : ChangeSpec := { name := "fnExactDepOf", fn := fun _ => fun
  | [d1, d2] => { results := [.lit (.bool true)], args := [d1, d2] }
  | _ => none }
def fnExactDepOfRow : OpenClaim := { program := "ytnonpamfilkbnaa", sum := "e77684bfaf7857b15fcaa77410ae09cdaa6cefff1e6f7a872f7b268cfa887680", func := "loop.example/g00782/laws.FnExactDepOf", spec := "fnExactDepOf", apart := false }
def FnExactDepOfSaid : Prop := fnExactDepOfRow.holds Try.pinned (OpenSpec.ofChange fnExactDepOfSpec)

/-- ITS FALSE NEIGHBOUR: 'it returns false'. Refute it at one input. -/
def fnExactDepOfWrong : ChangeSpec := { name := "fnExactDepOf", fn := fun _ => fun
  | [d1, d2] => { results := [.lit (.bool false)], args := [d1, d2] }
  | _ => none }
def FnExactDepOfWrongFalsely : Prop := fnExactDepOfRow.holds Try.pinned (OpenSpec.ofChange fnExactDepOfWrong)

/-- 'laws.FnExactDepsPut': WHATEVER THE INPUT: true; the input reads as it did. -/
def fnExactDepsPutSpec : ChangeSpec := { name := "fnExactDepsPut", fn := fun _ => fun
  | [d1, d2, d3] => { results := [.lit (.bool true)], args := [d1, d2, d3] }
  | _ => none }
def fnExactDepsPutRow : OpenClaim := { program := "ytnonpamfilkbnaa", sum := "e77684bfaf7857b15fcaa77410ae09cdaa6cefff1e6f7a872f7b268cfa887680", func := "loop.example/g00782/laws.FnExactDepsPut", spec := "fnExactDepsPut", unfollowed := true, recurses := true, apart := false }
def FnExactDepsPutSaid : Prop := fnExactDepsPutRow.holds Try.pinned (OpenSpec.ofChange fnExactDepsPutSpec)

/-- ITS FALSE NEIGHBOUR: 'it returns false'. Refute it at one input. -/
def fnExactDepsPutWrong : ChangeSpec := { name := "fnExactDepsPut", fn := fun _ => fun
  | [d1, d2, d3] => { results := [.lit (.bool false)], args := [d1, d2, d3] }
  | _ => none }
def FnExactDepsPutWrongFalsely : Prop := fnExactDepsPutRow.holds Try.pinned (OpenSpec.ofChange fnExactDepsPutWrong)

/-- 'laws.FnExactDepsJoin': WHATEVER THE INPUT: true; the input reads as it did. -/
def fnExactDepsJoinSpec : ChangeSpec := { name := "fnExactDepsJoin", fn := fun _ => fun
  | [d1, d2] => { results := [.lit (.bool true)], args := [d1, d2] }
  | _ => none }
def fnExactDepsJoinRow : OpenClaim := { program := "ytnonpamfilkbnaa", sum := "e77684bfaf7857b15fcaa77410ae09cdaa6cefff1e6f7a872f7b268cfa887680", func := "loop.example/g00782/laws.FnExactDepsJoin", spec := "fnExactDepsJoin", unfollowed := true, recurses := true, apart := false }
def FnExactDepsJoinSaid : Prop := fnExactDepsJoinRow.holds Try.pinned (OpenSpec.ofChange fnExactDepsJoinSpec)

/-- ITS FALSE NEIGHBOUR: 'it returns false'. Refute it at one input. -/
def fnExactDepsJoinWrong : ChangeSpec := { name := "fnExactDepsJoin", fn := fun _ => fun
  | [d1, d2] => { results := [.lit (.bool false)], args := [d1, d2] }
  | _ => none }
def FnExactDepsJoinWrongFalsely : Prop := fnExactDepsJoinRow.holds Try.pinned (OpenSpec.ofChange fnExactDepsJoinWrong)

/-- 'laws.FnExactCovers': WHATEVER THE INPUT: true; the input reads as it did. -/
def fnExactCoversSpec : ChangeSpec := { name := "fnExactCovers", fn := fun _ => fun
  | [d1, d2] => { results := [.lit (.bool true)], args := [d1, d2] }
  | _ => none }
def fnExactCoversRow : OpenClaim := { program := "ytnonpamfilkbnaa", sum := "e77684bfaf7857b15fcaa77410ae09cdaa6cefff1e6f7a872f7b268cfa887680", func := "loop.example/g00782/laws.FnExactCovers", spec := "fnExactCovers", unfollowed := true, recurses := true, apart := false }
def FnExactCoversSaid : Prop := fnExactCoversRow.holds Try.pinned (OpenSpec.ofChange fnExactCoversSpec)

/-- ITS FALSE NEIGHBOUR: 'it returns false'. Refute it at one input. -/
def fnExactCoversWrong : ChangeSpec := { name := "fnExactCovers", fn := fun _ => fun
  | [d1, d2] => { results := [.lit (.bool false)], args := [d1, d2] }
  | _ => none }
def FnExactCoversWrongFalsely : Prop := fnExactCoversRow.holds Try.pinned (OpenSpec.ofChange fnExactCoversWrong)

/-- 'laws.FnExactClockOf': WHATEVER THE INPUT: true; the input reads as it did. -/
def fnExactClockOfSpec : ChangeSpec := { name := "fnExactClockOf", fn := fun _ => fun
  | [d] => { results := [.lit (.bool true)], args := [d] }
  | _ => none }
def fnExactClockOfRow : OpenClaim := { program := "ytnonpamfilkbnaa", sum := "e77684bfaf7857b15fcaa77410ae09cdaa6cefff1e6f7a872f7b268cfa887680", func := "loop.example/g00782/laws.FnExactClockOf", spec := "fnExactClockOf", apart := false }
def FnExactClockOfSaid : Prop := fnExactClockOfRow.holds Try.pinned (OpenSpec.ofChange fnExactClockOfSpec)

/-- ITS FALSE NEIGHBOUR: 'it returns false'. Refute it at one input. -/
def fnExactClockOfWrong : ChangeSpec := { name := "fnExactClockOf", fn := fun _ => fun
  | [d] => { results := [.lit (.bool false)], args := [d] }
  | _ => none }
def FnExactClockOfWrongFalsely : Prop := fnExactClockOfRow.holds Try.pinned (OpenSpec.ofChange fnExactClockOfWrong)

/- THE SECOND FORM. 'bulk': how many values and letters a reading holds, each counted each time it is reached (what is shared counts as often as it is met; a slice's spare places count too). A statement '..UptoSaid' is the law's where the arguments, and the package variables that the reading takes, are together of bulk at most 1048576: NARROWER than '..Said'. Prove '..Said' where nothing that the law and all that it calls make is longer than what came in: it says more and counts as full. Else prove '..UptoSaid'. A law counts once. -/
mutual
def uptoBulk {H : Type} : DataW H → Nat
  | .lit (.string bytes) => bytes.length + 1
  | .lit _ => 1
  | .nil => 1
  | .ptr d => uptoBulk d + 1
  | .slice elems spare => uptoBulkAll elems + uptoBulkAll spare + 1
  | .agg parts => uptoBulkAll parts + 1
  | .iface _ d => uptoBulk d + 1
  | .map entries => uptoBulkEntries entries + 1
  | .held _ => 1
def uptoBulkAll {H : Type} : List (DataW H) → Nat
  | [] => 0
  | d :: r => uptoBulk d + uptoBulkAll r
def uptoBulkEntries {H : Type} : List (Lit × DataW H) → Nat
  | [] => 0
  | x :: r => uptoBulkEntry x + uptoBulkEntries r
def uptoBulkEntry {H : Type} : Lit × DataW H → Nat
  | (.string bytes, d) => bytes.length + uptoBulk d + 1
  | (_, d) => uptoBulk d + 1
 end
def uptoSmall : (H : Type) → List (DataW H) → Bool := fun _ ds => decide (uptoBulkAll ds ≤ 1048576)
def OpenSpec.upto (s : _root_.Go.ChangeSpec) : _root_.Go.OpenSpec := { _root_.Go.OpenSpec.ofChange s with cond := some uptoSmall }

/-- 'laws.FnDeps', WHERE WHAT IT READS IS OF BULK AT MOST 1048576: true; the input reads as it did. -/
def fnDepsUptoRow : OpenClaim := { program := "ytnonpamfilkbnaa", sum := "e77684bfaf7857b15fcaa77410ae09cdaa6cefff1e6f7a872f7b268cfa887680", func := "loop.example/g00782/laws.FnDeps", spec := "fnDeps", unfollowed := true, recurses := true, apart := false, narrowed := true }
def FnDepsUptoSaid : Prop := fnDepsUptoRow.holds Try.pinned (OpenSpec.upto fnDepsSpec)

/-- 'laws.FnExactKeyRight', WHERE WHAT IT READS IS OF BULK AT MOST 1048576: true; the input reads as it did. -/
def fnExactKeyRightUptoRow : OpenClaim := { program := "ytnonpamfilkbnaa", sum := "e77684bfaf7857b15fcaa77410ae09cdaa6cefff1e6f7a872f7b268cfa887680", func := "loop.example/g00782/laws.FnExactKeyRight", spec := "fnExactKeyRight", apart := false, narrowed := true }
def FnExactKeyRightUptoSaid : Prop := fnExactKeyRightUptoRow.holds Try.pinned (OpenSpec.upto fnExactKeyRightSpec)

/-- 'laws.FnExactDepsRight', WHERE WHAT IT READS IS OF BULK AT MOST 1048576: true; the input reads as it did. -/
def fnExactDepsRightUptoRow : OpenClaim := { program := "ytnonpamfilkbnaa", sum := "e77684bfaf7857b15fcaa77410ae09cdaa6cefff1e6f7a872f7b268cfa887680", func := "loop.example/g00782/laws.FnExactDepsRight", spec := "fnExactDepsRight", apart := false, narrowed := true }
def FnExactDepsRightUptoSaid : Prop := fnExactDepsRightUptoRow.holds Try.pinned (OpenSpec.upto fnExactDepsRightSpec)

/-- 'laws.FnExactDepOf', WHERE WHAT IT READS IS OF BULK AT MOST 1048576: true; the input reads as it did. -/
def fnExactDepOfUptoRow : OpenClaim := { program := "ytnonpamfilkbnaa", sum := "e77684bfaf7857b15fcaa77410ae09cdaa6cefff1e6f7a872f7b268cfa887680", func := "loop.example/g00782/laws.FnExactDepOf", spec := "fnExactDepOf", apart := false, narrowed := true }
def FnExactDepOfUptoSaid : Prop := fnExactDepOfUptoRow.holds Try.pinned (OpenSpec.upto fnExactDepOfSpec)

/-- 'laws.FnExactDepsPut', WHERE WHAT IT READS IS OF BULK AT MOST 1048576: true; the input reads as it did. -/
def fnExactDepsPutUptoRow : OpenClaim := { program := "ytnonpamfilkbnaa", sum := "e77684bfaf7857b15fcaa77410ae09cdaa6cefff1e6f7a872f7b268cfa887680", func := "loop.example/g00782/laws.FnExactDepsPut", spec := "fnExactDepsPut", unfollowed := true, recurses := true, apart := false, narrowed := true }
def FnExactDepsPutUptoSaid : Prop := fnExactDepsPutUptoRow.holds Try.pinned (OpenSpec.upto fnExactDepsPutSpec)

/-- 'laws.FnExactDepsJoin', WHERE WHAT IT READS IS OF BULK AT MOST 1048576: true; the input reads as it did. -/
def fnExactDepsJoinUptoRow : OpenClaim := { program := "ytnonpamfilkbnaa", sum := "e77684bfaf7857b15fcaa77410ae09cdaa6cefff1e6f7a872f7b268cfa887680", func := "loop.example/g00782/laws.FnExactDepsJoin", spec := "fnExactDepsJoin", unfollowed := true, recurses := true, apart := false, narrowed := true }
def FnExactDepsJoinUptoSaid : Prop := fnExactDepsJoinUptoRow.holds Try.pinned (OpenSpec.upto fnExactDepsJoinSpec)

/-- 'laws.FnExactCovers', WHERE WHAT IT READS IS OF BULK AT MOST 1048576: true; the input reads as it did. -/
def fnExactCoversUptoRow : OpenClaim := { program := "ytnonpamfilkbnaa", sum := "e77684bfaf7857b15fcaa77410ae09cdaa6cefff1e6f7a872f7b268cfa887680", func := "loop.example/g00782/laws.FnExactCovers", spec := "fnExactCovers", unfollowed := true, recurses := true, apart := false, narrowed := true }
def FnExactCoversUptoSaid : Prop := fnExactCoversUptoRow.holds Try.pinned (OpenSpec.upto fnExactCoversSpec)

/-- 'laws.FnExactClockOf', WHERE WHAT IT READS IS OF BULK AT MOST 1048576: true; the input reads as it did. -/
def fnExactClockOfUptoRow : OpenClaim := { program := "ytnonpamfilkbnaa", sum := "e77684bfaf7857b15fcaa77410ae09cdaa6cefff1e6f7a872f7b268cfa887680", func := "loop.example/g00782/laws.FnExactClockOf", spec := "fnExactClockOf", apart := false, narrowed := true }
def FnExactClockOfUptoSaid : Prop := fnExactClockOfUptoRow.holds Try.pinned (OpenSpec.upto fnExactClockOfSpec)

end Rows
end Go.Proofs.Ytnonpamfilkbnaa
