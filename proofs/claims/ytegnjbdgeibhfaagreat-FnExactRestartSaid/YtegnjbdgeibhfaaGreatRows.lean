/-
  No cell of these rows narrows 'for every input' (looked for: loops, veiled, ifaces, maps, wideKeys, modest, calm, conditions, laid).
  DERIVED. THE GIVEN ROWS OF THIS SEAT. 9 by the template 'for every input the law returns true; each argument reads behind the call as it read before'; 0 by the template 'total and deterministic' (their statements: YtegnjbdgeibhfaaGreatTotals.lean).
  GIVEN WITH THE SEED: the statements are not yours to turn. If you find one false, say at which input.
  Laid BY PROGRAM, IN A SANDBOX (cutbox-rows.mjs): the forced cells as the released guide's own fill.sh prints them over the translation b263ea29cfa44b60… (all of the seat's roots in one cut). By AI agents, Wed Nov 11 2026. No macro, syntax, notation, axiom, sorry.
-/
import Derived.Test.YtegnjbdgeibhfaaGreatChecked
import GoSem.Claim
import GoSem.ClaimJoined
import GoSem.ClaimMapViews
import Derived.JoinedTies
import Derived.KernelRfl
namespace Go.Proofs.YtegnjbdgeibhfaaGreat
/- THE CELL 'sum', in the pinned program and in every row, IS THE sha256 OF THE DUMP (.gsa) THAT YtegnjbdgeibhfaaGreatProg.lean LOADS. Nothing in Lean hashes anything: it is a label: what it is worth is what the hold of that sum in a sandbox is worth. -/
noncomputable def Tryz.pinned : Pinned := { name := "ytegnjbdgeibhfaagreat", sum := "b263ea29cfa44b6038116d4c7712f36a920ae25fbab74e9bfebcbd92d2dfb4f5", checked := Tryz.checked }
namespace Rows
def none {H : Type} : Left H := { results := [], args := [] }

/-- 'laws.FnExactRowOf': WHATEVER THE INPUT: true; the input reads as it did. -/
def fnExactRowOfSpec : ChangeSpec := { name := "fnExactRowOf", fn := fun _ => fun
  | [d1, d2] => { results := [.lit (.bool true)], args := [d1, d2] }
  | _ => none }
def fnExactRowOfRow : OpenClaim := { program := "ytegnjbdgeibhfaagreat", sum := "b263ea29cfa44b6038116d4c7712f36a920ae25fbab74e9bfebcbd92d2dfb4f5", func := "loop.example/g00782/laws.FnExactRowOf", spec := "fnExactRowOf", unfollowed := true, recurses := true, apart := false }
def FnExactRowOfSaid : Prop := fnExactRowOfRow.holds Tryz.pinned (OpenSpec.ofChange fnExactRowOfSpec)

/-- ITS FALSE NEIGHBOUR: 'it returns false'. Refute it at one input. -/
def fnExactRowOfWrong : ChangeSpec := { name := "fnExactRowOf", fn := fun _ => fun
  | [d1, d2] => { results := [.lit (.bool false)], args := [d1, d2] }
  | _ => none }
def FnExactRowOfWrongFalsely : Prop := fnExactRowOfRow.holds Tryz.pinned (OpenSpec.ofChange fnExactRowOfWrong)

/-- 'laws.FnExactSeenOf': WHATEVER THE INPUT: true; the input reads as it did. -/
def fnExactSeenOfSpec : ChangeSpec := { name := "fnExactSeenOf", fn := fun _ => fun
  | [d] => { results := [.lit (.bool true)], args := [d] }
  | _ => none }
def fnExactSeenOfRow : OpenClaim := { program := "ytegnjbdgeibhfaagreat", sum := "b263ea29cfa44b6038116d4c7712f36a920ae25fbab74e9bfebcbd92d2dfb4f5", func := "loop.example/g00782/laws.FnExactSeenOf", spec := "fnExactSeenOf", unfollowed := true, recurses := true, apart := false }
def FnExactSeenOfSaid : Prop := fnExactSeenOfRow.holds Tryz.pinned (OpenSpec.ofChange fnExactSeenOfSpec)

/-- ITS FALSE NEIGHBOUR: 'it returns false'. Refute it at one input. -/
def fnExactSeenOfWrong : ChangeSpec := { name := "fnExactSeenOf", fn := fun _ => fun
  | [d] => { results := [.lit (.bool false)], args := [d] }
  | _ => none }
def FnExactSeenOfWrongFalsely : Prop := fnExactSeenOfRow.holds Tryz.pinned (OpenSpec.ofChange fnExactSeenOfWrong)

/-- 'laws.FnExactLacks': WHATEVER THE INPUT: true; the input reads as it did. -/
def fnExactLacksSpec : ChangeSpec := { name := "fnExactLacks", fn := fun _ => fun
  | [d1, d2] => { results := [.lit (.bool true)], args := [d1, d2] }
  | _ => none }
def fnExactLacksRow : OpenClaim := { program := "ytegnjbdgeibhfaagreat", sum := "b263ea29cfa44b6038116d4c7712f36a920ae25fbab74e9bfebcbd92d2dfb4f5", func := "loop.example/g00782/laws.FnExactLacks", spec := "fnExactLacks", unfollowed := true, recurses := true, apart := false }
def FnExactLacksSaid : Prop := fnExactLacksRow.holds Tryz.pinned (OpenSpec.ofChange fnExactLacksSpec)

/-- ITS FALSE NEIGHBOUR: 'it returns false'. Refute it at one input. -/
def fnExactLacksWrong : ChangeSpec := { name := "fnExactLacks", fn := fun _ => fun
  | [d1, d2] => { results := [.lit (.bool false)], args := [d1, d2] }
  | _ => none }
def FnExactLacksWrongFalsely : Prop := fnExactLacksRow.holds Tryz.pinned (OpenSpec.ofChange fnExactLacksWrong)

/-- 'laws.FnExactOffer': WHATEVER THE INPUT: true; the input reads as it did. -/
def fnExactOfferSpec : ChangeSpec := { name := "fnExactOffer", fn := fun _ => fun
  | [d1, d2] => { results := [.lit (.bool true)], args := [d1, d2] }
  | _ => none }
def fnExactOfferRow : OpenClaim := { program := "ytegnjbdgeibhfaagreat", sum := "b263ea29cfa44b6038116d4c7712f36a920ae25fbab74e9bfebcbd92d2dfb4f5", func := "loop.example/g00782/laws.FnExactOffer", spec := "fnExactOffer", inPlace := ["sync/atomic.StorePointer", "sync/atomic.LoadPointer"], unfollowed := true, recurses := true, apart := false }
def FnExactOfferSaid : Prop := fnExactOfferRow.holds Tryz.pinned (OpenSpec.ofChange fnExactOfferSpec)

/-- ITS FALSE NEIGHBOUR: 'it returns false'. Refute it at one input. -/
def fnExactOfferWrong : ChangeSpec := { name := "fnExactOffer", fn := fun _ => fun
  | [d1, d2] => { results := [.lit (.bool false)], args := [d1, d2] }
  | _ => none }
def FnExactOfferWrongFalsely : Prop := fnExactOfferRow.holds Tryz.pinned (OpenSpec.ofChange fnExactOfferWrong)

/-- 'laws.FnExactShimRight': WHATEVER THE INPUT: true; the input reads as it did. -/
def fnExactShimRightSpec : ChangeSpec := { name := "fnExactShimRight", fn := fun _ => fun
  | [d] => { results := [.lit (.bool true)], args := [d] }
  | _ => none }
def fnExactShimRightRow : OpenClaim := { program := "ytegnjbdgeibhfaagreat", sum := "b263ea29cfa44b6038116d4c7712f36a920ae25fbab74e9bfebcbd92d2dfb4f5", func := "loop.example/g00782/laws.FnExactShimRight", spec := "fnExactShimRight", unfollowed := true, recurses := true, apart := false }
def FnExactShimRightSaid : Prop := fnExactShimRightRow.holds Tryz.pinned (OpenSpec.ofChange fnExactShimRightSpec)

/-- ITS FALSE NEIGHBOUR: 'it returns false'. Refute it at one input. -/
def fnExactShimRightWrong : ChangeSpec := { name := "fnExactShimRight", fn := fun _ => fun
  | [d] => { results := [.lit (.bool false)], args := [d] }
  | _ => none }
def FnExactShimRightWrongFalsely : Prop := fnExactShimRightRow.holds Tryz.pinned (OpenSpec.ofChange fnExactShimRightWrong)

/-- 'laws.FnExactReadAt': WHATEVER THE INPUT: true; the input reads as it did. -/
def fnExactReadAtSpec : ChangeSpec := { name := "fnExactReadAt", fn := fun _ => fun
  | [d1, d2] => { results := [.lit (.bool true)], args := [d1, d2] }
  | _ => none }
def fnExactReadAtRow : OpenClaim := { program := "ytegnjbdgeibhfaagreat", sum := "b263ea29cfa44b6038116d4c7712f36a920ae25fbab74e9bfebcbd92d2dfb4f5", func := "loop.example/g00782/laws.FnExactReadAt", spec := "fnExactReadAt", inPlace := ["sync/atomic.LoadInt64", "sync/atomic.AddInt64"], unfollowed := true, recurses := true, apart := false }
def FnExactReadAtSaid : Prop := fnExactReadAtRow.holds Tryz.pinned (OpenSpec.ofChange fnExactReadAtSpec)

/-- ITS FALSE NEIGHBOUR: 'it returns false'. Refute it at one input. -/
def fnExactReadAtWrong : ChangeSpec := { name := "fnExactReadAt", fn := fun _ => fun
  | [d1, d2] => { results := [.lit (.bool false)], args := [d1, d2] }
  | _ => none }
def FnExactReadAtWrongFalsely : Prop := fnExactReadAtRow.holds Tryz.pinned (OpenSpec.ofChange fnExactReadAtWrong)

/-- 'laws.FnExactWriteAt': WHATEVER THE INPUT: true; the input reads as it did. -/
def fnExactWriteAtSpec : ChangeSpec := { name := "fnExactWriteAt", fn := fun _ => fun
  | [d1, d2] => { results := [.lit (.bool true)], args := [d1, d2] }
  | _ => none }
def fnExactWriteAtRow : OpenClaim := { program := "ytegnjbdgeibhfaagreat", sum := "b263ea29cfa44b6038116d4c7712f36a920ae25fbab74e9bfebcbd92d2dfb4f5", func := "loop.example/g00782/laws.FnExactWriteAt", spec := "fnExactWriteAt", inPlace := ["sync/atomic.LoadInt64", "sync/atomic.AddInt64", "sync/atomic.StorePointer", "sync/atomic.LoadPointer"], unfollowed := true, recurses := true, apart := false }
def FnExactWriteAtSaid : Prop := fnExactWriteAtRow.holds Tryz.pinned (OpenSpec.ofChange fnExactWriteAtSpec)

/-- ITS FALSE NEIGHBOUR: 'it returns false'. Refute it at one input. -/
def fnExactWriteAtWrong : ChangeSpec := { name := "fnExactWriteAt", fn := fun _ => fun
  | [d1, d2] => { results := [.lit (.bool false)], args := [d1, d2] }
  | _ => none }
def FnExactWriteAtWrongFalsely : Prop := fnExactWriteAtRow.holds Tryz.pinned (OpenSpec.ofChange fnExactWriteAtWrong)

/-- 'laws.FnExactRestart': WHATEVER THE INPUT: true; the input reads as it did. -/
def fnExactRestartSpec : ChangeSpec := { name := "fnExactRestart", fn := fun _ => fun
  | [d] => { results := [.lit (.bool true)], args := [d] }
  | _ => none }
def fnExactRestartRow : OpenClaim := { program := "ytegnjbdgeibhfaagreat", sum := "b263ea29cfa44b6038116d4c7712f36a920ae25fbab74e9bfebcbd92d2dfb4f5", func := "loop.example/g00782/laws.FnExactRestart", spec := "fnExactRestart", unfollowed := true, recurses := true, apart := false }
def FnExactRestartSaid : Prop := fnExactRestartRow.holds Tryz.pinned (OpenSpec.ofChange fnExactRestartSpec)

/-- ITS FALSE NEIGHBOUR: 'it returns false'. Refute it at one input. -/
def fnExactRestartWrong : ChangeSpec := { name := "fnExactRestart", fn := fun _ => fun
  | [d] => { results := [.lit (.bool false)], args := [d] }
  | _ => none }
def FnExactRestartWrongFalsely : Prop := fnExactRestartRow.holds Tryz.pinned (OpenSpec.ofChange fnExactRestartWrong)

/-- 'laws.FnExactMissing': WHATEVER THE INPUT: true; the input reads as it did. -/
def fnExactMissingSpec : ChangeSpec := { name := "fnExactMissing", fn := fun _ => fun
  | [d] => { results := [.lit (.bool true)], args := [d] }
  | _ => none }
def fnExactMissingRow : OpenClaim := { program := "ytegnjbdgeibhfaagreat", sum := "b263ea29cfa44b6038116d4c7712f36a920ae25fbab74e9bfebcbd92d2dfb4f5", func := "loop.example/g00782/laws.FnExactMissing", spec := "fnExactMissing", unfollowed := true, recurses := true, apart := false }
def FnExactMissingSaid : Prop := fnExactMissingRow.holds Tryz.pinned (OpenSpec.ofChange fnExactMissingSpec)

/-- ITS FALSE NEIGHBOUR: 'it returns false'. Refute it at one input. -/
def fnExactMissingWrong : ChangeSpec := { name := "fnExactMissing", fn := fun _ => fun
  | [d] => { results := [.lit (.bool false)], args := [d] }
  | _ => none }
def FnExactMissingWrongFalsely : Prop := fnExactMissingRow.holds Tryz.pinned (OpenSpec.ofChange fnExactMissingWrong)

/- THE SECOND FORM. 'bulk': how many values and letters a reading holds, each counted each time it is reached (what is shared counts as often as it is met; a slice's spare places count too). A statement '..UptoSaid' is the law's where the arguments, and the package variables that the reading takes, are together of bulk at most 1048576: NARROWER than '..Said'. Prove '..Said' where nothing that the law and all that it calls make is longer than what came in: it says more and counts as full. Else prove '..UptoSaid'. A law counts once. -/
mutual
def uptoBulk {H : Type} : DataW H → Nat
  | .lit (.string bytes) => bytes.length + 1
  | .lit _ => 1
  | .nil => 1
  | .ptr d => uptoBulk d + 1
  | .slice elems spare => uptoBulkAll elems + uptoBulkAll spare + 1
  | .agg parts => uptoBulkAll parts + 1
  | .iface _ d => uptoBulk d + 1
  | .map entries => uptoBulkEntries entries + 1
  | .held _ => 1
def uptoBulkAll {H : Type} : List (DataW H) → Nat
  | [] => 0
  | d :: r => uptoBulk d + uptoBulkAll r
def uptoBulkEntries {H : Type} : List (Lit × DataW H) → Nat
  | [] => 0
  | x :: r => uptoBulkEntry x + uptoBulkEntries r
def uptoBulkEntry {H : Type} : Lit × DataW H → Nat
  | (.string bytes, d) => bytes.length + uptoBulk d + 1
  | (_, d) => uptoBulk d + 1
 end
def uptoSmall : (H : Type) → List (DataW H) → Bool := fun _ ds => decide (uptoBulkAll ds ≤ 1048576)
def OpenSpec.upto (s : _root_.Go.ChangeSpec) : _root_.Go.OpenSpec := { _root_.Go.OpenSpec.ofChange s with cond := some uptoSmall }

/-- 'laws.FnExactRowOf', WHERE WHAT IT READS IS OF BULK AT MOST 1048576: true; the input reads as it did. -/
def fnExactRowOfUptoRow : OpenClaim := { program := "ytegnjbdgeibhfaagreat", sum := "b263ea29cfa44b6038116d4c7712f36a920ae25fbab74e9bfebcbd92d2dfb4f5", func := "loop.example/g00782/laws.FnExactRowOf", spec := "fnExactRowOf", unfollowed := true, recurses := true, apart := false, narrowed := true }
def FnExactRowOfUptoSaid : Prop := fnExactRowOfUptoRow.holds Tryz.pinned (OpenSpec.upto fnExactRowOfSpec)

/-- 'laws.FnExactSeenOf', WHERE WHAT IT READS IS OF BULK AT MOST 1048576: true; the input reads as it did. -/
def fnExactSeenOfUptoRow : OpenClaim := { program := "ytegnjbdgeibhfaagreat", sum := "b263ea29cfa44b6038116d4c7712f36a920ae25fbab74e9bfebcbd92d2dfb4f5", func := "loop.example/g00782/laws.FnExactSeenOf", spec := "fnExactSeenOf", unfollowed := true, recurses := true, apart := false, narrowed := true }
def FnExactSeenOfUptoSaid : Prop := fnExactSeenOfUptoRow.holds Tryz.pinned (OpenSpec.upto fnExactSeenOfSpec)

/-- 'laws.FnExactLacks', WHERE WHAT IT READS IS OF BULK AT MOST 1048576: true; the input reads as it did. -/
def fnExactLacksUptoRow : OpenClaim := { program := "ytegnjbdgeibhfaagreat", sum := "b263ea29cfa44b6038116d4c7712f36a920ae25fbab74e9bfebcbd92d2dfb4f5", func := "loop.example/g00782/laws.FnExactLacks", spec := "fnExactLacks", unfollowed := true, recurses := true, apart := false, narrowed := true }
def FnExactLacksUptoSaid : Prop := fnExactLacksUptoRow.holds Tryz.pinned (OpenSpec.upto fnExactLacksSpec)

/-- 'laws.FnExactOffer', WHERE WHAT IT READS IS OF BULK AT MOST 1048576: true; the input reads as it did. -/
def fnExactOfferUptoRow : OpenClaim := { program := "ytegnjbdgeibhfaagreat", sum := "b263ea29cfa44b6038116d4c7712f36a920ae25fbab74e9bfebcbd92d2dfb4f5", func := "loop.example/g00782/laws.FnExactOffer", spec := "fnExactOffer", inPlace := ["sync/atomic.StorePointer", "sync/atomic.LoadPointer"], unfollowed := true, recurses := true, apart := false, narrowed := true }
def FnExactOfferUptoSaid : Prop := fnExactOfferUptoRow.holds Tryz.pinned (OpenSpec.upto fnExactOfferSpec)

/-- 'laws.FnExactShimRight', WHERE WHAT IT READS IS OF BULK AT MOST 1048576: true; the input reads as it did. -/
def fnExactShimRightUptoRow : OpenClaim := { program := "ytegnjbdgeibhfaagreat", sum := "b263ea29cfa44b6038116d4c7712f36a920ae25fbab74e9bfebcbd92d2dfb4f5", func := "loop.example/g00782/laws.FnExactShimRight", spec := "fnExactShimRight", unfollowed := true, recurses := true, apart := false, narrowed := true }
def FnExactShimRightUptoSaid : Prop := fnExactShimRightUptoRow.holds Tryz.pinned (OpenSpec.upto fnExactShimRightSpec)

/-- 'laws.FnExactReadAt', WHERE WHAT IT READS IS OF BULK AT MOST 1048576: true; the input reads as it did. -/
def fnExactReadAtUptoRow : OpenClaim := { program := "ytegnjbdgeibhfaagreat", sum := "b263ea29cfa44b6038116d4c7712f36a920ae25fbab74e9bfebcbd92d2dfb4f5", func := "loop.example/g00782/laws.FnExactReadAt", spec := "fnExactReadAt", inPlace := ["sync/atomic.LoadInt64", "sync/atomic.AddInt64"], unfollowed := true, recurses := true, apart := false, narrowed := true }
def FnExactReadAtUptoSaid : Prop := fnExactReadAtUptoRow.holds Tryz.pinned (OpenSpec.upto fnExactReadAtSpec)

/-- 'laws.FnExactWriteAt', WHERE WHAT IT READS IS OF BULK AT MOST 1048576: true; the input reads as it did. -/
def fnExactWriteAtUptoRow : OpenClaim := { program := "ytegnjbdgeibhfaagreat", sum := "b263ea29cfa44b6038116d4c7712f36a920ae25fbab74e9bfebcbd92d2dfb4f5", func := "loop.example/g00782/laws.FnExactWriteAt", spec := "fnExactWriteAt", inPlace := ["sync/atomic.LoadInt64", "sync/atomic.AddInt64", "sync/atomic.StorePointer", "sync/atomic.LoadPointer"], unfollowed := true, recurses := true, apart := false, narrowed := true }
def FnExactWriteAtUptoSaid : Prop := fnExactWriteAtUptoRow.holds Tryz.pinned (OpenSpec.upto fnExactWriteAtSpec)

/-- 'laws.FnExactRestart', WHERE WHAT IT READS IS OF BULK AT MOST 1048576: true; the input reads as it did. -/
def fnExactRestartUptoRow : OpenClaim := { program := "ytegnjbdgeibhfaagreat", sum := "b263ea29cfa44b6038116d4c7712f36a920ae25fbab74e9bfebcbd92d2dfb4f5", func := "loop.example/g00782/laws.FnExactRestart", spec := "fnExactRestart", unfollowed := true, recurses := true, apart := false, narrowed := true }
def FnExactRestartUptoSaid : Prop := fnExactRestartUptoRow.holds Tryz.pinned (OpenSpec.upto fnExactRestartSpec)

/-- 'laws.FnExactMissing', WHERE WHAT IT READS IS OF BULK AT MOST 1048576: true; the input reads as it did. -/
def fnExactMissingUptoRow : OpenClaim := { program := "ytegnjbdgeibhfaagreat", sum := "b263ea29cfa44b6038116d4c7712f36a920ae25fbab74e9bfebcbd92d2dfb4f5", func := "loop.example/g00782/laws.FnExactMissing", spec := "fnExactMissing", unfollowed := true, recurses := true, apart := false, narrowed := true }
def FnExactMissingUptoSaid : Prop := fnExactMissingUptoRow.holds Tryz.pinned (OpenSpec.upto fnExactMissingSpec)

end Rows
end Go.Proofs.YtegnjbdgeibhfaaGreat
