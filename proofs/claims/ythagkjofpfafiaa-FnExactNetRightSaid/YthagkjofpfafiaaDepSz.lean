/-
  The law's own szDepS at deps; eqDepS of two slices that read alike.
-/
import Derived.Test.YthagkjofpfafiaaDepToS
import Derived.Deep.RegionHeld3
import Derived.Lib.SlBuf
namespace Go.Proofs.Ythagkjofpfafiaa.Dep
open Go.ChangeShapes Go.WideShapes Go.ChangeAt Go.RowKit
set_option linter.unusedVariables false
set_option maxRecDepth 100000

theorem at_step {W W' : World} {p : Addr} {d : D} (h : At W p d) (hb : Below W.heap.size W W') : At W' p d :=
  ⟨Lib.Below.cellOf hb h.1 (Nat.le_refl _), Lib.Below.cellOf hb h.2.1 (Nat.le_refl _), Lib.Below.cellOf hb h.2.2.1 (Nat.le_refl _), Lib.Below.cellOf hb h.2.2.2 (Nat.le_refl _)⟩
/-- Two deps stand, and nothing below is written. -/
abbrev Pair (w : World) (p q : Addr) (d e : D) (W : World) : Prop := At W p d ∧ At W q e ∧ Below w.heap.size w W
theorem Pair.step {w W W' : World} {p q : Addr} {d e : D} (h : Pair w p q d e W) (hb : Below W.heap.size W W') : Pair w p q d e W' :=
  ⟨at_step h.1 hb, at_step h.2.1 hb, h.2.2.trans (hb.mono h.2.2.size)⟩
theorem Pair.drew {w W : World} {p q : Addr} {d e : D} (h : Pair w p q d e W) : Pair w p q d e W.drew := ⟨h.1, h.2.1, h.2.2.drew⟩

end Go.Proofs.Ythagkjofpfafiaa.Dep
