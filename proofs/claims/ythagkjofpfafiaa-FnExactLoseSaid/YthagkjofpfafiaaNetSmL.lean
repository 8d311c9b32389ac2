/-
  How much a net without one letter holds.
-/
import Derived.Test.YthagkjofpfafiaaNetSm
import Derived.Test.YthagkjofpfafiaaNetSLose
namespace Go.Proofs.Ythagkjofpfafiaa.Net
open Sto (R Sl)
set_option linter.unusedVariables false
set_option maxRecDepth 100000

theorem losP_sm (p : List (List R) × List Pm) (i : Int) : Sm (losP p i) := by
  unfold losP
  split
  · rename_i h
    have ho := sm_ok (okN_of (code_place h).1)
    refine ⟨ho.1, ?_, fun l hl => ho.2.2 l ?_⟩
    · have := ho.2.1
      have := (List.eraseIdx_sublist p.2 i.toNat).length_le
      simp only; omega
    · unfold allP at hl ⊢
      rcases List.mem_append.1 hl with hl | hl
      · exact List.mem_append_left _ hl
      · exact List.mem_append_right _ (((List.eraseIdx_sublist p.2 i.toNat).map _).subset hl)
  · exact sm_nil
end Go.Proofs.Ythagkjofpfafiaa.Net
