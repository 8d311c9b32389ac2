/-
  How much the answers on nets hold.
-/
import Derived.Test.YthagkjofpfafiaaNetFew
import Derived.Test.YthagkjofpfafiaaNetIGossip
namespace Go.Proofs.Ythagkjofpfafiaa.Net
open Sto (R Sl)
set_option linter.unusedVariables false
set_option maxRecDepth 100000

theorem sm_nil : Sm ([], []) := ⟨by simp, by simp, fun l hl => by simp [allP] at hl⟩
theorem sm_ok {p : List (List R) × List Pm} (h : OkN p) : Sm p := ⟨by have := h.1.2; omega, by have := h.2.1; omega, fun l hl => by have := (Sto.ok_of (h.2.2.2.1 l hl)).1; omega⟩
theorem sm_add {p : List (List R) × List Pm} (h : OkN p) (y : Pm) (hy : y.l.length ≤ 400) : Sm (addP p y) := by
  refine ⟨by have := h.1.2; unfold addP; simp only; omega, by have := h.2.1; unfold addP; simp; omega, fun l hl => ?_⟩
  unfold addP allP at hl
  rw [List.map_append, ← List.append_assoc] at hl
  rcases List.mem_append.1 hl with hl | hl
  · exact (sm_ok h).2.2 l hl
  · obtain rfl : l = y.l := by simpa using hl
    exact hy
theorem getD_small {L : List (List R)} (h : ∀ l ∈ L, l.length ≤ 400) (k : Nat) : (L.getD k []).length ≤ 400 := by
  rw [List.getD]
  cases e : L[k]? with
  | none => simp
  | some l => simpa using h l (List.mem_of_getElem? e)
theorem gosP_sm (p : List (List R) × List Pm) (f t : Int) : Sm (gosP p f t) := by
  unfold gosP
  split
  · rename_i h
    have ho := okN_of h
    split
    · split
      · exact sm_nil
      · refine sm_add ho _ (getD_small (fun l hl => ?_) _)
        have := (Sto.ok_of (ho.2.2.2.1 l (List.mem_append_left _ hl))).1
        omega
    · exact sm_nil
  · exact sm_nil
theorem twiP_sm (p : List (List R) × List Pm) (i : Int) : Sm (twiP p i) := by
  unfold twiP
  split
  · rename_i h
    have ho : OkN p := by
      unfold codeM at h
      split at h
      · rename_i h2; exact okN_of h2
      · cases h
    split
    · exact sm_nil
    · refine sm_add ho _ ?_
      rw [List.getD]
      cases e : p.2[i.toNat]? with
      | none => simp
      | some y =>
        have := (Sto.ok_of (ho.2.2.2.1 y.l (List.mem_append_right _ (List.mem_map.2 ⟨y, List.mem_of_getElem? e, rfl⟩)))).1
        simp only [Option.getD_some]; omega
  · exact sm_nil
end Go.Proofs.Ythagkjofpfafiaa.Net
