/-
  A right key: spec.KeyRight answers whether a string has one to four bytes, each a small letter.
-/
import Derived.Test.YthagkjofpfafiaaRows
import Derived.WalkKit
import Derived.ProofKit
import Derived.OpenShut
import Derived.ShutString
import Derived.Lib.Hide
namespace Go.Proofs.Ythagkjofpfafiaa.Key
open Go.ChangeShapes Go.WideShapes Go.ChangeAt Go.RowKit
set_option linter.unusedVariables false
set_option maxRecDepth 100000

def letB (c : Int) : Bool := decide (97 ≤ c ∧ c ≤ 122)
def KeyOk (s : ByteArray) : Prop := 1 ≤ s.size ∧ s.size ≤ 4 ∧ ∀ k (h : k < s.size), letB s[k].toNat = true
noncomputable def keyB (s : ByteArray) : Bool := @decide (KeyOk s) (Classical.propDecidable _)
theorem keyB_true {s : ByteArray} (h : KeyOk s) : keyB s = true := by simp [keyB, h]
theorem keyB_false {s : ByteArray} (h : ¬ KeyOk s) : keyB s = false := by simp [keyB, h]
theorem ok_of {s : ByteArray} (h : keyB s = true) : KeyOk s := by
  rcases Classical.em (KeyOk s) with h1 | h1
  · exact h1
  · rw [keyB_false h1] at h; cases h
theorem ret_bool {a b : Bool} (h : a = b) : Ending.returned (.bool a) = .returned (.bool b) := by rw [h]
theorem byte_le (b : UInt8) : (b.toNat : Int) ≤ 255 := by have := b.toNat_lt; omega

theorem specKey_any (s : ByteArray) (w : World) (hs : s.size ≤ maxLen) :
    Calls Try.prog 74 #[.string s] w fun e w' => e = .returned (.bool (keyB s)) ∧ w = w' := by
  unfold maxLen at hs
  go_enter Try.func74, Try.ntmps74
  go_wp2_with fail
  go_loop [3] (fun i => ∃ k : Nat, k ≤ s.size ∧ i = .int .i64 k ∧ Hid (∀ j (h : j < s.size), j < k → letB s[j].toNat = true)) (fun i => s.size - (intOf i).toNat)
  case atStart => exact ⟨0, by omega, rfl, Lib.hid fun j h hj => absurd hj (by omega)⟩
  case round =>
    obtain ⟨k, hk, rfl, HJ⟩ := hrel
    by_cases hlt : k < s.size
    · have hbk := byte_le s[k]
      by_cases a1 : 97 ≤ (s[k].toNat : Int)
      · by_cases a2 : (s[k].toNat : Int) ≤ 122
        · have HL : Hid (letB s[k].toNat = true) := by exact Lib.hid (by simp [letB]; omega)
          go_wp2
          go_round
          case rel => exact ⟨k + 1, by omega, by go_num, Lib.hid fun j h hj => by
            by_cases e : j = k
            · subst e; exact HL.out
            · exact HJ.out j h (by omega)⟩
          case measure => simp [intOf]; omega
        · have HL : Hid (letB s[k].toNat = false) := by exact Lib.hid (by simp only [letB, decide_eq_false_iff_not]; omega)
          go_wp2
          go_ret
          exact ⟨ret_bool (keyB_false fun h => by have := h.2.2 k hlt; rw [HL.out] at this; cases this).symm, rfl⟩
      · have HL : Hid (letB s[k].toNat = false) := by exact Lib.hid (by simp only [letB, decide_eq_false_iff_not]; omega)
        go_wp2
        go_ret
        exact ⟨ret_bool (keyB_false fun h => by have := h.2.2 k hlt; rw [HL.out] at this; cases this).symm, rfl⟩
    · by_cases b1 : 1 ≤ s.size
      · by_cases b2 : s.size ≤ 4
        · go_wp2
          go_ret
          refine ⟨ret_bool (Eq.trans ?_ (keyB_true ⟨by omega, by omega, fun j h => HJ.out j h (by omega)⟩).symm), rfl⟩
          exact decide_eq_true (by omega)
        · go_wp2
          go_ret
          refine ⟨ret_bool (Eq.trans ?_ (keyB_false fun h => b2 h.2.1).symm), rfl⟩
          exact decide_eq_false (by omega)
      · go_wp2
        go_ret
        exact ⟨ret_bool (keyB_false fun h => b1 h.1).symm, rfl⟩
end Go.Proofs.Ythagkjofpfafiaa.Key
