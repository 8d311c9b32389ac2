/-
  A right key: impl.KeyRight answers whether a string has one to four bytes, each a small letter.
-/
import Derived.Test.YthagkjofpfafiaaKey
namespace Go.Proofs.Ythagkjofpfafiaa.Key
open Go.ChangeShapes Go.WideShapes Go.ChangeAt Go.RowKit
set_option linter.unusedVariables false
set_option maxRecDepth 100000

theorem isLetter_any (c : Int) (w : World) (h0 : 0 ≤ c) (h1 : c ≤ 255) :
    Calls Try.prog 91 #[.int .u8 c] w fun e w' => e = .returned (.bool (letB c)) ∧ w = w' := by
  by_cases a : 97 ≤ c
  · by_cases b : c ≤ 122
    · go_enter Try.func91, Try.ntmps91
      go_wp2
      go_ret
      exact ⟨by simp [letB, a, b], rfl⟩
    · go_enter Try.func91, Try.ntmps91
      go_wp2
      go_ret
      exact ⟨by simp [letB, a, b], rfl⟩
  · go_enter Try.func91, Try.ntmps91
    go_wp2
    go_ret
    exact ⟨by simp [letB]; omega, rfl⟩

theorem implKey_any (s : ByteArray) (w : World) (hs : s.size ≤ maxLen) :
    Calls Try.prog 78 #[.string s] w fun e w' => e = .returned (.bool (keyB s)) ∧ w = w' := by
  unfold maxLen at hs
  by_cases b1 : 1 ≤ s.size
  · have b1' : ¬ s.size < 1 := by omega
    by_cases b2 : s.size ≤ 4
    · have b2' : ¬ 4 < s.size := by omega
      go_enter Try.func78, Try.ntmps78
      go_wp2_with fail
      go_loop [3] (fun i => ∃ k : Nat, k ≤ s.size ∧ i = .int .i64 k ∧ Hid (∀ j (h : j < s.size), j < k → letB s[j].toNat = true)) (fun i => s.size - (intOf i).toNat)
      case atStart => exact ⟨0, by omega, rfl, Lib.hid fun j h hj => absurd hj (by omega)⟩
      case round =>
        obtain ⟨k, hk, rfl, HJ⟩ := hrel
        by_cases hlt : k < s.size
        · have hbk := byte_le s[k]
          cases hl : letB s[k].toNat
          · have HL := Lib.hid hl
            clear hl
            go_wp2_with fail
            refine (isLetter_any _ _ (by omega) hbk).mono ?_
            rintro e w' ⟨rfl, rfl⟩
            rw [HL.out]
            go_wp2_with fail
            go_ret
            exact ⟨ret_bool (keyB_false fun h => by have := h.2.2 k hlt; rw [HL.out] at this; cases this).symm, rfl⟩
          · have HL := Lib.hid hl
            clear hl
            go_wp2_with fail
            refine (isLetter_any _ _ (by omega) hbk).mono ?_
            rintro e w' ⟨rfl, rfl⟩
            rw [HL.out]
            go_wp2_with fail
            go_round
            case rel => exact ⟨k + 1, by omega, by go_num, Lib.hid fun j h hj => by
              by_cases e : j = k
              · subst e; exact HL.out
              · exact HJ.out j h (by omega)⟩
            case measure => simp [intOf]; omega
        · go_wp2_with fail
          go_ret
          exact ⟨ret_bool (keyB_true ⟨by omega, by omega, fun j h => HJ.out j h (by omega)⟩).symm, rfl⟩
    · go_enter Try.func78, Try.ntmps78
      go_wp2_with fail
      go_ret
      exact ⟨ret_bool (keyB_false fun h => b2 h.2.1).symm, rfl⟩
  · go_enter Try.func78, Try.ntmps78
    go_wp2_with fail
    go_ret
    exact ⟨ret_bool (keyB_false fun h => b1 h.1).symm, rfl⟩
end Go.Proofs.Ythagkjofpfafiaa.Key
