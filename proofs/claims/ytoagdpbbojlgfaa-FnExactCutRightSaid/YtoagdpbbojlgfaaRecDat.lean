/-
  Right data: spec.DataRight, impl.DataRight answer whether a string has at most eight bytes, each a small letter or a digit.
-/
import Derived.Test.YtoagdpbbojlgfaaRecMath
import Derived.Test.YtoagdpbbojlgfaaPackDep
namespace Go.Proofs.Ytoagdpbbojlgfaa.Rec
open Go.ChangeShapes Go.WideShapes Go.ChangeAt Go.RowKit
set_option linter.unusedVariables false
set_option maxRecDepth 100000
set_option linter.unusedSimpArgs false

theorem dat_yes {c : Int} (h : (97 ≤ c ∧ c ≤ 122) ∨ (48 ≤ c ∧ c ≤ 57)) : datC c = true := by unfold datC; exact decide_eq_true h
theorem dat_no {c : Int} (h : ¬ ((97 ≤ c ∧ c ≤ 122) ∨ (48 ≤ c ∧ c ≤ 57))) : datC c = false := by unfold datC; exact decide_eq_false h
theorem dat_bad {s : ByteArray} {k : Nat} (hk : k < s.size) (h : datC s[k].toNat = false) : datB s = false := datB_false fun ho => by have := ho.2 k hk; rw [h] at this; cases this

theorem isDigit_any (c : Int) (w : World) (h0 : 0 ≤ c) (h1 : c ≤ 255) :
    Calls Try.prog 97 #[.int .u8 c] w fun e w' => e = .returned (.bool (decide (48 ≤ c ∧ c ≤ 57))) ∧ w = w' := by
  by_cases a : 48 ≤ c
  · by_cases b : c ≤ 57
    · go_enter Try.func97, Try.ntmps97
      go_wp2
      go_ret
      exact ⟨by simp [a, b], rfl⟩
    · go_enter Try.func97, Try.ntmps97
      go_wp2
      go_ret
      exact ⟨by simp [a, b], rfl⟩
  · go_enter Try.func97, Try.ntmps97
    go_wp2
    go_ret
    exact ⟨by simp; omega, rfl⟩

theorem specData_any (s : ByteArray) (w : World) (hs : s.size ≤ maxLen) :
    Calls Try.prog 59 #[.string s] w fun e w' => e = .returned (.bool (datB s)) ∧ w = w' := by
  unfold maxLen at hs
  go_enter Try.func59, Try.ntmps59
  go_wp2_with fail
  go_loop [3] (fun i => ∃ k : Nat, k ≤ s.size ∧ i = .int .i64 k ∧ Hid (∀ j (h : j < s.size), j < k → datC s[j].toNat = true)) (fun i => s.size - (intOf i).toNat)
  case atStart => exact ⟨0, by omega, rfl, Lib.hid fun j h hj => absurd hj (by omega)⟩
  case round =>
    obtain ⟨k, hk, rfl, HJ⟩ := hrel
    by_cases hlt : k < s.size
    · have hbk := Key.byte_le s[k]
      have hgo : datC s[k].toNat = true → Hid (∀ j (h : j < s.size), j < k + 1 → datC s[j].toNat = true) := fun hd => Lib.hid fun j h hj => by
        by_cases e : j = k
        · subst e; exact hd
        · exact HJ.out j h (by omega)
      have HGO := Lib.hid hgo
      clear hgo
      by_cases a1 : (s[k].toNat : Int) < 97
      · by_cases a2 : (s[k].toNat : Int) < 48
        · have HL := Lib.hid (dat_bad hlt (dat_no (by omega)))
          go_wp2
          go_ret
          exact ⟨Key.ret_bool HL.out.symm, rfl⟩
        · by_cases a3 : 57 < (s[k].toNat : Int)
          · have HL := Lib.hid (dat_bad hlt (dat_no (by omega)))
            go_wp2
            go_ret
            exact ⟨Key.ret_bool HL.out.symm, rfl⟩
          · have HL := HGO.out (dat_yes (by omega))
            go_wp2
            go_round
            case rel => exact ⟨k + 1, by omega, by go_num, HL⟩
            case measure => simp [intOf]; omega
      · by_cases a2 : 122 < (s[k].toNat : Int)
        · have a3 : ¬ (s[k].toNat : Int) < 48 := by omega
          have a4 : 57 < (s[k].toNat : Int) := by omega
          have HL := Lib.hid (dat_bad hlt (dat_no (by omega)))
          go_wp2
          go_ret
          exact ⟨Key.ret_bool HL.out.symm, rfl⟩
        · have HL := HGO.out (dat_yes (by omega))
          go_wp2
          go_round
          case rel => exact ⟨k + 1, by omega, by go_num, HL⟩
          case measure => simp [intOf]; omega
    · by_cases b2 : s.size ≤ 8
      · have HL := Lib.hid (datB_true ⟨b2, fun j h => HJ.out j h (by omega)⟩)
        go_wp2
        go_ret
        refine ⟨Key.ret_bool (Eq.trans ?_ HL.out.symm), rfl⟩
        exact decide_eq_true (by omega)
      · have HL := Lib.hid (datB_false (s := s) fun h => b2 h.1)
        go_wp2
        go_ret
        refine ⟨Key.ret_bool (Eq.trans ?_ HL.out.symm), rfl⟩
        exact decide_eq_false (by omega)

theorem isDataByte_any (c : Int) (w : World) (h0 : 0 ≤ c) (h1 : c ≤ 255) :
    Calls Try.prog 95 #[.int .u8 c] w fun e w' => e = .returned (.bool (datC c)) ∧ w = w' := by
  cases hl : Key.letB c
  · have HL := Lib.hid hl
    clear hl
    go_enter Try.func95, Try.ntmps95
    go_wp2_with fail
    refine (Key.isLetter_any _ _ h0 h1).mono ?_
    rintro e w' ⟨rfl, rfl⟩
    rw [HL.out]
    go_wp2_with fail
    refine (isDigit_any _ _ h0 h1).mono ?_
    rintro e w' ⟨rfl, rfl⟩
    have hv : decide (48 ≤ c ∧ c ≤ 57) = datC c := by
      have a := HL.out
      simp only [Key.letB, decide_eq_false_iff_not] at a
      unfold datC
      exact decide_eq_decide.2 ⟨fun h => .inr h, fun h => h.resolve_left a⟩
    rw [hv]
    clear hv
    obtain ⟨t, ht⟩ : ∃ t, datC c = t := ⟨_, rfl⟩
    have HT := Lib.hid ht
    rw [ht]
    clear ht
    go_wp2_with fail
    go_ret
    exact ⟨Key.ret_bool HT.out.symm, rfl⟩
  · have HL := Lib.hid hl
    clear hl
    go_enter Try.func95, Try.ntmps95
    go_wp2_with fail
    refine (Key.isLetter_any _ _ h0 h1).mono ?_
    rintro e w' ⟨rfl, rfl⟩
    rw [HL.out]
    go_wp2_with fail
    go_ret
    exact ⟨Key.ret_bool (dat_yes (.inl (by have a := HL.out; simpa only [Key.letB, decide_eq_true_eq] using a))).symm, rfl⟩

theorem implData_any (s : ByteArray) (w : World) (hs : s.size ≤ maxLen) :
    Calls Try.prog 91 #[.string s] w fun e w' => e = .returned (.bool (datB s)) ∧ w = w' := by
  unfold maxLen at hs
  by_cases b2 : 8 < s.size
  · go_enter Try.func91, Try.ntmps91
    go_wp2_with fail
    go_ret
    exact ⟨Key.ret_bool (datB_false fun h => by have := h.1; omega).symm, rfl⟩
  go_enter Try.func91, Try.ntmps91
  go_wp2_with fail
  go_loop [3] (fun i => ∃ k : Nat, k ≤ s.size ∧ i = .int .i64 k ∧ Hid (∀ j (h : j < s.size), j < k → datC s[j].toNat = true)) (fun i => s.size - (intOf i).toNat)
  case atStart => exact ⟨0, by omega, rfl, Lib.hid fun j h hj => absurd hj (by omega)⟩
  case round =>
    obtain ⟨k, hk, rfl, HJ⟩ := hrel
    by_cases hlt : k < s.size
    · have hbk := Key.byte_le s[k]
      have hgo : datC s[k].toNat = true → Hid (∀ j (h : j < s.size), j < k + 1 → datC s[j].toNat = true) := fun hd => Lib.hid fun j h hj => by
        by_cases e : j = k
        · subst e; exact hd
        · exact HJ.out j h (by omega)
      have HGO := Lib.hid hgo
      clear hgo
      cases h1 : datC s[k].toNat
      · have HL := Lib.hid (dat_bad hlt h1)
        have H1 := Lib.hid h1
        clear h1
        go_wp2_with fail
        refine (isDataByte_any _ _ (by omega) hbk).mono ?_
        rintro e w' ⟨rfl, rfl⟩
        rw [H1.out]
        go_wp2_with fail
        go_ret
        exact ⟨Key.ret_bool HL.out.symm, rfl⟩
      · have HL := HGO.out h1
        have H1 := Lib.hid h1
        clear h1
        go_wp2_with fail
        refine (isDataByte_any _ _ (by omega) hbk).mono ?_
        rintro e w' ⟨rfl, rfl⟩
        rw [H1.out]
        go_wp2_with fail
        go_round
        case rel => exact ⟨k + 1, by omega, by go_num, HL⟩
        case measure => simp [intOf]; omega
    · go_wp2_with fail
      go_ret
      exact ⟨Key.ret_bool (datB_true ⟨by omega, fun j h => HJ.out j h (by omega)⟩).symm, rfl⟩

end Go.Proofs.Ytoagdpbbojlgfaa.Rec
