/-
  The Go functions spec.NameRight and impl.NameRight answer the same for every string, and the law over them answers true.
  No condition beside the form's own bound on a string's length.
-/
import Derived.Test.YtbdmildlcgecjaaRows
import Derived.WalkKit
import Derived.ProofKit
import Derived.OpenShut
import Derived.ShutString
import Derived.Lib.Hide
namespace Go.Proofs.Ytbdmildlcgecjaa.NameRight
open Go.ChangeShapes Go.WideShapes Go.ChangeAt Go.RowKit
set_option linter.unusedVariables false

def letB (c : Int) : Bool := decide (97 ≤ c ∧ c ≤ 122)
def digB (c : Int) : Bool := decide (48 ≤ c ∧ c ≤ 57)
def innB (c : Int) : Bool := letB c || digB c || c == 95
def NameOk (s : ByteArray) : Prop :=
  1 ≤ s.size ∧ s.size ≤ 20 ∧ (∀ h : 0 < s.size, letB s[0].toNat = true) ∧ ∀ k (h : k < s.size), innB s[k].toNat = true
noncomputable def nameB (s : ByteArray) : Bool := @decide (NameOk s) (Classical.propDecidable _)
theorem nameB_true {s : ByteArray} (h : NameOk s) : nameB s = true := by simp [nameB, h]
theorem nameB_false {s : ByteArray} (h : ¬ NameOk s) : nameB s = false := by simp [nameB, h]
theorem ret_bool {a b : Bool} (h : a = b) : Ending.returned (.bool a) = .returned (.bool b) := by rw [h]
theorem byte_le (b : UInt8) : (b.toNat : Int) ≤ 255 := by have := b.toNat_lt; omega

theorem isLetter_any (c : Int) (w : World) (h0 : 0 ≤ c) (h1 : c ≤ 255) :
    Calls Try.prog 40 #[.int .u8 c] w fun e w' => e = .returned (.bool (letB c)) ∧ w = w' := by
  by_cases a : 97 ≤ c
  · by_cases b : c ≤ 122
    · go_enter Try.func40, Try.ntmps40
      go_wp2
      go_ret
      exact ⟨by simp [letB, a, b], rfl⟩
    · go_enter Try.func40, Try.ntmps40
      go_wp2
      go_ret
      exact ⟨by simp [letB, a, b], rfl⟩
  · go_enter Try.func40, Try.ntmps40
    go_wp2
    go_ret
    exact ⟨by simp [letB]; omega, rfl⟩

theorem isDigit_any (c : Int) (w : World) (h0 : 0 ≤ c) (h1 : c ≤ 255) :
    Calls Try.prog 41 #[.int .u8 c] w fun e w' => e = .returned (.bool (digB c)) ∧ w = w' := by
  by_cases a : 48 ≤ c
  · by_cases b : c ≤ 57
    · go_enter Try.func41, Try.ntmps41
      go_wp2
      go_ret
      exact ⟨by simp [digB, a, b], rfl⟩
    · go_enter Try.func41, Try.ntmps41
      go_wp2
      go_ret
      exact ⟨by simp [digB, a, b], rfl⟩
  · go_enter Try.func41, Try.ntmps41
    go_wp2
    go_ret
    exact ⟨by simp [digB]; omega, rfl⟩

theorem isLetter_at (c : Int) (b : Bool) (w : World) (h0 : 0 ≤ c) (h1 : c ≤ 255) (h : letB c = b) :
    Calls Try.prog 40 #[.int .u8 c] w fun e w' => e = .returned (.bool b) ∧ w = w' := by
  subst h; exact isLetter_any c w h0 h1
theorem isDigit_at (c : Int) (b : Bool) (w : World) (h0 : 0 ≤ c) (h1 : c ≤ 255) (h : digB c = b) :
    Calls Try.prog 41 #[.int .u8 c] w fun e w' => e = .returned (.bool b) ∧ w = w' := by
  subst h; exact isDigit_any c w h0 h1

set_option maxHeartbeats 400000 in
theorem implNameRight_any (s : ByteArray) (w : World) (hs : s.size ≤ maxLen) :
    Calls Try.prog 25 #[.string s] w fun e w' => e = .returned (.bool (nameB s)) ∧ w = w' := by
  unfold maxLen at hs
  by_cases h1 : s.size < 1
  · go_enter Try.func25, Try.ntmps25
    go_wp2
    go_ret
    exact ⟨ret_bool (nameB_false fun h => by have := h.1; omega).symm, rfl⟩
  by_cases h2 : 20 < s.size
  · go_enter Try.func25, Try.ntmps25
    go_wp2
    go_ret
    exact ⟨ret_bool (nameB_false fun h => by have := h.2.1; omega).symm, rfl⟩
  have h0 : 0 < s.size := by omega
  have hb0 := byte_le s[0]
  cases hl0 : letB s[0].toNat
  · have H0 := Lib.hid hl0; clear hl0
    go_enter Try.func25, Try.ntmps25
    go_wp2_with (go_at_call 40; refine (isLetter_at _ _ _ (by omega) hb0 H0.out).mono ?_; rintro e w' ⟨rfl, rfl⟩)
    go_ret
    exact ⟨ret_bool (nameB_false fun h => by have := h.2.2.1 h0; rw [H0.out] at this; cases this).symm, rfl⟩
  · have H0 := Lib.hid hl0; clear hl0
    go_enter Try.func25, Try.ntmps25
    go_wp2_with (go_at_call 40; refine (isLetter_at _ _ _ (by omega) hb0 H0.out).mono ?_; rintro e w' ⟨rfl, rfl⟩)
    go_loop [3] (fun i => ∃ k : Nat, 1 ≤ k ∧ k ≤ s.size ∧ i = .int .i64 k ∧ Hid (∀ j (h : j < s.size), j < k → innB s[j].toNat = true)) (fun i => s.size - (intOf i).toNat)
    case atStart =>
      exact ⟨1, by omega, by omega, rfl, Lib.hid fun j h hj => by
        have : j = 0 := by omega
        subst this
        have := H0.out
        simp [innB, this]⟩
    case round =>
      obtain ⟨k, hk1, hk, rfl, HJ⟩ := hrel
      by_cases hlt : k < s.size
      · have hbk := byte_le s[k]
        cases hl : letB s[k].toNat
        · cases hd : digB s[k].toNat
          · by_cases hu : (s[k].toNat : Int) = 95
            · have hub : (((s[k].toNat : Nat) : Int) == 95) = true := by simpa using hu
              have hub2 : (((s[k].toNat : Nat) : Int) != 95) = false := by simpa using hu
              have HI : Hid (innB s[k].toNat = true) := by exact Lib.hid (by simp [innB, hub])
              have HL := Lib.hid hl; clear hl
              have HD := Lib.hid hd; clear hd
              have HU := Lib.hid hu; clear hu
              go_wp2_with (first | (go_at_call 40; refine (isLetter_at _ _ _ (by omega) hbk HL.out).mono ?_; rintro e w' ⟨rfl, rfl⟩) | (go_at_call 41; refine (isDigit_at _ _ _ (by omega) hbk HD.out).mono ?_; rintro e w' ⟨rfl, rfl⟩))
              go_round
              case rel => exact ⟨k + 1, by omega, by omega, by go_num, Lib.hid fun j h hj => by
                by_cases e : j = k
                · subst e; exact HI.out
                · exact HJ.out j h (by omega)⟩
              case measure => simp [intOf]; omega
            · have hub : (((s[k].toNat : Nat) : Int) == 95) = false := by simpa using hu
              have hub2 : (((s[k].toNat : Nat) : Int) != 95) = true := by simpa using hu
              have HI : Hid (innB s[k].toNat = false) := by exact Lib.hid (by simp [innB, hub, hl, hd])
              have HL := Lib.hid hl; clear hl
              have HD := Lib.hid hd; clear hd
              have HU := Lib.hid hu; clear hu
              go_wp2_with (first | (go_at_call 40; refine (isLetter_at _ _ _ (by omega) hbk HL.out).mono ?_; rintro e w' ⟨rfl, rfl⟩) | (go_at_call 41; refine (isDigit_at _ _ _ (by omega) hbk HD.out).mono ?_; rintro e w' ⟨rfl, rfl⟩))
              go_ret
              exact ⟨ret_bool (nameB_false fun h => by have := h.2.2.2 k hlt; rw [HI.out] at this; cases this).symm, rfl⟩
          · have HI : Hid (innB s[k].toNat = true) := by exact Lib.hid (by simp [innB, hd])
            have HL := Lib.hid hl; clear hl
            have HD := Lib.hid hd; clear hd
            go_wp2_with (first | (go_at_call 40; refine (isLetter_at _ _ _ (by omega) hbk HL.out).mono ?_; rintro e w' ⟨rfl, rfl⟩) | (go_at_call 41; refine (isDigit_at _ _ _ (by omega) hbk HD.out).mono ?_; rintro e w' ⟨rfl, rfl⟩))
            go_round
            case rel => exact ⟨k + 1, by omega, by omega, by go_num, Lib.hid fun j h hj => by
              by_cases e : j = k
              · subst e; exact HI.out
              · exact HJ.out j h (by omega)⟩
            case measure => simp [intOf]; omega
        · have HI : Hid (innB s[k].toNat = true) := by exact Lib.hid (by simp [innB, hl])
          have HL := Lib.hid hl; clear hl
          go_wp2_with (go_at_call 40; refine (isLetter_at _ _ _ (by omega) hbk HL.out).mono ?_; rintro e w' ⟨rfl, rfl⟩)
          go_round
          case rel => exact ⟨k + 1, by omega, by omega, by go_num, Lib.hid fun j h hj => by
            by_cases e : j = k
            · subst e; exact HI.out
            · exact HJ.out j h (by omega)⟩
          case measure => simp [intOf]; omega
      · go_wp2
        go_ret
        exact ⟨ret_bool (nameB_true ⟨by omega, by omega, fun _ => H0.out, fun j h => HJ.out j h (by omega)⟩).symm, rfl⟩

set_option maxHeartbeats 400000 in
theorem specNameRight_any (s : ByteArray) (w : World) (hs : s.size ≤ maxLen) :
    Calls Try.prog 24 #[.string s] w fun e w' => e = .returned (.bool (nameB s)) ∧ w = w' := by
  unfold maxLen at hs
  by_cases h1 : s.size < 1
  · go_enter Try.func24, Try.ntmps24
    go_wp2
    go_ret
    exact ⟨ret_bool (nameB_false fun h => by have := h.1; omega).symm, rfl⟩
  by_cases h2 : 20 < s.size
  · go_enter Try.func24, Try.ntmps24
    go_wp2
    go_ret
    exact ⟨ret_bool (nameB_false fun h => by have := h.2.1; omega).symm, rfl⟩
  have h0 : 0 < s.size := by omega
  go_enter Try.func24, Try.ntmps24
  go_wp2
  go_loop [3] (fun i => ∃ k : Nat, k ≤ s.size ∧ i = .int .i64 k ∧ Hid (0 < s.size ∧ (0 < k → letB s[0].toNat = true) ∧ ∀ j (h : j < s.size), j < k → innB s[j].toNat = true)) (fun i => s.size - (intOf i).toNat)
  case atStart => exact ⟨0, by omega, rfl, Lib.hid ⟨h0, fun h => absurd h (by omega), fun j h hj => absurd hj (by omega)⟩⟩
  case round =>
    obtain ⟨k, hk, rfl, HJ⟩ := hrel
    by_cases hlt : k < s.size
    · have hbk := byte_le s[k]
      by_cases a : 97 ≤ (s[k].toNat : Int) ∧ (s[k].toNat : Int) ≤ 122
      · obtain ⟨a1, a2⟩ := a
        have HL : Hid (letB s[k].toNat = true) := by exact Lib.hid (by simp [letB]; omega)
        have HI : Hid (innB s[k].toNat = true) := by exact Lib.hid (by simp [innB, HL.out])
        go_wp2
        go_round
        case rel => exact ⟨k + 1, by omega, by go_num, Lib.hid ⟨h0, fun _ => by
          by_cases e : k = 0
          · subst e; exact HL.out
          · exact HJ.out.2.1 (by omega), fun j h hj => by
          by_cases e : j = k
          · subst e; exact HI.out
          · exact HJ.out.2.2 j h (by omega)⟩⟩
        case measure => simp [intOf]; omega
      · have HL : Hid (letB s[k].toNat = false) := by exact Lib.hid (by simp only [letB, decide_eq_false_iff_not]; exact a)
        have HA := Lib.hid a
        by_cases hz : k = 0
        · have HN : Hid (¬ NameOk s) := by
            refine Lib.hid ?_
            intro h
            have := h.2.2.1 h0
            have h2 := HL.out
            simp only [hz] at h2
            rw [h2] at this; cases this
          have hzb : (((k : Nat) : Int) == 0) = true := by simpa using hz
          have HZ := Lib.hid hz; clear hz
          by_cases a1 : 97 ≤ (s[k].toNat : Int)
          · have a2 : ¬ (s[k].toNat : Int) ≤ 122 := fun h => a ⟨a1, h⟩
            clear a
            go_wp2
            go_ret
            exact ⟨ret_bool (nameB_false HN.out).symm, rfl⟩
          · clear a
            go_wp2
            go_ret
            exact ⟨ret_bool (nameB_false HN.out).symm, rfl⟩
        · have hzb : (((k : Nat) : Int) == 0) = false := by simpa using hz
          have hk0 : 0 < k := by omega
          clear hz
          by_cases d : (48 ≤ (s[k].toNat : Int) ∧ (s[k].toNat : Int) ≤ 57) ∨ (s[k].toNat : Int) = 95
          · have HI : Hid (innB s[k].toNat = true) := by
              refine Lib.hid ?_
              simp only [innB, digB, Bool.or_eq_true, decide_eq_true_eq, beq_iff_eq]
              rcases d with d | d
              · exact .inl (.inr d)
              · exact .inr d
            by_cases d1 : 48 ≤ (s[k].toNat : Int)
            · by_cases d2 : (s[k].toNat : Int) ≤ 57
              · clear d
                have a1 : ¬ 97 ≤ (s[k].toNat : Int) := by omega
                clear a
                go_wp2
                go_round
                case rel => exact ⟨k + 1, by omega, by go_num, Lib.hid ⟨h0, fun _ => HJ.out.2.1 hk0, fun j h hj => by
                  by_cases e : j = k
                  · subst e; exact HI.out
                  · exact HJ.out.2.2 j h (by omega)⟩⟩
                case measure => simp [intOf]; omega
              · have hu : (s[k].toNat : Int) = 95 := by omega
                have a1 : ¬ 97 ≤ (s[k].toNat : Int) := by omega
                clear a d
                have hub : (((s[k].toNat : Nat) : Int) == 95) = true := by simpa using hu
                have hub2 : (((s[k].toNat : Nat) : Int) != 95) = false := by simpa using hu
                have HU := Lib.hid hu; clear hu
                go_wp2
                go_round
                case rel => exact ⟨k + 1, by omega, by go_num, Lib.hid ⟨h0, fun _ => HJ.out.2.1 hk0, fun j h hj => by
                  by_cases e : j = k
                  · subst e; exact HI.out
                  · exact HJ.out.2.2 j h (by omega)⟩⟩
                case measure => simp [intOf]; omega
            · exfalso; omega
          · have HI : Hid (innB s[k].toNat = false) := by
              refine Lib.hid ?_
              have := HL.out
              cases hh : innB s[k].toNat
              · rfl
              · exfalso
                simp only [innB, digB, this, Bool.or_eq_true, decide_eq_true_eq, beq_iff_eq] at hh
                rcases hh with (hh | hh) | hh
                · cases hh
                · exact d (.inl hh)
                · exact d (.inr hh)
            have hu : ¬ (s[k].toNat : Int) = 95 := fun h => d (.inr h)
            have hub : (((s[k].toNat : Nat) : Int) == 95) = false := by simpa using hu
            have hub2 : (((s[k].toNat : Nat) : Int) != 95) = true := by simpa using hu
            have HU := Lib.hid hu; clear hu
            have d' : ¬ (48 ≤ (s[k].toNat : Int) ∧ (s[k].toNat : Int) ≤ 57) := fun h => d (.inl h)
            clear d
            by_cases a1 : 97 ≤ (s[k].toNat : Int)
            · have a2 : ¬ (s[k].toNat : Int) ≤ 122 := fun h => a ⟨a1, h⟩
              have d1 : 48 ≤ (s[k].toNat : Int) := by omega
              have d2 : ¬ (s[k].toNat : Int) ≤ 57 := by omega
              clear a d'
              go_wp2
              go_ret
              exact ⟨ret_bool (nameB_false fun h => by have := h.2.2.2 k hlt; rw [HI.out] at this; cases this).symm, rfl⟩
            · clear a
              by_cases d1 : 48 ≤ (s[k].toNat : Int)
              · have d2 : ¬ (s[k].toNat : Int) ≤ 57 := fun h => d' ⟨d1, h⟩
                clear d'
                go_wp2
                go_ret
                exact ⟨ret_bool (nameB_false fun h => by have := h.2.2.2 k hlt; rw [HI.out] at this; cases this).symm, rfl⟩
              · clear d'
                go_wp2
                go_ret
                exact ⟨ret_bool (nameB_false fun h => by have := h.2.2.2 k hlt; rw [HI.out] at this; cases this).symm, rfl⟩
    · go_wp2
      go_ret
      exact ⟨ret_bool (nameB_true ⟨by omega, by omega, fun _ => HJ.out.2.1 (by omega), fun j h => HJ.out.2.2 j h (by omega)⟩).symm, rfl⟩

theorem law (s : ByteArray) (hs : s.size ≤ maxLen) (w : World) :
    Calls Try.prog 6 #[.string s] w fun e w' => e = .returned (.bool true) ∧ Grown w w' := by
  have hm := hs
  unfold maxLen at hm
  by_cases h1 : 1048576 < s.size
  · go_enter Try.func6, Try.ntmps6
    go_wp2_with fail
    go_ret
    exact ⟨rfl, Grown.refl _⟩
  · have h2 : ¬ (1048576 : Int) < (s.size : Int) := by omega
    go_enter Try.func6, Try.ntmps6
    go_wp2_with (first | (go_at_call 24; refine (specNameRight_any _ _ hs).mono ?_; rintro e w' ⟨rfl, rfl⟩) | (go_at_call 25; refine (implNameRight_any _ _ hs).mono ?_; rintro e w' ⟨rfl, rfl⟩))
    go_ret
    exact ⟨rfl, Grown.refl _⟩
end Go.Proofs.Ytbdmildlcgecjaa.NameRight
