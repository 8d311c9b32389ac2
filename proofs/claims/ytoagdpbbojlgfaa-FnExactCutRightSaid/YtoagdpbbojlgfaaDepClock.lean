/-
  spec.ClockOf: the greatest clock of right deps, else 0.
-/
import Derived.Test.YtoagdpbbojlgfaaDepRight
namespace Go.Proofs.Ytoagdpbbojlgfaa.Dep
open Go.ChangeShapes Go.WideShapes Go.ChangeAt Go.RowKit
set_option linter.unusedVariables false
set_option maxRecDepth 100000

def max2 (a b : Int) : Int := if a > b then a else b
noncomputable def clockB (l : List D) : Int := if depsB l = true then clockV l else 0
theorem clock_step (l : List D) (k : Nat) (h : k < l.length) : clockV (l.take (k + 1)) = max2 (clockV (l.take k)) l[k].i.c := by
  unfold clockV max2
  rw [show l.take (k + 1) = l.take k ++ [l[k]] by simp, List.foldl_append]
  rfl

theorem specMax_any (a b : Int) (w : World) : Calls Try.prog 82 #[.int .i64 a, .int .i64 b] w fun x w' => x = .returned (.int .i64 (max2 a b)) ∧ w = w' := by
  by_cases h : b < a
  · have e : max2 a b = a := if_pos h
    rw [e]
    go_enter Try.func82, Try.ntmps82
    go_wp2
    go_ret
    exact ⟨rfl, rfl⟩
  · have e : max2 a b = b := if_neg h
    rw [e]
    go_enter Try.func82, Try.ntmps82
    go_wp2
    go_ret
    exact ⟨rfl, rfl⟩

theorem specClock_any (A : Option Addr) (l : List D) (cap : Nat) (w : World) (h : Lies w w.heap.size A l) (hl : l.length ≤ maxLen) (hk : ∀ d ∈ l, d.k.size ≤ maxLen) :
    Calls Try.prog 62 #[slV A l cap] w fun x w' => x = .returned (.int .i64 (clockB l)) ∧ Below w.heap.size w w' := by
  have hl2 := hl
  unfold maxLen at hl2
  cases hd : depsB l
  · have HV : Hid (clockB l = 0) := by exact Lib.hid (by unfold clockB; rw [hd]; rfl)
    have HC := Lib.hid (fun W (hW : Lies W W.heap.size A l) => specDeps_any A l cap W hW hl hk)
    rw [hd] at HC
    clear hd
    unfold slV
    have H := Lib.hid h
    clear h
    unfold slV at HC
    by_cases h0 : 0 < l.length
    · go_enter Try.func62, Try.ntmps62
      go_wp2_with fail
      go_loopw [3, 4] (fun n i wr => n = .int .i64 0 ∧ i = .int .i64 0 ∧ Hid (Below w.heap.size w wr)) (fun _ _ _ => 0)
      case atStart => exact ⟨rfl, rfl, Lib.hid (Below.refl _ _)⟩
      case round =>
        obtain ⟨rfl, rfl, HR⟩ := hrel
        have h00 : (0 : Int) < l.length := by omega
        go_wp2_with fail
        refine (HC.out _ ((H.out.below HR.out (Nat.le_refl _)).more HR.out.size)).mono ?_
        rintro x w1 ⟨rfl, hb⟩
        have HB := Lib.hid (HR.out.trans (hb.mono HR.out.size))
        clear hb
        go_wp2_with fail
        go_ret
        exact ⟨by rw [HV.out]; rfl, HB.out⟩
    · have h00 : l.length = 0 := by omega
      have h000 : ¬ (0 : Int) < l.length := by omega
      go_enter Try.func62, Try.ntmps62
      go_wp2_with fail
      go_loopw [3, 4] (fun n i wr => n = .int .i64 0 ∧ i = .int .i64 0 ∧ Hid (Below w.heap.size w wr)) (fun _ _ _ => 0)
      case atStart => exact ⟨rfl, rfl, Lib.hid (Below.refl _ _)⟩
      case round =>
        obtain ⟨rfl, rfl, HR⟩ := hrel
        go_wp2_with fail
        go_ret
        exact ⟨by rw [HV.out]; rfl, HR.out⟩
  · have HV : Hid (clockB l = clockV l) := by exact Lib.hid (by unfold clockB; rw [hd]; rfl)
    have HC := Lib.hid (fun W (hW : Lies W W.heap.size A l) => specDeps_any A l cap W hW hl hk)
    rw [hd] at HC
    clear hd
    unfold slV
    have H := Lib.hid h
    clear h
    unfold slV at HC
    go_enter Try.func62, Try.ntmps62
    go_wp2_with fail
    go_loopw [3, 4] (fun n i wr => ∃ k : Nat, k ≤ l.length ∧ i = .int .i64 k ∧ ∃ v : Int, n = .int .i64 v ∧ Hid (v = clockV (l.take k) ∧ Below w.heap.size w wr)) (fun _ i _ => l.length - (intOf i).toNat)
    case atStart => exact ⟨0, by omega, rfl, 0, rfl, Lib.hid ⟨rfl, Below.refl _ _⟩⟩
    case round =>
      obtain ⟨k, hk, rfl, v, rfl, HR⟩ := hrel
      by_cases hlt : k < l.length
      · go_wp2_with fail
        refine (HC.out _ ((H.out.below HR.out.2 (Nat.le_refl _)).more HR.out.2.size)).mono ?_
        rintro x w1 ⟨rfl, hb⟩
        have HB := Lib.hid (HR.out.2.trans (hb.mono HR.out.2.size))
        clear hb
        obtain ⟨ad, rfl, _, c0, c1, c2, c3⟩ := (H.out.below HB.out (Nat.le_refl _)).at_ hlt
        go_wp2_with fail
        refine (specMax_any v l[k].i.c _).mono ?_
        rintro x w2 ⟨rfl, rfl⟩
        go_wp2_with fail
        go_roundw
        case rel => exact ⟨k + 1, by omega, by go_num, max2 v l[k].i.c, rfl, Lib.hid ⟨by rw [clock_step l k hlt, ← HR.out.1], HB.out⟩⟩
        case measure => simp [intOf]; omega
      · go_wp2_with fail
        go_ret
        have e : v = clockV l := by have := HR.out.1; rwa [List.take_of_length_le (by omega)] at this
        exact ⟨by rw [HV.out, ← e]; rfl, HR.out.2⟩
end Go.Proofs.Ytoagdpbbojlgfaa.Dep
