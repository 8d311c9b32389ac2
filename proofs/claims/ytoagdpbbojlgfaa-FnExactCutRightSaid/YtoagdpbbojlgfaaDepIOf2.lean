/-
  impl.DepOf, impl.Covers, impl.ClockOf.
-/
import Derived.Test.YtoagdpbbojlgfaaDepIRight
import Derived.Test.YtoagdpbbojlgfaaDepCov2
import Derived.Test.YtoagdpbbojlgfaaDepClock
namespace Go.Proofs.Ytoagdpbbojlgfaa.Dep
open Go.ChangeShapes Go.WideShapes Go.ChangeAt Go.RowKit
set_option linter.unusedVariables false
set_option maxRecDepth 100000

theorem max2_max (a b : Int) : max2 a b = max a b := by unfold max2; split <;> omega

theorem implClock_any (A : Option Addr) (l : List D) (cap : Nat) (w : World) (h : Lies w w.heap.size A l) (hl : l.length ≤ maxLen) (hk : ∀ d ∈ l, d.k.size ≤ maxLen) :
    Calls Try.prog 92 #[slV A l cap] w fun x w' => x = .returned (.int .i64 (clockB l)) ∧ Below w.heap.size w w' := by
  have hl2 := hl
  unfold maxLen at hl2
  have HC := Lib.hid (implDeps_any A l cap w h hl hk)
  have H := Lib.hid h
  clear h
  unfold slV at HC ⊢
  cases hd : depsB l
  · have HV : Hid (clockB l = 0) := by exact Lib.hid (by unfold clockB; rw [hd]; rfl)
    rw [hd] at HC
    clear hd
    go_enter Try.func92, Try.ntmps92
    go_wp2_with fail
    refine HC.out.mono ?_
    rintro x w1 ⟨rfl, hb⟩
    have HB := Lib.hid hb
    clear hb
    go_wp2_with fail
    go_ret
    exact ⟨by rw [HV.out]; rfl, HB.out⟩
  · have HV : Hid (clockB l = clockV l) := by exact Lib.hid (by unfold clockB; rw [hd]; rfl)
    rw [hd] at HC
    clear hd
    go_enter Try.func92, Try.ntmps92
    go_wp2_with fail
    refine HC.out.mono ?_
    rintro x w1 ⟨rfl, hb⟩
    have HB := Lib.hid hb
    clear hb
    go_wp2_with fail
    go_loopw [3, 11] (fun n i wr => ∃ k : Nat, k ≤ l.length ∧ i = .int .i64 k ∧ ∃ v : Int, n = .int .i64 v ∧ Hid (v = clockV (l.take k) ∧ Below w.heap.size w wr)) (fun _ i _ => l.length - (intOf i).toNat)
    case atStart => exact ⟨0, by omega, rfl, 0, rfl, Lib.hid ⟨rfl, HB.out⟩⟩
    case round =>
      obtain ⟨k, hk, rfl, v, rfl, HR⟩ := hrel
      by_cases hlt : k < l.length
      · obtain ⟨ad, rfl, _, c0, c1, c2, c3⟩ := (H.out.below HR.out.2 (Nat.le_refl _)).at_ hlt
        have HB1 := Lib.hid (HR.out.2.alloc HR.out.2.size l[k].obj)
        have HN := Lib.hid (clock_step l k hlt)
        go_wp2_with fail
        go_roundw
        case rel => exact ⟨k + 1, by omega, by go_num, max v l[k].i.c, rfl, Lib.hid ⟨by rw [HN.out, ← HR.out.1, max2_max], HB1.out⟩⟩
        case measure => simp [intOf]; omega
      · go_wp2_with fail
        go_ret
        have e : v = clockV l := by have := HR.out.1; rwa [List.take_of_length_le (by omega)] at this
        exact ⟨by rw [HV.out, ← e]; rfl, HR.out.2⟩
end Go.Proofs.Ytoagdpbbojlgfaa.Dep
