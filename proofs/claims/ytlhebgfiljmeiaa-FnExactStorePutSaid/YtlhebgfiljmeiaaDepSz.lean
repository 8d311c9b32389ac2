/-
  The law's own szDepS at deps; eqDepS of two slices that read alike.
-/
import Derived.Test.YtlhebgfiljmeiaaDepToS
import Derived.Deep.RegionHeld3
import Derived.Lib.SlBuf
namespace Go.Proofs.Ytlhebgfiljmeiaa.Dep
open Go.ChangeShapes Go.WideShapes Go.ChangeAt Go.RowKit
set_option linter.unusedVariables false
set_option maxRecDepth 100000

theorem at_step {W W' : World} {p : Addr} {d : D} (h : At W p d) (hb : Below W.heap.size W W') : At W' p d :=
  ⟨Lib.Below.cellOf hb h.1 (Nat.le_refl _), Lib.Below.cellOf hb h.2.1 (Nat.le_refl _), Lib.Below.cellOf hb h.2.2.1 (Nat.le_refl _), Lib.Below.cellOf hb h.2.2.2 (Nat.le_refl _)⟩
/-- Two deps stand, and nothing below is written. -/
abbrev Pair (w : World) (p q : Addr) (d e : D) (W : World) : Prop := At W p d ∧ At W q e ∧ Below w.heap.size w W
theorem Pair.step {w W W' : World} {p q : Addr} {d e : D} (h : Pair w p q d e W) (hb : Below W.heap.size W W') : Pair w p q d e W' :=
  ⟨at_step h.1 hb, at_step h.2.1 hb, h.2.2.trans (hb.mono h.2.2.size)⟩
theorem Pair.drew {w W : World} {p q : Addr} {d e : D} (h : Pair w p q d e W) : Pair w p q d e W.drew := ⟨h.1, h.2.1, h.2.2.drew⟩

theorem eqDepS_same (A B : Option Addr) (l : List D) (ca cb : Nat) (w : World) (ha : Lies w w.heap.size A l) (hb : Lies w w.heap.size B l) (hl : l.length ≤ maxLen) :
    Calls Try.prog 31 #[slV A l ca, slV B l cb] w fun x w' => x = .returned (.bool true) ∧ Below w.heap.size w w' := by
  have hl2 := hl
  unfold maxLen at hl2
  unfold slV
  have HA := Lib.hid ha
  have HB := Lib.hid hb
  clear ha hb
  go_enter Try.func31, Try.ntmps31
  go_wp2_with fail
  go_loopw [5] (fun i wr => ∃ k : Nat, k ≤ l.length ∧ i = .int .i64 k ∧ Hid (Below w.heap.size w wr)) (fun i _ => l.length - (intOf i).toNat)
  case atStart => exact ⟨0, by omega, rfl, Lib.hid (Below.refl _ _)⟩
  case round =>
    obtain ⟨k, hk, rfl, HR⟩ := hrel
    by_cases hlt : k < l.length
    · obtain ⟨a1, rfl, hb1, c0, c1, c2, c3⟩ := (HA.out.below HR.out (Nat.le_refl _)).at_ hlt
      obtain ⟨a2, rfl, hb2, d0, d1, d2, d3⟩ := (HB.out.below HR.out (Nat.le_refl _)).at_ hlt
      have hp : Pair w (a1.add (k * 4)) (a2.add (k * 4)) l[k] l[k] wr := ⟨⟨c0, c1, c2, c3⟩, ⟨d0, d1, d2, d3⟩, HR.out⟩
      clear c0 c1 c2 c3 d0 d1 d2 d3
      generalize l[k] = d at hp ⊢
      go_wp2_with fail
      go_region_held3 (fun W => At W (a1.add (k * 4)) d ∧ At W (a2.add (k * 4)) d ∧ Below w.heap.size w W)
        (first | exact Pair.drew (by assumption) | exact Pair.step (by assumption) hb)
        (first | (go_at_call 54; refine (eqDep_same d _).mono ?_; rintro x w' ⟨rfl, hb⟩))
      have h2 : Pair w (a1.add (k * 4)) (a2.add (k * 4)) d d w' := by assumption
      have HB1 := Lib.hid h2.2.2
      clear h2 hp
      go_wp2_with fail
      go_roundw
      case rel => exact ⟨k + 1, by omega, by go_num, HB1⟩
      case measure => simp [intOf]; omega
    · go_wp2_with fail
      go_ret
      exact ⟨rfl, HR.out⟩
end Go.Proofs.Ytlhebgfiljmeiaa.Dep
