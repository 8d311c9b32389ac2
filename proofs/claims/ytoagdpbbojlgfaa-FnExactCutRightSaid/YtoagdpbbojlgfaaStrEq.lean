/-
  Two slices of strings compared: the law's eqStringS, spec.l04SameKeys, slices.Equal.
-/
import Derived.Test.YtoagdpbbojlgfaaStr
import Derived.BigQuiet
namespace Go.Proofs.Ytoagdpbbojlgfaa.Str
open Go.ChangeShapes Go.WideShapes Go.ChangeAt Go.RowKit
open Dep (list_eq)
set_option linter.unusedVariables false
set_option maxRecDepth 100000
set_option linter.unusedSimpArgs false

theorem drewN_below {w W : World} {n : Nat} (h : Below n w W) (k : Nat) : Below n w (W.drewN k) := ⟨h.os, h.tape, h.output, h.size, h.block⟩
theorem str_eq {a b : ByteArray} (h : a = b) : (a.toList == b.toList) = true := by rw [h]; exact beq_self_eq_true _
theorem str_ne {a b : ByteArray} (h : ¬ a = b) : (a.toList == b.toList) = false :=
  beq_eq_false_iff_ne.2 fun e => h (list_eq (by rw [← ByteArray.toList_eq, ← ByteArray.toList_eq]; exact e))
noncomputable def alikeB (l m : List ByteArray) : Bool := @decide (l = m) (Classical.propDecidable _)
theorem alikeB_true {l m : List ByteArray} (h : l = m) : alikeB l m = true := by simp [alikeB, h]
theorem alikeB_false {l m : List ByteArray} (h : ¬ l = m) : alikeB l m = false := by simp [alikeB, h]
theorem alike_of {l m : List ByteArray} (h : alikeB l m = true) : l = m := by
  rcases Classical.em (l = m) with h1 | h1
  · exact h1
  · rw [alikeB_false h1] at h; cases h

set_option maxHeartbeats 1000000 in
theorem eqStrings_any (A B : Option Addr) (l m : List ByteArray) (ca cb : Nat) (w : World) (ha : Lies w w.heap.size A l) (hb : Lies w w.heap.size B m) (hl : l.length ≤ maxLen) (hm : m.length ≤ maxLen) :
    Calls Try.prog 56 #[slV A l ca, slV B m cb] w fun x w' => x = .returned (.bool (alikeB l m)) ∧ Below w.heap.size w w' := by
  have hl2 := hl
  have hm2 := hm
  unfold maxLen at hl2 hm2
  unfold slV
  have HA := Lib.hid ha
  have HB := Lib.hid hb
  clear ha hb
  by_cases hlen : l.length = m.length
  · have hlen1 : ((l.length : Int) == (m.length : Int)) = true := beq_iff_eq.2 (by omega)
    have hlen2 : ((l.length : Int) != (m.length : Int)) = false := by simp [hlen]
    have HLEN := Lib.hid hlen
    clear hlen
    go_enter Try.func56, Try.ntmps56
    go_wp2_with fail
    go_loopw [5] (fun i wr => ∃ k : Nat, k ≤ l.length ∧ i = .int .i64 k ∧ Hid ((∀ j (hj : j < l.length) (hjm : j < m.length), j < k → l[j] = m[j]) ∧ Below w.heap.size w wr)) (fun i _ => l.length - (intOf i).toNat)
    case atStart => exact ⟨0, by omega, rfl, Lib.hid ⟨fun j hj hjm hjk => absurd hjk (by omega), Below.refl _ _⟩⟩
    case round =>
      obtain ⟨k, hk, rfl, HR⟩ := hrel
      by_cases hlt : k < l.length
      · have hltm : k < m.length := by have := HLEN.out; omega
        obtain ⟨a1, rfl, hb1, c0⟩ := (HA.out.below HR.out.2 (Nat.le_refl _)).at_ hlt
        obtain ⟨a2, rfl, hb2, d0⟩ := (HB.out.below HR.out.2 (Nat.le_refl _)).at_ hltm
        obtain ⟨x, hx⟩ : ∃ x, l[k] = x := ⟨_, rfl⟩
        obtain ⟨y, hy⟩ : ∃ y, m[k] = y := ⟨_, rfl⟩
        have HX := Lib.hid hx
        have HY := Lib.hid hy
        rw [hx] at c0
        rw [hy] at d0
        clear hx hy hb1 hb2
        by_cases he : x = y
        · have HE := Lib.hid he
          have e0 := str_eq he
          clear he
          go_wp2_with fail
          go_quiet (fail)
          go_wp2_with fail
          go_roundw
          case rel =>
            refine ⟨k + 1, by omega, by go_num, Lib.hid ⟨fun j hj hjm hjk => ?_, drewN_below HR.out.2 _⟩⟩
            by_cases e : j = k
            · subst e; rw [HX.out, HY.out]; exact HE.out
            · exact HR.out.1 j hj hjm (by omega)
          case measure => simp [intOf]; omega
        · have HE := Lib.hid he
          have e0 := str_ne he
          clear he
          go_wp2_with fail
          go_quiet (fail)
          go_wp2_with fail
          go_ret
          exact ⟨Key.ret_bool (alikeB_false fun e => HE.out (by rw [← HX.out, ← HY.out]; simp only [e])).symm, drewN_below HR.out.2 _⟩
      · have HF := Lib.hid (show l = m from List.ext_getElem HLEN.out fun j h1 h2 => HR.out.1 j h1 h2 (by omega))
        go_wp2_with fail
        go_ret
        exact ⟨Key.ret_bool (alikeB_true HF.out).symm, HR.out.2⟩
  · have hlen1 : ((l.length : Int) == (m.length : Int)) = false := beq_eq_false_iff_ne.2 (by omega)
    have hlen2 : ((l.length : Int) != (m.length : Int)) = true := by simp; omega
    have HF := Lib.hid (show ¬ l = m from fun e => hlen (by rw [e]))
    go_enter Try.func56, Try.ntmps56
    go_wp2_with fail
    go_ret
    exact ⟨Key.ret_bool (alikeB_false HF.out).symm, Below.refl _ _⟩

end Go.Proofs.Ytoagdpbbojlgfaa.Str
