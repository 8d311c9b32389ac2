/-
  slices.IndexFunc, slices.DeleteFunc at deps, the question being whether a dep's key is the record's; impl.Needs.
-/
import Derived.Test.YtoagdpbbojlgfaaRecIRight
import Derived.Test.YtoagdpbbojlgfaaPackHeld
namespace Go.Proofs.Ytoagdpbbojlgfaa.Rec
open Go.ChangeShapes Go.WideShapes Go.ChangeAt Go.RowKit
open Dep (D I putV flat joinV depsB clockV)
set_option linter.unusedVariables false
set_option maxRecDepth 100000
set_option linter.unusedSimpArgs false

/-- The question: is that the record's key? -/
theorem ask_any (y : D) (r : R) (p : P) (b : Nat) (w : World) (hb : Blk w b 47 (cellsV r p)) :
    Calls Try.prog 53 #[y.val, .pointer (some ⟨b, 0, none⟩)] w fun e w' => e = .returned (.bool (y.k.toList == r.k.toList)) ∧ Below w.heap.size w w' := by
  have HX := Lib.hid (hb.alloc (.cells #[.string y.k, .int .i64 y.i.c, .int .i64 y.i.s, .int .i64 y.i.e] 63))
  have HB := Lib.hid ((Below.refl w.heap.size w).alloc (Nat.le_refl _) (.cells #[.string y.k, .int .i64 y.i.c, .int .i64 y.i.s, .int .i64 y.i.e] 63))
  clear hb
  obtain ⟨x0, x1, x2, x3, x4, x5, x6, x7⟩ := cells8 HX.out
  unfold Dep.D.val
  go_enter Try.func53, Try.ntmps53
  go_wp2_with fail
  go_ret
  exact ⟨rfl, HB.out⟩

set_option maxHeartbeats 2000000 in
theorem indexFunc_any (A : Option Addr) (l : List D) (cap : Nat) (r : R) (p : P) (b : Nat) (w : World) (h : Dep.Lies w w.heap.size A l) (hl : l.length ≤ 1000000) (hb : Blk w b 47 (cellsV r p)) :
    Calls Try.prog 79 #[Dep.slV A l cap, .func (.func 53) #[] #[.pointer (some ⟨b, 0, none⟩)]] w fun e w' =>
      (∃ n : Int, e = .returned (.int .i64 n) ∧ ((n = -1 ∧ ∀ d ∈ l, ¬ d.k = r.k) ∨ ∃ k : Nat, n = k ∧ ∃ hk : k < l.length, l[k].k = r.k ∧ ∀ j (hj : j < l.length), j < k → ¬ l[j].k = r.k)) ∧ Below w.heap.size w w' := by
  have H := Lib.hid h
  have HX := Lib.hid hb
  clear h hb
  unfold Dep.slV
  go_enter Try.func79, Try.ntmps79
  go_wp2_with fail
  go_loopw [8] (fun i wr => ∃ k : Nat, k ≤ l.length ∧ i = .int .i64 k ∧ Hid ((∀ j (hj : j < l.length), j < k → ¬ l[j].k = r.k) ∧ Below w.heap.size w wr)) (fun i _ => l.length - (intOf i).toNat)
  case atStart => exact ⟨0, by omega, rfl, Lib.hid ⟨fun j hj hjk => absurd hjk (by omega), Below.refl _ _⟩⟩
  case round =>
    obtain ⟨k, hk, rfl, HR⟩ := hrel
    by_cases hlt : k < l.length
    · obtain ⟨ad, rfl, _, c0, c1, c2, c3⟩ := (H.out.below HR.out.2 (Nat.le_refl _)).at_ hlt
      obtain ⟨y, hy⟩ : ∃ y, l[k] = y := ⟨_, rfl⟩
      have HY := Lib.hid hy
      rw [hy] at c0 c1 c2 c3
      clear hy
      have HA := Lib.hid (ask_any y r p b wr (HX.out.step HR.out.2 HX.out.lt))
      unfold Dep.D.val at HA
      by_cases he : y.k = r.k
      · have HE := Lib.hid he
        rw [Str.str_eq he] at HA
        clear he
        go_wp2_with fail
        refine HA.out.mono ?_
        rintro e w1 ⟨rfl, hb1⟩
        have HB := Lib.hid (HR.out.2.trans (hb1.mono HR.out.2.size))
        clear hb1 c0 c1 c2 c3
        go_wp2_with fail
        go_ret
        exact ⟨⟨k, rfl, .inr ⟨k, rfl, hlt, by rw [HY.out]; exact HE.out, HR.out.1⟩⟩, HB.out⟩
      · have HE := Lib.hid he
        rw [Str.str_ne he] at HA
        clear he
        go_wp2_with fail
        refine HA.out.mono ?_
        rintro e w1 ⟨rfl, hb1⟩
        have HB := Lib.hid (HR.out.2.trans (hb1.mono HR.out.2.size))
        clear hb1 c0 c1 c2 c3
        go_wp2_with fail
        go_roundw
        case rel =>
          refine ⟨k + 1, by omega, by go_num, Lib.hid ⟨fun j hj hjk => ?_, HB.out⟩⟩
          by_cases e : j = k
          · subst e; rw [HY.out]; exact HE.out
          · exact HR.out.1 j hj (by omega)
        case measure => simp [intOf]; omega
    · have HF := Lib.hid (show ∀ d ∈ l, ¬ d.k = r.k from fun d hd => by
        obtain ⟨j, hj, rfl⟩ := List.getElem_of_mem hd
        exact HR.out.1 j hj (by omega))
      go_wp2_with fail
      go_ret
      exact ⟨⟨-1, rfl, .inl ⟨rfl, HF.out⟩⟩, HR.out.2⟩
end Go.Proofs.Ytoagdpbbojlgfaa.Rec
