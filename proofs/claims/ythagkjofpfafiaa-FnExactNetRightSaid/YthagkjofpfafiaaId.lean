/-
  Ids: IdRight, IdLess and MaxId of the program and of the given model answer the same, at every three int64.
-/
import Derived.Test.YthagkjofpfafiaaRows
import Derived.WalkKit
import Derived.ProofKit
import Derived.OpenShut
import Derived.ShutString
import Derived.Lib.Hide
import Derived.StillTailTactics
namespace Go.Proofs.Ythagkjofpfafiaa.Id
open Go.ChangeShapes Go.WideShapes Go.ChangeAt Go.RowKit
set_option linter.unusedVariables false
set_option maxRecDepth 100000

def inB (n l m : Int) : Bool := decide (l ≤ n ∧ n ≤ m)
def rightB (c s e : Int) : Bool := inB c 1 1000000 && inB s 1 3 && inB e 0 99
def cmpV (x y : Int) : Int := if x < y then -1 else if y < x then 1 else 0
def lessB (c s e c' s' e' : Int) : Bool := decide (c < c' ∨ (c = c' ∧ (s < s' ∨ (s = s' ∧ e < e'))))
/-- An Id by value. -/
def idV (c s e : Int) : Value := .agg #[.int .i64 c, .int .i64 s, .int .i64 e]

theorem within_any (n l m : Int) (w : World) :
    Calls Try.prog 32 #[.int .i64 n, .int .i64 l, .int .i64 m] w fun e w' => e = .returned (.bool (inB n l m)) ∧ w = w' := by
  by_cases a : l ≤ n
  · by_cases b : n ≤ m
    · go_enter Try.func32, Try.ntmps32
      go_wp2
      go_ret
      exact ⟨by simp [inB, a, b], rfl⟩
    · go_enter Try.func32, Try.ntmps32
      go_wp2
      go_ret
      exact ⟨by simp [inB, a, b], rfl⟩
  · go_enter Try.func32, Try.ntmps32
    go_wp2
    go_ret
    exact ⟨by simp [inB]; omega, rfl⟩

theorem is_any (n l m : Int) (w : World) :
    Calls Try.prog 40 #[.int .i64 n, .int .i64 l, .int .i64 m] w fun e w' => e = .returned (.bool (inB n l m)) ∧ w = w' := by
  by_cases a : l ≤ n
  · by_cases b : n ≤ m
    · go_enter Try.func40, Try.ntmps40
      go_wp2
      go_ret
      exact ⟨by simp [inB, a, b], rfl⟩
    · go_enter Try.func40, Try.ntmps40
      go_wp2
      go_ret
      exact ⟨by simp [inB, a, b], rfl⟩
  · go_enter Try.func40, Try.ntmps40
    go_wp2
    go_ret
    exact ⟨by simp [inB]; omega, rfl⟩

theorem implRight_any (c s e : Int) (w : World) :
    Calls Try.prog 79 #[idV c s e] w fun x w' => x = .returned (.bool (rightB c s e)) ∧ Below w.heap.size w w' := by
  unfold idV
  cases h1 : inB c 1 1000000
  · go_enter Try.func79, Try.ntmps79
    go_wp2_with (go_at_call 32; refine (within_any _ _ _ _).mono ?_; rintro e w1 ⟨rfl, rfl⟩)
    go_ret
    exact ⟨by simp [rightB, h1], ((Below.refl _ _).alloc (Nat.le_refl _) _)⟩
  · cases h2 : inB s 1 3
    · go_enter Try.func79, Try.ntmps79
      go_wp2_with (go_at_call 32; refine (within_any _ _ _ _).mono ?_; rintro e w1 ⟨rfl, rfl⟩)
      go_ret
      exact ⟨by simp [rightB, h1, h2], ((Below.refl _ _).alloc (Nat.le_refl _) _)⟩
    · go_enter Try.func79, Try.ntmps79
      go_wp2_with (go_at_call 32; refine (within_any _ _ _ _).mono ?_; rintro e w1 ⟨rfl, rfl⟩)
      go_ret
      exact ⟨by simp [rightB, h1, h2], ((Below.refl _ _).alloc (Nat.le_refl _) _)⟩

theorem specRight_any (c s e : Int) (w : World) :
    Calls Try.prog 75 #[idV c s e] w fun x w' => x = .returned (.bool (rightB c s e)) ∧ Below w.heap.size w w' := by
  unfold idV
  cases h1 : inB c 1 1000000
  · go_enter Try.func75, Try.ntmps75
    go_wp2_with (go_at_call 40; refine (is_any _ _ _ _).mono ?_; rintro e w1 ⟨rfl, rfl⟩)
    go_ret
    exact ⟨by simp [rightB, h1], ((Below.refl _ _).alloc (Nat.le_refl _) _)⟩
  · cases h2 : inB s 1 3
    · go_enter Try.func75, Try.ntmps75
      go_wp2_with (go_at_call 40; refine (is_any _ _ _ _).mono ?_; rintro e w1 ⟨rfl, rfl⟩)
      go_ret
      exact ⟨by simp [rightB, h1, h2], ((Below.refl _ _).alloc (Nat.le_refl _) _)⟩
    · go_enter Try.func75, Try.ntmps75
      go_wp2_with (go_at_call 40; refine (is_any _ _ _ _).mono ?_; rintro e w1 ⟨rfl, rfl⟩)
      go_ret
      exact ⟨by simp [rightB, h1, h2], ((Below.refl _ _).alloc (Nat.le_refl _) _)⟩

theorem isNaN_any (x : Int) (w : World) : Calls Try.prog 100 #[.int .i64 x] w fun e w' => e = .returned (.bool false) ∧ w = w' := by
  go_enter Try.func100, Try.ntmps100
  go_wp2
  go_ret
  exact ⟨by simp, rfl⟩

theorem compare_any (x y : Int) (w : World) : Calls Try.prog 99 #[.int .i64 x, .int .i64 y] w fun e w' => e = .returned (.int .i64 (cmpV x y)) ∧ w = w' := by
  by_cases a : x < y
  · go_enter Try.func99, Try.ntmps99
    go_wp2_with (go_at_call 100; refine (isNaN_any _ _).mono ?_; rintro e w1 ⟨rfl, rfl⟩)
    go_ret
    exact ⟨by simp [cmpV, a], rfl⟩
  · by_cases b : y < x
    · go_enter Try.func99, Try.ntmps99
      go_wp2_with (go_at_call 100; refine (isNaN_any _ _).mono ?_; rintro e w1 ⟨rfl, rfl⟩)
      go_ret
      exact ⟨by rw [show cmpV x y = 1 by unfold cmpV; rw [if_neg (by omega), if_pos (by omega)]]; rfl, rfl⟩
    · go_enter Try.func99, Try.ntmps99
      go_wp2_with (go_at_call 100; refine (isNaN_any _ _).mono ?_; rintro e w1 ⟨rfl, rfl⟩)
      go_ret
      exact ⟨by rw [show cmpV x y = 0 by unfold cmpV; rw [if_neg (by omega), if_neg (by omega)]]; rfl, rfl⟩

/-- The first of three that is not 0. -/
def orV (x y z : Int) : Int := if x ≠ 0 then x else if y ≠ 0 then y else z
def at3 (x y z : Int) : Nat → Int
  | 0 => x
  | 1 => y
  | _ => z

theorem or_any (x y z : Int) (b : Nat) (w : World) (hc : ∀ k < 3, w.cell? ⟨b, k, none⟩ = some (.int .i64 (at3 x y z k))) :
    Calls Try.prog 98 #[.slice (some ⟨b, 0, none⟩) 3 3] w fun e w' => e = .returned (.int .i64 (orV x y z)) ∧ w = w' := by
  have HC := Lib.hid hc
  clear hc
  go_enter Try.func98, Try.ntmps98
  go_wp2_with fail
  go_loop [8] (fun i => ∃ k : Nat, k ≤ 3 ∧ i = .int .i64 k ∧ ∀ j < k, at3 x y z j = 0) (fun i => 3 - (intOf i).toNat)
  case atStart => exact ⟨0, by omega, rfl, fun j hj => by omega⟩
  case round =>
    obtain ⟨k, hk, rfl, h0⟩ := hrel
    have H0 := Lib.hid h0
    clear h0
    by_cases hlt : k < 3
    · have hcell := HC.out k hlt
      have hk3 : (k : Int) < 3 := by omega
      have HE : Hid (at3 x y z k = at3 x y z k) := Lib.hid rfl
      generalize hv : at3 x y z k = v at hcell
      have HV := Lib.hid hv
      clear hv
      by_cases hz : v = 0
      · subst hz
        go_wp2
        go_round
        case rel => exact ⟨k + 1, by omega, by go_num, fun j hj => by rcases Nat.lt_succ_iff_lt_or_eq.1 hj with h | h; exact H0.out j h; subst h; exact HV.out⟩
        case measure => simp [intOf]; omega
      · have hz2 : (v == 0) = false := beq_eq_false_iff_ne.2 hz
        go_wp2
        go_ret
        refine ⟨?_, rfl⟩
        have e := HV.out
        have e0 := H0.out
        have : v = orV x y z := by
          rw [← e]
          unfold orV
          rcases (show k = 0 ∨ k = 1 ∨ k = 2 by omega) with rfl | rfl | rfl
          · simp only [at3] at e ⊢; rw [if_pos (by omega)]
          · have := e0 0 (by omega); simp only [at3] at e this ⊢; rw [if_neg (by omega), if_pos (by omega)]
          · have := e0 0 (by omega); have := e0 1 (by omega); simp only [at3] at *; rw [if_neg (by omega), if_neg (by omega)]
        rw [this]; rfl
    · obtain rfl : k = 3 := by omega
      go_wp2
      go_ret
      refine ⟨?_, rfl⟩
      have e0 := H0.out
      have h1 := e0 0 (by omega); have h2 := e0 1 (by omega); have h3 := e0 2 (by omega)
      simp only [at3] at h1 h2 h3
      simp [orV, h1, h2, h3]
end Go.Proofs.Ythagkjofpfafiaa.Id
