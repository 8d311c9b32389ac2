/-
  What the given reader of a record's text reads, and how far it has come. No Go text is walked here.
-/
import Derived.Test.YtkmlnibkdcdegaaGreatDoorPackSeal
import Derived.Test.YtkmlnibkdcdegaaGreatDoorPackDep
namespace Go.Proofs.YtkmlnibkdcdegaaGreatDoor.Rec
open Go.ChangeShapes Go.WideShapes Go.ChangeAt Go.RowKit
open Dep (D I)
open Gn (gn gt)
set_option linter.unusedVariables false
set_option maxRecDepth 100000

/-- The place, and whether something was wrong. -/
structure St where
  a : Int
  b : Bool
def St.ok (x : St) : Prop := 0 ≤ x.a ∧ x.a ≤ 8000
def sN (t : ByteArray) (x : St) : Int × St := if x.b = false ∧ (gn t x.a).2.2 = 0 then ((gn t x.a).1, ⟨(gn t x.a).2.1, false⟩) else (0, ⟨x.a, true⟩)
def sT (t : ByteArray) (x : St) : ByteArray × St := if x.b = false ∧ (gt t x.a).2.2 = 0 then ((gt t x.a).1, ⟨(gt t x.a).2.1, false⟩) else (⟨#[]⟩, ⟨x.a, true⟩)
def sI (t : ByteArray) (x : St) : I × St := (⟨(sN t x).1, (sN t (sN t x).2).1, (sN t (sN t (sN t x).2).2).1⟩, (sN t (sN t (sN t x).2).2).2)
def sDs (t : ByteArray) : Nat → St → List D × St
  | 0, x => ([], x)
  | k + 1, x => if x.b = true then ([], x) else (⟨(sT t x).1, (sI t (sT t x).2).1⟩ :: (sDs t k (sI t (sT t x).2).2).1, (sDs t k (sI t (sT t x).2).2).2)
def sKs (t : ByteArray) : Nat → St → List ByteArray × St
  | 0, x => ([], x)
  | k + 1, x => if x.b = true then ([], x) else ((sT t x).1 :: (sKs t k (sT t x).2).1, (sKs t k (sT t x).2).2)
theorem sDs_bad (t : ByteArray) (k : Nat) {x : St} (h : x.b = true) : sDs t k x = ([], x) := by
  cases k with
  | zero => rfl
  | succ k => rw [sDs, if_pos h]
theorem sKs_bad (t : ByteArray) (k : Nat) {x : St} (h : x.b = true) : sKs t k x = ([], x) := by
  cases k with
  | zero => rfl
  | succ k => rw [sKs, if_pos h]
/-- Onwards, or nothing more. -/
def Fwd (x y : St) : Prop := x.a ≤ y.a ∧ (y.b = true ∨ x.a + 1 ≤ y.a) ∧ (x.b = true → y.b = true)
theorem sN_fwd (t : ByteArray) {x : St} (h : x.ok) : (sN t x).2.ok ∧ Fwd x (sN t x).2 := by
  unfold sN
  by_cases c : x.b = false ∧ (gn t x.a).2.2 = 0
  · rw [if_pos c]
    have h1 := gn_ahead c.2
    have h2 := gn_place t x.a
    exact ⟨⟨h2.1, h2.2⟩, by dsimp only; omega, .inr h1, fun e => by rw [c.1] at e; cases e⟩
  · rw [if_neg c]
    exact ⟨h, Int.le_refl _, .inl rfl, fun _ => rfl⟩
theorem sT_fwd (t : ByteArray) {x : St} (h : x.ok) : (sT t x).2.ok ∧ Fwd x (sT t x).2 := by
  unfold sT
  by_cases c : x.b = false ∧ (gt t x.a).2.2 = 0
  · rw [if_pos c]
    have h2 := gt_all t x.a
    exact ⟨⟨h2.2.1, h2.2.2.1⟩, by have := h2.2.2.2 c.2; dsimp only; omega, .inr (h2.2.2.2 c.2), fun e => by rw [c.1] at e; cases e⟩
  · rw [if_neg c]
    exact ⟨h, Int.le_refl _, .inl rfl, fun _ => rfl⟩
theorem Fwd.trans {x y z : St} (h : Fwd x y) (k : Fwd y z) : Fwd x z := by
  obtain ⟨h1, h2, h3⟩ := h
  obtain ⟨k1, k2, k3⟩ := k
  refine ⟨by omega, ?_, fun e => k3 (h3 e)⟩
  rcases h2 with h2 | h2
  · exact .inl (k3 h2)
  · exact .inr (by omega)
theorem sI_fwd (t : ByteArray) {x : St} (h : x.ok) : (sI t x).2.ok ∧ Fwd x (sI t x).2 := by
  have h1 := sN_fwd t h
  have h2 := sN_fwd t h1.1
  have h3 := sN_fwd t h2.1
  exact ⟨h3.1, (h1.2.trans h2.2).trans h3.2⟩
theorem sT_size (t : ByteArray) (x : St) : (sT t x).1.size ≤ 8000 := by
  unfold sT
  by_cases c : x.b = false ∧ (gt t x.a).2.2 = 0
  · rw [if_pos c]; exact (gt_all t x.a).1
  · rw [if_neg c]; exact Nat.zero_le _
theorem sN_range (t : ByteArray) (x : St) : -9223372036854775808 ≤ (sN t x).1 ∧ (sN t x).1 ≤ 9223372036854775807 := by
  unfold sN
  by_cases c : x.b = false ∧ (gn t x.a).2.2 = 0
  · rw [if_pos c]; exact gn_range t x.a
  · rw [if_neg c]; dsimp only; omega
/-- No more of them than places. -/
theorem sDs_len (t : ByteArray) : ∀ (k : Nat) (x : St), x.ok → (sDs t k x).2.ok ∧ ((sDs t k x).1.length : Int) ≤ 8001 - x.a ∧ (x.b = true → (sDs t k x).1.length = 0) ∧ ∀ d ∈ (sDs t k x).1, d.k.size ≤ 8000 := by
  intro k
  induction k with
  | zero => exact fun x h => ⟨h, by simp only [sDs, List.length_nil]; have := h.2; omega, fun _ => rfl, fun d hd => by cases hd⟩
  | succ k ih =>
    intro x h
    by_cases c : x.b = true
    · rw [sDs, if_pos c]
      exact ⟨h, by simp only [List.length_nil]; have := h.2; omega, fun _ => rfl, fun d hd => by cases hd⟩
    · rw [sDs, if_neg c]
      have h1 := sT_fwd t h
      have h2 := sI_fwd t h1.1
      have h3 := h1.2.trans h2.2
      obtain ⟨i1, i2, i3, i4⟩ := ih _ h2.1
      refine ⟨i1, ?_, fun e => absurd e c, fun d hd => ?_⟩
      · simp only [List.length_cons]
        rcases h3.2.1 with h4 | h4
        · have := i3 h4; have := h.2; omega
        · omega
      · rcases List.mem_cons.1 hd with rfl | hd
        · exact sT_size t x
        · exact i4 d hd
theorem sKs_len (t : ByteArray) : ∀ (k : Nat) (x : St), x.ok → (sKs t k x).2.ok ∧ ((sKs t k x).1.length : Int) ≤ 8001 - x.a ∧ (x.b = true → (sKs t k x).1.length = 0) ∧ ∀ d ∈ (sKs t k x).1, d.size ≤ 8000 := by
  intro k
  induction k with
  | zero => exact fun x h => ⟨h, by simp only [sKs, List.length_nil]; have := h.2; omega, fun _ => rfl, fun d hd => by cases hd⟩
  | succ k ih =>
    intro x h
    by_cases c : x.b = true
    · rw [sKs, if_pos c]
      exact ⟨h, by simp only [List.length_nil]; have := h.2; omega, fun _ => rfl, fun d hd => by cases hd⟩
    · rw [sKs, if_neg c]
      have h1 := sT_fwd t h
      obtain ⟨i1, i2, i3, i4⟩ := ih _ h1.1
      refine ⟨i1, ?_, fun e => absurd e c, fun d hd => ?_⟩
      · simp only [List.length_cons]
        rcases h1.2.2.1 with h4 | h4
        · have := i3 h4; have := h.2; omega
        · omega
      · rcases List.mem_cons.1 hd with rfl | hd
        · exact sT_size t x
        · exact i4 d hd
end Go.Proofs.YtkmlnibkdcdegaaGreatDoor.Rec
