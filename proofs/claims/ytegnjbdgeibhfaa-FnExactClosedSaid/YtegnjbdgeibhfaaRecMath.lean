/-
  Records, as plain mathematics: when one is right, what it needs. No program is spoken of.
-/
import Derived.Test.YtegnjbdgeibhfaaPackDep
namespace Go.Proofs.Ytegnjbdgeibhfaa.Rec
open Dep (D I kl Ok Sorted depsB ofV putV joinV clockV)
set_option linter.unusedVariables false
set_option maxRecDepth 100000

/-- A record. -/
structure R where
  k : ByteArray
  i : I
  d : ByteArray
  g : Bool
  l : List D
  b : List ByteArray

def datC (c : Int) : Bool := decide ((97 ≤ c ∧ c ≤ 122) ∨ (48 ≤ c ∧ c ≤ 57))
def DatOk (s : ByteArray) : Prop := s.size ≤ 8 ∧ ∀ k (h : k < s.size), datC s[k].toNat = true
noncomputable def datB (s : ByteArray) : Bool := @decide (DatOk s) (Classical.propDecidable _)
theorem datB_true {s : ByteArray} (h : DatOk s) : datB s = true := by simp [datB, h]
theorem datB_false {s : ByteArray} (h : ¬ DatOk s) : datB s = false := by simp [datB, h]
theorem dat_of {s : ByteArray} (h : datB s = true) : DatOk s := by
  rcases Classical.em (DatOk s) with h1 | h1
  · exact h1
  · rw [datB_false h1] at h; cases h

/-- Keys that are right, rising, and one of them is that one. -/
def KeysOk (b : List ByteArray) (q : ByteArray) : Prop := b.length ≤ 4 ∧ (∀ x ∈ b, Key.keyB x = true) ∧ (b.Pairwise fun x y => kl x y = true) ∧ q ∈ b
noncomputable def keysB (b : List ByteArray) (q : ByteArray) : Bool := @decide (KeysOk b q) (Classical.propDecidable _)
theorem keysB_true {b : List ByteArray} {q : ByteArray} (h : KeysOk b q) : keysB b q = true := by simp [keysB, h]
theorem keysB_false {b : List ByteArray} {q : ByteArray} (h : ¬ KeysOk b q) : keysB b q = false := by simp [keysB, h]
theorem keys_of {b : List ByteArray} {q : ByteArray} (h : keysB b q = true) : KeysOk b q := by
  rcases Classical.em (KeysOk b q) with h1 | h1
  · exact h1
  · rw [keysB_false h1] at h; cases h

/-- All that was written together, with the one Id. -/
def bun (b : List ByteArray) (i : I) : List D := b.map fun x => ⟨x, i⟩
/-- What is needed besides the deps. -/
def others (b : List ByteArray) (q : ByteArray) (i : I) : List D := (bun b i).filter fun d => !decide (d.k = q)
def needs (l : List D) (b : List ByteArray) (q : ByteArray) (i : I) : List D := joinV l (others b q i)
/-- A right record. -/
def RecOk (r : R) : Prop := Key.keyB r.k = true ∧ r.i.right = true ∧ datB r.d = true ∧ (r.g = true → r.d = ⟨#[]⟩) ∧ depsB r.l = true ∧ keysB r.b r.k = true ∧ clockV r.l < r.i.c ∧ (joinV r.l (bun r.b r.i)).length ≤ 6
noncomputable def recB (r : R) : Bool := @decide (RecOk r) (Classical.propDecidable _)
theorem recB_true {r : R} (h : RecOk r) : recB r = true := by simp [recB, h]
theorem recB_false {r : R} (h : ¬ RecOk r) : recB r = false := by simp [recB, h]
theorem rec_of {r : R} (h : recB r = true) : RecOk r := by
  rcases Classical.em (RecOk r) with h1 | h1
  · exact h1
  · rw [recB_false h1] at h; cases h

theorem bun_length (b : List ByteArray) (i : I) : (bun b i).length = b.length := by simp [bun]
theorem bun_sorted {b : List ByteArray} (i : I) (h : b.Pairwise fun x y => kl x y = true) : Sorted (bun b i) := by
  unfold Sorted bun
  rw [List.pairwise_map]
  exact h
theorem bun_good {b : List ByteArray} {i : I} (h : ∀ x ∈ b, Key.keyB x = true) (hi : i.right = true) : Dep.Good (bun b i) := by
  intro d hd
  obtain ⟨x, hx, rfl⟩ := List.mem_map.1 hd
  exact ⟨h x hx, hi⟩
/-- Right deps made of keys: just if the keys are right and rise. -/
theorem bun_ok {b : List ByteArray} {q : ByteArray} {i : I} (hi : i.right = true) (hl : b.length ≤ 4) (hq : q ∈ b) : depsB (bun b i) = keysB b q := by
  by_cases h : KeysOk b q
  · rw [keysB_true h]
    exact Dep.depsB_true ⟨by rw [bun_length]; omega, bun_good h.2.1 hi, bun_sorted i h.2.2.1⟩
  · rw [keysB_false h]
    refine Dep.depsB_false fun ho => h ⟨hl, fun x hx => (ho.2.1 ⟨x, i⟩ (List.mem_map.2 ⟨x, hx, rfl⟩)).1, ?_, hq⟩
    have := ho.2.2
    unfold Sorted bun at this
    rw [List.pairwise_map] at this
    exact this
theorem others_sub (b : List ByteArray) (q : ByteArray) (i : I) : (others b q i).Sublist (bun b i) := List.filter_sublist
theorem others_length (b : List ByteArray) (q : ByteArray) (i : I) : (others b q i).length ≤ b.length := by
  have := (others_sub b q i).length_le
  rwa [bun_length] at this
theorem others_sorted {b : List ByteArray} {q : ByteArray} {i : I} (h : Sorted (bun b i)) : Sorted (others b q i) := List.Pairwise.sublist (others_sub b q i) h
theorem others_good {b : List ByteArray} {q : ByteArray} {i : I} (h : Dep.Good (bun b i)) : Dep.Good (others b q i) := fun d hd => h d ((others_sub b q i).subset hd)
theorem others_take (b : List ByteArray) (q : ByteArray) (i : I) (k : Nat) (h : k < b.length) : others (b.take (k + 1)) q i = others (b.take k) q i ++ (if b[k] = q then [] else [⟨b[k], i⟩]) := by
  unfold others bun
  rw [show b.take (k + 1) = b.take k ++ [b[k]] by simp, List.map_append, List.filter_append]
  congr 1
  by_cases e : b[k] = q
  · rw [if_pos e]; simp [e]
  · rw [if_neg e]; simp [e]
theorem join_append (l a b : List D) : joinV l (a ++ b) = joinV (joinV l a) b := by unfold joinV; rw [List.foldl_append]
/-- The loop's way: a key that is skipped, a key that is put. -/
theorem needs_skip {l : List D} {b : List ByteArray} {q : ByteArray} {i : I} {k : Nat} (h : k < b.length) (e : b[k] = q) : needs l (b.take (k + 1)) q i = needs l (b.take k) q i := by
  unfold needs
  rw [others_take _ _ _ _ h, if_pos e, List.append_nil]
theorem needs_put {l : List D} {b : List ByteArray} {q : ByteArray} {i : I} {k : Nat} (h : k < b.length) (e : ¬ b[k] = q) : needs l (b.take (k + 1)) q i = putV (needs l (b.take k) q i) b[k] i := by
  unfold needs
  rw [others_take _ _ _ _ h, if_neg e, join_append]
  rfl
theorem needs_length (l : List D) (b : List ByteArray) (q : ByteArray) (i : I) : (needs l b q i).length ≤ l.length + b.length := by
  have := Dep.length_join (others b q i) l
  have := others_length b q i
  unfold needs
  omega

open Classical in
theorem ofV_bun (b : List ByteArray) (i : I) (r : ByteArray) : ofV (bun b i) r = if r ∈ b then i else Dep.zero := by
  induction b with
  | nil => simp [bun, ofV]
  | cons x b ih =>
    show ofV (⟨x, i⟩ :: bun b i) r = _
    rw [ofV]
    by_cases h : x = r
    · rw [if_pos h, if_pos (by rw [h]; simp)]
    · rw [if_neg h, ih]
      by_cases h2 : r ∈ b
      · rw [if_pos h2, if_pos (by simp [h2])]
      · rw [if_neg h2, if_neg (by simp [h2]; exact fun e => h e.symm)]
theorem others_eq (b : List ByteArray) (q : ByteArray) (i : I) : others b q i = bun (b.filter fun x => !decide (x = q)) i := by
  unfold others bun
  rw [List.filter_map]
  rfl
theorem length_put_ge (l : List D) (q : ByteArray) (x : I) : l.length ≤ (putV l q x).length := by
  induction l with
  | nil => simp [putV]
  | cons y l ih =>
    rw [putV]
    split
    · simp; exact ih
    · split <;> simp
/-- What is needed, and the key itself: all that is joined. -/
theorem put_needs {l : List D} {b : List ByteArray} {q : ByteArray} {i : I} (hl : depsB l = true) (hb : keysB b q = true) (hi : i.right = true) : putV (needs l b q i) q i = joinV l (bun b i) := by
  have ol := Dep.ok_of hl
  have ob := keys_of hb
  have sb := bun_sorted i ob.2.2.1
  have gb := bun_good ob.2.1 hi
  obtain ⟨h1, h2, h3⟩ := Dep.join_facts (bun b i) l ol.2.2 ol.2.1 sb gb
  obtain ⟨n1, n2, n3⟩ := Dep.join_facts (others b q i) l ol.2.2 ol.2.1 (others_sorted sb) (others_good gb)
  refine Dep.ext (Dep.sorted_put n1 _ _) h1 (Dep.good_put n2 (ob.2.1 q ob.2.2.2) hi) h2 fun r => ?_
  unfold needs
  classical
  rw [Dep.ofV_put n1 hi, n3, n3, h3, others_eq, ofV_bun, ofV_bun, ofV_bun]
  by_cases e : r = q
  · subst e
    rw [if_pos rfl, if_pos ob.2.2.2, if_neg (by simp)]
    rcases Dep.ofV_right ol.2.1 r with h | h
    · rw [I.max_comm _ Dep.zero, I.zero_max h]
    · rw [h, I.max_idem]
  · rw [if_neg e]
    by_cases m : r ∈ b
    · rw [if_pos m, if_pos (by simp [m, e])]
    · rw [if_neg m, if_neg (by simp [m])]
/-- The given model's way to ask how many keys there are. -/
theorem both_le {l : List D} {b : List ByteArray} {q : ByteArray} {i : I} (hl : depsB l = true) (hb : keysB b q = true) (hi : i.right = true) :
    ((needs l b q i).length ≤ 6 ∧ (putV (needs l b q i) q i).length ≤ 6) ↔ (joinV l (bun b i)).length ≤ 6 := by
  rw [put_needs hl hb hi]
  refine ⟨And.right, fun h => ⟨?_, h⟩⟩
  have := length_put_ge (needs l b q i) q i
  rw [put_needs hl hb hi] at this
  omega
theorem needs_ok {l : List D} {b : List ByteArray} {q : ByteArray} {i : I} (hl : depsB l = true) (hb : keysB b q = true) (hi : i.right = true) (h : (joinV l (bun b i)).length ≤ 6) : depsB (needs l b q i) = true ∧ depsB (others b q i) = true := by
  have ol := Dep.ok_of hl
  have ob := keys_of hb
  have sb := bun_sorted i ob.2.2.1
  have gb := bun_good ob.2.1 hi
  obtain ⟨n1, n2, n3⟩ := Dep.join_facts (others b q i) l ol.2.2 ol.2.1 (others_sorted sb) (others_good gb)
  have := others_length b q i
  exact ⟨Dep.depsB_true ⟨((both_le hl hb hi).2 h).1, n2, n1⟩, Dep.depsB_true ⟨by have := ob.1; omega, others_good gb, others_sorted sb⟩⟩
end Go.Proofs.Ytegnjbdgeibhfaa.Rec
