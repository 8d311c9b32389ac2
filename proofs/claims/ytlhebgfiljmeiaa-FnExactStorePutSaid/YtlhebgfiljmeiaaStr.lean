/-
  Slices of strings: what they read as; the law's own toStringS, szStringS, eqStringS.
-/
import Derived.Test.YtlhebgfiljmeiaaDepSz
import Derived.Deep.Slices
import Derived.ChangeArms
namespace Go.Proofs.Ytlhebgfiljmeiaa.Str
open Go.ChangeShapes Go.WideShapes Go.ChangeAt Go.RowKit
open Dep (add_block add_add row_set get_ne get_eq list_eq)
set_option linter.unusedVariables false
set_option maxRecDepth 100000
set_option linter.unusedSimpArgs false

/-- A slice's address and what it reads as; it lies below block B. -/
def Lies (w : World) (B : Nat) (A : Option Addr) (l : List ByteArray) : Prop :=
  0 < l.length → ∃ ad, A = some ad ∧ ad.block < B ∧ ∀ j (h : j < l.length), w.cell? (ad.add j) = some (.string l[j])
/-- A slice of strings. -/
def slV (A : Option Addr) (l : List ByteArray) (cap : Nat) : Value := .slice A l.length cap

theorem Lies.keep {w w' : World} {B : Nat} {A : Option Addr} {l : List ByteArray} (h : Lies w B A l) (hk : ∀ p : Addr, p.block < B → w'.cell? p = w.cell? p) : Lies w' B A l := fun h0 => by
  obtain ⟨ad, e, hb, hc⟩ := h h0
  exact ⟨ad, e, hb, fun j hj => (hk _ (by rw [add_block]; exact hb)).trans (hc j hj)⟩
theorem Lies.more {w : World} {B B' : Nat} {A : Option Addr} {l : List ByteArray} (h : Lies w B A l) (hB : B ≤ B') : Lies w B' A l := fun h0 => by
  obtain ⟨ad, e, hb, hc⟩ := h h0
  exact ⟨ad, e, by omega, hc⟩
theorem Lies.below {w w' : World} {B N : Nat} {A : Option Addr} {l : List ByteArray} (h : Lies w B A l) (hb : Below N w w') (hN : B ≤ N) : Lies w' B A l := h.keep fun p hp => hb.cell (by omega)
theorem Lies.on {w w' : World} {A : Option Addr} {l : List ByteArray} (h : Lies w w.heap.size A l) (hb : Below w.heap.size w w') : Lies w' w'.heap.size A l := (h.below hb (Nat.le_refl _)).more hb.size
theorem Lies.at_ {w : World} {B : Nat} {A : Option Addr} {l : List ByteArray} {k : Nat} (h : Lies w B A l) (hk : k < l.length) : ∃ ad, A = some ad ∧ ad.block < B ∧ w.cell? (ad.add k) = some (.string l[k]) := by
  obtain ⟨ad, e, hb, hc⟩ := h (by omega)
  exact ⟨ad, e, hb, hc k hk⟩

/-- Block g is a row of n strings, the first of which are l. -/
def Own (w : World) (g n : Nat) (l : List ByteArray) : Prop :=
  ∃ cs : Array Value, w.heap[g]? = some (.cells cs 9 (0, 0)) ∧ cs.size = n ∧ ∀ j (h : j < l.length), cs[j]? = some (.string l[j])
theorem Own.lt {w : World} {g n : Nat} {l : List ByteArray} (h : Own w g n l) : g < w.heap.size := by
  obtain ⟨cs, h, _⟩ := h
  exact (Array.getElem?_eq_some_iff.1 h).1
theorem Own.step {w w1 : World} {g n N : Nat} {l : List ByteArray} (h : Own w g n l) (hb : Below N w w1) (hlt : g < N) : Own w1 g n l := by
  obtain ⟨cs, h, h2⟩ := h
  exact ⟨cs, (hb.block g hlt).trans h, h2⟩
theorem Own.free {w : World} {g n : Nat} {l : List ByteArray} (h : Own w g n l) (j : Nat) : w.frozen? ⟨g, j, none⟩ = false := by
  obtain ⟨cs, h, h2⟩ := h
  simp [World.frozen?, h]
theorem Own.cell {w : World} {g n : Nat} {l : List ByteArray} (h : Own w g n l) {j : Nat} (hj : j < n) : ∃ u, w.cell? ⟨g, j, none⟩ = some u := by
  obtain ⟨cs, h, h2, _⟩ := h
  rw [cell_of_row w g j cs _ (0, 0) h]
  exact ⟨cs[j]'(by omega), Array.getElem?_eq_getElem (by omega)⟩
/-- One string more. -/
theorem Own.put {w : World} {g n : Nat} {l : List ByteArray} (h : Own w g n l) (d : ByteArray) (hn : l.length < n) {k : Nat} (hk : l.length = k) : Own (w.setCell ⟨g, k, none⟩ (.string d)) g n (l ++ [d]) := by
  obtain ⟨cs, h1, h2, h3⟩ := h
  refine ⟨_, row_set h1 _ _, by simp [h2], fun j hj => ?_⟩
  rw [List.length_append, List.length_singleton] at hj
  by_cases e : j = k
  · subst e
    have e1 : (l ++ [d])[j] = d := by simp [← hk]
    rw [e1]
    exact get_eq _ (by omega)
  · have hjl : j < l.length := by omega
    rw [List.getElem_append_left hjl, get_ne _ (by omega)]
    exact h3 j hjl
/-- A row of one's own reads as what it holds. -/
theorem Own.lies {w : World} {g n B : Nat} {l : List ByteArray} (h : Own w g n l) (hB : g < B) : Lies w B (some ⟨g, 0, none⟩) l := by
  intro h0
  obtain ⟨cs, h1, h2, h3⟩ := h
  refine ⟨_, rfl, hB, fun j hj => ?_⟩
  have e : (Addr.add ⟨g, 0, none⟩ j) = ⟨g, j, none⟩ := by
    unfold Addr.add
    split
    · rename_i h; rw [h]
    · simp
  rw [e]
  exact (cell_of_row w g _ cs _ (0, 0) h1).trans (h3 j hj)

theorem str_info : (Try.prog.info? 9).map (fun i => (i.zero, i.size, i.bytes)) = some (some (.string ⟨#[]⟩), 1, 16) := by kernel_rfl
theorem Own.new (w : World) (z : Array Value) (n : Nat) : Own (w.alloc (.cells (madeCells z n) 9)) w.heap.size n [] :=
  ⟨_, heap_alloc_new w _, size_madeCells _ _, fun j h => absurd h (by simp)⟩

end Go.Proofs.Ytlhebgfiljmeiaa.Str
