/-
  A list of cells: where it lies, a block of them, what is a call's own.
-/
import Derived.Test.YtoagdpbbojlgfaaPackDep
namespace Go.Proofs.Ytoagdpbbojlgfaa.Net
open Go.ChangeShapes Go.WideShapes Go.ChangeAt Go.RowKit
open Dep (add_block add_add row_set get_ne get_eq)
set_option linter.unusedVariables false
set_option maxRecDepth 100000

/-- Cells lie at an address. -/
def Cl (w : World) (B : Nat) (A : Option Addr) (vs : List Value) : Prop :=
  0 < vs.length → ∃ ad, A = some ad ∧ ad.block < B ∧ ∀ (j : Nat) (u : Value), vs[j]? = some u → w.cell? (ad.add j) = some u
theorem Cl.keep {w w' : World} {B : Nat} {A : Option Addr} {vs : List Value} (h : Cl w B A vs) (hk : ∀ p : Addr, p.block < B → w'.cell? p = w.cell? p) : Cl w' B A vs := fun h0 => by
  obtain ⟨ad, e, hb, hc⟩ := h h0
  exact ⟨ad, e, hb, fun j u hu => (hk _ (by rw [add_block]; exact hb)).trans (hc j u hu)⟩
theorem Cl.more {w : World} {B B' : Nat} {A : Option Addr} {vs : List Value} (h : Cl w B A vs) (hB : B ≤ B') : Cl w B' A vs := fun h0 => by
  obtain ⟨ad, e, hb, hc⟩ := h h0
  exact ⟨ad, e, by omega, hc⟩
theorem Cl.below {w w' : World} {B N : Nat} {A : Option Addr} {vs : List Value} (h : Cl w B A vs) (hb : Below N w w') (hN : B ≤ N) : Cl w' B A vs := h.keep fun p hp => hb.cell (by omega)
theorem Cl.nil (w : World) (B : Nat) (A : Option Addr) : Cl w B A [] := fun h => absurd h (by simp)

/-- Block g is one of n cells, the first of which are these. -/
def Bk (w : World) (g t n : Nat) (vs : List Value) : Prop := ∃ cs : Array Value, w.heap[g]? = some (.cells cs t (0, 0)) ∧ cs.size = n ∧ vs.length ≤ n ∧ ∀ (j : Nat) (u : Value), vs[j]? = some u → cs[j]? = some u
theorem Bk.lt {w : World} {g t n : Nat} {vs : List Value} (h : Bk w g t n vs) : g < w.heap.size := by
  obtain ⟨cs, h, _⟩ := h
  exact (Array.getElem?_eq_some_iff.1 h).1
theorem Bk.same {w w1 : World} {g t n : Nat} {vs : List Value} (h : Bk w g t n vs) (hb : w1.heap[g]? = w.heap[g]?) : Bk w1 g t n vs := by
  obtain ⟨cs, h, h2⟩ := h
  exact ⟨cs, hb.trans h, h2⟩
theorem Bk.step {w w1 : World} {g t n N : Nat} {vs : List Value} (h : Bk w g t n vs) (hb : Below N w w1) (hlt : g < N) : Bk w1 g t n vs := h.same (hb.block g hlt)
theorem Bk.on {w w1 : World} {g t n : Nat} {vs : List Value} (h : Bk w g t n vs) (hb : Below w.heap.size w w1) : Bk w1 g t n vs := h.step hb h.lt
theorem Bk.free {w : World} {g t n : Nat} {vs : List Value} (h : Bk w g t n vs) (j : Nat) : w.frozen? ⟨g, j, none⟩ = false := by
  obtain ⟨cs, h, h2⟩ := h
  simp [World.frozen?, h]
theorem Bk.cell {w : World} {g t n : Nat} {vs : List Value} (h : Bk w g t n vs) {j : Nat} (hj : j < n) : ∃ u, w.cell? ⟨g, j, none⟩ = some u := by
  obtain ⟨cs, h, h2, _⟩ := h
  rw [cell_of_row w g j cs _ (0, 0) h]
  exact ⟨cs[j]'(by omega), Array.getElem?_eq_getElem (by omega)⟩
theorem Bk.at_ {w : World} {g t n : Nat} {vs : List Value} (h : Bk w g t n vs) {j : Nat} {u : Value} (hu : vs[j]? = some u) : w.cell? ⟨g, j, none⟩ = some u := by
  obtain ⟨cs, h, _, _, h2⟩ := h
  rw [cell_of_row w g j cs _ (0, 0) h]
  exact h2 j u hu
theorem Bk.new (w : World) (z : Array Value) (t n : Nat) : Bk (w.alloc (.cells (madeCells z n) t)) w.heap.size t n [] :=
  ⟨_, heap_alloc_new w _, size_madeCells _ _, by simp, fun j u h => by simp at h⟩
theorem Bk.put {w : World} {g t n : Nat} {vs : List Value} (h : Bk w g t n vs) {k : Nat} (hk : vs.length = k) (hn : k < n) (u : Value) : Bk (w.setCell ⟨g, k, none⟩ u) g t n (vs ++ [u]) := by
  obtain ⟨cs, h1, h2, h3, h4⟩ := h
  refine ⟨_, row_set h1 _ _, by simpa using h2, by simp; omega, fun j v hv => ?_⟩
  by_cases e : j = k
  · subst e
    rw [get_eq _ (by omega)]
    rw [List.getElem?_append_right (by omega), hk, Nat.sub_self] at hv
    simpa using hv
  · have hj : j < vs.length := by
      have := (List.getElem?_eq_some_iff.1 hv).1
      simp at this
      omega
    rw [get_ne _ (by omega)]
    rw [List.getElem?_append_left hj] at hv
    exact h4 j v hv
theorem Bk.set {w : World} {g t n : Nat} {vs : List Value} (h : Bk w g t n vs) {k : Nat} (u : Value) : Bk (w.setCell ⟨g, k, none⟩ u) g t n (vs.set k u) := by
  obtain ⟨cs, h1, h2, h3, h4⟩ := h
  refine ⟨_, row_set h1 _ _, by simpa using h2, by simpa using h3, fun j v hv => ?_⟩
  have hj : j < vs.length := by
    have := (List.getElem?_eq_some_iff.1 hv).1
    simpa using this
  by_cases e : k = j
  · subst e
    rw [get_eq _ (by omega)]
    rw [List.getElem?_set_self hj] at hv
    exact hv
  · rw [get_ne _ e]
    rw [List.getElem?_set_ne e] at hv
    exact h4 j v hv
theorem addr0 (g j : Nat) : (Addr.add ⟨g, 0, none⟩ j) = ⟨g, j, none⟩ := by
  unfold Addr.add
  split
  · rename_i h; rw [h]
  · simp
theorem Bk.cl {w : World} {g t n B : Nat} {vs : List Value} (h : Bk w g t n vs) (hB : g < B) : Cl w B (some ⟨g, 0, none⟩) vs := fun _ => by
  refine ⟨_, rfl, hB, fun j u hu => ?_⟩
  rw [addr0]
  exact h.at_ hu

/-- A list of cells is a call's own: none, or all of a block from a on, below b. -/
def HeldV (w : World) (A : Option Addr) (t : Nat) (vs : List Value) (a b : Nat) : Prop := vs = [] ∨ ∃ g n, A = some ⟨g, 0, none⟩ ∧ Bk w g t n vs ∧ a ≤ g ∧ g < b
theorem HeldV.keep {w w' : World} {A : Option Addr} {t : Nat} {vs : List Value} {a b : Nat} (h : HeldV w A t vs a b) (hk : ∀ (g : Nat) (cs : Array Value), w.heap[g]? = some (Obj.cells cs t (0, 0)) → a ≤ g → g < b → w'.heap[g]? = w.heap[g]?) : HeldV w' A t vs a b := by
  rcases h with h | ⟨g, n, e, hB, h1, h2⟩
  · exact .inl h
  · have hB' := hB
    obtain ⟨cs, hc, _⟩ := hB'
    exact .inr ⟨g, n, e, hB.same (hk g cs hc h1 h2), h1, h2⟩
theorem HeldV.step {w w' : World} {A : Option Addr} {t : Nat} {vs : List Value} {a b N : Nat} (h : HeldV w A t vs a b) (hb : Below N w w') (hN : b ≤ N ∨ w.heap.size ≤ N) : HeldV w' A t vs a b :=
  h.keep fun g cs hc h1 h2 => hb.block g (by have := (Array.getElem?_eq_some_iff.1 hc).1; omega)
theorem HeldV.wide {w : World} {A : Option Addr} {t : Nat} {vs : List Value} {a b a' b' : Nat} (h : HeldV w A t vs a b) (h1 : a' ≤ a) (h2 : b ≤ b') : HeldV w A t vs a' b' :=
  h.imp id fun ⟨g, n, e, hB, x, y⟩ => ⟨g, n, e, hB, by omega, by omega⟩
theorem HeldV.cl {w : World} {A : Option Addr} {t : Nat} {vs : List Value} {a b B : Nat} (h : HeldV w A t vs a b) (hB : b ≤ B) : Cl w B A vs := by
  rcases h with rfl | ⟨g, n, rfl, hk, h1, h2⟩
  · exact Cl.nil _ _ _
  · exact hk.cl (by omega)
theorem HeldV.above {w w' : World} {A : Option Addr} {t : Nat} {vs : List Value} {a b : Nat} (h : HeldV w A t vs a b) (hk : Above a w w') : HeldV w' A t vs a b := h.keep fun g cs _ h1 _ => hk.2 g h1
theorem HeldV.of_bk {w : World} {g t n : Nat} {vs : List Value} {a b : Nat} (h : Bk w g t n vs) (h1 : a ≤ g) (h2 : g < b) : HeldV w (some ⟨g, 0, none⟩) t vs a b := .inr ⟨g, n, rfl, h, h1, h2⟩
end Go.Proofs.Ytoagdpbbojlgfaa.Net
