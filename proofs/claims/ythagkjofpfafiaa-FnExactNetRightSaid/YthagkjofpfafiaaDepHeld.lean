/-
  A list that a call handed back, with the blocks it lies in; the law's own marks on an answer.
-/
import Derived.Test.YthagkjofpfafiaaDepMark
namespace Go.Proofs.Ythagkjofpfafiaa.Dep
open Go.ChangeShapes Go.WideShapes Go.ChangeAt Go.RowKit
set_option linter.unusedVariables false
set_option maxRecDepth 100000

/-- A list lies nowhere, being empty, or in a block from lo on, below hi. -/
def Held (W : World) (A : Option Addr) (l : List D) (lo hi : Nat) : Prop :=
  (A = none ∧ l = []) ∨ ∃ g, A = some ⟨g, 0, none⟩ ∧ Row W g l ∧ lo ≤ g ∧ g < hi
theorem Held.lies {W : World} {A : Option Addr} {l : List D} {lo hi B : Nat} (h : Held W A l lo hi) (hB : hi ≤ B) : Lies W B A l := by
  rcases h with ⟨rfl, rfl⟩ | ⟨g, rfl, hr, _, hg⟩
  · exact fun h0 => absurd h0 (by simp)
  · exact hr.lies (by omega)
theorem Held.keep {W W' : World} {A : Option Addr} {l : List D} {lo hi : Nat} (h : Held W A l lo hi) (hk : ∀ k, lo ≤ k → k < hi → k < W.heap.size → W'.heap[k]? = W.heap[k]?) : Held W' A l lo hi := by
  rcases h with h | ⟨g, rfl, hr, hlo, hg⟩
  · exact .inl h
  · exact .inr ⟨g, rfl, hr.same (hk g hlo hg hr.lt), hlo, hg⟩
theorem Held.step {W W' : World} {A : Option Addr} {l : List D} {lo hi N : Nat} (h : Held W A l lo hi) (hb : Below N W W') (hN : hi ≤ N ∨ W.heap.size ≤ N) : Held W' A l lo hi := h.keep fun k _ h2 h3 => hb.block k (by omega)
theorem Held.other {W W' : World} {A : Option Addr} {l : List D} {lo hi g : Nat} (h : Held W A l lo hi) (hg : W.grownBy W' (some g)) (hne : g < lo ∨ hi ≤ g) : Held W' A l lo hi :=
  h.keep fun k h1 h2 h3 => hg.block k h3 (fun e => by cases e; omega)
theorem Held.none {W W' : World} {A : Option Addr} {l : List D} {lo hi : Nat} (h : Held W A l lo hi) (hg : W.grownBy W' none) : Held W' A l lo hi :=
  h.keep fun k h1 h2 h3 => hg.block k h3 (fun e => by cases e)
theorem Held.wide {W : World} {A : Option Addr} {l : List D} {lo hi lo' hi' : Nat} (h : Held W A l lo hi) (hl : lo' ≤ lo) (hh : hi ≤ hi') : Held W A l lo' hi' :=
  h.imp id fun ⟨g, e, hr, h1, h2⟩ => ⟨g, e, hr, by omega, by omega⟩
theorem Held.of_own {W : World} {A : Option Addr} {l : List D} {base n cap : Nat} (h : W.ownsRow base 108 4 (slV A l cap) n (flat l)) : Held W A l base W.heap.size := by
  have hn : n = l.length := (own_lies h).1
  rcases h.2 with ⟨e, h0⟩ | ⟨g, cap', cur, e, hb, hh, hnc, hcm, hsz, hx⟩
  · unfold slV at e
    injection e with e1 e2 e3
    exact .inl ⟨e1, List.eq_nil_of_length_eq_zero e2⟩
  · unfold slV at e
    injection e with e1 e2 e3
    subst e1
    refine .inr ⟨g, rfl, ⟨cur, hh, by rw [hsz]; omega, fun j hj => ?_⟩, hb, (Array.getElem?_eq_some_iff.1 hh).1⟩
    have key : ∀ r u, r < l.length * 4 → (flat l)[r]? = some u → cur[r]? = some u := fun r u hr hu => by
      rw [← Array.getElem?_toList]
      rw [← hx, hn, List.getElem?_take, if_pos hr] at hu
      exact hu
    obtain ⟨g0, g1, g2, g3⟩ := flat_at hj
    exact ⟨key (j * 4) _ (by omega) g0, key (j * 4 + 1) _ (by omega) g1, key (j * 4 + 2) _ (by omega) g2, key (j * 4 + 3) _ (by omega) g3⟩
theorem Held.of_row {W : World} {g n : Nat} {l : List D} (h : Own W g n l) (hn : l.length ≤ n) {lo : Nat} (hlo : lo ≤ g) : Held W (some ⟨g, 0, Option.none⟩) l lo W.heap.size :=
  .inr ⟨g, rfl, Row.of_own h hn, hlo, h.lt⟩

/-- What a call answered, in its own terms. -/
theorem Answers.held {w w' : World} {e : Ending} {r : List D} {c : Int} (h : Answers w e w' r c) : ∃ A cap, e = .returned (outV (.slice A r.length cap) c) ∧ Held w' A r w.heap.size w'.heap.size ∧ r.length ≤ cap ∧ Below w.heap.size w w' := by
  obtain ⟨A, cap, rfl, ho, hc, hL, hb⟩ := h
  exact ⟨A, cap, rfl, Held.of_own ho, hc, hb⟩

end Go.Proofs.Ythagkjofpfafiaa.Dep
