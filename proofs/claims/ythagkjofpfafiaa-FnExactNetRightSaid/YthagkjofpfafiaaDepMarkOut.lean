/-
  The law's own marks on an answer: markDepsOut, heldDepsOut; what a mark leaves of the rest.
-/
import Derived.Test.YthagkjofpfafiaaDepHeld
namespace Go.Proofs.Ythagkjofpfafiaa.Dep
open Go.ChangeShapes Go.WideShapes Go.ChangeAt Go.RowKit
set_option linter.unusedVariables false
set_option maxRecDepth 100000

/-- Nothing has turned but new blocks, and one block of deps from lo on, below hi. -/
def Turned (W W' : World) (lo hi : Nat) : Prop := ∃ row, W.grownBy W' row ∧ ∀ g, row = some g → lo ≤ g ∧ g < hi ∧ ∃ cs, W.heap[g]? = some (.cells cs 108 (0, 0))
theorem Turned.size {W W' : World} {lo hi : Nat} (h : Turned W W' lo hi) : W.heap.size ≤ W'.heap.size := by obtain ⟨row, hg, _⟩ := h; exact hg.size
theorem Turned.held {W W' : World} {lo hi lo' hi' : Nat} {A : Option Addr} {l : List D} (h : Turned W W' lo hi) (hh : Held W A l lo' hi') (hd : hi' ≤ lo ∨ hi ≤ lo') : Held W' A l lo' hi' := by
  obtain ⟨row, hg, hr⟩ := h
  exact hh.keep fun k h1 h2 h3 => hg.block k h3 (fun e => by have := hr k e.symm; omega)
theorem Turned.orow {W W' : World} {lo hi b : Nat} {s : Value} {c : Int} (h : Turned W W' lo hi) (hh : ORow W b s c) : ORow W' b s c := by
  obtain ⟨row, hg, hr⟩ := h
  refine (hg.block b hh.lt (fun e => ?_)).trans hh
  obtain ⟨_, _, cs, hc⟩ := hr b e.symm
  rw [show W.heap[b]? = _ from hh] at hc
  cases hc
theorem Turned.idrow {W W' : World} {lo hi b : Nat} {x y z : Int} {t : Nat} (h : Turned W W' lo hi) (hh : Id.IdRow W b t x y z) (ht : t ≠ 108) : Id.IdRow W' b t x y z := by
  obtain ⟨row, hg, hr⟩ := h
  refine (hg.block b hh.lt (fun e => ?_)).trans hh
  obtain ⟨_, _, cs, hc⟩ := hr b e.symm
  rw [show W.heap[b]? = _ from hh] at hc
  injection hc with hc
  injection hc with _ h2
  exact absurd h2 ht
theorem Turned.below {w W W' : World} {lo hi : Nat} (h : Turned W W' lo hi) (hb : Below w.heap.size w W) (hlo : w.heap.size ≤ lo) : Below w.heap.size w W' := by
  obtain ⟨row, hg, hr⟩ := h
  exact hb.grown hg hb.size (fun k e => by have := hr k e; omega)
theorem turned_pre {W W1 W' : World} {lo hi : Nat} (hb : Below W.heap.size W W1) (hhi : hi ≤ W.heap.size) (h : Turned W1 W' lo hi) : Turned W W' lo hi := by
  obtain ⟨row, hg, hr⟩ := h
  refine ⟨row, grown_trans (grown_of_below row hb) hg, fun g e => ?_⟩
  obtain ⟨h1, h2, cs, hc⟩ := hr g e
  exact ⟨h1, h2, cs, by rw [← hb.block g (by omega)]; exact hc⟩

theorem joinR_len (a b : List D) : (joinR a b).length ≤ 6 := by
  unfold joinR
  by_cases h : joinC a b = 0
  · rw [if_pos h]
    unfold joinC at h
    by_cases h1 : 400 < a.length ∨ 400 < b.length
    · rw [if_pos h1] at h; omega
    · rw [if_neg h1] at h
      by_cases h2 : depsB a = true ∧ depsB b = true
      · rw [if_pos h2] at h
        by_cases h3 : 6 < (joinV a b).length
        · rw [if_pos h3] at h; omega
        · omega
      · rw [if_neg h2] at h; omega
  · rw [if_neg h]; simp
theorem putR_len (l : List D) (q : ByteArray) (x : I) : (putR l q x).length ≤ 6 := by
  unfold putR
  by_cases h : putC l q x = 0
  · rw [if_pos h]
    unfold putC at h
    by_cases h1 : 400 < l.length ∨ 8000 < q.size
    · rw [if_pos h1] at h; omega
    · rw [if_neg h1] at h
      by_cases h2 : depsB l = true ∧ Key.keyB q = true ∧ x.right = true
      · rw [if_pos h2] at h
        by_cases h3 : 6 < (putV l q x).length
        · rw [if_pos h3] at h; omega
        · omega
      · rw [if_neg h2] at h; omega
  · rw [if_neg h]; simp
end Go.Proofs.Ythagkjofpfafiaa.Dep
