/-
  Strings that a call handed back, with the block they lie in; the law's own markStringS, heldStringS.
-/
import Derived.Test.YtoagdpbbojlgfaaStrEq
import Derived.Test.YtoagdpbbojlgfaaPackHeld
import Derived.Test.YtoagdpbbojlgfaaPackDep
namespace Go.Proofs.Ytoagdpbbojlgfaa.Str
open Go.ChangeShapes Go.WideShapes Go.ChangeAt Go.RowKit
open Dep (add_block add_add row_set get_ne get_eq list_eq markV grown_trans grown_of_below grown_set)
set_option linter.unusedVariables false
set_option maxRecDepth 100000

/-- Block g begins with these strings. -/
def Row (w : World) (g : Nat) (l : List ByteArray) : Prop :=
  ∃ cs : Array Value, w.heap[g]? = some (.cells cs 9 (0, 0)) ∧ l.length ≤ cs.size ∧ ∀ j (h : j < l.length), cs[j]? = some (.string l[j])
theorem Row.lt {w : World} {g : Nat} {l : List ByteArray} (h : Row w g l) : g < w.heap.size := by
  obtain ⟨cs, h, _⟩ := h
  exact (Array.getElem?_eq_some_iff.1 h).1
theorem Row.same {w w1 : World} {g : Nat} {l : List ByteArray} (h : Row w g l) (hb : w1.heap[g]? = w.heap[g]?) : Row w1 g l := by
  obtain ⟨cs, h, h2⟩ := h
  exact ⟨cs, hb.trans h, h2⟩
theorem Row.step {w w1 : World} {g N : Nat} {l : List ByteArray} (h : Row w g l) (hb : Below N w w1) (hlt : g < N) : Row w1 g l := h.same (hb.block g hlt)
theorem Row.free {w : World} {g : Nat} {l : List ByteArray} (h : Row w g l) (j : Nat) : w.frozen? ⟨g, j, none⟩ = false := by
  obtain ⟨cs, h, h2⟩ := h
  simp [World.frozen?, h]
theorem Row.cell {w : World} {g : Nat} {l : List ByteArray} (h : Row w g l) {j : Nat} (hj : j < l.length) : ∃ u, w.cell? ⟨g, j, none⟩ = some u := by
  obtain ⟨cs, h, h2, _⟩ := h
  rw [cell_of_row w g j cs _ (0, 0) h]
  exact ⟨cs[j]'(by omega), Array.getElem?_eq_getElem (by omega)⟩
theorem Row.lies {w : World} {g B : Nat} {l : List ByteArray} (h : Row w g l) (hB : g < B) : Lies w B (some ⟨g, 0, none⟩) l := by
  intro h0
  obtain ⟨cs, h1, h2, h3⟩ := h
  refine ⟨_, rfl, hB, fun j hj => ?_⟩
  have e : (Addr.add ⟨g, 0, none⟩ j) = ⟨g, j, none⟩ := by
    unfold Addr.add
    split
    · rename_i h; rw [h]
    · simp
  rw [e]
  exact (cell_of_row w g _ cs _ (0, 0) h1).trans (h3 j hj)
theorem Row.put {w : World} {g : Nat} {l : List ByteArray} (h : Row w g l) (d : ByteArray) {k : Nat} (hk : k < l.length) : Row (w.setCell ⟨g, k, none⟩ (.string d)) g (l.set k d) := by
  obtain ⟨cs, h1, h2, h3⟩ := h
  refine ⟨_, row_set h1 _ _, by simp; omega, fun j hj => ?_⟩
  rw [List.length_set] at hj
  by_cases e : j = k
  · subst e
    rw [List.getElem_set_self]
    exact get_eq _ (by omega)
  · rw [List.getElem_set_ne (by omega), get_ne _ (by omega)]
    exact h3 j hj
theorem Row.of_own {w : World} {g n : Nat} {l : List ByteArray} (h : Own w g n l) (hn : l.length ≤ n) : Row w g l := by
  obtain ⟨cs, h1, h2, h3⟩ := h
  exact ⟨cs, h1, by omega, h3⟩

/-- A list lies nowhere, being empty, or in a block from lo on, below hi. -/
def Held (W : World) (A : Option Addr) (l : List ByteArray) (lo hi : Nat) : Prop :=
  (A = none ∧ l = []) ∨ ∃ g, A = some ⟨g, 0, none⟩ ∧ Row W g l ∧ lo ≤ g ∧ g < hi
theorem Held.lies {W : World} {A : Option Addr} {l : List ByteArray} {lo hi B : Nat} (h : Held W A l lo hi) (hB : hi ≤ B) : Lies W B A l := by
  rcases h with ⟨rfl, rfl⟩ | ⟨g, rfl, hr, _, hg⟩
  · exact fun h0 => absurd h0 (by simp)
  · exact hr.lies (by omega)
theorem Held.keep {W W' : World} {A : Option Addr} {l : List ByteArray} {lo hi : Nat} (h : Held W A l lo hi) (hk : ∀ k, lo ≤ k → k < hi → k < W.heap.size → W'.heap[k]? = W.heap[k]?) : Held W' A l lo hi := by
  rcases h with h | ⟨g, rfl, hr, hlo, hg⟩
  · exact .inl h
  · exact .inr ⟨g, rfl, hr.same (hk g hlo hg hr.lt), hlo, hg⟩
theorem Held.step {W W' : World} {A : Option Addr} {l : List ByteArray} {lo hi N : Nat} (h : Held W A l lo hi) (hb : Below N W W') (hN : hi ≤ N ∨ W.heap.size ≤ N) : Held W' A l lo hi := h.keep fun k _ h2 h3 => hb.block k (by omega)
theorem Held.wide {W : World} {A : Option Addr} {l : List ByteArray} {lo hi lo' hi' : Nat} (h : Held W A l lo hi) (hl : lo' ≤ lo) (hh : hi ≤ hi') : Held W A l lo' hi' :=
  h.imp id fun ⟨g, e, hr, h1, h2⟩ => ⟨g, e, hr, by omega, by omega⟩
theorem Held.of_row {W : World} {g n : Nat} {l : List ByteArray} (h : Own W g n l) (hn : l.length ≤ n) {lo : Nat} (hlo : lo ≤ g) : Held W (some ⟨g, 0, Option.none⟩) l lo W.heap.size :=
  .inr ⟨g, rfl, Row.of_own h hn, hlo, h.lt⟩
/-- A mark of deps leaves the strings. -/
theorem Held.turned {W W' : World} {A : Option Addr} {l : List ByteArray} {lo hi lo' hi' : Nat} (h : Held W A l lo hi) (ht : Dep.Turned W W' lo' hi') : Held W' A l lo hi := by
  rcases h with h | ⟨g, rfl, hr, hlo, hg⟩
  · exact .inl h
  · obtain ⟨row, hgr, hrow⟩ := ht
    refine .inr ⟨g, rfl, hr.same (hgr.block g hr.lt fun e => ?_), hlo, hg⟩
    obtain ⟨_, _, cs, hc⟩ := hrow g e.symm
    obtain ⟨cs', hc', _⟩ := hr
    rw [hc'] at hc
    injection hc with hc
    injection hc with _ h2
    exact absurd h2 (by decide)
/-- Nothing has turned but new blocks, and one block of strings from lo on, below hi. -/
def Turned (W W' : World) (lo hi : Nat) : Prop := ∃ row, W.grownBy W' row ∧ ∀ g, row = some g → lo ≤ g ∧ g < hi ∧ ∃ cs, W.heap[g]? = some (.cells cs 9 (0, 0))
theorem Turned.size {W W' : World} {lo hi : Nat} (h : Turned W W' lo hi) : W.heap.size ≤ W'.heap.size := by obtain ⟨row, hg, _⟩ := h; exact hg.size
theorem Turned.blk {W W' : World} {lo hi b t : Nat} {cs : Array Value} (h : Turned W W' lo hi) (hh : Blk W b t cs) (ht : t ≠ 9) : Blk W' b t cs := by
  obtain ⟨row, hg, hr⟩ := h
  refine (hg.block b hh.lt (fun e => ?_)).trans hh
  obtain ⟨_, _, cs, hc⟩ := hr b e.symm
  rw [show W.heap[b]? = _ from hh] at hc
  injection hc with hc
  injection hc with _ h2
  exact absurd h2 ht
theorem Turned.below {w W W' : World} {lo hi : Nat} (h : Turned W W' lo hi) (hb : Below w.heap.size w W) (hlo : w.heap.size ≤ lo) : Below w.heap.size w W' := by
  obtain ⟨row, hg, hr⟩ := h
  exact hb.grown hg hb.size (fun k e => by have := hr k e; omega)
theorem Turned.held {W W' : World} {lo hi lo' hi' : Nat} {A : Option Addr} {l : List ByteArray} (h : Turned W W' lo hi) (hh : Held W A l lo' hi') (hd : hi' ≤ lo ∨ hi ≤ lo') : Held W' A l lo' hi' := by
  obtain ⟨row, hg, hr⟩ := h
  exact hh.keep fun k h1 h2 h3 => hg.block k h3 (fun e => by have := hr k e.symm; omega)
/-- A mark of strings leaves the deps. -/
theorem Turned.deps {W W' : World} {lo hi lo' hi' : Nat} {A : Option Addr} {l : List Dep.D} (h : Turned W W' lo hi) (hh : Dep.Held W A l lo' hi') : Dep.Held W' A l lo' hi' := by
  rcases hh with hh | ⟨g, rfl, hr, hlo, hg⟩
  · exact .inl hh
  · obtain ⟨row, hgr, hrow⟩ := h
    refine .inr ⟨g, rfl, hr.same (hgr.block g hr.lt fun e => ?_), hlo, hg⟩
    obtain ⟨_, _, cs, hc⟩ := hrow g e.symm
    obtain ⟨cs', hc', _⟩ := hr
    rw [hc'] at hc
    injection hc with hc
    injection hc with _ h2
    exact absurd h2 (by decide)
theorem blk_turned {W W' : World} {lo hi b t : Nat} {cs : Array Value} (h : Dep.Turned W W' lo hi) (hh : Blk W b t cs) (ht : t ≠ 63) : Blk W' b t cs := by
  obtain ⟨row, hg, hr⟩ := h
  refine (hg.block b hh.lt (fun e => ?_)).trans hh
  obtain ⟨_, _, cs, hc⟩ := hr b e.symm
  rw [show W.heap[b]? = _ from hh] at hc
  injection hc with hc
  injection hc with _ h2
  exact absurd h2 ht

def marks (k n : Nat) : List ByteArray := (List.range n).map fun j => markV (k + j)
def part (k : Nat) (l : List ByteArray) (j : Nat) : List ByteArray := marks k j ++ l.drop j
theorem part_len {k : Nat} {l : List ByteArray} {j : Nat} (h : j ≤ l.length) : (part k l j).length = l.length := by simp [part, marks]; omega
theorem part_step {k : Nat} {l : List ByteArray} {j : Nat} (h : j < l.length) : (part k l j).set j (markV (k + j)) = part k l (j + 1) := by
  unfold part
  rw [List.set_append_right _ _ (by simp [marks])]
  have e : j - (marks k j).length = 0 := by simp [marks]
  rw [e, List.drop_eq_getElem_cons h, List.set_cons_zero]
  simp [marks, List.range_succ]
theorem part_all {k : Nat} {l : List ByteArray} {j : Nat} (h : l.length = j) : part k l j = marks k l.length := by
  unfold part
  rw [List.drop_eq_nil_of_le (by omega), h, List.append_nil]

theorem ret_i64 {a b : Int} (h : a = b) : Ending.returned (.int .i64 a) = .returned (.int .i64 b) := by rw [h]

/-- A string stands, and nothing below is written. -/
abbrev OneS (w : World) (a : Addr) (x : ByteArray) (W : World) : Prop := W.cell? a = some (.string x) ∧ Below w.heap.size w W
theorem OneS.step {w W W' : World} {a : Addr} {x : ByteArray} (h : OneS w a x W) (hb : Below W.heap.size W W') : OneS w a x W' := ⟨Lib.Below.cellOf hb h.1 (Nat.le_refl _), h.2.trans (hb.mono h.2.size)⟩
theorem OneS.drew {w W : World} {a : Addr} {x : ByteArray} (h : OneS w a x W) : OneS w a x W.drew := ⟨h.1, h.2.drew⟩

end Go.Proofs.Ytoagdpbbojlgfaa.Str
