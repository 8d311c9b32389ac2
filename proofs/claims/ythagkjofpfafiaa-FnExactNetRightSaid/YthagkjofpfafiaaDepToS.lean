/-
  The law's own toDepS: a new row with what a slice reads as.
-/
import Derived.Test.YthagkjofpfafiaaDepTo
namespace Go.Proofs.Ythagkjofpfafiaa.Dep
open Go.ChangeShapes Go.WideShapes Go.ChangeAt Go.RowKit
set_option linter.unusedVariables false
set_option maxRecDepth 100000

/-- Block g is a row of n deps, the first of which are l. -/
def Own (w : World) (g n : Nat) (l : List D) : Prop :=
  ∃ cs : Array Value, w.heap[g]? = some (.cells cs 108 (0, 0)) ∧ cs.size = n * 4 ∧
    ∀ j (h : j < l.length), cs[j * 4]? = some (.string l[j].k) ∧ cs[j * 4 + 1]? = some (.int .i64 l[j].i.c) ∧ cs[j * 4 + 2]? = some (.int .i64 l[j].i.s) ∧ cs[j * 4 + 3]? = some (.int .i64 l[j].i.e)

theorem Own.new (w : World) (z : Array Value) (n : Nat) : Own (w.alloc (.cells (madeCells z (n * 4)) 108)) w.heap.size n [] :=
  ⟨_, heap_alloc_new w _, size_madeCells _ _, fun j h => absurd h (by simp)⟩
theorem Own.lt {w : World} {g n : Nat} {l : List D} (h : Own w g n l) : g < w.heap.size := by
  obtain ⟨cs, h, _⟩ := h
  exact (Array.getElem?_eq_some_iff.1 h).1
theorem Own.step {w w1 : World} {g n N : Nat} {l : List D} (h : Own w g n l) (hb : Below N w w1) (hlt : g < N) : Own w1 g n l := by
  obtain ⟨cs, h, h2⟩ := h
  exact ⟨cs, (hb.block g hlt).trans h, h2⟩
theorem Own.free {w : World} {g n : Nat} {l : List D} (h : Own w g n l) (j : Nat) : w.frozen? ⟨g, j, none⟩ = false := by
  obtain ⟨cs, h, h2⟩ := h
  simp [World.frozen?, h]
theorem Own.cell {w : World} {g n : Nat} {l : List D} (h : Own w g n l) {j : Nat} (hj : j < n * 4) : ∃ u, w.cell? ⟨g, j, none⟩ = some u := by
  obtain ⟨cs, h, h2, _⟩ := h
  rw [cell_of_row w g j cs _ (0, 0) h]
  exact ⟨cs[j]'(by omega), Array.getElem?_eq_getElem (by omega)⟩

theorem row_set {w : World} {g t : Nat} {cs : Array Value} (h : w.heap[g]? = some (.cells cs t (0, 0))) (i : Nat) (u : Value) : (w.setCell ⟨g, i, none⟩ u).heap[g]? = some (.cells (cs.setIfInBounds i u) t (0, 0)) := by
  simp [World.setCell, Array.getElem?_modify, h]
theorem get_ne {cs : Array Value} {i j : Nat} (u : Value) (h : i ≠ j) : (cs.setIfInBounds i u)[j]? = cs[j]? := Array.getElem?_setIfInBounds_ne h
theorem get_eq {cs : Array Value} {i : Nat} (u : Value) (h : i < cs.size) : (cs.setIfInBounds i u)[i]? = some u := by
  rw [Array.getElem?_setIfInBounds_self]; simp [h]
/-- One dep more. -/
theorem Own.put {w : World} {g n : Nat} {l : List D} (h : Own w g n l) (d : D) (hn : l.length < n) {k : Nat} (hk : l.length = k) :
    Own ((((w.setCell ⟨g, k * 4, none⟩ (.string d.k)).setCell ⟨g, k * 4 + 1, none⟩ (.int .i64 d.i.c)).setCell ⟨g, k * 4 + 2, none⟩ (.int .i64 d.i.s)).setCell ⟨g, k * 4 + 3, none⟩ (.int .i64 d.i.e)) g n (l ++ [d]) := by
  obtain ⟨cs, h1, h2, h3⟩ := h
  refine ⟨_, row_set (row_set (row_set (row_set h1 _ _) _ _) _ _) _ _, by simp [h2], fun j hj => ?_⟩
  rw [List.length_append, List.length_singleton] at hj
  by_cases e : j = k
  · subst e
    have e1 : (l ++ [d])[j] = d := by simp [← hk]
    rw [e1]
    refine ⟨?_, ?_, ?_, ?_⟩
    · rw [get_ne _ (by omega), get_ne _ (by omega), get_ne _ (by omega), get_eq _ (by omega)]
    · rw [get_ne _ (by omega), get_ne _ (by omega), get_eq _ (by simp; omega)]
    · rw [get_ne _ (by omega), get_eq _ (by simp; omega)]
    · rw [get_eq _ (by simp; omega)]
  · have hjl : j < l.length := by omega
    rw [List.getElem_append_left hjl]
    obtain ⟨a0, a1, a2, a3⟩ := h3 j hjl
    refine ⟨?_, ?_, ?_, ?_⟩
    · rw [get_ne _ (by omega), get_ne _ (by omega), get_ne _ (by omega), get_ne _ (by omega)]; exact a0
    · rw [get_ne _ (by omega), get_ne _ (by omega), get_ne _ (by omega), get_ne _ (by omega)]; exact a1
    · rw [get_ne _ (by omega), get_ne _ (by omega), get_ne _ (by omega), get_ne _ (by omega)]; exact a2
    · rw [get_ne _ (by omega), get_ne _ (by omega), get_ne _ (by omega), get_ne _ (by omega)]; exact a3
/-- A row of one's own reads as what it holds. -/
theorem Own.lies {w : World} {g n B : Nat} {l : List D} (h : Own w g n l) (hB : g < B) : Lies w B (some ⟨g, 0, none⟩) l := by
  intro h0
  obtain ⟨cs, h1, h2, h3⟩ := h
  refine ⟨_, rfl, hB, fun j hj => ?_⟩
  obtain ⟨a0, a1, a2, a3⟩ := h3 j hj
  have e : (Addr.add ⟨g, 0, none⟩ (j * 4)) = ⟨g, j * 4, none⟩ := by
    unfold Addr.add
    split
    · rename_i h; rw [h]
    · simp
  rw [e]
  exact ⟨(cell_of_row w g _ cs _ (0, 0) h1).trans a0, (cell_of_row w g _ cs _ (0, 0) h1).trans a1, (cell_of_row w g _ cs _ (0, 0) h1).trans a2, (cell_of_row w g _ cs _ (0, 0) h1).trans a3⟩

theorem dep_info : (Try.prog.info? 108).map (fun i => (i.zero, i.size, i.bytes)) = some (some (.agg #[.string ⟨#[]⟩, .int .i64 0, .int .i64 0, .int .i64 0]), 4, 40) := by kernel_rfl

end Go.Proofs.Ythagkjofpfafiaa.Dep
