/-
  Ids: IdLess and MaxId of the program and of the given model answer the same.
-/
import Derived.Test.YtoomgdpjjbcbfaaId
namespace Go.Proofs.Ytoomgdpjjbcbfaa.Id
open Go.ChangeShapes Go.WideShapes Go.ChangeAt Go.RowKit
set_option linter.unusedVariables false
set_option maxRecDepth 100000

theorem cmp_less (c s e c' s' e' : Int) : decide (orV (cmpV c c') (cmpV s s') (cmpV e e') < 0) = lessB c s e c' s' e' := by
  have h1 : ∀ x y : Int, (x < y ∧ cmpV x y = -1) ∨ (x = y ∧ cmpV x y = 0) ∨ (y < x ∧ cmpV x y = 1) := fun x y => by
    unfold cmpV
    rcases Int.lt_trichotomy x y with h | h | h
    · exact .inl ⟨h, if_pos h⟩
    · exact .inr (.inl ⟨h, by rw [if_neg (by omega), if_neg (by omega)]⟩)
    · exact .inr (.inr ⟨h, by rw [if_neg (by omega), if_pos h]⟩)
  unfold lessB orV
  rw [decide_eq_decide]
  rcases h1 c c' with ⟨a, b⟩ | ⟨a, b⟩ | ⟨a, b⟩ <;> rcases h1 s s' with ⟨a2, b2⟩ | ⟨a2, b2⟩ | ⟨a2, b2⟩ <;> rcases h1 e e' with ⟨a3, b3⟩ | ⟨a3, b3⟩ | ⟨a3, b3⟩ <;> simp [b, b2, b3] <;> omega

theorem lessB_c {c s e c' s' e' : Int} (h : c < c') : lessB c s e c' s' e' = true := by simp [lessB, h]

/-- What MaxId answers. -/
def maxV (c s e c' s' e' : Int) : Value := if lessB c s e c' s' e' = true then idV c' s' e' else idV c s e

theorem row_old3 (w : World) (o1 o2 o3 : Obj) : (((w.alloc o1).alloc o2).alloc o3).heap[w.heap.size]? = some o1 := by
  rw [heap_alloc_old _ _ (by simp; omega), heap_alloc_old _ _ (by simp), heap_alloc_new]
theorem row_mid3 (w : World) (o1 o2 o3 : Obj) : (((w.alloc o1).alloc o2).alloc o3).heap[w.heap.size + 1]? = some o2 := by
  rw [heap_alloc_old _ _ (by simp), show w.heap.size + 1 = (w.alloc o1).heap.size by simp, heap_alloc_new]
theorem row_new3 (w : World) (o1 o2 o3 : Obj) : (((w.alloc o1).alloc o2).alloc o3).heap[w.heap.size + 1 + 1]? = some o3 := by
  rw [show w.heap.size + 1 + 1 = ((w.alloc o1).alloc o2).heap.size by simp, heap_alloc_new]
theorem id_free {W w1 : World} {b t : Nat} {xs : Array Value} (hb : Below W.heap.size W w1) (hlt : b < W.heap.size) (hrow : W.heap[b]? = some (.cells xs t (0, 0))) (j : Nat) : w1.frozen? ⟨b, j, none⟩ = false := by
  have h := (hb.block b hlt).trans hrow
  simp [World.frozen?, h]
/-- The three cells of an Id stand where they stood. -/
theorem id_kept {W w1 : World} {b t : Nat} {c s e : Int} (hb : Below W.heap.size W w1) (hlt : b < W.heap.size) (hrow : W.heap[b]? = some (.cells #[.int .i64 c, .int .i64 s, .int .i64 e] t (0, 0))) :
    w1.cell? ⟨b, 0, none⟩ = some (.int .i64 c) ∧ w1.cell? ⟨b, 1, none⟩ = some (.int .i64 s) ∧ w1.cell? ⟨b, 2, none⟩ = some (.int .i64 e) := by
  have h := (hb.block b hlt).trans hrow
  exact ⟨cell_of_row w1 b 0 _ t (0, 0) h, cell_of_row w1 b 1 _ t (0, 0) h, cell_of_row w1 b 2 _ t (0, 0) h⟩

end Go.Proofs.Ytoomgdpjjbcbfaa.Id
