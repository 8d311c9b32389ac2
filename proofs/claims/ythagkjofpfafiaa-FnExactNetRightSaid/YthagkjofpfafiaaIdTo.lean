/-
  Ids: the law's own toId hands an Id on as it is; its eqId compares two of them.
-/
import Derived.Test.YthagkjofpfafiaaId
namespace Go.Proofs.Ythagkjofpfafiaa.Id
open Go.ChangeShapes Go.WideShapes Go.ChangeAt Go.RowKit
set_option linter.unusedVariables false
set_option maxRecDepth 100000

/-- Block b holds an Id. -/
def IdRow (W : World) (b t : Nat) (c s e : Int) : Prop := W.heap[b]? = some (.cells #[.int .i64 c, .int .i64 s, .int .i64 e] t (0, 0))
theorem IdRow.step {W w1 : World} {b t N : Nat} {c s e : Int} (h : IdRow W b t c s e) (hb : Below N W w1) (hlt : b < N) : IdRow w1 b t c s e := (hb.block b hlt).trans h
theorem IdRow.alloc {W : World} {b t : Nat} {c s e : Int} (h : IdRow W b t c s e) (o : Obj) : IdRow (W.alloc o) b t c s e :=
  (heap_alloc_old W o (Array.getElem?_eq_some_iff.1 h).1).trans h
theorem IdRow.lt {W : World} {b t : Nat} {c s e : Int} (h : IdRow W b t c s e) : b < W.heap.size := (Array.getElem?_eq_some_iff.1 h).1
theorem IdRow.new (W : World) (t : Nat) (c s e : Int) : IdRow (W.alloc (.cells #[.int .i64 c, .int .i64 s, .int .i64 e] t)) W.heap.size t c s e := heap_alloc_new W _
theorem IdRow.cells {W : World} {b t : Nat} {c s e : Int} (h : IdRow W b t c s e) :
    W.cell? ⟨b, 0, none⟩ = some (.int .i64 c) ∧ W.cell? ⟨b, 1, none⟩ = some (.int .i64 s) ∧ W.cell? ⟨b, 2, none⟩ = some (.int .i64 e) :=
  ⟨cell_of_row W b 0 _ t (0, 0) h, cell_of_row W b 1 _ t (0, 0) h, cell_of_row W b 2 _ t (0, 0) h⟩

theorem toId_any (c s e : Int) (w : World) :
    Calls Try.prog 90 #[idV c s e] w fun x w' => x = .returned (idV c s e) ∧ Below w.heap.size w w' := by
  unfold idV
  go_enter Try.func90, Try.ntmps90
  go_wp2
  refine bodyPost_ret (v := _) (by simp [results, Try.results90, go_sem]) rfl ⟨rfl, ?_⟩
  exact ((((Below.refl _ _).alloc (Nat.le_refl _) _).alloc (by simp) _).alloc (by simp; omega) _)

theorem eqId_same (c s e : Int) (w : World) :
    Calls Try.prog 96 #[idV c s e, idV c s e] w fun x w' => x = .returned (.bool true) ∧ Below w.heap.size w w' := by
  unfold idV
  have h1 : (c == c) = true := beq_self_eq_true c
  have h2 : (s == s) = true := beq_self_eq_true s
  have h3 : (e == e) = true := beq_self_eq_true e
  go_enter Try.func96, Try.ntmps96
  go_wp2
  go_ret
  exact ⟨rfl, ((Below.refl _ _).alloc (Nat.le_refl _) _).alloc (by simp) _⟩
end Go.Proofs.Ythagkjofpfafiaa.Id
