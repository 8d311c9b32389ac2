/-
  The law's own toDep, toDepS, szDepS, eqDep, eqDepS at deps.
-/
import Derived.Test.YthagkjofpfafiaaDepOf
import Derived.Laws.MakeOwn
import Derived.Laws.Entries
namespace Go.Proofs.Ythagkjofpfafiaa.Dep
open Go.ChangeShapes Go.WideShapes Go.ChangeAt Go.RowKit
set_option linter.unusedVariables false
set_option maxRecDepth 100000

/-- A dep by value. -/
def D.val (d : D) : Value := .agg #[.string d.k, .int .i64 d.i.c, .int .i64 d.i.s, .int .i64 d.i.e]

/-- Block b holds a dep. -/
def DepRow (W : World) (b t : Nat) (k : ByteArray) (c s e : Int) : Prop := W.heap[b]? = some (.cells #[.string k, .int .i64 c, .int .i64 s, .int .i64 e] t (0, 0))
theorem DepRow.step {W w1 : World} {b t N : Nat} {k : ByteArray} {c s e : Int} (h : DepRow W b t k c s e) (hb : Below N W w1) (hlt : b < N) : DepRow w1 b t k c s e := (hb.block b hlt).trans h
theorem DepRow.alloc {W : World} {b t : Nat} {k : ByteArray} {c s e : Int} (h : DepRow W b t k c s e) (o : Obj) : DepRow (W.alloc o) b t k c s e :=
  (heap_alloc_old W o (Array.getElem?_eq_some_iff.1 h).1).trans h
theorem DepRow.lt {W : World} {b t : Nat} {k : ByteArray} {c s e : Int} (h : DepRow W b t k c s e) : b < W.heap.size := (Array.getElem?_eq_some_iff.1 h).1
theorem DepRow.new (W : World) (t : Nat) (k : ByteArray) (c s e : Int) : DepRow (W.alloc (.cells #[.string k, .int .i64 c, .int .i64 s, .int .i64 e] t)) W.heap.size t k c s e := heap_alloc_new W _
theorem DepRow.cells {W : World} {b t : Nat} {k : ByteArray} {c s e : Int} (h : DepRow W b t k c s e) :
    W.cell? ⟨b, 0, none⟩ = some (.string k) ∧ W.cell? ⟨b, 1, none⟩ = some (.int .i64 c) ∧ W.cell? ⟨b, 2, none⟩ = some (.int .i64 s) ∧ W.cell? ⟨b, 3, none⟩ = some (.int .i64 e) :=
  ⟨cell_of_row W b 0 _ t (0, 0) h, cell_of_row W b 1 _ t (0, 0) h, cell_of_row W b 2 _ t (0, 0) h, cell_of_row W b 3 _ t (0, 0) h⟩
theorem DepRow.free {W : World} {b t : Nat} {k : ByteArray} {c s e : Int} (h : DepRow W b t k c s e) (j : Nat) : W.frozen? ⟨b, j, none⟩ = false := by
  unfold DepRow at h
  simp [World.frozen?, h]

end Go.Proofs.Ythagkjofpfafiaa.Dep
