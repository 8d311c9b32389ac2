/-
  The law's own toDep, toDepS, szDepS, eqDep, eqDepS at deps.
-/
import Derived.Test.YtkmlnibkdcdegaaDepOf
import Derived.Laws.MakeOwn
import Derived.Laws.Entries
namespace Go.Proofs.Ytkmlnibkdcdegaa.Dep
open Go.ChangeShapes Go.WideShapes Go.ChangeAt Go.RowKit
set_option linter.unusedVariables false
set_option maxRecDepth 100000

/-- A dep by value. -/
def D.val (d : D) : Value := .agg #[.string d.k, .int .i64 d.i.c, .int .i64 d.i.s, .int .i64 d.i.e]

/-- Block b holds a dep. -/
def DepRow (W : World) (b t : Nat) (k : ByteArray) (c s e : Int) : Prop := W.heap[b]? = some (.cells #[.string k, .int .i64 c, .int .i64 s, .int .i64 e] t (0, 0))
theorem DepRow.step {W w1 : World} {b t N : Nat} {k : ByteArray} {c s e : Int} (h : DepRow W b t k c s e) (hb : Below N W w1) (hlt : b < N) : DepRow w1 b t k c s e := (hb.block b hlt).trans h
theorem DepRow.alloc {W : World} {b t : Nat} {k : ByteArray} {c s e : Int} (h : DepRow W b t k c s e) (o : Obj) : DepRow (W.alloc o) b t k c s e :=
  (heap_alloc_old W o (Array.getElem?_eq_some_iff.1 h).1).trans h
theorem DepRow.lt {W : World} {b t : Nat} {k : ByteArray} {c s e : Int} (h : DepRow W b t k c s e) : b < W.heap.size := (Array.getElem?_eq_some_iff.1 h).1
theorem DepRow.new (W : World) (t : Nat) (k : ByteArray) (c s e : Int) : DepRow (W.alloc (.cells #[.string k, .int .i64 c, .int .i64 s, .int .i64 e] t)) W.heap.size t k c s e := heap_alloc_new W _
theorem DepRow.cells {W : World} {b t : Nat} {k : ByteArray} {c s e : Int} (h : DepRow W b t k c s e) :
    W.cell? ⟨b, 0, none⟩ = some (.string k) ∧ W.cell? ⟨b, 1, none⟩ = some (.int .i64 c) ∧ W.cell? ⟨b, 2, none⟩ = some (.int .i64 s) ∧ W.cell? ⟨b, 3, none⟩ = some (.int .i64 e) :=
  ⟨cell_of_row W b 0 _ t (0, 0) h, cell_of_row W b 1 _ t (0, 0) h, cell_of_row W b 2 _ t (0, 0) h, cell_of_row W b 3 _ t (0, 0) h⟩
theorem DepRow.free {W : World} {b t : Nat} {k : ByteArray} {c s e : Int} (h : DepRow W b t k c s e) (j : Nat) : W.frozen? ⟨b, j, none⟩ = false := by
  unfold DepRow at h
  simp [World.frozen?, h]

theorem toDep_any (d : D) (w : World) :
    Calls Try.prog 65 #[d.val] w fun x w' => x = .returned d.val ∧ Below w.heap.size w w' := by
  unfold D.val
  go_enter Try.func65, Try.ntmps65
  go_wp2_with fail
  refine (Id.toId_any d.i.c d.i.s d.i.e _).mono ?_
  rintro x w1 ⟨rfl, hb⟩
  unfold Id.idV
  have r := (DepRow.new (World.alloc (World.alloc w _) _) 66 d.k 0 0 0).step hb (by simp)
  have q := ((DepRow.new (World.alloc w _) 66 ⟨#[]⟩ 0 0 0).alloc _).step hb (by simp)
  simp only [World.size_alloc] at r q
  have B1 := Lib.hid ((((Below.refl w.heap.size w).alloc (Nat.le_refl _) _).alloc (by simp) _).alloc (by simp; omega) _ |>.trans (hb.mono (by simp; omega)))
  obtain ⟨r0, r1, r2, r3⟩ := r.cells
  have f0 := r.free 0
  have f1 := r.free 1
  have f2 := r.free 2
  have f3 := r.free 3
  obtain ⟨q0, q1, q2, q3⟩ := q.cells
  have g0 := q.free 0
  have g1 := q.free 1
  have g2 := q.free 2
  have g3 := q.free 3
  clear hb r q
  go_wp2_with fail
  refine bodyPost_ret (v := .agg #[.string d.k, .int .i64 d.i.c, .int .i64 d.i.s, .int .i64 d.i.e]) (by simp [results, Try.results65, go_sem, q0, q1, q2, q3]) rfl ⟨rfl, ?_⟩
  exact ((((((B1.out.setCell (by simp; omega) _).setCell (by simp; omega) _).setCell (by simp; omega) _).setCell (by simp) _).setCell (by simp) _).setCell (by simp) _).setCell (by simp) _

theorem szDep_any (d : D) (n : Int) (w : World) (h0 : 0 ≤ n) (h1 : n ≤ 1048576) (hk : d.k.size ≤ maxLen) :
    Calls Try.prog 64 #[d.val, .int .i64 n] w fun x w' => x = .returned (.int .i64 (if n < d.k.size then -1 else n - d.k.size)) ∧ Below w.heap.size w w' := by
  unfold D.val
  unfold maxLen at hk
  by_cases h : n < d.k.size
  · rw [if_pos h]
    go_enter Try.func64, Try.ntmps64
    go_wp2
    go_ret
    exact ⟨rfl, (Below.refl _ _).alloc (Nat.le_refl _) _⟩
  · rw [if_neg h]
    go_enter Try.func64, Try.ntmps64
    go_wp2
    go_ret
    exact ⟨rfl, (Below.refl _ _).alloc (Nat.le_refl _) _⟩

theorem eqDep_same (d : D) (w : World) :
    Calls Try.prog 66 #[d.val, d.val] w fun x w' => x = .returned (.bool true) ∧ Below w.heap.size w w' := by
  unfold D.val
  have hk : (d.k.toList == d.k.toList) = true := beq_self_eq_true _
  go_enter Try.func66, Try.ntmps66
  go_wp2_with fail
  refine (Id.eqId_same d.i.c d.i.s d.i.e _).mono ?_
  rintro x w1 ⟨rfl, hb⟩
  have B1 := Lib.hid (((Below.refl w.heap.size w).alloc (Nat.le_refl _) _).alloc (by simp) _ |>.trans (hb.mono (by simp; omega)))
  clear hb
  go_wp2_with fail
  go_ret
  exact ⟨rfl, B1.out⟩
end Go.Proofs.Ytkmlnibkdcdegaa.Dep
