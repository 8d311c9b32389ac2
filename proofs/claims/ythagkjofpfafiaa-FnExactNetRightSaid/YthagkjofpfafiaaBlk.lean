/-
  A block as a whole: what a world with it becomes by calls, new blocks and stores.
-/
import Derived.Test.YthagkjofpfafiaaDepToS
namespace Go.Proofs.Ythagkjofpfafiaa
open Go.ChangeShapes Go.WideShapes Go.ChangeAt Go.RowKit
set_option linter.unusedVariables false
set_option maxRecDepth 100000

/-- Block b holds these cells. -/
def Blk (W : World) (b t : Nat) (cs : Array Value) : Prop := W.heap[b]? = some (.cells cs t (0, 0))
theorem Blk.lt {W : World} {b t : Nat} {cs : Array Value} (h : Blk W b t cs) : b < W.heap.size := (Array.getElem?_eq_some_iff.1 h).1
theorem Blk.step {W w1 : World} {b t N : Nat} {cs : Array Value} (h : Blk W b t cs) (hb : Below N W w1) (hlt : b < N) : Blk w1 b t cs := (hb.block b hlt).trans h
theorem Blk.on {W w1 : World} {b t : Nat} {cs : Array Value} (h : Blk W b t cs) (hb : Below W.heap.size W w1) : Blk w1 b t cs := h.step hb h.lt
theorem Blk.alloc {W : World} {b t : Nat} {cs : Array Value} (h : Blk W b t cs) (o : Obj) : Blk (W.alloc o) b t cs := (heap_alloc_old W o h.lt).trans h
theorem Blk.new (W : World) (t : Nat) (cs : Array Value) : Blk (W.alloc (.cells cs t)) W.heap.size t cs := heap_alloc_new W _
theorem Blk.set {W : World} {b t : Nat} {cs : Array Value} (h : Blk W b t cs) (i : Nat) (u : Value) {cs' : Array Value} (e : cs.setIfInBounds i u = cs') : Blk (W.setCell ⟨b, i, none⟩ u) b t cs' := by
  subst e; exact Dep.row_set h i u
theorem Blk.other {W : World} {b t : Nat} {cs : Array Value} (h : Blk W b t cs) {p : Addr} (hne : b ≠ p.block) (u : Value) : Blk (W.setCell p u) b t cs := (heap_setCell_other W p b u hne).trans h
theorem Blk.drew {W : World} {b t : Nat} {cs : Array Value} (h : Blk W b t cs) : Blk W.drew b t cs := h
theorem Blk.cell {W : World} {b t : Nat} {cs : Array Value} (h : Blk W b t cs) (j : Nat) : W.cell? ⟨b, j, none⟩ = cs[j]? := cell_of_row W b j cs t (0, 0) h
theorem Blk.free {W : World} {b t : Nat} {cs : Array Value} (h : Blk W b t cs) (j : Nat) : W.frozen? ⟨b, j, none⟩ = false := by
  unfold Blk at h
  simp [World.frozen?, h]

/-- From block M on nothing has turned. -/
def Above (M : Nat) (W W' : World) : Prop := W'.heap.size = W.heap.size ∧ ∀ k, M ≤ k → W'.heap[k]? = W.heap[k]?
theorem Above.refl (M : Nat) (W : World) : Above M W W := ⟨rfl, fun _ _ => rfl⟩
theorem Above.set {M : Nat} {W W' : World} (h : Above M W W') {p : Addr} (hp : p.block < M) (u : Value) : Above M W (W'.setCell p u) :=
  ⟨by rw [World.size_setCell]; exact h.1, fun k hk => (heap_setCell_other W' p k u (by omega)).trans (h.2 k hk)⟩
/-- Nothing has turned but block b. -/
structure Touch (b : Nat) (W W' : World) : Prop where
  os : W'.os = W.os
  tape : W'.tape = W.tape
  output : W'.output = W.output
  size : W'.heap.size = W.heap.size
  block : ∀ k, k ≠ b → W'.heap[k]? = W.heap[k]?
theorem Touch.refl (b : Nat) (W : World) : Touch b W W := ⟨rfl, rfl, rfl, rfl, fun _ _ => rfl⟩
theorem Touch.set {b : Nat} {W W' : World} (h : Touch b W W') (i : Nat) (u : Value) : Touch b W (W'.setCell ⟨b, i, none⟩ u) :=
  ⟨h.os, h.tape, h.output, by rw [World.size_setCell]; exact h.size, fun k hk => (heap_setCell_other W' ⟨b, i, none⟩ k u hk).trans (h.block k hk)⟩
theorem Touch.blk {b c t : Nat} {W W' : World} {cs : Array Value} (h : Touch b W W') (hb : Blk W c t cs) (hne : c ≠ b) : Blk W' c t cs := (h.block c hne).trans hb
theorem Touch.below {b N : Nat} {w W W' : World} (h : Touch b W W') (hb : Below N w W) (hN : N ≤ b) : Below N w W' :=
  ⟨h.os.trans hb.os, h.tape.trans hb.tape, h.output.trans hb.output, by rw [h.size]; exact hb.size, fun k hk => (h.block k (by omega)).trans (hb.block k hk)⟩
theorem Touch.above {b M : Nat} {W W' : World} (h : Touch b W W') (hM : b < M) : Above M W W' := ⟨h.size, fun k hk => h.block k (by omega)⟩
theorem Above.trans {M : Nat} {a b c : World} (h : Above M a b) (k : Above M b c) : Above M a c := ⟨k.1.trans h.1, fun i hi => (k.2 i hi).trans (h.2 i hi)⟩
end Go.Proofs.Ythagkjofpfafiaa
