/-
  What DepsPut and DepsJoin answer; the given model's.
-/
import Derived.Test.YthagkjofpfafiaaDepJoin
import Derived.Test.YthagkjofpfafiaaDepOpen
import Derived.Test.YthagkjofpfafiaaDepRight
namespace Go.Proofs.Ythagkjofpfafiaa.Dep
open Go.ChangeShapes Go.WideShapes Go.ChangeAt Go.RowKit
set_option linter.unusedVariables false
set_option maxRecDepth 100000

open Classical in
noncomputable def joinC (a b : List D) : Int := if 400 < a.length ∨ 400 < b.length then 2 else if depsB a = true ∧ depsB b = true then (if 6 < (joinV a b).length then 9 else 0) else 1
noncomputable def joinR (a b : List D) : List D := if joinC a b = 0 then joinV a b else []
open Classical in
noncomputable def putC (l : List D) (q : ByteArray) (x : I) : Int := if 400 < l.length ∨ 8000 < q.size then 2 else if depsB l = true ∧ Key.keyB q = true ∧ x.right = true then (if 6 < (putV l q x).length then 9 else 0) else 1
noncomputable def putR (l : List D) (q : ByteArray) (x : I) : List D := if putC l q x = 0 then putV l q x else []

/-- Block b holds an answer. -/
def ORow (W : World) (b : Nat) (s : Value) (c : Int) : Prop := W.heap[b]? = some (.cells #[s, .int .i64 c] 90 (0, 0))
theorem ORow.step {W w1 : World} {b N : Nat} {s : Value} {c : Int} (h : ORow W b s c) (hb : Below N W w1) (hlt : b < N) : ORow w1 b s c := (hb.block b hlt).trans h
theorem ORow.lt {W : World} {b : Nat} {s : Value} {c : Int} (h : ORow W b s c) : b < W.heap.size := (Array.getElem?_eq_some_iff.1 h).1
theorem ORow.alloc {W : World} {b : Nat} {s : Value} {c : Int} (h : ORow W b s c) (o : Obj) : ORow (W.alloc o) b s c := (heap_alloc_old W o h.lt).trans h
theorem ORow.new (W : World) (s : Value) (c : Int) : ORow (W.alloc (.cells #[s, .int .i64 c] 90)) W.heap.size s c := heap_alloc_new W _
theorem ORow.cells {W : World} {b : Nat} {s : Value} {c : Int} (h : ORow W b s c) : W.cell? ⟨b, 0, none⟩ = some s ∧ W.cell? ⟨b, 1, none⟩ = some (.int .i64 c) :=
  ⟨cell_of_row W b 0 _ _ (0, 0) h, cell_of_row W b 1 _ _ (0, 0) h⟩
theorem ORow.free {W : World} {b : Nat} {s : Value} {c : Int} (h : ORow W b s c) (j : Nat) : W.frozen? ⟨b, j, none⟩ = false := by
  unfold ORow at h
  simp [World.frozen?, h]

def outV (s : Value) (c : Int) : Value := .agg #[s, .int .i64 c]
/-- What a call hands back: a list in a row of its own, and a code. -/
def Answers (w : World) (e : Ending) (w' : World) (r : List D) (c : Int) : Prop := ∃ A cap, e = .returned (outV (slV A r cap) c) ∧ w'.ownsRow w.heap.size 108 4 (slV A r cap) r.length (flat r) ∧ r.length ≤ cap ∧ Lies w' w'.heap.size A r ∧ Below w.heap.size w w'
theorem own_nil (w : World) (base : Nat) : w.ownsRow base 108 4 (.slice none 0 0) 0 (flat []) := ⟨rfl, .inl ⟨rfl, rfl⟩⟩
theorem Answers.nil {w w' : World} {c : Int} (h : Below w.heap.size w w') : Answers w (.returned (outV (.slice none 0 0) c)) w' [] c :=
  ⟨Option.none, 0, rfl, own_nil _ _, Nat.le_refl _, fun h0 => absurd h0 (by simp), h⟩
theorem Answers.row {w w' : World} {A : Option Addr} {r : List D} {cap : Nat} {c : Int} (h : w'.ownsRow w.heap.size 108 4 (slV A r cap) r.length (flat r)) (hb : Below w.heap.size w w') : Answers w (.returned (outV (slV A r cap) c)) w' r c := by
  obtain ⟨_, A', c', e, hc, hL⟩ := own_lies h
  unfold slV at e
  injection e with e1 e2 e3
  subst e1 e3
  exact ⟨A, cap, rfl, h, hc, hL, hb⟩
theorem own_set2 {w : World} {base n : Nat} {v : Value} {xs : List Value} (h : w.ownsRow base 108 4 v n xs) {b : Nat} (hp : b < base) (u u' : Value) : ((w.setCell ⟨b, 0, none⟩ u).setCell ⟨b, 1, none⟩ u').ownsRow base 108 4 v n xs :=
  own_set (own_set h (p := ⟨b, 0, none⟩) hp u) (p := ⟨b, 1, none⟩) hp u'

end Go.Proofs.Ythagkjofpfafiaa.Dep
