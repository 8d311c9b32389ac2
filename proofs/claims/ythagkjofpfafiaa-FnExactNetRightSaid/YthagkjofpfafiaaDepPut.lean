/-
  spec.l03Put: deps with a key up to an Id, in a row of its own.
-/
import Derived.Test.YthagkjofpfafiaaDepApp
import Derived.Test.YthagkjofpfafiaaDepSz
import Derived.Test.YthagkjofpfafiaaDepIOf
import Derived.Deep.DeepCutAuto
namespace Go.Proofs.Ythagkjofpfafiaa.Dep
open Go.ChangeShapes Go.WideShapes Go.ChangeAt Go.RowKit
set_option linter.unusedVariables false
set_option maxRecDepth 100000

theorem sem_pure0 (w : World) : Sem.run Try.prog (pure (#[] : Array Value)) w = .ok #[] w := rfl
theorem sem_store0 (p : Addr) (w : World) : Sem.run Try.prog (storeCells p []) w = .ok () w := rfl
attribute [local go_sem] sem_pure0 sem_store0

theorem own_none (w : World) : (w.alloc (Obj.cells #[] 108)).ownsRow w.heap.size 108 4 (.slice (some ⟨w.heap.size, 0, none⟩) 0 0) 0 (flat []) :=
  ⟨rfl, .inr ⟨_, 0, #[], rfl, Nat.le_refl _, heap_alloc_new w _, Nat.le_refl _, by simp [maxLen], rfl, rfl⟩⟩
theorem ownBlock_base {w : World} {base n : Nat} {v : Value} {xs : List Value} (h : w.ownsRow base 108 4 v n xs) : ∀ k, v.ownBlock = some k → base ≤ k := by
  rcases h.2 with ⟨rfl, _⟩ | ⟨g, cap, cur, rfl, hb, _⟩
  · intro k e; cases e
  · intro k e; cases e; exact hb
theorem own_alloc {w : World} {base n : Nat} {v : Value} {xs : List Value} (h : w.ownsRow base 108 4 v n xs) (o : Obj) : (w.alloc o).ownsRow base 108 4 v n xs := by
  refine ⟨h.1, h.2.imp id ?_⟩
  rintro ⟨g, cap, cur, e, hb, hh, r⟩
  exact ⟨g, cap, cur, e, hb, (heap_alloc_old w o (Array.getElem?_eq_some_iff.1 hh).1).trans hh, r⟩
theorem own_step {w w' : World} {base n : Nat} {v : Value} {xs : List Value} (h : w.ownsRow base 108 4 v n xs) {N : Nat} (hb : Below N w w') (hN : w.heap.size ≤ N) : w'.ownsRow base 108 4 v n xs := by
  refine ⟨h.1, h.2.imp id ?_⟩
  rintro ⟨g, cap, cur, e, hb', hh, r⟩
  exact ⟨g, cap, cur, e, hb', (hb.block g (by have := (Array.getElem?_eq_some_iff.1 hh).1; omega)).trans hh, r⟩
theorem own_less {w : World} {base base' n : Nat} {v : Value} {xs : List Value} (h : w.ownsRow base 108 4 v n xs) (hb : base' ≤ base) : w.ownsRow base' 108 4 v n xs :=
  ⟨h.1, h.2.imp id fun ⟨g, cap, cur, e, hb', r⟩ => ⟨g, cap, cur, e, by omega, r⟩⟩
/-- A store elsewhere. -/
theorem own_set {w : World} {base n : Nat} {v : Value} {xs : List Value} (h : w.ownsRow base 108 4 v n xs) {p : Addr} (hp : p.block < base) (u : Value) : (w.setCell p u).ownsRow base 108 4 v n xs := by
  refine ⟨h.1, h.2.imp id ?_⟩
  rintro ⟨g, cap, cur, e, hb', hh, r⟩
  refine ⟨g, cap, cur, e, hb', ?_, r⟩
  rw [← hh]
  exact heap_setCell_other w p g u (by omega)
theorem lies_drop_nil {w : World} {B : Nat} {A : Option Addr} {l : List D} {k : Nat} (h : l.length ≤ k) : Lies w B A (l.drop k) := fun h0 => by rw [List.length_drop] at h0; omega
theorem lies_drop_add {w : World} {B : Nat} {ad : Addr} {l : List D} (k : Nat) (h : Lies w B (some ad) l) : Lies w B (some (ad.add (k * 4))) (l.drop k) := fun h0 => by
  rw [List.length_drop] at h0
  obtain ⟨ad', e, hb, hc⟩ := h (by omega)
  cases e
  refine ⟨ad.add (k * 4), rfl, by rw [add_block]; exact hb, fun j hj => ?_⟩
  rw [List.length_drop] at hj
  rw [List.getElem_drop, add_add, show k * 4 + j * 4 = (k + j) * 4 by omega]
  exact hc (k + j) (by omega)
theorem lies_drop_if {w : World} {B : Nat} {ad : Addr} {l : List D} {cap : Nat} (k : Nat) (h : Lies w B (some ad) l) (hcap : l.length ≤ cap) : Lies w B (if cap = k then some ad else some (ad.add (k * 4))) (l.drop k) := by
  split
  · exact lies_drop_nil (by omega)
  · exact lies_drop_add k h
/-- What a new row of one dep reads as. -/
theorem one_lies (w : World) (d : D) : Lies (w.alloc d.obj) (w.alloc d.obj).heap.size (some ⟨w.heap.size, 0, none⟩) [d] := fun _ => by
  refine ⟨_, rfl, by simp, fun j hj => ?_⟩
  have : j = 0 := by simpa using hj
  subst this
  obtain ⟨d0, d1, d2, d3⟩ := (DepRow.new w 108 d.k d.i.c d.i.s d.i.e).cells
  exact ⟨d0, d1, d2, d3⟩
/-- The Id in the box is another one. -/
theorem box_set {w : World} {b : Nat} {x : I} (h : Id.IdRow w b 60 x.c x.s x.e) (y : I) :
    Id.IdRow (((w.setCell ⟨b, 0, none⟩ (.int .i64 y.c)).setCell ⟨b, 1, none⟩ (.int .i64 y.s)).setCell ⟨b, 2, none⟩ (.int .i64 y.e)) b 60 y.c y.s y.e := by
  have h1 := row_set (row_set (row_set h 0 (.int .i64 y.c)) 1 (.int .i64 y.s)) 2 (.int .i64 y.e)
  exact h1

theorem wpList_append_deps {ops : Array Oper} {rest : List Oper} {o : Oper} {a : Act} {w : World} {Q : Exit → Act → World → Prop} (hgd : o.guard = none) {s x : Operand}
    (ho : o.op = .call { callee := .builtin .append, args := #[s, x], argTypes := #[85, 85] }) (hty : o.type = 85) {base : Nat} {v : Value} {n : Nat} {l : List D} {A : Option Addr} {j c B : Nat} (m : List D)
    (hs : a.eval s = v) (hx : a.eval x = .slice A j c) (hj : m.length = j) (hown : w.ownsRow base 108 4 v n (flat l)) (hr : Lies w B A m) (h63 : n + m.length ≤ 4194304) (hbase : base ≤ w.heap.size)
    (h : ∀ v' w', w'.ownsRow base 108 4 v' (n + m.length) (flat (l ++ m)) → w.grownBy w' v.ownBlock → wpList Try.prog ops Q rest (a.put o.dst v') w') : wpList Try.prog ops Q (o :: rest) a w := by
  refine wpList_plain hgd fun K hK => ?_
  obtain ⟨v', w', hrun, h2, h3, _⟩ := run_append_deps base v n l w hown B A m c hr h63 hbase
  unfold slV at hrun
  rw [hj] at hrun
  unfold Oper.wp execOp
  rw [hty]
  simp only [ho, resolve, invoke, builtin, Sem.run_bind, Sem.run_pure, Result.andThen_ok, List.map_toArray, List.map_cons, List.map_nil, hs, hx, hrun]
  exact hK _ _ (h v' w' h2 h3)

end Go.Proofs.Ythagkjofpfafiaa.Dep
