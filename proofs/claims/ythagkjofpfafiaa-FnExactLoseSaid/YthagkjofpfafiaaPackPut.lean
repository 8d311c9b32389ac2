/-
  Several texts in one: DepPut, DepJoin, DepOpen, DepOut.
-/
import Derived.Test.YthagkjofpfafiaaPackDep
import Derived.Deep.DeepCutAuto
import Derived.StillTailTactics
import Derived.Deep.Slices
import Derived.ChangeArms
import Derived.Test.YthagkjofpfafiaaDepRight
/-
  spec.l03Put: deps with a key up to an Id, in a row of its own.
-/
namespace Go.Proofs.Ythagkjofpfafiaa.Dep
open Go.ChangeShapes Go.WideShapes Go.ChangeAt Go.RowKit
set_option linter.unusedVariables false
set_option maxRecDepth 100000

theorem sem_pure0 (w : World) : Sem.run Try.prog (pure (#[] : Array Value)) w = .ok #[] w := rfl
theorem sem_store0 (p : Addr) (w : World) : Sem.run Try.prog (storeCells p []) w = .ok () w := rfl
attribute [local go_sem] sem_pure0 sem_store0

theorem own_none (w : World) : (w.alloc (Obj.cells #[] 108)).ownsRow w.heap.size 108 4 (.slice (some ⟨w.heap.size, 0, none⟩) 0 0) 0 (flat []) :=
  ⟨rfl, .inr ⟨_, 0, #[], rfl, Nat.le_refl _, heap_alloc_new w _, Nat.le_refl _, by simp [maxLen], rfl, rfl⟩⟩
theorem ownBlock_base {w : World} {base n : Nat} {v : Value} {xs : List Value} (h : w.ownsRow base 108 4 v n xs) : ∀ k, v.ownBlock = some k → base ≤ k := by
  rcases h.2 with ⟨rfl, _⟩ | ⟨g, cap, cur, rfl, hb, _⟩
  · intro k e; cases e
  · intro k e; cases e; exact hb
theorem own_alloc {w : World} {base n : Nat} {v : Value} {xs : List Value} (h : w.ownsRow base 108 4 v n xs) (o : Obj) : (w.alloc o).ownsRow base 108 4 v n xs := by
  refine ⟨h.1, h.2.imp id ?_⟩
  rintro ⟨g, cap, cur, e, hb, hh, r⟩
  exact ⟨g, cap, cur, e, hb, (heap_alloc_old w o (Array.getElem?_eq_some_iff.1 hh).1).trans hh, r⟩
theorem own_step {w w' : World} {base n : Nat} {v : Value} {xs : List Value} (h : w.ownsRow base 108 4 v n xs) {N : Nat} (hb : Below N w w') (hN : w.heap.size ≤ N) : w'.ownsRow base 108 4 v n xs := by
  refine ⟨h.1, h.2.imp id ?_⟩
  rintro ⟨g, cap, cur, e, hb', hh, r⟩
  exact ⟨g, cap, cur, e, hb', (hb.block g (by have := (Array.getElem?_eq_some_iff.1 hh).1; omega)).trans hh, r⟩
theorem own_less {w : World} {base base' n : Nat} {v : Value} {xs : List Value} (h : w.ownsRow base 108 4 v n xs) (hb : base' ≤ base) : w.ownsRow base' 108 4 v n xs :=
  ⟨h.1, h.2.imp id fun ⟨g, cap, cur, e, hb', r⟩ => ⟨g, cap, cur, e, by omega, r⟩⟩
/-- A store elsewhere. -/
theorem own_set {w : World} {base n : Nat} {v : Value} {xs : List Value} (h : w.ownsRow base 108 4 v n xs) {p : Addr} (hp : p.block < base) (u : Value) : (w.setCell p u).ownsRow base 108 4 v n xs := by
  refine ⟨h.1, h.2.imp id ?_⟩
  rintro ⟨g, cap, cur, e, hb', hh, r⟩
  refine ⟨g, cap, cur, e, hb', ?_, r⟩
  rw [← hh]
  exact heap_setCell_other w p g u (by omega)
theorem lies_drop_nil {w : World} {B : Nat} {A : Option Addr} {l : List D} {k : Nat} (h : l.length ≤ k) : Lies w B A (l.drop k) := fun h0 => by rw [List.length_drop] at h0; omega
theorem lies_drop_add {w : World} {B : Nat} {ad : Addr} {l : List D} (k : Nat) (h : Lies w B (some ad) l) : Lies w B (some (ad.add (k * 4))) (l.drop k) := fun h0 => by
  rw [List.length_drop] at h0
  obtain ⟨ad', e, hb, hc⟩ := h (by omega)
  cases e
  refine ⟨ad.add (k * 4), rfl, by rw [add_block]; exact hb, fun j hj => ?_⟩
  rw [List.length_drop] at hj
  rw [List.getElem_drop, add_add, show k * 4 + j * 4 = (k + j) * 4 by omega]
  exact hc (k + j) (by omega)
theorem lies_drop_if {w : World} {B : Nat} {ad : Addr} {l : List D} {cap : Nat} (k : Nat) (h : Lies w B (some ad) l) (hcap : l.length ≤ cap) : Lies w B (if cap = k then some ad else some (ad.add (k * 4))) (l.drop k) := by
  split
  · exact lies_drop_nil (by omega)
  · exact lies_drop_add k h
/-- What a new row of one dep reads as. -/
theorem one_lies (w : World) (d : D) : Lies (w.alloc d.obj) (w.alloc d.obj).heap.size (some ⟨w.heap.size, 0, none⟩) [d] := fun _ => by
  refine ⟨_, rfl, by simp, fun j hj => ?_⟩
  have : j = 0 := by simpa using hj
  subst this
  obtain ⟨d0, d1, d2, d3⟩ := (DepRow.new w 108 d.k d.i.c d.i.s d.i.e).cells
  exact ⟨d0, d1, d2, d3⟩
/-- The Id in the box is another one. -/
theorem box_set {w : World} {b : Nat} {x : I} (h : Id.IdRow w b 60 x.c x.s x.e) (y : I) :
    Id.IdRow (((w.setCell ⟨b, 0, none⟩ (.int .i64 y.c)).setCell ⟨b, 1, none⟩ (.int .i64 y.s)).setCell ⟨b, 2, none⟩ (.int .i64 y.e)) b 60 y.c y.s y.e := by
  have h1 := row_set (row_set (row_set h 0 (.int .i64 y.c)) 1 (.int .i64 y.s)) 2 (.int .i64 y.e)
  exact h1

theorem wpList_append_deps {ops : Array Oper} {rest : List Oper} {o : Oper} {a : Act} {w : World} {Q : Exit → Act → World → Prop} (hgd : o.guard = none) {s x : Operand}
    (ho : o.op = .call { callee := .builtin .append, args := #[s, x], argTypes := #[85, 85] }) (hty : o.type = 85) {base : Nat} {v : Value} {n : Nat} {l : List D} {A : Option Addr} {j c B : Nat} (m : List D)
    (hs : a.eval s = v) (hx : a.eval x = .slice A j c) (hj : m.length = j) (hown : w.ownsRow base 108 4 v n (flat l)) (hr : Lies w B A m) (h63 : n + m.length ≤ 4194304) (hbase : base ≤ w.heap.size)
    (h : ∀ v' w', w'.ownsRow base 108 4 v' (n + m.length) (flat (l ++ m)) → w.grownBy w' v.ownBlock → wpList Try.prog ops Q rest (a.put o.dst v') w') : wpList Try.prog ops Q (o :: rest) a w := by
  refine wpList_plain hgd fun K hK => ?_
  obtain ⟨v', w', hrun, h2, h3, _⟩ := run_append_deps base v n l w hown B A m c hr h63 hbase
  unfold slV at hrun
  rw [hj] at hrun
  unfold Oper.wp execOp
  rw [hty]
  simp only [ho, resolve, invoke, builtin, Sem.run_bind, Sem.run_pure, Result.andThen_ok, List.map_toArray, List.map_cons, List.map_nil, hs, hx, hrun]
  exact hK _ _ (h v' w' h2 h3)

end Go.Proofs.Ythagkjofpfafiaa.Dep

/-
  spec.l03Join: both together, in a row of its own.
-/
namespace Go.Proofs.Ythagkjofpfafiaa.Dep
open Go.ChangeShapes Go.WideShapes Go.ChangeAt Go.RowKit
set_option linter.unusedVariables false
set_option maxRecDepth 100000

attribute [local go_sem] sem_pure0 sem_store0

theorem run_append_deps2 (base : Nat) (v : Value) (n : Nat) (o : List D) (w : World) (hown : w.ownsRow base 108 4 v n (flat o)) (B : Nat) (A : Option Addr) (m : List D) (c : Nat) (hr : Lies w B A m) (h63 : n + m.length ≤ 4194304) (hbase : base ≤ w.heap.size) :
    ∃ v' w', (Builtin.append_ #[85, 85] 85 #[v, slV A m c]).run Try.prog w = .ok v' w' ∧ w'.ownsRow base 108 4 v' (n + m.length) (flat (o ++ m)) ∧ w.grownBy w' v.ownBlock ∧
      (v' = .slice none 0 0 → v = .slice none 0 0) := by
  obtain ⟨i0, hi0, hz0, hz1, hz2⟩ := info_parts dep_info
  rw [flat_append]
  rcases A with _ | ad
  · have hm : m = [] := by
      cases m with
      | nil => rfl
      | cons d m => obtain ⟨ad, e, _⟩ := hr (by simp); cases e
    subst hm
    refine ⟨v, w, ?_, by simpa [flat] using hown, World.grownBy.refl w _, id⟩
    unfold slV
    rcases hown.2 with ⟨rfl, rfl⟩ | ⟨g, cap, cur, rfl, _, _, hnc, _⟩
    · simp [Builtin.append_, run_underlying Try.underlying85, sizeOf, typeInfo, hi0, Builtin.lenOf, Builtin.firstCells]
    · simp [Builtin.append_, run_underlying Try.underlying85, sizeOf, typeInfo, hi0, Builtin.lenOf, Builtin.firstCells, hnc, storeCells]
  · obtain ⟨v', w', hrun, h2, h3, h4, h5⟩ := run_append_own_at (P := Try.prog) w base 85 85 108 i0 _ 4 40 Try.underlying85 hi0 hz0 hz1 hz2 rfl (by omega) v n (flat o) hown ad m.length c (flat m) (flat_length m) (fun j u hu => hr.cell hu) (flat_one m) (by simp only [maxLen]; omega) (by omega) hbase
    exact ⟨v', w', hrun, h2, h3, fun e => (h4.1 e).1⟩

theorem wpList_append_deps2 {ops : Array Oper} {rest : List Oper} {o : Oper} {a : Act} {w : World} {Q : Exit → Act → World → Prop} (hgd : o.guard = none) {s x : Operand}
    (ho : o.op = .call { callee := .builtin .append, args := #[s, x], argTypes := #[85, 85] }) (hty : o.type = 85) {base : Nat} {v : Value} {n : Nat} {l : List D} {A : Option Addr} {j c B : Nat} (m : List D)
    (hs : a.eval s = v) (hx : a.eval x = .slice A j c) (hj : m.length = j) (hown : w.ownsRow base 108 4 v n (flat l)) (hr : Lies w B A m) (h63 : n + m.length ≤ 4194304) (hbase : base ≤ w.heap.size)
    (h : ∀ v' w', w'.ownsRow base 108 4 v' (n + m.length) (flat (l ++ m)) → w.grownBy w' v.ownBlock → (v' = .slice none 0 0 → v = .slice none 0 0) → wpList Try.prog ops Q rest (a.put o.dst v') w') : wpList Try.prog ops Q (o :: rest) a w := by
  refine wpList_plain hgd fun K hK => ?_
  obtain ⟨v', w', hrun, h2, h3, h4⟩ := run_append_deps2 base v n l w hown B A m c hr h63 hbase
  unfold slV at hrun
  rw [hj] at hrun
  unfold Oper.wp execOp
  rw [hty]
  simp only [ho, resolve, invoke, builtin, Sem.run_bind, Sem.run_pure, Result.andThen_ok, List.map_toArray, List.map_cons, List.map_nil, hs, hx, hrun]
  exact hK _ _ (h v' w' h2 h3 h4)

/-- A row of one's own that is not nil, as a slice with an address. -/
theorem own_addr {w : World} {base n : Nat} {v : Value} {o : List D} (h : w.ownsRow base 108 4 v n (flat o)) (hv : v = .slice none 0 0 → False) :
    n = o.length ∧ ∃ ad c, v = slV (some ad) o c ∧ o.length ≤ c ∧ c ≤ maxLen ∧ Lies w w.heap.size (some ad) o := by
  obtain ⟨hn, A, c, e, hc, hL⟩ := own_lies h
  refine ⟨hn, ?_⟩
  rcases h.2 with ⟨rfl, _⟩ | ⟨g, cap, cur, rfl, _, _, _, hcm, _⟩
  · exact absurd rfl hv
  · unfold slV at e
    injection e with e1 e2 e3
    subst e1 e3
    exact ⟨_, _, by unfold slV; rw [hn], hc, hcm, hL⟩
theorem put_ne {w : World} {base n : Nat} {v : Value} {l : List D} {q : ByteArray} {x : I} (h : w.ownsRow base 108 4 v n (flat (putV l q x))) : v = .slice none 0 0 → False := by
  rintro rfl
  obtain ⟨hn, A, c, e, hc, hL⟩ := own_lies h
  rcases h.2 with ⟨_, h0⟩ | ⟨g, cap, cur, e, _⟩
  · have : 0 < (putV l q x).length := by
      cases l with
      | nil => simp [putV]
      | cons y l => rw [putV]; split <;> (try split) <;> simp
    omega
  · cases e
theorem join_step (a b : List D) (k : Nat) (h : k < b.length) : joinV a (b.take (k + 1)) = putV (joinV a (b.take k)) b[k].k b[k].i := by
  unfold joinV
  rw [show b.take (k + 1) = b.take k ++ [b[k]] by simp, List.foldl_append]
  rfl

end Go.Proofs.Ythagkjofpfafiaa.Dep

/-
  A parameter that is a slice of deps, opened: it reads as a list.
-/
namespace Go.Proofs.Ythagkjofpfafiaa.Dep
open Go.ChangeShapes Go.WideShapes Go.ChangeAt Go.RowKit
set_option linter.unusedVariables false
set_option maxRecDepth 100000
set_option linter.unusedSimpArgs false

theorem cell_lt {w : World} {a : Addr} {v : Value} (h : w.cell? a = some v) : a.block < w.heap.size := by
  rcases Nat.lt_or_ge a.block w.heap.size with h' | h'
  · exact h'
  · simp [World.cell?, Array.getElem?_eq_none h'] at h

/-- What a number of a dep is within. -/
def I64 (n : Int) : Prop := -9223372036854775808 ≤ n ∧ n ≤ 9223372036854775807
def Sound (d : D) : Prop := d.k.size ≤ maxLen ∧ I64 d.i.c ∧ I64 d.i.s ∧ I64 d.i.e
/-- A slice of deps as it comes in. -/
def IsDeps (w : World) (A : Option Addr) (l : List D) (cap : Nat) : Prop := l.length ≤ cap ∧ cap ≤ maxLen ∧ Lies w w.heap.size A l ∧ ∀ d ∈ l, Sound d

theorem i64_of {n : Int} (h : (Lit.int .i64 n).wf = true) : I64 n := by
  have := bounds_i64 h
  unfold I64; omega

instance : Inhabited D := ⟨⟨ByteArray.empty, zero⟩⟩

end Go.Proofs.Ythagkjofpfafiaa.Dep

/-
  What DepsPut and DepsJoin answer; the given model's.
-/
namespace Go.Proofs.Ythagkjofpfafiaa.Dep
open Go.ChangeShapes Go.WideShapes Go.ChangeAt Go.RowKit
set_option linter.unusedVariables false
set_option maxRecDepth 100000

open Classical in
noncomputable def joinC (a b : List D) : Int := if 400 < a.length ∨ 400 < b.length then 2 else if depsB a = true ∧ depsB b = true then (if 6 < (joinV a b).length then 9 else 0) else 1
noncomputable def joinR (a b : List D) : List D := if joinC a b = 0 then joinV a b else []
open Classical in
noncomputable def putC (l : List D) (q : ByteArray) (x : I) : Int := if 400 < l.length ∨ 8000 < q.size then 2 else if depsB l = true ∧ Key.keyB q = true ∧ x.right = true then (if 6 < (putV l q x).length then 9 else 0) else 1
noncomputable def putR (l : List D) (q : ByteArray) (x : I) : List D := if putC l q x = 0 then putV l q x else []

/-- Block b holds an answer. -/
def ORow (W : World) (b : Nat) (s : Value) (c : Int) : Prop := W.heap[b]? = some (.cells #[s, .int .i64 c] 90 (0, 0))
theorem ORow.step {W w1 : World} {b N : Nat} {s : Value} {c : Int} (h : ORow W b s c) (hb : Below N W w1) (hlt : b < N) : ORow w1 b s c := (hb.block b hlt).trans h
theorem ORow.lt {W : World} {b : Nat} {s : Value} {c : Int} (h : ORow W b s c) : b < W.heap.size := (Array.getElem?_eq_some_iff.1 h).1
theorem ORow.alloc {W : World} {b : Nat} {s : Value} {c : Int} (h : ORow W b s c) (o : Obj) : ORow (W.alloc o) b s c := (heap_alloc_old W o h.lt).trans h
theorem ORow.new (W : World) (s : Value) (c : Int) : ORow (W.alloc (.cells #[s, .int .i64 c] 90)) W.heap.size s c := heap_alloc_new W _
theorem ORow.cells {W : World} {b : Nat} {s : Value} {c : Int} (h : ORow W b s c) : W.cell? ⟨b, 0, none⟩ = some s ∧ W.cell? ⟨b, 1, none⟩ = some (.int .i64 c) :=
  ⟨cell_of_row W b 0 _ _ (0, 0) h, cell_of_row W b 1 _ _ (0, 0) h⟩
theorem ORow.free {W : World} {b : Nat} {s : Value} {c : Int} (h : ORow W b s c) (j : Nat) : W.frozen? ⟨b, j, none⟩ = false := by
  unfold ORow at h
  simp [World.frozen?, h]

def outV (s : Value) (c : Int) : Value := .agg #[s, .int .i64 c]
/-- What a call hands back: a list in a row of its own, and a code. -/
def Answers (w : World) (e : Ending) (w' : World) (r : List D) (c : Int) : Prop := ∃ A cap, e = .returned (outV (slV A r cap) c) ∧ w'.ownsRow w.heap.size 108 4 (slV A r cap) r.length (flat r) ∧ r.length ≤ cap ∧ Lies w' w'.heap.size A r ∧ Below w.heap.size w w'
theorem own_nil (w : World) (base : Nat) : w.ownsRow base 108 4 (.slice none 0 0) 0 (flat []) := ⟨rfl, .inl ⟨rfl, rfl⟩⟩
theorem Answers.nil {w w' : World} {c : Int} (h : Below w.heap.size w w') : Answers w (.returned (outV (.slice none 0 0) c)) w' [] c :=
  ⟨Option.none, 0, rfl, own_nil _ _, Nat.le_refl _, fun h0 => absurd h0 (by simp), h⟩
theorem Answers.row {w w' : World} {A : Option Addr} {r : List D} {cap : Nat} {c : Int} (h : w'.ownsRow w.heap.size 108 4 (slV A r cap) r.length (flat r)) (hb : Below w.heap.size w w') : Answers w (.returned (outV (slV A r cap) c)) w' r c := by
  obtain ⟨_, A', c', e, hc, hL⟩ := own_lies h
  unfold slV at e
  injection e with e1 e2 e3
  subst e1 e3
  exact ⟨A, cap, rfl, h, hc, hL, hb⟩
theorem own_set2 {w : World} {base n : Nat} {v : Value} {xs : List Value} (h : w.ownsRow base 108 4 v n xs) {b : Nat} (hp : b < base) (u u' : Value) : ((w.setCell ⟨b, 0, none⟩ u).setCell ⟨b, 1, none⟩ u').ownsRow base 108 4 v n xs :=
  own_set (own_set h (p := ⟨b, 0, none⟩) hp u) (p := ⟨b, 1, none⟩) hp u'

end Go.Proofs.Ythagkjofpfafiaa.Dep
