/-
  spec.l05Put: a store with a row, in a row of its own.
-/
import Derived.Test.YtoagdpbbojlgfaaGreatRowApp
import Derived.Test.YtoagdpbbojlgfaaGreatRowTo
import Derived.Test.YtoagdpbbojlgfaaGreatRowIRight
import Derived.Deep.DeepCutAuto
namespace Go.Proofs.YtoagdpbbojlgfaaGreat.Sto
open Go.ChangeShapes Go.WideShapes Go.ChangeAt Go.RowKit
open Dep (I D zero kl list_eq add_block add_add row_set get_ne get_eq)
set_option linter.unusedVariables false
set_option maxRecDepth 100000

theorem sem_pure0 (w : World) : Sem.run Tryz.prog (pure (#[] : Array Value)) w = .ok #[] w := rfl
theorem sem_store0 (p : Addr) (w : World) : Sem.run Tryz.prog (storeCells p []) w = .ok () w := rfl
attribute [local go_sem] sem_pure0 sem_store0

theorem own_none (w : World) : (w.alloc (Obj.cells #[] 42)).ownsRow w.heap.size 42 5 (.slice (some ⟨w.heap.size, 0, none⟩) 0 0) 0 (flat []) :=
  ⟨rfl, .inr ⟨_, 0, #[], rfl, Nat.le_refl _, heap_alloc_new w _, Nat.le_refl _, by simp [maxLen], rfl, rfl⟩⟩
theorem ownBlock_base {w : World} {base n : Nat} {v : Value} {xs : List Value} (h : w.ownsRow base 42 5 v n xs) : ∀ k, v.ownBlock = some k → base ≤ k := by
  rcases h.2 with ⟨rfl, _⟩ | ⟨g, cap, cur, rfl, hb, _⟩
  · intro k e; cases e
  · intro k e; cases e; exact hb
theorem own_alloc {w : World} {base n : Nat} {v : Value} {xs : List Value} (h : w.ownsRow base 42 5 v n xs) (o : Obj) : (w.alloc o).ownsRow base 42 5 v n xs := by
  refine ⟨h.1, h.2.imp id ?_⟩
  rintro ⟨g, cap, cur, e, hb, hh, r⟩
  exact ⟨g, cap, cur, e, hb, (heap_alloc_old w o (Array.getElem?_eq_some_iff.1 hh).1).trans hh, r⟩
theorem own_step {w w' : World} {base n : Nat} {v : Value} {xs : List Value} (h : w.ownsRow base 42 5 v n xs) {N : Nat} (hb : Below N w w') (hN : w.heap.size ≤ N) : w'.ownsRow base 42 5 v n xs := by
  refine ⟨h.1, h.2.imp id ?_⟩
  rintro ⟨g, cap, cur, e, hb', hh, r⟩
  exact ⟨g, cap, cur, e, hb', (hb.block g (by have := (Array.getElem?_eq_some_iff.1 hh).1; omega)).trans hh, r⟩
theorem own_less {w : World} {base base' n : Nat} {v : Value} {xs : List Value} (h : w.ownsRow base 42 5 v n xs) (hb : base' ≤ base) : w.ownsRow base' 42 5 v n xs :=
  ⟨h.1, h.2.imp id fun ⟨g, cap, cur, e, hb', r⟩ => ⟨g, cap, cur, e, by omega, r⟩⟩
/-- A store elsewhere. -/
theorem own_set {w : World} {base n : Nat} {v : Value} {xs : List Value} (h : w.ownsRow base 42 5 v n xs) {p : Addr} (hp : p.block < base) (u : Value) : (w.setCell p u).ownsRow base 42 5 v n xs := by
  refine ⟨h.1, h.2.imp id ?_⟩
  rintro ⟨g, cap, cur, e, hb', hh, r⟩
  refine ⟨g, cap, cur, e, hb', ?_, r⟩
  rw [← hh]
  exact heap_setCell_other w p g u (by omega)
theorem lies_drop_nil {w : World} {B : Nat} {A : Option Addr} {l : List R} {k : Nat} (h : l.length ≤ k) : Lies w B A (l.drop k) := fun h0 => by rw [List.length_drop] at h0; omega
theorem lies_drop_add {w : World} {B : Nat} {ad : Addr} {l : List R} (k : Nat) (h : Lies w B (some ad) l) : Lies w B (some (ad.add (k * 5))) (l.drop k) := fun h0 => by
  rw [List.length_drop] at h0
  obtain ⟨ad', e, hb, hc⟩ := h (by omega)
  cases e
  refine ⟨ad.add (k * 5), rfl, by rw [add_block]; exact hb, fun j hj => ?_⟩
  rw [List.length_drop] at hj
  rw [List.getElem_drop, add_add, show k * 5 + j * 5 = (k + j) * 5 by omega]
  exact hc (k + j) (by omega)
theorem lies_drop_if {w : World} {B : Nat} {ad : Addr} {l : List R} {cap : Nat} (k : Nat) (h : Lies w B (some ad) l) (hcap : l.length ≤ cap) : Lies w B (if cap = k then some ad else some (ad.add (k * 5))) (l.drop k) := by
  split
  · exact lies_drop_nil (by omega)
  · exact lies_drop_add k h
/-- What a new row of one dep reads as. -/
theorem one_lies (w : World) (d : R) : Lies (w.alloc d.obj) (w.alloc d.obj).heap.size (some ⟨w.heap.size, 0, none⟩) [d] := fun _ => by
  refine ⟨_, rfl, by simp, fun j hj => ?_⟩
  have : j = 0 := by simpa using hj
  subst this
  obtain ⟨d0, d1, d2, d3, d4⟩ := (RowRow.new w 42 d).cells
  exact ⟨d0, d1, d2, d3, d4⟩
theorem wpList_append_rows {ops : Array Oper} {rest : List Oper} {o : Oper} {a : Act} {w : World} {Q : Exit → Act → World → Prop} (hgd : o.guard = none) {s x : Operand}
    (ho : o.op = .call { callee := .builtin .append, args := #[s, x], argTypes := #[98, 98] }) (hty : o.type = 98) {base : Nat} {v : Value} {n : Nat} {l : List R} {A : Option Addr} {j c B : Nat} (m : List R)
    (hs : a.eval s = v) (hx : a.eval x = .slice A j c) (hj : m.length = j) (hown : w.ownsRow base 42 5 v n (flat l)) (hr : Lies w B A m) (h63 : n + m.length ≤ 2097152) (hbase : base ≤ w.heap.size)
    (h : ∀ v' w', w'.ownsRow base 42 5 v' (n + m.length) (flat (l ++ m)) → w.grownBy w' v.ownBlock → wpList Tryz.prog ops Q rest (a.put o.dst v') w') : wpList Tryz.prog ops Q (o :: rest) a w := by
  refine wpList_plain hgd fun K hK => ?_
  obtain ⟨v', w', hrun, h2, h3, _⟩ := run_append_rows base v n l w hown B A m c hr h63 hbase
  unfold slV at hrun
  rw [hj] at hrun
  unfold Oper.wp execOp
  rw [hty]
  simp only [ho, resolve, invoke, builtin, Sem.run_bind, Sem.run_pure, Result.andThen_ok, List.map_toArray, List.map_cons, List.map_nil, hs, hx, hrun]
  exact hK _ _ (h v' w' h2 h3)

theorem wp_append_rows {o : Oper} {a : Act} {w : World} {K : Act → World → Prop} {Q : Exit → Act → World → Prop} {s x : Operand}
    (ho : o.op = .call { callee := .builtin .append, args := #[s, x], argTypes := #[98, 98] }) (hty : o.type = 98) {base : Nat} {v : Value} {n : Nat} {l : List R} {A : Option Addr} {j c B : Nat} (m : List R)
    (hs : a.eval s = v) (hx : a.eval x = .slice A j c) (hj : m.length = j) (hown : w.ownsRow base 42 5 v n (flat l)) (hr : Lies w B A m) (h63 : n + m.length ≤ 2097152) (hbase : base ≤ w.heap.size)
    (h : ∀ v' w', w'.ownsRow base 42 5 v' (n + m.length) (flat (l ++ m)) → w.grownBy w' v.ownBlock → K (a.put o.dst v') w') : Oper.wp Tryz.prog o a w K Q := by
  obtain ⟨v', w', hrun, h2, h3, _⟩ := run_append_rows base v n l w hown B A m c hr h63 hbase
  unfold slV at hrun
  rw [hj] at hrun
  unfold Oper.wp execOp
  rw [hty]
  simp only [ho, resolve, invoke, builtin, Sem.run_bind, Sem.run_pure, Result.andThen_ok, List.map_toArray, List.map_cons, List.map_nil, hs, hx, hrun]
  exact h v' w' h2 h3

/-- The row in the box is another one. -/
theorem box_set {w : World} {b : Nat} {x : R} (h : RowRow w b 42 x) (y : R) :
    RowRow (((((w.setCell ⟨b, 0, none⟩ (.string y.k)).setCell ⟨b, 1, none⟩ (.int .i64 y.i.c)).setCell ⟨b, 2, none⟩ (.int .i64 y.i.s)).setCell ⟨b, 3, none⟩ (.int .i64 y.i.e)).setCell ⟨b, 4, none⟩ (.string y.b)) b 42 y := by
  have h1 := row_set (row_set (row_set (row_set (row_set h 0 (.string y.k)) 1 (.int .i64 y.i.c)) 2 (.int .i64 y.i.s)) 3 (.int .i64 y.i.e)) 4 (.string y.b)
  exact h1
theorem specLess_any (x y : I) (w : World) :
    Calls Tryz.prog 63 #[.agg #[.int .i64 x.c, .int .i64 x.s, .int .i64 x.e], .agg #[.int .i64 y.c, .int .i64 y.s, .int .i64 y.e]] w fun e w' => e = .returned (.bool (x.less y)) ∧ Below w.heap.size w w' :=
  Id.specLess_any x.c x.s x.e y.c y.s y.e w

/-- The row in a block of its own, cell by cell. -/
abbrev Box5 (W : World) (b : Nat) (x : R) : Prop := W.cell? ⟨b, 0, none⟩ = some (.string x.k) ∧ W.cell? ⟨b, 1, none⟩ = some (.int .i64 x.i.c) ∧ W.cell? ⟨b, 2, none⟩ = some (.int .i64 x.i.s) ∧ W.cell? ⟨b, 3, none⟩ = some (.int .i64 x.i.e) ∧ W.cell? ⟨b, 4, none⟩ = some (.string x.b)
theorem box_step {W W' : World} {b : Nat} {x : R} (h : Box5 W b x) (hb : Below W.heap.size W W') : Box5 W' b x :=
  ⟨Lib.Below.cellOf hb h.1 (Nat.le_refl _), Lib.Below.cellOf hb h.2.1 (Nat.le_refl _), Lib.Below.cellOf hb h.2.2.1 (Nat.le_refl _), Lib.Below.cellOf hb h.2.2.2.1 (Nat.le_refl _), Lib.Below.cellOf hb h.2.2.2.2 (Nat.le_refl _)⟩
/-- A row stands, another one in its box, and nothing below is written. -/
abbrev Three (w : World) (p : Addr) (y : R) (b : Nat) (x : R) (W : World) : Prop := At W p y ∧ Box5 W b x ∧ Below w.heap.size w W
theorem Three.step {w W W' : World} {p : Addr} {y x : R} {b : Nat} (h : Three w p y b x W) (hb : Below W.heap.size W W') : Three w p y b x W' := ⟨at_step h.1 hb, box_step h.2.1 hb, h.2.2.trans (hb.mono h.2.2.size)⟩
theorem Three.drew {w W : World} {p : Addr} {y x : R} {b : Nat} (h : Three w p y b x W) : Three w p y b x W.drew := ⟨h.1, h.2.1, h.2.2.drew⟩

set_option maxHeartbeats 8000000 in
theorem specPut_any (ad : Addr) (l : List R) (cap : Nat) (x : R) (w : World) (h : Lies w w.heap.size (some ad) l) (hl : l.length ≤ 1048576) (hcap : l.length ≤ cap) (hcm : cap ≤ maxLen) :
    Calls Tryz.prog 185 #[slV (some ad) l cap, x.val] w fun e w' => ∃ v, e = .returned v ∧ w'.ownsRow w.heap.size 42 5 v (putW l x).length (flat (putW l x)) ∧ Below w.heap.size w w' := by
  unfold maxLen at hcm
  have H := Lib.hid h
  clear h
  have H1 := Lib.hid (H.out.alloc (Nat.le_refl _) x.obj)
  have B1 := Lib.hid ((Below.refl w.heap.size w).alloc (Nat.le_refl _) x.obj)
  have R1 := Lib.hid (RowRow.new w 42 x)
  have hsz : (World.alloc w x.obj).heap.size = w.heap.size + 1 := by simp
  unfold slV R.val
  go_enter Tryz.func185, Tryz.ntmps185
  go_wp2_with fail
  generalize hbb : w.heap.size = b at *
  generalize World.alloc w _ = W at *
  clear H
  obtain ⟨t0, t1, t2, t3, t4⟩ := R1.out.cells
  go_loopw [5] (fun i wr => ∃ k : Nat, k ≤ l.length ∧ i = .int .i64 k ∧ Hid ((∀ j (hj : j < l.length), j < k → kl l[j].k x.k = true) ∧ Below (b + 1) W wr)) (fun i _ => l.length - (intOf i).toNat)
  case atStart => exact ⟨0, by omega, rfl, Lib.hid ⟨fun j hj hjk => absurd hjk (by omega), Below.refl _ _⟩⟩
  case round =>
    obtain ⟨k, hk, rfl, HR⟩ := hrel
    have HJ := Lib.hid HR.out.1
    have hkl : (l.take k).length = k := by rw [List.length_take]; omega
    have hk3 : k ≤ cap := by omega
    have HSZ := Lib.hid hsz
    have hszr : b + 1 ≤ wr.heap.size := by have := HR.out.2.size; omega
    clear hsz
    by_cases hlt : k < l.length
    · obtain ⟨ad', ea, hb, hat⟩ := (H1.out.below HR.out.2 (by omega)).at_ hlt
      cases ea
      obtain ⟨y, hy⟩ : ∃ y, l[k] = y := ⟨_, rfl⟩
      have HY := Lib.hid hy
      rw [hy] at hat
      clear hy hb
      have hlti : (k : Int) < l.length := by omega
      have hst : Three wr (ad.add (k * 5)) y b x wr := ⟨hat, (R1.out.step HR.out.2 (by omega)).cells, Below.refl _ _⟩
      clear hat
      cases hkl2 : Op.bytesLess y.k.toList x.k.toList
      · have HL := Lib.hid hkl2
        go_wp2_with fail
        refine wp_region_held_drew (S := (fun U => At U (ad.add (k * 5)) y ∧ Box5 U b x ∧ Below wr.heap.size wr U)) (by kernel_rfl) ?_ (fun hHeld => ?_)
        · exact hst.drew
        refine wpAnyH_take (i := 0) (v := ?_) rfl (by kernel_rfl) (by kernel_rfl) (by kernel_rfl) (fun _ _ _ h => h) (Or.inl ⟨by rfl, ?_⟩) hHeld ?_
        rotate_left
        · intro W hSw
          obtain ⟨⟨hs1, hs2, hs3, hs4, hs5⟩, ⟨hs6, hs7, hs8, hs9, hs10⟩, _⟩ := hSw
          go_simp
          try with_reducible rfl
        try simp only [Act.put, List.setIfInBounds_toArray, List.set_cons_zero, List.set_cons_succ, List.getElem_toArray, List.getElem_cons_zero]
        refine wpAnyH_take (i := 1) (v := ?_) rfl (by kernel_rfl) (by kernel_rfl) (by kernel_rfl) (fun _ _ _ h => h) (Or.inl ⟨by rfl, ?_⟩) hHeld ?_
        rotate_left
        · intro W hSw
          obtain ⟨⟨hs1, hs2, hs3, hs4, hs5⟩, ⟨hs6, hs7, hs8, hs9, hs10⟩, _⟩ := hSw
          go_simp
          try with_reducible rfl
        try simp only [Act.put, List.setIfInBounds_toArray, List.set_cons_zero, List.set_cons_succ, List.getElem_toArray, List.getElem_cons_succ, List.getElem_cons_zero]
        refine wpAnyH_take (i := 2) (v := ?_) rfl (by kernel_rfl) (by kernel_rfl) (by kernel_rfl) (fun _ _ _ h => h) (Or.inl ⟨by rfl, ?_⟩) hHeld ?_
        rotate_left
        · intro W hSw
          obtain ⟨⟨hs1, hs2, hs3, hs4, hs5⟩, ⟨hs6, hs7, hs8, hs9, hs10⟩, _⟩ := hSw
          go_simp
          try with_reducible rfl
        try simp only [Act.put, List.setIfInBounds_toArray, List.set_cons_zero, List.set_cons_succ, List.getElem_toArray, List.getElem_cons_succ, List.getElem_cons_zero]
        refine wpAnyH_take (i := 3) (v := ?_) rfl (by kernel_rfl) (by kernel_rfl) (by kernel_rfl) (fun _ _ _ h => h) (Or.inl ⟨by rfl, ?_⟩) hHeld ?_
        rotate_left
        · intro W hSw
          obtain ⟨⟨hs1, hs2, hs3, hs4, hs5⟩, ⟨hs6, hs7, hs8, hs9, hs10⟩, _⟩ := hSw
          go_simp
          try with_reducible rfl
        try simp only [Act.put, List.setIfInBounds_toArray, List.set_cons_zero, List.set_cons_succ, List.getElem_toArray, List.getElem_cons_succ, List.getElem_cons_zero]
        refine wpAnyH_take (i := 4) (v := ?_) rfl (by kernel_rfl) (by kernel_rfl) (by kernel_rfl) (fun _ _ _ h => h) (Or.inl ⟨by rfl, ?_⟩) hHeld ?_
        rotate_left
        · intro W hSw
          obtain ⟨⟨hs1, hs2, hs3, hs4, hs5⟩, ⟨hs6, hs7, hs8, hs9, hs10⟩, _⟩ := hSw
          go_simp
          try with_reducible rfl
        try simp only [Act.put, List.setIfInBounds_toArray, List.set_cons_zero, List.set_cons_succ, List.getElem_toArray, List.getElem_cons_succ, List.getElem_cons_zero]
        refine wpAnyH_take (i := 5) (v := ?_) rfl (by kernel_rfl) (by kernel_rfl) (by kernel_rfl) (fun _ _ _ h => h) (Or.inl ⟨by rfl, ?_⟩) hHeld ?_
        rotate_left
        · intro W hSw
          obtain ⟨⟨hs1, hs2, hs3, hs4, hs5⟩, ⟨hs6, hs7, hs8, hs9, hs10⟩, _⟩ := hSw
          go_simp
          try with_reducible rfl
        try simp only [Act.put, List.setIfInBounds_toArray, List.set_cons_zero, List.set_cons_succ, List.getElem_toArray, List.getElem_cons_succ, List.getElem_cons_zero]
        refine wpAnyH_take (i := 6) (v := ?_) rfl (by kernel_rfl) (by kernel_rfl) (by kernel_rfl) (fun _ _ _ h => h) (Or.inl ⟨by rfl, ?_⟩) hHeld ?_
        rotate_left
        · intro W hSw
          obtain ⟨⟨hs1, hs2, hs3, hs4, hs5⟩, ⟨hs6, hs7, hs8, hs9, hs10⟩, _⟩ := hSw
          go_simp
          try with_reducible rfl
        try simp only [Act.put, List.setIfInBounds_toArray, List.set_cons_zero, List.set_cons_succ, List.getElem_toArray, List.getElem_cons_succ, List.getElem_cons_zero]
        refine wpAnyH_take (i := 7) (v := ?_) rfl (by kernel_rfl) (by kernel_rfl) (by kernel_rfl) (fun _ _ _ h => h) (Or.inl ⟨by rfl, ?_⟩) hHeld ?_
        rotate_left
        · intro W hSw
          obtain ⟨⟨hs1, hs2, hs3, hs4, hs5⟩, ⟨hs6, hs7, hs8, hs9, hs10⟩, _⟩ := hSw
          go_simp
          try with_reducible rfl
        try simp only [Act.put, List.setIfInBounds_toArray, List.set_cons_zero, List.set_cons_succ, List.getElem_toArray, List.getElem_cons_succ, List.getElem_cons_zero]
        refine wpAnyH_take (i := 8) (v := ?_) rfl (by kernel_rfl) (by kernel_rfl) (by kernel_rfl) (fun _ _ _ h => h) (Or.inl ⟨by rfl, ?_⟩) hHeld ?_
        rotate_left
        · intro W hSw
          obtain ⟨⟨hs1, hs2, hs3, hs4, hs5⟩, ⟨hs6, hs7, hs8, hs9, hs10⟩, _⟩ := hSw
          go_simp
          try with_reducible rfl
        try simp only [Act.put, List.setIfInBounds_toArray, List.set_cons_zero, List.set_cons_succ, List.getElem_toArray, List.getElem_cons_succ, List.getElem_cons_zero]
        refine wpAnyH_take (i := 9) (v := ?_) rfl (by kernel_rfl) (by kernel_rfl) (by kernel_rfl) (fun _ _ _ h => h) (Or.inl ⟨by rfl, ?_⟩) hHeld ?_
        rotate_left
        · intro W hSw
          obtain ⟨⟨hs1, hs2, hs3, hs4, hs5⟩, ⟨hs6, hs7, hs8, hs9, hs10⟩, _⟩ := hSw
          go_simp
          try with_reducible rfl
        try simp only [Act.put, List.setIfInBounds_toArray, List.set_cons_zero, List.set_cons_succ, List.getElem_toArray, List.getElem_cons_succ, List.getElem_cons_zero]
        refine wpAnyH_take (i := 10) (v := ?_) rfl (by kernel_rfl) (by kernel_rfl) (by kernel_rfl) (fun _ _ _ h => h) (Or.inl ⟨by rfl, ?_⟩) hHeld ?_
        rotate_left
        · intro W hSw
          obtain ⟨⟨hs1, hs2, hs3, hs4, hs5⟩, ⟨hs6, hs7, hs8, hs9, hs10⟩, _⟩ := hSw
          go_simp
          try with_reducible rfl
        try simp only [Act.put, List.setIfInBounds_toArray, List.set_cons_zero, List.set_cons_succ, List.getElem_toArray, List.getElem_cons_succ, List.getElem_cons_zero]
        refine wpAnyH_take (i := 11) (v := ?_) rfl (by kernel_rfl) (by kernel_rfl) (by kernel_rfl) (fun _ _ _ h => h) (Or.inl ⟨by rfl, ?_⟩) hHeld ?_
        rotate_left
        · intro W hSw
          obtain ⟨⟨hs1, hs2, hs3, hs4, hs5⟩, ⟨hs6, hs7, hs8, hs9, hs10⟩, _⟩ := hSw
          go_simp
          try with_reducible rfl
        try simp only [Act.put, List.setIfInBounds_toArray, List.set_cons_zero, List.set_cons_succ, List.getElem_toArray, List.getElem_cons_succ, List.getElem_cons_zero]
        refine wpAnyH_take (i := 12) (v := ?_) rfl (by kernel_rfl) (by kernel_rfl) (by kernel_rfl) (fun _ _ _ h => h) (Or.inl ⟨by rfl, ?_⟩) hHeld ?_
        rotate_left
        · intro W hSw
          obtain ⟨⟨hs1, hs2, hs3, hs4, hs5⟩, ⟨hs6, hs7, hs8, hs9, hs10⟩, _⟩ := hSw
          go_simp
          try with_reducible rfl
        try simp only [Act.put, List.setIfInBounds_toArray, List.set_cons_zero, List.set_cons_succ, List.getElem_toArray, List.getElem_cons_succ, List.getElem_cons_zero]
        refine wpAnyH_take (i := 13) (v := ?_) rfl (by kernel_rfl) (by kernel_rfl) (by kernel_rfl) (fun _ _ _ h => h) (Or.inl ⟨by rfl, ?_⟩) hHeld ?_
        rotate_left
        · intro W hSw
          obtain ⟨⟨hs1, hs2, hs3, hs4, hs5⟩, ⟨hs6, hs7, hs8, hs9, hs10⟩, _⟩ := hSw
          go_simp
          try with_reducible rfl
        try simp only [Act.put, List.setIfInBounds_toArray, List.set_cons_zero, List.set_cons_succ, List.getElem_toArray, List.getElem_cons_succ, List.getElem_cons_zero]
        refine wpAnyH_done (by kernel_rfl) ?_ _
        clear hst
        have LV := Lib.hid (show Lies (World.drew wr) b (some ad) l from (H1.out.below HR.out.2.drew (show b ≤ b + 1 by omega)))
        have RV := Lib.hid (show RowRow (World.drew wr) b 42 x from R1.out.step HR.out.2.drew (show b < b + 1 by omega))
        have HBV := Lib.hid (show Below (b + 1) W (World.drew wr) from HR.out.2.drew)
        generalize World.drew wr = V at LV RV HBV hHeld ⊢
        clear hHeld
        have hVb : b + 1 ≤ V.heap.size := by have := HBV.out.size; have := HSZ.out; omega
        have HT := Lib.hid ((LV.out.alloc (by omega) (Obj.cells #[] 42)).take k)
        by_cases he : y.k = x.k
        · have hee : (y.k.toList == x.k.toList) = true := by rw [he]; exact beq_self_eq_true _
          have HE := Lib.hid he
          clear he
          go_upto_region 5 with (at_builtin; refine wpList_append_rows rfl rfl rfl (l.take k) rfl rfl hkl (own_none V) HT.out (by rw [hkl]; omega) (by simp) ?_; intro v1 W1 ho1 hg1; rw [hkl, Nat.zero_add, List.nil_append] at ho1; have BW1 : Below V.heap.size V W1 := ((Below.refl _ V).alloc (Nat.le_refl _) _).grown hg1 (by simp) (fun j e => by cases e; exact Nat.le_refl _); have HB1 := Lib.hid BW1; have HO1 := Lib.hid ho1; clear ho1 hg1 BW1)
          have L1a := LV.out.below HB1.out (show b ≤ V.heap.size by omega)
          have hR := RV.out.on HB1.out
          obtain ⟨_, ea5, _, hat5⟩ := L1a.at_ hlt
          cases ea5
          rw [HY.out] at hat5
          have hst : Three W1 (ad.add (k * 5)) y b x W1 := ⟨hat5, hR.cells, Below.refl _ _⟩
          refine wp_region_held_drew (S := (fun U => At U (ad.add (k * 5)) y ∧ Box5 U b x ∧ Below W1.heap.size W1 U)) (by kernel_rfl) ?_ (fun hHeld => ?_)
          · exact hst.drew
          refine wpAnyH_take (i := 0) (v := ?_) rfl (by kernel_rfl) (by kernel_rfl) (by kernel_rfl) (fun _ _ _ h => h) (Or.inl ⟨by rfl, ?_⟩) hHeld ?_
          rotate_left
          · intro W hSw
            obtain ⟨⟨hs1, hs2, hs3, hs4, hs5⟩, ⟨hs6, hs7, hs8, hs9, hs10⟩, _⟩ := hSw
            go_simp
            try with_reducible rfl
          try simp only [Act.put, List.setIfInBounds_toArray, List.set_cons_zero, List.set_cons_succ, List.getElem_toArray, List.getElem_cons_zero]
          refine wpAnyH_take (i := 1) (v := ?_) rfl (by kernel_rfl) (by kernel_rfl) (by kernel_rfl) (fun _ _ _ h => h) (Or.inl ⟨by rfl, ?_⟩) hHeld ?_
          rotate_left
          · intro W hSw
            obtain ⟨⟨hs1, hs2, hs3, hs4, hs5⟩, ⟨hs6, hs7, hs8, hs9, hs10⟩, _⟩ := hSw
            go_simp
            try with_reducible rfl
          try simp only [Act.put, List.setIfInBounds_toArray, List.set_cons_zero, List.set_cons_succ, List.getElem_toArray, List.getElem_cons_succ, List.getElem_cons_zero]
          refine wpAnyH_take (i := 2) (v := ?_) rfl (by kernel_rfl) (by kernel_rfl) (by kernel_rfl) (fun _ _ _ h => h) (Or.inl ⟨by rfl, ?_⟩) hHeld ?_
          rotate_left
          · intro W hSw
            obtain ⟨⟨hs1, hs2, hs3, hs4, hs5⟩, ⟨hs6, hs7, hs8, hs9, hs10⟩, _⟩ := hSw
            go_simp
            try with_reducible rfl
          try simp only [Act.put, List.setIfInBounds_toArray, List.set_cons_zero, List.set_cons_succ, List.getElem_toArray, List.getElem_cons_succ, List.getElem_cons_zero]
          refine wpAnyH_take (i := 3) (v := ?_) rfl (by kernel_rfl) (by kernel_rfl) (by kernel_rfl) (fun _ _ _ h => h) (Or.inl ⟨by rfl, ?_⟩) hHeld ?_
          rotate_left
          · intro W hSw
            obtain ⟨⟨hs1, hs2, hs3, hs4, hs5⟩, ⟨hs6, hs7, hs8, hs9, hs10⟩, _⟩ := hSw
            go_simp
            try with_reducible rfl
          try simp only [Act.put, List.setIfInBounds_toArray, List.set_cons_zero, List.set_cons_succ, List.getElem_toArray, List.getElem_cons_succ, List.getElem_cons_zero]
          refine wpAnyH_take (i := 4) (v := ?_) rfl (by kernel_rfl) (by kernel_rfl) (by kernel_rfl) (fun _ _ _ h => h) (Or.inl ⟨by rfl, ?_⟩) hHeld ?_
          rotate_left
          · intro W hSw
            obtain ⟨⟨hs1, hs2, hs3, hs4, hs5⟩, ⟨hs6, hs7, hs8, hs9, hs10⟩, _⟩ := hSw
            go_simp
            try with_reducible rfl
          try simp only [Act.put, List.setIfInBounds_toArray, List.set_cons_zero, List.set_cons_succ, List.getElem_toArray, List.getElem_cons_succ, List.getElem_cons_zero]
          refine wpAnyH_take (i := 5) (v := ?_) rfl (by kernel_rfl) (by kernel_rfl) (by kernel_rfl) (fun _ _ _ h => h) (Or.inl ⟨by rfl, ?_⟩) hHeld ?_
          rotate_left
          · intro W hSw
            obtain ⟨⟨hs1, hs2, hs3, hs4, hs5⟩, ⟨hs6, hs7, hs8, hs9, hs10⟩, _⟩ := hSw
            go_simp
            try with_reducible rfl
          try simp only [Act.put, List.setIfInBounds_toArray, List.set_cons_zero, List.set_cons_succ, List.getElem_toArray, List.getElem_cons_succ, List.getElem_cons_zero]
          refine wpAnyH_take (i := 6) (v := ?_) rfl (by kernel_rfl) (by kernel_rfl) (by kernel_rfl) (fun _ _ _ h => h) (Or.inl ⟨by rfl, ?_⟩) hHeld ?_
          rotate_left
          · intro W hSw
            obtain ⟨⟨hs1, hs2, hs3, hs4, hs5⟩, ⟨hs6, hs7, hs8, hs9, hs10⟩, _⟩ := hSw
            go_simp
            try with_reducible rfl
          try simp only [Act.put, List.setIfInBounds_toArray, List.set_cons_zero, List.set_cons_succ, List.getElem_toArray, List.getElem_cons_succ, List.getElem_cons_zero]
          refine wpAnyH_take (i := 7) (v := ?_) rfl (by kernel_rfl) (by kernel_rfl) (by kernel_rfl) (fun _ _ _ h => h) (Or.inl ⟨by rfl, ?_⟩) hHeld ?_
          rotate_left
          · intro W hSw
            obtain ⟨⟨hs1, hs2, hs3, hs4, hs5⟩, ⟨hs6, hs7, hs8, hs9, hs10⟩, _⟩ := hSw
            go_simp
            try with_reducible rfl
          try simp only [Act.put, List.setIfInBounds_toArray, List.set_cons_zero, List.set_cons_succ, List.getElem_toArray, List.getElem_cons_succ, List.getElem_cons_zero]
          refine wpAnyH_take (i := 8) (v := ?_) rfl (by kernel_rfl) (by kernel_rfl) (by kernel_rfl) (fun _ _ _ h => h) (Or.inl ⟨by rfl, ?_⟩) hHeld ?_
          rotate_left
          · intro W hSw
            obtain ⟨⟨hs1, hs2, hs3, hs4, hs5⟩, ⟨hs6, hs7, hs8, hs9, hs10⟩, _⟩ := hSw
            go_simp
            try with_reducible rfl
          try simp only [Act.put, List.setIfInBounds_toArray, List.set_cons_zero, List.set_cons_succ, List.getElem_toArray, List.getElem_cons_succ, List.getElem_cons_zero]
          refine wpAnyH_take (i := 9) (v := ?_) rfl (by kernel_rfl) (by kernel_rfl) (by kernel_rfl) (fun _ _ _ h => h) (Or.inl ⟨by rfl, ?_⟩) hHeld ?_
          rotate_left
          · intro W hSw
            obtain ⟨⟨hs1, hs2, hs3, hs4, hs5⟩, ⟨hs6, hs7, hs8, hs9, hs10⟩, _⟩ := hSw
            go_simp
            try with_reducible rfl
          try simp only [Act.put, List.setIfInBounds_toArray, List.set_cons_zero, List.set_cons_succ, List.getElem_toArray, List.getElem_cons_succ, List.getElem_cons_zero]
          refine wpAnyH_take (i := 10) (v := ?_) rfl (by kernel_rfl) (by kernel_rfl) (by kernel_rfl) (fun _ _ _ h => h) (Or.inl ⟨by rfl, ?_⟩) hHeld ?_
          rotate_left
          · intro W hSw
            obtain ⟨⟨hs1, hs2, hs3, hs4, hs5⟩, ⟨hs6, hs7, hs8, hs9, hs10⟩, _⟩ := hSw
            go_simp
            try with_reducible rfl
          try simp only [Act.put, List.setIfInBounds_toArray, List.set_cons_zero, List.set_cons_succ, List.getElem_toArray, List.getElem_cons_succ, List.getElem_cons_zero]
          refine wpAnyH_take (i := 11) (v := ?_) rfl (by kernel_rfl) (by kernel_rfl) (by kernel_rfl) (fun _ _ _ h => h) (Or.inl ⟨by rfl, ?_⟩) hHeld ?_
          rotate_left
          · intro W hSw
            obtain ⟨⟨hs1, hs2, hs3, hs4, hs5⟩, ⟨hs6, hs7, hs8, hs9, hs10⟩, _⟩ := hSw
            go_simp
            try with_reducible rfl
          try simp only [Act.put, List.setIfInBounds_toArray, List.set_cons_zero, List.set_cons_succ, List.getElem_toArray, List.getElem_cons_succ, List.getElem_cons_zero]
          refine wpAnyH_take (i := 12) (v := ?_) rfl (by kernel_rfl) (by kernel_rfl) (by kernel_rfl) (fun _ _ _ h => h) (Or.inl ⟨by rfl, ?_⟩) hHeld ?_
          rotate_left
          · intro W hSw
            obtain ⟨⟨hs1, hs2, hs3, hs4, hs5⟩, ⟨hs6, hs7, hs8, hs9, hs10⟩, _⟩ := hSw
            go_simp
            try with_reducible rfl
          try simp only [Act.put, List.setIfInBounds_toArray, List.set_cons_zero, List.set_cons_succ, List.getElem_toArray, List.getElem_cons_succ, List.getElem_cons_zero]
          refine wpAnyH_take (i := 13) (v := ?_) rfl (by kernel_rfl) (by kernel_rfl) (by kernel_rfl) (fun _ _ _ h => h) (Or.inl ⟨by rfl, ?_⟩) hHeld ?_
          rotate_left
          · intro W hSw
            obtain ⟨⟨hs1, hs2, hs3, hs4, hs5⟩, ⟨hs6, hs7, hs8, hs9, hs10⟩, _⟩ := hSw
            go_simp
            try with_reducible rfl
          try simp only [Act.put, List.setIfInBounds_toArray, List.set_cons_zero, List.set_cons_succ, List.getElem_toArray, List.getElem_cons_succ, List.getElem_cons_zero]
          refine wpAnyH_done (by kernel_rfl) ?_ _
          have HO2 := Lib.hid (show (World.drew W1).ownsRow V.heap.size 42 5 v1 k (flat (l.take k)) from HO1.out)
          have HB12 := Lib.hid (show Below V.heap.size V (World.drew W1) from HB1.out.drew)
          have LV1 := Lib.hid (show Lies (World.drew W1) b (some ad) l from L1a)
          have RV1 := Lib.hid (show RowRow (World.drew W1) b 42 x from hR)
          have hst : Three (World.drew W1) (ad.add (k * 5)) y b x (World.drew W1) := ⟨hHeld.1, hHeld.2.1, Below.refl _ _⟩
          generalize World.drew W1 = V1 at HO2 HB12 LV1 RV1 hHeld hst ⊢
          clear hHeld
          cases hls : y.i.less x.i
          · have HLS := Lib.hid hls
            clear hls
            go_upto_region 6 with fail
            go_region_held3 (fun U => At U (ad.add (k * 5)) y ∧ Box5 U b x ∧ Below V1.heap.size V1 U)
              (first | exact Three.drew (by assumption) | exact Three.step (by assumption) hb)
              (first | (go_at_call 63; refine (specLess_any y.i x.i _).mono ?_; rintro e w2 ⟨rfl, hb⟩; rw [HLS.out]))
            have hend : Three V1 (ad.add (k * 5)) y b x w2 := by assumption
            have HEND := Lib.hid hend
            clear hend hst
            have hR := RV1.out.step HEND.out.2.2 (by have := RV1.out.lt; exact this)
            obtain ⟨d0, d1, d2, d3, d4⟩ := HEND.out.1
            obtain ⟨r0, r1, r2, r3, r4⟩ := hR.cells
            have f0 := hR.free 0
            have f1 := hR.free 1
            have f2 := hR.free 2
            have f3 := hR.free 3
            have f4 := hR.free 4
            have hbV : b < V.heap.size := by omega
            have O0 := own_set (own_set (own_set (own_set (own_set (own_step HO2.out HEND.out.2.2 (Nat.le_refl _)) (p := ⟨b, 0, none⟩) hbV (.string y.k)) (p := ⟨b, 1, none⟩) hbV (.int .i64 y.i.c)) (p := ⟨b, 2, none⟩) hbV (.int .i64 y.i.s)) (p := ⟨b, 3, none⟩) hbV (.int .i64 y.i.e)) (p := ⟨b, 4, none⟩) hbV (.string y.b)
            have R0 := box_set hR y
            have B0 := (((((((HB12.out.trans (HEND.out.2.2.mono HB12.out.size)).mono (show b ≤ V.heap.size by omega)).setCell (p := ⟨b, 0, none⟩) (Nat.le_refl _) (.string y.k)).setCell (p := ⟨b, 1, none⟩) (Nat.le_refl _) (.int .i64 y.i.c)).setCell (p := ⟨b, 2, none⟩) (Nat.le_refl _) (.int .i64 y.i.s)).setCell (p := ⟨b, 3, none⟩) (Nat.le_refl _) (.int .i64 y.i.e)).setCell (p := ⟨b, 4, none⟩) (Nat.le_refl _) (.string y.b))
            have HO2 := Lib.hid O0
            have R0h := Lib.hid R0
            have HB12 := Lib.hid B0
            clear O0 R0 B0 hR
            go_upto_region 9 with fail
            generalize World.setCell _ _ _ = V2 at HO2 R0h HB12 ⊢
            have L1 := Lib.hid (LV.out.below HB12.out (Nat.le_refl _))
            have hs2 : V.heap.size ≤ V2.heap.size := HB12.out.size
            clear d0 d1 d2 d3 d4 r0 r1 r2 r3 r4 f0 f1 f2 f3 f4
            obtain ⟨r0, r1, r2, r3, r4⟩ := R0h.out.cells
            obtain ⟨m, hm⟩ : ∃ m, m = k + 1 := ⟨_, rfl⟩
            have em : ((k : Int) + 1) = (m : Int) := by omega
            have HM := Lib.hid hm
            have hm1 : m ≤ l.length := by omega
            have hm2 : m ≤ cap := by omega
            simp only [em]
            clear em hm
            go_wp2_with (first | (at_builtin; refine wpList_append_rows rfl rfl rfl [y] rfl rfl rfl (own_alloc HO2.out y.obj) (one_lies _ y) (by simp; omega) (by simp; omega) ?_; intro v2 W2 ho2 hg2; have B2 := Lib.hid (((Below.refl _ _).alloc hs2 y.obj).grown hg2 (by simp; omega) (fun j e => by have := ownBlock_base HO2.out j e; omega)); have L2 := Lib.hid (L1.out.below B2.out (by omega)); have O2 := Lib.hid ho2; clear ho2 hg2) | (at_builtin; refine wpList_append_rows (B := b) rfl rfl rfl (l.drop m) rfl rfl List.length_drop O2.out (by first | exact lies_drop_nil (by omega) | exact lies_drop_add m L2.out | exact lies_drop_if m L2.out hcap) (by simp; omega) (by have := B2.out.size; omega) ?_; intro v3 W3 ho3 hg3; have O3 := Lib.hid ho3; have B3 := Lib.hid (B2.out.grown hg3 (by have := B2.out.size; omega) (fun j e => by have := ownBlock_base O2.out j e; omega)); clear ho3 hg3))
            all_goals
              go_ret
              subst hbb
              refine ⟨_, rfl, ?_, B1.out.trans ((HBV.out.mono (Nat.le_succ _)).trans ((HB12.out.mono (by omega)).trans (B3.out.mono (by omega))))⟩
              rw [show putW l x = l.take k ++ y :: l.drop m from (put_at x hk HJ.out (fun hj => by rw [HY.out, show kl y.k x.k = false from HL.out]; exact Bool.false_ne_true)).trans (by rw [dif_pos hlt, if_pos (by rw [HY.out]; exact HE.out), HY.out, HM.out]; show l.take k ++ (if y.i.less x.i = true then x else y) :: l.drop (k + 1) = _; rw [if_neg (by rw [HLS.out]; decide)])]
              have := own_less O3.out (show w.heap.size ≤ V.heap.size by have := hVb; omega)
              have hkk := HM.out
              simpa [Nat.min_eq_left hk, Nat.add_assoc, Nat.add_comm, Nat.add_left_comm] using this
          · have HLS := Lib.hid hls
            clear hls
            go_upto_region 6 with fail
            go_region_held3 (fun U => At U (ad.add (k * 5)) y ∧ Box5 U b x ∧ Below V1.heap.size V1 U)
              (first | exact Three.drew (by assumption) | exact Three.step (by assumption) hb)
              (first | (go_at_call 63; refine (specLess_any y.i x.i _).mono ?_; rintro e w2 ⟨rfl, hb⟩; rw [HLS.out]))
            have hend : Three V1 (ad.add (k * 5)) y b x w2 := by assumption
            have HEND := Lib.hid hend
            clear hend hst
            have HO2 := Lib.hid (own_step HO2.out HEND.out.2.2 (Nat.le_refl _))
            have L1 := Lib.hid (LV1.out.below HEND.out.2.2 (by have := HB12.out.size; omega))
            have HB12 := Lib.hid (HB12.out.trans (HEND.out.2.2.mono HB12.out.size))
            obtain ⟨r0, r1, r2, r3, r4⟩ := HEND.out.2.1
            have hs2 : V.heap.size ≤ w2.heap.size := HB12.out.size
            go_upto_region 9 with fail
            obtain ⟨m, hm⟩ : ∃ m, m = k + 1 := ⟨_, rfl⟩
            have em : ((k : Int) + 1) = (m : Int) := by omega
            have HM := Lib.hid hm
            have hm1 : m ≤ l.length := by omega
            have hm2 : m ≤ cap := by omega
            simp only [em]
            clear em hm
            go_wp2_with (first | (at_builtin; refine wpList_append_rows rfl rfl rfl [x] rfl rfl rfl (own_alloc HO2.out x.obj) (one_lies _ x) (by simp; omega) (by simp; omega) ?_; intro v2 W2 ho2 hg2; have B2 := Lib.hid (((Below.refl _ _).alloc hs2 x.obj).grown hg2 (by simp; omega) (fun j e => by have := ownBlock_base HO2.out j e; omega)); have L2 := Lib.hid (L1.out.below B2.out (by omega)); have O2 := Lib.hid ho2; clear ho2 hg2) | (at_builtin; refine wpList_append_rows (B := b) rfl rfl rfl (l.drop m) rfl rfl List.length_drop O2.out (by first | exact lies_drop_nil (by omega) | exact lies_drop_add m L2.out | exact lies_drop_if m L2.out hcap) (by simp; omega) (by have := B2.out.size; omega) ?_; intro v3 W3 ho3 hg3; have O3 := Lib.hid ho3; have B3 := Lib.hid (B2.out.grown hg3 (by have := B2.out.size; omega) (fun j e => by have := ownBlock_base O2.out j e; omega)); clear ho3 hg3))
            all_goals
              go_ret
              subst hbb
              refine ⟨_, rfl, ?_, B1.out.trans ((HBV.out.mono (Nat.le_succ _)).trans ((HB12.out.mono (by omega)).trans (B3.out.mono (by omega))))⟩
              rw [show putW l x = l.take k ++ x :: l.drop m from (put_at x hk HJ.out (fun hj => by rw [HY.out, show kl y.k x.k = false from HL.out]; exact Bool.false_ne_true)).trans (by rw [dif_pos hlt, if_pos (by rw [HY.out]; exact HE.out), HY.out, HM.out]; show l.take k ++ (if y.i.less x.i = true then x else y) :: l.drop (k + 1) = _; rw [if_pos HLS.out])]
              have := own_less O3.out (show w.heap.size ≤ V.heap.size by have := hVb; omega)
              have hkk := HM.out
              simpa [Nat.min_eq_left hk, Nat.add_assoc, Nat.add_comm, Nat.add_left_comm] using this
        · have hee : (y.k.toList == x.k.toList) = false := beq_eq_false_iff_ne.2 fun h => he (list_eq (by rw [← ByteArray.toList_eq, ← ByteArray.toList_eq]; exact h))
          have HE := Lib.hid he
          clear he
          go_upto_region 5 with (at_builtin; refine wpList_append_rows rfl rfl rfl (l.take k) rfl rfl hkl (own_none V) HT.out (by rw [hkl]; omega) (by simp) ?_; intro v1 W1 ho1 hg1; rw [hkl, Nat.zero_add, List.nil_append] at ho1; have BW1 : Below V.heap.size V W1 := ((Below.refl _ V).alloc (Nat.le_refl _) _).grown hg1 (by simp) (fun j e => by cases e; exact Nat.le_refl _); have HB1 := Lib.hid BW1; have HO1 := Lib.hid ho1; clear ho1 hg1 BW1)
          have L1a := LV.out.below HB1.out (show b ≤ V.heap.size by omega)
          have hR := RV.out.on HB1.out
          obtain ⟨_, ea5, _, hat5⟩ := L1a.at_ hlt
          cases ea5
          rw [HY.out] at hat5
          have hst : Three W1 (ad.add (k * 5)) y b x W1 := ⟨hat5, hR.cells, Below.refl _ _⟩
          refine wp_region_held_drew (S := (fun U => At U (ad.add (k * 5)) y ∧ Box5 U b x ∧ Below W1.heap.size W1 U)) (by kernel_rfl) ?_ (fun hHeld => ?_)
          · exact hst.drew
          refine wpAnyH_take (i := 0) (v := ?_) rfl (by kernel_rfl) (by kernel_rfl) (by kernel_rfl) (fun _ _ _ h => h) (Or.inl ⟨by rfl, ?_⟩) hHeld ?_
          rotate_left
          · intro W hSw
            obtain ⟨⟨hs1, hs2, hs3, hs4, hs5⟩, ⟨hs6, hs7, hs8, hs9, hs10⟩, _⟩ := hSw
            go_simp
            try with_reducible rfl
          try simp only [Act.put, List.setIfInBounds_toArray, List.set_cons_zero, List.set_cons_succ, List.getElem_toArray, List.getElem_cons_zero]
          refine wpAnyH_take (i := 1) (v := ?_) rfl (by kernel_rfl) (by kernel_rfl) (by kernel_rfl) (fun _ _ _ h => h) (Or.inl ⟨by rfl, ?_⟩) hHeld ?_
          rotate_left
          · intro W hSw
            obtain ⟨⟨hs1, hs2, hs3, hs4, hs5⟩, ⟨hs6, hs7, hs8, hs9, hs10⟩, _⟩ := hSw
            go_simp
            try with_reducible rfl
          try simp only [Act.put, List.setIfInBounds_toArray, List.set_cons_zero, List.set_cons_succ, List.getElem_toArray, List.getElem_cons_succ, List.getElem_cons_zero]
          refine wpAnyH_take (i := 2) (v := ?_) rfl (by kernel_rfl) (by kernel_rfl) (by kernel_rfl) (fun _ _ _ h => h) (Or.inl ⟨by rfl, ?_⟩) hHeld ?_
          rotate_left
          · intro W hSw
            obtain ⟨⟨hs1, hs2, hs3, hs4, hs5⟩, ⟨hs6, hs7, hs8, hs9, hs10⟩, _⟩ := hSw
            go_simp
            try with_reducible rfl
          try simp only [Act.put, List.setIfInBounds_toArray, List.set_cons_zero, List.set_cons_succ, List.getElem_toArray, List.getElem_cons_succ, List.getElem_cons_zero]
          refine wpAnyH_take (i := 3) (v := ?_) rfl (by kernel_rfl) (by kernel_rfl) (by kernel_rfl) (fun _ _ _ h => h) (Or.inl ⟨by rfl, ?_⟩) hHeld ?_
          rotate_left
          · intro W hSw
            obtain ⟨⟨hs1, hs2, hs3, hs4, hs5⟩, ⟨hs6, hs7, hs8, hs9, hs10⟩, _⟩ := hSw
            go_simp
            try with_reducible rfl
          try simp only [Act.put, List.setIfInBounds_toArray, List.set_cons_zero, List.set_cons_succ, List.getElem_toArray, List.getElem_cons_succ, List.getElem_cons_zero]
          refine wpAnyH_take (i := 4) (v := ?_) rfl (by kernel_rfl) (by kernel_rfl) (by kernel_rfl) (fun _ _ _ h => h) (Or.inl ⟨by rfl, ?_⟩) hHeld ?_
          rotate_left
          · intro W hSw
            obtain ⟨⟨hs1, hs2, hs3, hs4, hs5⟩, ⟨hs6, hs7, hs8, hs9, hs10⟩, _⟩ := hSw
            go_simp
            try with_reducible rfl
          try simp only [Act.put, List.setIfInBounds_toArray, List.set_cons_zero, List.set_cons_succ, List.getElem_toArray, List.getElem_cons_succ, List.getElem_cons_zero]
          refine wpAnyH_take (i := 5) (v := ?_) rfl (by kernel_rfl) (by kernel_rfl) (by kernel_rfl) (fun _ _ _ h => h) (Or.inl ⟨by rfl, ?_⟩) hHeld ?_
          rotate_left
          · intro W hSw
            obtain ⟨⟨hs1, hs2, hs3, hs4, hs5⟩, ⟨hs6, hs7, hs8, hs9, hs10⟩, _⟩ := hSw
            go_simp
            try with_reducible rfl
          try simp only [Act.put, List.setIfInBounds_toArray, List.set_cons_zero, List.set_cons_succ, List.getElem_toArray, List.getElem_cons_succ, List.getElem_cons_zero]
          refine wpAnyH_take (i := 6) (v := ?_) rfl (by kernel_rfl) (by kernel_rfl) (by kernel_rfl) (fun _ _ _ h => h) (Or.inl ⟨by rfl, ?_⟩) hHeld ?_
          rotate_left
          · intro W hSw
            obtain ⟨⟨hs1, hs2, hs3, hs4, hs5⟩, ⟨hs6, hs7, hs8, hs9, hs10⟩, _⟩ := hSw
            go_simp
            try with_reducible rfl
          try simp only [Act.put, List.setIfInBounds_toArray, List.set_cons_zero, List.set_cons_succ, List.getElem_toArray, List.getElem_cons_succ, List.getElem_cons_zero]
          refine wpAnyH_take (i := 7) (v := ?_) rfl (by kernel_rfl) (by kernel_rfl) (by kernel_rfl) (fun _ _ _ h => h) (Or.inl ⟨by rfl, ?_⟩) hHeld ?_
          rotate_left
          · intro W hSw
            obtain ⟨⟨hs1, hs2, hs3, hs4, hs5⟩, ⟨hs6, hs7, hs8, hs9, hs10⟩, _⟩ := hSw
            go_simp
            try with_reducible rfl
          try simp only [Act.put, List.setIfInBounds_toArray, List.set_cons_zero, List.set_cons_succ, List.getElem_toArray, List.getElem_cons_succ, List.getElem_cons_zero]
          refine wpAnyH_take (i := 8) (v := ?_) rfl (by kernel_rfl) (by kernel_rfl) (by kernel_rfl) (fun _ _ _ h => h) (Or.inl ⟨by rfl, ?_⟩) hHeld ?_
          rotate_left
          · intro W hSw
            obtain ⟨⟨hs1, hs2, hs3, hs4, hs5⟩, ⟨hs6, hs7, hs8, hs9, hs10⟩, _⟩ := hSw
            go_simp
            try with_reducible rfl
          try simp only [Act.put, List.setIfInBounds_toArray, List.set_cons_zero, List.set_cons_succ, List.getElem_toArray, List.getElem_cons_succ, List.getElem_cons_zero]
          refine wpAnyH_take (i := 9) (v := ?_) rfl (by kernel_rfl) (by kernel_rfl) (by kernel_rfl) (fun _ _ _ h => h) (Or.inl ⟨by rfl, ?_⟩) hHeld ?_
          rotate_left
          · intro W hSw
            obtain ⟨⟨hs1, hs2, hs3, hs4, hs5⟩, ⟨hs6, hs7, hs8, hs9, hs10⟩, _⟩ := hSw
            go_simp
            try with_reducible rfl
          try simp only [Act.put, List.setIfInBounds_toArray, List.set_cons_zero, List.set_cons_succ, List.getElem_toArray, List.getElem_cons_succ, List.getElem_cons_zero]
          refine wpAnyH_take (i := 10) (v := ?_) rfl (by kernel_rfl) (by kernel_rfl) (by kernel_rfl) (fun _ _ _ h => h) (Or.inl ⟨by rfl, ?_⟩) hHeld ?_
          rotate_left
          · intro W hSw
            obtain ⟨⟨hs1, hs2, hs3, hs4, hs5⟩, ⟨hs6, hs7, hs8, hs9, hs10⟩, _⟩ := hSw
            go_simp
            try with_reducible rfl
          try simp only [Act.put, List.setIfInBounds_toArray, List.set_cons_zero, List.set_cons_succ, List.getElem_toArray, List.getElem_cons_succ, List.getElem_cons_zero]
          refine wpAnyH_take (i := 11) (v := ?_) rfl (by kernel_rfl) (by kernel_rfl) (by kernel_rfl) (fun _ _ _ h => h) (Or.inl ⟨by rfl, ?_⟩) hHeld ?_
          rotate_left
          · intro W hSw
            obtain ⟨⟨hs1, hs2, hs3, hs4, hs5⟩, ⟨hs6, hs7, hs8, hs9, hs10⟩, _⟩ := hSw
            go_simp
            try with_reducible rfl
          try simp only [Act.put, List.setIfInBounds_toArray, List.set_cons_zero, List.set_cons_succ, List.getElem_toArray, List.getElem_cons_succ, List.getElem_cons_zero]
          refine wpAnyH_take (i := 12) (v := ?_) rfl (by kernel_rfl) (by kernel_rfl) (by kernel_rfl) (fun _ _ _ h => h) (Or.inl ⟨by rfl, ?_⟩) hHeld ?_
          rotate_left
          · intro W hSw
            obtain ⟨⟨hs1, hs2, hs3, hs4, hs5⟩, ⟨hs6, hs7, hs8, hs9, hs10⟩, _⟩ := hSw
            go_simp
            try with_reducible rfl
          try simp only [Act.put, List.setIfInBounds_toArray, List.set_cons_zero, List.set_cons_succ, List.getElem_toArray, List.getElem_cons_succ, List.getElem_cons_zero]
          refine wpAnyH_take (i := 13) (v := ?_) rfl (by kernel_rfl) (by kernel_rfl) (by kernel_rfl) (fun _ _ _ h => h) (Or.inl ⟨by rfl, ?_⟩) hHeld ?_
          rotate_left
          · intro W hSw
            obtain ⟨⟨hs1, hs2, hs3, hs4, hs5⟩, ⟨hs6, hs7, hs8, hs9, hs10⟩, _⟩ := hSw
            go_simp
            try with_reducible rfl
          try simp only [Act.put, List.setIfInBounds_toArray, List.set_cons_zero, List.set_cons_succ, List.getElem_toArray, List.getElem_cons_succ, List.getElem_cons_zero]
          refine wpAnyH_done (by kernel_rfl) ?_ _
          have HO2 := Lib.hid (show (World.drew W1).ownsRow V.heap.size 42 5 v1 k (flat (l.take k)) from HO1.out)
          have HB12 := Lib.hid (show Below V.heap.size V (World.drew W1) from HB1.out.drew)
          have LV1 := Lib.hid (show Lies (World.drew W1) b (some ad) l from L1a)
          have RV1 := Lib.hid (show RowRow (World.drew W1) b 42 x from hR)
          have hst : Three (World.drew W1) (ad.add (k * 5)) y b x (World.drew W1) := ⟨hHeld.1, hHeld.2.1, Below.refl _ _⟩
          generalize World.drew W1 = V1 at HO2 HB12 LV1 RV1 hHeld hst ⊢
          clear hHeld
          clear hst
          have L1 := LV1
          have hs2 : V.heap.size ≤ V1.heap.size := HB12.out.size
          obtain ⟨r0, r1, r2, r3, r4⟩ := RV1.out.cells
          go_wp2_with (first | (at_builtin; refine wpList_append_rows rfl rfl rfl [x] rfl rfl rfl (own_alloc HO2.out x.obj) (one_lies _ x) (by simp; omega) (by simp; omega) ?_; intro v2 W2 ho2 hg2; have B2 := Lib.hid (((Below.refl _ _).alloc hs2 x.obj).grown hg2 (by simp; omega) (fun j e => by have := ownBlock_base HO2.out j e; omega)); have L2 := Lib.hid (L1.out.below B2.out (by omega)); have O2 := Lib.hid ho2; clear ho2 hg2) | (at_builtin; refine wpList_append_rows (B := b) rfl rfl rfl (l.drop k) rfl rfl List.length_drop O2.out (by first | exact lies_drop_nil (by omega) | exact lies_drop_add k L2.out | exact lies_drop_if k L2.out hcap) (by simp; omega) (by have := B2.out.size; omega) ?_; intro v3 W3 ho3 hg3; have O3 := Lib.hid ho3; have B3 := Lib.hid (B2.out.grown hg3 (by have := B2.out.size; omega) (fun j e => by have := ownBlock_base O2.out j e; omega)); clear ho3 hg3))
          all_goals
            go_ret
            subst hbb
            refine ⟨_, rfl, ?_, B1.out.trans ((HBV.out.mono (Nat.le_succ _)).trans ((HB12.out.mono (by omega)).trans (B3.out.mono (by omega))))⟩
            rw [show putW l x = l.take k ++ x :: l.drop k from (put_at x hk HJ.out (fun hj => by rw [HY.out, show kl y.k x.k = false from HL.out]; exact Bool.false_ne_true)).trans (by rw [dif_pos hlt, if_neg (by rw [HY.out]; exact HE.out)])]
            have := own_less O3.out (show w.heap.size ≤ V.heap.size by have := hVb; omega)
            simpa [Nat.min_eq_left hk, Nat.add_assoc, Nat.add_comm, Nat.add_left_comm] using this
      · have HL := Lib.hid hkl2
        go_wp2_with fail
        refine wp_region_held_drew (S := (fun U => At U (ad.add (k * 5)) y ∧ Box5 U b x ∧ Below wr.heap.size wr U)) (by kernel_rfl) ?_ (fun hHeld => ?_)
        · exact hst.drew
        refine wpAnyH_take (i := 0) (v := ?_) rfl (by kernel_rfl) (by kernel_rfl) (by kernel_rfl) (fun _ _ _ h => h) (Or.inl ⟨by rfl, ?_⟩) hHeld ?_
        rotate_left
        · intro W hSw
          obtain ⟨⟨hs1, hs2, hs3, hs4, hs5⟩, ⟨hs6, hs7, hs8, hs9, hs10⟩, _⟩ := hSw
          go_simp
          try with_reducible rfl
        try simp only [Act.put, List.setIfInBounds_toArray, List.set_cons_zero, List.set_cons_succ, List.getElem_toArray, List.getElem_cons_zero]
        refine wpAnyH_take (i := 1) (v := ?_) rfl (by kernel_rfl) (by kernel_rfl) (by kernel_rfl) (fun _ _ _ h => h) (Or.inl ⟨by rfl, ?_⟩) hHeld ?_
        rotate_left
        · intro W hSw
          obtain ⟨⟨hs1, hs2, hs3, hs4, hs5⟩, ⟨hs6, hs7, hs8, hs9, hs10⟩, _⟩ := hSw
          go_simp
          try with_reducible rfl
        try simp only [Act.put, List.setIfInBounds_toArray, List.set_cons_zero, List.set_cons_succ, List.getElem_toArray, List.getElem_cons_succ, List.getElem_cons_zero]
        refine wpAnyH_take (i := 2) (v := ?_) rfl (by kernel_rfl) (by kernel_rfl) (by kernel_rfl) (fun _ _ _ h => h) (Or.inl ⟨by rfl, ?_⟩) hHeld ?_
        rotate_left
        · intro W hSw
          obtain ⟨⟨hs1, hs2, hs3, hs4, hs5⟩, ⟨hs6, hs7, hs8, hs9, hs10⟩, _⟩ := hSw
          go_simp
          try with_reducible rfl
        try simp only [Act.put, List.setIfInBounds_toArray, List.set_cons_zero, List.set_cons_succ, List.getElem_toArray, List.getElem_cons_succ, List.getElem_cons_zero]
        refine wpAnyH_take (i := 3) (v := ?_) rfl (by kernel_rfl) (by kernel_rfl) (by kernel_rfl) (fun _ _ _ h => h) (Or.inl ⟨by rfl, ?_⟩) hHeld ?_
        rotate_left
        · intro W hSw
          obtain ⟨⟨hs1, hs2, hs3, hs4, hs5⟩, ⟨hs6, hs7, hs8, hs9, hs10⟩, _⟩ := hSw
          go_simp
          try with_reducible rfl
        try simp only [Act.put, List.setIfInBounds_toArray, List.set_cons_zero, List.set_cons_succ, List.getElem_toArray, List.getElem_cons_succ, List.getElem_cons_zero]
        refine wpAnyH_take (i := 4) (v := ?_) rfl (by kernel_rfl) (by kernel_rfl) (by kernel_rfl) (fun _ _ _ h => h) (Or.inl ⟨by rfl, ?_⟩) hHeld ?_
        rotate_left
        · intro W hSw
          obtain ⟨⟨hs1, hs2, hs3, hs4, hs5⟩, ⟨hs6, hs7, hs8, hs9, hs10⟩, _⟩ := hSw
          go_simp
          try with_reducible rfl
        try simp only [Act.put, List.setIfInBounds_toArray, List.set_cons_zero, List.set_cons_succ, List.getElem_toArray, List.getElem_cons_succ, List.getElem_cons_zero]
        refine wpAnyH_take (i := 5) (v := ?_) rfl (by kernel_rfl) (by kernel_rfl) (by kernel_rfl) (fun _ _ _ h => h) (Or.inl ⟨by rfl, ?_⟩) hHeld ?_
        rotate_left
        · intro W hSw
          obtain ⟨⟨hs1, hs2, hs3, hs4, hs5⟩, ⟨hs6, hs7, hs8, hs9, hs10⟩, _⟩ := hSw
          go_simp
          try with_reducible rfl
        try simp only [Act.put, List.setIfInBounds_toArray, List.set_cons_zero, List.set_cons_succ, List.getElem_toArray, List.getElem_cons_succ, List.getElem_cons_zero]
        refine wpAnyH_take (i := 6) (v := ?_) rfl (by kernel_rfl) (by kernel_rfl) (by kernel_rfl) (fun _ _ _ h => h) (Or.inl ⟨by rfl, ?_⟩) hHeld ?_
        rotate_left
        · intro W hSw
          obtain ⟨⟨hs1, hs2, hs3, hs4, hs5⟩, ⟨hs6, hs7, hs8, hs9, hs10⟩, _⟩ := hSw
          go_simp
          try with_reducible rfl
        try simp only [Act.put, List.setIfInBounds_toArray, List.set_cons_zero, List.set_cons_succ, List.getElem_toArray, List.getElem_cons_succ, List.getElem_cons_zero]
        refine wpAnyH_take (i := 7) (v := ?_) rfl (by kernel_rfl) (by kernel_rfl) (by kernel_rfl) (fun _ _ _ h => h) (Or.inl ⟨by rfl, ?_⟩) hHeld ?_
        rotate_left
        · intro W hSw
          obtain ⟨⟨hs1, hs2, hs3, hs4, hs5⟩, ⟨hs6, hs7, hs8, hs9, hs10⟩, _⟩ := hSw
          go_simp
          try with_reducible rfl
        try simp only [Act.put, List.setIfInBounds_toArray, List.set_cons_zero, List.set_cons_succ, List.getElem_toArray, List.getElem_cons_succ, List.getElem_cons_zero]
        refine wpAnyH_take (i := 8) (v := ?_) rfl (by kernel_rfl) (by kernel_rfl) (by kernel_rfl) (fun _ _ _ h => h) (Or.inl ⟨by rfl, ?_⟩) hHeld ?_
        rotate_left
        · intro W hSw
          obtain ⟨⟨hs1, hs2, hs3, hs4, hs5⟩, ⟨hs6, hs7, hs8, hs9, hs10⟩, _⟩ := hSw
          go_simp
          try with_reducible rfl
        try simp only [Act.put, List.setIfInBounds_toArray, List.set_cons_zero, List.set_cons_succ, List.getElem_toArray, List.getElem_cons_succ, List.getElem_cons_zero]
        refine wpAnyH_take (i := 9) (v := ?_) rfl (by kernel_rfl) (by kernel_rfl) (by kernel_rfl) (fun _ _ _ h => h) (Or.inl ⟨by rfl, ?_⟩) hHeld ?_
        rotate_left
        · intro W hSw
          obtain ⟨⟨hs1, hs2, hs3, hs4, hs5⟩, ⟨hs6, hs7, hs8, hs9, hs10⟩, _⟩ := hSw
          go_simp
          try with_reducible rfl
        try simp only [Act.put, List.setIfInBounds_toArray, List.set_cons_zero, List.set_cons_succ, List.getElem_toArray, List.getElem_cons_succ, List.getElem_cons_zero]
        refine wpAnyH_take (i := 10) (v := ?_) rfl (by kernel_rfl) (by kernel_rfl) (by kernel_rfl) (fun _ _ _ h => h) (Or.inl ⟨by rfl, ?_⟩) hHeld ?_
        rotate_left
        · intro W hSw
          obtain ⟨⟨hs1, hs2, hs3, hs4, hs5⟩, ⟨hs6, hs7, hs8, hs9, hs10⟩, _⟩ := hSw
          go_simp
          try with_reducible rfl
        try simp only [Act.put, List.setIfInBounds_toArray, List.set_cons_zero, List.set_cons_succ, List.getElem_toArray, List.getElem_cons_succ, List.getElem_cons_zero]
        refine wpAnyH_take (i := 11) (v := ?_) rfl (by kernel_rfl) (by kernel_rfl) (by kernel_rfl) (fun _ _ _ h => h) (Or.inl ⟨by rfl, ?_⟩) hHeld ?_
        rotate_left
        · intro W hSw
          obtain ⟨⟨hs1, hs2, hs3, hs4, hs5⟩, ⟨hs6, hs7, hs8, hs9, hs10⟩, _⟩ := hSw
          go_simp
          try with_reducible rfl
        try simp only [Act.put, List.setIfInBounds_toArray, List.set_cons_zero, List.set_cons_succ, List.getElem_toArray, List.getElem_cons_succ, List.getElem_cons_zero]
        refine wpAnyH_take (i := 12) (v := ?_) rfl (by kernel_rfl) (by kernel_rfl) (by kernel_rfl) (fun _ _ _ h => h) (Or.inl ⟨by rfl, ?_⟩) hHeld ?_
        rotate_left
        · intro W hSw
          obtain ⟨⟨hs1, hs2, hs3, hs4, hs5⟩, ⟨hs6, hs7, hs8, hs9, hs10⟩, _⟩ := hSw
          go_simp
          try with_reducible rfl
        try simp only [Act.put, List.setIfInBounds_toArray, List.set_cons_zero, List.set_cons_succ, List.getElem_toArray, List.getElem_cons_succ, List.getElem_cons_zero]
        refine wpAnyH_take (i := 13) (v := ?_) rfl (by kernel_rfl) (by kernel_rfl) (by kernel_rfl) (fun _ _ _ h => h) (Or.inl ⟨by rfl, ?_⟩) hHeld ?_
        rotate_left
        · intro W hSw
          obtain ⟨⟨hs1, hs2, hs3, hs4, hs5⟩, ⟨hs6, hs7, hs8, hs9, hs10⟩, _⟩ := hSw
          go_simp
          try with_reducible rfl
        try simp only [Act.put, List.setIfInBounds_toArray, List.set_cons_zero, List.set_cons_succ, List.getElem_toArray, List.getElem_cons_succ, List.getElem_cons_zero]
        refine wpAnyH_done (by kernel_rfl) ?_ _
        clear hst hHeld
        go_wp2_with fail
        go_roundw
        case rel => exact ⟨k + 1, by omega, by go_num, Lib.hid ⟨fun j hj hjk => by
          by_cases e : j = k
          · subst e; rw [HY.out]; exact HL.out
          · exact HJ.out j hj (by omega), HR.out.2.drew⟩⟩
        case measure => simp [intOf]; omega
    · have hlti : ¬ (k : Int) < l.length := by omega
      go_wp2_with fail
      refine wp_region_held_drew (S := (fun U => Below wr.heap.size wr U)) (by kernel_rfl) ?_ (fun hHeld => ?_)
      · exact (Below.refl _ _).drew
      refine wpAnyH_take (i := 0) (v := ?_) rfl (by kernel_rfl) (by kernel_rfl) (by kernel_rfl) (fun _ _ _ h => h) (Or.inl ⟨by rfl, ?_⟩) hHeld ?_
      rotate_left
      · intro W hSw
        have hq := hSw
        go_simp
        try with_reducible rfl
      try simp only [Act.put, List.setIfInBounds_toArray, List.set_cons_zero, List.set_cons_succ, List.getElem_toArray, List.getElem_cons_zero]
      refine wpAnyH_take (i := 1) (v := ?_) rfl (by kernel_rfl) (by kernel_rfl) (by kernel_rfl) (fun _ _ _ h => h) (Or.inl ⟨by rfl, ?_⟩) hHeld ?_
      rotate_left
      · intro W hSw
        have hq := hSw
        go_simp
        try with_reducible rfl
      try simp only [Act.put, List.setIfInBounds_toArray, List.set_cons_zero, List.set_cons_succ, List.getElem_toArray, List.getElem_cons_succ, List.getElem_cons_zero]
      refine wpAnyH_take (i := 2) (v := ?_) rfl (by kernel_rfl) (by kernel_rfl) (by kernel_rfl) (fun _ _ _ h => h) (Or.inl ⟨by rfl, ?_⟩) hHeld ?_
      rotate_left
      · intro W hSw
        have hq := hSw
        go_simp
        try with_reducible rfl
      try simp only [Act.put, List.setIfInBounds_toArray, List.set_cons_zero, List.set_cons_succ, List.getElem_toArray, List.getElem_cons_succ, List.getElem_cons_zero]
      refine wpAnyH_take (i := 3) (v := ?_) rfl (by kernel_rfl) (by kernel_rfl) (by kernel_rfl) (fun _ _ _ h => h) (Or.inl ⟨by rfl, ?_⟩) hHeld ?_
      rotate_left
      · intro W hSw
        have hq := hSw
        go_simp
        try with_reducible rfl
      try simp only [Act.put, List.setIfInBounds_toArray, List.set_cons_zero, List.set_cons_succ, List.getElem_toArray, List.getElem_cons_succ, List.getElem_cons_zero]
      refine wpAnyH_take (i := 4) (v := ?_) rfl (by kernel_rfl) (by kernel_rfl) (by kernel_rfl) (fun _ _ _ h => h) (Or.inl ⟨by rfl, ?_⟩) hHeld ?_
      rotate_left
      · intro W hSw
        have hq := hSw
        go_simp
        try with_reducible rfl
      try simp only [Act.put, List.setIfInBounds_toArray, List.set_cons_zero, List.set_cons_succ, List.getElem_toArray, List.getElem_cons_succ, List.getElem_cons_zero]
      refine wpAnyH_take (i := 5) (v := undef) rfl (by kernel_rfl) (by kernel_rfl) (by kernel_rfl) (fun _ _ _ h => h) (Or.inr ⟨by rfl, rfl⟩) hHeld ?_
      try simp only [Act.put, List.setIfInBounds_toArray, List.set_cons_zero, List.set_cons_succ, List.getElem_toArray, List.getElem_cons_succ, List.getElem_cons_zero]
      refine wpAnyH_take (i := 6) (v := undef) rfl (by kernel_rfl) (by kernel_rfl) (by kernel_rfl) (fun _ _ _ h => h) (Or.inr ⟨by rfl, rfl⟩) hHeld ?_
      try simp only [Act.put, List.setIfInBounds_toArray, List.set_cons_zero, List.set_cons_succ, List.getElem_toArray, List.getElem_cons_succ, List.getElem_cons_zero]
      refine wpAnyH_take (i := 7) (v := undef) rfl (by kernel_rfl) (by kernel_rfl) (by kernel_rfl) (fun _ _ _ h => h) (Or.inr ⟨by rfl, rfl⟩) hHeld ?_
      try simp only [Act.put, List.setIfInBounds_toArray, List.set_cons_zero, List.set_cons_succ, List.getElem_toArray, List.getElem_cons_succ, List.getElem_cons_zero]
      refine wpAnyH_take (i := 8) (v := undef) rfl (by kernel_rfl) (by kernel_rfl) (by kernel_rfl) (fun _ _ _ h => h) (Or.inr ⟨by rfl, rfl⟩) hHeld ?_
      try simp only [Act.put, List.setIfInBounds_toArray, List.set_cons_zero, List.set_cons_succ, List.getElem_toArray, List.getElem_cons_succ, List.getElem_cons_zero]
      refine wpAnyH_take (i := 9) (v := undef) rfl (by kernel_rfl) (by kernel_rfl) (by kernel_rfl) (fun _ _ _ h => h) (Or.inr ⟨by rfl, rfl⟩) hHeld ?_
      try simp only [Act.put, List.setIfInBounds_toArray, List.set_cons_zero, List.set_cons_succ, List.getElem_toArray, List.getElem_cons_succ, List.getElem_cons_zero]
      refine wpAnyH_take (i := 10) (v := undef) rfl (by kernel_rfl) (by kernel_rfl) (by kernel_rfl) (fun _ _ _ h => h) (Or.inr ⟨by rfl, rfl⟩) hHeld ?_
      try simp only [Act.put, List.setIfInBounds_toArray, List.set_cons_zero, List.set_cons_succ, List.getElem_toArray, List.getElem_cons_succ, List.getElem_cons_zero]
      refine wpAnyH_take (i := 11) (v := undef) rfl (by kernel_rfl) (by kernel_rfl) (by kernel_rfl) (fun _ _ _ h => h) (Or.inr ⟨by rfl, rfl⟩) hHeld ?_
      try simp only [Act.put, List.setIfInBounds_toArray, List.set_cons_zero, List.set_cons_succ, List.getElem_toArray, List.getElem_cons_succ, List.getElem_cons_zero]
      refine wpAnyH_take (i := 12) (v := undef) rfl (by kernel_rfl) (by kernel_rfl) (by kernel_rfl) (fun _ _ _ h => h) (Or.inr ⟨by rfl, rfl⟩) hHeld ?_
      try simp only [Act.put, List.setIfInBounds_toArray, List.set_cons_zero, List.set_cons_succ, List.getElem_toArray, List.getElem_cons_succ, List.getElem_cons_zero]
      refine wpAnyH_take (i := 13) (v := ?_) rfl (by kernel_rfl) (by kernel_rfl) (by kernel_rfl) (fun _ _ _ h => h) (Or.inl ⟨by rfl, ?_⟩) hHeld ?_
      rotate_left
      · intro W hSw
        have hq := hSw
        go_simp
        try with_reducible rfl
      try simp only [Act.put, List.setIfInBounds_toArray, List.set_cons_zero, List.set_cons_succ, List.getElem_toArray, List.getElem_cons_succ, List.getElem_cons_zero]
      refine wpAnyH_done (by kernel_rfl) ?_ _
      have LV := Lib.hid (show Lies (World.drew wr) b (some ad) l from (H1.out.below HR.out.2.drew (show b ≤ b + 1 by omega)))
      have RV := Lib.hid (show RowRow (World.drew wr) b 42 x from R1.out.step HR.out.2.drew (show b < b + 1 by omega))
      have HBV := Lib.hid (show Below (b + 1) W (World.drew wr) from HR.out.2.drew)
      generalize World.drew wr = V at LV RV HBV hHeld ⊢
      clear hHeld
      have hVb : b + 1 ≤ V.heap.size := by have := HBV.out.size; have := HSZ.out; omega
      have HT := Lib.hid ((LV.out.alloc (by omega) (Obj.cells #[] 42)).take k)
      go_upto_region 5 with (at_builtin; refine wpList_append_rows rfl rfl rfl (l.take k) rfl rfl hkl (own_none V) HT.out (by rw [hkl]; omega) (by simp) ?_; intro v1 W1 ho1 hg1; rw [hkl, Nat.zero_add, List.nil_append] at ho1; have BW1 : Below V.heap.size V W1 := ((Below.refl _ V).alloc (Nat.le_refl _) _).grown hg1 (by simp) (fun j e => by cases e; exact Nat.le_refl _); have HB1 := Lib.hid BW1; have HO1 := Lib.hid ho1; clear ho1 hg1 BW1)
      have L1a := LV.out.below HB1.out (show b ≤ V.heap.size by omega)
      have hR := RV.out.on HB1.out
      refine wp_region_held_drew (S := (fun U => Below W1.heap.size W1 U)) (by kernel_rfl) ?_ (fun hHeld => ?_)
      · exact (Below.refl _ _).drew
      refine wpAnyH_take (i := 0) (v := ?_) rfl (by kernel_rfl) (by kernel_rfl) (by kernel_rfl) (fun _ _ _ h => h) (Or.inl ⟨by rfl, ?_⟩) hHeld ?_
      rotate_left
      · intro W hSw
        have hq := hSw
        go_simp
        try with_reducible rfl
      try simp only [Act.put, List.setIfInBounds_toArray, List.set_cons_zero, List.set_cons_succ, List.getElem_toArray, List.getElem_cons_zero]
      refine wpAnyH_take (i := 1) (v := ?_) rfl (by kernel_rfl) (by kernel_rfl) (by kernel_rfl) (fun _ _ _ h => h) (Or.inl ⟨by rfl, ?_⟩) hHeld ?_
      rotate_left
      · intro W hSw
        have hq := hSw
        go_simp
        try with_reducible rfl
      try simp only [Act.put, List.setIfInBounds_toArray, List.set_cons_zero, List.set_cons_succ, List.getElem_toArray, List.getElem_cons_succ, List.getElem_cons_zero]
      refine wpAnyH_take (i := 2) (v := ?_) rfl (by kernel_rfl) (by kernel_rfl) (by kernel_rfl) (fun _ _ _ h => h) (Or.inl ⟨by rfl, ?_⟩) hHeld ?_
      rotate_left
      · intro W hSw
        have hq := hSw
        go_simp
        try with_reducible rfl
      try simp only [Act.put, List.setIfInBounds_toArray, List.set_cons_zero, List.set_cons_succ, List.getElem_toArray, List.getElem_cons_succ, List.getElem_cons_zero]
      refine wpAnyH_take (i := 3) (v := ?_) rfl (by kernel_rfl) (by kernel_rfl) (by kernel_rfl) (fun _ _ _ h => h) (Or.inl ⟨by rfl, ?_⟩) hHeld ?_
      rotate_left
      · intro W hSw
        have hq := hSw
        go_simp
        try with_reducible rfl
      try simp only [Act.put, List.setIfInBounds_toArray, List.set_cons_zero, List.set_cons_succ, List.getElem_toArray, List.getElem_cons_succ, List.getElem_cons_zero]
      refine wpAnyH_take (i := 4) (v := ?_) rfl (by kernel_rfl) (by kernel_rfl) (by kernel_rfl) (fun _ _ _ h => h) (Or.inl ⟨by rfl, ?_⟩) hHeld ?_
      rotate_left
      · intro W hSw
        have hq := hSw
        go_simp
        try with_reducible rfl
      try simp only [Act.put, List.setIfInBounds_toArray, List.set_cons_zero, List.set_cons_succ, List.getElem_toArray, List.getElem_cons_succ, List.getElem_cons_zero]
      refine wpAnyH_take (i := 5) (v := undef) rfl (by kernel_rfl) (by kernel_rfl) (by kernel_rfl) (fun _ _ _ h => h) (Or.inr ⟨by rfl, rfl⟩) hHeld ?_
      try simp only [Act.put, List.setIfInBounds_toArray, List.set_cons_zero, List.set_cons_succ, List.getElem_toArray, List.getElem_cons_succ, List.getElem_cons_zero]
      refine wpAnyH_take (i := 6) (v := undef) rfl (by kernel_rfl) (by kernel_rfl) (by kernel_rfl) (fun _ _ _ h => h) (Or.inr ⟨by rfl, rfl⟩) hHeld ?_
      try simp only [Act.put, List.setIfInBounds_toArray, List.set_cons_zero, List.set_cons_succ, List.getElem_toArray, List.getElem_cons_succ, List.getElem_cons_zero]
      refine wpAnyH_take (i := 7) (v := undef) rfl (by kernel_rfl) (by kernel_rfl) (by kernel_rfl) (fun _ _ _ h => h) (Or.inr ⟨by rfl, rfl⟩) hHeld ?_
      try simp only [Act.put, List.setIfInBounds_toArray, List.set_cons_zero, List.set_cons_succ, List.getElem_toArray, List.getElem_cons_succ, List.getElem_cons_zero]
      refine wpAnyH_take (i := 8) (v := undef) rfl (by kernel_rfl) (by kernel_rfl) (by kernel_rfl) (fun _ _ _ h => h) (Or.inr ⟨by rfl, rfl⟩) hHeld ?_
      try simp only [Act.put, List.setIfInBounds_toArray, List.set_cons_zero, List.set_cons_succ, List.getElem_toArray, List.getElem_cons_succ, List.getElem_cons_zero]
      refine wpAnyH_take (i := 9) (v := undef) rfl (by kernel_rfl) (by kernel_rfl) (by kernel_rfl) (fun _ _ _ h => h) (Or.inr ⟨by rfl, rfl⟩) hHeld ?_
      try simp only [Act.put, List.setIfInBounds_toArray, List.set_cons_zero, List.set_cons_succ, List.getElem_toArray, List.getElem_cons_succ, List.getElem_cons_zero]
      refine wpAnyH_take (i := 10) (v := undef) rfl (by kernel_rfl) (by kernel_rfl) (by kernel_rfl) (fun _ _ _ h => h) (Or.inr ⟨by rfl, rfl⟩) hHeld ?_
      try simp only [Act.put, List.setIfInBounds_toArray, List.set_cons_zero, List.set_cons_succ, List.getElem_toArray, List.getElem_cons_succ, List.getElem_cons_zero]
      refine wpAnyH_take (i := 11) (v := undef) rfl (by kernel_rfl) (by kernel_rfl) (by kernel_rfl) (fun _ _ _ h => h) (Or.inr ⟨by rfl, rfl⟩) hHeld ?_
      try simp only [Act.put, List.setIfInBounds_toArray, List.set_cons_zero, List.set_cons_succ, List.getElem_toArray, List.getElem_cons_succ, List.getElem_cons_zero]
      refine wpAnyH_take (i := 12) (v := undef) rfl (by kernel_rfl) (by kernel_rfl) (by kernel_rfl) (fun _ _ _ h => h) (Or.inr ⟨by rfl, rfl⟩) hHeld ?_
      try simp only [Act.put, List.setIfInBounds_toArray, List.set_cons_zero, List.set_cons_succ, List.getElem_toArray, List.getElem_cons_succ, List.getElem_cons_zero]
      refine wpAnyH_take (i := 13) (v := ?_) rfl (by kernel_rfl) (by kernel_rfl) (by kernel_rfl) (fun _ _ _ h => h) (Or.inl ⟨by rfl, ?_⟩) hHeld ?_
      rotate_left
      · intro W hSw
        have hq := hSw
        go_simp
        try with_reducible rfl
      try simp only [Act.put, List.setIfInBounds_toArray, List.set_cons_zero, List.set_cons_succ, List.getElem_toArray, List.getElem_cons_succ, List.getElem_cons_zero]
      refine wpAnyH_done (by kernel_rfl) ?_ _
      have HO2 := Lib.hid (show (World.drew W1).ownsRow V.heap.size 42 5 v1 k (flat (l.take k)) from HO1.out)
      have HB12 := Lib.hid (show Below V.heap.size V (World.drew W1) from HB1.out.drew)
      have LV1 := Lib.hid (show Lies (World.drew W1) b (some ad) l from L1a)
      have RV1 := Lib.hid (show RowRow (World.drew W1) b 42 x from hR)
      generalize World.drew W1 = V1 at HO2 HB12 LV1 RV1 hHeld ⊢
      clear hHeld
      have L1 := LV1
      have hs2 : V.heap.size ≤ V1.heap.size := HB12.out.size
      obtain ⟨r0, r1, r2, r3, r4⟩ := RV1.out.cells
      go_wp2_with (first | (at_builtin; refine wpList_append_rows rfl rfl rfl [x] rfl rfl rfl (own_alloc HO2.out x.obj) (one_lies _ x) (by simp; omega) (by simp; omega) ?_; intro v2 W2 ho2 hg2; have B2 := Lib.hid (((Below.refl _ _).alloc hs2 x.obj).grown hg2 (by simp; omega) (fun j e => by have := ownBlock_base HO2.out j e; omega)); have L2 := Lib.hid (L1.out.below B2.out (by omega)); have O2 := Lib.hid ho2; clear ho2 hg2) | (at_builtin; refine wpList_append_rows (B := b) rfl rfl rfl (l.drop k) rfl rfl List.length_drop O2.out (by first | exact lies_drop_nil (by omega) | exact lies_drop_add k L2.out | exact lies_drop_if k L2.out hcap) (by simp; omega) (by have := B2.out.size; omega) ?_; intro v3 W3 ho3 hg3; have O3 := Lib.hid ho3; have B3 := Lib.hid (B2.out.grown hg3 (by have := B2.out.size; omega) (fun j e => by have := ownBlock_base O2.out j e; omega)); clear ho3 hg3))
      all_goals
        go_ret
        subst hbb
        refine ⟨_, rfl, ?_, B1.out.trans ((HBV.out.mono (Nat.le_succ _)).trans ((HB12.out.mono (by omega)).trans (B3.out.mono (by omega))))⟩
        rw [show putW l x = l.take k ++ x :: l.drop k from (put_at x hk HJ.out (fun hj => absurd hj hlt)).trans (by rw [dif_neg hlt, List.drop_eq_nil_of_le (by omega)])]
        have := own_less O3.out (show w.heap.size ≤ V.heap.size by have := hVb; omega)
        simpa [Nat.min_eq_left hk, Nat.add_assoc, Nat.add_comm, Nat.add_left_comm] using this
end Go.Proofs.YtoagdpbbojlgfaaGreat.Sto
