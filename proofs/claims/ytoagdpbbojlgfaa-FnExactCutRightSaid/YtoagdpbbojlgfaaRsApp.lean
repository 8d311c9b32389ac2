/-
  Appending to a slice of a call's own, of records.
-/
import Derived.Test.YtoagdpbbojlgfaaRsTo
import Derived.Laws.AppendOwn
import Derived.Maps.AppendAt
namespace Go.Proofs.Ytoagdpbbojlgfaa.Rs
open Go.ChangeShapes Go.WideShapes Go.ChangeAt Go.RowKit
open Net (Cl Bk HeldV addr0)
open Rec (R P)
set_option linter.unusedVariables false
set_option maxRecDepth 100000
set_option linter.unusedSimpArgs false

/-- What append asks of a slice's type. -/
def AppFit (ts te size : Nat) : Prop := Try.prog.underlying ts = some (.slice te) ∧ 0 < size ∧ ∃ i z, Try.prog.info? te = some i ∧ i.zero = some z ∧ i.size = size ∧ i.bytes ≤ 128 ∧ z.cells.size = size
theorem fit_recs : AppFit 27 47 8 := by
  obtain ⟨i0, hi0, hz0, hz1, hz2⟩ := info_parts rec_info
  exact ⟨Try.underlying27, by omega, i0, _, hi0, hz0, hz1, by rw [hz2]; omega, rfl⟩

section
variable {w w' : World} {te size base n : Nat} {v : Value} {xs : List Value}
theorem o_base (h : w.ownsRow base te size v n xs) : ∀ k, v.ownBlock = some k → base ≤ k := by
  rcases h.2 with ⟨rfl, _⟩ | ⟨g, cap, cur, rfl, hb, _⟩
  · intro k e; cases e
  · intro k e; cases e; exact hb
theorem o_alloc (h : w.ownsRow base te size v n xs) (o : Obj) : (w.alloc o).ownsRow base te size v n xs := by
  refine ⟨h.1, h.2.imp id ?_⟩
  rintro ⟨g, cap, cur, e, hb, hh, r⟩
  exact ⟨g, cap, cur, e, hb, (heap_alloc_old w o (Array.getElem?_eq_some_iff.1 hh).1).trans hh, r⟩
theorem o_step (h : w.ownsRow base te size v n xs) {N : Nat} (hb : Below N w w') (hN : w.heap.size ≤ N) : w'.ownsRow base te size v n xs := by
  refine ⟨h.1, h.2.imp id ?_⟩
  rintro ⟨g, cap, cur, e, hb', hh, r⟩
  exact ⟨g, cap, cur, e, hb', (hb.block g (by have := (Array.getElem?_eq_some_iff.1 hh).1; omega)).trans hh, r⟩
theorem o_less {base' : Nat} (h : w.ownsRow base te size v n xs) (hb : base' ≤ base) : w.ownsRow base' te size v n xs :=
  ⟨h.1, h.2.imp id fun ⟨g, cap, cur, e, hb', r⟩ => ⟨g, cap, cur, e, by omega, r⟩⟩
theorem o_set (h : w.ownsRow base te size v n xs) {p : Addr} (hp : p.block < base) (u : Value) : (w.setCell p u).ownsRow base te size v n xs := by
  refine ⟨h.1, h.2.imp id ?_⟩
  rintro ⟨g, cap, cur, e, hb', hh, r⟩
  refine ⟨g, cap, cur, e, hb', ?_, r⟩
  rw [← hh]
  exact heap_setCell_other w p g u (by omega)
theorem o_nil (w : World) (base te size : Nat) : w.ownsRow base te size (.slice none 0 0) 0 [] := ⟨by simp, .inl ⟨rfl, rfl⟩⟩
theorem o_none (w : World) (te size : Nat) : (w.alloc (Obj.cells #[] te)).ownsRow w.heap.size te size (.slice (some ⟨w.heap.size, 0, none⟩) 0 0) 0 [] :=
  ⟨by simp, .inr ⟨w.heap.size, 0, #[], rfl, Nat.le_refl _, heap_alloc_new w _, Nat.le_refl _, by simp [maxLen], by simp, by simp⟩⟩
/-- What a slice of one's own is. -/
theorem o_val (h : w.ownsRow base te size v n xs) : ∃ A c, v = .slice A n c ∧ n ≤ c ∧ c ≤ maxLen ∧ Cl w w.heap.size A xs ∧ HeldV w A te xs base w.heap.size := by
  rcases h.2 with ⟨rfl, rfl⟩ | ⟨g, cap, cur, rfl, hb, hh, hnc, hcm, hsz, hx⟩
  · have : xs = [] := List.eq_nil_of_length_eq_zero (by have := h.1; omega)
    subst this
    exact ⟨none, 0, rfl, Nat.le_refl _, by simp [maxLen], Cl.nil _ _ _, .inl rfl⟩
  · have hl := h.1
    have hle : n * size ≤ cap * size := Nat.mul_le_mul_right _ hnc
    have hB : Bk w g te (cap * size) xs := ⟨cur, hh, hsz, by omega, fun j u hu => by
      have hj := (List.getElem?_eq_some_iff.1 hu).1
      rw [← hx, List.getElem?_take, if_pos (by omega)] at hu
      rw [← Array.getElem?_toList]; exact hu⟩
    exact ⟨_, cap, rfl, hnc, hcm, hB.cl hB.lt, .inr ⟨g, _, rfl, hB, hb, hB.lt⟩⟩
theorem o_val_ne (h : w.ownsRow base te size v n xs) (hv : v = .slice none 0 0 → False) : ∃ g c, v = .slice (some ⟨g, 0, none⟩) n c ∧ n ≤ c ∧ c ≤ maxLen ∧ base ≤ g ∧ Bk w g te (c * size) xs := by
  rcases h.2 with ⟨rfl, _⟩ | ⟨g, cap, cur, rfl, hb, hh, hnc, hcm, hsz, hx⟩
  · exact absurd rfl hv
  · have hl := h.1
    have hle : n * size ≤ cap * size := Nat.mul_le_mul_right _ hnc
    exact ⟨g, cap, rfl, hnc, hcm, hb, cur, hh, hsz, by omega, fun j u hu => by
      have hj := (List.getElem?_eq_some_iff.1 hu).1
      rw [← hx, List.getElem?_take, if_pos (by omega)] at hu
      rw [← Array.getElem?_toList]; exact hu⟩
/-- What an append may write is no block of another type. -/
theorem o_types {w1 : World} (h : w.ownsRow base te size v n xs) (hg : w.grownBy w1 v.ownBlock) {t : Nat} (ht : t ≠ te) (g : Nat) (cs : Array Value) (hc : w.heap[g]? = some (Obj.cells cs t (0, 0))) : w1.heap[g]? = w.heap[g]? := by
  refine hg.block g (Array.getElem?_eq_some_iff.1 hc).1 fun e => ?_
  rcases h.2 with ⟨rfl, _⟩ | ⟨g', cap, cur, rfl, hb, hh, _⟩
  · cases e
  · cases e
    rw [hh] at hc
    injection hc with hc
    injection hc with _ h5
    exact ht h5.symm
end

theorem cl_one (w : World) (te : Nat) (cs : Array Value) : Cl (w.alloc (Obj.cells cs te)) (w.heap.size + 1) (some ⟨w.heap.size, 0, none⟩) cs.toList := fun _ => by
  refine ⟨_, rfl, Nat.lt_succ_self _, fun j u hu => ?_⟩
  rw [addr0, (Blk.new w te cs).cell j, ← Array.getElem?_toList]
  exact hu
theorem cl_one_at (W : World) (te : Nat) (cs : Array Value) {g : Nat} (h : W.heap.size = g) : Cl (W.alloc (Obj.cells cs te)) (g + 1) (some ⟨g, 0, none⟩) cs.toList := by subst h; exact cl_one W te cs
theorem rv_one (l : List Q) : ∀ u ∈ rv l, u.oneCell' = true := by
  intro u hu
  simp only [rv, List.mem_flatMap] at hu
  obtain ⟨q, _, hu⟩ := hu
  simp only [qc, List.mem_cons, List.not_mem_nil, or_false] at hu
  rcases hu with rfl | rfl | rfl | rfl | rfl | rfl | rfl | rfl <;> rfl

theorem run_app {ts te size : Nat} (hf : AppFit ts te size) (base : Nat) (v : Value) (n : Nat) (xs : List Value) (w : World) (hown : w.ownsRow base te size v n xs) (B : Nat) (A : Option Addr) (m c : Nat) (ys : List Value) (hr : Cl w B A ys) (hy : ys.length = m * size) (h1 : ∀ u ∈ ys, u.oneCell' = true) (h63 : n + m ≤ 1048576) (hbase : base ≤ w.heap.size) :
    ∃ v' w', (Builtin.append_ #[ts, ts] ts #[v, .slice A m c]).run Try.prog w = .ok v' w' ∧ w'.ownsRow base te size v' (n + m) (xs ++ ys) ∧ w.grownBy w' v.ownBlock ∧
      (v' = .slice none 0 0 → v = .slice none 0 0 ∧ m = 0) := by
  obtain ⟨hu, hs, i0, z, hi0, hz0, hz1, hz2, hz3⟩ := hf
  rcases A with _ | ad
  · have : ys = [] := by
      cases ys with
      | nil => rfl
      | cons y ys => obtain ⟨ad, e, _⟩ := hr (by simp); cases e
    subst this
    have hm : m = 0 := by
      rcases Nat.eq_zero_or_pos m with h | h
      · exact h
      · have := Nat.mul_pos h hs; simp at hy; omega
    subst hm
    refine ⟨v, w, ?_, by simpa using hown, World.grownBy.refl w _, fun e => ⟨e, rfl⟩⟩
    rcases hown.2 with ⟨rfl, rfl⟩ | ⟨g, cap, cur, rfl, _, _, hnc, _⟩
    · simp [Builtin.append_, run_underlying hu, sizeOf, typeInfo, hi0, Builtin.lenOf, Builtin.firstCells]
    · simp [Builtin.append_, run_underlying hu, sizeOf, typeInfo, hi0, Builtin.lenOf, Builtin.firstCells, hnc, storeCells]
  · have hc : ∀ (j : Nat) (u : Value), ys[j]? = some u → w.cell? (ad.add j) = some u := fun j u hu => by
      obtain ⟨ad', e, _, hc⟩ := hr (by have := (List.getElem?_eq_some_iff.1 hu).1; omega)
      cases e
      exact hc j u hu
    obtain ⟨v', w', hrun, h2, h3, h4, h5⟩ := run_append_own_at (P := Try.prog) w base ts ts te i0 z size i0.bytes hu hi0 hz0 hz1 rfl hz3 hs v n xs hown ad m c ys hy hc h1 (by simp only [maxLen]; omega) (by have := Nat.mul_le_mul (show n + m ≤ 1048576 from h63) hz2; omega) hbase
    exact ⟨v', w', hrun, h2, h3, fun e => h4.1 e⟩

theorem wpList_app {ts te size : Nat} (hf : AppFit ts te size) {ops : Array Oper} {rest : List Oper} {o : Oper} {a : Act} {w : World} {Q : Exit → Act → World → Prop} (hgd : o.guard = none) {s x : Operand}
    (ho : o.op = .call { callee := .builtin .append, args := #[s, x], argTypes := #[ts, ts] }) (hty : o.type = ts) {base : Nat} {v : Value} {n : Nat} {xs : List Value} {A : Option Addr} {m c B : Nat} (ys : List Value)
    (hs : a.eval s = v) (hx : a.eval x = .slice A m c) (hown : w.ownsRow base te size v n xs) (hr : Cl w B A ys) (hy : ys.length = m * size) (h1 : ∀ u ∈ ys, u.oneCell' = true) (h63 : n + m ≤ 1048576) (hbase : base ≤ w.heap.size)
    (h : ∀ v' w', w'.ownsRow base te size v' (n + m) (xs ++ ys) → w.grownBy w' v.ownBlock → (v' = .slice none 0 0 → v = .slice none 0 0 ∧ m = 0) → wpList Try.prog ops Q rest (a.put o.dst v') w') : wpList Try.prog ops Q (o :: rest) a w := by
  refine wpList_plain hgd fun K hK => ?_
  obtain ⟨v', w', hrun, h2, h3, h4⟩ := run_app hf base v n xs w hown B A m c ys hr hy h1 h63 hbase
  unfold Oper.wp execOp
  rw [hty]
  simp only [ho, resolve, invoke, builtin, Sem.run_bind, Sem.run_pure, Result.andThen_ok, List.map_toArray, List.map_cons, List.map_nil, hs, hx, hrun]
  exact hK _ _ (h v' w' h2 h3 h4)
theorem wp_app {ts te size : Nat} (hf : AppFit ts te size) {o : Oper} {a : Act} {w : World} {K : Act → World → Prop} {Q : Exit → Act → World → Prop} {s x : Operand}
    (ho : o.op = .call { callee := .builtin .append, args := #[s, x], argTypes := #[ts, ts] }) (hty : o.type = ts) {base : Nat} {v : Value} {n : Nat} {xs : List Value} {A : Option Addr} {m c B : Nat} (ys : List Value)
    (hs : a.eval s = v) (hx : a.eval x = .slice A m c) (hown : w.ownsRow base te size v n xs) (hr : Cl w B A ys) (hy : ys.length = m * size) (h1 : ∀ u ∈ ys, u.oneCell' = true) (h63 : n + m ≤ 1048576) (hbase : base ≤ w.heap.size)
    (h : ∀ v' w', w'.ownsRow base te size v' (n + m) (xs ++ ys) → w.grownBy w' v.ownBlock → (v' = .slice none 0 0 → v = .slice none 0 0 ∧ m = 0) → K (a.put o.dst v') w') : Oper.wp Try.prog o a w K Q := by
  obtain ⟨v', w', hrun, h2, h3, h4⟩ := run_app hf base v n xs w hown B A m c ys hr hy h1 h63 hbase
  unfold Oper.wp execOp
  rw [hty]
  simp only [ho, resolve, invoke, builtin, Sem.run_bind, Sem.run_pure, Result.andThen_ok, List.map_toArray, List.map_cons, List.map_nil, hs, hx, hrun]
  exact h v' w' h2 h3 h4
end Go.Proofs.Ytoagdpbbojlgfaa.Rs
