/-
  Appending strings to a row of one's own.
-/
import Derived.Test.YtoagdpbbojlgfaaGreatStr
import Derived.Test.YtoagdpbbojlgfaaGreatPackDep
import Derived.Laws.AppendOwn
import Derived.Maps.AppendAt
namespace Go.Proofs.YtoagdpbbojlgfaaGreat.Str
open Go.ChangeShapes Go.WideShapes Go.ChangeAt Go.RowKit
open Dep (add_block add_add)
set_option linter.unusedVariables false
set_option maxRecDepth 100000
set_option linter.unusedSimpArgs false

/-- The cells of strings. -/
def flat (l : List ByteArray) : List Value := l.map .string
theorem flat_append (l m : List ByteArray) : flat (l ++ m) = flat l ++ flat m := by simp [flat]
theorem flat_length (l : List ByteArray) : (flat l).length = l.length * 1 := by simp [flat]
theorem flat_at {l : List ByteArray} {q : Nat} (hq : q < l.length) : (flat l)[q]? = some (.string l[q]) := by simp [flat, hq]
theorem flat_one (l : List ByteArray) : ∀ u ∈ flat l, u.oneCell' = true := by
  intro u hu
  simp only [flat, List.mem_map] at hu
  obtain ⟨d, _, rfl⟩ := hu
  rfl
theorem Lies.cell {w : World} {B : Nat} {ad : Addr} {l : List ByteArray} (h : Lies w B (some ad) l) {j : Nat} {u : Value} (hu : (flat l)[j]? = some u) : w.cell? (ad.add j) = some u := by
  have hj : j < l.length := by have := (List.getElem?_eq_some_iff.1 hu).1; rw [flat_length] at this; omega
  obtain ⟨ad', e, _, c0⟩ := h.at_ hj
  cases e
  rw [flat_at hj] at hu
  rw [← hu]; exact c0

/-- What a row of one's own reads as. -/
theorem own_lies {w : World} {base n : Nat} {v : Value} {o : List ByteArray} (h : w.ownsRow base 9 1 v n (flat o)) :
    n = o.length ∧ ∃ A c, v = slV A o c ∧ o.length ≤ c ∧ Lies w w.heap.size A o := by
  have hn : n = o.length := by have := h.1; rw [flat_length] at this; omega
  refine ⟨hn, ?_⟩
  subst hn
  rcases h.2 with ⟨rfl, h0⟩ | ⟨g, cap, cur, rfl, hb, hh, hnc, hcm, hsz, hx⟩
  · refine ⟨none, 0, by unfold slV; rw [h0], by omega, fun hp => absurd hp (by omega)⟩
  · refine ⟨_, cap, rfl, hnc, fun hp => ⟨_, rfl, (Array.getElem?_eq_some_iff.1 hh).1, fun j hj => ?_⟩⟩
    have e : (Addr.add ⟨g, 0, none⟩ j) = ⟨g, j, none⟩ := by
      unfold Addr.add
      split
      · rename_i h; rw [h]
      · simp
    rw [e, cell_of_row w g j cur _ (0, 0) hh, ← Array.getElem?_toList]
    have := flat_at hj
    rw [← hx, List.getElem?_take, if_pos (by omega)] at this
    exact this
/-- An address that is none stands for no strings. -/
theorem own_some {w : World} {base n : Nat} {v : Value} {o : List ByteArray} (h : w.ownsRow base 9 1 v n (flat o)) (ho : 0 < o.length) : ∃ g c, v = .slice (some ⟨g, 0, none⟩) o.length c ∧ o.length ≤ c ∧ (∀ j (hj : j < o.length), w.cell? ⟨g, j, none⟩ = some (.string o[j])) ∧ g < w.heap.size := by
  obtain ⟨hn, A, c, e, hc, hL⟩ := own_lies h
  subst hn
  rcases h.2 with ⟨rfl, h0⟩ | ⟨g, cap, cur, rfl, hb, hh, hnc, hcm, hsz, hx⟩
  · omega
  · refine ⟨g, cap, rfl, hnc, fun j hj => ?_, (Array.getElem?_eq_some_iff.1 hh).1⟩
    rw [cell_of_row w g j cur _ (0, 0) hh, ← Array.getElem?_toList]
    have := flat_at hj
    rw [← hx, List.getElem?_take, if_pos (by omega)] at this
    exact this

theorem run_append_strs (base : Nat) (v : Value) (n : Nat) (o : List ByteArray) (w : World) (hown : w.ownsRow base 9 1 v n (flat o)) (B : Nat) (ad : Addr) (m : List ByteArray) (c : Nat) (hr : Lies w B (some ad) m) (h63 : n + m.length ≤ 4194304) (hbase : base ≤ w.heap.size) :
    ∃ v' w', (Builtin.append_ #[58, 58] 58 #[v, slV (some ad) m c]).run Tryz.prog w = .ok v' w' ∧ w'.ownsRow base 9 1 v' (n + m.length) (flat (o ++ m)) ∧ w.grownBy w' v.ownBlock := by
  obtain ⟨i0, hi0, hz0, hz1, hz2⟩ := info_parts str_info
  rw [flat_append]
  obtain ⟨v', w', hrun, h2, h3, _, h5⟩ := run_append_own_at (P := Tryz.prog) w base 58 58 9 i0 _ 1 16 Tryz.underlying58 hi0 hz0 hz1 hz2 rfl (by omega) v n (flat o) hown ad m.length c (flat m) (flat_length m) (fun j u hu => hr.cell hu) (flat_one m) (by simp only [maxLen]; omega) (by omega) hbase
  exact ⟨v', w', hrun, h2, h3⟩
theorem wp_append_strs {o : Oper} {a : Act} {w : World} {K : Act → World → Prop} {Q : Exit → Act → World → Prop} {s x : Operand}
    (ho : o.op = .call { callee := .builtin .append, args := #[s, x], argTypes := #[58, 58] }) (hty : o.type = 58) {base : Nat} {v : Value} {n : Nat} {l : List ByteArray} {A : Addr} {j c B : Nat} (m : List ByteArray)
    (hs : a.eval s = v) (hx : a.eval x = .slice (some A) j c) (hj : m.length = j) (hown : w.ownsRow base 9 1 v n (flat l)) (hr : Lies w B (some A) m) (h63 : n + m.length ≤ 4194304) (hbase : base ≤ w.heap.size)
    (h : ∀ v' w', w'.ownsRow base 9 1 v' (n + m.length) (flat (l ++ m)) → w.grownBy w' v.ownBlock → K (a.put o.dst v') w') : Oper.wp Tryz.prog o a w K Q := by
  obtain ⟨v', w', hrun, h2, h3⟩ := run_append_strs base v n l w hown B A m c hr h63 hbase
  unfold slV at hrun
  rw [hj] at hrun
  unfold Oper.wp execOp
  rw [hty]
  simp only [ho, resolve, invoke, builtin, Sem.run_bind, Sem.run_pure, Result.andThen_ok, List.map_toArray, List.map_cons, List.map_nil, hs, hx, hrun]
  exact h v' w' h2 h3
theorem wpList_append_strs {ops : Array Oper} {rest : List Oper} {o : Oper} {a : Act} {w : World} {Q : Exit → Act → World → Prop} (hgd : o.guard = none) {s x : Operand}
    (ho : o.op = .call { callee := .builtin .append, args := #[s, x], argTypes := #[58, 58] }) (hty : o.type = 58) {base : Nat} {v : Value} {n : Nat} {l : List ByteArray} {A : Addr} {j c B : Nat} (m : List ByteArray)
    (hs : a.eval s = v) (hx : a.eval x = .slice (some A) j c) (hj : m.length = j) (hown : w.ownsRow base 9 1 v n (flat l)) (hr : Lies w B (some A) m) (h63 : n + m.length ≤ 4194304) (hbase : base ≤ w.heap.size)
    (h : ∀ v' w', w'.ownsRow base 9 1 v' (n + m.length) (flat (l ++ m)) → w.grownBy w' v.ownBlock → wpList Tryz.prog ops Q rest (a.put o.dst v') w') : wpList Tryz.prog ops Q (o :: rest) a w := by
  refine wpList_plain hgd fun K hK => ?_
  exact wp_append_strs ho hty m hs hx hj hown hr h63 hbase fun v' w' h2 h3 => hK _ _ (h v' w' h2 h3)

theorem own_none (w : World) (base : Nat) : w.ownsRow base 9 1 (.slice none 0 0) 0 (flat []) := ⟨rfl, .inl ⟨rfl, rfl⟩⟩
theorem own_step {w w' : World} {base n : Nat} {v : Value} {xs : List Value} (h : w.ownsRow base 9 1 v n xs) {N : Nat} (hb : Below N w w') (hN : w.heap.size ≤ N) : w'.ownsRow base 9 1 v n xs := by
  refine ⟨h.1, h.2.imp id ?_⟩
  rintro ⟨g, cap, cur, e, hb', hh, r⟩
  exact ⟨g, cap, cur, e, hb', (hb.block g (by have := (Array.getElem?_eq_some_iff.1 hh).1; omega)).trans hh, r⟩
theorem own_alloc {w : World} {base n : Nat} {v : Value} {xs : List Value} (h : w.ownsRow base 9 1 v n xs) (o : Obj) : (w.alloc o).ownsRow base 9 1 v n xs := by
  refine ⟨h.1, h.2.imp id ?_⟩
  rintro ⟨g, cap, cur, e, hb, hh, r⟩
  exact ⟨g, cap, cur, e, hb, (heap_alloc_old w o (Array.getElem?_eq_some_iff.1 hh).1).trans hh, r⟩
theorem own_less {w : World} {base base' n : Nat} {v : Value} {xs : List Value} (h : w.ownsRow base 9 1 v n xs) (hb : base' ≤ base) : w.ownsRow base' 9 1 v n xs :=
  ⟨h.1, h.2.imp id fun ⟨g, cap, cur, e, hb', r⟩ => ⟨g, cap, cur, e, by omega, r⟩⟩
theorem ownBlock_base {w : World} {base n : Nat} {v : Value} {xs : List Value} (h : w.ownsRow base 9 1 v n xs) : ∀ k, v.ownBlock = some k → base ≤ k := by
  rcases h.2 with ⟨rfl, _⟩ | ⟨g, cap, cur, rfl, hb, _⟩
  · intro k e; cases e
  · intro k e; cases e; exact hb
theorem blk_not_row {W : World} {b t : Nat} {cs : Array Value} {base n : Nat} {v : Value} {xs : List Value} (h : Blk W b t cs) (ht : t ≠ 9) (ho : W.ownsRow base 9 1 v n xs) : some b ≠ v.ownBlock := by
  rcases ho.2 with ⟨rfl, _⟩ | ⟨g, cap, cur, rfl, _, hg, _⟩
  · intro e; cases e
  · intro e
    cases e
    rw [show W.heap[g]? = _ from h] at hg
    injection hg with hg
    injection hg with _ h2
    exact ht h2
/-- A row that was just made of strings. -/
theorem new_own (w : World) (l : List ByteArray) (hl : l.length ≤ 1000) (base : Nat) (hb : base ≤ w.heap.size) : (w.alloc (.cells (flat l).toArray 9)).ownsRow base 9 1 (.slice (some ⟨w.heap.size, 0, none⟩) l.length l.length) l.length (flat l) :=
  ⟨flat_length l, .inr ⟨_, l.length, (flat l).toArray, rfl, hb, heap_alloc_new w _, Nat.le_refl _, by simp only [maxLen]; omega, by simp [flat], by rw [List.take_of_length_le (by simp [flat])]⟩⟩
theorem new_lies (w : World) (l : List ByteArray) : Lies (w.alloc (.cells (flat l).toArray 9)) (w.alloc (.cells (flat l).toArray 9)).heap.size (some ⟨w.heap.size, 0, none⟩) l := fun _ => by
  refine ⟨_, rfl, by simp, fun j hj => ?_⟩
  have e : (Addr.add ⟨w.heap.size, 0, none⟩ j) = ⟨w.heap.size, j, none⟩ := by
    unfold Addr.add
    split
    · rename_i h; rw [h]
    · simp
  rw [e, cell_of_row _ w.heap.size j _ _ (0, 0) (heap_alloc_new w _), List.getElem?_toArray]
  exact flat_at hj
end Go.Proofs.YtoagdpbbojlgfaaGreat.Str
