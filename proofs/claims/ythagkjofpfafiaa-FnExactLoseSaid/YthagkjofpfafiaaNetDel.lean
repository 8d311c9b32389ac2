/-
  slices.Delete at one letter of a call's own.
-/
import Derived.Test.YthagkjofpfafiaaNetOwn
import Derived.Laws.IdiomCopy
import Derived.ArgAppend
namespace Go.Proofs.Ythagkjofpfafiaa.Net
open Go.ChangeShapes Go.WideShapes Go.ChangeAt Go.RowKit
open Sto (R Sl)
set_option linter.unusedVariables false
set_option maxRecDepth 100000
set_option linter.unusedSimpArgs false

theorem bk_setCells {g t N : Nat} : ∀ (vs : List Value) (o : Nat) (w : World) (ys : List Value), Bk w g t N ys → o + vs.length ≤ ys.length → Bk (w.setCells g o vs) g t N (ys.take o ++ vs ++ ys.drop (o + vs.length))
  | [], o, w, ys, h, hl => by
    show Bk w g t N _
    simpa using h
  | v :: r, o, w, ys, h, hl => by
    have h1 := bk_setCells r (o + 1) (w.setCell ⟨g, o, none⟩ v) (ys.set o v) (h.set v) (by simp at hl ⊢; omega)
    have e1 : (ys.set o v).take (o + 1) = ys.take o ++ [v] := by
      rw [List.take_succ_eq_append_getElem (by simp at hl ⊢; omega), List.getElem_set_self, List.take_set]
      congr 1
      rw [List.set_eq_of_length_le]
      simp; omega
    have e2 : (ys.set o v).drop (o + 1 + r.length) = ys.drop (o + (v :: r).length) := by
      rw [List.drop_set_of_lt (by omega)]
      congr 1
      simp; omega
    rw [e1, e2] at h1
    show Bk ((w.setCell ⟨g, o, none⟩ v).setCells g (o + 1) r) g t N _
    simpa using h1
theorem grown_setCells {g : Nat} : ∀ (vs : List Value) (o : Nat) (w : World), w.grownBy (w.setCells g o vs) (some g)
  | [], o, w => World.grownBy.refl w _
  | v :: r, o, w => by
    have h := grown_setCells (g := g) r (o + 1) (w.setCell ⟨g, o, none⟩ v)
    have k := Dep.grown_set w g o v
    exact Dep.grown_trans k h
theorem size_setCells {g : Nat} : ∀ (vs : List Value) (o : Nat) (w : World), (w.setCells g o vs).heap.size = w.heap.size
  | [], o, w => rfl
  | v :: r, o, w => by
    show ((w.setCell ⟨g, o, none⟩ v).setCells g (o + 1) r).heap.size = _
    rw [size_setCells r, World.size_setCell]

theorem held_sub {w : World} {xs ys : List Sl} {a b : Nat} (h : HeldL w xs a b) (hs : ys.Sublist xs) : HeldL w ys a b := ⟨fun x hx => h.each x (hs.subset hx), h.apart.sublist hs⟩
theorem erase_eq {α : Type} (m : List α) (k : Nat) (hk : k < m.length) : m.eraseIdx k = m.take k ++ m.drop (k + 1) := List.eraseIdx_eq_take_drop_succ m k

/-- An append with room, as an operation of a drawn region. -/
theorem wp_room {ts te size : Nat} (hf : AppFit ts te size) {o : Oper} {a : Act} {w : World} {K : Act → World → Prop} {Q : Exit → Act → World → Prop} {s x : Operand}
    (ho : o.op = .call { callee := .builtin .append, args := #[s, x], argTypes := #[ts, ts] }) {b n cap : Nat} {ad : Addr} {m c : Nat} (ys : List Value)
    (hs : a.eval s = .slice (some ⟨b, 0, none⟩) n cap) (hx : a.eval x = .slice (some ad) m c) (hl : ys.length = m * size) (hn : ∀ (j : Nat) (u : Value), ys[j]? = some u → w.cell? (ad.add j) = some u) (h1 : ∀ u ∈ ys, u.oneCell' = true) (hroom : n + m ≤ cap)
    (hc : ∀ j, j < ys.length → (w.cell? ⟨b, n * size + j, none⟩).isSome = true) (hfz : ∀ j, j < ys.length → w.frozen? ⟨b, n * size + j, none⟩ = false)
    (h : K (a.put o.dst (.slice (some ⟨b, 0, none⟩) (n + m) cap)) (w.setCells b (n * size) ys)) : Oper.wp Try.prog o a w K Q := by
  obtain ⟨hu, hs0, i0, z, hi0, hz0, hz1, hz2, hz3⟩ := hf
  subst hz1
  have hrun := run_append_room_cells (P := Try.prog) w ts o.type te i0 hu hi0 b 0 n cap ad m c ys hl hn h1 hroom (fun j hj => by rw [Nat.zero_add]; exact hc j hj) (fun j hj => by rw [Nat.zero_add]; exact hfz j hj)
  rw [Nat.zero_add] at hrun
  unfold Oper.wp execOp
  simp only [ho, resolve, invoke, builtin, Sem.run_bind, Sem.run_pure, Result.andThen_ok, List.map_toArray, List.map_cons, List.map_nil, hs, hx, hrun]
  exact h
theorem zeroM (w : World) : (zeroValue 51).run Try.prog w = .ok (.agg #[.int .i64 0, .int .i64 0, .slice none 0 0]) w := by kernel_rfl
theorem run_clear1 (w : World) (ty b o c : Nat) (hc : ∀ j, j < 3 → (w.cell? ⟨b, o + j, none⟩).isSome = true) (hf : ∀ j, j < 3 → w.frozen? ⟨b, o + j, none⟩ = false) :
    (Builtin.clear_ #[29] ty #[.slice (some ⟨b, o, none⟩) 1 c]).run Try.prog w = .ok (.tuple #[]) (w.setCells b o [.int .i64 0, .int .i64 0, .slice none 0 0]) := by
  have hst := run_storeCells_cells (P := Try.prog) b o [.int .i64 0, .int .i64 0, .slice none 0 0] 0 w (by simpa using hc) (by simpa using hf) (by intro v hv; simp at hv; rcases hv with rfl | rfl <;> rfl)
  simp only [Nat.add_zero] at hst
  have hz : (Builtin.zeroCells (Value.agg #[.int .i64 0, .int .i64 0, .slice none 0 0]).cells 1).toList = [.int .i64 0, .int .i64 0, .slice none 0 0] := by first | kernel_rfl | (simp [Builtin.zeroCells, Value.cells, List.range_succ])
  simp [Builtin.clear_, run_underlying Try.underlying29, zeroM, hz, hst]
theorem wpList_clear {ops : Array Oper} {rest : List Oper} {o : Oper} {a : Act} {w : World} {Q : Exit → Act → World → Prop} (hgd : o.guard = none) {x : Operand}
    (ho : o.op = .call { callee := .builtin .clear, args := #[x], argTypes := #[29] }) {b f c : Nat}
    (hx : a.eval x = .slice (some ⟨b, f, none⟩) 1 c) (hc : ∀ j, j < 3 → (w.cell? ⟨b, f + j, none⟩).isSome = true) (hf : ∀ j, j < 3 → w.frozen? ⟨b, f + j, none⟩ = false)
    (h : wpList Try.prog ops Q rest (a.put o.dst (.tuple #[])) (w.setCells b f [.int .i64 0, .int .i64 0, .slice none 0 0])) : wpList Try.prog ops Q (o :: rest) a w := by
  refine wpList_plain hgd fun K hK => ?_
  have hrun := run_clear1 w o.type b f c hc hf
  unfold Oper.wp execOp
  simp only [ho, resolve, invoke, builtin, Sem.run_bind, Sem.run_pure, Result.andThen_ok, List.map_toArray, List.map_cons, List.map_nil, hx, hrun]
  exact hK _ _ h

/-- What is left of a row of letters. -/
theorem own_erase {w : World} {base g cap k : Nat} {m : List Ml} (h : w.ownsRow base 51 3 (.slice (some ⟨g, 0, none⟩) m.length cap) m.length (mv m)) (hk : k < m.length) :
    ((w.setCells g (k * 3) (mv (m.drop (k + 1)))).setCells g ((m.length - 1) * 3) [.int .i64 0, .int .i64 0, .slice none 0 0]).ownsRow base 51 3 (.slice (some ⟨g, 0, none⟩) (m.length - 1) cap) (m.length - 1) (mv (m.eraseIdx k)) := by
  have he : (m.eraseIdx k).length = m.length - 1 := by rw [List.length_eraseIdx]; simp [hk]
  refine ⟨by rw [mv_len, he], .inr ?_⟩
  rcases h.2 with ⟨e, _⟩ | ⟨g', cap', cur, e, hb, hh, hnc, hcm, hsz, hx⟩
  · cases e
  cases e
  rw [← mv_len] at hx
  have hcl : cur.toList.length = cap * 3 := by simpa using hsz
  have h0 : Bk w g 51 (cap * 3) cur.toList := ⟨cur, hh, hsz, by omega, fun j u hu => by rw [← Array.getElem?_toList]; exact hu⟩
  have hdl : (mv (m.drop (k + 1))).length = (m.length - (k + 1)) * 3 := by rw [mv_len, List.length_drop]
  have h1 := bk_setCells (mv (m.drop (k + 1))) (k * 3) w _ h0 (by rw [hdl, hcl]; omega)
  have hyl : (cur.toList.take (k * 3) ++ mv (m.drop (k + 1)) ++ cur.toList.drop (k * 3 + (mv (m.drop (k + 1))).length)).length = cap * 3 := by
    simp only [List.length_append, List.length_take, List.length_drop, hdl, hcl]; omega
  have h2 := bk_setCells [.int .i64 0, .int .i64 0, .slice none 0 0] ((m.length - 1) * 3) _ _ h1 (by rw [hyl]; simp; omega)
  obtain ⟨cur2, hh2, hsz2, _, hall⟩ := h2
  refine ⟨g, cap, cur2, rfl, hb, hh2, by omega, hcm, hsz2, ?_⟩
  have hmt : mv (m.eraseIdx k) = cur.toList.take (k * 3) ++ mv (m.drop (k + 1)) := by
    have e1 : mv m = mv (m.take k) ++ mv (m.drop k) := by rw [← mv_append, List.take_append_drop]
    have e2 : (mv (m.take k)).length = k * 3 := by rw [mv_len, List.length_take, Nat.min_eq_left (by omega)]
    have e5 : cur.toList.take (k * 3) = mv (m.take k) := by
      have e6 := congrArg (List.take (k * 3)) hx
      rw [List.take_take, mv_len, Nat.min_eq_left (by omega)] at e6
      rw [e6, e1, ← e2, List.take_left]
    rw [erase_eq m k hk, mv_append, e5]
  rw [hmt]
  refine List.ext_getElem? fun j => ?_
  have hl1 : (cur.toList.take (k * 3) ++ mv (m.drop (k + 1))).length = (m.length - 1) * 3 := by
    simp only [List.length_append, List.length_take, hdl, hcl]; omega
  by_cases hj : j < (m.length - 1) * 3
  · rw [List.getElem?_take, if_pos hj]
    obtain ⟨u, hu⟩ : ∃ u, (cur.toList.take (k * 3) ++ mv (m.drop (k + 1)))[j]? = some u := ⟨_, List.getElem?_eq_getElem (by omega)⟩
    rw [hu, Array.getElem?_toList]
    refine hall j u ?_
    rw [List.append_assoc, List.getElem?_append_left (by rw [List.length_take, hyl]; omega), List.getElem?_take, if_pos hj, List.getElem?_append_left (by omega)]
    exact hu
  · rw [List.getElem?_take, if_neg hj, List.getElem?_eq_none (by omega)]
/-- A letter less. -/
theorem OwnN.delM {W W' : World} {n : Nt} {a g cap k : Nat} (h : OwnN W n a) (hg : W.grownBy W' (Value.slice n.B n.m.length n.cb).ownBlock) (ho : W'.ownsRow a 51 3 (.slice (some ⟨g, 0, none⟩) (n.m.length - 1) cap) (n.m.length - 1) (mv (n.m.eraseIdx k))) (hk : k < n.m.length) : OwnN W' ⟨n.A, n.s, n.ca, some ⟨g, 0, none⟩, n.m.eraseIdx k, cap⟩ a := by
  have he : (n.m.eraseIdx k).length = n.m.length - 1 := by rw [List.length_eraseIdx]; simp [hk]
  refine ⟨o_other h.m0 hg h.s0 (by decide), by simp only [he]; exact ho, ?_⟩
  have := (h.r0.types fun g cs hc => o_types h.m0 hg (by decide) g cs hc).wide (Nat.le_refl _) hg.size
  refine held_sub this ?_
  unfold Nt.all
  exact List.Sublist.append (List.Sublist.refl _) ((List.eraseIdx_sublist _ _).map _)
end Go.Proofs.Ythagkjofpfafiaa.Net
