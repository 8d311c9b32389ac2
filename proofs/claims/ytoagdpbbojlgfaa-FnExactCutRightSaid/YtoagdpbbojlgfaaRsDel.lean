/-
  Deleting one of some records: append with room, clear, slices.Delete.
-/
import Derived.Test.YtoagdpbbojlgfaaRsApp
import Derived.Test.YtoagdpbbojlgfaaDepAll
import Derived.Test.YtoagdpbbojlgfaaPackHeld
import Derived.StillTailTactics
import Derived.Laws.IdiomCopy
import Derived.ArgAppend
namespace Go.Proofs.Ytoagdpbbojlgfaa.Rs
open Go.ChangeShapes Go.WideShapes Go.ChangeAt Go.RowKit
open Net (Cl Bk HeldV addr0)
open Rec (R P)
open Dep (row_set get_ne get_eq)
set_option linter.unusedVariables false
set_option maxRecDepth 100000
set_option linter.unusedSimpArgs false

theorem bk_setCells {g t N : Nat} : ∀ (vs : List Value) (o : Nat) (w : World) (ys : List Value), Bk w g t N ys → o + vs.length ≤ ys.length → Bk (w.setCells g o vs) g t N (ys.take o ++ vs ++ ys.drop (o + vs.length))
  | [], o, w, ys, h, hl => by
    show Bk w g t N _
    simpa using h
  | v :: r, o, w, ys, h, hl => by
    have h1 := bk_setCells r (o + 1) (w.setCell ⟨g, o, none⟩ v) (ys.set o v) (h.set v) (by simp at hl ⊢; omega)
    have e1 : (ys.set o v).take (o + 1) = ys.take o ++ [v] := by
      rw [List.take_succ_eq_append_getElem (by simp at hl ⊢; omega), List.getElem_set_self, List.take_set]
      congr 1
      rw [List.set_eq_of_length_le]
      simp; omega
    have e2 : (ys.set o v).drop (o + 1 + r.length) = ys.drop (o + (v :: r).length) := by
      rw [List.drop_set_of_lt (by omega)]
      congr 1
      simp; omega
    rw [e1, e2] at h1
    show Bk ((w.setCell ⟨g, o, none⟩ v).setCells g (o + 1) r) g t N _
    simpa using h1
theorem grown_setCells {g : Nat} : ∀ (vs : List Value) (o : Nat) (w : World), w.grownBy (w.setCells g o vs) (some g)
  | [], o, w => World.grownBy.refl w _
  | v :: r, o, w => by
    have h := grown_setCells (g := g) r (o + 1) (w.setCell ⟨g, o, none⟩ v)
    have k := Dep.grown_set w g o v
    exact Dep.grown_trans k h
theorem size_setCells {g : Nat} : ∀ (vs : List Value) (o : Nat) (w : World), (w.setCells g o vs).heap.size = w.heap.size
  | [], o, w => rfl
  | v :: r, o, w => by
    show ((w.setCell ⟨g, o, none⟩ v).setCells g (o + 1) r).heap.size = _
    rw [size_setCells r, World.size_setCell]

theorem erase_eq {α : Type} (m : List α) (k : Nat) (hk : k < m.length) : m.eraseIdx k = m.take k ++ m.drop (k + 1) := List.eraseIdx_eq_take_drop_succ m k

/-- An append with room, as an operation of a drawn region. -/
theorem wp_room {ts te size : Nat} (hf : AppFit ts te size) {o : Oper} {a : Act} {w : World} {K : Act → World → Prop} {Q : Exit → Act → World → Prop} {s x : Operand}
    (ho : o.op = .call { callee := .builtin .append, args := #[s, x], argTypes := #[ts, ts] }) {b n cap : Nat} {ad : Addr} {m c : Nat} (ys : List Value)
    (hs : a.eval s = .slice (some ⟨b, 0, none⟩) n cap) (hx : a.eval x = .slice (some ad) m c) (hl : ys.length = m * size) (hn : ∀ (j : Nat) (u : Value), ys[j]? = some u → w.cell? (ad.add j) = some u) (h1 : ∀ u ∈ ys, u.oneCell' = true) (hroom : n + m ≤ cap)
    (hc : ∀ j, j < ys.length → (w.cell? ⟨b, n * size + j, none⟩).isSome = true) (hfz : ∀ j, j < ys.length → w.frozen? ⟨b, n * size + j, none⟩ = false)
    (h : K (a.put o.dst (.slice (some ⟨b, 0, none⟩) (n + m) cap)) (w.setCells b (n * size) ys)) : Oper.wp Try.prog o a w K Q := by
  obtain ⟨hu, hs0, i0, z, hi0, hz0, hz1, hz2, hz3⟩ := hf
  subst hz1
  have hrun := run_append_room_cells (P := Try.prog) w ts o.type te i0 hu hi0 b 0 n cap ad m c ys hl hn h1 hroom (fun j hj => by rw [Nat.zero_add]; exact hc j hj) (fun j hj => by rw [Nat.zero_add]; exact hfz j hj)
  rw [Nat.zero_add] at hrun
  unfold Oper.wp execOp
  simp only [ho, resolve, invoke, builtin, Sem.run_bind, Sem.run_pure, Result.andThen_ok, List.map_toArray, List.map_cons, List.map_nil, hs, hx, hrun]
  exact h
theorem zeroM (w : World) : (zeroValue 47).run Try.prog w = .ok (.agg #[.string ⟨#[]⟩, .int .i64 0, .int .i64 0, .int .i64 0, .string ⟨#[]⟩, .bool false, .slice none 0 0, .slice none 0 0]) w := by kernel_rfl
theorem run_clear1 (w : World) (ty b o c : Nat) (hc : ∀ j, j < 8 → (w.cell? ⟨b, o + j, none⟩).isSome = true) (hf : ∀ j, j < 8 → w.frozen? ⟨b, o + j, none⟩ = false) :
    (Builtin.clear_ #[27] ty #[.slice (some ⟨b, o, none⟩) 1 c]).run Try.prog w = .ok (.tuple #[]) (w.setCells b o [.string ⟨#[]⟩, .int .i64 0, .int .i64 0, .int .i64 0, .string ⟨#[]⟩, .bool false, .slice none 0 0, .slice none 0 0]) := by
  have hst := run_storeCells_cells (P := Try.prog) b o [.string ⟨#[]⟩, .int .i64 0, .int .i64 0, .int .i64 0, .string ⟨#[]⟩, .bool false, .slice none 0 0, .slice none 0 0] 0 w (by simpa using hc) (by simpa using hf) (by intro v hv; simp only [List.mem_cons, List.not_mem_nil, or_false] at hv; rcases hv with rfl | rfl | rfl | rfl | rfl | rfl | rfl | rfl <;> rfl)
  simp only [Nat.add_zero] at hst
  have hz : (Builtin.zeroCells (Value.agg #[.string ⟨#[]⟩, .int .i64 0, .int .i64 0, .int .i64 0, .string ⟨#[]⟩, .bool false, .slice none 0 0, .slice none 0 0]).cells 1).toList = [.string ⟨#[]⟩, .int .i64 0, .int .i64 0, .int .i64 0, .string ⟨#[]⟩, .bool false, .slice none 0 0, .slice none 0 0] := by first | kernel_rfl | (simp [Builtin.zeroCells, Value.cells, List.range_succ])
  simp [Builtin.clear_, run_underlying Try.underlying27, zeroM, hz, hst]
theorem wpList_clear {ops : Array Oper} {rest : List Oper} {o : Oper} {a : Act} {w : World} {Q : Exit → Act → World → Prop} (hgd : o.guard = none) {x : Operand}
    (ho : o.op = .call { callee := .builtin .clear, args := #[x], argTypes := #[27] }) {b f c : Nat}
    (hx : a.eval x = .slice (some ⟨b, f, none⟩) 1 c) (hc : ∀ j, j < 8 → (w.cell? ⟨b, f + j, none⟩).isSome = true) (hf : ∀ j, j < 8 → w.frozen? ⟨b, f + j, none⟩ = false)
    (h : wpList Try.prog ops Q rest (a.put o.dst (.tuple #[])) (w.setCells b f [.string ⟨#[]⟩, .int .i64 0, .int .i64 0, .int .i64 0, .string ⟨#[]⟩, .bool false, .slice none 0 0, .slice none 0 0])) : wpList Try.prog ops Q (o :: rest) a w := by
  refine wpList_plain hgd fun K hK => ?_
  have hrun := run_clear1 w o.type b f c hc hf
  unfold Oper.wp execOp
  simp only [ho, resolve, invoke, builtin, Sem.run_bind, Sem.run_pure, Result.andThen_ok, List.map_toArray, List.map_cons, List.map_nil, hx, hrun]
  exact hK _ _ h

/-- What is left of a row of letters. -/
theorem own_erase {w : World} {base g cap k : Nat} {m : List Q} (h : w.ownsRow base 47 8 (.slice (some ⟨g, 0, none⟩) m.length cap) m.length (rv m)) (hk : k < m.length) :
    ((w.setCells g (k * 8) (rv (m.drop (k + 1)))).setCells g ((m.length - 1) * 8) [.string ⟨#[]⟩, .int .i64 0, .int .i64 0, .int .i64 0, .string ⟨#[]⟩, .bool false, .slice none 0 0, .slice none 0 0]).ownsRow base 47 8 (.slice (some ⟨g, 0, none⟩) (m.length - 1) cap) (m.length - 1) (rv (m.eraseIdx k)) := by
  have he : (m.eraseIdx k).length = m.length - 1 := by rw [List.length_eraseIdx]; simp [hk]
  refine ⟨by rw [rv_len, he], .inr ?_⟩
  rcases h.2 with ⟨e, _⟩ | ⟨g', cap', cur, e, hb, hh, hnc, hcm, hsz, hx⟩
  · cases e
  cases e
  rw [← rv_len] at hx
  have hcl : cur.toList.length = cap * 8 := by simpa using hsz
  have h0 : Bk w g 47 (cap * 8) cur.toList := ⟨cur, hh, hsz, by omega, fun j u hu => by rw [← Array.getElem?_toList]; exact hu⟩
  have hdl : (rv (m.drop (k + 1))).length = (m.length - (k + 1)) * 8 := by rw [rv_len, List.length_drop]
  have h1 := bk_setCells (rv (m.drop (k + 1))) (k * 8) w _ h0 (by rw [hdl, hcl]; omega)
  have hyl : (cur.toList.take (k * 8) ++ rv (m.drop (k + 1)) ++ cur.toList.drop (k * 8 + (rv (m.drop (k + 1))).length)).length = cap * 8 := by
    simp only [List.length_append, List.length_take, List.length_drop, hdl, hcl]; omega
  have h2 := bk_setCells [.string ⟨#[]⟩, .int .i64 0, .int .i64 0, .int .i64 0, .string ⟨#[]⟩, .bool false, .slice none 0 0, .slice none 0 0] ((m.length - 1) * 8) _ _ h1 (by rw [hyl]; simp; omega)
  obtain ⟨cur2, hh2, hsz2, _, hall⟩ := h2
  refine ⟨g, cap, cur2, rfl, hb, hh2, by omega, hcm, hsz2, ?_⟩
  have hmt : rv (m.eraseIdx k) = cur.toList.take (k * 8) ++ rv (m.drop (k + 1)) := by
    have e1 : rv m = rv (m.take k) ++ rv (m.drop k) := by rw [← rv_append, List.take_append_drop]
    have e2 : (rv (m.take k)).length = k * 8 := by rw [rv_len, List.length_take, Nat.min_eq_left (by omega)]
    have e5 : cur.toList.take (k * 8) = rv (m.take k) := by
      have e6 := congrArg (List.take (k * 8)) hx
      rw [List.take_take, rv_len, Nat.min_eq_left (by omega)] at e6
      rw [e6, e1, ← e2, List.take_left]
    rw [erase_eq m k hk, rv_append, e5]
  rw [hmt]
  refine List.ext_getElem? fun j => ?_
  have hl1 : (cur.toList.take (k * 8) ++ rv (m.drop (k + 1))).length = (m.length - 1) * 8 := by
    simp only [List.length_append, List.length_take, hdl, hcl]; omega
  by_cases hj : j < (m.length - 1) * 8
  · rw [List.getElem?_take, if_pos hj]
    obtain ⟨u, hu⟩ : ∃ u, (cur.toList.take (k * 8) ++ rv (m.drop (k + 1)))[j]? = some u := ⟨_, List.getElem?_eq_getElem (by omega)⟩
    rw [hu, Array.getElem?_toList]
    refine hall j u ?_
    rw [List.append_assoc, List.getElem?_append_left (by rw [List.length_take, hyl]; omega), List.getElem?_take, if_pos hj, List.getElem?_append_left (by omega)]
    exact hu
  · rw [List.getElem?_take, if_neg hj, List.getElem?_eq_none (by omega)]

set_option maxHeartbeats 2000000 in
set_option maxRecDepth 100000 in
theorem delete_any (g cap k base : Nat) (m : List Q) (w : World) (h : w.ownsRow base 47 8 (.slice (some ⟨g, 0, none⟩) m.length cap) m.length (rv m)) (hk : k < m.length) (hm : m.length ≤ 1048576) :
    Calls Try.prog 45 #[.slice (some ⟨g, 0, none⟩) m.length cap, .int .i64 k, .int .i64 ((k : Int) + 1)] w fun e w' => e = .returned (.slice (some ⟨g, 0, none⟩) (m.length - 1) cap) ∧ w'.ownsRow base 47 8 (.slice (some ⟨g, 0, none⟩) (m.length - 1) cap) (m.length - 1) (rv (m.eraseIdx k)) ∧ w.grownBy w' (some g) := by
  obtain ⟨g', c', e, hnc, hcm, _, hbk⟩ := o_val_ne h (fun e => by cases e)
  cases e
  have HOW := Lib.hid h
  have HBK := Lib.hid hbk
  unfold maxLen at hcm
  have HCEL := Lib.hid (show ∀ j, j < (rv (m.drop (k + 1))).length → ((World.drew w).cell? ⟨g, k * 8 + j, none⟩).isSome = true from fun j hj => by
    rw [rv_len, List.length_drop] at hj
    obtain ⟨u, hu⟩ := hbk.cell (j := k * 8 + j) (by omega)
    show (w.cell? _).isSome = true
    rw [hu]; rfl)
  have HFRZ := Lib.hid (show ∀ j, j < (rv (m.drop (k + 1))).length → (World.drew w).frozen? ⟨g, k * 8 + j, none⟩ = false from fun j hj => hbk.free _)
  have HN0 := Lib.hid (show ∀ (j : Nat) (u : Value), (rv (m.drop (k + 1)))[j]? = some u → w.cell? ⟨g, (k + 1) * 8 + j, none⟩ = some u from fun j u hu => by
    refine hbk.at_ ?_
    have e1 : rv m = rv (m.take (k + 1)) ++ rv (m.drop (k + 1)) := by rw [← rv_append, List.take_append_drop]
    have e2 : (rv (m.take (k + 1))).length = (k + 1) * 8 := by rw [rv_len, List.length_take]; omega
    rw [e1, List.getElem?_append_right (by omega), e2]
    rw [show (k + 1) * 8 + j - (k + 1) * 8 = j by omega]
    exact hu)
  clear h hbk
  have HBV := Lib.hid (bk_setCells (rv (m.drop (k + 1))) (k * 8) (World.drew w) _ (show Bk (World.drew w) g 47 (cap * 8) (rv m) from HBK.out) (by rw [rv_len, rv_len, List.length_drop]; omega))
  have HE := Lib.hid (own_erase (w := World.drew w) (k := k) HOW.out hk)
  have HG := Lib.hid (Dep.grown_trans (Dep.grown_of_below (some g) (((Below.refl w.heap.size w).drew))) (Dep.grown_trans (grown_setCells (g := g) (rv (m.drop (k + 1))) (k * 8) (World.drew w)) (grown_setCells (g := g) [.string ⟨#[]⟩, .int .i64 0, .int .i64 0, .int .i64 0, .string ⟨#[]⟩, .bool false, .slice none 0 0, .slice none 0 0] ((m.length - 1) * 8) _)))
  have HC2 := Lib.hid (show ∀ j, j < 8 → (((World.drew w).setCells g (k * 8) (rv (m.drop (k + 1)))).cell? ⟨g, (m.length - 1) * 8 + j, none⟩).isSome = true from fun j hj => by
    obtain ⟨u, hu⟩ := HBV.out.cell (j := (m.length - 1) * 8 + j) (by omega)
    rw [hu]; rfl)
  have HF2 := Lib.hid (show ∀ j, j < 8 → ((World.drew w).setCells g (k * 8) (rv (m.drop (k + 1)))).frozen? ⟨g, (m.length - 1) * 8 + j, none⟩ = false from fun j hj => HBV.out.free _)
  have hkc : k ≤ cap := by omega
  have hka : (0 : Int) ≤ (k : Int) + 1 := by omega
  have hkb : (k : Int) + 1 ≤ m.length := by omega
  by_cases hcap : cap = k + 1
  · subst hcap
    have hkc2 : (k : Int) ≤ (k : Int) + 1 := by omega
    have HNEWS := Lib.hid (show ∀ (j : Nat) (u : Value), (rv (m.drop (k + 1)))[j]? = some u → (World.drew w).cell? ((⟨g, 0, none⟩ : Addr).add j) = some u from fun j u hu => by
      have := (List.getElem?_eq_some_iff.1 hu).1
      rw [rv_len, List.length_drop] at this
      omega)
    go_enter Try.func45, Try.ntmps45
    go_wp2_with fail
    refine wp_region_held_drew (S := (fun _ => True)) (by kernel_rfl) ?_ (fun hHeld => ?_)
    · trivial
    refine wpAnyH_take (i := 0) (v := ?_) rfl (by kernel_rfl) (by kernel_rfl) (by kernel_rfl) (fun _ _ _ h => h) (Or.inl ⟨by rfl, ?_⟩) hHeld ?_
    rotate_left
    · intro W hSw
      have hq := hSw
      go_simp
      try with_reducible rfl
    try simp only [Act.put, List.setIfInBounds_toArray, List.set_cons_zero, List.set_cons_succ, List.getElem_toArray, List.getElem_cons_zero]
    refine wpAnyH_take (i := 1) (v := ?_) rfl (by kernel_rfl) (by kernel_rfl) (by kernel_rfl) (fun _ _ _ h => h) (Or.inl ⟨by rfl, ?_⟩) hHeld ?_
    rotate_left
    · intro W hSw
      have hq := hSw
      go_simp
      try with_reducible rfl
    try simp only [Act.put, List.setIfInBounds_toArray, List.set_cons_zero, List.set_cons_succ, List.getElem_toArray, List.getElem_cons_succ, List.getElem_cons_zero]
    refine wpAnyH_take (i := 2) (v := ?_) rfl (by kernel_rfl) (by kernel_rfl) (by kernel_rfl) (fun _ _ _ h => h) (Or.inl ⟨by rfl, ?_⟩) hHeld ?_
    rotate_left
    · intro W hSw
      have hq := hSw
      go_simp
      try with_reducible rfl
    try simp only [Act.put, List.setIfInBounds_toArray, List.set_cons_zero, List.set_cons_succ, List.getElem_toArray, List.getElem_cons_succ, List.getElem_cons_zero]
    refine wpAnyH_take (i := 3) (v := ?_) rfl (by kernel_rfl) (by kernel_rfl) (by kernel_rfl) (fun _ _ _ h => h) (Or.inl ⟨by rfl, ?_⟩) hHeld ?_
    rotate_left
    · intro W hSw
      have hq := hSw
      go_simp
      try with_reducible rfl
    try simp only [Act.put, List.setIfInBounds_toArray, List.set_cons_zero, List.set_cons_succ, List.getElem_toArray, List.getElem_cons_succ, List.getElem_cons_zero]
    refine wpAnyH_take (i := 4) (v := ?_) rfl (by kernel_rfl) (by kernel_rfl) (by kernel_rfl) (fun _ _ _ h => h) (Or.inl ⟨by rfl, ?_⟩) hHeld ?_
    rotate_left
    · intro W hSw
      have hq := hSw
      go_simp
      try with_reducible rfl
    try simp only [Act.put, List.setIfInBounds_toArray, List.set_cons_zero, List.set_cons_succ, List.getElem_toArray, List.getElem_cons_succ, List.getElem_cons_zero]
    refine wpAnyH_take (i := 5) (v := ?_) rfl (by kernel_rfl) (by kernel_rfl) (by kernel_rfl) (fun _ _ _ h => h) (Or.inl ⟨by rfl, ?_⟩) hHeld ?_
    rotate_left
    · intro W hSw
      have hq := hSw
      go_simp
      try with_reducible rfl
    try simp only [Act.put, List.setIfInBounds_toArray, List.set_cons_zero, List.set_cons_succ, List.getElem_toArray, List.getElem_cons_succ, List.getElem_cons_zero]
    refine wpAnyH_ready (rs := [6]) (by kernel_rfl) (by simp) ?_
    refine AllReadyH.cons rfl (fun K hK => ?_) AllReadyH.nil
    refine Dep.wanted_in (by rfl) ?_
    refine wp_room fit_recs rfl (rv (m.drop (k + 1))) rfl rfl (by rw [rv_len, List.length_drop]; omega) (HNEWS.out) (rv_one _) (by omega) HCEL.out HFRZ.out ?_
    refine hK.out _ _ ?_ (fun hHeld => ?_)
    · trivial
    clear hK K
    try simp only [Act.put, List.setIfInBounds_toArray, List.set_cons_zero, List.set_cons_succ, List.getElem_toArray, List.getElem_cons_succ, List.getElem_cons_zero]
    refine wpAnyH_take (i := 7) (v := ?_) rfl (by kernel_rfl) (by kernel_rfl) (by kernel_rfl) (fun _ _ _ h => h) (Or.inl ⟨by rfl, ?_⟩) hHeld ?_
    rotate_left
    · intro W hSw
      have hq := hSw
      go_simp
      try with_reducible rfl
    try simp only [Act.put, List.setIfInBounds_toArray, List.set_cons_zero, List.set_cons_succ, List.getElem_toArray, List.getElem_cons_succ, List.getElem_cons_zero]
    refine wpAnyH_done (by kernel_rfl) ?_ _
    generalize (World.drew w).setCells g (k * 8) (rv (m.drop (k + 1))) = V at HBV HE HG HC2 HF2 ⊢
    clear hHeld hka hkb hkc
    have hmk : m.length = k + 1 := by omega
    rw [hmk] at HC2 HF2 HE HG ⊢
    simp only [Nat.add_sub_cancel, Nat.add_zero] at HC2 HF2 HE HG ⊢
    go_wp2_with (refine wpList_clear rfl rfl rfl HC2.out HF2.out ?_)
    go_ret
    rw [show m.length - 1 = k by omega]
    exact ⟨rfl, HE.out, HG.out⟩
  · have HNEWS := Lib.hid (show ∀ (j : Nat) (u : Value), (rv (m.drop (k + 1)))[j]? = some u → (World.drew w).cell? ((⟨g, (k + 1) * 8, none⟩ : Addr).add j) = some u from fun j u hu => by
      have e : (⟨g, (k + 1) * 8, none⟩ : Addr).add j = ⟨g, (k + 1) * 8 + j, none⟩ := Addr.add_lit _ _ _
      rw [e]
      exact HN0.out j u hu)
    go_enter Try.func45, Try.ntmps45
    go_wp2_with fail
    refine wp_region_held_drew (S := (fun _ => True)) (by kernel_rfl) ?_ (fun hHeld => ?_)
    · trivial
    refine wpAnyH_take (i := 0) (v := ?_) rfl (by kernel_rfl) (by kernel_rfl) (by kernel_rfl) (fun _ _ _ h => h) (Or.inl ⟨by rfl, ?_⟩) hHeld ?_
    rotate_left
    · intro W hSw
      have hq := hSw
      go_simp
      try with_reducible rfl
    try simp only [Act.put, List.setIfInBounds_toArray, List.set_cons_zero, List.set_cons_succ, List.getElem_toArray, List.getElem_cons_zero]
    refine wpAnyH_take (i := 1) (v := ?_) rfl (by kernel_rfl) (by kernel_rfl) (by kernel_rfl) (fun _ _ _ h => h) (Or.inl ⟨by rfl, ?_⟩) hHeld ?_
    rotate_left
    · intro W hSw
      have hq := hSw
      go_simp
      try with_reducible rfl
    try simp only [Act.put, List.setIfInBounds_toArray, List.set_cons_zero, List.set_cons_succ, List.getElem_toArray, List.getElem_cons_succ, List.getElem_cons_zero]
    refine wpAnyH_take (i := 2) (v := ?_) rfl (by kernel_rfl) (by kernel_rfl) (by kernel_rfl) (fun _ _ _ h => h) (Or.inl ⟨by rfl, ?_⟩) hHeld ?_
    rotate_left
    · intro W hSw
      have hq := hSw
      go_simp
      try with_reducible rfl
    try simp only [Act.put, List.setIfInBounds_toArray, List.set_cons_zero, List.set_cons_succ, List.getElem_toArray, List.getElem_cons_succ, List.getElem_cons_zero]
    refine wpAnyH_take (i := 3) (v := ?_) rfl (by kernel_rfl) (by kernel_rfl) (by kernel_rfl) (fun _ _ _ h => h) (Or.inl ⟨by rfl, ?_⟩) hHeld ?_
    rotate_left
    · intro W hSw
      have hq := hSw
      go_simp
      try with_reducible rfl
    try simp only [Act.put, List.setIfInBounds_toArray, List.set_cons_zero, List.set_cons_succ, List.getElem_toArray, List.getElem_cons_succ, List.getElem_cons_zero]
    refine wpAnyH_take (i := 4) (v := ?_) rfl (by kernel_rfl) (by kernel_rfl) (by kernel_rfl) (fun _ _ _ h => h) (Or.inl ⟨by rfl, ?_⟩) hHeld ?_
    rotate_left
    · intro W hSw
      have hq := hSw
      go_simp
      try with_reducible rfl
    try simp only [Act.put, List.setIfInBounds_toArray, List.set_cons_zero, List.set_cons_succ, List.getElem_toArray, List.getElem_cons_succ, List.getElem_cons_zero]
    refine wpAnyH_take (i := 5) (v := ?_) rfl (by kernel_rfl) (by kernel_rfl) (by kernel_rfl) (fun _ _ _ h => h) (Or.inl ⟨by rfl, ?_⟩) hHeld ?_
    rotate_left
    · intro W hSw
      have hq := hSw
      go_simp
      try with_reducible rfl
    try simp only [Act.put, List.setIfInBounds_toArray, List.set_cons_zero, List.set_cons_succ, List.getElem_toArray, List.getElem_cons_succ, List.getElem_cons_zero]
    refine wpAnyH_ready (rs := [6]) (by kernel_rfl) (by simp) ?_
    refine AllReadyH.cons rfl (fun K hK => ?_) AllReadyH.nil
    refine Dep.wanted_in (by rfl) ?_
    refine wp_room fit_recs rfl (rv (m.drop (k + 1))) rfl rfl (by rw [rv_len, List.length_drop]) (HNEWS.out) (rv_one _) (by omega) HCEL.out HFRZ.out ?_
    refine hK.out _ _ ?_ (fun hHeld => ?_)
    · trivial
    clear hK K
    try simp only [Act.put, List.setIfInBounds_toArray, List.set_cons_zero, List.set_cons_succ, List.getElem_toArray, List.getElem_cons_succ, List.getElem_cons_zero]
    refine wpAnyH_take (i := 7) (v := ?_) rfl (by kernel_rfl) (by kernel_rfl) (by kernel_rfl) (fun _ _ _ h => h) (Or.inl ⟨by rfl, ?_⟩) hHeld ?_
    rotate_left
    · intro W hSw
      have hq := hSw
      go_simp
      try with_reducible rfl
    try simp only [Act.put, List.setIfInBounds_toArray, List.set_cons_zero, List.set_cons_succ, List.getElem_toArray, List.getElem_cons_succ, List.getElem_cons_zero]
    refine wpAnyH_done (by kernel_rfl) ?_ _
    generalize (World.drew w).setCells g (k * 8) (rv (m.drop (k + 1))) = V at HBV HE HG HC2 HF2 ⊢
    clear hHeld hka hkb hkc
    have hkl : k + (m.length - (k + 1)) = m.length - 1 := by omega
    rw [hkl]
    have hl1 : m.length - (m.length - 1) = 1 := by omega
    clear hkl
    go_wp2_with (refine wpList_clear rfl rfl rfl HC2.out HF2.out ?_)
    go_ret
    exact ⟨rfl, HE.out, HG.out⟩

end Go.Proofs.Ytoagdpbbojlgfaa.Rs
