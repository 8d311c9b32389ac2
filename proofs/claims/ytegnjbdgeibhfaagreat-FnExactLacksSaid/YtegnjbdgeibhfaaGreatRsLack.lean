/-
  Lacks of the model and of the program.
-/
import Derived.Test.YtegnjbdgeibhfaaGreatRsSeen
import Derived.Test.YtegnjbdgeibhfaaGreatRsRecL
namespace Go.Proofs.YtegnjbdgeibhfaaGreat.Rs
open Go.ChangeShapes Go.WideShapes Go.ChangeAt Go.RowKit
open Rec (R P Sound recV cellsV recB needsR needsR_no needsR_len rec_of)
open Net (Cl Bk HeldV)
open Dep (D I depsB ofV Four)
set_option linter.unusedVariables false
set_option maxRecDepth 100000
set_option linter.unusedSimpArgs false
attribute [local go_sem] Dep.sem_pure0 Dep.sem_store0

/-- What is not covered. -/
def lackV (M l : List D) : List D := l.filter fun d => (ofV M d.k).less d.i
theorem lack_yes {M : List D} {l : List D} {k : Nat} (h : k < l.length) (ht : (ofV M l[k].k).less l[k].i = true) : lackV M (l.take (k + 1)) = lackV M (l.take k) ++ [l[k]] := by
  unfold lackV; rw [take_snoc l k h, List.filter_append]; simp [ht]
theorem lack_no {M : List D} {l : List D} {k : Nat} (h : k < l.length) (ht : (ofV M l[k].k).less l[k].i = false) : lackV M (l.take (k + 1)) = lackV M (l.take k) := by
  unfold lackV; rw [take_snoc l k h, List.filter_append]; simp [ht]
theorem lack_len (M l : List D) : (lackV M l).length ≤ l.length := List.length_filter_le _ _

/-- A dep in a block of its own; what was there when it was made. -/
abbrev Fiv (w w1 : World) (n : Nat) (d : D) (W : World) : Prop :=
  (W.cell? ⟨n, 0, none⟩ = some (.string d.k) ∧ W.cell? ⟨n, 1, none⟩ = some (.int .i64 d.i.c) ∧ W.cell? ⟨n, 2, none⟩ = some (.int .i64 d.i.s) ∧ W.cell? ⟨n, 3, none⟩ = some (.int .i64 d.i.e)) ∧ Below w.heap.size w W ∧ Below w1.heap.size w1 W
theorem Fiv.step {w w1 W W' : World} {n : Nat} {d : D} (h : Fiv w w1 n d W) (hb : Below W.heap.size W W') : Fiv w w1 n d W' :=
  ⟨⟨Lib.Below.cellOf hb h.1.1 (Nat.le_refl _), Lib.Below.cellOf hb h.1.2.1 (Nat.le_refl _), Lib.Below.cellOf hb h.1.2.2.1 (Nat.le_refl _), Lib.Below.cellOf hb h.1.2.2.2 (Nat.le_refl _)⟩, h.2.1.trans (hb.mono h.2.1.size), h.2.2.trans (hb.mono h.2.2.size)⟩
theorem Fiv.drew {w w1 W : World} {n : Nat} {d : D} (h : Fiv w w1 n d W) : Fiv w w1 n d W.drew := ⟨h.1, h.2.1.drew, h.2.2.drew⟩
theorem Fiv.below {w w1 W : World} {n : Nat} {d : D} (h : Fiv w w1 n d W) : Below w.heap.size w W := h.2.1

set_option maxHeartbeats 4000000 in
set_option maxRecDepth 100000 in
theorem lacked_any (A B : Option Addr) (M l : List D) (ca cb : Nat) (w : World) (ha : Dep.Lies w w.heap.size A M) (hb : Dep.Lies w w.heap.size B l) (hM : M.length ≤ maxLen) (hl : l.length ≤ 1000000) :
    Calls Tryz.prog 84 #[Dep.slV A M ca, Dep.slV B l cb] w fun e w' => ∃ A' c, e = .returned (Dep.slV A' (lackV M l) c) ∧ Dep.Held w' A' (lackV M l) w.heap.size w'.heap.size ∧ Below w.heap.size w w' := by
  have H := Lib.hid hb
  have HC := Lib.hid (fun (q : ByteArray) (W : World) (hW : Below w.heap.size w W) => Dep.implAt_any A M ca q W ((ha.below hW (Nat.le_refl _)).more hW.size) hM)
  clear ha hb hM
  unfold Dep.slV at HC ⊢
  go_enter Tryz.func84, Tryz.ntmps84
  go_wp2_with fail
  go_loopw [5, 10] (fun o i wr => ∃ k : Nat, k ≤ l.length ∧ i = .int .i64 k ∧ Hid (wr.ownsRow w.heap.size 103 4 o (lackV M (l.take k)).length (Dep.flat (lackV M (l.take k))) ∧ Below w.heap.size w wr)) (fun _ i _ => l.length - (intOf i).toNat)
  case atStart => exact ⟨0, by omega, rfl, Lib.hid ⟨Dep.own_nil _ _, Below.refl _ _⟩⟩
  case round =>
    obtain ⟨k, hk, rfl, HR⟩ := hrel
    by_cases hlt : k < l.length
    · obtain ⟨ad, rfl, _, c0, c1, c2, c3⟩ := (H.out.below HR.out.2 (Nat.le_refl _)).at_ hlt
      have HY := Lib.hid (fun ht => lack_yes (M := M) hlt ht)
      have HN := Lib.hid (fun ht => lack_no (M := M) hlt ht)
      have HU := Lib.hid (lack_len M (l.take k))
      obtain ⟨y, hy⟩ : ∃ y, l[k] = y := ⟨_, rfl⟩
      rw [hy] at c0 c1 c2 c3 HY HN
      clear hy
      obtain ⟨t, ht⟩ : ∃ t, (ofV M y.k).less y.i = t := ⟨_, rfl⟩
      have HT := Lib.hid ht
      rw [ht] at HY HN
      clear ht
      have HO := Lib.hid (Dep.own_alloc HR.out.1 y.obj)
      have hst0 : Four w wr.heap.size y (wr.alloc y.obj) := ⟨(Dep.DepRow.new wr 103 y.k y.i.c y.i.s y.i.e).cells, HR.out.2.alloc HR.out.2.size _⟩
      go_wp2_with fail
      generalize World.alloc wr _ = W1 at hst0 HO ⊢
      generalize wr.heap.size = n at hst0 ⊢
      have hst : Fiv w W1 n y W1 := ⟨hst0.1, hst0.2, Below.refl _ _⟩
      clear hst0
      go_region_held3 (fun W => (W.cell? ⟨n, 0, none⟩ = some (.string y.k) ∧ W.cell? ⟨n, 1, none⟩ = some (.int .i64 y.i.c) ∧ W.cell? ⟨n, 2, none⟩ = some (.int .i64 y.i.s) ∧ W.cell? ⟨n, 3, none⟩ = some (.int .i64 y.i.e)) ∧ Below w.heap.size w W ∧ Below W1.heap.size W1 W)
        (first | exact Fiv.drew (by assumption) | exact Fiv.step (by assumption) hb)
        (first | (go_at_call 132; refine (HC.out y.k _ (Fiv.below (by assumption))).mono ?_; rintro x w' ⟨rfl, hb⟩) | (go_at_call 138; refine (Dep.implLessI_any (ofV M y.k) y.i _).mono ?_; rintro x w' ⟨rfl, hb⟩; rw [HT.out]))
      have hend : Fiv w W1 n y w' := by assumption
      have HE := Lib.hid hend.2.1
      have HO2 := Lib.hid (o_step HO.out hend.2.2 (Nat.le_refl _))
      cases t
      · have e4 := HN.out rfl
        clear hend hst c0 c1 c2 c3
        go_wp2_with fail
        go_roundw
        case rel => exact ⟨k + 1, by omega, by go_num, Lib.hid ⟨by rw [e4]; exact HO2.out, HE.out⟩⟩
        case measure => simp [intOf]; omega
      · have HY4 := Lib.hid (HY.out rfl)
        obtain ⟨x0, x1, x2, x3⟩ := hend.1
        clear hend hst c0 c1 c2 c3
        go_wp2_with (at_builtin; refine Dep.wpList_append_deps rfl rfl rfl [y] rfl rfl rfl (Dep.own_alloc HO2.out y.obj) (one_lies_at w' y rfl) (by have := HU.out; rw [List.length_take] at this; simp; omega) (by have := HE.out.size; simp; omega) ?_; intro v2 W2 ho2 hg2; have hBg := (HE.out.alloc HE.out.size y.obj).grown hg2 (by have := HE.out.size; simp; omega) (Dep.ownBlock_base HO2.out); have B2 := Lib.hid hBg; rw [← HY4.out] at ho2; have O2 := Lib.hid ho2; clear ho2 hg2 hBg)
        go_roundw
        case rel =>
          refine ⟨k + 1, by omega, by go_num, Lib.hid ⟨?_, B2.out⟩⟩
          have e5 : (lackV M (l.take k)).length + 1 = (lackV M (l.take (k + 1))).length := by rw [HY4.out]; simp
          rw [← e5]
          exact O2.out
        case measure => simp [intOf]; omega
    · have e3 : l.take k = l := List.take_of_length_le (by omega)
      rw [e3] at HR
      clear e3
      go_wp2_with fail
      go_ret
      obtain ⟨A', c, ev, hc, hh⟩ := held_own HR.out.1
      exact ⟨A', c, congrArg Ending.returned ev, hh, HR.out.2⟩

theorem fit_deps : AppFit 28 103 4 := by
  obtain ⟨i0, hi0, hz0, hz1, hz2⟩ := info_parts Dep.dep_info
  exact ⟨Tryz.underlying28, by omega, i0, _, hi0, hz0, hz1, by rw [hz2]; omega, rfl⟩
/-- As wpList_app; and the answer lies where its slice lay, or in a new block. -/
theorem wpList_app5 {ts te size : Nat} (hf : AppFit ts te size) {ops : Array Oper} {rest : List Oper} {o : Oper} {a : Act} {w : World} {Q : Exit → Act → World → Prop} (hgd : o.guard = none) {s x : Operand}
    (ho : o.op = .call { callee := .builtin .append, args := #[s, x], argTypes := #[ts, ts] }) (hty : o.type = ts) {base : Nat} {v : Value} {n : Nat} {xs : List Value} {ad : Addr} {m c : Nat} (ys : List Value)
    (hs : a.eval s = v) (hx : a.eval x = .slice (some ad) m c) (hown : w.ownsRow base te size v n xs) (hr : ∀ (j : Nat) (u : Value), ys[j]? = some u → w.cell? (ad.add j) = some u) (hy : ys.length = m * size) (h1 : ∀ u ∈ ys, u.oneCell' = true) (h63 : n + m ≤ 1048576) (hbase : base ≤ w.heap.size)
    (h : ∀ v' w', w'.ownsRow base te size v' (n + m) (xs ++ ys) → w.grownBy w' v.ownBlock → (v'.ownBlock = v.ownBlock ∨ v'.ownBlock = some w.heap.size) → wpList Tryz.prog ops Q rest (a.put o.dst v') w') : wpList Tryz.prog ops Q (o :: rest) a w := by
  refine wpList_plain hgd fun K hK => ?_
  obtain ⟨hu, hs0, i0, z, hi0, hz0, hz1, hz2, hz3⟩ := hf
  obtain ⟨v', w', hrun, h2, h3, h4, h5⟩ := run_append_own_at (P := Tryz.prog) w base ts ts te i0 z size i0.bytes hu hi0 hz0 hz1 rfl hz3 hs0 v n xs hown ad m c ys hy hr h1 (by simp only [maxLen]; omega) (by have := Nat.mul_le_mul (show n + m ≤ 1048576 from h63) hz2; omega) hbase
  unfold Oper.wp execOp
  rw [hty]
  simp only [ho, resolve, invoke, builtin, Sem.run_bind, Sem.run_pure, Result.andThen_ok, List.map_toArray, List.map_cons, List.map_nil, hs, hx, hrun]
  exact hK _ _ (h v' w' h2 h3 h5)
theorem dep_cells (W : World) (y : D) (j : Nat) (u : Value) (h : (Dep.flat [y])[j]? = some u) : (W.alloc y.obj).cell? ((⟨W.heap.size, 0, none⟩ : Addr).add j) = some u := by
  have hb : (W.alloc y.obj).heap[W.heap.size]? = _ := heap_alloc_new W y.obj
  rw [Net.addr0, cell_of_row _ _ j _ _ (0, 0) hb]
  simpa [Dep.flat] using h

/-- What a record lacks on a shelf. -/
noncomputable def lackC (p : List R × List R) (r : R) : List D := if cutB p.1 p.2 = true then lackV (mk p.1) (needsR r) else []
theorem lackC_no {p : List R × List R} {r : R} (h : cutB p.1 p.2 = false) : lackC p r = [] := by unfold lackC; rw [if_neg (by rw [h]; exact Bool.noConfusion)]
theorem lackC_yes {p : List R × List R} {r : R} (h : cutB p.1 p.2 = true) : lackC p r = lackV (mk p.1) (needsR r) := by unfold lackC; rw [if_pos h]
theorem lackC_bad {p : List R × List R} {r : R} (h : recB r = false) : lackC p r = [] := by
  unfold lackC
  rw [needsR_no h]
  split <;> rfl
theorem lackC_len (p : List R × List R) (r : R) : (lackC p r).length ≤ 6 := by
  cases h : cutB p.1 p.2
  · rw [lackC_no h]; simp
  · rw [lackC_yes h]; exact Nat.le_trans (lack_len _ _) (needsR_len r)
end Go.Proofs.YtegnjbdgeibhfaaGreat.Rs
