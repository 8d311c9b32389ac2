/-
  Appending deps to a row of one's own.
-/
import Derived.Test.YthagkjofpfafiaaDepToS
import Derived.Laws.AppendOwn
import Derived.Maps.AppendAt
namespace Go.Proofs.Ythagkjofpfafiaa.Dep
open Go.ChangeShapes Go.WideShapes Go.ChangeAt Go.RowKit
set_option linter.unusedVariables false
set_option maxRecDepth 100000

/-- The cells of deps. -/
def flat (l : List D) : List Value := l.flatMap fun d => [.string d.k, .int .i64 d.i.c, .int .i64 d.i.s, .int .i64 d.i.e]
theorem flat_cons (d : D) (l : List D) : flat (d :: l) = .string d.k :: .int .i64 d.i.c :: .int .i64 d.i.s :: .int .i64 d.i.e :: flat l := by simp [flat]
theorem flat_append (l m : List D) : flat (l ++ m) = flat l ++ flat m := by simp [flat]
theorem flat_length (l : List D) : (flat l).length = l.length * 4 := by
  induction l with
  | nil => rfl
  | cons d l ih => rw [flat_cons]; simp [ih]; omega
theorem flat_at {l : List D} {q : Nat} (hq : q < l.length) :
    (flat l)[q * 4]? = some (.string l[q].k) ∧ (flat l)[q * 4 + 1]? = some (.int .i64 l[q].i.c) ∧ (flat l)[q * 4 + 2]? = some (.int .i64 l[q].i.s) ∧ (flat l)[q * 4 + 3]? = some (.int .i64 l[q].i.e) := by
  induction l generalizing q with
  | nil => simp at hq
  | cons d l ih =>
    rw [flat_cons]
    cases q with
    | zero => simp
    | succ q =>
      have := ih (q := q) (by simpa using hq)
      rw [show (q + 1) * 4 = q * 4 + 1 + 1 + 1 + 1 by omega]
      simpa using this
theorem flat_one (l : List D) : ∀ u ∈ flat l, u.oneCell' = true := by
  intro u hu
  simp only [flat, List.mem_flatMap] at hu
  obtain ⟨d, _, hu⟩ := hu
  rcases List.mem_cons.1 hu with rfl | hu
  · rfl
  rcases List.mem_cons.1 hu with rfl | hu
  · rfl
  rcases List.mem_cons.1 hu with rfl | hu
  · rfl
  rcases List.mem_cons.1 hu with rfl | hu
  · rfl
  · cases hu

theorem addr_next (a : Addr) (i r : Nat) (hr : 0 < r) : (⟨(a.add i).block, (a.add i).off + r, none⟩ : Addr) = a.add (i + r) := by
  unfold Addr.add
  by_cases hi : i = 0
  · subst hi; rw [if_pos rfl, if_neg (by omega)]; simp
  · rw [if_neg hi, if_neg (by omega)]; simp [Nat.add_assoc]
/-- The cells that lie at an address. -/
theorem Lies.cell {w : World} {B : Nat} {ad : Addr} {l : List D} (h : Lies w B (some ad) l) {j : Nat} {u : Value} (hu : (flat l)[j]? = some u) : w.cell? (ad.add j) = some u := by
  have hj : j < l.length * 4 := by rw [← flat_length]; exact (List.getElem?_eq_some_iff.1 hu).1
  have hq : j / 4 < l.length := by omega
  obtain ⟨ad', e, _, c0, c1, c2, c3⟩ := h.at_ hq
  cases e
  obtain ⟨g0, g1, g2, g3⟩ := flat_at hq
  rcases (show j = j / 4 * 4 ∨ j = j / 4 * 4 + 1 ∨ j = j / 4 * 4 + 2 ∨ j = j / 4 * 4 + 3 by omega) with e | e | e | e
  · rw [e] at hu ⊢; rw [g0] at hu; rw [← hu]; exact c0
  · rw [e] at hu ⊢; rw [g1] at hu; rw [← hu, ← addr_next _ _ 1 (by omega)]; exact c1
  · rw [e] at hu ⊢; rw [g2] at hu; rw [← hu, ← addr_next _ _ 2 (by omega)]; exact c2
  · rw [e] at hu ⊢; rw [g3] at hu; rw [← hu, ← addr_next _ _ 3 (by omega)]; exact c3
theorem Lies.take {w : World} {B : Nat} {A : Option Addr} {l : List D} (h : Lies w B A l) (k : Nat) : Lies w B A (l.take k) := fun h0 => by
  rw [List.length_take] at h0
  obtain ⟨ad, e, hb, hc⟩ := h (by omega)
  refine ⟨ad, e, hb, fun j hj => ?_⟩
  rw [List.length_take] at hj
  rw [List.getElem_take]
  exact hc j (by omega)
theorem Lies.drop {w : World} {B cap : Nat} {A : Option Addr} {l : List D} (h : Lies w B A l) (k : Nat) (hcap : l.length ≤ cap) : Lies w B (if cap = k then A else A.map (·.add (k * 4))) (l.drop k) := fun h0 => by
  rw [List.length_drop] at h0
  obtain ⟨ad, rfl, hb, hc⟩ := h (by omega)
  rw [if_neg (by omega)]
  refine ⟨ad.add (k * 4), rfl, by rw [add_block]; exact hb, fun j hj => ?_⟩
  rw [List.length_drop] at hj
  rw [List.getElem_drop, add_add, show k * 4 + j * 4 = (k + j) * 4 by omega]
  exact hc (k + j) (by omega)

/-- What a row of one's own reads as. -/
theorem own_lies {w : World} {base n : Nat} {v : Value} {o : List D} (h : w.ownsRow base 108 4 v n (flat o)) :
    n = o.length ∧ ∃ A c, v = slV A o c ∧ o.length ≤ c ∧ Lies w w.heap.size A o := by
  have hn : n = o.length := by have := h.1; rw [flat_length] at this; omega
  refine ⟨hn, ?_⟩
  subst hn
  rcases h.2 with ⟨rfl, h0⟩ | ⟨g, cap, cur, rfl, hb, hh, hnc, hcm, hsz, hx⟩
  · refine ⟨none, 0, by unfold slV; rw [h0], by omega, fun hp => absurd hp (by omega)⟩
  · refine ⟨_, cap, rfl, hnc, fun hp => ⟨_, rfl, (Array.getElem?_eq_some_iff.1 hh).1, fun j hj => ?_⟩⟩
    have key : ∀ r u, r < o.length * 4 → (flat o)[r]? = some u → w.cell? ⟨g, r, none⟩ = some u := fun r u hr hu => by
      rw [cell_of_row w g r cur _ (0, 0) hh, ← Array.getElem?_toList]
      rw [← hx, List.getElem?_take, if_pos hr] at hu
      exact hu
    obtain ⟨g0, g1, g2, g3⟩ := flat_at hj
    have e : (Addr.add ⟨g, 0, none⟩ (j * 4)) = ⟨g, j * 4, none⟩ := by
      unfold Addr.add
      split
      · rename_i h; rw [h]
      · simp
    rw [e]
    exact ⟨key (j * 4) _ (by omega) g0, key (j * 4 + 1) _ (by omega) g1, key (j * 4 + 2) _ (by omega) g2, key (j * 4 + 3) _ (by omega) g3⟩

/-- append: the deps that a row of one's own holds, and those that a slice reads as, the slice nil or not. -/
theorem run_append_deps (base : Nat) (v : Value) (n : Nat) (o : List D) (w : World) (hown : w.ownsRow base 108 4 v n (flat o)) (B : Nat) (A : Option Addr) (m : List D) (c : Nat) (hr : Lies w B A m) (h63 : n + m.length ≤ 4194304) (hbase : base ≤ w.heap.size) :
    ∃ v' w', (Builtin.append_ #[85, 85] 85 #[v, slV A m c]).run Try.prog w = .ok v' w' ∧ w'.ownsRow base 108 4 v' (n + m.length) (flat (o ++ m)) ∧ w.grownBy w' v.ownBlock ∧
      (v'.ownBlock = v.ownBlock ∨ v'.ownBlock = some w.heap.size) := by
  obtain ⟨i0, hi0, hz0, hz1, hz2⟩ := info_parts dep_info
  rw [flat_append]
  rcases A with _ | ad
  · have hm : m = [] := by
      cases m with
      | nil => rfl
      | cons d m => obtain ⟨ad, e, _⟩ := hr (by simp); cases e
    subst hm
    refine ⟨v, w, ?_, by simpa [flat] using hown, World.grownBy.refl w _, .inl rfl⟩
    unfold slV
    rcases hown.2 with ⟨rfl, rfl⟩ | ⟨g, cap, cur, rfl, _, _, hnc, _⟩
    · simp [Builtin.append_, run_underlying Try.underlying85, sizeOf, typeInfo, hi0, Builtin.lenOf, Builtin.firstCells]
    · simp [Builtin.append_, run_underlying Try.underlying85, sizeOf, typeInfo, hi0, Builtin.lenOf, Builtin.firstCells, hnc, storeCells]
  · obtain ⟨v', w', hrun, h2, h3, _, h5⟩ := run_append_own_at (P := Try.prog) w base 85 85 108 i0 _ 4 40 Try.underlying85 hi0 hz0 hz1 hz2 rfl (by omega) v n (flat o) hown ad m.length c (flat m) (flat_length m) (fun j u hu => hr.cell hu) (flat_one m) (by simp only [maxLen]; omega) (by omega) hbase
    exact ⟨v', w', hrun, h2, h3, h5⟩
end Go.Proofs.Ythagkjofpfafiaa.Dep
