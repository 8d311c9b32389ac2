/-
  Appending rows to a row of one's own.
-/
import Derived.Test.YtoagdpbbojlgfaaGreatRowLies
import Derived.Laws.AppendOwn
import Derived.Maps.AppendAt
namespace Go.Proofs.YtoagdpbbojlgfaaGreat.Sto
open Go.ChangeShapes Go.WideShapes Go.ChangeAt Go.RowKit
open Dep (I D zero kl add_block add_add row_set get_ne get_eq)
set_option linter.unusedVariables false
set_option maxRecDepth 100000

/-- What a row of one's own reads as. -/
theorem own_lies {w : World} {base n : Nat} {v : Value} {o : List R} (h : w.ownsRow base 42 5 v n (flat o)) :
    n = o.length ∧ ∃ A c, v = slV A o c ∧ o.length ≤ c ∧ Lies w w.heap.size A o := by
  have hn : n = o.length := by have := h.1; rw [flat_length] at this; omega
  refine ⟨hn, ?_⟩
  subst hn
  rcases h.2 with ⟨rfl, h0⟩ | ⟨g, cap, cur, rfl, hb, hh, hnc, hcm, hsz, hx⟩
  · refine ⟨none, 0, by unfold slV; rw [h0], by omega, fun hp => absurd hp (by omega)⟩
  · refine ⟨_, cap, rfl, hnc, lies_of hh (Array.getElem?_eq_some_iff.1 hh).1 fun j hj => ?_⟩
    have key : ∀ r u, r < o.length * 5 → (flat o)[r]? = some u → cur[r]? = some u := fun r u hr hu => by
      rw [← Array.getElem?_toList]
      rw [← hx, List.getElem?_take, if_pos hr] at hu
      exact hu
    obtain ⟨g0, g1, g2, g3, g4⟩ := flat_at hj
    exact ⟨key (j * 5) _ (by omega) g0, key (j * 5 + 1) _ (by omega) g1, key (j * 5 + 2) _ (by omega) g2, key (j * 5 + 3) _ (by omega) g3, key (j * 5 + 4) _ (by omega) g4⟩

/-- append: the rows that a row of one's own holds, and those that a slice reads as, the slice nil or not. -/
theorem run_append_rows (base : Nat) (v : Value) (n : Nat) (o : List R) (w : World) (hown : w.ownsRow base 42 5 v n (flat o)) (B : Nat) (A : Option Addr) (m : List R) (c : Nat) (hr : Lies w B A m) (h63 : n + m.length ≤ 2097152) (hbase : base ≤ w.heap.size) :
    ∃ v' w', (Builtin.append_ #[98, 98] 98 #[v, slV A m c]).run Tryz.prog w = .ok v' w' ∧ w'.ownsRow base 42 5 v' (n + m.length) (flat (o ++ m)) ∧ w.grownBy w' v.ownBlock ∧
      (v'.ownBlock = v.ownBlock ∨ v'.ownBlock = some w.heap.size) := by
  obtain ⟨i0, hi0, hz0, hz1, hz2⟩ := info_parts row_info
  rw [flat_append]
  rcases A with _ | ad
  · have hm : m = [] := by
      cases m with
      | nil => rfl
      | cons d m => obtain ⟨ad, e, _⟩ := hr (by simp); cases e
    subst hm
    refine ⟨v, w, ?_, by simpa [flat] using hown, World.grownBy.refl w _, .inl rfl⟩
    unfold slV
    rcases hown.2 with ⟨rfl, rfl⟩ | ⟨g, cap, cur, rfl, _, _, hnc, _⟩
    · simp [Builtin.append_, run_underlying Tryz.underlying98, sizeOf, typeInfo, hi0, Builtin.lenOf, Builtin.firstCells]
    · simp [Builtin.append_, run_underlying Tryz.underlying98, sizeOf, typeInfo, hi0, Builtin.lenOf, Builtin.firstCells, hnc, storeCells]
  · obtain ⟨v', w', hrun, h2, h3, _, h5⟩ := run_append_own_at (P := Tryz.prog) w base 98 98 42 i0 _ 5 56 Tryz.underlying98 hi0 hz0 hz1 hz2 rfl (by omega) v n (flat o) hown ad m.length c (flat m) (flat_length m) (fun j u hu => hr.cell hu) (flat_one m) (by simp only [maxLen]; omega) (by omega) hbase
    exact ⟨v', w', hrun, h2, h3, h5⟩
end Go.Proofs.YtoagdpbbojlgfaaGreat.Sto
