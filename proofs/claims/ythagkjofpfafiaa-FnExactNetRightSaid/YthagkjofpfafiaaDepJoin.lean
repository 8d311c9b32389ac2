/-
  spec.l03Join: both together, in a row of its own.
-/
import Derived.Test.YthagkjofpfafiaaDepPut
import Derived.StillTailTactics
namespace Go.Proofs.Ythagkjofpfafiaa.Dep
open Go.ChangeShapes Go.WideShapes Go.ChangeAt Go.RowKit
set_option linter.unusedVariables false
set_option maxRecDepth 100000

attribute [local go_sem] sem_pure0 sem_store0

theorem run_append_deps2 (base : Nat) (v : Value) (n : Nat) (o : List D) (w : World) (hown : w.ownsRow base 108 4 v n (flat o)) (B : Nat) (A : Option Addr) (m : List D) (c : Nat) (hr : Lies w B A m) (h63 : n + m.length ≤ 4194304) (hbase : base ≤ w.heap.size) :
    ∃ v' w', (Builtin.append_ #[85, 85] 85 #[v, slV A m c]).run Try.prog w = .ok v' w' ∧ w'.ownsRow base 108 4 v' (n + m.length) (flat (o ++ m)) ∧ w.grownBy w' v.ownBlock ∧
      (v' = .slice none 0 0 → v = .slice none 0 0) := by
  obtain ⟨i0, hi0, hz0, hz1, hz2⟩ := info_parts dep_info
  rw [flat_append]
  rcases A with _ | ad
  · have hm : m = [] := by
      cases m with
      | nil => rfl
      | cons d m => obtain ⟨ad, e, _⟩ := hr (by simp); cases e
    subst hm
    refine ⟨v, w, ?_, by simpa [flat] using hown, World.grownBy.refl w _, id⟩
    unfold slV
    rcases hown.2 with ⟨rfl, rfl⟩ | ⟨g, cap, cur, rfl, _, _, hnc, _⟩
    · simp [Builtin.append_, run_underlying Try.underlying85, sizeOf, typeInfo, hi0, Builtin.lenOf, Builtin.firstCells]
    · simp [Builtin.append_, run_underlying Try.underlying85, sizeOf, typeInfo, hi0, Builtin.lenOf, Builtin.firstCells, hnc, storeCells]
  · obtain ⟨v', w', hrun, h2, h3, h4, h5⟩ := run_append_own_at (P := Try.prog) w base 85 85 108 i0 _ 4 40 Try.underlying85 hi0 hz0 hz1 hz2 rfl (by omega) v n (flat o) hown ad m.length c (flat m) (flat_length m) (fun j u hu => hr.cell hu) (flat_one m) (by simp only [maxLen]; omega) (by omega) hbase
    exact ⟨v', w', hrun, h2, h3, fun e => (h4.1 e).1⟩

theorem wpList_append_deps2 {ops : Array Oper} {rest : List Oper} {o : Oper} {a : Act} {w : World} {Q : Exit → Act → World → Prop} (hgd : o.guard = none) {s x : Operand}
    (ho : o.op = .call { callee := .builtin .append, args := #[s, x], argTypes := #[85, 85] }) (hty : o.type = 85) {base : Nat} {v : Value} {n : Nat} {l : List D} {A : Option Addr} {j c B : Nat} (m : List D)
    (hs : a.eval s = v) (hx : a.eval x = .slice A j c) (hj : m.length = j) (hown : w.ownsRow base 108 4 v n (flat l)) (hr : Lies w B A m) (h63 : n + m.length ≤ 4194304) (hbase : base ≤ w.heap.size)
    (h : ∀ v' w', w'.ownsRow base 108 4 v' (n + m.length) (flat (l ++ m)) → w.grownBy w' v.ownBlock → (v' = .slice none 0 0 → v = .slice none 0 0) → wpList Try.prog ops Q rest (a.put o.dst v') w') : wpList Try.prog ops Q (o :: rest) a w := by
  refine wpList_plain hgd fun K hK => ?_
  obtain ⟨v', w', hrun, h2, h3, h4⟩ := run_append_deps2 base v n l w hown B A m c hr h63 hbase
  unfold slV at hrun
  rw [hj] at hrun
  unfold Oper.wp execOp
  rw [hty]
  simp only [ho, resolve, invoke, builtin, Sem.run_bind, Sem.run_pure, Result.andThen_ok, List.map_toArray, List.map_cons, List.map_nil, hs, hx, hrun]
  exact hK _ _ (h v' w' h2 h3 h4)

/-- A row of one's own that is not nil, as a slice with an address. -/
theorem own_addr {w : World} {base n : Nat} {v : Value} {o : List D} (h : w.ownsRow base 108 4 v n (flat o)) (hv : v = .slice none 0 0 → False) :
    n = o.length ∧ ∃ ad c, v = slV (some ad) o c ∧ o.length ≤ c ∧ c ≤ maxLen ∧ Lies w w.heap.size (some ad) o := by
  obtain ⟨hn, A, c, e, hc, hL⟩ := own_lies h
  refine ⟨hn, ?_⟩
  rcases h.2 with ⟨rfl, _⟩ | ⟨g, cap, cur, rfl, _, _, _, hcm, _⟩
  · exact absurd rfl hv
  · unfold slV at e
    injection e with e1 e2 e3
    subst e1 e3
    exact ⟨_, _, by unfold slV; rw [hn], hc, hcm, hL⟩
theorem put_ne {w : World} {base n : Nat} {v : Value} {l : List D} {q : ByteArray} {x : I} (h : w.ownsRow base 108 4 v n (flat (putV l q x))) : v = .slice none 0 0 → False := by
  rintro rfl
  obtain ⟨hn, A, c, e, hc, hL⟩ := own_lies h
  rcases h.2 with ⟨_, h0⟩ | ⟨g, cap, cur, e, _⟩
  · have : 0 < (putV l q x).length := by
      cases l with
      | nil => simp [putV]
      | cons y l => rw [putV]; split <;> (try split) <;> simp
    omega
  · cases e
theorem join_step (a b : List D) (k : Nat) (h : k < b.length) : joinV a (b.take (k + 1)) = putV (joinV a (b.take k)) b[k].k b[k].i := by
  unfold joinV
  rw [show b.take (k + 1) = b.take k ++ [b[k]] by simp, List.foldl_append]
  rfl

end Go.Proofs.Ythagkjofpfafiaa.Dep
