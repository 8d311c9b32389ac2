/-
  spec.l03Join: both together, in a row of its own.
-/
import Derived.Test.YtkmlnibkdcdegaaDepPut
import Derived.StillTailTactics
namespace Go.Proofs.Ytkmlnibkdcdegaa.Dep
open Go.ChangeShapes Go.WideShapes Go.ChangeAt Go.RowKit
set_option linter.unusedVariables false
set_option maxRecDepth 100000

attribute [local go_sem] sem_pure0 sem_store0

theorem run_append_deps2 (base : Nat) (v : Value) (n : Nat) (o : List D) (w : World) (hown : w.ownsRow base 66 4 v n (flat o)) (B : Nat) (A : Option Addr) (m : List D) (c : Nat) (hr : Lies w B A m) (h63 : n + m.length ≤ 4194304) (hbase : base ≤ w.heap.size) :
    ∃ v' w', (Builtin.append_ #[23, 23] 23 #[v, slV A m c]).run Try.prog w = .ok v' w' ∧ w'.ownsRow base 66 4 v' (n + m.length) (flat (o ++ m)) ∧ w.grownBy w' v.ownBlock ∧
      (v' = .slice none 0 0 → v = .slice none 0 0) := by
  obtain ⟨i0, hi0, hz0, hz1, hz2⟩ := info_parts dep_info
  rw [flat_append]
  rcases A with _ | ad
  · have hm : m = [] := by
      cases m with
      | nil => rfl
      | cons d m => obtain ⟨ad, e, _⟩ := hr (by simp); cases e
    subst hm
    refine ⟨v, w, ?_, by simpa [flat] using hown, World.grownBy.refl w _, id⟩
    unfold slV
    rcases hown.2 with ⟨rfl, rfl⟩ | ⟨g, cap, cur, rfl, _, _, hnc, _⟩
    · simp [Builtin.append_, run_underlying Try.underlying23, sizeOf, typeInfo, hi0, Builtin.lenOf, Builtin.firstCells]
    · simp [Builtin.append_, run_underlying Try.underlying23, sizeOf, typeInfo, hi0, Builtin.lenOf, Builtin.firstCells, hnc, storeCells]
  · obtain ⟨v', w', hrun, h2, h3, h4, h5⟩ := run_append_own_at (P := Try.prog) w base 23 23 66 i0 _ 4 40 Try.underlying23 hi0 hz0 hz1 hz2 rfl (by omega) v n (flat o) hown ad m.length c (flat m) (flat_length m) (fun j u hu => hr.cell hu) (flat_one m) (by simp only [maxLen]; omega) (by omega) hbase
    exact ⟨v', w', hrun, h2, h3, fun e => (h4.1 e).1⟩

theorem wpList_append_deps2 {ops : Array Oper} {rest : List Oper} {o : Oper} {a : Act} {w : World} {Q : Exit → Act → World → Prop} (hgd : o.guard = none) {s x : Operand}
    (ho : o.op = .call { callee := .builtin .append, args := #[s, x], argTypes := #[23, 23] }) (hty : o.type = 23) {base : Nat} {v : Value} {n : Nat} {l : List D} {A : Option Addr} {j c B : Nat} (m : List D)
    (hs : a.eval s = v) (hx : a.eval x = .slice A j c) (hj : m.length = j) (hown : w.ownsRow base 66 4 v n (flat l)) (hr : Lies w B A m) (h63 : n + m.length ≤ 4194304) (hbase : base ≤ w.heap.size)
    (h : ∀ v' w', w'.ownsRow base 66 4 v' (n + m.length) (flat (l ++ m)) → w.grownBy w' v.ownBlock → (v' = .slice none 0 0 → v = .slice none 0 0) → wpList Try.prog ops Q rest (a.put o.dst v') w') : wpList Try.prog ops Q (o :: rest) a w := by
  refine wpList_plain hgd fun K hK => ?_
  obtain ⟨v', w', hrun, h2, h3, h4⟩ := run_append_deps2 base v n l w hown B A m c hr h63 hbase
  unfold slV at hrun
  rw [hj] at hrun
  unfold Oper.wp execOp
  rw [hty]
  simp only [ho, resolve, invoke, builtin, Sem.run_bind, Sem.run_pure, Result.andThen_ok, List.map_toArray, List.map_cons, List.map_nil, hs, hx, hrun]
  exact hK _ _ (h v' w' h2 h3 h4)

/-- A row of one's own that is not nil, as a slice with an address. -/
theorem own_addr {w : World} {base n : Nat} {v : Value} {o : List D} (h : w.ownsRow base 66 4 v n (flat o)) (hv : v = .slice none 0 0 → False) :
    n = o.length ∧ ∃ ad c, v = slV (some ad) o c ∧ o.length ≤ c ∧ c ≤ maxLen ∧ Lies w w.heap.size (some ad) o := by
  obtain ⟨hn, A, c, e, hc, hL⟩ := own_lies h
  refine ⟨hn, ?_⟩
  rcases h.2 with ⟨rfl, _⟩ | ⟨g, cap, cur, rfl, _, _, _, hcm, _⟩
  · exact absurd rfl hv
  · unfold slV at e
    injection e with e1 e2 e3
    subst e1 e3
    exact ⟨_, _, by unfold slV; rw [hn], hc, hcm, hL⟩
theorem put_ne {w : World} {base n : Nat} {v : Value} {l : List D} {q : ByteArray} {x : I} (h : w.ownsRow base 66 4 v n (flat (putV l q x))) : v = .slice none 0 0 → False := by
  rintro rfl
  obtain ⟨hn, A, c, e, hc, hL⟩ := own_lies h
  rcases h.2 with ⟨_, h0⟩ | ⟨g, cap, cur, e, _⟩
  · have : 0 < (putV l q x).length := by
      cases l with
      | nil => simp [putV]
      | cons y l => rw [putV]; split <;> (try split) <;> simp
    omega
  · cases e
theorem join_step (a b : List D) (k : Nat) (h : k < b.length) : joinV a (b.take (k + 1)) = putV (joinV a (b.take k)) b[k].k b[k].i := by
  unfold joinV
  rw [show b.take (k + 1) = b.take k ++ [b[k]] by simp, List.foldl_append]
  rfl

set_option maxHeartbeats 600000 in
set_option maxRecDepth 100000 in
theorem specJoin_any (A B : Option Addr) (a b : List D) (ca cb : Nat) (w : World) (ha : Lies w w.heap.size A a) (hb : Lies w w.heap.size B b) (hla : a.length ≤ 400) (hlb : b.length ≤ 400) :
    Calls Try.prog 53 #[slV A a ca, slV B b cb] w fun e w' => ∃ v, e = .returned v ∧ w'.ownsRow w.heap.size 66 4 v (joinV a b).length (flat (joinV a b)) ∧ (v = .slice none 0 0 → False) ∧ Below w.heap.size w w' := by
  have HA := Lib.hid (ha.alloc (Nat.le_refl _) (Obj.cells #[] 66))
  have HB := Lib.hid hb
  clear ha hb
  unfold slV
  go_enter Try.func53, Try.ntmps53
  go_wp2_with (at_builtin; refine wpList_append_deps2 rfl rfl rfl a rfl rfl rfl (own_none w) HA.out (by omega) (by simp) ?_; intro v1 W1 ho1 hg1 hn1; rw [Nat.zero_add, List.nil_append] at ho1; have B1 := Lib.hid (((Below.refl w.heap.size w).alloc (Nat.le_refl _) _).grown hg1 (by simp) (fun j e => by cases e; exact Nat.le_refl _)); have HO1 := Lib.hid ho1; have HN1 := Lib.hid (fun e => by cases hn1 e : v1 = .slice none 0 0 → False); clear ho1 hg1 hn1)
  obtain ⟨_, ad, c, rfl, hc1, hc2, hL⟩ := own_addr HO1.out HN1.out
  unfold slV
  go_loopw [5, 6] (fun o i wr => ∃ k : Nat, k ≤ b.length ∧ i = .int .i64 k ∧ ∃ ad c, o = .slice (some ad) (joinV a (b.take k)).length c ∧ Hid (wr.ownsRow w.heap.size 66 4 (slV (some ad) (joinV a (b.take k)) c) (joinV a (b.take k)).length (flat (joinV a (b.take k))) ∧ ((joinV a (b.take k)).length ≤ c ∧ c ≤ maxLen ∧ Lies wr wr.heap.size (some ad) (joinV a (b.take k))) ∧ Below w.heap.size w wr)) (fun _ i _ => b.length - (intOf i).toNat)
  case atStart => exact ⟨0, by omega, rfl, ad, c, rfl, Lib.hid ⟨HO1.out, ⟨hc1, hc2, hL⟩, B1.out⟩⟩
  case round =>
    obtain ⟨k, hk, rfl, ad2, cc, rfl, HR⟩ := hrel
    by_cases hlt : k < b.length
    · obtain ⟨bd, rfl, _, c0, c1, c2, c3⟩ := (HB.out.below HR.out.2.2 (Nat.le_refl _)).at_ hlt
      go_upto_region 5 with fail
      refine wp_region_still_tail 11 (by kernel_rfl) (by kernel_rfl) ?_
      change wpStill _ _ (World.drew _) (fun a' => wpList _ _ _ _ a' (World.drew _)) _ _
      simp only [List.take_succ_cons, List.take_zero, List.drop_succ_cons, List.drop_zero]
      repeat still_step
      refine wpStill_nil ?_
      go_wp2_with fail
      have hlen := length_join (b.take k) a
      rw [List.length_take] at hlen
      refine (specPut_any ad2 (joinV a (b.take k)) cc b[k].k b[k].i wr.drew HR.out.2.1.2.2.drew (by omega) HR.out.2.1.1 HR.out.2.1.2.1).mono ?_
      rintro e w2 ⟨v, rfl, ho2, hb2⟩
      obtain ⟨_, ad3, c4, rfl, hd1, hd2, hL3⟩ := own_addr ho2 (put_ne ho2)
      have HJ := Lib.hid (join_step a b k hlt)
      rw [← HJ.out] at ho2 hd1 hL3
      have HO := Lib.hid (own_less ho2 (base' := w.heap.size) HR.out.2.2.size)
      have HB2 := Lib.hid ((HR.out.2.2.drew).trans (hb2.mono HR.out.2.2.size))
      have H3 := Lib.hid hL3
      rw [← HJ.out]
      clear ho2 hb2 hL3 c0 c1 c2 c3
      unfold slV
      go_wp2_with fail
      go_roundw
      case rel => exact ⟨k + 1, by omega, by go_num, ad3, c4, rfl, Lib.hid ⟨HO.out, ⟨hd1, hd2, H3.out⟩, HB2.out⟩⟩
      case measure => simp [intOf]; omega
    · have e : k = b.length := by omega
      go_wp2_with fail
      go_ret
      have h1 := HR.out.1
      rw [List.take_of_length_le (by omega)] at h1
      exact ⟨_, rfl, h1, (fun e => by cases e), HR.out.2.2⟩
end Go.Proofs.Ytkmlnibkdcdegaa.Dep
