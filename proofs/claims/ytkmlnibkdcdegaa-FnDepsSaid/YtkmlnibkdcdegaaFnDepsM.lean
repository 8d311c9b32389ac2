/-
  What FnDeps says, as plain mathematics: what is joined covers both and is covered by whatever covers both; join does not ask which is first; put again nothing is new.
-/
import Derived.Test.YtkmlnibkdcdegaaDepOut
import Derived.Test.YtkmlnibkdcdegaaDepCov2
namespace Go.Proofs.Ytkmlnibkdcdegaa.Dep
set_option linter.unusedVariables false
set_option maxRecDepth 100000

theorem good_keys {l : List D} (h : depsB l = true) : ∀ d ∈ l, d.k.size ≤ maxLen := fun d hd => by
  have := (Key.ok_of ((ok_of h).2.1 d hd).1).2.1
  unfold maxLen; omega
theorem join_zero {a b : List D} (h : joinC a b = 0) : a.length ≤ 400 ∧ b.length ≤ 400 ∧ depsB a = true ∧ depsB b = true ∧ (joinV a b).length ≤ 6 ∧ joinR a b = joinV a b := by
  have hr : joinR a b = joinV a b := by unfold joinR; rw [if_pos h]
  unfold joinC at h
  by_cases h1 : 400 < a.length ∨ 400 < b.length
  · rw [if_pos h1] at h; omega
  · rw [if_neg h1] at h
    by_cases h2 : depsB a = true ∧ depsB b = true
    · rw [if_pos h2] at h
      by_cases h3 : 6 < (joinV a b).length
      · rw [if_pos h3] at h; omega
      · exact ⟨by omega, by omega, h2.1, h2.2, by omega, hr⟩
    · rw [if_neg h2] at h; omega
theorem join_of {a b : List D} (ha : depsB a = true) (hb : depsB b = true) (hl : (joinV a b).length ≤ 6) : joinC a b = 0 ∧ joinR a b = joinV a b := by
  have h1 := (ok_of ha).1
  have h2 := (ok_of hb).1
  have h : joinC a b = 0 := by unfold joinC; rw [if_neg (by omega), if_pos ⟨ha, hb⟩, if_neg (by omega)]
  exact ⟨h, by unfold joinR; rw [if_pos h]⟩
theorem joinR_right {a b : List D} (h : joinC a b = 0) : depsB (joinR a b) = true := by
  obtain ⟨_, _, ha, hb, hl, hr⟩ := join_zero h
  rw [hr]
  obtain ⟨h1, h2, _⟩ := join_facts b a (ok_of ha).2.2 (ok_of ha).2.1 (ok_of hb).2.2 (ok_of hb).2.1
  exact depsB_true ⟨hl, h2, h1⟩
theorem joinR_keys (a b : List D) : ∀ d ∈ joinR a b, d.k.size ≤ maxLen := by
  by_cases h : joinC a b = 0
  · exact good_keys (joinR_right h)
  · have : joinR a b = [] := by unfold joinR; rw [if_neg h]
    rw [this]; exact fun d hd => absurd hd (by simp)
theorem joinC_comm {a b : List D} (h : joinC a b = 0) : joinC b a = 0 ∧ joinR b a = joinR a b := by
  obtain ⟨_, _, ha, hb, hl, hr⟩ := join_zero h
  have e := join_comm (ok_of ha).2.2 (ok_of ha).2.1 (ok_of hb).2.2 (ok_of hb).2.1
  obtain ⟨h1, h2⟩ := join_of hb ha (by rw [e]; exact hl)
  exact ⟨h1, by rw [h2, hr, e]⟩
theorem joinC_again {a b : List D} (h : joinC a b = 0) : joinC (joinR a b) a = 0 ∧ joinR (joinR a b) a = joinR a b := by
  have hj := joinR_right h
  obtain ⟨_, _, ha, hb, hl, hr⟩ := join_zero h
  rw [hr] at hj ⊢
  have e := join_again (ok_of ha).2.2 (ok_of ha).2.1 (ok_of hb).2.2 (ok_of hb).2.1
  obtain ⟨h1, h2⟩ := join_of hj ha (by rw [e]; exact hl)
  exact ⟨h1, by rw [h2, e]⟩
theorem cov_left {a b : List D} (h : joinC a b = 0) : covB (joinR a b) a = true := by
  have hj := joinR_right h
  obtain ⟨_, _, ha, hb, hl, hr⟩ := join_zero h
  unfold covB
  rw [hj, ha, hr, covers_left (ok_of ha).2.2 (ok_of ha).2.1 (ok_of hb).2.2 (ok_of hb).2.1]; rfl
theorem cov_right {a b : List D} (h : joinC a b = 0) : covB (joinR a b) b = true := by
  have hj := joinR_right h
  obtain ⟨_, _, ha, hb, hl, hr⟩ := join_zero h
  unfold covB
  rw [hj, hb, hr, covers_right (ok_of ha).2.2 (ok_of ha).2.1 (ok_of hb).2.2 (ok_of hb).2.1]; rfl
theorem cov_join {a b c : List D} (h : joinC a b = 0) (h1 : covB c a = true) (h2 : covB c b = true) : covB c (joinR a b) = true := by
  have hj := joinR_right h
  obtain ⟨_, _, ha, hb, hl, hr⟩ := join_zero h
  unfold covB at h1 h2 ⊢
  rw [Bool.and_eq_true, Bool.and_eq_true] at h1 h2
  rw [hj, h1.1.1, hr, covers_join (ok_of ha).2.2 (ok_of ha).2.1 (ok_of hb).2.2 (ok_of hb).2.1 (ok_of h1.1.1).2.1 h1.2 h2.2]; rfl

theorem put_zero {l : List D} {q : ByteArray} {x : I} (h : putC l q x = 0) : q.size ≤ 8000 ∧ depsB l = true ∧ Key.keyB q = true ∧ x.right = true ∧ (putV l q x).length ≤ 6 ∧ putR l q x = putV l q x := by
  have hr : putR l q x = putV l q x := by unfold putR; rw [if_pos h]
  unfold putC at h
  by_cases h1 : 400 < l.length ∨ 8000 < q.size
  · rw [if_pos h1] at h; omega
  · rw [if_neg h1] at h
    by_cases h2 : depsB l = true ∧ Key.keyB q = true ∧ x.right = true
    · rw [if_pos h2] at h
      by_cases h3 : 6 < (putV l q x).length
      · rw [if_pos h3] at h; omega
      · exact ⟨by omega, h2.1, h2.2.1, h2.2.2, by omega, hr⟩
    · rw [if_neg h2] at h; omega
theorem putR_right {l : List D} {q : ByteArray} {x : I} (h : putC l q x = 0) : depsB (putR l q x) = true := by
  obtain ⟨_, hl, hq, hx, hn, hr⟩ := put_zero h
  rw [hr]
  exact depsB_true ⟨hn, good_put (ok_of hl).2.1 hq hx, sorted_put (ok_of hl).2.2 _ _⟩
theorem putR_keys (l : List D) (q : ByteArray) (x : I) : ∀ d ∈ putR l q x, d.k.size ≤ maxLen := by
  by_cases h : putC l q x = 0
  · exact good_keys (putR_right h)
  · have : putR l q x = [] := by unfold putR; rw [if_neg h]
    rw [this]; exact fun d hd => absurd hd (by simp)
theorem putC_again {l : List D} {q : ByteArray} {x : I} (h : putC l q x = 0) : putC (putR l q x) q x = 0 ∧ putR (putR l q x) q x = putR l q x := by
  have hp := putR_right h
  obtain ⟨hq8, hl, hq, hx, hn, hr⟩ := put_zero h
  rw [hr] at hp ⊢
  have e := put_again (ok_of hl).2.2 (ok_of hl).2.1 hq hx
  have h0 : putC (putV l q x) q x = 0 := by
    unfold putC
    rw [if_neg (by omega), if_pos ⟨hp, hq, hx⟩, if_neg (by rw [e]; omega)]
  exact ⟨h0, by unfold putR; rw [if_pos h0, e]⟩
theorem put_not_less {l : List D} {q : ByteArray} {x : I} (h : putC l q x = 0) : (depOf (putR l q x) q).less x = false := by
  have hp := putR_right h
  obtain ⟨_, hl, hq, hx, hn, hr⟩ := put_zero h
  unfold depOf
  rw [if_pos hp, hr]
  exact Bool.eq_false_iff.2 (put_covers (ok_of hl).2.2 hx)
end Go.Proofs.Ytkmlnibkdcdegaa.Dep
