/-
  Two slices of deps compared: spec.l04SameDeps, slices.Equal.
-/
import Derived.Test.YtoomgdpjjbcbfaaDepSz
import Derived.BigQuiet
namespace Go.Proofs.Ytoomgdpjjbcbfaa.Dep
open Go.ChangeShapes Go.WideShapes Go.ChangeAt Go.RowKit
set_option linter.unusedVariables false
set_option maxRecDepth 100000
set_option linter.unusedSimpArgs false

theorem drewN_under {w W : World} {n : Nat} (h : Below n w W) (k : Nat) : Below n w (W.drewN k) := ⟨h.os, h.tape, h.output, h.size, h.block⟩
noncomputable def alikeB (l m : List D) : Bool := @decide (l = m) (Classical.propDecidable _)
theorem alikeB_true {l m : List D} (h : l = m) : alikeB l m = true := by simp [alikeB, h]
theorem alikeB_false {l m : List D} (h : ¬ l = m) : alikeB l m = false := by simp [alikeB, h]
theorem alike_of {l m : List D} (h : alikeB l m = true) : l = m := by
  rcases Classical.em (l = m) with h1 | h1
  · exact h1
  · rw [alikeB_false h1] at h; cases h
theorem d_ext {x y : D} (h0 : x.k = y.k) (h1 : x.i.c = y.i.c) (h2 : x.i.s = y.i.s) (h3 : x.i.e = y.i.e) : x = y := by
  obtain ⟨k, ⟨c, s, e⟩⟩ := x; obtain ⟨k', ⟨c', s', e'⟩⟩ := y; simp only at h0 h1 h2 h3; subst h0 h1 h2 h3; rfl
theorem dep_ne {x y : D} (h : ¬ x = y) : ((x.k.toList == y.k.toList) = false) ∨ ((x.k.toList == y.k.toList) = true ∧ (x.i.c == y.i.c) = false) ∨ ((x.k.toList == y.k.toList) = true ∧ (x.i.c == y.i.c) = true ∧ (x.i.s == y.i.s) = false) ∨
    ((x.k.toList == y.k.toList) = true ∧ (x.i.c == y.i.c) = true ∧ (x.i.s == y.i.s) = true ∧ (x.i.e == y.i.e) = false) := by
  cases e0 : (x.k.toList == y.k.toList)
  · exact .inl rfl
  cases e1 : (x.i.c == y.i.c)
  · exact .inr (.inl ⟨rfl, rfl⟩)
  cases e2 : (x.i.s == y.i.s)
  · exact .inr (.inr (.inl ⟨rfl, rfl, rfl⟩))
  cases e3 : (x.i.e == y.i.e)
  · exact .inr (.inr (.inr ⟨rfl, rfl, rfl, rfl⟩))
  refine absurd (d_ext (list_eq ?_) (beq_iff_eq.1 e1) (beq_iff_eq.1 e2) (beq_iff_eq.1 e3)) h
  rw [← ByteArray.toList_eq, ← ByteArray.toList_eq]
  exact beq_iff_eq.1 e0

set_option maxHeartbeats 1000000 in
theorem sameDeps_any (A B : Option Addr) (l m : List D) (ca cb : Nat) (w : World) (ha : Lies w w.heap.size A l) (hb : Lies w w.heap.size B m) (hl : l.length ≤ maxLen) (hm : m.length ≤ maxLen) :
    Calls Try.prog 11 #[slV A l ca, slV B m cb] w fun x w' => x = .returned (.bool (alikeB l m)) ∧ Below w.heap.size w w' := by
  have hl2 := hl
  have hm2 := hm
  unfold maxLen at hl2 hm2
  unfold slV
  have HA := Lib.hid ha
  have HB := Lib.hid hb
  clear ha hb
  by_cases hlen : l.length = m.length
  · have hlen1 : ((l.length : Int) == (m.length : Int)) = true := beq_iff_eq.2 (by omega)
    have hlen2 : ((l.length : Int) != (m.length : Int)) = false := by simp [hlen]
    have HLEN := Lib.hid hlen
    clear hlen
    go_enter Try.func11, Try.ntmps11
    go_wp2_with fail
    go_loopw [5] (fun i wr => ∃ k : Nat, k ≤ l.length ∧ i = .int .i64 k ∧ Hid ((∀ j (hj : j < l.length) (hjm : j < m.length), j < k → l[j] = m[j]) ∧ Below w.heap.size w wr)) (fun i _ => l.length - (intOf i).toNat)
    case atStart => exact ⟨0, by omega, rfl, Lib.hid ⟨fun j hj hjm hjk => absurd hjk (by omega), Below.refl _ _⟩⟩
    case round =>
      obtain ⟨k, hk, rfl, HR⟩ := hrel
      by_cases hlt : k < l.length
      · have hltm : k < m.length := by have := HLEN.out; omega
        obtain ⟨a1, rfl, hb1, c0, c1, c2, c3⟩ := (HA.out.below HR.out.2 (Nat.le_refl _)).at_ hlt
        obtain ⟨a2, rfl, hb2, d0, d1, d2, d3⟩ := (HB.out.below HR.out.2 (Nat.le_refl _)).at_ hltm
        obtain ⟨x, hx⟩ : ∃ x, l[k] = x := ⟨_, rfl⟩
        obtain ⟨y, hy⟩ : ∃ y, m[k] = y := ⟨_, rfl⟩
        have HX := Lib.hid hx
        have HY := Lib.hid hy
        rw [hx] at c0 c1 c2 c3
        rw [hy] at d0 d1 d2 d3
        clear hx hy hb1 hb2
        by_cases he : x = y
        · have HE := Lib.hid he
          subst he
          have e0 : (x.k.toList == x.k.toList) = true := beq_self_eq_true _
          have e1 : (x.i.c == x.i.c) = true := beq_self_eq_true _
          have e2 : (x.i.s == x.i.s) = true := beq_self_eq_true _
          have e3 : (x.i.e == x.i.e) = true := beq_self_eq_true _
          go_wp2_with fail
          go_quiet (fail)
          go_wp2_with fail
          go_roundw
          case rel =>
            refine ⟨k + 1, by omega, by go_num, Lib.hid ⟨fun j hj hjm hjk => ?_, drewN_under HR.out.2 _⟩⟩
            by_cases e : j = k
            · subst e; rw [HX.out, HY.out]
            · exact HR.out.1 j hj hjm (by omega)
          case measure => simp [intOf]; omega
        · have HE := Lib.hid he
          have hfin : ∀ n, Ending.returned (.bool false) = .returned (.bool (alikeB l m)) ∧ Below w.heap.size w (wr.drewN n) := fun n =>
            ⟨Key.ret_bool (alikeB_false fun e => HE.out (by rw [← HX.out, ← HY.out]; simp only [e])).symm, drewN_under HR.out.2 n⟩
          have HF := Lib.hid hfin
          clear hfin
          rcases dep_ne he with e0 | ⟨e0, e1⟩ | ⟨e0, e1, e2⟩ | ⟨e0, e1, e2, e3⟩
          all_goals clear he
          · go_wp2_with fail
            go_quiet (fail)
            go_wp2_with fail
            go_ret
            exact HF.out _
          · go_wp2_with fail
            go_quiet (fail)
            go_wp2_with fail
            go_ret
            exact HF.out _
          · go_wp2_with fail
            go_quiet (fail)
            go_wp2_with fail
            go_ret
            exact HF.out _
          · go_wp2_with fail
            go_quiet (fail)
            go_wp2_with fail
            go_ret
            exact HF.out _
      · have HF := Lib.hid (show l = m from List.ext_getElem HLEN.out fun j h1 h2 => HR.out.1 j h1 h2 (by omega))
        go_wp2_with fail
        go_ret
        exact ⟨Key.ret_bool (alikeB_true HF.out).symm, HR.out.2⟩
  · have hlen1 : ((l.length : Int) == (m.length : Int)) = false := beq_eq_false_iff_ne.2 (by omega)
    have hlen2 : ((l.length : Int) != (m.length : Int)) = true := by simp; omega
    have HF := Lib.hid (show ¬ l = m from fun e => hlen (by rw [e]))
    go_enter Try.func11, Try.ntmps11
    go_wp2_with fail
    go_ret
    exact ⟨Key.ret_bool (alikeB_false HF.out).symm, Below.refl _ _⟩

set_option maxHeartbeats 1000000 in
theorem equalD_any (A B : Option Addr) (l m : List D) (ca cb : Nat) (w : World) (ha : Lies w w.heap.size A l) (hb : Lies w w.heap.size B m) (hl : l.length ≤ maxLen) (hm : m.length ≤ maxLen) :
    Calls Try.prog 17 #[slV A l ca, slV B m cb] w fun x w' => x = .returned (.bool (alikeB l m)) ∧ Below w.heap.size w w' := by
  have hl2 := hl
  have hm2 := hm
  unfold maxLen at hl2 hm2
  unfold slV
  have HA := Lib.hid ha
  have HB := Lib.hid hb
  clear ha hb
  by_cases hlen : l.length = m.length
  · have hlen1 : ((l.length : Int) == (m.length : Int)) = true := beq_iff_eq.2 (by omega)
    have hlen2 : ((l.length : Int) != (m.length : Int)) = false := by simp [hlen]
    have HLEN := Lib.hid hlen
    clear hlen
    go_enter Try.func17, Try.ntmps17
    go_wp2_with fail
    go_loopw [13] (fun i wr => ∃ k : Nat, k ≤ l.length ∧ i = .int .i64 k ∧ Hid ((∀ j (hj : j < l.length) (hjm : j < m.length), j < k → l[j] = m[j]) ∧ Below w.heap.size w wr)) (fun i _ => l.length - (intOf i).toNat)
    case atStart => exact ⟨0, by omega, rfl, Lib.hid ⟨fun j hj hjm hjk => absurd hjk (by omega), Below.refl _ _⟩⟩
    case round =>
      obtain ⟨k, hk, rfl, HR⟩ := hrel
      by_cases hlt : k < l.length
      · have hltm : k < m.length := by have := HLEN.out; omega
        obtain ⟨a1, rfl, hb1, c0, c1, c2, c3⟩ := (HA.out.below HR.out.2 (Nat.le_refl _)).at_ hlt
        obtain ⟨a2, rfl, hb2, d0, d1, d2, d3⟩ := (HB.out.below HR.out.2 (Nat.le_refl _)).at_ hltm
        obtain ⟨x, hx⟩ : ∃ x, l[k] = x := ⟨_, rfl⟩
        obtain ⟨y, hy⟩ : ∃ y, m[k] = y := ⟨_, rfl⟩
        have HX := Lib.hid hx
        have HY := Lib.hid hy
        rw [hx] at c0 c1 c2 c3
        rw [hy] at d0 d1 d2 d3
        clear hx hy hb1 hb2
        by_cases he : x = y
        · have HE := Lib.hid he
          subst he
          have e0 : (x.k.toList == x.k.toList) = true := beq_self_eq_true _
          have e1 : (x.i.c == x.i.c) = true := beq_self_eq_true _
          have e2 : (x.i.s == x.i.s) = true := beq_self_eq_true _
          have e3 : (x.i.e == x.i.e) = true := beq_self_eq_true _
          go_wp2_with fail
          go_quiet (fail)
          go_wp2_with fail
          go_roundw
          case rel =>
            refine ⟨k + 1, by omega, by go_num, Lib.hid ⟨fun j hj hjm hjk => ?_, drewN_under HR.out.2 _⟩⟩
            by_cases e : j = k
            · subst e; rw [HX.out, HY.out]
            · exact HR.out.1 j hj hjm (by omega)
          case measure => simp [intOf]; omega
        · have HE := Lib.hid he
          have hfin : ∀ n, Ending.returned (.bool false) = .returned (.bool (alikeB l m)) ∧ Below w.heap.size w (wr.drewN n) := fun n =>
            ⟨Key.ret_bool (alikeB_false fun e => HE.out (by rw [← HX.out, ← HY.out]; simp only [e])).symm, drewN_under HR.out.2 n⟩
          have HF := Lib.hid hfin
          clear hfin
          rcases dep_ne he with e0 | ⟨e0, e1⟩ | ⟨e0, e1, e2⟩ | ⟨e0, e1, e2, e3⟩
          all_goals clear he
          · go_wp2_with fail
            go_quiet (fail)
            go_wp2_with fail
            go_ret
            exact HF.out _
          · go_wp2_with fail
            go_quiet (fail)
            go_wp2_with fail
            go_ret
            exact HF.out _
          · go_wp2_with fail
            go_quiet (fail)
            go_wp2_with fail
            go_ret
            exact HF.out _
          · go_wp2_with fail
            go_quiet (fail)
            go_wp2_with fail
            go_ret
            exact HF.out _
      · have HF := Lib.hid (show l = m from List.ext_getElem HLEN.out fun j h1 h2 => HR.out.1 j h1 h2 (by omega))
        go_wp2_with fail
        go_ret
        exact ⟨Key.ret_bool (alikeB_true HF.out).symm, HR.out.2⟩
  · have hlen1 : ((l.length : Int) == (m.length : Int)) = false := beq_eq_false_iff_ne.2 (by omega)
    have hlen2 : ((l.length : Int) != (m.length : Int)) = true := by simp; omega
    have HF := Lib.hid (show ¬ l = m from fun e => hlen (by rw [e]))
    go_enter Try.func17, Try.ntmps17
    go_wp2_with fail
    go_ret
    exact ⟨Key.ret_bool (alikeB_false HF.out).symm, Below.refl _ _⟩
end Go.Proofs.Ytoomgdpjjbcbfaa.Dep
