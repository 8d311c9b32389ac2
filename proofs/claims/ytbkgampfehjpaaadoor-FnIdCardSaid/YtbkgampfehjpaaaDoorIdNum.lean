/-
  The given model's l02Num: a number of at most nine digits, with no nought ahead; -1 for what is none.
-/
import Derived.Test.YtbkgampfehjpaaaDoorIdMath
namespace Go.Proofs.YtbkgampfehjpaaaDoor.Id
open Go.ChangeShapes Go.WideShapes Go.ChangeAt Go.RowKit
set_option linter.unusedVariables false

theorem byte_le (b : UInt8) : (b.toNat : Int) ≤ 255 := by have := b.toNat_lt; omega
theorem ret_int {a b : Int} (h : a = b) : Ending.returned (.int .i64 a) = .returned (.int .i64 b) := by rw [h]
theorem list_len (s : ByteArray) : s.data.toList.length = s.size := Array.length_toList
theorem list_get (s : ByteArray) (k : Nat) (h : k < s.size) : s.data.toList[k]? = some s[k] := by
  rw [List.getElem?_eq_getElem (by rw [list_len]; exact h)]; rfl
theorem take_next (s : ByteArray) (k : Nat) (h : k < s.size) : s.data.toList.take (k + 1) = s.data.toList.take k ++ [s[k]] := by
  rw [List.take_add_one, list_get s k h]; rfl
theorem val_next (l : List UInt8) (b : UInt8) : val (l ++ [b]) = val l * 10 + (b.toNat - 48) := by
  simp [val, valFrom, List.foldl_append]
theorem valFrom_lt : ∀ (l : List UInt8) (a : Nat), (∀ b ∈ l, isDig b = true) → valFrom a l < (a + 1) * 10 ^ l.length
  | [], a, _ => by simp [valFrom]
  | c :: r, a, h => by
    have hc : 48 ≤ c.toNat ∧ c.toNat ≤ 57 := of_decide_eq_true (h c (by simp))
    have := valFrom_lt r (a * 10 + (c.toNat - 48)) (fun b hb => h b (by simp [hb]))
    show valFrom (a * 10 + (c.toNat - 48)) r < _
    refine Nat.lt_of_lt_of_le this ?_
    rw [List.length_cons, Nat.pow_succ, Nat.mul_comm (10 ^ r.length) 10, ← Nat.mul_assoc]
    exact Nat.mul_le_mul_right _ (by omega)
theorem val_lt9 (l : List UInt8) (h : ∀ b ∈ l, isDig b = true) (hl : l.length ≤ 9) : val l < 1000000000 := by
  have := valFrom_lt l 0 h
  refine Nat.lt_of_lt_of_le this ?_
  rw [Nat.zero_add, Nat.one_mul]
  exact Nat.le_trans (Nat.pow_le_pow_right (by omega) hl) (by decide)
theorem numS_bad {s : ByteArray} (h : ¬ (1 ≤ s.data.toList.length ∧ s.data.toList.length ≤ 9 ∧ ¬ (1 < s.data.toList.length ∧ s.data.toList.head? = some 48) ∧ ∀ b ∈ s.data.toList, isDig b = true)) : numS s.data.toList = -1 := if_neg h
theorem head_get (s : ByteArray) (h : 0 < s.size) : s.data.toList.head? = some s[0] := by
  rw [List.head?_eq_getElem?]; exact list_get s 0 h

set_option maxHeartbeats 1000000 in
set_option maxRecDepth 100000 in
theorem num_any (s : ByteArray) (w : World) (hs : s.size ≤ 1048576) :
    Calls Tryd.prog 32 #[.string s] w fun e w' => e = .returned (.int .i64 (numS s.data.toList)) ∧ w = w' := by
  have hl := list_len s
  have HL := Lib.hid hl
  by_cases h1 : s.size < 1
  · have HN := Lib.hid (numS_bad (s := s) (by omega))
    clear hl
    go_enter Tryd.func32, Tryd.ntmps32
    go_wp2
    go_ret
    exact ⟨ret_int HN.out.symm, rfl⟩
  by_cases h2 : 9 < s.size
  · have HN := Lib.hid (numS_bad (s := s) (by omega))
    clear hl
    go_enter Tryd.func32, Tryd.ntmps32
    go_wp2
    go_ret
    exact ⟨ret_int HN.out.symm, rfl⟩
  have h0 : 0 < s.size := by omega
  have hb0 := byte_le s[0]
  clear hl
  by_cases h3 : 1 < s.size ∧ s[0].toNat = 48
  · obtain ⟨h3, h4⟩ := h3
    have HN : Hid (numS s.data.toList = -1) := Lib.hid (numS_bad (fun h => h.2.2.1 ⟨by rw [HL.out]; exact h3, by rw [head_get s h0]; exact congrArg some (UInt8.toNat_inj.1 h4)⟩))
    have h5 : (((s[0].toNat : Nat) : Int) == 48) = true := by simp [h4]
    clear h4
    go_enter Tryd.func32, Tryd.ntmps32
    go_wp2
    go_ret
    exact ⟨ret_int HN.out.symm, rfl⟩
  have HH : Hid (¬ (1 < s.data.toList.length ∧ s.data.toList.head? = some 48)) := Lib.hid (fun h => h3 ⟨by rw [← HL.out]; exact h.1, by
    have := h.2
    rw [head_get s h0, Option.some.injEq] at this
    rw [this]; rfl⟩)
  have key : ∀ (P : Prop), (∀ (c1 : s.size = 1 ∨ (1 < s.size ∧ (((s[0].toNat : Nat) : Int) == 48) = false)), P) → P := fun P hP => hP (by
    by_cases c : s.size = 1
    · exact .inl c
    · exact .inr ⟨by omega, by rw [beq_eq_false_iff_ne]; exact fun e => h3 ⟨by omega, by omega⟩⟩)
  clear h3
  refine key _ fun c1 => ?_
  clear key
  rcases c1 with c1 | ⟨c1, c2⟩
  all_goals
    go_enter Tryd.func32, Tryd.ntmps32
    go_wp2_with fail
    go_loop [3, 4] (fun n i => ∃ k : Nat, k ≤ s.size ∧ i = .int .i64 k ∧ ∃ v : Nat, v < 1000000000 ∧ n = .int .i64 (v : Nat) ∧ Hid (v = val (s.data.toList.take k) ∧ ∀ b ∈ s.data.toList.take k, isDig b = true)) (fun _ i => s.size - (intOf i).toNat)
    case atStart => exact ⟨0, by omega, rfl, 0, by omega, rfl, Lib.hid ⟨rfl, fun b hb => by simp at hb⟩⟩
    case round =>
      obtain ⟨k, hk, rfl, v, hv, rfl, HJ⟩ := hrel
      by_cases hlt : k < s.size
      · have hbk := byte_le s[k]
        by_cases hd : isDig s[k] = true
        · have hd2 : 48 ≤ s[k].toNat ∧ s[k].toNat ≤ 57 := of_decide_eq_true hd
          have HD := Lib.hid hd
          have HT := Lib.hid (take_next s k hlt)
          have d1 : ¬ ((s[k].toNat : Nat) : Int) < 48 := by omega
          have d2 : ¬ 57 < ((s[k].toNat : Nat) : Int) := by omega
          have hw1 : IntKind.u8.wrap (((s[k].toNat : Nat) : Int) - 48) = ((s[k].toNat : Nat) : Int) - 48 := by
            unfold IntKind.wrap; simp [IntKind.signed, IntKind.bits]; omega
          have HV : Hid (v * 10 + (s[k].toNat - 48) = val (s.data.toList.take (k + 1)) ∧ ∀ b ∈ s.data.toList.take (k + 1), isDig b = true) := Lib.hid (by
            rw [HT.out, val_next, HJ.out.1]
            refine ⟨rfl, fun b hb => ?_⟩
            rcases List.mem_append.1 hb with h | h
            · exact HJ.out.2 b h
            · rw [List.mem_singleton.1 h]; exact HD.out)
          have hv2 : v * 10 + (s[k].toNat - 48) < 1000000000 := by
            rw [HV.out.1]
            exact val_lt9 _ HV.out.2 (by rw [List.length_take]; omega)
          have hx : (10 * (v : Int) + (((s[k].toNat : Nat) : Int) - 48)) = ((v * 10 + (s[k].toNat - 48) : Nat) : Int) := by omega
          have HX := Lib.hid hx
          clear hd hd2 hx
          go_wp2
          go_round
          case rel => exact ⟨k + 1, by omega, by go_num, _, hv2, by first | rw [← HX.out] | (rw [← HX.out]; go_num), HV⟩
          case measure => simp [intOf]; omega
        · have HN : Hid (numS s.data.toList = -1) := Lib.hid (numS_bad (fun h => hd (h.2.2.2 s[k] (List.mem_of_getElem? (list_get s k hlt)))))
          have hd2 : ((s[k].toNat : Nat) : Int) < 48 ∨ 57 < ((s[k].toNat : Nat) : Int) := by
            rcases Nat.lt_or_ge s[k].toNat 48 with h | h
            · exact .inl (by omega)
            · exact .inr (by
                rcases Nat.lt_or_ge 57 s[k].toNat with h' | h'
                · omega
                · exact absurd (decide_eq_true ⟨h, h'⟩) hd)
          clear hd
          rcases hd2 with d1 | d1
          · go_wp2
            go_ret
            exact ⟨ret_int HN.out.symm, rfl⟩
          · have d2 : ¬ ((s[k].toNat : Nat) : Int) < 48 := by omega
            go_wp2
            go_ret
            exact ⟨ret_int HN.out.symm, rfl⟩
      · have HN : Hid (numS s.data.toList = v) := Lib.hid (by
          have e : s.data.toList.take k = s.data.toList := List.take_of_length_le (by rw [HL.out]; omega)
          have h4 := HJ.out
          rw [e] at h4
          unfold numS
          rw [if_pos ⟨by rw [HL.out]; omega, by rw [HL.out]; omega, HH.out, h4.2⟩, h4.1])
        go_wp2
        go_ret
        exact ⟨ret_int HN.out.symm, rfl⟩
end Go.Proofs.YtbkgampfehjpaaaDoor.Id
