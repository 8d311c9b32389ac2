/-
  The given model's l01Split at a dot: the words between the dots, in new memory.
-/
import Derived.Test.YtbkgampfehjpaaaDoorIdNum
namespace Go.Proofs.YtbkgampfehjpaaaDoor.Id
open Go.ChangeShapes Go.WideShapes Go.ChangeAt Go.RowKit
set_option linter.unusedVariables false

theorem infoStr : (Tryd.prog.info? 9).map (fun i => (i.zero, i.size, i.bytes)) = some (some (.string ByteArray.empty), 1, 16) := by kernel_rfl
theorem drop_next (s : ByteArray) (k : Nat) (h : k < s.size) : s.data.toList.drop k = s[k] :: s.data.toList.drop (k + 1) := by
  rw [List.drop_eq_getElem_cons (by rw [list_len]; exact h)]; rfl
theorem take_drop_next (s : ByteArray) (f k : Nat) (h : k < s.size) (hf : f ≤ k) : (s.data.toList.take (k + 1)).drop f = (s.data.toList.take k).drop f ++ [s[k]] := by
  rw [take_next s k h, List.drop_append_of_le_length (by rw [List.length_take, list_len]; omega)]

set_option maxHeartbeats 2000000 in
set_option maxRecDepth 100000 in
theorem split_any (s : ByteArray) (w : World) (hs : s.size ≤ 1048576) :
    Calls Tryd.prog 31 #[.string s, .int .u8 46] w fun e w' => ∃ (v : Value) (ps : List ByteArray), e = .returned v ∧
      w'.ownsRow w.heap.size 9 1 v ps.length (ps.map Value.string) ∧ ps.map (·.data.toList) = splitFrom s.data.toList [] ∧ Below w.heap.size w w' := by
  obtain ⟨i0, hi, hz0, hz1, hz2⟩ := info_parts infoStr
  have HL := Lib.hid (list_len s)
  go_enter Tryd.func31, Tryd.ntmps31
  go_wp2_with fail
  go_loopw [5, 6, 7] (fun v f i wr => ∃ k : Nat, k ≤ s.size ∧ i = .int .i64 k ∧ ∃ fr : Nat, fr ≤ k ∧ f = .int .i64 fr ∧ ∃ n : Nat, n ≤ k ∧ ∃ ps : List ByteArray, wr.ownsRow w.heap.size 9 1 v n (ps.map Value.string) ∧
      Hid (ps.length = n ∧ ps.map (·.data.toList) ++ splitFrom (s.data.toList.drop k) ((s.data.toList.take k).drop fr) = splitFrom s.data.toList [] ∧ Below w.heap.size w wr)) (fun _ _ i _ => s.size - (intOf i).toNat)
  case atStart =>
    exact ⟨0, by omega, rfl, 0, by omega, rfl, 0, by omega, [], World.ownsRow_made w #[] 0 (Nat.le_refl _) (by unfold maxLen; omega) rfl, Lib.hid ⟨rfl, by simp, (Below.refl _ _).alloc (Nat.le_refl _) _⟩⟩
  case round =>
    obtain ⟨k, hk, rfl, fr, hfr, rfl, n, hn, ps, hown, HR⟩ := hrel
    by_cases hlt : k < s.size
    · have hbk := byte_le s[k]
      by_cases hd : ((s[k].toNat : Nat) : Int) = 46
      · have hd2 : (((s[k].toNat : Nat) : Int) == 46) = true := by simp [hd]
        have hc46 : s[k] = 46 := UInt8.toNat_inj.1 (by show s[k].toNat = 46; omega)
        have HD := Lib.hid hc46
        clear hd hc46
        have HW := Lib.hid hown.lt
        have HB := Lib.hid HR.out.2.2
        have hsz := HB.out.size
        go_wp2_with (at_builtin; refine wpList_append_own _ rfl _ _ 50 rfl w.heap.size 9 i0 (.string ByteArray.empty) 1 16 Tryd.underlying50 hi hz0 hz1 hz2 rfl (by decide) _ _ _ rfl (hown.alloc _) ⟨wr.heap.size, 0, none⟩ 1 1 [.string (s.extract fr k)] rfl rfl ?c1 ?c2 ?c3 ?c4 ?c5 ?_)
        case c1 =>
          intro j u hj
          match j, hj with
          | 0, hj => simp at hj; subst hj; simp [Addr.add]
        case c2 => intro u hu; simp at hu; subst hu; rfl
        case c3 => unfold maxLen; omega
        case c4 => omega
        case c5 => simp; omega
        intro v' w2 hown' hgrow _
        have hb2 : Below w.heap.size wr w2 := ((Below.refl _ _).alloc hsz _).grown hgrow (by simp; omega) (fun g hg => (HW.out g hg).1)
        have hown2 : w2.ownsRow w.heap.size 9 1 v' (n + 1) ((ps ++ [s.extract fr k]).map Value.string) := by
          rw [List.map_append]; exact hown'
        have HB2 := Lib.hid (HB.out.trans hb2)
        clear hown hown' hgrow hb2
        go_wp2
        go_roundw
        case rel =>
          refine ⟨k + 1, by omega, by go_num, k + 1, by omega, by go_num, n + 1, by omega, ps ++ [s.extract fr k], hown2, Lib.hid ⟨by rw [List.length_append, HR.out.1]; rfl, ?_, HB2.out⟩⟩
          have h5 := HR.out.2.1
          rw [drop_next s k hlt, splitFrom, if_pos HD.out] at h5
          have h6 : (s.data.toList.take (k + 1)).drop (k + 1) = [] := List.drop_eq_nil_of_le (by rw [List.length_take]; omega)
          rw [← h5, List.map_append, List.append_assoc, h6]
          simp [List.drop_take]
        case measure => simp [intOf]; omega
      · have hd2 : (((s[k].toNat : Nat) : Int) == 46) = false := beq_eq_false_iff_ne.2 hd
        have hc46 : s[k] ≠ 46 := fun e => hd (by rw [e]; rfl)
        have HD := Lib.hid hc46
        clear hd hc46
        go_wp2
        go_roundw
        case rel =>
          refine ⟨k + 1, by omega, by go_num, fr, by omega, rfl, n, by omega, ps, hown, Lib.hid ⟨HR.out.1, ?_, HR.out.2.2⟩⟩
          have h5 := HR.out.2.1
          rw [drop_next s k hlt, splitFrom, if_neg HD.out] at h5
          rw [← h5, take_drop_next s fr k hlt hfr]
        case measure => simp [intOf]; omega
    · obtain rfl : k = s.size := by omega
      have HW := Lib.hid hown.lt
      have HB := Lib.hid HR.out.2.2
      have hsz := HB.out.size
      go_wp2_with (at_builtin; refine wpList_append_own _ rfl _ _ 50 rfl w.heap.size 9 i0 (.string ByteArray.empty) 1 16 Tryd.underlying50 hi hz0 hz1 hz2 rfl (by decide) _ _ _ rfl (hown.alloc _) ⟨wr.heap.size, 0, none⟩ 1 1 [.string (s.extract fr s.size)] rfl rfl ?c1 ?c2 ?c3 ?c4 ?c5 ?_)
      case c1 =>
        intro j u hj
        match j, hj with
        | 0, hj => simp at hj; subst hj; simp [Addr.add]
      case c2 => intro u hu; simp at hu; subst hu; rfl
      case c3 => unfold maxLen; omega
      case c4 => omega
      case c5 => simp; omega
      intro v' w2 hown' hgrow _
      have hb2 : Below w.heap.size wr w2 := ((Below.refl _ _).alloc hsz _).grown hgrow (by simp; omega) (fun g hg => (HW.out g hg).1)
      have hown2 : w2.ownsRow w.heap.size 9 1 v' (ps ++ [s.extract fr s.size]).length ((ps ++ [s.extract fr s.size]).map Value.string) := by
        rw [List.map_append, List.length_append, HR.out.1]; exact hown'
      have HB2 := Lib.hid (HB.out.trans hb2)
      have HS : Hid ((ps ++ [s.extract fr s.size]).map (·.data.toList) = splitFrom s.data.toList []) := Lib.hid (by
        have h5 := HR.out.2.1
        rw [List.drop_eq_nil_of_le (by rw [HL.out]; omega), splitFrom] at h5
        rw [← h5, List.map_append]
        simp [List.drop_take])
      generalize ps ++ [s.extract fr s.size] = qs at hown2 HS
      clear hown hown' hgrow hb2
      go_wp2
      go_ret
      exact ⟨v', qs, rfl, hown2, HS.out, HB2.out⟩
end Go.Proofs.YtbkgampfehjpaaaDoor.Id
