/-
  The Go functions impl.Seal, impl.Unseal and spec.Seal, spec.Unseal answer the same for every string, and the laws over them answer true.
  No condition beside the form's own bound on a string's length.
-/
import Derived.Test.YtkmlnibkdcdegaaCrc
import Derived.Test.YtkmlnibkdcdegaaText
namespace Go.Proofs.Ytkmlnibkdcdegaa.Seal
open Go.ChangeShapes Go.WideShapes Go.ChangeAt Go.RowKit
set_option linter.unusedVariables false
set_option maxRecDepth 100000

/-- The four bytes of a CRC. -/
def four (n : Int) : ByteArray := strOfNums [n % 256, n / 256 % 256, n / 65536 % 256, n / 16777216]
theorem four_size (n : Int) : (four n).size = 4 := by simp [four, strOfNums_size]
/-- What Seal answers. -/
def sealS (s : ByteArray) : ByteArray := if s.size ≤ 7996 then ⟨(s.data.toList ++ (four (Crc.crcOn 0 s.data.toList)).data.toList).toArray⟩ else ⟨#[]⟩
theorem ret_str {a b : ByteArray} (h : a = b) : Ending.returned (.string a) = .returned (.string b) := by rw [h]

theorem and255 (x : Int) (h0 : 0 ≤ x) (h1 : x ≤ 4294967295) : bits .and .i64 x 255 % 256 = x % 256 := by
  have h := bits_mask .i64 63 (by decide) (fun n a b => by rw [IntKind.wrap_i64]; omega) 8 (by decide) x h0 (by omega)
  have e : ((2 : Int) ^ 8 - 1) = 255 := by decide
  have e2 : ((2 : Int) ^ 8) = 256 := by decide
  rw [e, e2] at h
  rw [h]; omega

theorem conv4 (T : TypeId) (a b c d : Int) (w : World) :
    (convert 22 9 (.slice (some ⟨w.heap.size, 0, none⟩) 4 4)).run Try.prog (w.alloc (.cells #[.int .u8 a, .int .u8 b, .int .u8 c, .int .u8 d] T)) =
      .ok (.string (strOfNums [a, b, c, d])) (w.alloc (.cells #[.int .u8 a, .int .u8 b, .int .u8 c, .int .u8 d] T)) :=
  run_convert_bytes_arg (P := Try.prog) _ 22 5 Try.underlying22 Try.underlying5 w.heap.size 0 4 4 [a, b, c, d] rfl (fun i hi => by
    rw [Nat.zero_add, cell_of_row _ w.heap.size i _ _ (0, 0) (heap_alloc_new w _)]
    match i, hi with
    | 0, _ => rfl
    | 1, _ => rfl
    | 2, _ => rfl
    | 3, _ => rfl) _ Try.underlying9

theorem four_any (n : Int) (w : World) (h0 : 0 ≤ n) (h1 : n ≤ 4294967295) :
    Calls Try.prog 107 #[.int .i64 n] w fun e w' => e = .returned (.string (four n)) ∧ Below w.heap.size w w' := by
  have hc := conv4 5 (n % 256) (n / 256 % 256) (n / 65536 % 256) (n / 16777216) w
  go_enter Try.func107, Try.ntmps107
  go_wp2
  go_ret
  exact ⟨rfl, (Below.refl _ _).alloc (Nat.le_refl _) _⟩

theorem crcText_any (n : Int) (w : World) (h0 : 0 ≤ n) (h1 : n ≤ 4294967295) :
    Calls Try.prog 110 #[.int .i64 n] w fun e w' => e = .returned (.string (four n)) ∧ Below w.heap.size w w' := by
  have hc := conv4 122 (bits .and .i64 n 255 % 256) (bits .and .i64 (n / 256) 255 % 256) (bits .and .i64 (n / 65536) 255 % 256) (bits .and .i64 (n / 16777216) 255 % 256) w
  go_enter Try.func110, Try.ntmps110
  go_wp2
  refine wp_loop_rounds 5 ?_
  repeat any_goals (rw [rounds_succ]; go_wp2)
  go_ret
  refine ⟨ret_str ?_, (Below.refl _ _).alloc (Nat.le_refl _) _⟩
  unfold four
  rw [and255 n h0 h1, and255 (n / 256) (by omega) (by omega), and255 (n / 65536) (by omega) (by omega), and255 (n / 16777216) (by omega) (by omega)]
  have e : n / 16777216 % 256 = n / 16777216 := by omega
  rw [e]

set_option maxHeartbeats 400000 in
theorem implSeal_any (s : ByteArray) (w : World) (hs : s.size ≤ maxLen) :
    Calls Try.prog 89 #[.string s] w fun e w' => e = .returned (.string (sealS s)) ∧ Below w.heap.size w w' := by
  have hm := hs
  unfold maxLen at hm
  by_cases h : s.size ≤ 7996
  · have HT : Hid (sealS s = ⟨(Join.flat [s, four (Crc.crcOn 0 s.data.toList)]).toArray⟩) := by
      refine Lib.hid ?_
      unfold sealS
      rw [if_pos h, Text.flat2]
    have HC : Hid (Crc.crc0 s = Crc.crcOn 0 s.data.toList) := by exact Lib.hid (by unfold Crc.crc0; rw [if_pos (by omega)])
    have hr := Crc.crcOn_range 0 s.data.toList
    generalize Crc.crcOn 0 s.data.toList = c at *
    obtain ⟨hr0, hr1⟩ := hr
    go_enter Try.func89, Try.ntmps89
    go_wp2_with fail
    refine (Crc.implCrc_any _ _ hs).mono ?_
    rintro e w1 ⟨rfl, rfl⟩
    rw [HC.out]
    go_wp2_with fail
    refine (crcText_any _ _ hr0 hr1).mono ?_
    rintro e w1 ⟨rfl, hb1⟩
    have hz := four_size c
    generalize four c = f at *
    have HZ := Lib.hid hz
    clear hz
    go_wp2_with fail
    have hb2 : Below w.heap.size w (w1.alloc (.cells #[.string s, .string f] 9)) := hb1.alloc hb1.size _
    refine (Join.joined_any [s, f] w1.heap.size _ (by simp) (by simp) (by rw [Text.flat2, List.length_append, Join.size_len, Join.size_len, HZ.out]; omega) (Text.put_cells _ _ _ _)).mono ?_
    rintro e w2 ⟨rfl, hb3⟩
    go_wp2_with fail
    go_ret
    exact ⟨ret_str HT.out.symm, hb2.trans (hb3.mono (by have := hb1.size; simp; omega))⟩
  · have HT : Hid (sealS s = ⟨#[]⟩) := by exact Lib.hid (by unfold sealS; rw [if_neg h])
    go_enter Try.func89, Try.ntmps89
    go_wp2_with fail
    go_ret
    exact ⟨ret_str HT.out.symm, Below.refl _ _⟩

set_option maxHeartbeats 400000 in
theorem specSeal_any (s : ByteArray) (w : World) (hs : s.size ≤ maxLen) :
    Calls Try.prog 84 #[.string s] w fun e w' => e = .returned (.string (sealS s)) ∧ Below w.heap.size w w' := by
  have hm := hs
  unfold maxLen at hm
  by_cases h : s.size ≤ 7996
  · have HT : Hid (sealS s = s ++ four (Crc.crcOn 0 s.data.toList)) := by
      refine Lib.hid ?_
      unfold sealS
      rw [if_pos h]
      apply ByteArray.ext
      apply Array.toList_inj.1
      simp
    have hr := Crc.crcOn_range 0 s.data.toList
    go_enter Try.func84, Try.ntmps84
    go_wp2_with fail
    refine (Crc.l01Crc_any _ _ _ hs (by omega) (by omega)).mono ?_
    rintro e w1 ⟨rfl, rfl⟩
    generalize Crc.crcOn 0 s.data.toList = c at *
    obtain ⟨hr0, hr1⟩ := hr
    go_wp2_with fail
    refine (four_any _ _ hr0 hr1).mono ?_
    rintro e w1 ⟨rfl, hb1⟩
    have hz := four_size c
    generalize four c = f at *
    have hz1 : f.size ≤ 4 := by omega
    clear hz
    go_wp2_with fail
    go_ret
    exact ⟨ret_str HT.out.symm, hb1⟩
  · have HT : Hid (sealS s = ⟨#[]⟩) := by exact Lib.hid (by unfold sealS; rw [if_neg h])
    go_enter Try.func84, Try.ntmps84
    go_wp2_with fail
    go_ret
    exact ⟨ret_str HT.out.symm, Below.refl _ _⟩

end Go.Proofs.Ytkmlnibkdcdegaa.Seal
