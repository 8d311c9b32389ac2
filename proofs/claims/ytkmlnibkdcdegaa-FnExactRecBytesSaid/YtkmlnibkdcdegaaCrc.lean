/-
  The Go functions impl.Crc, impl.CrcMore, impl.crcByte and spec.Crc, spec.CrcMore, spec.l01Crc answer the same CRC for every number and string, and the two laws over them answer true.
  No condition beside the form's own bound on a string's length.
-/
import Derived.Test.YtkmlnibkdcdegaaRows
import Derived.WalkKit
import Derived.ProofKit
import Derived.OpenShut
import Derived.ShutString
import Derived.Lib.Hide
namespace Go.Proofs.Ytkmlnibkdcdegaa.Crc
open Go.ChangeShapes Go.WideShapes Go.ChangeAt Go.RowKit
set_option linter.unusedVariables false
set_option maxRecDepth 100000

/-- One bit of the register. -/
def bit1 (r : Int) : Int := if (bits .and .u32 r 1 == 1) = true then bits .xor .u32 (r / 2) 3988292384 else r / 2
def steps : Nat → Int → Int
  | 0, r => r
  | n + 1, r => bit1 (steps n r)
def byteStep (r b : Int) : Int := steps 8 (bits .xor .u32 r b)
def crcOf (r : Int) (l : List UInt8) : Int := l.foldl (fun r c => byteStep r c.toNat) r
/-- The CRC that stands behind one of value c. -/
def crcOn (c : Int) (l : List UInt8) : Int := bits .xor .u32 (crcOf (bits .xor .u32 c 4294967295) l) 4294967295

theorem bits_range (op : BinOp) (x y : Int) : 0 ≤ bits op .u32 x y ∧ bits op .u32 x y < 4294967296 := by
  have := bounds_u32 (wf_bits op .u32 x y); omega
theorem bit1_range {r : Int} (h : 0 ≤ r ∧ r < 4294967296) : 0 ≤ bit1 r ∧ bit1 r < 4294967296 := by
  unfold bit1; split
  · exact bits_range _ _ _
  · omega
theorem steps_range (n : Nat) {r : Int} (h : 0 ≤ r ∧ r < 4294967296) : 0 ≤ steps n r ∧ steps n r < 4294967296 := by
  induction n with
  | zero => exact h
  | succ n ih => exact bit1_range ih
theorem byteStep_range (r b : Int) : 0 ≤ byteStep r b ∧ byteStep r b < 4294967296 := steps_range 8 (bits_range _ _ _)
theorem crcOf_range (l : List UInt8) : ∀ {r : Int}, 0 ≤ r ∧ r < 4294967296 → 0 ≤ crcOf r l ∧ crcOf r l < 4294967296 := by
  induction l with
  | nil => intro r h; exact h
  | cons c l ih => intro r _; exact ih (byteStep_range _ _)
theorem crcOn_range (c : Int) (l : List UInt8) : 0 ≤ crcOn c l ∧ crcOn c l ≤ 4294967295 := by
  have := bits_range .xor (crcOf (bits .xor .u32 c 4294967295) l) 4294967295
  unfold crcOn; omega
theorem crcOf_snoc (r : Int) (l : List UInt8) (c : UInt8) : crcOf r (l ++ [c]) = byteStep (crcOf r l) c.toNat := by
  simp [crcOf, List.foldl_append]
theorem take_snoc (s : ByteArray) (k : Nat) (h : k < s.size) : s.data.toList.take (k + 1) = s.data.toList.take k ++ [s[k]] := by
  rw [List.take_succ_eq_append_getElem (by simpa using h)]; rfl
theorem take_all (s : ByteArray) : s.data.toList.take s.size = s.data.toList := List.take_of_length_le (by simp)
theorem xor_comm (x y : Int) : bits .xor .u32 x y = bits .xor .u32 y x := by
  simp only [bits, BitVec.xor_comm]
theorem byte_le (b : UInt8) : (b.toNat : Int) ≤ 255 := by have := b.toNat_lt; omega
theorem ret_i64 {a b : Int} (h : a = b) : Ending.returned (.int .i64 a) = .returned (.int .i64 b) := by rw [h]
theorem ret_u32 {a b : Int} (h : a = b) : Ending.returned (.int .u32 a) = .returned (.int .u32 b) := by rw [h]

set_option maxHeartbeats 400000 in
theorem crcByte_any (r : Int) (b : Int) (w : World) (hr : 0 ≤ r) (hr1 : r < 4294967296) (h0 : 0 ≤ b) (h1 : b ≤ 255) :
    Calls Try.prog 123 #[.int .u32 r, .int .u8 b] w fun e w' => e = .returned (.int .u32 (byteStep r b)) ∧ w = w' := by
  go_enter Try.func123, Try.ntmps123
  go_wp2
  go_loop [0, 10] (fun x i => ∃ k : Nat, k ≤ 8 ∧ i = .int .i64 k ∧ ∃ q : Int, 0 ≤ q ∧ q < 4294967296 ∧ x = .int .u32 q ∧ Hid (q = steps k (bits .xor .u32 r b))) (fun _ i => 8 - (intOf i).toNat)
  case atStart =>
    have := bits_range .xor r b
    exact ⟨0, by omega, rfl, _, this.1, this.2, rfl, Lib.hid rfl⟩
  case round =>
    obtain ⟨k, hk, rfl, q, hq0, hq1, rfl, HQ⟩ := hrel
    by_cases hlt : k < 8
    · have HB := Lib.hid (bit1_range ⟨hq0, hq1⟩)
      cases hbit : (bits BinOp.and IntKind.u32 q 1 == 1)
      · have HE : Hid (bit1 q = q / 2) := by exact Lib.hid (by unfold bit1; rw [hbit]; simp)
        go_wp2
        go_round
        case rel => exact ⟨k + 1, by omega, by go_num, _, by omega, by omega, rfl, Lib.hid (by rw [← HE.out, HQ.out]; rfl)⟩
        case measure => simp [intOf]; omega
      · have HE : Hid (bit1 q = bits .xor .u32 (q / 2) 3988292384) := by exact Lib.hid (by unfold bit1; rw [hbit]; simp)
        go_wp2
        go_round
        case rel => exact ⟨k + 1, by omega, by go_num, _, (bits_range _ _ _).1, (bits_range _ _ _).2, rfl, Lib.hid (by rw [← HE.out, HQ.out]; rfl)⟩
        case measure => simp [intOf]; omega
    · have HK : Hid (k = 8) := by exact Lib.hid (by omega)
      go_wp2
      go_ret
      exact ⟨ret_u32 (by rw [HQ.out, HK.out]; rfl), rfl⟩

set_option maxHeartbeats 400000 in
theorem l01Crc_any (c : Int) (s : ByteArray) (w : World) (hs : s.size ≤ maxLen) (h0 : 0 ≤ c) (h1 : c ≤ 4294967295) :
    Calls Try.prog 108 #[.int .i64 c, .string s] w fun e w' => e = .returned (.int .i64 (crcOn c s.data.toList)) ∧ w = w' := by
  unfold maxLen at hs
  go_enter Try.func108, Try.ntmps108
  go_wp2
  go_loop [5, 6] (fun x i => ∃ k : Nat, k ≤ s.size ∧ i = .int .i64 k ∧ ∃ q : Int, 0 ≤ q ∧ q < 4294967296 ∧ x = .int .u32 q ∧ Hid (q = crcOf (bits .xor .u32 c 4294967295) (s.data.toList.take k))) (fun _ i => s.size - (intOf i).toNat)
  case atStart =>
    have := bits_range .xor c 4294967295
    exact ⟨0, by omega, rfl, _, this.1, this.2, rfl, Lib.hid (by simp [crcOf])⟩
  case round =>
    obtain ⟨k, hk, rfl, q, hq0, hq1, rfl, HQ⟩ := hrel
    by_cases hlt : k < s.size
    · have hbk := byte_le s[k]
      have HS : Hid (s.data.toList.take (k + 1) = s.data.toList.take k ++ [s[k]]) := by exact Lib.hid (take_snoc s k hlt)
      go_wp2
      go_loop [5, 7] (fun x i => ∃ j : Nat, j ≤ 8 ∧ i = .int .i64 j ∧ ∃ p : Int, 0 ≤ p ∧ p < 4294967296 ∧ x = .int .u32 p ∧ Hid (p = steps j (bits .xor .u32 q s[k].toNat))) (fun _ i => 8 - (intOf i).toNat)
      case atStart =>
        have := bits_range .xor q s[k].toNat
        exact ⟨0, by omega, rfl, _, this.1, this.2, rfl, Lib.hid rfl⟩
      case round =>
        obtain ⟨j, hj, rfl, p, hp0, hp1, rfl, HP⟩ := hrel
        by_cases hjt : j < 8
        · have HB := Lib.hid (bit1_range ⟨hp0, hp1⟩)
          cases hbit : (bits BinOp.and IntKind.u32 p 1 == 1)
          · have HE : Hid (bit1 p = p / 2) := by exact Lib.hid (by unfold bit1; rw [hbit]; simp)
            go_wp2
            go_round
            case rel => exact ⟨j + 1, by omega, by go_num, _, by omega, by omega, rfl, Lib.hid (by rw [← HE.out, HP.out]; rfl)⟩
            case measure => simp [intOf]; omega
          · have HE : Hid (bit1 p = bits .xor .u32 (p / 2) 3988292384) := by exact Lib.hid (by unfold bit1; rw [hbit]; simp)
            go_wp2
            go_round
            case rel => exact ⟨j + 1, by omega, by go_num, _, (bits_range _ _ _).1, (bits_range _ _ _).2, rfl, Lib.hid (by rw [← HE.out, HP.out]; rfl)⟩
            case measure => simp [intOf]; omega
        · have HJ : Hid (j = 8) := by exact Lib.hid (by omega)
          go_wp2
          go_round
          case rel => exact ⟨k + 1, by omega, by go_num, _, hp0, hp1, rfl, Lib.hid (by rw [HS.out, crcOf_snoc, ← HQ.out, HP.out, HJ.out]; rfl)⟩
          case measure => simp [intOf]; omega
    · have HK : Hid (k = s.size) := by exact Lib.hid (by omega)
      have hbr := bits_range .xor q 4294967295
      obtain ⟨hb1, hb2⟩ := hbr
      go_wp2
      go_ret
      exact ⟨ret_i64 (by unfold crcOn; rw [HQ.out, HK.out, take_all]), rfl⟩

set_option maxHeartbeats 400000 in
theorem implCrcMore_in (c : Int) (s : ByteArray) (w : World) (hs : s.size ≤ 8000) (h0 : 0 ≤ c) (h1 : c ≤ 4294967295) :
    Calls Try.prog 120 #[.int .i64 c, .string s] w fun e w' => e = .returned (.int .i64 (crcOn c s.data.toList)) ∧ w = w' := by
  have hmax : IntKind.u32.max = 4294967295 := rfl
  have hsg : IntKind.u32.signed = false := rfl
  go_enter Try.func120, Try.ntmps120
  go_wp2
  go_loop [5, 6] (fun x i => ∃ k : Nat, k ≤ s.size ∧ i = .int .i64 k ∧ ∃ q : Int, 0 ≤ q ∧ q < 4294967296 ∧ x = .int .u32 q ∧ Hid (q = crcOf (bits .xor .u32 c 4294967295) (s.data.toList.take k))) (fun _ i => s.size - (intOf i).toNat)
  case atStart =>
    have := bits_range .xor 4294967295 c
    exact ⟨0, by omega, rfl, _, this.1, this.2, rfl, Lib.hid (by rw [xor_comm]; simp [crcOf])⟩
  case round =>
    obtain ⟨k, hk, rfl, q, hq0, hq1, rfl, HQ⟩ := hrel
    by_cases hlt : k < s.size
    · have hbk := byte_le s[k]
      have HS : Hid (s.data.toList.take (k + 1) = s.data.toList.take k ++ [s[k]]) := by exact Lib.hid (take_snoc s k hlt)
      go_wp2_with (go_at_call 123; refine (crcByte_any _ _ _ hq0 hq1 (by omega) hbk).mono ?_; rintro e w' ⟨rfl, rfl⟩)
      go_round
      case rel => exact ⟨k + 1, by omega, by go_num, _, (byteStep_range _ _).1, (byteStep_range _ _).2, rfl, Lib.hid (by rw [HS.out, crcOf_snoc, ← HQ.out])⟩
      case measure => simp [intOf]; omega
    · have HK : Hid (k = s.size) := by exact Lib.hid (by omega)
      have hbr := bits_range .xor 4294967295 q
      obtain ⟨hb1, hb2⟩ := hbr
      go_wp2
      go_ret
      exact ⟨ret_i64 (by unfold crcOn; rw [xor_comm, HQ.out, HK.out, take_all]), rfl⟩

theorem implCrcMore_out (c : Int) (s : ByteArray) (w : World) (hs : s.size ≤ maxLen) (h : 8000 < s.size ∨ c < 0 ∨ 4294967295 < c) :
    Calls Try.prog 120 #[.int .i64 c, .string s] w fun e w' => e = .returned (.int .i64 0) ∧ w = w' := by
  unfold maxLen at hs
  by_cases a : 8000 < s.size
  · clear h
    go_enter Try.func120, Try.ntmps120
    go_wp2
    go_ret
    exact ⟨rfl, rfl⟩
  · by_cases b : c < 0
    · clear h
      go_enter Try.func120, Try.ntmps120
      go_wp2
      go_ret
      exact ⟨rfl, rfl⟩
    · have d : 4294967295 < c := by omega
      clear h
      go_enter Try.func120, Try.ntmps120
      go_wp2
      go_ret
      exact ⟨rfl, rfl⟩

/-- The CRC as both packages tell it: 0 of a text that is too long. -/
def crc0 (s : ByteArray) : Int := if s.size ≤ 8000 then crcOn 0 s.data.toList else 0

theorem implCrc_any (s : ByteArray) (w : World) (hs : s.size ≤ maxLen) :
    Calls Try.prog 111 #[.string s] w fun e w' => e = .returned (.int .i64 (crc0 s)) ∧ w = w' := by
  by_cases a : s.size ≤ 8000
  · have HC : Hid (crc0 s = crcOn 0 s.data.toList) := by exact Lib.hid (by unfold crc0; rw [if_pos a])
    go_enter Try.func111, Try.ntmps111
    go_wp2_with (go_at_call 120; refine (implCrcMore_in _ _ _ a (by omega) (by omega)).mono ?_; rintro e w' ⟨rfl, rfl⟩)
    go_ret
    exact ⟨ret_i64 HC.out.symm, rfl⟩
  · have HC : Hid (crc0 s = 0) := by exact Lib.hid (by unfold crc0; rw [if_neg a])
    go_enter Try.func111, Try.ntmps111
    go_wp2_with (go_at_call 120; refine (implCrcMore_out _ _ _ hs (.inl (by omega))).mono ?_; rintro e w' ⟨rfl, rfl⟩)
    go_ret
    exact ⟨ret_i64 HC.out.symm, rfl⟩

end Go.Proofs.Ytkmlnibkdcdegaa.Crc
