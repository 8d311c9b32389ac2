/-
  The CRC is one to one: two texts of one length that differ at one byte alone have unlike CRCs; so a seal with one byte turned is refused. Plain facts on bytes; no Go text is walked here.
-/
import Derived.Test.YtbdmildlcgecjaaUnseal
namespace Go.Proofs.Ytbdmildlcgecjaa.Seal
open Go.ChangeShapes Go.WideShapes Go.ChangeAt Go.RowKit
set_option linter.unusedVariables false

theorem xor_nat (a b : Nat) (ha : a < 4294967296) (hb : b < 4294967296) : bits .xor .u32 (a : Int) (b : Int) = ((a ^^^ b : Nat) : Int) := u32_xor_nat a b ha hb
theorem xor_cancel (a b c : Nat) (h : a ^^^ c = b ^^^ c) : a = b := by
  have h1 : a ^^^ c ^^^ c = b ^^^ c ^^^ c := by rw [h]
  rwa [Nat.xor_assoc, Nat.xor_assoc, Nat.xor_self, Nat.xor_zero, Nat.xor_zero] at h1
theorem xor_inj {a b c : Int} (ha0 : 0 ≤ a) (ha : a < 4294967296) (hb0 : 0 ≤ b) (hb : b < 4294967296) (hc0 : 0 ≤ c) (hc : c < 4294967296) (h : bits .xor .u32 a c = bits .xor .u32 b c) : a = b := by
  obtain ⟨x, rfl⟩ := Int.eq_ofNat_of_zero_le ha0
  obtain ⟨y, rfl⟩ := Int.eq_ofNat_of_zero_le hb0
  obtain ⟨z, rfl⟩ := Int.eq_ofNat_of_zero_le hc0
  rw [xor_nat x z (by omega) (by omega), xor_nat y z (by omega) (by omega)] at h
  have := xor_cancel x y z (by omega)
  omega
theorem xor_high (a : Nat) (ha : a < 2147483648) : 2147483648 ≤ a ^^^ 3988292384 := by
  rcases Nat.lt_or_ge (a ^^^ 3988292384) 2147483648 with h | h
  · have h1 := Nat.testBit_lt_two_pow (x := a ^^^ 3988292384) (i := 31) h
    rw [Nat.testBit_xor, Nat.testBit_lt_two_pow (x := a) (i := 31) ha] at h1
    exact absurd h1 (by decide)
  · exact h
theorem and_one32 (a : Nat) (ha : a < 4294967296) : bits .and .u32 (a : Int) 1 = ((a % 2 : Nat) : Int) := by
  have h := u32_and_nat a 1 ha (by decide)
  rw [Nat.and_one_is_mod] at h
  exact h
theorem bit1_nat (a : Nat) (ha : a < 4294967296) : Crc.bit1 (a : Int) = ((if a % 2 = 1 then a / 2 ^^^ 3988292384 else a / 2 : Nat) : Int) := by
  unfold Crc.bit1
  rw [and_one32 a ha]
  by_cases h : a % 2 = 1
  · rw [if_pos h, if_pos (by rw [h]; decide)]
    have h2 : ((a : Int) / 2) = ((a / 2 : Nat) : Int) := by omega
    rw [h2]
    exact xor_nat (a / 2) 3988292384 (by omega) (by decide)
  · have h0 : a % 2 = 0 := by omega
    rw [if_neg h, if_neg (by rw [h0]; decide)]
    omega
theorem bit1_inj {x y : Int} (hx0 : 0 ≤ x) (hx : x < 4294967296) (hy0 : 0 ≤ y) (hy : y < 4294967296) (h : Crc.bit1 x = Crc.bit1 y) : x = y := by
  obtain ⟨a, rfl⟩ := Int.eq_ofNat_of_zero_le hx0
  obtain ⟨b, rfl⟩ := Int.eq_ofNat_of_zero_le hy0
  rw [bit1_nat a (by omega), bit1_nat b (by omega)] at h
  have h' : (if a % 2 = 1 then a / 2 ^^^ 3988292384 else a / 2) = (if b % 2 = 1 then b / 2 ^^^ 3988292384 else b / 2) := by omega
  have ka := xor_high (a / 2) (by omega)
  have kb := xor_high (b / 2) (by omega)
  by_cases h1 : a % 2 = 1
  · by_cases h2 : b % 2 = 1
    · rw [if_pos h1, if_pos h2] at h'
      have := xor_cancel _ _ _ h'
      omega
    · rw [if_pos h1, if_neg h2] at h'
      omega
  · by_cases h2 : b % 2 = 1
    · rw [if_neg h1, if_pos h2] at h'
      omega
    · rw [if_neg h1, if_neg h2] at h'
      omega
theorem steps_inj (n : Nat) {x y : Int} (hx0 : 0 ≤ x) (hx : x < 4294967296) (hy0 : 0 ≤ y) (hy : y < 4294967296) (h : Crc.steps n x = Crc.steps n y) : x = y := by
  induction n with
  | zero => exact h
  | succ n ih =>
    have rx := Crc.steps_range n ⟨hx0, hx⟩
    have ry := Crc.steps_range n ⟨hy0, hy⟩
    exact ih (bit1_inj rx.1 rx.2 ry.1 ry.2 h)
theorem byteStep_inj {x y b : Int} (hx0 : 0 ≤ x) (hx : x < 4294967296) (hy0 : 0 ≤ y) (hy : y < 4294967296) (hb0 : 0 ≤ b) (hb : b < 4294967296) (h : Crc.byteStep x b = Crc.byteStep y b) : x = y := by
  have r1 := Crc.bits_range .xor x b
  have r2 := Crc.bits_range .xor y b
  exact xor_inj hx0 hx hy0 hy hb0 hb (steps_inj 8 r1.1 r1.2 r2.1 r2.2 h)
theorem byteStep_inj_byte {x b c : Int} (hx0 : 0 ≤ x) (hx : x < 4294967296) (hb0 : 0 ≤ b) (hb : b < 4294967296) (hc0 : 0 ≤ c) (hc : c < 4294967296) (h : Crc.byteStep x b = Crc.byteStep x c) : b = c := by
  have r1 := Crc.bits_range .xor x b
  have r2 := Crc.bits_range .xor x c
  have h1 := steps_inj 8 r1.1 r1.2 r2.1 r2.2 h
  rw [Crc.xor_comm x b, Crc.xor_comm x c] at h1
  exact xor_inj hb0 hb hc0 hc hx0 hx h1
theorem crcOf_inj (l : List UInt8) : ∀ {x y : Int}, 0 ≤ x → x < 4294967296 → 0 ≤ y → y < 4294967296 → Crc.crcOf x l = Crc.crcOf y l → x = y := by
  induction l with
  | nil => intro x y _ _ _ _ h; exact h
  | cons c l ih =>
    intro x y hx0 hx hy0 hy h
    have hb := Crc.byte_le c
    have r1 := Crc.byteStep_range x c.toNat
    have r2 := Crc.byteStep_range y c.toNat
    exact byteStep_inj hx0 hx hy0 hy (by omega) (by omega) (ih r1.1 r1.2 r2.1 r2.2 h)
theorem crcOf_append (r : Int) (p q : List UInt8) : Crc.crcOf r (p ++ q) = Crc.crcOf (Crc.crcOf r p) q := by simp [Crc.crcOf, List.foldl_append]
/-- One byte turned, and the CRC turns. -/
theorem crcOn_turn (p q : List UInt8) (b c : UInt8) (h : Crc.crcOn 0 (p ++ b :: q) = Crc.crcOn 0 (p ++ c :: q)) : b = c := by
  unfold Crc.crcOn at h
  have i0 := Crc.bits_range .xor 0 4294967295
  have r1 := Crc.crcOf_range (p ++ b :: q) i0
  have r2 := Crc.crcOf_range (p ++ c :: q) i0
  have h1 := xor_inj r1.1 r1.2 r2.1 r2.2 (by omega) (by omega) h
  rw [crcOf_append, crcOf_append] at h1
  have rp := Crc.crcOf_range p i0
  generalize Crc.crcOf (bits .xor .u32 0 4294967295) p = x at *
  have hb := Crc.byte_le b
  have hc := Crc.byte_le c
  have s1 := Crc.byteStep_range x b.toNat
  have s2 := Crc.byteStep_range x c.toNat
  have h2 : Crc.byteStep x b.toNat = Crc.byteStep x c.toNat := crcOf_inj q s1.1 s1.2 s2.1 s2.2 h1
  have h3 := byteStep_inj_byte rp.1 rp.2 (by omega) (by omega) (by omega) (by omega) h2
  exact UInt8.toNat_inj.1 (by omega)
theorem ofNat_inj {a b : Int} (ha0 : 0 ≤ a) (ha : a < 256) (hb0 : 0 ≤ b) (hb : b < 256) (h : UInt8.ofNat a.toNat = UInt8.ofNat b.toNat) : a = b := by
  have h1 := congrArg UInt8.toNat h
  rw [UInt8.toNat_ofNat', UInt8.toNat_ofNat'] at h1
  omega
theorem four_list (n : Int) : (four n).data.toList = [UInt8.ofNat (n % 256).toNat, UInt8.ofNat (n / 256 % 256).toNat, UInt8.ofNat (n / 65536 % 256).toNat, UInt8.ofNat (n / 16777216).toNat] := rfl
theorem four_inj {m n : Int} (hm0 : 0 ≤ m) (hm : m ≤ 4294967295) (hn0 : 0 ≤ n) (hn : n ≤ 4294967295) (h : (four m).data.toList = (four n).data.toList) : m = n := by
  rw [four_list, four_list] at h
  simp only [List.cons.injEq, and_true] at h
  obtain ⟨h1, h2, h3, h4⟩ := h
  have e1 := ofNat_inj (by omega) (by omega) (by omega) (by omega) h1
  have e2 := ofNat_inj (by omega) (by omega) (by omega) (by omega) h2
  have e3 := ofNat_inj (by omega) (by omega) (by omega) (by omega) h3
  have e4 := ofNat_inj (by omega) (by omega) (by omega) (by omega) h4
  omega
theorem sealS_list {t : ByteArray} (h : t.size ≤ 7996) : (sealS t).data.toList = t.data.toList ++ (four (Crc.crcOn 0 t.data.toList)).data.toList := by
  unfold sealS; rw [if_pos h]
theorem size_list (s : ByteArray) : s.data.toList.length = s.size := by simp
theorem four_len (n : Int) : (four n).data.toList.length = 4 := rfl
theorem sealS_size {t : ByteArray} (h : t.size ≤ 7996) : (sealS t).size = t.size + 4 := by
  rw [← size_list, sealS_list h, List.length_append, size_list, four_len]
theorem body_list (s : ByteArray) : (bodyOf s).data.toList = s.data.toList.take (s.size - 4) := by unfold bodyOf; simp
theorem tail_list (s : ByteArray) : (tailOf s).data.toList = s.data.toList.drop (s.size - 4) := by unfold tailOf; rw [Lib.extract_to_end]
theorem ext_list {a b : ByteArray} (h : a.data.toList = b.data.toList) : a = b := ByteArray.ext (Array.toList_inj.1 h)
theorem body_seal {t : ByteArray} (h : t.size ≤ 7996) : bodyOf (sealS t) = t := by
  apply ext_list
  rw [body_list, sealS_size h, sealS_list h, Nat.add_sub_cancel, ← size_list, List.take_left]
/-- A sealed text comes back. -/
theorem un_seal {t : ByteArray} (h : t.size ≤ 7996) : unV (sealS t) = .agg #[.string t, .int .i64 0, .int .i64 0] := by
  have hz := sealS_size h
  have := un_ok (s := sealS t) (by omega) (by omega) (by rw [body_seal h])
  rw [this, body_seal h]
/-- With one byte turned it is refused. -/
theorem un_turned {t b : ByteArray} (h : t.size ≤ 7996) (i : Nat) (c : UInt8) (hi : i < (sealS t).data.toList.length) (hc : c ≠ (sealS t).data.toList[i]) (hb : b.data.toList = (sealS t).data.toList.set i c) :
    unV b = .agg #[.string ⟨#[]⟩, .int .i64 0, .int .i64 5] := by
  have hz := sealS_size h
  have hbz : b.size = t.size + 4 := by rw [← size_list, hb, List.length_set, size_list, hz]
  refine un_sum (by omega) (by omega) fun e => ?_
  rw [seal_iff b (by omega)] at e
  have e1 : (four (Crc.crcOn 0 (bodyOf b).data.toList)).data.toList = (tailOf b).data.toList := by rw [e]
  rw [body_list, tail_list, hbz, Nat.add_sub_cancel, hb] at e1
  have htl : t.data.toList.length = t.size := size_list t
  have hil : i < t.size + 4 := by rw [size_list, hz] at hi; exact hi
  by_cases hin : i < t.size
  · -- the turned byte lies in the text
    have hset : (sealS t).data.toList.set i c = t.data.toList.set i c ++ (four (Crc.crcOn 0 t.data.toList)).data.toList := by
      rw [sealS_list h, List.set_append_left _ _ (by rw [htl]; exact hin)]
    rw [hset] at e1
    have hls : (t.data.toList.set i c).length = t.size := by rw [List.length_set, htl]
    rw [List.take_left' hls, List.drop_left' hls] at e1
    have r1 := Crc.crcOn_range 0 (t.data.toList.set i c)
    have r2 := Crc.crcOn_range 0 t.data.toList
    have e2 := four_inj r1.1 r1.2 r2.1 r2.2 e1
    have hsplit : t.data.toList = t.data.toList.take i ++ t.data.toList[i]'(by rw [htl]; exact hin) :: t.data.toList.drop (i + 1) := by
      rw [List.getElem_cons_drop, List.take_append_drop]
    have hset2 : t.data.toList.set i c = t.data.toList.take i ++ c :: t.data.toList.drop (i + 1) := List.set_eq_take_append_cons_drop ▸ by rw [if_pos (by rw [htl]; exact hin)]
    rw [hset2] at e2
    have e3 : Crc.crcOn 0 (t.data.toList.take i ++ c :: t.data.toList.drop (i + 1)) = Crc.crcOn 0 (t.data.toList.take i ++ t.data.toList[i]'(by rw [htl]; exact hin) :: t.data.toList.drop (i + 1)) := by rw [← hsplit]; exact e2
    have e4 := crcOn_turn _ _ _ _ e3
    apply hc
    rw [e4]
    have : (sealS t).data.toList[i]? = some (t.data.toList[i]'(by rw [htl]; exact hin)) := by
      rw [sealS_list h, List.getElem?_append_left (by rw [htl]; exact hin), List.getElem?_eq_getElem]
    rw [List.getElem?_eq_getElem hi] at this
    exact (Option.some.inj this).symm
  · -- it lies in the CRC
    have hset : (sealS t).data.toList.set i c = t.data.toList ++ (four (Crc.crcOn 0 t.data.toList)).data.toList.set (i - t.size) c := by
      rw [sealS_list h, List.set_append_right _ _ (by rw [htl]; omega), htl]
    rw [hset, List.take_left' htl, List.drop_left' htl] at e1
    have hlt : i - t.size < (four (Crc.crcOn 0 t.data.toList)).data.toList.length := by rw [four_len]; omega
    have g1 : (four (Crc.crcOn 0 t.data.toList)).data.toList[i - t.size]? = some c := by
      conv => lhs; rw [e1]
      rw [List.getElem?_set_self hlt]
    have g2 : (sealS t).data.toList[i]? = some c := by
      rw [sealS_list h, List.getElem?_append_right (by rw [htl]; omega), htl]; exact g1
    rw [List.getElem?_eq_getElem hi] at g2
    exact hc (Option.some.inj g2).symm
end Go.Proofs.Ytbdmildlcgecjaa.Seal
