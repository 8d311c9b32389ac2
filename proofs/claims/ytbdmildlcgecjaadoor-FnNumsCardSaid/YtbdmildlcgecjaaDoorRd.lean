/-
  What GetNum answers, as a plain function on bytes, and its laws. No Go text is walked here.
-/
import Derived.Test.YtbdmildlcgecjaaDoorRows
import Derived.WalkKit
import Derived.ProofKit
import Derived.OpenShut
import Derived.ShutString
import Derived.Lib.Hide
namespace Go.Proofs.YtbdmildlcgecjaaDoor.Gn
open Go.ChangeShapes Go.WideShapes Go.ChangeAt Go.RowKit
set_option linter.unusedVariables false

/-- The number that stands behind its fold. -/
def val (u : Int) : Int := if u % 2 = 1 then -(u / 2) - 1 else u / 2
/-- Bytes read from place a on, k of them read, u gathered: the number, the place behind it, the code. -/
def rd : Nat → List UInt8 → Nat → Int → Int → Int × Int × Int
  | 0, _, _, _, _ => (0, 0, 3)
  | _ + 1, [], _, _, _ => (0, 0, 4)
  | f + 1, c :: l, k, u, a =>
    if k = 9 ∧ 1 < c.toNat then (0, 0, 3)
    else if c.toNat < 128 then (if c.toNat = 0 ∧ 0 < k then (0, 0, 3) else (val (u + (c.toNat : Int) % 128 * 128 ^ k), a + 1, 0))
    else rd f l (k + 1) (u + (c.toNat : Int) % 128 * 128 ^ k) (a + 1)
def gn (s : ByteArray) (a : Int) : Int × Int × Int :=
  if 8000 < s.size then (0, 0, 2) else if a < 0 then (0, 0, 1) else rd 10 (s.data.toList.drop a.toNat) 0 0 a
def gnV (s : ByteArray) (a : Int) : Value := .agg #[.int .i64 (gn s a).1, .int .i64 (gn s a).2.1, .int .i64 (gn s a).2.2]

theorem drop_cons (s : ByteArray) (n : Nat) (h : n < s.size) : s.data.toList.drop n = s[n] :: s.data.toList.drop (n + 1) := by
  rw [List.drop_eq_getElem_cons (by simpa using h)]; rfl
theorem drop_nil (s : ByteArray) (n : Nat) (h : s.size ≤ n) : s.data.toList.drop n = [] := List.drop_eq_nil_of_le (by simpa using h)
theorem rd_short (f : Nat) (k : Nat) (u a : Int) : rd (f + 1) [] k u a = (0, 0, 4) := rfl
theorem rd_nine (f : Nat) {c : UInt8} (l : List UInt8) (u a : Int) (h : 1 < c.toNat) : rd (f + 1) (c :: l) 9 u a = (0, 0, 3) := by
  simp [rd, h]
theorem rd_zero (f : Nat) {c : UInt8} (l : List UInt8) (k : Nat) (u a : Int) (h : c.toNat = 0) (hk : 0 < k) : rd (f + 1) (c :: l) k u a = (0, 0, 3) := by
  simp [rd, h, hk]
theorem rd_val (f : Nat) {c : UInt8} (l : List UInt8) (k : Nat) (u a : Int) (h : c.toNat < 128) (h0 : ¬ (c.toNat = 0 ∧ 0 < k)) (h9 : k = 9 → c.toNat ≤ 1) :
    rd (f + 1) (c :: l) k u a = (val (u + (c.toNat : Int) % 128 * 128 ^ k), a + 1, 0) := by
  have h1 : ¬ (k = 9 ∧ 1 < c.toNat) := fun x => by have := h9 x.1; omega
  rw [rd, if_neg h1, if_pos h, if_neg h0]
theorem rd_next (f : Nat) {c : UInt8} (l : List UInt8) (k : Nat) (u a : Int) (h : 128 ≤ c.toNat) (hk : k ≠ 9) :
    rd (f + 1) (c :: l) k u a = rd f l (k + 1) (u + (c.toNat : Int) % 128 * 128 ^ k) (a + 1) := by
  have h1 : ¬ (k = 9 ∧ 1 < c.toNat) := fun x => hk x.1
  rw [rd, if_neg h1, if_neg (by omega)]
theorem val_odd {u : Int} (h : u % 2 = 1) : val u = -(u / 2) - 1 := by unfold val; rw [if_pos h]
theorem val_even {u : Int} (h : ¬ u % 2 = 1) : val u = u / 2 := by unfold val; rw [if_neg h]
theorem byte_le (b : UInt8) : (b.toNat : Int) ≤ 255 := by have := b.toNat_lt; omega
/-- What a round hands on: u stays below 128^k. -/
theorem next_lt (k : Nat) {u : Int} {c : UInt8} (h0 : 0 ≤ u) (h : u < 128 ^ k) : 0 ≤ u + (c.toNat : Int) % 128 * 128 ^ k ∧ u + (c.toNat : Int) % 128 * 128 ^ k < 128 ^ (k + 1) := by
  have hp : (0 : Int) < 128 ^ k := Int.pow_pos (by decide)
  have hm0 : 0 ≤ (c.toNat : Int) % 128 := by omega
  have hm1 : (c.toNat : Int) % 128 ≤ 127 := by omega
  generalize (c.toNat : Int) % 128 = m at *
  have e : (128 : Int) ^ (k + 1) = 128 * 128 ^ k := by rw [Int.pow_succ]; omega
  rw [e]
  generalize (128 : Int) ^ k = q at *
  have h1 : m * q ≤ 127 * q := Int.mul_le_mul_of_nonneg_right hm1 (by omega)
  have h2 : 0 ≤ m * q := Int.mul_nonneg hm0 (by omega)
  omega
theorem gn_big {s : ByteArray} {a : Int} (h : 8000 < s.size) : gnV s a = .agg #[.int .i64 0, .int .i64 0, .int .i64 2] := by unfold gnV gn; rw [if_pos h]
theorem gn_neg {s : ByteArray} {a : Int} (h : ¬ 8000 < s.size) (h1 : a < 0) : gnV s a = .agg #[.int .i64 0, .int .i64 0, .int .i64 1] := by unfold gnV gn; rw [if_neg h, if_pos h1]
theorem gn_rd {s : ByteArray} {a : Nat} {n e c : Int} (h : ¬ 8000 < s.size) (h1 : rd 10 (s.data.toList.drop a) 0 0 a = (n, e, c)) : gnV s a = .agg #[.int .i64 n, .int .i64 e, .int .i64 c] := by
  unfold gnV gn
  rw [if_neg h, if_neg (by omega), Int.toNat_natCast, h1]

/-- What impl.readNum gathers: the byte's seven bits, put in at their place. -/
def orU (u : Int) (c : UInt8) (k : Nat) : Int := bits BinOp.or IntKind.u64 u (IntKind.u64.wrap (IntKind.u64.wrap (bits BinOp.and IntKind.u8 (c.toNat) 127) * 2 ^ (7 * k)))
theorem wrap_u64_eq (n : Int) : IntKind.u64.wrap n = n % 18446744073709551616 := by simp [IntKind.wrap, IntKind.bits, IntKind.signed]
theorem or_core (i : Nat) (u m : Int) (hi : i ≤ 63) (hu0 : 0 ≤ u) (hu : u < 2 ^ i) (hm0 : 0 ≤ m) (hm : m * 2 ^ i < 18446744073709551616) : bits .or .u64 u (m * 2 ^ i) = u + m * 2 ^ i := by
  have hp : (0 : Int) < 2 ^ i := Int.pow_pos (by decide)
  have h64 : (2 : Int) ^ 64 = 18446744073709551616 := by decide
  have hu2 : u < 2 ^ 64 := by
    have h1 : (2 : Int) ^ i ≤ 2 ^ 63 := by
      have := Nat.pow_le_pow_right (n := 2) (by decide) hi
      exact_mod_cast this
    have h2 : (2 : Int) ^ 63 = 9223372036854775808 := by decide
    omega
  have h := bits_join .u64 64 (by decide) (fun n a b => by rw [wrap_u64_eq]; omega) i (m * 2 ^ i) u (Int.mul_nonneg hm0 (by omega)) (Int.mul_emod_left _ _) (by omega) hu0 hu hu2
  have hc : bits .or .u64 u (m * 2 ^ i) = bits .or .u64 (m * 2 ^ i) u := by simp only [bits, BitVec.or_comm]
  rw [hc, h]; omega
theorem orU_eq (u : Int) (c : UInt8) (k : Nat) (hk : k ≤ 9) (h0 : 0 ≤ u) (h : u < 128 ^ k) (h9 : ¬ (k = 9 ∧ 1 < c.toNat)) : orU u c k = u + (c.toNat : Int) % 128 * 128 ^ k := by
  have hb := byte_le c
  have e1 : bits BinOp.and IntKind.u8 (c.toNat) 127 = (c.toNat : Int) % 128 := by
    have h1 := u8_and_nat c.toNat 127 (by omega) (by decide)
    have h2 : c.toNat &&& 127 = c.toNat % 128 := Nat.and_two_pow_sub_one_eq_mod c.toNat 7
    rw [h2] at h1
    have h3 : bits BinOp.and IntKind.u8 ((c.toNat : Nat) : Int) 127 = ((c.toNat % 128 : Nat) : Int) := h1
    rw [h3]; omega
  have e2 : IntKind.u64.wrap ((c.toNat : Int) % 128) = (c.toNat : Int) % 128 := by rw [wrap_u64_eq]; omega
  have e3 : (2 : Int) ^ (7 * k) = 128 ^ k := by rw [Int.pow_mul]; rfl
  have hm : (c.toNat : Int) % 128 * 2 ^ (7 * k) < 18446744073709551616 := by
    rcases (by omega : k = 0 ∨ k = 1 ∨ k = 2 ∨ k = 3 ∨ k = 4 ∨ k = 5 ∨ k = 6 ∨ k = 7 ∨ k = 8 ∨ k = 9) with rfl | rfl | rfl | rfl | rfl | rfl | rfl | rfl | rfl | rfl
    all_goals simp only [Nat.reduceMul, Int.reducePow]
    all_goals omega
  have hm0 : 0 ≤ (c.toNat : Int) % 128 * 2 ^ (7 * k) := Int.mul_nonneg (by omega) (by have : (0 : Int) < 2 ^ (7 * k) := Int.pow_pos (by decide); omega)
  unfold orU
  rw [e1, e2]
  have e4 : IntKind.u64.wrap ((c.toNat : Int) % 128 * 2 ^ (7 * k)) = (c.toNat : Int) % 128 * 2 ^ (7 * k) := by rw [wrap_u64_eq]; exact Int.emod_eq_of_lt hm0 hm
  rw [e4, or_core (7 * k) u _ (by omega) h0 (by rw [e3]; exact h) (by omega) hm, e3]
theorem orU_range (u : Int) (c : UInt8) (k : Nat) : 0 ≤ orU u c k ∧ orU u c k < 18446744073709551616 := by
  have := bounds_u64 (wf_bits .or .u64 u (IntKind.u64.wrap (IntKind.u64.wrap (bits BinOp.and IntKind.u8 (c.toNat) 127) * 2 ^ (7 * k))))
  unfold orU; omega
theorem and_one (u : Int) (h0 : 0 ≤ u) (h1 : u < 18446744073709551616) : bits .and .u64 u 1 = u % 2 := by
  obtain ⟨a, rfl⟩ := Int.eq_ofNat_of_zero_le h0
  have h := u64_and_nat a 1 (by omega) (by decide)
  rw [Nat.and_one_is_mod] at h
  have h' : bits .and .u64 ((a : Nat) : Int) 1 = ((a % 2 : Nat) : Int) := h
  rw [h']; omega
theorem xor_val (u : Int) (h0 : 0 ≤ u) (h1 : u < 18446744073709551616) : bits .xor .i64 (u / 2) (-(u % 2)) = val u := by
  have hx : 0 ≤ u / 2 ∧ u / 2 < 9223372036854775808 := by omega
  have hofn : ∀ a : Nat, (a : Int) < 9223372036854775808 → (BitVec.ofInt 64 (a : Int)).toNat = a := fun a ha => by rw [BitVec.ofInt_natCast, BitVec.toNat_ofNat]; omega
  by_cases h : u % 2 = 1
  · rw [val_odd h, h]
    obtain ⟨a, ha⟩ := Int.eq_ofNat_of_zero_le hx.1
    rw [ha] at hx ⊢
    have ho : BitVec.ofInt 64 (-1 : Int) = BitVec.allOnes 64 := by decide
    show IntKind.i64.wrap ((BitVec.ofInt 64 (a : Int) ^^^ BitVec.ofInt 64 (-1 : Int)).toNat : Int) = _
    rw [ho, BitVec.xor_allOnes, BitVec.toNat_not, hofn a hx.2, IntKind.wrap_i64]
    have := hx.2
    omega
  · rw [val_even h, show u % 2 = 0 by omega]
    obtain ⟨a, ha⟩ := Int.eq_ofNat_of_zero_le hx.1
    rw [ha] at hx ⊢
    show IntKind.i64.wrap ((BitVec.ofInt 64 (a : Int) ^^^ BitVec.ofInt 64 (-0 : Int)).toNat : Int) = _
    have ho : BitVec.ofInt 64 (-0 : Int) = 0#64 := by decide
    rw [ho, BitVec.xor_zero, hofn a hx.2, IntKind.wrap_i64]
    have := hx.2
    omega
end Go.Proofs.YtbdmildlcgecjaaDoor.Gn
