/-
  Several texts in one: Rd, GnSpec, Scope, GnRead, As, GetNum, Join, GetText, Num, Text, NumMath.
-/
import Derived.Test.YtkmlnibkdcdegaaGreatDoorRows
import Derived.WalkKit
import Derived.ProofKit
import Derived.OpenShut
import Derived.ShutString
import Derived.Lib.Hide
import Derived.ScopeJumps
import Derived.LaidEql
import Derived.Stop.Asserts
import Derived.RowKitTokens
import Derived.Lib.SlBuf
import Derived.Lib.LazyBuf
import Derived.StillTailTactics
import Derived.Deep.QuietTactic
import Derived.BigQuiet
/-
  What GetNum answers, as a plain function on bytes, and its laws. No Go text is walked here.
-/
namespace Go.Proofs.YtkmlnibkdcdegaaGreatDoor.Gn
open Go.ChangeShapes Go.WideShapes Go.ChangeAt Go.RowKit
set_option linter.unusedVariables false
set_option maxRecDepth 100000

/-- The number that stands behind its fold. -/
def val (u : Int) : Int := if u % 2 = 1 then -(u / 2) - 1 else u / 2
/-- Bytes read from place a on, k of them read, u gathered: the number, the place behind it, the code. -/
def rd : Nat → List UInt8 → Nat → Int → Int → Int × Int × Int
  | 0, _, _, _, _ => (0, 0, 3)
  | _ + 1, [], _, _, _ => (0, 0, 4)
  | f + 1, c :: l, k, u, a =>
    if k = 9 ∧ 1 < c.toNat then (0, 0, 3)
    else if c.toNat < 128 then (if c.toNat = 0 ∧ 0 < k then (0, 0, 3) else (val (u + (c.toNat : Int) % 128 * 128 ^ k), a + 1, 0))
    else rd f l (k + 1) (u + (c.toNat : Int) % 128 * 128 ^ k) (a + 1)
def gn (s : ByteArray) (a : Int) : Int × Int × Int :=
  if 8000 < s.size then (0, 0, 2) else if a < 0 then (0, 0, 1) else rd 10 (s.data.toList.drop a.toNat) 0 0 a
def gnV (s : ByteArray) (a : Int) : Value := .agg #[.int .i64 (gn s a).1, .int .i64 (gn s a).2.1, .int .i64 (gn s a).2.2]

theorem drop_cons (s : ByteArray) (n : Nat) (h : n < s.size) : s.data.toList.drop n = s[n] :: s.data.toList.drop (n + 1) := by
  rw [List.drop_eq_getElem_cons (by simpa using h)]; rfl
theorem drop_nil (s : ByteArray) (n : Nat) (h : s.size ≤ n) : s.data.toList.drop n = [] := List.drop_eq_nil_of_le (by simpa using h)
theorem rd_short (f : Nat) (k : Nat) (u a : Int) : rd (f + 1) [] k u a = (0, 0, 4) := rfl
theorem rd_nine (f : Nat) {c : UInt8} (l : List UInt8) (u a : Int) (h : 1 < c.toNat) : rd (f + 1) (c :: l) 9 u a = (0, 0, 3) := by
  simp [rd, h]
theorem rd_zero (f : Nat) {c : UInt8} (l : List UInt8) (k : Nat) (u a : Int) (h : c.toNat = 0) (hk : 0 < k) : rd (f + 1) (c :: l) k u a = (0, 0, 3) := by
  simp [rd, h, hk]
theorem rd_val (f : Nat) {c : UInt8} (l : List UInt8) (k : Nat) (u a : Int) (h : c.toNat < 128) (h0 : ¬ (c.toNat = 0 ∧ 0 < k)) (h9 : k = 9 → c.toNat ≤ 1) :
    rd (f + 1) (c :: l) k u a = (val (u + (c.toNat : Int) % 128 * 128 ^ k), a + 1, 0) := by
  have h1 : ¬ (k = 9 ∧ 1 < c.toNat) := fun x => by have := h9 x.1; omega
  rw [rd, if_neg h1, if_pos h, if_neg h0]
theorem rd_next (f : Nat) {c : UInt8} (l : List UInt8) (k : Nat) (u a : Int) (h : 128 ≤ c.toNat) (hk : k ≠ 9) :
    rd (f + 1) (c :: l) k u a = rd f l (k + 1) (u + (c.toNat : Int) % 128 * 128 ^ k) (a + 1) := by
  have h1 : ¬ (k = 9 ∧ 1 < c.toNat) := fun x => hk x.1
  rw [rd, if_neg h1, if_neg (by omega)]
theorem val_odd {u : Int} (h : u % 2 = 1) : val u = -(u / 2) - 1 := by unfold val; rw [if_pos h]
theorem val_even {u : Int} (h : ¬ u % 2 = 1) : val u = u / 2 := by unfold val; rw [if_neg h]
theorem byte_le (b : UInt8) : (b.toNat : Int) ≤ 255 := by have := b.toNat_lt; omega
/-- What a round hands on: u stays below 128^k. -/
theorem next_lt (k : Nat) {u : Int} {c : UInt8} (h0 : 0 ≤ u) (h : u < 128 ^ k) : 0 ≤ u + (c.toNat : Int) % 128 * 128 ^ k ∧ u + (c.toNat : Int) % 128 * 128 ^ k < 128 ^ (k + 1) := by
  have hp : (0 : Int) < 128 ^ k := Int.pow_pos (by decide)
  have hm0 : 0 ≤ (c.toNat : Int) % 128 := by omega
  have hm1 : (c.toNat : Int) % 128 ≤ 127 := by omega
  generalize (c.toNat : Int) % 128 = m at *
  have e : (128 : Int) ^ (k + 1) = 128 * 128 ^ k := by rw [Int.pow_succ]; omega
  rw [e]
  generalize (128 : Int) ^ k = q at *
  have h1 : m * q ≤ 127 * q := Int.mul_le_mul_of_nonneg_right hm1 (by omega)
  have h2 : 0 ≤ m * q := Int.mul_nonneg hm0 (by omega)
  omega
theorem gn_big {s : ByteArray} {a : Int} (h : 8000 < s.size) : gnV s a = .agg #[.int .i64 0, .int .i64 0, .int .i64 2] := by unfold gnV gn; rw [if_pos h]
theorem gn_neg {s : ByteArray} {a : Int} (h : ¬ 8000 < s.size) (h1 : a < 0) : gnV s a = .agg #[.int .i64 0, .int .i64 0, .int .i64 1] := by unfold gnV gn; rw [if_neg h, if_pos h1]
theorem gn_rd {s : ByteArray} {a : Nat} {n e c : Int} (h : ¬ 8000 < s.size) (h1 : rd 10 (s.data.toList.drop a) 0 0 a = (n, e, c)) : gnV s a = .agg #[.int .i64 n, .int .i64 e, .int .i64 c] := by
  unfold gnV gn
  rw [if_neg h, if_neg (by omega), Int.toNat_natCast, h1]

/-- What impl.readNum gathers: the byte's seven bits, put in at their place. -/
def orU (u : Int) (c : UInt8) (k : Nat) : Int := bits BinOp.or IntKind.u64 u (IntKind.u64.wrap (IntKind.u64.wrap (bits BinOp.and IntKind.u8 (c.toNat) 127) * 2 ^ (7 * k)))
theorem wrap_u64_eq (n : Int) : IntKind.u64.wrap n = n % 18446744073709551616 := by simp [IntKind.wrap, IntKind.bits, IntKind.signed]
theorem or_core (i : Nat) (u m : Int) (hi : i ≤ 63) (hu0 : 0 ≤ u) (hu : u < 2 ^ i) (hm0 : 0 ≤ m) (hm : m * 2 ^ i < 18446744073709551616) : bits .or .u64 u (m * 2 ^ i) = u + m * 2 ^ i := by
  have hp : (0 : Int) < 2 ^ i := Int.pow_pos (by decide)
  have h64 : (2 : Int) ^ 64 = 18446744073709551616 := by decide
  have hu2 : u < 2 ^ 64 := by
    have h1 : (2 : Int) ^ i ≤ 2 ^ 63 := by
      have := Nat.pow_le_pow_right (n := 2) (by decide) hi
      exact_mod_cast this
    have h2 : (2 : Int) ^ 63 = 9223372036854775808 := by decide
    omega
  have h := bits_join .u64 64 (by decide) (fun n a b => by rw [wrap_u64_eq]; omega) i (m * 2 ^ i) u (Int.mul_nonneg hm0 (by omega)) (Int.mul_emod_left _ _) (by omega) hu0 hu hu2
  have hc : bits .or .u64 u (m * 2 ^ i) = bits .or .u64 (m * 2 ^ i) u := by simp only [bits, BitVec.or_comm]
  rw [hc, h]; omega
theorem orU_eq (u : Int) (c : UInt8) (k : Nat) (hk : k ≤ 9) (h0 : 0 ≤ u) (h : u < 128 ^ k) (h9 : ¬ (k = 9 ∧ 1 < c.toNat)) : orU u c k = u + (c.toNat : Int) % 128 * 128 ^ k := by
  have hb := byte_le c
  have e1 : bits BinOp.and IntKind.u8 (c.toNat) 127 = (c.toNat : Int) % 128 := by
    have h1 := u8_and_nat c.toNat 127 (by omega) (by decide)
    have h2 : c.toNat &&& 127 = c.toNat % 128 := Nat.and_two_pow_sub_one_eq_mod c.toNat 7
    rw [h2] at h1
    have h3 : bits BinOp.and IntKind.u8 ((c.toNat : Nat) : Int) 127 = ((c.toNat % 128 : Nat) : Int) := h1
    rw [h3]; omega
  have e2 : IntKind.u64.wrap ((c.toNat : Int) % 128) = (c.toNat : Int) % 128 := by rw [wrap_u64_eq]; omega
  have e3 : (2 : Int) ^ (7 * k) = 128 ^ k := by rw [Int.pow_mul]; rfl
  have hm : (c.toNat : Int) % 128 * 2 ^ (7 * k) < 18446744073709551616 := by
    rcases (by omega : k = 0 ∨ k = 1 ∨ k = 2 ∨ k = 3 ∨ k = 4 ∨ k = 5 ∨ k = 6 ∨ k = 7 ∨ k = 8 ∨ k = 9) with rfl | rfl | rfl | rfl | rfl | rfl | rfl | rfl | rfl | rfl
    all_goals simp only [Nat.reduceMul, Int.reducePow]
    all_goals omega
  have hm0 : 0 ≤ (c.toNat : Int) % 128 * 2 ^ (7 * k) := Int.mul_nonneg (by omega) (by have : (0 : Int) < 2 ^ (7 * k) := Int.pow_pos (by decide); omega)
  unfold orU
  rw [e1, e2]
  have e4 : IntKind.u64.wrap ((c.toNat : Int) % 128 * 2 ^ (7 * k)) = (c.toNat : Int) % 128 * 2 ^ (7 * k) := by rw [wrap_u64_eq]; exact Int.emod_eq_of_lt hm0 hm
  rw [e4, or_core (7 * k) u _ (by omega) h0 (by rw [e3]; exact h) (by omega) hm, e3]
theorem orU_range (u : Int) (c : UInt8) (k : Nat) : 0 ≤ orU u c k ∧ orU u c k < 18446744073709551616 := by
  have := bounds_u64 (wf_bits .or .u64 u (IntKind.u64.wrap (IntKind.u64.wrap (bits BinOp.and IntKind.u8 (c.toNat) 127) * 2 ^ (7 * k))))
  unfold orU; omega
theorem and_one (u : Int) (h0 : 0 ≤ u) (h1 : u < 18446744073709551616) : bits .and .u64 u 1 = u % 2 := by
  obtain ⟨a, rfl⟩ := Int.eq_ofNat_of_zero_le h0
  have h := u64_and_nat a 1 (by omega) (by decide)
  rw [Nat.and_one_is_mod] at h
  have h' : bits .and .u64 ((a : Nat) : Int) 1 = ((a % 2 : Nat) : Int) := h
  rw [h']; omega
theorem xor_val (u : Int) (h0 : 0 ≤ u) (h1 : u < 18446744073709551616) : bits .xor .i64 (u / 2) (-(u % 2)) = val u := by
  have hx : 0 ≤ u / 2 ∧ u / 2 < 9223372036854775808 := by omega
  have hofn : ∀ a : Nat, (a : Int) < 9223372036854775808 → (BitVec.ofInt 64 (a : Int)).toNat = a := fun a ha => by rw [BitVec.ofInt_natCast, BitVec.toNat_ofNat]; omega
  by_cases h : u % 2 = 1
  · rw [val_odd h, h]
    obtain ⟨a, ha⟩ := Int.eq_ofNat_of_zero_le hx.1
    rw [ha] at hx ⊢
    have ho : BitVec.ofInt 64 (-1 : Int) = BitVec.allOnes 64 := by decide
    show IntKind.i64.wrap ((BitVec.ofInt 64 (a : Int) ^^^ BitVec.ofInt 64 (-1 : Int)).toNat : Int) = _
    rw [ho, BitVec.xor_allOnes, BitVec.toNat_not, hofn a hx.2, IntKind.wrap_i64]
    have := hx.2
    omega
  · rw [val_even h, show u % 2 = 0 by omega]
    obtain ⟨a, ha⟩ := Int.eq_ofNat_of_zero_le hx.1
    rw [ha] at hx ⊢
    show IntKind.i64.wrap ((BitVec.ofInt 64 (a : Int) ^^^ BitVec.ofInt 64 (-0 : Int)).toNat : Int) = _
    have ho : BitVec.ofInt 64 (-0 : Int) = 0#64 := by decide
    rw [ho, BitVec.xor_zero, hofn a hx.2, IntKind.wrap_i64]
    have := hx.2
    omega
end Go.Proofs.YtkmlnibkdcdegaaGreatDoor.Gn

/-
  The Go function spec.GetNum answers what the plain function gn tells, for every string and every place.
  No condition beside the form's own bound on a string's length.
-/
namespace Go.Proofs.YtkmlnibkdcdegaaGreatDoor.Gn
open Go.ChangeShapes Go.WideShapes Go.ChangeAt Go.RowKit
set_option linter.unusedVariables false
set_option maxRecDepth 100000

set_option maxRecDepth 100000 in
set_option maxHeartbeats 8000000 in
theorem specGetNum_at (s : ByteArray) (a : Nat) (w : World) (h1 : ¬ 8000 < s.size) (ha : a ≤ 9223372036854775807) :
    Calls Tryz.prog 23 #[.string s, .int .i64 a] w fun e w' => e = .returned (gnV s a) ∧ Below w.heap.size w w' := by
  go_enter Tryz.func23, Tryz.ntmps23
  go_wp2
  go_loop [5, 6] (fun x i => ∃ k : Nat, k ≤ 9 ∧ i = .int .i64 k ∧ ∃ u : Int, 0 ≤ u ∧ u < 18446744073709551616 ∧ x = .int .u64 u ∧ Hid (rd (10 - k) (s.data.toList.drop (a + k)) k u ((a : Int) + k) = rd 10 (s.data.toList.drop a) 0 0 a ∧ u < 128 ^ k)) (fun _ i => 10 - (intOf i).toNat)
  case atStart => exact ⟨0, by omega, rfl, 0, by omega, by omega, rfl, Lib.hid ⟨by simp, by decide⟩⟩
  case round =>
    obtain ⟨k, hk, rfl, u, hu0, hu1, rfl, HR⟩ := hrel
    rcases (by omega : k = 0 ∨ k = 1 ∨ k = 2 ∨ k = 3 ∨ k = 4 ∨ k = 5 ∨ k = 6 ∨ k = 7 ∨ k = 8 ∨ k = 9) with rfl | rfl | rfl | rfl | rfl | rfl | rfl | rfl | rfl | rfl
    · -- k = 0
      have HR0 : Hid (rd 10 (s.data.toList.drop (a)) 0 u ((a : Int)) = rd 10 (s.data.toList.drop a) 0 0 a) := by have h := HR.out.1; rw [show ((a : Int) + ((0 : Nat) : Int)) = (a : Int) by omega] at h; exact Lib.hid h
      have hu2 : u < 1 := by have := HR.out.2; simpa using this
      clear HR
      by_cases hl : a < s.size
      · have hb := byte_le s[a]
        by_cases hc : s[a].toNat < 128
        · have h0 : ¬ (s[a].toNat = 0 ∧ 0 < 0) := by omega
          by_cases hzc : s[a].toNat = 0
          · have hzb : (((s[a].toNat : Nat) : Int) == 0) = true := by rw [beq_iff_eq]; omega
            have HZ := Lib.hid hzc
            clear hzc
            by_cases hpar : (u + ((s[a].toNat : Nat) : Int) % 128) % 2 = 1
            · have HF : Hid (gnV s a = .agg #[.int .i64 (-((u + ((s[a].toNat : Nat) : Int) % 128) / 2) - 1), .int .i64 ((a : Int) + 1), .int .i64 0]) := by
                refine Lib.hid (gn_rd h1 (HR0.out.symm.trans ?_))
                rw [drop_cons s (a) hl, rd_val 9 _ 0 _ _ hc h0 (by omega), show (128 : Int) ^ 0 = 1 by decide, Int.mul_one, val_odd hpar]
              have hb2 : ((u + ((s[a].toNat : Nat) : Int) % 128) % 2 == 1) = true := by rw [beq_iff_eq]; exact hpar
              have HP := Lib.hid hpar
              clear hpar
              go_wp2
              exact bodyPost_ret (v := .agg #[.int .i64 (-((u + ((s[a].toNat : Nat) : Int) % 128) / 2) - 1), .int .i64 ((a : Int) + 1), .int .i64 0]) (by simp [results, Tryz.results23, go_sem]) rfl ⟨by rw [HF.out], (Below.refl _ _).alloc (Nat.le_refl _) _⟩
            · have HF : Hid (gnV s a = .agg #[.int .i64 ((u + ((s[a].toNat : Nat) : Int) % 128) / 2), .int .i64 ((a : Int) + 1), .int .i64 0]) := by
                refine Lib.hid (gn_rd h1 (HR0.out.symm.trans ?_))
                rw [drop_cons s (a) hl, rd_val 9 _ 0 _ _ hc h0 (by omega), show (128 : Int) ^ 0 = 1 by decide, Int.mul_one, val_even hpar]
              have hb2 : ((u + ((s[a].toNat : Nat) : Int) % 128) % 2 == 1) = false := by rw [beq_eq_false_iff_ne]; exact hpar
              have HP := Lib.hid hpar
              clear hpar
              go_wp2
              exact bodyPost_ret (v := .agg #[.int .i64 ((u + ((s[a].toNat : Nat) : Int) % 128) / 2), .int .i64 ((a : Int) + 1), .int .i64 0]) (by simp [results, Tryz.results23, go_sem]) rfl ⟨by rw [HF.out], (Below.refl _ _).alloc (Nat.le_refl _) _⟩
          · have hzb : (((s[a].toNat : Nat) : Int) == 0) = false := by rw [beq_eq_false_iff_ne]; omega
            have HZ := Lib.hid hzc
            clear hzc
            by_cases hpar : (u + ((s[a].toNat : Nat) : Int) % 128) % 2 = 1
            · have HF : Hid (gnV s a = .agg #[.int .i64 (-((u + ((s[a].toNat : Nat) : Int) % 128) / 2) - 1), .int .i64 ((a : Int) + 1), .int .i64 0]) := by
                refine Lib.hid (gn_rd h1 (HR0.out.symm.trans ?_))
                rw [drop_cons s (a) hl, rd_val 9 _ 0 _ _ hc h0 (by omega), show (128 : Int) ^ 0 = 1 by decide, Int.mul_one, val_odd hpar]
              have hb2 : ((u + ((s[a].toNat : Nat) : Int) % 128) % 2 == 1) = true := by rw [beq_iff_eq]; exact hpar
              have HP := Lib.hid hpar
              clear hpar
              go_wp2
              exact bodyPost_ret (v := .agg #[.int .i64 (-((u + ((s[a].toNat : Nat) : Int) % 128) / 2) - 1), .int .i64 ((a : Int) + 1), .int .i64 0]) (by simp [results, Tryz.results23, go_sem]) rfl ⟨by rw [HF.out], (Below.refl _ _).alloc (Nat.le_refl _) _⟩
            · have HF : Hid (gnV s a = .agg #[.int .i64 ((u + ((s[a].toNat : Nat) : Int) % 128) / 2), .int .i64 ((a : Int) + 1), .int .i64 0]) := by
                refine Lib.hid (gn_rd h1 (HR0.out.symm.trans ?_))
                rw [drop_cons s (a) hl, rd_val 9 _ 0 _ _ hc h0 (by omega), show (128 : Int) ^ 0 = 1 by decide, Int.mul_one, val_even hpar]
              have hb2 : ((u + ((s[a].toNat : Nat) : Int) % 128) % 2 == 1) = false := by rw [beq_eq_false_iff_ne]; exact hpar
              have HP := Lib.hid hpar
              clear hpar
              go_wp2
              exact bodyPost_ret (v := .agg #[.int .i64 ((u + ((s[a].toNat : Nat) : Int) % 128) / 2), .int .i64 ((a : Int) + 1), .int .i64 0]) (by simp [results, Tryz.results23, go_sem]) rfl ⟨by rw [HF.out], (Below.refl _ _).alloc (Nat.le_refl _) _⟩
        · have HN : Hid (rd 9 (s.data.toList.drop (a + 1)) 1 (u + ((s[a].toNat : Nat) : Int) % 128) ((a : Int) + 1) = rd 10 (s.data.toList.drop a) 0 0 a) := by
            refine Lib.hid (Eq.trans ?_ HR0.out)
            rw [drop_cons s (a) hl, rd_next 9 _ 0 _ _ (by omega) (by decide), show (128 : Int) ^ 0 = 1 by decide]
            rw [Int.mul_one]
          have HL : Hid (0 ≤ u + ((s[a].toNat : Nat) : Int) % 128 ∧ u + ((s[a].toNat : Nat) : Int) % 128 < 128 ^ (0 + 1)) := by exact Lib.hid (by omega)
          go_wp2
          go_round
          case rel => exact ⟨1, by omega, rfl, _, HL.out.1, by have := HL.out.2; omega, rfl, Lib.hid ⟨HN.out, HL.out.2⟩⟩
          case measure => simp [intOf]
      · have HF : Hid (gnV s a = .agg #[.int .i64 0, .int .i64 0, .int .i64 4]) := by
          refine Lib.hid (gn_rd h1 (HR0.out.symm.trans ?_))
          rw [drop_nil s (a) (by omega), rd_short]
        have hl2 : (s.size : Int) - 0 ≤ a := by omega
        go_wp2
        exact bodyPost_ret (v := .agg #[.int .i64 (0), .int .i64 (0), .int .i64 4]) (by simp [results, Tryz.results23, go_sem]) rfl ⟨by rw [HF.out], (Below.refl _ _).alloc (Nat.le_refl _) _⟩
    · -- k = 1
      have HR0 : Hid (rd 9 (s.data.toList.drop (a + 1)) 1 u ((a : Int) + 1) = rd 10 (s.data.toList.drop a) 0 0 a) := by exact Lib.hid HR.out.1
      have hu2 : u < 128 := by have := HR.out.2; simpa using this
      clear HR
      by_cases hl : a + 1 < s.size
      · have hb := byte_le s[a + 1]
        by_cases hc : s[a + 1].toNat < 128
        · by_cases h0 : s[a + 1].toNat = 0 ∧ 0 < 1
          · have HF : Hid (gnV s a = .agg #[.int .i64 0, .int .i64 0, .int .i64 3]) := by
              refine Lib.hid (gn_rd h1 (HR0.out.symm.trans ?_))
              rw [drop_cons s (a + 1) hl, rd_zero 8 _ 1 _ _ h0.1 (by decide)]
            have hz : ((s[a + 1].toNat : Nat) : Int) = 0 := by have := h0.1; omega
            have hzb : (((s[a + 1].toNat : Nat) : Int) == 0) = true := by rw [beq_iff_eq]; exact hz
            have HZ := Lib.hid hz
            clear hz h0 hc
            have hci : ((s[a + 1].toNat : Nat) : Int) < 128 := by rw [HZ.out]; decide
            go_wp2
            exact bodyPost_ret (v := .agg #[.int .i64 (0), .int .i64 (0), .int .i64 3]) (by simp [results, Tryz.results23, go_sem]) rfl ⟨by rw [HF.out], (Below.refl _ _).alloc (Nat.le_refl _) _⟩
          · have hzb : (((s[a + 1].toNat : Nat) : Int) == 0) = false := by
              rw [beq_eq_false_iff_ne]; intro x; exact h0 ⟨by omega, by decide⟩
            by_cases hpar : (u + ((s[a + 1].toNat : Nat) : Int) % 128 * 128) % 2 = 1
            · have HF : Hid (gnV s a = .agg #[.int .i64 (-((u + ((s[a + 1].toNat : Nat) : Int) % 128 * 128) / 2) - 1), .int .i64 ((a : Int) + 1 + 1), .int .i64 0]) := by
                refine Lib.hid (gn_rd h1 (HR0.out.symm.trans ?_))
                rw [drop_cons s (a + 1) hl, rd_val 8 _ 1 _ _ hc h0 (by omega), show (128 : Int) ^ 1 = 128 by decide, val_odd hpar]
              have hb2 : ((u + ((s[a + 1].toNat : Nat) : Int) % 128 * 128) % 2 == 1) = true := by rw [beq_iff_eq]; exact hpar
              have HP := Lib.hid hpar
              clear hpar
              go_wp2
              exact bodyPost_ret (v := .agg #[.int .i64 (-((u + ((s[a + 1].toNat : Nat) : Int) % 128 * 128) / 2) - 1), .int .i64 ((a : Int) + 1 + 1), .int .i64 0]) (by simp [results, Tryz.results23, go_sem]) rfl ⟨by rw [HF.out], (Below.refl _ _).alloc (Nat.le_refl _) _⟩
            · have HF : Hid (gnV s a = .agg #[.int .i64 ((u + ((s[a + 1].toNat : Nat) : Int) % 128 * 128) / 2), .int .i64 ((a : Int) + 1 + 1), .int .i64 0]) := by
                refine Lib.hid (gn_rd h1 (HR0.out.symm.trans ?_))
                rw [drop_cons s (a + 1) hl, rd_val 8 _ 1 _ _ hc h0 (by omega), show (128 : Int) ^ 1 = 128 by decide, val_even hpar]
              have hb2 : ((u + ((s[a + 1].toNat : Nat) : Int) % 128 * 128) % 2 == 1) = false := by rw [beq_eq_false_iff_ne]; exact hpar
              have HP := Lib.hid hpar
              clear hpar
              go_wp2
              exact bodyPost_ret (v := .agg #[.int .i64 ((u + ((s[a + 1].toNat : Nat) : Int) % 128 * 128) / 2), .int .i64 ((a : Int) + 1 + 1), .int .i64 0]) (by simp [results, Tryz.results23, go_sem]) rfl ⟨by rw [HF.out], (Below.refl _ _).alloc (Nat.le_refl _) _⟩
        · have HN : Hid (rd 8 (s.data.toList.drop (a + 2)) 2 (u + ((s[a + 1].toNat : Nat) : Int) % 128 * 128) ((a : Int) + 2) = rd 10 (s.data.toList.drop a) 0 0 a) := by
            refine Lib.hid (Eq.trans ?_ HR0.out)
            rw [drop_cons s (a + 1) hl, rd_next 8 _ 1 _ _ (by omega) (by decide), show (128 : Int) ^ 1 = 128 by decide]
            rw [Int.add_assoc]; rfl
          have HL : Hid (0 ≤ u + ((s[a + 1].toNat : Nat) : Int) % 128 * 128 ∧ u + ((s[a + 1].toNat : Nat) : Int) % 128 * 128 < 128 ^ (1 + 1)) := by exact Lib.hid (by omega)
          go_wp2
          go_round
          case rel => exact ⟨2, by omega, rfl, _, HL.out.1, by have := HL.out.2; omega, rfl, Lib.hid ⟨HN.out, HL.out.2⟩⟩
          case measure => simp [intOf]
      · have HF : Hid (gnV s a = .agg #[.int .i64 0, .int .i64 0, .int .i64 4]) := by
          refine Lib.hid (gn_rd h1 (HR0.out.symm.trans ?_))
          rw [drop_nil s (a + 1) (by omega), rd_short]
        have hl2 : (s.size : Int) - 1 ≤ a := by omega
        go_wp2
        exact bodyPost_ret (v := .agg #[.int .i64 (0), .int .i64 (0), .int .i64 4]) (by simp [results, Tryz.results23, go_sem]) rfl ⟨by rw [HF.out], (Below.refl _ _).alloc (Nat.le_refl _) _⟩
    · -- k = 2
      have HR0 : Hid (rd 8 (s.data.toList.drop (a + 2)) 2 u ((a : Int) + 2) = rd 10 (s.data.toList.drop a) 0 0 a) := by exact Lib.hid HR.out.1
      have hu2 : u < 16384 := by have := HR.out.2; simpa using this
      clear HR
      by_cases hl : a + 2 < s.size
      · have hb := byte_le s[a + 2]
        by_cases hc : s[a + 2].toNat < 128
        · by_cases h0 : s[a + 2].toNat = 0 ∧ 0 < 2
          · have HF : Hid (gnV s a = .agg #[.int .i64 0, .int .i64 0, .int .i64 3]) := by
              refine Lib.hid (gn_rd h1 (HR0.out.symm.trans ?_))
              rw [drop_cons s (a + 2) hl, rd_zero 7 _ 2 _ _ h0.1 (by decide)]
            have hz : ((s[a + 2].toNat : Nat) : Int) = 0 := by have := h0.1; omega
            have hzb : (((s[a + 2].toNat : Nat) : Int) == 0) = true := by rw [beq_iff_eq]; exact hz
            have HZ := Lib.hid hz
            clear hz h0 hc
            have hci : ((s[a + 2].toNat : Nat) : Int) < 128 := by rw [HZ.out]; decide
            go_wp2
            exact bodyPost_ret (v := .agg #[.int .i64 (0), .int .i64 (0), .int .i64 3]) (by simp [results, Tryz.results23, go_sem]) rfl ⟨by rw [HF.out], (Below.refl _ _).alloc (Nat.le_refl _) _⟩
          · have hzb : (((s[a + 2].toNat : Nat) : Int) == 0) = false := by
              rw [beq_eq_false_iff_ne]; intro x; exact h0 ⟨by omega, by decide⟩
            by_cases hpar : (u + ((s[a + 2].toNat : Nat) : Int) % 128 * 16384) % 2 = 1
            · have HF : Hid (gnV s a = .agg #[.int .i64 (-((u + ((s[a + 2].toNat : Nat) : Int) % 128 * 16384) / 2) - 1), .int .i64 ((a : Int) + 2 + 1), .int .i64 0]) := by
                refine Lib.hid (gn_rd h1 (HR0.out.symm.trans ?_))
                rw [drop_cons s (a + 2) hl, rd_val 7 _ 2 _ _ hc h0 (by omega), show (128 : Int) ^ 2 = 16384 by decide, val_odd hpar]
              have hb2 : ((u + ((s[a + 2].toNat : Nat) : Int) % 128 * 16384) % 2 == 1) = true := by rw [beq_iff_eq]; exact hpar
              have HP := Lib.hid hpar
              clear hpar
              go_wp2
              exact bodyPost_ret (v := .agg #[.int .i64 (-((u + ((s[a + 2].toNat : Nat) : Int) % 128 * 16384) / 2) - 1), .int .i64 ((a : Int) + 2 + 1), .int .i64 0]) (by simp [results, Tryz.results23, go_sem]) rfl ⟨by rw [HF.out], (Below.refl _ _).alloc (Nat.le_refl _) _⟩
            · have HF : Hid (gnV s a = .agg #[.int .i64 ((u + ((s[a + 2].toNat : Nat) : Int) % 128 * 16384) / 2), .int .i64 ((a : Int) + 2 + 1), .int .i64 0]) := by
                refine Lib.hid (gn_rd h1 (HR0.out.symm.trans ?_))
                rw [drop_cons s (a + 2) hl, rd_val 7 _ 2 _ _ hc h0 (by omega), show (128 : Int) ^ 2 = 16384 by decide, val_even hpar]
              have hb2 : ((u + ((s[a + 2].toNat : Nat) : Int) % 128 * 16384) % 2 == 1) = false := by rw [beq_eq_false_iff_ne]; exact hpar
              have HP := Lib.hid hpar
              clear hpar
              go_wp2
              exact bodyPost_ret (v := .agg #[.int .i64 ((u + ((s[a + 2].toNat : Nat) : Int) % 128 * 16384) / 2), .int .i64 ((a : Int) + 2 + 1), .int .i64 0]) (by simp [results, Tryz.results23, go_sem]) rfl ⟨by rw [HF.out], (Below.refl _ _).alloc (Nat.le_refl _) _⟩
        · have HN : Hid (rd 7 (s.data.toList.drop (a + 3)) 3 (u + ((s[a + 2].toNat : Nat) : Int) % 128 * 16384) ((a : Int) + 3) = rd 10 (s.data.toList.drop a) 0 0 a) := by
            refine Lib.hid (Eq.trans ?_ HR0.out)
            rw [drop_cons s (a + 2) hl, rd_next 7 _ 2 _ _ (by omega) (by decide), show (128 : Int) ^ 2 = 16384 by decide]
            rw [Int.add_assoc]; rfl
          have HL : Hid (0 ≤ u + ((s[a + 2].toNat : Nat) : Int) % 128 * 16384 ∧ u + ((s[a + 2].toNat : Nat) : Int) % 128 * 16384 < 128 ^ (2 + 1)) := by exact Lib.hid (by omega)
          go_wp2
          go_round
          case rel => exact ⟨3, by omega, rfl, _, HL.out.1, by have := HL.out.2; omega, rfl, Lib.hid ⟨HN.out, HL.out.2⟩⟩
          case measure => simp [intOf]
      · have HF : Hid (gnV s a = .agg #[.int .i64 0, .int .i64 0, .int .i64 4]) := by
          refine Lib.hid (gn_rd h1 (HR0.out.symm.trans ?_))
          rw [drop_nil s (a + 2) (by omega), rd_short]
        have hl2 : (s.size : Int) - 2 ≤ a := by omega
        go_wp2
        exact bodyPost_ret (v := .agg #[.int .i64 (0), .int .i64 (0), .int .i64 4]) (by simp [results, Tryz.results23, go_sem]) rfl ⟨by rw [HF.out], (Below.refl _ _).alloc (Nat.le_refl _) _⟩
    · -- k = 3
      have HR0 : Hid (rd 7 (s.data.toList.drop (a + 3)) 3 u ((a : Int) + 3) = rd 10 (s.data.toList.drop a) 0 0 a) := by exact Lib.hid HR.out.1
      have hu2 : u < 2097152 := by have := HR.out.2; simpa using this
      clear HR
      by_cases hl : a + 3 < s.size
      · have hb := byte_le s[a + 3]
        by_cases hc : s[a + 3].toNat < 128
        · by_cases h0 : s[a + 3].toNat = 0 ∧ 0 < 3
          · have HF : Hid (gnV s a = .agg #[.int .i64 0, .int .i64 0, .int .i64 3]) := by
              refine Lib.hid (gn_rd h1 (HR0.out.symm.trans ?_))
              rw [drop_cons s (a + 3) hl, rd_zero 6 _ 3 _ _ h0.1 (by decide)]
            have hz : ((s[a + 3].toNat : Nat) : Int) = 0 := by have := h0.1; omega
            have hzb : (((s[a + 3].toNat : Nat) : Int) == 0) = true := by rw [beq_iff_eq]; exact hz
            have HZ := Lib.hid hz
            clear hz h0 hc
            have hci : ((s[a + 3].toNat : Nat) : Int) < 128 := by rw [HZ.out]; decide
            go_wp2
            exact bodyPost_ret (v := .agg #[.int .i64 (0), .int .i64 (0), .int .i64 3]) (by simp [results, Tryz.results23, go_sem]) rfl ⟨by rw [HF.out], (Below.refl _ _).alloc (Nat.le_refl _) _⟩
          · have hzb : (((s[a + 3].toNat : Nat) : Int) == 0) = false := by
              rw [beq_eq_false_iff_ne]; intro x; exact h0 ⟨by omega, by decide⟩
            by_cases hpar : (u + ((s[a + 3].toNat : Nat) : Int) % 128 * 2097152) % 2 = 1
            · have HF : Hid (gnV s a = .agg #[.int .i64 (-((u + ((s[a + 3].toNat : Nat) : Int) % 128 * 2097152) / 2) - 1), .int .i64 ((a : Int) + 3 + 1), .int .i64 0]) := by
                refine Lib.hid (gn_rd h1 (HR0.out.symm.trans ?_))
                rw [drop_cons s (a + 3) hl, rd_val 6 _ 3 _ _ hc h0 (by omega), show (128 : Int) ^ 3 = 2097152 by decide, val_odd hpar]
              have hb2 : ((u + ((s[a + 3].toNat : Nat) : Int) % 128 * 2097152) % 2 == 1) = true := by rw [beq_iff_eq]; exact hpar
              have HP := Lib.hid hpar
              clear hpar
              go_wp2
              exact bodyPost_ret (v := .agg #[.int .i64 (-((u + ((s[a + 3].toNat : Nat) : Int) % 128 * 2097152) / 2) - 1), .int .i64 ((a : Int) + 3 + 1), .int .i64 0]) (by simp [results, Tryz.results23, go_sem]) rfl ⟨by rw [HF.out], (Below.refl _ _).alloc (Nat.le_refl _) _⟩
            · have HF : Hid (gnV s a = .agg #[.int .i64 ((u + ((s[a + 3].toNat : Nat) : Int) % 128 * 2097152) / 2), .int .i64 ((a : Int) + 3 + 1), .int .i64 0]) := by
                refine Lib.hid (gn_rd h1 (HR0.out.symm.trans ?_))
                rw [drop_cons s (a + 3) hl, rd_val 6 _ 3 _ _ hc h0 (by omega), show (128 : Int) ^ 3 = 2097152 by decide, val_even hpar]
              have hb2 : ((u + ((s[a + 3].toNat : Nat) : Int) % 128 * 2097152) % 2 == 1) = false := by rw [beq_eq_false_iff_ne]; exact hpar
              have HP := Lib.hid hpar
              clear hpar
              go_wp2
              exact bodyPost_ret (v := .agg #[.int .i64 ((u + ((s[a + 3].toNat : Nat) : Int) % 128 * 2097152) / 2), .int .i64 ((a : Int) + 3 + 1), .int .i64 0]) (by simp [results, Tryz.results23, go_sem]) rfl ⟨by rw [HF.out], (Below.refl _ _).alloc (Nat.le_refl _) _⟩
        · have HN : Hid (rd 6 (s.data.toList.drop (a + 4)) 4 (u + ((s[a + 3].toNat : Nat) : Int) % 128 * 2097152) ((a : Int) + 4) = rd 10 (s.data.toList.drop a) 0 0 a) := by
            refine Lib.hid (Eq.trans ?_ HR0.out)
            rw [drop_cons s (a + 3) hl, rd_next 6 _ 3 _ _ (by omega) (by decide), show (128 : Int) ^ 3 = 2097152 by decide]
            rw [Int.add_assoc]; rfl
          have HL : Hid (0 ≤ u + ((s[a + 3].toNat : Nat) : Int) % 128 * 2097152 ∧ u + ((s[a + 3].toNat : Nat) : Int) % 128 * 2097152 < 128 ^ (3 + 1)) := by exact Lib.hid (by omega)
          go_wp2
          go_round
          case rel => exact ⟨4, by omega, rfl, _, HL.out.1, by have := HL.out.2; omega, rfl, Lib.hid ⟨HN.out, HL.out.2⟩⟩
          case measure => simp [intOf]
      · have HF : Hid (gnV s a = .agg #[.int .i64 0, .int .i64 0, .int .i64 4]) := by
          refine Lib.hid (gn_rd h1 (HR0.out.symm.trans ?_))
          rw [drop_nil s (a + 3) (by omega), rd_short]
        have hl2 : (s.size : Int) - 3 ≤ a := by omega
        go_wp2
        exact bodyPost_ret (v := .agg #[.int .i64 (0), .int .i64 (0), .int .i64 4]) (by simp [results, Tryz.results23, go_sem]) rfl ⟨by rw [HF.out], (Below.refl _ _).alloc (Nat.le_refl _) _⟩
    · -- k = 4
      have HR0 : Hid (rd 6 (s.data.toList.drop (a + 4)) 4 u ((a : Int) + 4) = rd 10 (s.data.toList.drop a) 0 0 a) := by exact Lib.hid HR.out.1
      have hu2 : u < 268435456 := by have := HR.out.2; simpa using this
      clear HR
      by_cases hl : a + 4 < s.size
      · have hb := byte_le s[a + 4]
        by_cases hc : s[a + 4].toNat < 128
        · by_cases h0 : s[a + 4].toNat = 0 ∧ 0 < 4
          · have HF : Hid (gnV s a = .agg #[.int .i64 0, .int .i64 0, .int .i64 3]) := by
              refine Lib.hid (gn_rd h1 (HR0.out.symm.trans ?_))
              rw [drop_cons s (a + 4) hl, rd_zero 5 _ 4 _ _ h0.1 (by decide)]
            have hz : ((s[a + 4].toNat : Nat) : Int) = 0 := by have := h0.1; omega
            have hzb : (((s[a + 4].toNat : Nat) : Int) == 0) = true := by rw [beq_iff_eq]; exact hz
            have HZ := Lib.hid hz
            clear hz h0 hc
            have hci : ((s[a + 4].toNat : Nat) : Int) < 128 := by rw [HZ.out]; decide
            go_wp2
            exact bodyPost_ret (v := .agg #[.int .i64 (0), .int .i64 (0), .int .i64 3]) (by simp [results, Tryz.results23, go_sem]) rfl ⟨by rw [HF.out], (Below.refl _ _).alloc (Nat.le_refl _) _⟩
          · have hzb : (((s[a + 4].toNat : Nat) : Int) == 0) = false := by
              rw [beq_eq_false_iff_ne]; intro x; exact h0 ⟨by omega, by decide⟩
            by_cases hpar : (u + ((s[a + 4].toNat : Nat) : Int) % 128 * 268435456) % 2 = 1
            · have HF : Hid (gnV s a = .agg #[.int .i64 (-((u + ((s[a + 4].toNat : Nat) : Int) % 128 * 268435456) / 2) - 1), .int .i64 ((a : Int) + 4 + 1), .int .i64 0]) := by
                refine Lib.hid (gn_rd h1 (HR0.out.symm.trans ?_))
                rw [drop_cons s (a + 4) hl, rd_val 5 _ 4 _ _ hc h0 (by omega), show (128 : Int) ^ 4 = 268435456 by decide, val_odd hpar]
              have hb2 : ((u + ((s[a + 4].toNat : Nat) : Int) % 128 * 268435456) % 2 == 1) = true := by rw [beq_iff_eq]; exact hpar
              have HP := Lib.hid hpar
              clear hpar
              go_wp2
              exact bodyPost_ret (v := .agg #[.int .i64 (-((u + ((s[a + 4].toNat : Nat) : Int) % 128 * 268435456) / 2) - 1), .int .i64 ((a : Int) + 4 + 1), .int .i64 0]) (by simp [results, Tryz.results23, go_sem]) rfl ⟨by rw [HF.out], (Below.refl _ _).alloc (Nat.le_refl _) _⟩
            · have HF : Hid (gnV s a = .agg #[.int .i64 ((u + ((s[a + 4].toNat : Nat) : Int) % 128 * 268435456) / 2), .int .i64 ((a : Int) + 4 + 1), .int .i64 0]) := by
                refine Lib.hid (gn_rd h1 (HR0.out.symm.trans ?_))
                rw [drop_cons s (a + 4) hl, rd_val 5 _ 4 _ _ hc h0 (by omega), show (128 : Int) ^ 4 = 268435456 by decide, val_even hpar]
              have hb2 : ((u + ((s[a + 4].toNat : Nat) : Int) % 128 * 268435456) % 2 == 1) = false := by rw [beq_eq_false_iff_ne]; exact hpar
              have HP := Lib.hid hpar
              clear hpar
              go_wp2
              exact bodyPost_ret (v := .agg #[.int .i64 ((u + ((s[a + 4].toNat : Nat) : Int) % 128 * 268435456) / 2), .int .i64 ((a : Int) + 4 + 1), .int .i64 0]) (by simp [results, Tryz.results23, go_sem]) rfl ⟨by rw [HF.out], (Below.refl _ _).alloc (Nat.le_refl _) _⟩
        · have HN : Hid (rd 5 (s.data.toList.drop (a + 5)) 5 (u + ((s[a + 4].toNat : Nat) : Int) % 128 * 268435456) ((a : Int) + 5) = rd 10 (s.data.toList.drop a) 0 0 a) := by
            refine Lib.hid (Eq.trans ?_ HR0.out)
            rw [drop_cons s (a + 4) hl, rd_next 5 _ 4 _ _ (by omega) (by decide), show (128 : Int) ^ 4 = 268435456 by decide]
            rw [Int.add_assoc]; rfl
          have HL : Hid (0 ≤ u + ((s[a + 4].toNat : Nat) : Int) % 128 * 268435456 ∧ u + ((s[a + 4].toNat : Nat) : Int) % 128 * 268435456 < 128 ^ (4 + 1)) := by exact Lib.hid (by omega)
          go_wp2
          go_round
          case rel => exact ⟨5, by omega, rfl, _, HL.out.1, by have := HL.out.2; omega, rfl, Lib.hid ⟨HN.out, HL.out.2⟩⟩
          case measure => simp [intOf]
      · have HF : Hid (gnV s a = .agg #[.int .i64 0, .int .i64 0, .int .i64 4]) := by
          refine Lib.hid (gn_rd h1 (HR0.out.symm.trans ?_))
          rw [drop_nil s (a + 4) (by omega), rd_short]
        have hl2 : (s.size : Int) - 4 ≤ a := by omega
        go_wp2
        exact bodyPost_ret (v := .agg #[.int .i64 (0), .int .i64 (0), .int .i64 4]) (by simp [results, Tryz.results23, go_sem]) rfl ⟨by rw [HF.out], (Below.refl _ _).alloc (Nat.le_refl _) _⟩
    · -- k = 5
      have HR0 : Hid (rd 5 (s.data.toList.drop (a + 5)) 5 u ((a : Int) + 5) = rd 10 (s.data.toList.drop a) 0 0 a) := by exact Lib.hid HR.out.1
      have hu2 : u < 34359738368 := by have := HR.out.2; simpa using this
      clear HR
      by_cases hl : a + 5 < s.size
      · have hb := byte_le s[a + 5]
        by_cases hc : s[a + 5].toNat < 128
        · by_cases h0 : s[a + 5].toNat = 0 ∧ 0 < 5
          · have HF : Hid (gnV s a = .agg #[.int .i64 0, .int .i64 0, .int .i64 3]) := by
              refine Lib.hid (gn_rd h1 (HR0.out.symm.trans ?_))
              rw [drop_cons s (a + 5) hl, rd_zero 4 _ 5 _ _ h0.1 (by decide)]
            have hz : ((s[a + 5].toNat : Nat) : Int) = 0 := by have := h0.1; omega
            have hzb : (((s[a + 5].toNat : Nat) : Int) == 0) = true := by rw [beq_iff_eq]; exact hz
            have HZ := Lib.hid hz
            clear hz h0 hc
            have hci : ((s[a + 5].toNat : Nat) : Int) < 128 := by rw [HZ.out]; decide
            go_wp2
            exact bodyPost_ret (v := .agg #[.int .i64 (0), .int .i64 (0), .int .i64 3]) (by simp [results, Tryz.results23, go_sem]) rfl ⟨by rw [HF.out], (Below.refl _ _).alloc (Nat.le_refl _) _⟩
          · have hzb : (((s[a + 5].toNat : Nat) : Int) == 0) = false := by
              rw [beq_eq_false_iff_ne]; intro x; exact h0 ⟨by omega, by decide⟩
            by_cases hpar : (u + ((s[a + 5].toNat : Nat) : Int) % 128 * 34359738368) % 2 = 1
            · have HF : Hid (gnV s a = .agg #[.int .i64 (-((u + ((s[a + 5].toNat : Nat) : Int) % 128 * 34359738368) / 2) - 1), .int .i64 ((a : Int) + 5 + 1), .int .i64 0]) := by
                refine Lib.hid (gn_rd h1 (HR0.out.symm.trans ?_))
                rw [drop_cons s (a + 5) hl, rd_val 4 _ 5 _ _ hc h0 (by omega), show (128 : Int) ^ 5 = 34359738368 by decide, val_odd hpar]
              have hb2 : ((u + ((s[a + 5].toNat : Nat) : Int) % 128 * 34359738368) % 2 == 1) = true := by rw [beq_iff_eq]; exact hpar
              have HP := Lib.hid hpar
              clear hpar
              go_wp2
              exact bodyPost_ret (v := .agg #[.int .i64 (-((u + ((s[a + 5].toNat : Nat) : Int) % 128 * 34359738368) / 2) - 1), .int .i64 ((a : Int) + 5 + 1), .int .i64 0]) (by simp [results, Tryz.results23, go_sem]) rfl ⟨by rw [HF.out], (Below.refl _ _).alloc (Nat.le_refl _) _⟩
            · have HF : Hid (gnV s a = .agg #[.int .i64 ((u + ((s[a + 5].toNat : Nat) : Int) % 128 * 34359738368) / 2), .int .i64 ((a : Int) + 5 + 1), .int .i64 0]) := by
                refine Lib.hid (gn_rd h1 (HR0.out.symm.trans ?_))
                rw [drop_cons s (a + 5) hl, rd_val 4 _ 5 _ _ hc h0 (by omega), show (128 : Int) ^ 5 = 34359738368 by decide, val_even hpar]
              have hb2 : ((u + ((s[a + 5].toNat : Nat) : Int) % 128 * 34359738368) % 2 == 1) = false := by rw [beq_eq_false_iff_ne]; exact hpar
              have HP := Lib.hid hpar
              clear hpar
              go_wp2
              exact bodyPost_ret (v := .agg #[.int .i64 ((u + ((s[a + 5].toNat : Nat) : Int) % 128 * 34359738368) / 2), .int .i64 ((a : Int) + 5 + 1), .int .i64 0]) (by simp [results, Tryz.results23, go_sem]) rfl ⟨by rw [HF.out], (Below.refl _ _).alloc (Nat.le_refl _) _⟩
        · have HN : Hid (rd 4 (s.data.toList.drop (a + 6)) 6 (u + ((s[a + 5].toNat : Nat) : Int) % 128 * 34359738368) ((a : Int) + 6) = rd 10 (s.data.toList.drop a) 0 0 a) := by
            refine Lib.hid (Eq.trans ?_ HR0.out)
            rw [drop_cons s (a + 5) hl, rd_next 4 _ 5 _ _ (by omega) (by decide), show (128 : Int) ^ 5 = 34359738368 by decide]
            rw [Int.add_assoc]; rfl
          have HL : Hid (0 ≤ u + ((s[a + 5].toNat : Nat) : Int) % 128 * 34359738368 ∧ u + ((s[a + 5].toNat : Nat) : Int) % 128 * 34359738368 < 128 ^ (5 + 1)) := by exact Lib.hid (by omega)
          go_wp2
          go_round
          case rel => exact ⟨6, by omega, rfl, _, HL.out.1, by have := HL.out.2; omega, rfl, Lib.hid ⟨HN.out, HL.out.2⟩⟩
          case measure => simp [intOf]
      · have HF : Hid (gnV s a = .agg #[.int .i64 0, .int .i64 0, .int .i64 4]) := by
          refine Lib.hid (gn_rd h1 (HR0.out.symm.trans ?_))
          rw [drop_nil s (a + 5) (by omega), rd_short]
        have hl2 : (s.size : Int) - 5 ≤ a := by omega
        go_wp2
        exact bodyPost_ret (v := .agg #[.int .i64 (0), .int .i64 (0), .int .i64 4]) (by simp [results, Tryz.results23, go_sem]) rfl ⟨by rw [HF.out], (Below.refl _ _).alloc (Nat.le_refl _) _⟩
    · -- k = 6
      have HR0 : Hid (rd 4 (s.data.toList.drop (a + 6)) 6 u ((a : Int) + 6) = rd 10 (s.data.toList.drop a) 0 0 a) := by exact Lib.hid HR.out.1
      have hu2 : u < 4398046511104 := by have := HR.out.2; simpa using this
      clear HR
      by_cases hl : a + 6 < s.size
      · have hb := byte_le s[a + 6]
        by_cases hc : s[a + 6].toNat < 128
        · by_cases h0 : s[a + 6].toNat = 0 ∧ 0 < 6
          · have HF : Hid (gnV s a = .agg #[.int .i64 0, .int .i64 0, .int .i64 3]) := by
              refine Lib.hid (gn_rd h1 (HR0.out.symm.trans ?_))
              rw [drop_cons s (a + 6) hl, rd_zero 3 _ 6 _ _ h0.1 (by decide)]
            have hz : ((s[a + 6].toNat : Nat) : Int) = 0 := by have := h0.1; omega
            have hzb : (((s[a + 6].toNat : Nat) : Int) == 0) = true := by rw [beq_iff_eq]; exact hz
            have HZ := Lib.hid hz
            clear hz h0 hc
            have hci : ((s[a + 6].toNat : Nat) : Int) < 128 := by rw [HZ.out]; decide
            go_wp2
            exact bodyPost_ret (v := .agg #[.int .i64 (0), .int .i64 (0), .int .i64 3]) (by simp [results, Tryz.results23, go_sem]) rfl ⟨by rw [HF.out], (Below.refl _ _).alloc (Nat.le_refl _) _⟩
          · have hzb : (((s[a + 6].toNat : Nat) : Int) == 0) = false := by
              rw [beq_eq_false_iff_ne]; intro x; exact h0 ⟨by omega, by decide⟩
            by_cases hpar : (u + ((s[a + 6].toNat : Nat) : Int) % 128 * 4398046511104) % 2 = 1
            · have HF : Hid (gnV s a = .agg #[.int .i64 (-((u + ((s[a + 6].toNat : Nat) : Int) % 128 * 4398046511104) / 2) - 1), .int .i64 ((a : Int) + 6 + 1), .int .i64 0]) := by
                refine Lib.hid (gn_rd h1 (HR0.out.symm.trans ?_))
                rw [drop_cons s (a + 6) hl, rd_val 3 _ 6 _ _ hc h0 (by omega), show (128 : Int) ^ 6 = 4398046511104 by decide, val_odd hpar]
              have hb2 : ((u + ((s[a + 6].toNat : Nat) : Int) % 128 * 4398046511104) % 2 == 1) = true := by rw [beq_iff_eq]; exact hpar
              have HP := Lib.hid hpar
              clear hpar
              go_wp2
              exact bodyPost_ret (v := .agg #[.int .i64 (-((u + ((s[a + 6].toNat : Nat) : Int) % 128 * 4398046511104) / 2) - 1), .int .i64 ((a : Int) + 6 + 1), .int .i64 0]) (by simp [results, Tryz.results23, go_sem]) rfl ⟨by rw [HF.out], (Below.refl _ _).alloc (Nat.le_refl _) _⟩
            · have HF : Hid (gnV s a = .agg #[.int .i64 ((u + ((s[a + 6].toNat : Nat) : Int) % 128 * 4398046511104) / 2), .int .i64 ((a : Int) + 6 + 1), .int .i64 0]) := by
                refine Lib.hid (gn_rd h1 (HR0.out.symm.trans ?_))
                rw [drop_cons s (a + 6) hl, rd_val 3 _ 6 _ _ hc h0 (by omega), show (128 : Int) ^ 6 = 4398046511104 by decide, val_even hpar]
              have hb2 : ((u + ((s[a + 6].toNat : Nat) : Int) % 128 * 4398046511104) % 2 == 1) = false := by rw [beq_eq_false_iff_ne]; exact hpar
              have HP := Lib.hid hpar
              clear hpar
              go_wp2
              exact bodyPost_ret (v := .agg #[.int .i64 ((u + ((s[a + 6].toNat : Nat) : Int) % 128 * 4398046511104) / 2), .int .i64 ((a : Int) + 6 + 1), .int .i64 0]) (by simp [results, Tryz.results23, go_sem]) rfl ⟨by rw [HF.out], (Below.refl _ _).alloc (Nat.le_refl _) _⟩
        · have HN : Hid (rd 3 (s.data.toList.drop (a + 7)) 7 (u + ((s[a + 6].toNat : Nat) : Int) % 128 * 4398046511104) ((a : Int) + 7) = rd 10 (s.data.toList.drop a) 0 0 a) := by
            refine Lib.hid (Eq.trans ?_ HR0.out)
            rw [drop_cons s (a + 6) hl, rd_next 3 _ 6 _ _ (by omega) (by decide), show (128 : Int) ^ 6 = 4398046511104 by decide]
            rw [Int.add_assoc]; rfl
          have HL : Hid (0 ≤ u + ((s[a + 6].toNat : Nat) : Int) % 128 * 4398046511104 ∧ u + ((s[a + 6].toNat : Nat) : Int) % 128 * 4398046511104 < 128 ^ (6 + 1)) := by exact Lib.hid (by omega)
          go_wp2
          go_round
          case rel => exact ⟨7, by omega, rfl, _, HL.out.1, by have := HL.out.2; omega, rfl, Lib.hid ⟨HN.out, HL.out.2⟩⟩
          case measure => simp [intOf]
      · have HF : Hid (gnV s a = .agg #[.int .i64 0, .int .i64 0, .int .i64 4]) := by
          refine Lib.hid (gn_rd h1 (HR0.out.symm.trans ?_))
          rw [drop_nil s (a + 6) (by omega), rd_short]
        have hl2 : (s.size : Int) - 6 ≤ a := by omega
        go_wp2
        exact bodyPost_ret (v := .agg #[.int .i64 (0), .int .i64 (0), .int .i64 4]) (by simp [results, Tryz.results23, go_sem]) rfl ⟨by rw [HF.out], (Below.refl _ _).alloc (Nat.le_refl _) _⟩
    · -- k = 7
      have HR0 : Hid (rd 3 (s.data.toList.drop (a + 7)) 7 u ((a : Int) + 7) = rd 10 (s.data.toList.drop a) 0 0 a) := by exact Lib.hid HR.out.1
      have hu2 : u < 562949953421312 := by have := HR.out.2; simpa using this
      clear HR
      by_cases hl : a + 7 < s.size
      · have hb := byte_le s[a + 7]
        by_cases hc : s[a + 7].toNat < 128
        · by_cases h0 : s[a + 7].toNat = 0 ∧ 0 < 7
          · have HF : Hid (gnV s a = .agg #[.int .i64 0, .int .i64 0, .int .i64 3]) := by
              refine Lib.hid (gn_rd h1 (HR0.out.symm.trans ?_))
              rw [drop_cons s (a + 7) hl, rd_zero 2 _ 7 _ _ h0.1 (by decide)]
            have hz : ((s[a + 7].toNat : Nat) : Int) = 0 := by have := h0.1; omega
            have hzb : (((s[a + 7].toNat : Nat) : Int) == 0) = true := by rw [beq_iff_eq]; exact hz
            have HZ := Lib.hid hz
            clear hz h0 hc
            have hci : ((s[a + 7].toNat : Nat) : Int) < 128 := by rw [HZ.out]; decide
            go_wp2
            exact bodyPost_ret (v := .agg #[.int .i64 (0), .int .i64 (0), .int .i64 3]) (by simp [results, Tryz.results23, go_sem]) rfl ⟨by rw [HF.out], (Below.refl _ _).alloc (Nat.le_refl _) _⟩
          · have hzb : (((s[a + 7].toNat : Nat) : Int) == 0) = false := by
              rw [beq_eq_false_iff_ne]; intro x; exact h0 ⟨by omega, by decide⟩
            by_cases hpar : (u + ((s[a + 7].toNat : Nat) : Int) % 128 * 562949953421312) % 2 = 1
            · have HF : Hid (gnV s a = .agg #[.int .i64 (-((u + ((s[a + 7].toNat : Nat) : Int) % 128 * 562949953421312) / 2) - 1), .int .i64 ((a : Int) + 7 + 1), .int .i64 0]) := by
                refine Lib.hid (gn_rd h1 (HR0.out.symm.trans ?_))
                rw [drop_cons s (a + 7) hl, rd_val 2 _ 7 _ _ hc h0 (by omega), show (128 : Int) ^ 7 = 562949953421312 by decide, val_odd hpar]
              have hb2 : ((u + ((s[a + 7].toNat : Nat) : Int) % 128 * 562949953421312) % 2 == 1) = true := by rw [beq_iff_eq]; exact hpar
              have HP := Lib.hid hpar
              clear hpar
              go_wp2
              exact bodyPost_ret (v := .agg #[.int .i64 (-((u + ((s[a + 7].toNat : Nat) : Int) % 128 * 562949953421312) / 2) - 1), .int .i64 ((a : Int) + 7 + 1), .int .i64 0]) (by simp [results, Tryz.results23, go_sem]) rfl ⟨by rw [HF.out], (Below.refl _ _).alloc (Nat.le_refl _) _⟩
            · have HF : Hid (gnV s a = .agg #[.int .i64 ((u + ((s[a + 7].toNat : Nat) : Int) % 128 * 562949953421312) / 2), .int .i64 ((a : Int) + 7 + 1), .int .i64 0]) := by
                refine Lib.hid (gn_rd h1 (HR0.out.symm.trans ?_))
                rw [drop_cons s (a + 7) hl, rd_val 2 _ 7 _ _ hc h0 (by omega), show (128 : Int) ^ 7 = 562949953421312 by decide, val_even hpar]
              have hb2 : ((u + ((s[a + 7].toNat : Nat) : Int) % 128 * 562949953421312) % 2 == 1) = false := by rw [beq_eq_false_iff_ne]; exact hpar
              have HP := Lib.hid hpar
              clear hpar
              go_wp2
              exact bodyPost_ret (v := .agg #[.int .i64 ((u + ((s[a + 7].toNat : Nat) : Int) % 128 * 562949953421312) / 2), .int .i64 ((a : Int) + 7 + 1), .int .i64 0]) (by simp [results, Tryz.results23, go_sem]) rfl ⟨by rw [HF.out], (Below.refl _ _).alloc (Nat.le_refl _) _⟩
        · have HN : Hid (rd 2 (s.data.toList.drop (a + 8)) 8 (u + ((s[a + 7].toNat : Nat) : Int) % 128 * 562949953421312) ((a : Int) + 8) = rd 10 (s.data.toList.drop a) 0 0 a) := by
            refine Lib.hid (Eq.trans ?_ HR0.out)
            rw [drop_cons s (a + 7) hl, rd_next 2 _ 7 _ _ (by omega) (by decide), show (128 : Int) ^ 7 = 562949953421312 by decide]
            rw [Int.add_assoc]; rfl
          have HL : Hid (0 ≤ u + ((s[a + 7].toNat : Nat) : Int) % 128 * 562949953421312 ∧ u + ((s[a + 7].toNat : Nat) : Int) % 128 * 562949953421312 < 128 ^ (7 + 1)) := by exact Lib.hid (by omega)
          go_wp2
          go_round
          case rel => exact ⟨8, by omega, rfl, _, HL.out.1, by have := HL.out.2; omega, rfl, Lib.hid ⟨HN.out, HL.out.2⟩⟩
          case measure => simp [intOf]
      · have HF : Hid (gnV s a = .agg #[.int .i64 0, .int .i64 0, .int .i64 4]) := by
          refine Lib.hid (gn_rd h1 (HR0.out.symm.trans ?_))
          rw [drop_nil s (a + 7) (by omega), rd_short]
        have hl2 : (s.size : Int) - 7 ≤ a := by omega
        go_wp2
        exact bodyPost_ret (v := .agg #[.int .i64 (0), .int .i64 (0), .int .i64 4]) (by simp [results, Tryz.results23, go_sem]) rfl ⟨by rw [HF.out], (Below.refl _ _).alloc (Nat.le_refl _) _⟩
    · -- k = 8
      have HR0 : Hid (rd 2 (s.data.toList.drop (a + 8)) 8 u ((a : Int) + 8) = rd 10 (s.data.toList.drop a) 0 0 a) := by exact Lib.hid HR.out.1
      have hu2 : u < 72057594037927936 := by have := HR.out.2; simpa using this
      clear HR
      by_cases hl : a + 8 < s.size
      · have hb := byte_le s[a + 8]
        by_cases hc : s[a + 8].toNat < 128
        · by_cases h0 : s[a + 8].toNat = 0 ∧ 0 < 8
          · have HF : Hid (gnV s a = .agg #[.int .i64 0, .int .i64 0, .int .i64 3]) := by
              refine Lib.hid (gn_rd h1 (HR0.out.symm.trans ?_))
              rw [drop_cons s (a + 8) hl, rd_zero 1 _ 8 _ _ h0.1 (by decide)]
            have hz : ((s[a + 8].toNat : Nat) : Int) = 0 := by have := h0.1; omega
            have hzb : (((s[a + 8].toNat : Nat) : Int) == 0) = true := by rw [beq_iff_eq]; exact hz
            have HZ := Lib.hid hz
            clear hz h0 hc
            have hci : ((s[a + 8].toNat : Nat) : Int) < 128 := by rw [HZ.out]; decide
            go_wp2
            exact bodyPost_ret (v := .agg #[.int .i64 (0), .int .i64 (0), .int .i64 3]) (by simp [results, Tryz.results23, go_sem]) rfl ⟨by rw [HF.out], (Below.refl _ _).alloc (Nat.le_refl _) _⟩
          · have hzb : (((s[a + 8].toNat : Nat) : Int) == 0) = false := by
              rw [beq_eq_false_iff_ne]; intro x; exact h0 ⟨by omega, by decide⟩
            by_cases hpar : (u + ((s[a + 8].toNat : Nat) : Int) % 128 * 72057594037927936) % 2 = 1
            · have HF : Hid (gnV s a = .agg #[.int .i64 (-((u + ((s[a + 8].toNat : Nat) : Int) % 128 * 72057594037927936) / 2) - 1), .int .i64 ((a : Int) + 8 + 1), .int .i64 0]) := by
                refine Lib.hid (gn_rd h1 (HR0.out.symm.trans ?_))
                rw [drop_cons s (a + 8) hl, rd_val 1 _ 8 _ _ hc h0 (by omega), show (128 : Int) ^ 8 = 72057594037927936 by decide, val_odd hpar]
              have hb2 : ((u + ((s[a + 8].toNat : Nat) : Int) % 128 * 72057594037927936) % 2 == 1) = true := by rw [beq_iff_eq]; exact hpar
              have HP := Lib.hid hpar
              clear hpar
              go_wp2
              exact bodyPost_ret (v := .agg #[.int .i64 (-((u + ((s[a + 8].toNat : Nat) : Int) % 128 * 72057594037927936) / 2) - 1), .int .i64 ((a : Int) + 8 + 1), .int .i64 0]) (by simp [results, Tryz.results23, go_sem]) rfl ⟨by rw [HF.out], (Below.refl _ _).alloc (Nat.le_refl _) _⟩
            · have HF : Hid (gnV s a = .agg #[.int .i64 ((u + ((s[a + 8].toNat : Nat) : Int) % 128 * 72057594037927936) / 2), .int .i64 ((a : Int) + 8 + 1), .int .i64 0]) := by
                refine Lib.hid (gn_rd h1 (HR0.out.symm.trans ?_))
                rw [drop_cons s (a + 8) hl, rd_val 1 _ 8 _ _ hc h0 (by omega), show (128 : Int) ^ 8 = 72057594037927936 by decide, val_even hpar]
              have hb2 : ((u + ((s[a + 8].toNat : Nat) : Int) % 128 * 72057594037927936) % 2 == 1) = false := by rw [beq_eq_false_iff_ne]; exact hpar
              have HP := Lib.hid hpar
              clear hpar
              go_wp2
              exact bodyPost_ret (v := .agg #[.int .i64 ((u + ((s[a + 8].toNat : Nat) : Int) % 128 * 72057594037927936) / 2), .int .i64 ((a : Int) + 8 + 1), .int .i64 0]) (by simp [results, Tryz.results23, go_sem]) rfl ⟨by rw [HF.out], (Below.refl _ _).alloc (Nat.le_refl _) _⟩
        · have HN : Hid (rd 1 (s.data.toList.drop (a + 9)) 9 (u + ((s[a + 8].toNat : Nat) : Int) % 128 * 72057594037927936) ((a : Int) + 9) = rd 10 (s.data.toList.drop a) 0 0 a) := by
            refine Lib.hid (Eq.trans ?_ HR0.out)
            rw [drop_cons s (a + 8) hl, rd_next 1 _ 8 _ _ (by omega) (by decide), show (128 : Int) ^ 8 = 72057594037927936 by decide]
            rw [Int.add_assoc]; rfl
          have HL : Hid (0 ≤ u + ((s[a + 8].toNat : Nat) : Int) % 128 * 72057594037927936 ∧ u + ((s[a + 8].toNat : Nat) : Int) % 128 * 72057594037927936 < 128 ^ (8 + 1)) := by exact Lib.hid (by omega)
          go_wp2
          go_round
          case rel => exact ⟨9, by omega, rfl, _, HL.out.1, by have := HL.out.2; omega, rfl, Lib.hid ⟨HN.out, HL.out.2⟩⟩
          case measure => simp [intOf]
      · have HF : Hid (gnV s a = .agg #[.int .i64 0, .int .i64 0, .int .i64 4]) := by
          refine Lib.hid (gn_rd h1 (HR0.out.symm.trans ?_))
          rw [drop_nil s (a + 8) (by omega), rd_short]
        have hl2 : (s.size : Int) - 8 ≤ a := by omega
        go_wp2
        exact bodyPost_ret (v := .agg #[.int .i64 (0), .int .i64 (0), .int .i64 4]) (by simp [results, Tryz.results23, go_sem]) rfl ⟨by rw [HF.out], (Below.refl _ _).alloc (Nat.le_refl _) _⟩
    · -- k = 9
      have HR0 : Hid (rd 1 (s.data.toList.drop (a + 9)) 9 u ((a : Int) + 9) = rd 10 (s.data.toList.drop a) 0 0 a) := by exact Lib.hid HR.out.1
      have hu2 : u < 9223372036854775808 := by have := HR.out.2; simpa using this
      clear HR
      by_cases hl : a + 9 < s.size
      · have hb := byte_le s[a + 9]
        by_cases hc : 1 < s[a + 9].toNat
        · have HF : Hid (gnV s a = .agg #[.int .i64 0, .int .i64 0, .int .i64 3]) := by
            refine Lib.hid (gn_rd h1 (HR0.out.symm.trans ?_))
            rw [drop_cons s (a + 9) hl, rd_nine 0 _ _ _ hc]
          have hci : (1 : Int) < ((s[a + 9].toNat : Nat) : Int) := by omega
          go_wp2
          exact bodyPost_ret (v := .agg #[.int .i64 (0), .int .i64 (0), .int .i64 3]) (by simp [results, Tryz.results23, go_sem]) rfl ⟨by rw [HF.out], (Below.refl _ _).alloc (Nat.le_refl _) _⟩
        · by_cases h0 : s[a + 9].toNat = 0
          · have HF : Hid (gnV s a = .agg #[.int .i64 0, .int .i64 0, .int .i64 3]) := by
              refine Lib.hid (gn_rd h1 (HR0.out.symm.trans ?_))
              rw [drop_cons s (a + 9) hl, rd_zero 0 _ 9 _ _ h0 (by decide)]
            have hz : ((s[a + 9].toNat : Nat) : Int) = 0 := by omega
            clear hc h0
            go_wp2
            exact bodyPost_ret (v := .agg #[.int .i64 (0), .int .i64 (0), .int .i64 3]) (by simp [results, Tryz.results23, go_sem]) rfl ⟨by rw [HF.out], (Below.refl _ _).alloc (Nat.le_refl _) _⟩
          · have hz1 : ((s[a + 9].toNat : Nat) : Int) = 1 := by omega
            by_cases hpar : (u + 9223372036854775808) % 2 = 1
            · have HF : Hid (gnV s a = .agg #[.int .i64 (-((u + 9223372036854775808) / 2) - 1), .int .i64 ((a : Int) + 9 + 1), .int .i64 0]) := by
                refine Lib.hid (gn_rd h1 (HR0.out.symm.trans ?_))
                rw [drop_cons s (a + 9) hl, rd_val 0 _ 9 _ _ (by omega) (by omega) (by omega), hz1, show (1 : Int) % 128 * 128 ^ 9 = 9223372036854775808 by decide, val_odd hpar]
              have hb2 : ((u + 9223372036854775808) % 2 == 1) = true := by rw [beq_iff_eq]; exact hpar
              have HP := Lib.hid hpar
              clear hpar
              go_wp2
              exact bodyPost_ret (v := .agg #[.int .i64 (-((u + 9223372036854775808) / 2) - 1), .int .i64 ((a : Int) + 9 + 1), .int .i64 0]) (by simp [results, Tryz.results23, go_sem]) rfl ⟨by rw [HF.out], (Below.refl _ _).alloc (Nat.le_refl _) _⟩
            · have HF : Hid (gnV s a = .agg #[.int .i64 ((u + 9223372036854775808) / 2), .int .i64 ((a : Int) + 9 + 1), .int .i64 0]) := by
                refine Lib.hid (gn_rd h1 (HR0.out.symm.trans ?_))
                rw [drop_cons s (a + 9) hl, rd_val 0 _ 9 _ _ (by omega) (by omega) (by omega), hz1, show (1 : Int) % 128 * 128 ^ 9 = 9223372036854775808 by decide, val_even hpar]
              have hb2 : ((u + 9223372036854775808) % 2 == 1) = false := by rw [beq_eq_false_iff_ne]; exact hpar
              have HP := Lib.hid hpar
              clear hpar
              go_wp2
              exact bodyPost_ret (v := .agg #[.int .i64 ((u + 9223372036854775808) / 2), .int .i64 ((a : Int) + 9 + 1), .int .i64 0]) (by simp [results, Tryz.results23, go_sem]) rfl ⟨by rw [HF.out], (Below.refl _ _).alloc (Nat.le_refl _) _⟩
      · have HF : Hid (gnV s a = .agg #[.int .i64 0, .int .i64 0, .int .i64 4]) := by
          refine Lib.hid (gn_rd h1 (HR0.out.symm.trans ?_))
          rw [drop_nil s (a + 9) (by omega), rd_short]
        have hl2 : (s.size : Int) - 9 ≤ a := by omega
        go_wp2
        exact bodyPost_ret (v := .agg #[.int .i64 (0), .int .i64 (0), .int .i64 4]) (by simp [results, Tryz.results23, go_sem]) rfl ⟨by rw [HF.out], (Below.refl _ _).alloc (Nat.le_refl _) _⟩

end Go.Proofs.YtkmlnibkdcdegaaGreatDoor.Gn

/-
  A scope in which a run jumps to several labels: what holds at each jump, and a measure that every pass lowers. A law on the model's code alone; no program's text.
-/
namespace Go.Proofs.YtkmlnibkdcdegaaGreatDoor.Scope

/-- As Q; by a goto to label l: J l; no other way out by a goto. -/
def jumps (J : Nat → Act → World → Prop) (Q : Exit → Act → World → Prop) : Exit → Act → World → Prop
  | .goto l, a, w => J l a w
  | e, a, w => Q e a w

theorem wp_scope_labels {P : Program} {a : Act} {w : World} {Q : Exit → Act → World → Prop} {c : Code} (J : Nat → Act → World → Prop) (μ : Nat → Act → World → Nat) (rest : Nat → Code)
    (hf : ∀ l a w, J l a w → findLabel c l = some (rest l))
    (first : c.wp P (jumps J Q) a w)
    (pass : ∀ l a w, J l a w → (rest l).wp P (jumps (fun l' a' w' => J l' a' w' ∧ μ l' a' w' < μ l a w) Q) a w) : (Code.scope c).wp P Q a w := by
  intro b k cs
  have hg : ∀ l a w, J l a w → gotoIn l (.inScope c :: k) = some (.code (rest l) :: .inScope c :: k) := fun l a w h => by simp [gotoIn, hf l a w h]
  have key : ∀ n l a w, μ l a w = n → J l a w → ∃ e a' w', Q e a' w' ∧ Arrives P (lone (b.at a (.code (rest l) :: .inScope c :: k)) cs w) b k cs e a' w' := by
    intro n
    induction n using Nat.strongRecOn with
    | _ n ih =>
      intro l a w hn hJ
      obtain ⟨e, a₁, w₁, hq, harr⟩ := pass l a w hJ b (.inScope c :: k) cs
      cases e with
      | normal => exact ⟨.normal, a₁, w₁, hq, Steps.trans harr (.one step_inScope)⟩
      | exit id => exact ⟨.exit id, a₁, w₁, hq, fun k' hk => harr k' (by simp [exitTo, hk])⟩
      | goto l' =>
        obtain ⟨hJ', hlt⟩ := hq
        obtain ⟨e₂, a₂, w₂, hq₂, harr₂⟩ := ih _ (by omega) l' a₁ w₁ rfl hJ'
        exact ⟨e₂, a₂, w₂, hq₂, .of_steps (harr _ (hg _ _ _ hJ')) harr₂⟩
      | ret => exact ⟨_, a₁, w₁, hq, harr⟩
      | panic ch => exact ⟨_, a₁, w₁, hq, harr⟩
      | outgrown => exact ⟨_, a₁, w₁, hq, harr⟩
  obtain ⟨e, a₁, w₁, hq, harr⟩ := first b (.inScope c :: k) cs
  cases e with
  | normal => exact ⟨.normal, a₁, w₁, hq, .head step_scope (Steps.trans harr (.one step_inScope))⟩
  | exit id => exact ⟨.exit id, a₁, w₁, hq, fun k' hk => .head step_scope (harr k' (by simp [exitTo, hk]))⟩
  | goto l' =>
    obtain ⟨e₂, a₂, w₂, hq₂, harr₂⟩ := key _ l' a₁ w₁ rfl hq
    exact ⟨e₂, a₂, w₂, hq₂, .of_steps (.head step_scope (harr _ (hg _ _ _ hq))) harr₂⟩
  | ret => exact ⟨_, a₁, w₁, hq, .of_steps (.one step_scope) harr⟩
  | panic ch => exact ⟨_, a₁, w₁, hq, .of_steps (.one step_scope) harr⟩
  | outgrown => exact ⟨_, a₁, w₁, hq, .of_steps (.one step_scope) harr⟩

/-- Three labels, 0, 1 and 2. -/
theorem wp_scope_three {P : Program} {a : Act} {w : World} {Q : Exit → Act → World → Prop} {c r0 r1 r2 : Code} (J : Nat → Act → World → Prop) (μ : Nat → Act → World → Nat)
    (h0 : findLabel c 0 = some (.seq .skip r0)) (h1 : findLabel c 1 = some (.seq .skip r1)) (h2 : findLabel c 2 = some (.seq .skip r2)) (hJ : ∀ l a w, J l a w → l ≤ 2)
    (first : (∀ a w, J 1 a w → r1.wp P (jumps J Q) a w) → c.wp P (jumps J Q) a w)
    (pass0 : ∀ a w, J 0 a w → r0.wp P (jumps (fun l' a' w' => J l' a' w' ∧ μ l' a' w' < μ 0 a w) Q) a w)
    (pass1 : ∀ a w, J 1 a w → r1.wp P (jumps (fun l' a' w' => J l' a' w' ∧ μ l' a' w' < μ 1 a w) Q) a w)
    (pass2 : ∀ a w, J 2 a w → r2.wp P (jumps (fun l' a' w' => J l' a' w' ∧ μ l' a' w' < μ 2 a w) Q) a w) : (Code.scope c).wp P Q a w := by
  refine wp_scope_labels J μ (fun l => match l with | 0 => .seq .skip r0 | 1 => .seq .skip r1 | _ => .seq .skip r2) ?_ (first fun a w h => Code.wp_mono (fun e a w hq => by cases e <;> first | exact hq.1 | exact hq) (pass1 a w h)) ?_
  · intro l a w h
    rcases (by have := hJ l a w h; omega : l = 0 ∨ l = 1 ∨ l = 2) with rfl | rfl | rfl
    · exact h0
    · exact h1
    · exact h2
  · intro l a w h
    rcases (by have := hJ l a w h; omega : l = 0 ∨ l = 1 ∨ l = 2) with rfl | rfl | rfl
    · exact wp_seq (wp_skip (pass0 a w h))
    · exact wp_seq (wp_skip (pass1 a w h))
    · exact wp_seq (wp_skip (pass2 a w h))

theorem lit59 (t : Array Value) (h : t.size = 59) : ∃ u0 u1 u2 u3 u4 u5 u6 u7 u8 u9 u10 u11 u12 u13 u14 u15 u16 u17 u18 u19 u20 u21 u22 u23 u24 u25 u26 u27 u28 u29 u30 u31 u32 u33 u34 u35 u36 u37 u38 u39 u40 u41 u42 u43 u44 u45 u46 u47 u48 u49 u50 u51 u52 u53 u54 u55 u56 u57 u58, t = #[u0, u1, u2, u3, u4, u5, u6, u7, u8, u9, u10, u11, u12, u13, u14, u15, u16, u17, u18, u19, u20, u21, u22, u23, u24, u25, u26, u27, u28, u29, u30, u31, u32, u33, u34, u35, u36, u37, u38, u39, u40, u41, u42, u43, u44, u45, u46, u47, u48, u49, u50, u51, u52, u53, u54, u55, u56, u57, u58] := by
  obtain ⟨l⟩ := t
  have h' : l.length = 59 := h
  clear h
  obtain _ | ⟨u0, l⟩ := l
  · exact absurd h' (by simp)
  have h' : l.length = 58 := by simpa using h' 
  obtain _ | ⟨u1, l⟩ := l
  · exact absurd h' (by simp)
  have h' : l.length = 57 := by simpa using h' 
  obtain _ | ⟨u2, l⟩ := l
  · exact absurd h' (by simp)
  have h' : l.length = 56 := by simpa using h' 
  obtain _ | ⟨u3, l⟩ := l
  · exact absurd h' (by simp)
  have h' : l.length = 55 := by simpa using h' 
  obtain _ | ⟨u4, l⟩ := l
  · exact absurd h' (by simp)
  have h' : l.length = 54 := by simpa using h' 
  obtain _ | ⟨u5, l⟩ := l
  · exact absurd h' (by simp)
  have h' : l.length = 53 := by simpa using h' 
  obtain _ | ⟨u6, l⟩ := l
  · exact absurd h' (by simp)
  have h' : l.length = 52 := by simpa using h' 
  obtain _ | ⟨u7, l⟩ := l
  · exact absurd h' (by simp)
  have h' : l.length = 51 := by simpa using h' 
  obtain _ | ⟨u8, l⟩ := l
  · exact absurd h' (by simp)
  have h' : l.length = 50 := by simpa using h' 
  obtain _ | ⟨u9, l⟩ := l
  · exact absurd h' (by simp)
  have h' : l.length = 49 := by simpa using h' 
  obtain _ | ⟨u10, l⟩ := l
  · exact absurd h' (by simp)
  have h' : l.length = 48 := by simpa using h' 
  obtain _ | ⟨u11, l⟩ := l
  · exact absurd h' (by simp)
  have h' : l.length = 47 := by simpa using h' 
  obtain _ | ⟨u12, l⟩ := l
  · exact absurd h' (by simp)
  have h' : l.length = 46 := by simpa using h' 
  obtain _ | ⟨u13, l⟩ := l
  · exact absurd h' (by simp)
  have h' : l.length = 45 := by simpa using h' 
  obtain _ | ⟨u14, l⟩ := l
  · exact absurd h' (by simp)
  have h' : l.length = 44 := by simpa using h' 
  obtain _ | ⟨u15, l⟩ := l
  · exact absurd h' (by simp)
  have h' : l.length = 43 := by simpa using h' 
  obtain _ | ⟨u16, l⟩ := l
  · exact absurd h' (by simp)
  have h' : l.length = 42 := by simpa using h' 
  obtain _ | ⟨u17, l⟩ := l
  · exact absurd h' (by simp)
  have h' : l.length = 41 := by simpa using h' 
  obtain _ | ⟨u18, l⟩ := l
  · exact absurd h' (by simp)
  have h' : l.length = 40 := by simpa using h' 
  obtain _ | ⟨u19, l⟩ := l
  · exact absurd h' (by simp)
  have h' : l.length = 39 := by simpa using h' 
  obtain _ | ⟨u20, l⟩ := l
  · exact absurd h' (by simp)
  have h' : l.length = 38 := by simpa using h' 
  obtain _ | ⟨u21, l⟩ := l
  · exact absurd h' (by simp)
  have h' : l.length = 37 := by simpa using h' 
  obtain _ | ⟨u22, l⟩ := l
  · exact absurd h' (by simp)
  have h' : l.length = 36 := by simpa using h' 
  obtain _ | ⟨u23, l⟩ := l
  · exact absurd h' (by simp)
  have h' : l.length = 35 := by simpa using h' 
  obtain _ | ⟨u24, l⟩ := l
  · exact absurd h' (by simp)
  have h' : l.length = 34 := by simpa using h' 
  obtain _ | ⟨u25, l⟩ := l
  · exact absurd h' (by simp)
  have h' : l.length = 33 := by simpa using h' 
  obtain _ | ⟨u26, l⟩ := l
  · exact absurd h' (by simp)
  have h' : l.length = 32 := by simpa using h' 
  obtain _ | ⟨u27, l⟩ := l
  · exact absurd h' (by simp)
  have h' : l.length = 31 := by simpa using h' 
  obtain _ | ⟨u28, l⟩ := l
  · exact absurd h' (by simp)
  have h' : l.length = 30 := by simpa using h' 
  obtain _ | ⟨u29, l⟩ := l
  · exact absurd h' (by simp)
  have h' : l.length = 29 := by simpa using h' 
  obtain _ | ⟨u30, l⟩ := l
  · exact absurd h' (by simp)
  have h' : l.length = 28 := by simpa using h' 
  obtain _ | ⟨u31, l⟩ := l
  · exact absurd h' (by simp)
  have h' : l.length = 27 := by simpa using h' 
  obtain _ | ⟨u32, l⟩ := l
  · exact absurd h' (by simp)
  have h' : l.length = 26 := by simpa using h' 
  obtain _ | ⟨u33, l⟩ := l
  · exact absurd h' (by simp)
  have h' : l.length = 25 := by simpa using h' 
  obtain _ | ⟨u34, l⟩ := l
  · exact absurd h' (by simp)
  have h' : l.length = 24 := by simpa using h' 
  obtain _ | ⟨u35, l⟩ := l
  · exact absurd h' (by simp)
  have h' : l.length = 23 := by simpa using h' 
  obtain _ | ⟨u36, l⟩ := l
  · exact absurd h' (by simp)
  have h' : l.length = 22 := by simpa using h' 
  obtain _ | ⟨u37, l⟩ := l
  · exact absurd h' (by simp)
  have h' : l.length = 21 := by simpa using h' 
  obtain _ | ⟨u38, l⟩ := l
  · exact absurd h' (by simp)
  have h' : l.length = 20 := by simpa using h' 
  obtain _ | ⟨u39, l⟩ := l
  · exact absurd h' (by simp)
  have h' : l.length = 19 := by simpa using h' 
  obtain _ | ⟨u40, l⟩ := l
  · exact absurd h' (by simp)
  have h' : l.length = 18 := by simpa using h' 
  obtain _ | ⟨u41, l⟩ := l
  · exact absurd h' (by simp)
  have h' : l.length = 17 := by simpa using h' 
  obtain _ | ⟨u42, l⟩ := l
  · exact absurd h' (by simp)
  have h' : l.length = 16 := by simpa using h' 
  obtain _ | ⟨u43, l⟩ := l
  · exact absurd h' (by simp)
  have h' : l.length = 15 := by simpa using h' 
  obtain _ | ⟨u44, l⟩ := l
  · exact absurd h' (by simp)
  have h' : l.length = 14 := by simpa using h' 
  obtain _ | ⟨u45, l⟩ := l
  · exact absurd h' (by simp)
  have h' : l.length = 13 := by simpa using h' 
  obtain _ | ⟨u46, l⟩ := l
  · exact absurd h' (by simp)
  have h' : l.length = 12 := by simpa using h' 
  obtain _ | ⟨u47, l⟩ := l
  · exact absurd h' (by simp)
  have h' : l.length = 11 := by simpa using h' 
  obtain _ | ⟨u48, l⟩ := l
  · exact absurd h' (by simp)
  have h' : l.length = 10 := by simpa using h' 
  obtain _ | ⟨u49, l⟩ := l
  · exact absurd h' (by simp)
  have h' : l.length = 9 := by simpa using h' 
  obtain _ | ⟨u50, l⟩ := l
  · exact absurd h' (by simp)
  have h' : l.length = 8 := by simpa using h' 
  obtain _ | ⟨u51, l⟩ := l
  · exact absurd h' (by simp)
  have h' : l.length = 7 := by simpa using h' 
  obtain _ | ⟨u52, l⟩ := l
  · exact absurd h' (by simp)
  have h' : l.length = 6 := by simpa using h' 
  obtain _ | ⟨u53, l⟩ := l
  · exact absurd h' (by simp)
  have h' : l.length = 5 := by simpa using h' 
  obtain _ | ⟨u54, l⟩ := l
  · exact absurd h' (by simp)
  have h' : l.length = 4 := by simpa using h' 
  obtain _ | ⟨u55, l⟩ := l
  · exact absurd h' (by simp)
  have h' : l.length = 3 := by simpa using h' 
  obtain _ | ⟨u56, l⟩ := l
  · exact absurd h' (by simp)
  have h' : l.length = 2 := by simpa using h' 
  obtain _ | ⟨u57, l⟩ := l
  · exact absurd h' (by simp)
  have h' : l.length = 1 := by simpa using h' 
  obtain _ | ⟨u58, l⟩ := l
  · exact absurd h' (by simp)
  have h' : l.length = 0 := by simpa using h' 
  obtain rfl : l = [] := List.eq_nil_of_length_eq_zero (by simpa using h')
  exact ⟨_, _, _, _, _, _, _, _, _, _, _, _, _, _, _, _, _, _, _, _, _, _, _, _, _, _, _, _, _, _, _, _, _, _, _, _, _, _, _, _, _, _, _, _, _, _, _, _, _, _, _, _, _, _, _, _, _, _, _, rfl⟩
end Go.Proofs.YtkmlnibkdcdegaaGreatDoor.Scope

/-
  The Go function impl.readNum answers what the plain function rd tells, for every text of at most 8000 bytes and every place that is not below 0.
-/
namespace Go.Proofs.YtkmlnibkdcdegaaGreatDoor.Gn
open Go.ChangeShapes Go.WideShapes Go.ChangeAt Go.RowKit
set_option linter.unusedVariables false
set_option maxRecDepth 100000

/-- What stands at a jump: at 'wrong' (0) the code; at 'more' (1) k bytes are read; at 'last' (2) the byte is c. -/
def JR (s : ByteArray) (a : Nat) (l : Nat) (x : Act) : Prop :=
  x.defers = [] ∧ x.tmps.size = 59 ∧ x.tmps[0]? = some (.string s) ∧
  ((l = 0 ∧ ∃ c : Int, x.tmps[10]? = some (.int .i64 c) ∧ Hid (c ≠ 0 ∧ rd 10 (s.data.toList.drop a) 0 0 a = (0, 0, c))) ∨
   (l = 1 ∧ ∃ (k : Nat) (u : Int), k ≤ 9 ∧ 0 ≤ u ∧ u < 18446744073709551616 ∧ x.tmps[1]? = some (.int .i64 ((a : Int) + k)) ∧ x.tmps[7]? = some (.int .u64 u) ∧ x.tmps[9]? = some (.int .i64 k) ∧ x.tmps[10]? = some (.int .i64 4) ∧
     Hid (rd (10 - k) (s.data.toList.drop (a + k)) k u ((a : Int) + k) = rd 10 (s.data.toList.drop a) 0 0 a ∧ u < 128 ^ k)) ∨
   (l = 2 ∧ ∃ (k : Nat) (u u' : Int) (c : UInt8), k ≤ 9 ∧ 0 ≤ u' ∧ u' < 18446744073709551616 ∧ c.toNat < 128 ∧ x.tmps[1]? = some (.int .i64 ((a : Int) + k + 1)) ∧ x.tmps[7]? = some (.int .u64 u') ∧ x.tmps[8]? = some (.int .u8 c.toNat) ∧
     x.tmps[9]? = some (.int .i64 ((k : Int) + 1)) ∧ Hid (a + k < s.size ∧ (∃ l, rd (10 - k) (c :: l) k u ((a : Int) + k) = rd 10 (s.data.toList.drop a) 0 0 a) ∧ (¬ (k = 9 ∧ 1 < c.toNat) → u' = u + (c.toNat : Int) % 128 * 128 ^ k))))
def JM (l : Nat) (x : Act) : Nat := if l = 1 then 12 - (intOf (x.tmps.getD 9 undef)).toNat else if l = 2 then 1 else 0
theorem JR_le (s : ByteArray) (a : Nat) (l : Nat) (x : Act) (h : JR s a l x) : l ≤ 2 := by
  obtain ⟨_, _, _, h | h | h⟩ := h <;> omega

set_option maxRecDepth 100000 in
set_option maxHeartbeats 4000000 in
theorem readNum_any (s : ByteArray) (a : Nat) (w : World) (h1 : ¬ 8000 < s.size) (ha : a ≤ 9223372036854775807) (n e c : Int) (hr : rd 10 (s.data.toList.drop a) 0 0 a = (n, e, c)) (V : Value)
    (hV : V = if c = 0 then .tuple #[.int .i64 n, .int .i64 e, .nilIface] else .tuple #[.int .i64 0, .int .i64 0, .iface 108 (.agg #[.int .i64 c])]) :
    Calls Tryz.prog 74 #[.string s, .int .i64 a] w fun ev w' => ev = .returned V ∧ w = w' := by
  have HR := Lib.hid hr
  clear hr
  have HV := Lib.hid hV
  clear hV
  go_enter Tryz.func74, Tryz.ntmps74
  try go_wp2
  refine Scope.wp_scope_three (fun l x w' => JR s a l x ∧ w' = w) (fun l x _ => JM l x) rfl rfl rfl (fun l x w' h => JR_le s a l x h.1) ?first ?p0 ?p1 ?p2
  case first =>
    intro P1
    go_wp2
    go_step3
    rename_i K hK
    refine hK _ _ (P1 _ _ ⟨⟨rfl, rfl, rfl, .inr (.inl ⟨rfl, 0, 0, by omega, by omega, by omega, by simp, rfl, rfl, rfl, Lib.hid ⟨by simp, by decide⟩⟩)⟩, rfl⟩)
  case p0 =>
    rintro ⟨t, d⟩ w' ⟨⟨hd, hz, t0, h | ⟨h, _⟩ | ⟨h, _⟩⟩, rfl⟩
    · obtain ⟨-, q, t10, HQ⟩ := h
      obtain ⟨u0, u1, u2, u3, u4, u5, u6, u7, u8, u9, u10, u11, u12, u13, u14, u15, u16, u17, u18, u19, u20, u21, u22, u23, u24, u25, u26, u27, u28, u29, u30, u31, u32, u33, u34, u35, u36, u37, u38, u39, u40, u41, u42, u43, u44, u45, u46, u47, u48, u49, u50, u51, u52, u53, u54, u55, u56, u57, u58, rfl⟩ := Scope.lit59 t hz
      obtain rfl : d = [] := hd
      obtain rfl := Option.some.inj t0
      obtain rfl := Option.some.inj t10
      clear hz
      have HV0 : Hid (V = .tuple #[.int .i64 0, .int .i64 0, .iface 108 (.agg #[.int .i64 q])]) := by
        refine Lib.hid ?_
        have h2 := HQ.out.2
        rw [HR.out] at h2
        simp only [Prod.mk.injEq] at h2
        rw [HV.out, if_neg (by rw [h2.2.2]; exact HQ.out.1), h2.2.2]
      clear t0 t10
      go_wp2
      simp only [Scope.jumps]
      go_ret3
      exact ⟨by rw [HV0.out]; rfl, rfl⟩
    · exact absurd h (by decide)
    · exact absurd h (by decide)
  case p1 =>
    rintro ⟨t, d⟩ w' ⟨⟨hd, hz, t0, ⟨h, _⟩ | h | ⟨h, _⟩⟩, rfl⟩
    · exact absurd h (by decide)
    · obtain ⟨-, k, u, hk, hu0, hu1, t1, t7, t9, t10, HQ⟩ := h
      obtain ⟨u0, u1, u2, u3, u4, u5, u6, u7, u8, u9, u10, u11, u12, u13, u14, u15, u16, u17, u18, u19, u20, u21, u22, u23, u24, u25, u26, u27, u28, u29, u30, u31, u32, u33, u34, u35, u36, u37, u38, u39, u40, u41, u42, u43, u44, u45, u46, u47, u48, u49, u50, u51, u52, u53, u54, u55, u56, u57, u58, rfl⟩ := Scope.lit59 t hz
      obtain rfl : d = [] := hd
      obtain rfl := Option.some.inj t0
      obtain rfl := Option.some.inj t1
      obtain rfl := Option.some.inj t7
      obtain rfl := Option.some.inj t9
      obtain rfl := Option.some.inj t10
      clear hz t0 t1 t7 t9 t10
      by_cases hl : a + k < s.size
      · have HD := Lib.hid (drop_cons s (a + k) hl)
        have hb := byte_le s[a + k]
        have HO := Lib.hid (orU_eq u s[a + k] k hk hu0 HQ.out.2)
        have HG := Lib.hid (orU_range u s[a + k] k)
        by_cases hc : s[a + k].toNat < 128
        · have HC := Lib.hid hc
          go_wp2
          go_step3
          refine ⟨⟨⟨rfl, rfl, rfl, .inr (.inr ⟨rfl, k, u, orU u s[a + k] k, s[a + k], hk, HG.out.1, HG.out.2, HC.out, rfl, rfl, rfl, rfl, Lib.hid ⟨hl, ⟨s.data.toList.drop (a + k + 1), ?_⟩, HO.out⟩⟩)⟩, rfl⟩, ?_⟩
          · rw [← HD.out]; exact HQ.out.1
          · show 1 < 12 - ((k : Int)).toNat
            omega
        · by_cases h9 : k = 9
          · have HW : Hid (rd 10 (s.data.toList.drop a) 0 0 a = (0, 0, 3)) := by
              refine Lib.hid ?_
              rw [← HQ.out.1, HD.out]
              subst h9
              exact rd_nine 0 _ _ _ (by omega)
            subst h9
            clear HD HO HG HQ
            have hci : (1 : Int) < ((s[a + 9].toNat : Nat) : Int) := by omega
            have hcj : ¬ ((s[a + 9].toNat : Nat) : Int) < 128 := by omega
            clear hc
            go_wp2
            go_step3
            go_wp2
            go_step3
            refine ⟨⟨⟨rfl, rfl, rfl, .inl ⟨rfl, 3, rfl, Lib.hid ⟨by decide, HW.out⟩⟩⟩, rfl⟩, ?_⟩
            show 0 < 12 - (((9 : Nat) : Int)).toNat
            decide
          · have hcj : ¬ ((s[a + k].toNat : Nat) : Int) < 128 := by omega
            have hk9 : k < 9 := by omega
            have HN : Hid (rd (10 - (k + 1)) (s.data.toList.drop (a + (k + 1))) (k + 1) (orU u s[a + k] k) ((a : Int) + ((k + 1 : Nat) : Int)) = rd 10 (s.data.toList.drop a) 0 0 a ∧ orU u s[a + k] k < 128 ^ (k + 1)) := by
              refine Lib.hid ?_
              rw [HO.out (fun x => h9 x.1)]
              refine ⟨?_, (next_lt k hu0 HQ.out.2).2⟩
              rw [← HQ.out.1, HD.out, show 10 - k = (10 - (k + 1)) + 1 by omega, rd_next _ _ _ _ _ (by omega) h9]
              rw [show (a : Int) + ((k + 1 : Nat) : Int) = (a : Int) + k + 1 by omega]
              rfl
            clear hc h9
            go_wp2
            go_step3
            refine ⟨⟨⟨rfl, rfl, rfl, .inr (.inl ⟨rfl, k + 1, orU u s[a + k] k, by omega, HG.out.1, HG.out.2, ?_, rfl, ?_, rfl, HN⟩)⟩, rfl⟩, ?_⟩
            · rw [show (a : Int) + ((k + 1 : Nat) : Int) = (a : Int) + k + 1 by omega]; rfl
            · rw [show ((k + 1 : Nat) : Int) = (k : Int) + 1 by omega]; rfl
            · show 12 - ((k : Int) + 1).toNat < 12 - ((k : Int)).toNat
              omega
      · have HW : Hid (rd 10 (s.data.toList.drop a) 0 0 a = (0, 0, 4)) := by
          refine Lib.hid ?_
          rw [← HQ.out.1, drop_nil s (a + k) (by omega), show 10 - k = (9 - k) + 1 by omega]
          exact rd_short _ _ _ _
        go_wp2
        go_step3
        refine ⟨⟨⟨rfl, rfl, rfl, .inl ⟨rfl, 4, rfl, Lib.hid ⟨by decide, HW.out⟩⟩⟩, rfl⟩, ?_⟩
        show 0 < 12 - ((k : Int)).toNat
        omega
    · exact absurd h (by decide)
  case p2 =>
    rintro ⟨t, d⟩ w' ⟨⟨hd, hz, t0, ⟨h, _⟩ | ⟨h, _⟩ | h⟩, rfl⟩
    · exact absurd h (by decide)
    · exact absurd h (by decide)
    · obtain ⟨-, k, u, u', b, hk, hu0, hu1, hb, t1, t7, t8, t9, HQ⟩ := h
      obtain ⟨u0, u1, u2, u3, u4, u5, u6, u7, u8, u9, u10, u11, u12, u13, u14, u15, u16, u17, u18, u19, u20, u21, u22, u23, u24, u25, u26, u27, u28, u29, u30, u31, u32, u33, u34, u35, u36, u37, u38, u39, u40, u41, u42, u43, u44, u45, u46, u47, u48, u49, u50, u51, u52, u53, u54, u55, u56, u57, u58, rfl⟩ := Scope.lit59 t hz
      obtain rfl : d = [] := hd
      obtain rfl := Option.some.inj t0
      obtain rfl := Option.some.inj t1
      obtain rfl := Option.some.inj t7
      obtain rfl := Option.some.inj t8
      obtain rfl := Option.some.inj t9
      clear hz t0 t1 t7 t8 t9
      have hal : a + k < 8001 := by have := HQ.out.1; omega
      obtain ⟨l, hl⟩ := HQ.out.2.1
      have HRD := Lib.hid hl
      clear hl
      have hbb := byte_le b
      by_cases h9 : k = 9
      · subst h9
        by_cases hc : 1 < b.toNat
        · have HW : Hid (rd 10 (s.data.toList.drop a) 0 0 a = (0, 0, 3)) := by
            refine Lib.hid ?_
            rw [← HRD.out]
            exact rd_nine 0 _ _ _ hc
          have hci : (1 : Int) < ((b.toNat : Nat) : Int) := by omega
          clear hc
          go_wp2
          go_step3
          exact ⟨⟨⟨rfl, rfl, rfl, .inl ⟨rfl, 3, rfl, Lib.hid ⟨by decide, HW.out⟩⟩⟩, rfl⟩, by show 0 < 1; decide⟩
        · by_cases h0 : b.toNat = 0
          · have HW : Hid (rd 10 (s.data.toList.drop a) 0 0 a = (0, 0, 3)) := by
              refine Lib.hid ?_
              rw [← HRD.out]
              exact rd_zero 0 _ 9 _ _ h0 (by decide)
            have hz : ((b.toNat : Nat) : Int) = 0 := by omega
            clear hc h0
            go_wp2
            go_step3
            exact ⟨⟨⟨rfl, rfl, rfl, .inl ⟨rfl, 3, rfl, Lib.hid ⟨by decide, HW.out⟩⟩⟩, rfl⟩, by show 0 < 1; decide⟩
          · have HW : Hid (V = .tuple #[.int .i64 (val u'), .int .i64 ((a : Int) + 9 + 1), .nilIface]) := by
              refine Lib.hid ?_
              have h3 : rd 10 (s.data.toList.drop a) 0 0 a = (val u', (a : Int) + 9 + 1, 0) := by
                rw [← HRD.out, HQ.out.2.2 (fun x => hc x.2)]
                exact rd_val 0 _ 9 _ _ hb (fun x => h0 x.1) (fun _ => by omega)
              rw [HR.out] at h3
              simp only [Prod.mk.injEq] at h3
              rw [HV.out, if_pos h3.2.2, h3.1, h3.2.1]
            have hz : (((b.toNat : Nat) : Int) == 0) = false := by rw [beq_eq_false_iff_ne]; omega
            have hc1 : ¬ (1 : Int) < ((b.toNat : Nat) : Int) := by omega
            have ha1 := and_one u' hu0 hu1
            have HX := Lib.hid (xor_val u' hu0 hu1)
            clear hc h0
            go_wp2
            simp only [Scope.jumps]
            go_ret3
            exact ⟨by rw [HW.out, ← HX.out]; rfl, rfl⟩
      · have h10 : ((k : Int) + 1 == 10) = false := by rw [beq_eq_false_iff_ne]; omega
        by_cases h0 : b.toNat = 0 ∧ 0 < k
        · have HW : Hid (rd 10 (s.data.toList.drop a) 0 0 a = (0, 0, 3)) := by
            refine Lib.hid ?_
            rw [← HRD.out, show 10 - k = (9 - k) + 1 by omega]
            exact rd_zero _ _ k _ _ h0.1 h0.2
          have hz : ((b.toNat : Nat) : Int) = 0 := by have := h0.1; omega
          have hk0 : (1 : Int) < (k : Int) + 1 := by have := h0.2; omega
          clear h0 h9
          go_wp2
          go_step3
          exact ⟨⟨⟨rfl, rfl, rfl, .inl ⟨rfl, 3, rfl, Lib.hid ⟨by decide, HW.out⟩⟩⟩, rfl⟩, by show 0 < 1; decide⟩
        · have HW : Hid (V = .tuple #[.int .i64 (val u'), .int .i64 ((a : Int) + k + 1), .nilIface]) := by
            refine Lib.hid ?_
            have h3 : rd 10 (s.data.toList.drop a) 0 0 a = (val u', (a : Int) + k + 1, 0) := by
              rw [← HRD.out, HQ.out.2.2 (fun x => h9 x.1), show 10 - k = (9 - k) + 1 by omega]
              exact rd_val _ _ k _ _ hb h0 (fun x => absurd x h9)
            rw [HR.out] at h3
            simp only [Prod.mk.injEq] at h3
            rw [HV.out, if_pos h3.2.2, h3.1, h3.2.1]
          have ha1 := and_one u' hu0 hu1
          have HX := Lib.hid (xor_val u' hu0 hu1)
          have HH := Lib.hid h0
          clear h0 h9
          by_cases hk0 : 0 < k
          · have hz : (((b.toNat : Nat) : Int) == 0) = false := by
              rw [beq_eq_false_iff_ne]
              have := HH.out
              omega
            have hk1 : (1 : Int) < (k : Int) + 1 := by omega
            go_wp2
            simp only [Scope.jumps]
            go_ret3
            exact ⟨by rw [HW.out, ← HX.out]; rfl, rfl⟩
          · have hk1 : ¬ (1 : Int) < (k : Int) + 1 := by omega
            clear hk0
            go_wp2
            simp only [Scope.jumps]
            go_ret3
            exact ⟨by rw [HW.out, ← HX.out]; rfl, rfl⟩
end Go.Proofs.YtkmlnibkdcdegaaGreatDoor.Gn

/-
  errors.As at an error of type impl.byteFault and the target *impl.byteFault, and at a nil error; the Go function impl.faultCode over both.
  Condition: the variable errors.errorType holds the handle of the type error (the row lists it).
-/
namespace Go.Proofs.YtkmlnibkdcdegaaGreatDoor.As
open Go.RowKit Go.Extern.Stop Go.Stop Go.Extern
set_option linter.unusedVariables false
set_option maxRecDepth 100000

theorem as_nil (t : Value) (w : World) :
    Calls Tryz.prog 88 #[.nilIface, t] w fun e w' => e = .returned (.bool false) ∧ w = w' := by
  go_enter Tryz.func88, Tryz.ntmps88
  go_wp2
  go_ret
  exact ⟨rfl, rfl⟩

theorem valueOfP (t : Addr) (w : World) : (ReflectliteValue.unpack (.iface 110 (.pointer (some t)))).run Tryz.prog w
    = .ok (.agg #[.pointer (some ⟨1, 110, none⟩), .pointer (some ⟨w.heap.size, 0, none⟩), .int .u64 150]) (w.alloc (.cells #[.pointer (some t)] 110)) := by kernel_rfl
theorem typeP (a : Addr) (w : World) : (ReflectliteValue.methodAny (ReflectliteValue.valueError "reflectlite.Value.Type" 0) (fun t _ _ _ => ReflectliteType.toType t) #[.agg #[.pointer (some ⟨1, 110, none⟩), .pointer (some a), .int .u64 150]]).run Tryz.prog w
    = .ok (.iface 128 (.agg #[.pointer (some ⟨1, 110, none⟩)])) w := by kernel_rfl
theorem kindP (w : World) : ((ReflectliteType.abiMethod fun t => (fun a : Nat => Value.int IntKind.u8 (a : Int)) <$> Rtype.kind t) #[.pointer (some ⟨1, 110, none⟩)]).run Tryz.prog w = .ok (.int .u8 22) w := by kernel_rfl
theorem kindB (w : World) : ((ReflectliteType.abiMethod fun t => (fun a : Nat => Value.int IntKind.u8 (a : Int)) <$> Rtype.kind t) #[.pointer (some ⟨1, 108, none⟩)]).run Tryz.prog w = .ok (.int .u8 25) w := by kernel_rfl
theorem rlm (z : Sem Value) (f : TypeId → Addr → Nat → Nat → Sem Value) (v : Value) :
    ReflectliteValue.method z f #[v] = (do match ← ReflectliteValue.parts v with | none => z | some (t, a, fl) => f t a fl (fl % 32)) := rfl
theorem partsP (a : Addr) (w : World) : (ReflectliteValue.parts (.agg #[.pointer (some ⟨1, 110, none⟩), .pointer (some a), .int .u64 150])).run Tryz.prog w = .ok (some (110, a, 150)) w := by kernel_rfl
theorem isNilP (a p : Addr) (W : World) (ha : W.cell? a = some (.pointer (some p))) :
    (ReflectliteValue.method (ReflectliteValue.valueError "reflectlite.Value.IsNil" 0) ReflectliteValue.isNil #[.agg #[.pointer (some ⟨1, 110, none⟩), .pointer (some a), .int .u64 150]]).run Tryz.prog W = .ok (.bool false) W := by
  rw [rlm]
  simp only [Sem.run_bind, partsP, Result.andThen]
  simp [ReflectliteValue.isNil, loadVar, isAgg, underlying, Tryz.underlying110, ha, Result.andThen]
theorem elemP (w : World) : (ReflectliteType.method ReflectliteType.elem #[.agg #[.pointer (some ⟨1, 110, none⟩)]]).run Tryz.prog w = .ok (.iface 128 (.agg #[.pointer (some ⟨1, 108, none⟩)])) w := by kernel_rfl
theorem implementsB (w : World) : (ReflectliteType.relation "Implements" ReflectliteType.implements_ #[.agg #[.pointer (some ⟨1, 108, none⟩)], .iface 128 (.agg #[.pointer (some ⟨1, 97, none⟩)])]).run Tryz.prog w = .ok (.bool true) w := by kernel_rfl
theorem typeOfB (v : Value) (w : World) : (ReflectliteType.typeOf #[.iface 108 v]).run Tryz.prog w = .ok (.iface 128 (.agg #[.pointer (some ⟨1, 108, none⟩)])) w := by kernel_rfl
theorem assignableB (w : World) : (ReflectliteType.relation "AssignableTo" ReflectliteType.assignableTo #[.agg #[.pointer (some ⟨1, 108, none⟩)], .iface 128 (.agg #[.pointer (some ⟨1, 108, none⟩)])]).run Tryz.prog w = .ok (.bool true) w := by kernel_rfl
theorem valueOfB (c : Int) (w : World) : (ReflectliteValue.unpack (.iface 108 (.agg #[.int .i64 c]))).run Tryz.prog w
    = .ok (.agg #[.pointer (some ⟨1, 108, none⟩), .pointer (some ⟨w.heap.size, 0, none⟩), .int .u64 153]) (w.alloc (.cells #[.int .i64 c] 108)) := by kernel_rfl
theorem elemOfP (w : World) : (Rtype.elem? 110).run Tryz.prog w = .ok (some 108) w := by kernel_rfl
theorem mkB (p : Addr) (w : World) : (ReflectliteValue.mk 108 p ReflectliteValue.flagAddr).run Tryz.prog w = .ok (.agg #[.pointer (some ⟨1, 108, none⟩), .pointer (some p), .int .u64 409]) w := by kernel_rfl
theorem elemVP (a p : Addr) (W : World) (ha : W.cell? a = some (.pointer (some p))) :
    (ReflectliteValue.method (ReflectliteValue.valueError "reflectlite.Value.Elem" 0) ReflectliteValue.elem #[.agg #[.pointer (some ⟨1, 110, none⟩), .pointer (some a), .int .u64 150]]).run Tryz.prog W
      = .ok (.agg #[.pointer (some ⟨1, 108, none⟩), .pointer (some p), .int .u64 409]) W := by
  rw [rlm]
  simp only [Sem.run_bind, partsP, Result.andThen]
  simp [ReflectliteValue.elem, loadVar, isAgg, underlying, Tryz.underlying110, ha, Result.andThen, elemOfP, mkB]
theorem rls (v x : Value) : ReflectliteValue.set #[v, x] = (do
    let (some (dst, a, fl), some (src, b, _)) := (← ReflectliteValue.parts v, ← ReflectliteValue.parts x)
      | unsupported (.noEntry "extern/(internal/reflectlite.Value).Set.zeroValue")
    if fl / ReflectliteValue.flagAddr % 2 == 0 then unsupported (.noEntry "extern/(internal/reflectlite.Value).Set.unaddressable")
    let val ← loadVar src b
    if ← Rtype.directlyAssignable dst src then storeVar dst a val
    else if ← Rtype.implements dst src then
      if (← Rtype.kind src) == 20 then
        match val with
        | .nilIface => unsupported (.noEntry "extern/reflectlite: a nil value of one interface type handed on as a value of another")
        | _ => storeVar dst a val
      else storeVar dst a (.iface src val)
    else panicString ("reflectlite.Set: value of type " ++ (← Rtype.spelt src) ++ " is not assignable to type " ++ (← Rtype.spelt dst))
    pure (.tuple #[])) := rfl
theorem partsBa (a : Addr) (w : World) : (ReflectliteValue.parts (.agg #[.pointer (some ⟨1, 108, none⟩), .pointer (some a), .int .u64 409])).run Tryz.prog w = .ok (some (108, a, 409)) w := by kernel_rfl
theorem partsB (a : Addr) (w : World) : (ReflectliteValue.parts (.agg #[.pointer (some ⟨1, 108, none⟩), .pointer (some a), .int .u64 153])).run Tryz.prog w = .ok (some (108, a, 153)) w := by kernel_rfl
theorem directB (w : World) : (Rtype.directlyAssignable 108 108).run Tryz.prog w = .ok true w := by kernel_rfl
theorem setB (ta b : Addr) (c : Int) (old : Value) (W : World) (hb : W.cell? b = some (.int .i64 c)) (ht : W.cell? ta = some old) (hf : W.frozen? ta = false) :
    (ReflectliteValue.set #[.agg #[.pointer (some ⟨1, 108, none⟩), .pointer (some ta), .int .u64 409], .agg #[.pointer (some ⟨1, 108, none⟩), .pointer (some b), .int .u64 153]]).run Tryz.prog W
      = .ok (.tuple #[]) (W.setCell ta (.int .i64 c)) := by
  rw [rls]
  simp only [Sem.run_bind, partsBa, partsB, Result.andThen]
  simp [ReflectliteValue.flagAddr, loadVar, isAgg, underlying, Tryz.underlying108, loadCells, loadCellsFrom, hb, Result.andThen, directB, storeVar, Value.cells, storeCells, Addr.add]
  rw [run_store Tryz.prog W ta _ _ (by rfl)]
  simp [ht, hf]

theorem methodKind (h : Value) (w : World) : (Go.method 272 128 (.agg #[h]) "Kind").run Tryz.prog w = .ok (123, h) w := by kernel_rfl
theorem methodElem (h : Value) (w : World) : (Go.method 272 128 (.agg #[h]) "Elem").run Tryz.prog w = .ok (133, .agg #[h]) w := by kernel_rfl
theorem methodImplements (h : Value) (w : World) : (Go.method 272 128 (.agg #[h]) "Implements").run Tryz.prog w = .ok (134, .agg #[h]) w := by kernel_rfl
theorem methodAssignableTo (h : Value) (w : World) : (Go.method 272 128 (.agg #[h]) "AssignableTo").run Tryz.prog w = .ok (131, .agg #[h]) w := by kernel_rfl

set_option maxHeartbeats 4000000 in
theorem as_hit (c : Int) (t : Addr) (old : Value) (w : World) (hg : w.cell? ⟨0, 0, none⟩ = some (.iface 128 (.agg #[.pointer (some ⟨1, 97, none⟩)]))) (ht0 : w.cell? t = some old) (hf0 : w.frozen? t = false) :
    Calls Tryz.prog 88 #[.iface 108 (.agg #[.int .i64 c]), .iface 110 (.pointer (some t))] w fun ev w' => ev = .returned (.bool true) ∧ w' = ((((w.alloc (.cells #[.pointer (some t)] 110)).alloc (.cells #[.pointer (some ⟨1, 110, none⟩), .pointer (some ⟨w.heap.size, 0, none⟩), .int .u64 150] 117)).alloc (.cells #[.pointer (some ⟨1, 110, none⟩), .pointer (some ⟨w.heap.size, 0, none⟩), .int .u64 150] 117)).alloc (.cells #[.int .i64 c] 108)).setCell t (.int .i64 c) := by
  have h6 := @run_callFunc_extern Tryz.prog 97 _ (fun args => ReflectliteValue.unpack (args.getD 0 (.tuple #[]))) Tryz.func97 (by kernel_rfl) (by kernel_rfl) (by kernel_rfl) (by kernel_rfl)
  have h7 := @run_callFunc_extern Tryz.prog 98 _ (ReflectliteValue.methodAny (ReflectliteValue.valueError "reflectlite.Value.Type" 0) (fun t _ _ _ => ReflectliteType.toType t)) Tryz.func98 (by kernel_rfl) (by kernel_rfl) (by kernel_rfl) (by kernel_rfl)
  have h8 := @run_callFunc_extern Tryz.prog 99 _ (ReflectliteValue.method (ReflectliteValue.valueError "reflectlite.Value.IsNil" 0) ReflectliteValue.isNil) Tryz.func99 (by kernel_rfl) (by kernel_rfl) (by kernel_rfl) (by kernel_rfl)
  have h27 := @run_callFunc_extern Tryz.prog 123 _ (ReflectliteType.abiMethod fun t => do pure (.int .u8 (← Rtype.kind t))) Tryz.func123 (by kernel_rfl) (by kernel_rfl) (by kernel_rfl) (by kernel_rfl)
  have h37 := @run_callFunc_extern Tryz.prog 133 _ (ReflectliteType.method ReflectliteType.elem) Tryz.func133 (by kernel_rfl) (by kernel_rfl) (by kernel_rfl) (by kernel_rfl)
  have h38 := @run_callFunc_extern Tryz.prog 134 _ (ReflectliteType.relation "Implements" ReflectliteType.implements_) Tryz.func134 (by kernel_rfl) (by kernel_rfl) (by kernel_rfl) (by kernel_rfl)
  have h10 := @run_callFunc_extern Tryz.prog 103 _ ReflectliteType.typeOf Tryz.func103 (by kernel_rfl) (by kernel_rfl) (by kernel_rfl) (by kernel_rfl)
  have h35 := @run_callFunc_extern Tryz.prog 131 _ (ReflectliteType.relation "AssignableTo" ReflectliteType.assignableTo) Tryz.func131 (by kernel_rfl) (by kernel_rfl) (by kernel_rfl) (by kernel_rfl)
  have h11 := @run_callFunc_extern Tryz.prog 104 _ (ReflectliteValue.method (ReflectliteValue.valueError "reflectlite.Value.Elem" 0) ReflectliteValue.elem) Tryz.func104 (by kernel_rfl) (by kernel_rfl) (by kernel_rfl) (by kernel_rfl)
  have h12 := @run_callFunc_extern Tryz.prog 105 _ ReflectliteValue.set Tryz.func105 (by kernel_rfl) (by kernel_rfl) (by kernel_rfl) (by kernel_rfl)
  have tO := typeOfB
  have mA := methodAssignableTo
  have a25 := assignableB
  have v25 := valueOfB
  have f6 := valueOfP
  have f7 := typeP
  have mK := methodKind
  have mE := methodElem
  have mI := methodImplements
  have k27 := kindP
  have k25 := kindB
  have e27 := elemP
  have i25 := implementsB
  have n8 := isNilP ⟨w.heap.size, 0, none⟩ t ((w.alloc (.cells #[.pointer (some t)] 110)).alloc (.cells #[.pointer (some ⟨1, 110, none⟩), .pointer (some ⟨w.heap.size, 0, none⟩), .int .u64 150] 117)) (by simp)
  have hlt : 0 < w.heap.size := by
    rcases Nat.eq_zero_or_pos w.heap.size with h0 | h
    · simp [World.cell?, h0] at hg
    · exact h
  have hg2 : ((w.alloc (.cells #[.pointer (some t)] 110)).alloc (.cells #[.pointer (some ⟨1, 110, none⟩), .pointer (some ⟨w.heap.size, 0, none⟩), .int .u64 150] 117)).cell? ⟨0, 0, none⟩ = some (.iface 128 (.agg #[.pointer (some ⟨1, 97, none⟩)])) := by
    rw [World.cell?_alloc_lt _ _ ⟨0, 0, none⟩ (by simp), World.cell?_alloc_lt _ _ ⟨0, 0, none⟩ hlt]; exact hg
  have htl : t.block < w.heap.size := by
    rcases Nat.lt_or_ge t.block w.heap.size with h | h
    · exact h
    · simp [World.cell?, Array.getElem?_eq_none h] at ht0
  have el := elemVP ⟨w.heap.size, 0, none⟩ t (((w.alloc (.cells #[.pointer (some t)] 110)).alloc (.cells #[.pointer (some ⟨1, 110, none⟩), .pointer (some ⟨w.heap.size, 0, none⟩), .int .u64 150] 117)).alloc (.cells #[.pointer (some ⟨1, 110, none⟩), .pointer (some ⟨w.heap.size, 0, none⟩), .int .u64 150] 117)) (by rw [World.cell?_alloc_lt _ _ ⟨w.heap.size, 0, none⟩ (by simp; omega)]; simp)
  have st := setB t ⟨w.heap.size + 1 + 1 + 1, 0, none⟩ c old ((((w.alloc (.cells #[.pointer (some t)] 110)).alloc (.cells #[.pointer (some ⟨1, 110, none⟩), .pointer (some ⟨w.heap.size, 0, none⟩), .int .u64 150] 117)).alloc (.cells #[.pointer (some ⟨1, 110, none⟩), .pointer (some ⟨w.heap.size, 0, none⟩), .int .u64 150] 117)).alloc (.cells #[.int .i64 c] 108))
    (by rw [World.cell?_alloc_at _ _ _ _ (by simp)]; rfl)
    (by rw [World.cell?_alloc_lt _ _ t (by simp; omega), World.cell?_alloc_lt _ _ t (by simp; omega), World.cell?_alloc_lt _ _ t (by simp; omega), World.cell?_alloc_lt _ _ t htl]; exact ht0)
    (by rw [World.frozen?_alloc_old _ _ t (by simp; omega), World.frozen?_alloc_old _ _ t (by simp; omega), World.frozen?_alloc_old _ _ t (by simp; omega), World.frozen?_alloc_old _ _ t (Nat.ne_of_lt htl)]; exact hf0)
  go_enter Tryz.func88, Tryz.ntmps88
  go_wp2
  refine wp_loop_rounds 1 ?_
  rw [rounds_succ]
  go_wp2
  go_ret
  exact ⟨rfl, rfl⟩

/-- The code that a fault stands for. -/
theorem faultCode_nil (w : World) : Calls Tryz.prog 75 #[.nilIface] w fun e w' => e = .returned (.int .i64 0) ∧ Below w.heap.size w w' := by
  go_enter Tryz.func75, Tryz.ntmps75
  go_wp2_with (go_at_call 88; refine (as_nil _ _).mono ?_; rintro e w' ⟨rfl, rfl⟩)
  go_ret
  exact ⟨rfl, (Below.refl _ _).alloc (Nat.le_refl _) _⟩

theorem faultCode_of (c : Int) (w : World) (hg : w.cell? ⟨0, 0, none⟩ = some (.iface 128 (.agg #[.pointer (some ⟨1, 97, none⟩)]))) :
    Calls Tryz.prog 75 #[.iface 108 (.agg #[.int .i64 c])] w fun e w' => e = .returned (.int .i64 c) ∧ Below w.heap.size w w' := by
  have hlt : 0 < w.heap.size := by
    rcases Nat.eq_zero_or_pos w.heap.size with h0 | h
    · simp [World.cell?, h0] at hg
    · exact h
  have hgA : (w.alloc (.cells #[.int .i64 0] 108)).cell? ⟨0, 0, none⟩ = some (.iface 128 (.agg #[.pointer (some ⟨1, 97, none⟩)])) := by
    rw [World.cell?_alloc_lt _ _ ⟨0, 0, none⟩ hlt]; exact hg
  have HA := Lib.hid (as_hit c ⟨w.heap.size, 0, none⟩ (.int .i64 0) (w.alloc (.cells #[.int .i64 0] 108)) hgA (by simp) (by simp))
  clear hgA hg
  go_enter Tryz.func75, Tryz.ntmps75
  go_wp2_with (go_at_call 88; refine HA.out.mono ?_; rintro e w' ⟨rfl, rfl⟩)
  go_ret
  refine ⟨rfl, ?_⟩
  exact (((((Below.refl _ _).alloc (Nat.le_refl _) _).alloc (by simp) _).alloc (by simp; omega) _).alloc (by simp; omega) _).alloc (by simp; omega) _
end Go.Proofs.YtkmlnibkdcdegaaGreatDoor.As

/-
  The Go functions impl.GetNum and spec.GetNum answer the same for every string and every place, and the law over them answers true.
  Condition: the variable errors.errorType holds the handle of the type error (the row lists it, the card ties it).
-/
namespace Go.Proofs.YtkmlnibkdcdegaaGreatDoor.Gn
open Go.ChangeShapes Go.WideShapes Go.ChangeAt Go.RowKit
set_option linter.unusedVariables false
set_option maxRecDepth 100000

/-- The variable errors.errorType holds the handle of the type error. -/
def Handle (w : World) : Prop := w.cell? ⟨0, 0, none⟩ = some (.iface 128 (.agg #[.pointer (some ⟨1, 97, none⟩)]))
theorem Handle.pos {w : World} (h : Handle w) : 0 < w.heap.size := World.block_lt_of_cell? w ⟨0, 0, none⟩ h
theorem Handle.below {w w' : World} (h : Handle w) (hb : Below w.heap.size w w') : Handle w' := (hb.cell (p := ⟨0, 0, none⟩) h.pos).trans h
theorem Handle.alloc {w : World} (h : Handle w) (o : Obj) : Handle (w.alloc o) := (World.cell?_alloc_lt w o ⟨0, 0, none⟩ h.pos).trans h
theorem bcell {W w1 : World} (hb : Below W.heap.size W w1) : (∀ b o, b < W.heap.size → w1.cell? ⟨b, o, none⟩ = W.cell? ⟨b, o, none⟩) ∧ (∀ b o, b < W.heap.size → w1.frozen? ⟨b, o, none⟩ = W.frozen? ⟨b, o, none⟩) :=
  ⟨fun b o h => hb.cell (p := ⟨b, o, none⟩) h, fun b o h => hb.frozen (p := ⟨b, o, none⟩) h⟩
theorem faultCode_at (c : Int) (w : World) (h : Handle w) : Calls Tryz.prog 75 #[.iface 108 (.agg #[.int .i64 c])] w fun e w' => e = .returned (.int .i64 c) ∧ Below w.heap.size w w' :=
  As.faultCode_of c w h

theorem rd_fault (f : Nat) : ∀ (l : List UInt8) (k : Nat) (u a n e c : Int), rd f l k u a = (n, e, c) → c ≠ 0 → n = 0 ∧ e = 0 := by
  induction f with
  | zero =>
    intro l k u a n e c h hc
    simp only [rd, Prod.mk.injEq] at h
    exact ⟨h.1.symm, h.2.1.symm⟩
  | succ f ih =>
    intro l k u a n e c h hc
    cases l with
    | nil =>
      simp only [rd, Prod.mk.injEq] at h
      exact ⟨h.1.symm, h.2.1.symm⟩
    | cons b l =>
      rw [rd] at h
      split at h
      · simp only [Prod.mk.injEq] at h; exact ⟨h.1.symm, h.2.1.symm⟩
      · split at h
        · split at h
          · simp only [Prod.mk.injEq] at h; exact ⟨h.1.symm, h.2.1.symm⟩
          · simp only [Prod.mk.injEq] at h; exact absurd h.2.2.symm hc
        · exact ih _ _ _ _ _ _ _ h hc

set_option maxHeartbeats 1000000 in
theorem implGetNum_any (s : ByteArray) (a : Int) (w : World) (hs : s.size ≤ maxLen) (ha0 : -9223372036854775808 ≤ a) (ha1 : a ≤ 9223372036854775807) (hw : Handle w) :
    Calls Tryz.prog 61 #[.string s, .int .i64 a] w fun e w' => e = .returned (gnV s a) ∧ Below w.heap.size w w' := by
  unfold maxLen at hs
  have HW := Lib.hid hw
  clear hw
  by_cases h1 : 8000 < s.size
  · have HU := Lib.hid (gn_big (a := a) h1)
    go_enter Tryz.func61, Tryz.ntmps61
    go_wp2_with fail
    exact bodyPost_ret (v := .agg #[.int .i64 0, .int .i64 0, .int .i64 2]) (by simp [results, Tryz.results61, go_sem]) rfl ⟨by rw [HU.out], (Below.refl _ _).alloc (Nat.le_refl _) _⟩
  by_cases h2 : a < 0
  · have HU := Lib.hid (gn_neg h1 h2)
    go_enter Tryz.func61, Tryz.ntmps61
    go_wp2_with fail
    exact bodyPost_ret (v := .agg #[.int .i64 0, .int .i64 0, .int .i64 1]) (by simp [results, Tryz.results61, go_sem]) rfl ⟨by rw [HU.out], (Below.refl _ _).alloc (Nat.le_refl _) _⟩
  obtain ⟨p, rfl⟩ := Int.eq_ofNat_of_zero_le (by omega : 0 ≤ a)
  obtain ⟨n, e, c, hr⟩ : ∃ n e c, rd 10 (s.data.toList.drop p) 0 0 (p : Int) = (n, e, c) := ⟨_, _, _, rfl⟩
  have HG := Lib.hid (gn_rd h1 hr)
  by_cases hc : c = 0
  · subst hc
    have HR := Lib.hid (readNum_any s p · h1 (by omega) n e 0 hr (.tuple #[.int .i64 n, .int .i64 e, .nilIface]) (by rw [if_pos rfl]))
    clear hr
    go_enter Tryz.func61, Tryz.ntmps61
    go_wp2_with (go_at_call 74; refine (HR.out _).mono ?_; rintro ev w' ⟨rfl, rfl⟩)
    refine (As.faultCode_nil _).mono ?_
    rintro ev w1 ⟨rfl, hb1⟩
    obtain ⟨hc, hf⟩ := bcell hb1
    have hz : w.heap.size < w1.heap.size := by have := hb1.size; simp at this; omega
    have hb2 : Below w.heap.size w w1 := ((Below.refl _ _).alloc (Nat.le_refl _) _).trans (hb1.mono (by simp))
    clear hb1
    go_wp2_with fail
    exact bodyPost_ret (v := .agg #[.int .i64 n, .int .i64 e, .int .i64 0]) (by simp [results, Tryz.results61, go_sem, hc]) rfl ⟨by rw [HG.out], ((hb2.setCell (Nat.le_refl _) _).setCell (Nat.le_refl _) _).setCell (Nat.le_refl _) _⟩
  · obtain ⟨rfl, rfl⟩ := rd_fault 10 _ _ _ _ _ _ _ hr hc
    have HR := Lib.hid (readNum_any s p · h1 (by omega) 0 0 c hr (.tuple #[.int .i64 0, .int .i64 0, .iface 108 (.agg #[.int .i64 c])]) (by rw [if_neg hc]))
    clear hr hc
    go_enter Tryz.func61, Tryz.ntmps61
    go_wp2_with (go_at_call 74; refine (HR.out _).mono ?_; rintro ev w' ⟨rfl, rfl⟩)
    refine (faultCode_at _ _ (HW.out.alloc _)).mono ?_
    rintro ev w1 ⟨rfl, hb1⟩
    obtain ⟨hc, hf⟩ := bcell hb1
    have hz : w.heap.size < w1.heap.size := by have := hb1.size; simp at this; omega
    have hb2 : Below w.heap.size w w1 := ((Below.refl _ _).alloc (Nat.le_refl _) _).trans (hb1.mono (by simp))
    clear hb1
    go_wp2_with fail
    exact bodyPost_ret (v := .agg #[.int .i64 0, .int .i64 0, .int .i64 c]) (by simp [results, Tryz.results61, go_sem, hc]) rfl ⟨by rw [HG.out], ((hb2.setCell (Nat.le_refl _) _).setCell (Nat.le_refl _) _).setCell (Nat.le_refl _) _⟩

theorem specGetNum_any (s : ByteArray) (a : Int) (w : World) (hs : s.size ≤ maxLen) (ha0 : -9223372036854775808 ≤ a) (ha1 : a ≤ 9223372036854775807) :
    Calls Tryz.prog 23 #[.string s, .int .i64 a] w fun e w' => e = .returned (gnV s a) ∧ Below w.heap.size w w' := by
  unfold maxLen at hs
  by_cases h1 : 8000 < s.size
  · have HU := Lib.hid (gn_big (a := a) h1)
    go_enter Tryz.func23, Tryz.ntmps23
    go_wp2_with fail
    exact bodyPost_ret (v := .agg #[.int .i64 0, .int .i64 0, .int .i64 2]) (by simp [results, Tryz.results23, go_sem]) rfl ⟨by rw [HU.out], (Below.refl _ _).alloc (Nat.le_refl _) _⟩
  by_cases h2 : a < 0
  · have HU := Lib.hid (gn_neg h1 h2)
    go_enter Tryz.func23, Tryz.ntmps23
    go_wp2_with fail
    exact bodyPost_ret (v := .agg #[.int .i64 0, .int .i64 0, .int .i64 1]) (by simp [results, Tryz.results23, go_sem]) rfl ⟨by rw [HU.out], (Below.refl _ _).alloc (Nat.le_refl _) _⟩
  obtain ⟨p, rfl⟩ := Int.eq_ofNat_of_zero_le (by omega : 0 ≤ a)
  exact specGetNum_at s p w h1 (by omega)

end Go.Proofs.YtkmlnibkdcdegaaGreatDoor.Gn

/-
  The Go function impl.joined answers its parts' bytes, one behind the other, in new memory.
  Conditions: at least one part; all parts together have at most 2^40 bytes.
-/
namespace Go.Proofs.YtkmlnibkdcdegaaGreatDoor.Join
open Go.ChangeShapes Go.WideShapes Go.ChangeAt Go.RowKit
set_option linter.unusedVariables false
set_option maxRecDepth 100000

/-- The bytes of some texts, one behind the other. -/
def flat (ss : List ByteArray) : List UInt8 := ss.flatMap (·.data.toList)
theorem flat_step (ss : List ByteArray) (k : Nat) (h : k < ss.length) : flat (ss.take (k + 1)) = flat (ss.take k) ++ ss[k].data.toList := by
  unfold flat
  rw [List.take_succ_eq_append_getElem h, List.flatMap_append]
  simp
theorem size_len (s : ByteArray) : s.data.toList.length = s.size := by simp
theorem flat_len_step (ss : List ByteArray) (k : Nat) (h : k < ss.length) : (flat (ss.take (k + 1))).length = (flat (ss.take k)).length + ss[k].size := by
  rw [flat_step ss k h, List.length_append, size_len]
theorem flat_take_le (ss : List ByteArray) (k : Nat) : (flat (ss.take k)).length ≤ (flat ss).length := by
  conv => rhs; rw [← List.take_append_drop k ss]
  unfold flat
  rw [List.flatMap_append, List.length_append]; omega
theorem flat_all (ss : List ByteArray) (k : Nat) (h : ss.length ≤ k) : flat (ss.take k) = flat ss := by rw [List.take_of_length_le h]

theorem infoU8 : (Tryz.prog.info? 5).map (fun i => (i.zero, i.size, i.bytes)) = some (some (.int .u8 0), 1, 1) := by kernel_rfl
theorem sizeU8 (w : World) : (sizeOf 5).run Tryz.prog w = .ok 1 w := by kernel_rfl
theorem ret_str {a b : ByteArray} (h : a = b) : Ending.returned (.string a) = .returned (.string b) := by rw [h]

/-- 'copy(b[bp:], s)', s a text, bp = how much is filled. -/
theorem copy_text (w0 wr : World) (h N : Nat) (acc : List UInt8) (s : ByteArray) (ty : TypeId) (hb : Lib.Buf w0 wr h N acc) (hfit : acc.length + s.size ≤ N) :
    ∃ wr', (Builtin.copy_ #[73, 9] ty #[Lib.tailV h N acc.length, .string s]).run Tryz.prog wr = .ok (.int .i64 (s.size : Int)) wr' ∧ Lib.Buf w0 wr' h N (acc ++ s.data.toList) := by
  by_cases hz : s.size = 0
  · have hs0 : s.data.toList = [] := List.eq_nil_of_length_eq_zero (by rw [size_len, hz])
    refine ⟨wr, ?_, by rw [hs0]; simpa using hb⟩
    have := run_copy_string (P := Tryz.prog) wr 73 9 ty 5 h (if N = acc.length then 0 else acc.length) (N - acc.length) (N - acc.length) s Tryz.underlying73 sizeU8 (by omega) (fun j hj => by omega) (fun j hj => by omega)
    rw [hs0] at this
    unfold Lib.tailV
    by_cases hN : N = acc.length
    · rw [if_pos hN] at this ⊢; exact this
    · rw [if_neg hN] at this ⊢; exact this
  · have hne : ¬ N = acc.length := by omega
    have hr := run_copy_string (P := Tryz.prog) wr 73 9 ty 5 h acc.length (N - acc.length) (N - acc.length) s Tryz.underlying73 sizeU8 (by omega)
      (fun j hj => hb.there _ (by omega)) (fun j hj => hb.free _ (by omega))
    have hl : (s.data.toList.map fun x => Value.int .u8 (x.toNat : Int)).length = s.size := by rw [List.length_map, size_len]
    refine ⟨_, by unfold Lib.tailV; rw [if_neg hne]; exact hr, ?_⟩
    have hin := World.cell?_setCells_in h (s.data.toList.map fun x => Value.int .u8 (x.toNat : Int)) acc.length wr (fun j hj => hb.there _ (by omega))
    have hout := World.cell?_setCells_out h (s.data.toList.map fun x => Value.int .u8 (x.toNat : Int)) acc.length wr
    refine ⟨?_, ?_, ?_, ?_, by rw [List.length_append, size_len]; exact hfit⟩
    · exact Lib.below_setCells h (Nat.le_refl _) _ _ hb.below
    · intro j hj
      by_cases h1 : acc.length ≤ j ∧ j < acc.length + s.size
      · obtain ⟨d, rfl⟩ : ∃ d, j = acc.length + d := ⟨j - acc.length, by omega⟩
        rw [hin d (by omega)]
        rfl
      · rw [hout ⟨h, j, none⟩ (fun _ _ => by rw [hl]; show j < _ ∨ _ ≤ j; omega)]
        exact hb.there j hj
    · intro j hj
      rw [World.frozen?_setCells]
      exact hb.free j hj
    · intro j x hx
      by_cases h1 : j < acc.length
      · rw [List.getElem?_append_left h1] at hx
        rw [hout ⟨h, j, none⟩ (fun _ _ => Or.inl h1)]
        exact hb.holds j x hx
      · rw [List.getElem?_append_right (by omega)] at hx
        obtain ⟨d, rfl⟩ : ∃ d, j = acc.length + d := ⟨j - acc.length, by omega⟩
        rw [Nat.add_sub_cancel_left] at hx
        have hd : d < s.data.toList.length := (List.getElem?_eq_some_iff.1 hx).1
        rw [hin d (by rw [List.length_map]; exact hd)]
        simp only [List.getElem_map, (List.getElem?_eq_some_iff.1 hx).2]

/-- What 'make([]byte, n)' lays is a buffer of which nothing is filled. -/
theorem buf_made {w w' : World} {N : Nat} {xs : List Value} (ho : w'.ownsRow w.heap.size 5 1 (.slice (some ⟨w.heap.size, 0, none⟩) N N) N xs) (hg : w.grownBy w' none) : Lib.Buf w w' w.heap.size N [] := by
  rcases ho.2 with ⟨h, _⟩ | ⟨g, cap, cur, hv, hbg, hgg, _, _, hcs, _⟩
  · cases h
  · simp only [Value.slice.injEq, Option.some.injEq, Addr.mk.injEq] at hv
    obtain ⟨⟨rfl, _⟩, _, rfl⟩ := hv
    have hcell : ∀ j, w'.cell? ⟨w.heap.size, j, none⟩ = cur[j]? := fun j => cell_of_row w' w.heap.size j cur _ (0, 0) hgg
    refine ⟨(Below.refl _ _).grown hg (Nat.le_refl _) (fun k hk => by cases hk), fun j hj => ?_, fun j hj => ?_, fun j x hx => by simp at hx, Nat.zero_le _⟩
    · rw [hcell, Array.getElem?_eq_getElem (by omega)]; rfl
    · simp [World.frozen?, hgg]

theorem conv_buf {w0 wr : World} {h : Nat} {acc : List UInt8} (hb : Lib.Buf w0 wr h acc.length acc) :
    (convert 73 9 (.slice (some ⟨h, 0, none⟩) acc.length acc.length)).run Tryz.prog wr = .ok (.string ⟨acc.toArray⟩) wr :=
  run_convert_bytes_back (P := Tryz.prog) wr 73 9 5 ⟨h, 0, none⟩ acc.length acc Tryz.underlying73 Tryz.underlying5 Tryz.underlying9 (fun j hj => by
    have hadd : (⟨h, 0, none⟩ : Addr).add j = ⟨h, j, none⟩ := by unfold Addr.add; split <;> simp_all
    rw [hadd]; exact hb.holds j acc[j] (List.getElem?_eq_getElem hj))

set_option maxHeartbeats 1000000 in
theorem joinedC_any (ss : List ByteArray) (b cap : Nat) (w : World) (hn : 1 ≤ ss.length) (hn2 : ss.length ≤ 1000) (hbig : (flat ss).length ≤ 1099511627776)
    (hc : ∀ k (h : k < ss.length), w.cell? ⟨b, k, none⟩ = some (.string ss[k])) :
    Calls Tryz.prog 30 #[.slice (some ⟨b, 0, none⟩) ss.length cap] w fun e w' => e = .returned (.string ⟨(flat ss).toArray⟩) ∧ Below w.heap.size w w' := by
  obtain ⟨i0, hi, hz0, hz1, hz2⟩ := info_parts infoU8
  have HC := Lib.hid hc
  clear hc
  go_enter Tryz.func30, Tryz.ntmps30
  go_wp2_with fail
  go_loop [3, 12] (fun z i => ∃ k : Nat, k ≤ ss.length ∧ i = .int .i64 k ∧ z = .int .i64 ((flat (ss.take k)).length : Nat)) (fun _ i => ss.length - (intOf i).toNat)
  case atStart => exact ⟨0, by omega, rfl, rfl⟩
  case round =>
    obtain ⟨k, hk, rfl, rfl⟩ := hrel
    by_cases hlt : k < ss.length
    · have hcell := HC.out k hlt
      have hle := flat_take_le ss (k + 1)
      have HL := Lib.hid (flat_len_step ss k hlt)
      have hle2 : (flat (ss.take k)).length + ss[k].size ≤ 1099511627776 := by have := HL.out; omega
      clear hle
      generalize hs : ss[k] = s at *
      have HS := Lib.hid hs
      clear hs
      go_wp2_with fail
      go_round
      case rel => exact ⟨k + 1, by omega, by go_num, by rw [HL.out]; go_num⟩
      case measure => simp [intOf]; omega
    · have HN : Hid ((flat (ss.take k)).length = (flat ss).length) := by exact Lib.hid (by rw [flat_all ss k (by omega)])
      have hN : (flat (ss.take k)).length ≤ 1099511627776 := by rw [HN.out]; exact hbig
      generalize (flat (ss.take k)).length = N at *
      clear hbig
      go_wp2_with (at_make; refine wpList_make_full _ rfl _ _ 73 rfl w.heap.size 5 i0 (.int .u8 0) 1 Tryz.underlying73 hi hz0 hz1 .i64 .i64 _ _ N rfl rfl rfl rfl ?c1 ?c2 (Nat.le_refl _) ?_)
      case c1 => omega
      case c2 => unfold maxLen; omega
      intro w1 hown hgrow
      have HB := Lib.hid (buf_made hown hgrow)
      clear hown hgrow
      go_wp2_with fail
      go_loopw [7, 25] (fun z i wr => ∃ j : Nat, j ≤ ss.length ∧ i = .int .i64 j ∧ ∃ acc : List UInt8, z = .int .i64 (acc.length : Nat) ∧ Hid (acc = flat (ss.take j) ∧ Lib.Buf w wr w.heap.size N acc)) (fun _ i _ => ss.length - (intOf i).toNat)
      case atStart => exact ⟨0, by omega, rfl, [], rfl, Lib.hid ⟨rfl, HB.out⟩⟩
      case round =>
        obtain ⟨j, hj, rfl, acc, rfl, HR⟩ := hrel
        by_cases hjt : j < ss.length
        · have hcell := (Lib.Below.cellOf HR.out.2.below (HC.out j hjt) (Nat.le_refl _))
          have HL : Hid (acc.length + ss[j].size ≤ N) := by
            refine Lib.hid ?_
            have h1 := flat_len_step ss j hjt
            have h2 := flat_take_le ss (j + 1)
            have h3 := HN.out
            have h4 := HR.out.1
            rw [h4]; omega
          obtain ⟨wr', hrun, HB'⟩ := copy_text w wr w.heap.size N acc ss[j] 3 HR.out.2 HL.out
          have hsl := Lib.run_slice_tailV (P := Tryz.prog) wr 73 5 Tryz.underlying73 sizeU8 w.heap.size N acc.length HR.out.2.fits
          have HF := Lib.hid (flat_step ss j hjt)
          have hL2 := HL.out
          have HB2 := Lib.hid HB'
          clear HB'
          generalize hs : ss[j] = s at *
          have HS := Lib.hid hs
          clear hs
          go_wp2_with fail
          go_roundw
          case rel => exact ⟨j + 1, by omega, by go_num, acc ++ s.data.toList, by rw [List.length_append, size_len]; go_num, Lib.hid ⟨by rw [HF.out, HR.out.1], HB2.out⟩⟩
          case measure => simp [intOf]; omega
        · have HA : Hid (acc = flat ss ∧ acc.length = N) := by
            refine Lib.hid ?_
            have h1 := HR.out.1
            rw [flat_all ss j (by omega)] at h1
            exact ⟨h1, by rw [h1, HN.out]⟩
          have hb : Lib.Buf w wr w.heap.size acc.length acc := by have h1 := HR.out.2; rw [← HA.out.2] at h1; exact h1
          have hconv := conv_buf hb
          rw [HA.out.2] at hconv
          clear hb
          go_wp2_with fail
          go_ret
          exact ⟨ret_str (by rw [HA.out.1]), HR.out.2.below⟩
theorem joined_any (ss : List ByteArray) (b : Nat) (w : World) (hn : 1 ≤ ss.length) (hn2 : ss.length ≤ 1000) (hbig : (flat ss).length ≤ 1099511627776)
    (hc : ∀ k (h : k < ss.length), w.cell? ⟨b, k, none⟩ = some (.string ss[k])) :
    Calls Tryz.prog 30 #[.slice (some ⟨b, 0, none⟩) ss.length ss.length] w fun e w' => e = .returned (.string ⟨(flat ss).toArray⟩) ∧ Below w.heap.size w w' := joinedC_any ss b ss.length w hn hn2 hbig hc
end Go.Proofs.YtkmlnibkdcdegaaGreatDoor.Join

/-
  The Go functions impl.GetText and spec.GetText answer the same for every string and every place, and the law over them answers true.
  Condition: the variable errors.errorType holds the handle of the type error (the row lists it, the card ties it).
-/
namespace Go.Proofs.YtkmlnibkdcdegaaGreatDoor.Gn
open Go.ChangeShapes Go.WideShapes Go.ChangeAt Go.RowKit
set_option linter.unusedVariables false
set_option maxRecDepth 100000

/-- What GetText answers, of what GetNum answers. -/
def gtOf (s : ByteArray) (n e c : Int) : ByteArray × Int × Int :=
  if c ≠ 0 then (⟨#[]⟩, 0, c) else if n < 0 ∨ 8000 < n then (⟨#[]⟩, 0, 3) else if (s.size : Int) < e + n then (⟨#[]⟩, 0, 4) else (s.extract e.toNat (e + n).toNat, e + n, 0)
def gt (s : ByteArray) (a : Int) : ByteArray × Int × Int := gtOf s (gn s a).1 (gn s a).2.1 (gn s a).2.2
def gtV (s : ByteArray) (a : Int) : Value := .agg #[.string (gt s a).1, .int .i64 (gt s a).2.1, .int .i64 (gt s a).2.2]

theorem gt_code {s : ByteArray} {a n e c : Int} (h : gn s a = (n, e, c)) (hc : c ≠ 0) : gtV s a = .agg #[.string ⟨#[]⟩, .int .i64 0, .int .i64 c] := by
  unfold gtV gt gtOf; rw [h]; simp only [if_pos hc]
theorem gt_syn {s : ByteArray} {a n e : Int} (h : gn s a = (n, e, 0)) (hn : n < 0 ∨ 8000 < n) : gtV s a = .agg #[.string ⟨#[]⟩, .int .i64 0, .int .i64 3] := by
  have h0 : ¬ ((0 : Int) ≠ 0) := by omega
  unfold gtV gt gtOf; rw [h]; simp only [if_neg h0, if_pos hn]
theorem gt_short {s : ByteArray} {a n e : Int} (h : gn s a = (n, e, 0)) (hn : ¬ (n < 0 ∨ 8000 < n)) (hs : (s.size : Int) < e + n) : gtV s a = .agg #[.string ⟨#[]⟩, .int .i64 0, .int .i64 4] := by
  have h0 : ¬ ((0 : Int) ≠ 0) := by omega
  unfold gtV gt gtOf; rw [h]; simp only [if_neg h0, if_neg hn, if_pos hs]
theorem gt_ok {s : ByteArray} {a n e : Int} (h : gn s a = (n, e, 0)) (hn : ¬ (n < 0 ∨ 8000 < n)) (hs : ¬ (s.size : Int) < e + n) : gtV s a = .agg #[.string (s.extract e.toNat (e + n).toNat), .int .i64 (e + n), .int .i64 0] := by
  have h0 : ¬ ((0 : Int) ≠ 0) := by omega
  unfold gtV gt gtOf; rw [h]; simp only [if_neg h0, if_neg hn, if_neg hs]

theorem rd_end (f : Nat) : ∀ (l : List UInt8) (k : Nat) (u a n e c : Int), rd f l k u a = (n, e, c) → c = 0 → a + 1 ≤ e ∧ e ≤ a + l.length := by
  induction f with
  | zero =>
    intro l k u a n e c h hc
    simp only [rd, Prod.mk.injEq] at h
    have := h.2.2; omega
  | succ f ih =>
    intro l k u a n e c h hc
    cases l with
    | nil =>
      simp only [rd, Prod.mk.injEq] at h
      have := h.2.2; omega
    | cons b l =>
      rw [rd] at h
      split at h
      · simp only [Prod.mk.injEq] at h; have := h.2.2; omega
      · split at h
        · split at h
          · simp only [Prod.mk.injEq] at h; have := h.2.2; omega
          · simp only [Prod.mk.injEq] at h; have := h.2.1; simp only [List.length_cons]; omega
        · have := ih _ _ _ _ _ _ _ h hc
          simp only [List.length_cons]; omega
theorem gn_end {s : ByteArray} {a n e : Int} (h : gn s a = (n, e, 0)) : 0 ≤ e ∧ e ≤ s.size ∧ s.size ≤ 8000 := by
  unfold gn at h
  split at h
  · simp only [Prod.mk.injEq] at h; have := h.2.2; omega
  · split at h
    · simp only [Prod.mk.injEq] at h; have := h.2.2; omega
    · have h1 := rd_end _ _ _ _ _ _ _ _ h rfl
      have h2 : (s.data.toList.drop a.toNat).length = s.size - a.toNat := by rw [List.length_drop]; simp
      rw [h2] at h1
      omega
theorem one_cell (b : ByteArray) (w : World) (t : TypeId) : ∀ k (h : k < [b].length), (w.alloc (.cells #[.string b] t)).cell? ⟨w.heap.size, k, none⟩ = some (.string [b][k]) := by
  intro k h
  rw [cell_of_row _ w.heap.size k _ _ (0, 0) (heap_alloc_new w _)]
  match k, h with
  | 0, _ => rfl
theorem flat1 (b : ByteArray) : Join.flat [b] = b.data.toList := by simp [Join.flat]

set_option maxRecDepth 100000 in
set_option maxHeartbeats 2000000 in
theorem implGetText_any (s : ByteArray) (a : Int) (w : World) (hs : s.size ≤ maxLen) (ha0 : -9223372036854775808 ≤ a) (ha1 : a ≤ 9223372036854775807) (hw : Handle w) :
    Calls Tryz.prog 60 #[.string s, .int .i64 a] w fun e w' => e = .returned (gtV s a) ∧ Below w.heap.size w w' := by
  have HW := Lib.hid hw
  clear hw
  obtain ⟨n, e, c, hg⟩ : ∃ n e c, gn s a = (n, e, c) := ⟨_, _, _, rfl⟩
  have hv : gnV s a = .agg #[.int .i64 n, .int .i64 e, .int .i64 c] := by unfold gnV; rw [hg]
  have HN := Lib.hid (implGetNum_any s a · hs ha0 ha1)
  rw [hv] at HN
  clear hv
  unfold maxLen at hs
  by_cases hc : c = 0
  · subst hc
    have he := gn_end hg
    by_cases hn : n < 0 ∨ 8000 < n
    · have HU := Lib.hid (gt_syn hg hn)
      clear hg
      by_cases hn0 : n < 0
      · clear hn
        go_enter Tryz.func60, Tryz.ntmps60
        go_wp2_with fail
        refine (HN.out _ (HW.out.alloc _)).mono ?_
        rintro ev w1 ⟨rfl, hb1⟩
        obtain ⟨hc1, hf1⟩ := bcell hb1
        have hz : w.heap.size < w1.heap.size := by have := hb1.size; simp at this; omega
        have hb2 : Below w.heap.size w w1 := ((Below.refl _ _).alloc (Nat.le_refl _) _).trans (hb1.mono (by simp))
        have hb2s := hb2.size
        clear hb1
        go_wp2_with fail
        exact bodyPost_ret (v := .agg #[.string ⟨#[]⟩, .int .i64 (0), .int .i64 3]) (by simp [results, Tryz.results60, go_sem, hc1, hz]) rfl ⟨by rw [HU.out], (((hb2.setCell (Nat.le_refl _) _).setCell (Nat.le_refl _) _).setCell (Nat.le_refl _) _).alloc (by simpa [World.setCell] using hb2s) _⟩
      · have hn8 : 8000 < n := by omega
        clear hn
        go_enter Tryz.func60, Tryz.ntmps60
        go_wp2_with fail
        refine (HN.out _ (HW.out.alloc _)).mono ?_
        rintro ev w1 ⟨rfl, hb1⟩
        obtain ⟨hc1, hf1⟩ := bcell hb1
        have hz : w.heap.size < w1.heap.size := by have := hb1.size; simp at this; omega
        have hb2 : Below w.heap.size w w1 := ((Below.refl _ _).alloc (Nat.le_refl _) _).trans (hb1.mono (by simp))
        have hb2s := hb2.size
        clear hb1
        go_wp2_with fail
        exact bodyPost_ret (v := .agg #[.string ⟨#[]⟩, .int .i64 (0), .int .i64 3]) (by simp [results, Tryz.results60, go_sem, hc1, hz]) rfl ⟨by rw [HU.out], (((hb2.setCell (Nat.le_refl _) _).setCell (Nat.le_refl _) _).setCell (Nat.le_refl _) _).alloc (by simpa [World.setCell] using hb2s) _⟩
    · have hn0 : 0 ≤ n := by omega
      have hn8 : n ≤ 8000 := by omega
      by_cases hl : (s.size : Int) < e + n
      · have HU := Lib.hid (gt_short hg hn hl)
        obtain ⟨he0, he1, he2⟩ := he
        have hl2 : (s.size : Int) - n < e := by omega
        clear hg hn
        go_enter Tryz.func60, Tryz.ntmps60
        go_wp2_with fail
        refine (HN.out _ (HW.out.alloc _)).mono ?_
        rintro ev w1 ⟨rfl, hb1⟩
        obtain ⟨hc1, hf1⟩ := bcell hb1
        have hz : w.heap.size < w1.heap.size := by have := hb1.size; simp at this; omega
        have hb2 : Below w.heap.size w w1 := ((Below.refl _ _).alloc (Nat.le_refl _) _).trans (hb1.mono (by simp))
        have hb2s := hb2.size
        clear hb1
        go_wp2_with fail
        exact bodyPost_ret (v := .agg #[.string ⟨#[]⟩, .int .i64 (0), .int .i64 4]) (by simp [results, Tryz.results60, go_sem, hc1, hz]) rfl ⟨by rw [HU.out], (((hb2.setCell (Nat.le_refl _) _).setCell (Nat.le_refl _) _).setCell (Nat.le_refl _) _).alloc (by simpa [World.setCell] using hb2s) _⟩
      · have HU := Lib.hid (gt_ok hg hn hl)
        obtain ⟨he0, he1, he2⟩ := he
        obtain ⟨e', rfl⟩ := Int.eq_ofNat_of_zero_le he0
        obtain ⟨n', rfl⟩ := Int.eq_ofNat_of_zero_le hn0
        have hl2 : ¬ (s.size : Int) - n' < e' := by omega
        clear hg hn
        go_enter Tryz.func60, Tryz.ntmps60
        go_wp2_with fail
        refine (HN.out _ (HW.out.alloc _)).mono ?_
        rintro ev w1 ⟨rfl, hb1⟩
        obtain ⟨hc1, hf1⟩ := bcell hb1
        have hz : w.heap.size < w1.heap.size := by have := hb1.size; simp at this; omega
        have hb2 : Below w.heap.size w w1 := ((Below.refl _ _).alloc (Nat.le_refl _) _).trans (hb1.mono (by simp))
        have hb2s := hb2.size
        clear hb1
        have hsl : ∀ W, (Instr.slice 9 (.string s) (some (.int .i64 (e' : Int))) (some (.int .i64 ((e' : Int) + n'))) none).run Tryz.prog W = .ok (.string (s.extract e' (e' + n'))) W := fun W => by
          rw [run_slice_string W 9 s .i64 .i64 e' ((e' : Int) + n') Tryz.underlying9 (by omega) (by omega) (by omega)]
          rw [show ((e' : Int) + n').toNat = e' + n' by omega, Int.toNat_natCast]
        have HU2 : Hid (gtV s a = .agg #[.string (s.extract e' (e' + n')), .int .i64 ((e' : Int) + n'), .int .i64 0]) := by
          refine Lib.hid ?_
          rw [HU.out, show ((e' : Int) + n').toNat = e' + n' by omega, Int.toNat_natCast]
        go_wp2_with fail
        have hcell := one_cell (s.extract e' (e' + n')) (w1.alloc (.cells #[.int .i64 n', .int .i64 e', .int .i64 0] 55)) 9
        rw [show (w1.alloc (.cells #[.int .i64 n', .int .i64 e', .int .i64 0] 55)).heap.size = w1.heap.size + 1 by simp] at hcell
        have HZ : Hid ((s.extract e' (e' + n')).size ≤ 8000) := by exact Lib.hid (by rw [ByteArray.size_extract]; omega)
        generalize s.extract e' (e' + n') = x at *
        refine (Join.joined_any [x] (w1.heap.size + 1) _ (by simp) (by simp) (by rw [flat1, Join.size_len]; have := HZ.out; omega) hcell).mono ?_
        rintro ev w2 ⟨rfl, hb3⟩
        have HE : Hid ((⟨(Join.flat [x]).toArray⟩ : ByteArray) = x) := by exact Lib.hid (by rw [flat1])
        rw [HE.out]
        have hb4 : Below w.heap.size w w2 := ((hb2.alloc hb2s _).alloc (by simp; omega) _).trans (hb3.mono (by simp; omega))
        have hz2 : w.heap.size < w2.heap.size := by have := hb3.size; simp at this; omega
        have hc2 : ∀ o, w2.cell? ⟨w.heap.size, o, none⟩ = w1.cell? ⟨w.heap.size, o, none⟩ := by
          intro o
          rw [hb3.cell (p := ⟨w.heap.size, o, none⟩) (by simp; omega), World.cell?_alloc_lt _ _ ⟨w.heap.size, o, none⟩ (by simp; omega), World.cell?_alloc_lt _ _ ⟨w.heap.size, o, none⟩ (by simp; omega)]
        have hf2 : ∀ o, w2.frozen? ⟨w.heap.size, o, none⟩ = w1.frozen? ⟨w.heap.size, o, none⟩ := by
          intro o
          rw [hb3.frozen (p := ⟨w.heap.size, o, none⟩) (by simp; omega), World.frozen?_alloc_old _ _ ⟨w.heap.size, o, none⟩ (by simp; omega), World.frozen?_alloc_old _ _ ⟨w.heap.size, o, none⟩ (by simp; omega)]
        clear hb3 hcell hsl
        go_wp2_with fail
        exact bodyPost_ret (v := .agg #[.string x, .int .i64 ((e' : Int) + n'), .int .i64 0]) (by simp [results, Tryz.results60, go_sem, hc2, hc1]) rfl ⟨by rw [HU2.out], ((hb4.setCell (Nat.le_refl _) _).setCell (Nat.le_refl _) _).setCell (Nat.le_refl _) _⟩
  · have HU := Lib.hid (gt_code hg hc)
    have hcb1 : (c == 0) = false := by rw [beq_eq_false_iff_ne]; exact hc
    have hcb2 : (c != 0) = true := by rw [bne_iff_ne]; exact hc
    have HC := Lib.hid hc
    clear hg hc
    go_enter Tryz.func60, Tryz.ntmps60
    go_wp2_with fail
    refine (HN.out _ (HW.out.alloc _)).mono ?_
    rintro ev w1 ⟨rfl, hb1⟩
    obtain ⟨hc1, hf1⟩ := bcell hb1
    have hz : w.heap.size < w1.heap.size := by have := hb1.size; simp at this; omega
    have hb2 : Below w.heap.size w w1 := ((Below.refl _ _).alloc (Nat.le_refl _) _).trans (hb1.mono (by simp))
    have hb2s := hb2.size
    clear hb1
    go_wp2_with fail
    exact bodyPost_ret (v := .agg #[.string ⟨#[]⟩, .int .i64 (0), .int .i64 c]) (by simp [results, Tryz.results60, go_sem, hc1, hz]) rfl ⟨by rw [HU.out], (((hb2.setCell (Nat.le_refl _) _).setCell (Nat.le_refl _) _).setCell (Nat.le_refl _) _).alloc (by simpa [World.setCell] using hb2s) _⟩

set_option maxRecDepth 100000 in
set_option maxHeartbeats 2000000 in
theorem specGetText_any (s : ByteArray) (a : Int) (w : World) (hs : s.size ≤ maxLen) (ha0 : -9223372036854775808 ≤ a) (ha1 : a ≤ 9223372036854775807) :
    Calls Tryz.prog 22 #[.string s, .int .i64 a] w fun e w' => e = .returned (gtV s a) ∧ Below w.heap.size w w' := by
  obtain ⟨n, e, c, hg⟩ : ∃ n e c, gn s a = (n, e, c) := ⟨_, _, _, rfl⟩
  have hv : gnV s a = .agg #[.int .i64 n, .int .i64 e, .int .i64 c] := by unfold gnV; rw [hg]
  have HN := Lib.hid (specGetNum_any s a · hs ha0 ha1)
  rw [hv] at HN
  clear hv
  unfold maxLen at hs
  by_cases hc : c = 0
  · subst hc
    have he := gn_end hg
    by_cases hn : n < 0 ∨ 8000 < n
    · have HU := Lib.hid (gt_syn hg hn)
      clear hg
      by_cases hn0 : n < 0
      · clear hn
        go_enter Tryz.func22, Tryz.ntmps22
        go_wp2_with fail
        refine (HN.out _).mono ?_
        rintro ev w1 ⟨rfl, hb1⟩
        obtain ⟨hc1, hf1⟩ := bcell hb1
        have hz : w.heap.size < w1.heap.size := by have := hb1.size; simp at this; omega
        have hb2 : Below w.heap.size w w1 := ((Below.refl _ _).alloc (Nat.le_refl _) _).trans (hb1.mono (by simp))
        have hb2s := hb2.size
        clear hb1
        go_wp2_with fail
        exact bodyPost_ret (v := .agg #[.string ⟨#[]⟩, .int .i64 (0), .int .i64 3]) (by simp [results, Tryz.results22, go_sem, hc1, hz]) rfl ⟨by rw [HU.out], (((hb2.setCell (Nat.le_refl _) _).setCell (Nat.le_refl _) _).setCell (Nat.le_refl _) _).alloc (by simpa [World.setCell] using hb2s) _⟩
      · have hn8 : 8000 < n := by omega
        clear hn
        go_enter Tryz.func22, Tryz.ntmps22
        go_wp2_with fail
        refine (HN.out _).mono ?_
        rintro ev w1 ⟨rfl, hb1⟩
        obtain ⟨hc1, hf1⟩ := bcell hb1
        have hz : w.heap.size < w1.heap.size := by have := hb1.size; simp at this; omega
        have hb2 : Below w.heap.size w w1 := ((Below.refl _ _).alloc (Nat.le_refl _) _).trans (hb1.mono (by simp))
        have hb2s := hb2.size
        clear hb1
        go_wp2_with fail
        exact bodyPost_ret (v := .agg #[.string ⟨#[]⟩, .int .i64 (0), .int .i64 3]) (by simp [results, Tryz.results22, go_sem, hc1, hz]) rfl ⟨by rw [HU.out], (((hb2.setCell (Nat.le_refl _) _).setCell (Nat.le_refl _) _).setCell (Nat.le_refl _) _).alloc (by simpa [World.setCell] using hb2s) _⟩
    · have hn0 : 0 ≤ n := by omega
      have hn8 : n ≤ 8000 := by omega
      by_cases hl : (s.size : Int) < e + n
      · have HU := Lib.hid (gt_short hg hn hl)
        obtain ⟨he0, he1, he2⟩ := he
        have hl2 : (s.size : Int) - n < e := by omega
        clear hg hn
        go_enter Tryz.func22, Tryz.ntmps22
        go_wp2_with fail
        refine (HN.out _).mono ?_
        rintro ev w1 ⟨rfl, hb1⟩
        obtain ⟨hc1, hf1⟩ := bcell hb1
        have hz : w.heap.size < w1.heap.size := by have := hb1.size; simp at this; omega
        have hb2 : Below w.heap.size w w1 := ((Below.refl _ _).alloc (Nat.le_refl _) _).trans (hb1.mono (by simp))
        have hb2s := hb2.size
        clear hb1
        go_wp2_with fail
        exact bodyPost_ret (v := .agg #[.string ⟨#[]⟩, .int .i64 (0), .int .i64 4]) (by simp [results, Tryz.results22, go_sem, hc1, hz]) rfl ⟨by rw [HU.out], (((hb2.setCell (Nat.le_refl _) _).setCell (Nat.le_refl _) _).setCell (Nat.le_refl _) _).alloc (by simpa [World.setCell] using hb2s) _⟩
      · have HU := Lib.hid (gt_ok hg hn hl)
        obtain ⟨he0, he1, he2⟩ := he
        obtain ⟨e', rfl⟩ := Int.eq_ofNat_of_zero_le he0
        obtain ⟨n', rfl⟩ := Int.eq_ofNat_of_zero_le hn0
        have hl2 : ¬ (s.size : Int) - n' < e' := by omega
        clear hg hn
        go_enter Tryz.func22, Tryz.ntmps22
        go_wp2_with fail
        refine (HN.out _).mono ?_
        rintro ev w1 ⟨rfl, hb1⟩
        obtain ⟨hc1, hf1⟩ := bcell hb1
        have hz : w.heap.size < w1.heap.size := by have := hb1.size; simp at this; omega
        have hb2 : Below w.heap.size w w1 := ((Below.refl _ _).alloc (Nat.le_refl _) _).trans (hb1.mono (by simp))
        have hb2s := hb2.size
        clear hb1
        have hw4 : IntKind.i64.wrap ((e' : Int) + n') = (e' : Int) + n' := IntWalk.i64_in _ (by omega)
        have hw5 : (0 : Int) ≤ (e' : Int) + n' := by omega
        have hw6 : ((e' : Int) + n').toNat = e' + n' := by omega
        have hw7 : (e' : Int) ≤ (e' : Int) + n' := by omega
        have hw8 : (e' : Int) + n' ≤ s.size := by omega
        go_wp2_with fail
        refine wp_region_still_tail 15 (by kernel_rfl) (by kernel_rfl) ?_
        change wpStill _ _ (World.drew _) (fun a' => wpList _ _ _ _ a' (World.drew _)) _ _
        simp only [List.take_succ_cons, List.take_zero, List.drop_succ_cons, List.drop_zero]
        repeat still_step
        refine wpStill_nil ?_
        have HU2 : Hid (gtV s a = .agg #[.string (s.extract e' (e' + n')), .int .i64 ((e' : Int) + n'), .int .i64 0]) := by
          refine Lib.hid ?_
          rw [HU.out, hw6, Int.toNat_natCast]
        clear hw4 hw5 hw6 hw7 hw8
        go_wp2
        exact bodyPost_ret (v := .agg #[.string (s.extract e' (e' + n')), .int .i64 ((e' : Int) + n'), .int .i64 0]) (by simp [results, Tryz.results22, go_sem, hc1, hz]) rfl ⟨by rw [HU2.out], ((((hb2.setCell (Nat.le_refl _) _).setCell (Nat.le_refl _) _).setCell (Nat.le_refl _) _).alloc (by simpa [World.setCell] using hb2s) _).drew⟩
  · have HU := Lib.hid (gt_code hg hc)
    have hcb1 : (c == 0) = false := by rw [beq_eq_false_iff_ne]; exact hc
    have hcb2 : (c != 0) = true := by rw [bne_iff_ne]; exact hc
    have HC := Lib.hid hc
    clear hg hc
    go_enter Tryz.func22, Tryz.ntmps22
    go_wp2_with fail
    refine (HN.out _).mono ?_
    rintro ev w1 ⟨rfl, hb1⟩
    obtain ⟨hc1, hf1⟩ := bcell hb1
    have hz : w.heap.size < w1.heap.size := by have := hb1.size; simp at this; omega
    have hb2 : Below w.heap.size w w1 := ((Below.refl _ _).alloc (Nat.le_refl _) _).trans (hb1.mono (by simp))
    have hb2s := hb2.size
    clear hb1
    go_wp2_with fail
    exact bodyPost_ret (v := .agg #[.string ⟨#[]⟩, .int .i64 (0), .int .i64 c]) (by simp [results, Tryz.results22, go_sem, hc1, hz]) rfl ⟨by rw [HU.out], (((hb2.setCell (Nat.le_refl _) _).setCell (Nat.le_refl _) _).setCell (Nat.le_refl _) _).alloc (by simpa [World.setCell] using hb2s) _⟩

end Go.Proofs.YtkmlnibkdcdegaaGreatDoor.Gn

/-
  The Go functions impl.PutNum and spec.PutNum answer the same bytes for every int64, and the law over them answers true.
  No condition.
-/
namespace Go.Proofs.YtkmlnibkdcdegaaGreatDoor.Num
open Go.ChangeShapes Go.WideShapes Go.ChangeAt Go.RowKit
set_option linter.unusedVariables false
set_option maxRecDepth 100000

/-- A number's bytes, of at most f + 1. -/
def vb : Nat → Int → List UInt8
  | 0, u => [UInt8.ofNat u.toNat]
  | f + 1, u => if u < 128 then [UInt8.ofNat u.toNat] else UInt8.ofNat (u % 128 + 128).toNat :: vb f (u / 128)
def foldI (n : Int) : Int := if n < 0 then -2 * n - 1 else 2 * n
/-- What PutNum answers. -/
def putB (n : Int) : List UInt8 := vb 9 (foldI n)
def putS (n : Int) : ByteArray := ⟨(putB n).toArray⟩
def bnd (k : Nat) : Int := 2 * 128 ^ (9 - k)

theorem vb_small (f : Nat) {u : Int} (h : u < 128) : vb f u = [UInt8.ofNat u.toNat] := by
  cases f with
  | zero => rfl
  | succ f => simp [vb, h]
theorem vb_big (f : Nat) {u : Int} (h : 128 ≤ u) : vb (f + 1) u = UInt8.ofNat (u % 128 + 128).toNat :: vb f (u / 128) := by
  simp [vb, show ¬ u < 128 by omega]
theorem vb_length (f : Nat) : ∀ u : Int, 1 ≤ (vb f u).length ∧ (vb f u).length ≤ f + 1 := by
  induction f with
  | zero => intro u; simp [vb]
  | succ f ih =>
    intro u
    by_cases h : u < 128
    · rw [vb_small _ h]; simp
    · rw [vb_big _ (by omega)]; have := ih (u / 128); simp; omega
theorem putS_size (n : Int) : 1 ≤ (putS n).size ∧ (putS n).size ≤ 10 := by
  have h : (putS n).size = (vb 9 (foldI n)).length := by simp [putS, putB, ByteArray.size]
  have := vb_length 9 (foldI n); omega
theorem bnd_zero : bnd 0 = 18446744073709551616 := by decide
theorem bnd_nine : bnd 9 = 2 := by decide
theorem bnd_step {k : Nat} {r : Int} (hk : k < 9) (h : r < bnd k) : r / 128 < bnd (k + 1) := by
  have e : bnd k = bnd (k + 1) * 128 := by
    unfold bnd
    rw [show 9 - k = (9 - (k + 1)) + 1 by omega, Int.pow_succ, Int.mul_assoc]
  rw [e] at h
  exact Int.ediv_lt_of_lt_mul (by omega) h
theorem bnd_le (k : Nat) (hk : k ≤ 9) : bnd k ≤ 18446744073709551616 := by
  rcases (by omega : k = 0 ∨ k = 1 ∨ k = 2 ∨ k = 3 ∨ k = 4 ∨ k = 5 ∨ k = 6 ∨ k = 7 ∨ k = 8 ∨ k = 9) with h | h | h | h | h | h | h | h | h | h <;> subst h <;> decide
theorem lt_nine {k : Nat} {r : Int} (hk : k ≤ 9) (h : r < bnd k) (h1 : 128 ≤ r) : k < 9 := by
  rcases Nat.lt_or_ge k 9 with h9 | h9
  · exact h9
  · have : k = 9 := by omega
    subst this; rw [bnd_nine] at h; omega
theorem foldI_range {n : Int} (h0 : -9223372036854775808 ≤ n) (h1 : n ≤ 9223372036854775807) : 0 ≤ foldI n ∧ foldI n < 18446744073709551616 := by
  unfold foldI; split <;> omega
theorem wrap_u64_eq (n : Int) : IntKind.u64.wrap n = n % 18446744073709551616 := by simp [IntKind.wrap, IntKind.bits, IntKind.signed]
theorem xor_ones (x : Int) (h0 : 0 ≤ x) (h1 : x < 18446744073709551616) : bits .xor .u64 x 18446744073709551615 = 18446744073709551615 - x := by
  obtain ⟨a, rfl⟩ := Int.eq_ofNat_of_zero_le h0
  have ho : BitVec.ofInt 64 (18446744073709551615 : Int) = BitVec.allOnes 64 := by decide
  show IntKind.u64.wrap ((BitVec.ofInt 64 (a : Int) ^^^ BitVec.ofInt 64 (18446744073709551615 : Int)).toNat : Int) = _
  rw [ho, BitVec.xor_allOnes, BitVec.toNat_not, ofInt_u64 a (by omega), wrap_u64_eq]
  omega
theorem xor_zero64 (x : Int) (h0 : 0 ≤ x) (h1 : x < 18446744073709551616) : bits .xor .u64 x 0 = x := by
  obtain ⟨a, rfl⟩ := Int.eq_ofNat_of_zero_le h0
  have := u64_xor_nat a 0 (by omega) (by decide)
  simpa using this
theorem implFold (n : Int) (h0 : -9223372036854775808 ≤ n) (h1 : n ≤ 9223372036854775807) :
    bits BinOp.xor IntKind.u64 (IntKind.u64.wrap (IntKind.u64.wrap n * 2)) (IntKind.u64.wrap (n / 9223372036854775808)) = foldI n := by
  unfold foldI
  by_cases h : n < 0
  · rw [if_pos h]
    have e1 : IntKind.u64.wrap (n / 9223372036854775808) = 18446744073709551615 := by rw [wrap_u64_eq]; omega
    have e2 : IntKind.u64.wrap (IntKind.u64.wrap n * 2) = (2 * n) % 18446744073709551616 := by rw [wrap_u64_eq, wrap_u64_eq]; omega
    rw [e1, e2, xor_ones _ (by omega) (by omega)]
    omega
  · rw [if_neg h]
    have e1 : IntKind.u64.wrap (n / 9223372036854775808) = 0 := by rw [wrap_u64_eq]; omega
    have e2 : IntKind.u64.wrap (IntKind.u64.wrap n * 2) = 2 * n := by rw [wrap_u64_eq, wrap_u64_eq]; omega
    rw [e1, e2, xor_zero64 _ (by omega) (by omega)]
theorem implByte (r : Int) (h0 : 0 ≤ r) (h1 : r < 18446744073709551616) :
    bits BinOp.or IntKind.u8 (bits BinOp.and IntKind.u64 r 127 % 256) 128 = r % 128 + 128 := by
  obtain ⟨a, rfl⟩ := Int.eq_ofNat_of_zero_le h0
  have e1 := u64_and_nat a 127 (by omega) (by decide)
  have e2 : a &&& 127 = a % 128 := Nat.and_two_pow_sub_one_eq_mod a 7
  rw [e2] at e1
  have e3 : bits BinOp.and IntKind.u64 ((a : Nat) : Int) 127 = ((a % 128 : Nat) : Int) := e1
  rw [e3]
  have e4 : (((a % 128 : Nat) : Int) % 256) = ((a % 128 : Nat) : Int) := by omega
  rw [e4]
  have e5 := u8_or_nat (a % 128) 128 (by omega) (by decide)
  have e6 : (a % 128) ||| 128 = 128 + a % 128 := by
    have := Nat.two_pow_add_eq_or_of_lt (i := 7) (b := a % 128) (by omega) 1
    rw [Nat.or_comm]
    simpa using this.symm
  rw [e6] at e5
  have e7 : bits BinOp.or IntKind.u8 ((a % 128 : Nat) : Int) 128 = ((128 + a % 128 : Nat) : Int) := e5
  rw [e7]; omega
theorem list10 {α : Type} (l : List α) (h : l.length = 10) : ∃ c0 c1 c2 c3 c4 c5 c6 c7 c8 c9, l = [c0, c1, c2, c3, c4, c5, c6, c7, c8, c9] := by
  match l, h with
  | [c0, c1, c2, c3, c4, c5, c6, c7, c8, c9], _ => exact ⟨_, _, _, _, _, _, _, _, _, _, rfl⟩
def byteV (b : UInt8) : Value := .int .u8 (b.toNat : Int)
theorem byteV_of {x : Int} (h0 : 0 ≤ x) (h1 : x < 256) : byteV (UInt8.ofNat x.toNat) = .int .u8 x := by
  have : ((UInt8.ofNat x.toNat).toNat : Int) = x := by
    rw [UInt8.toNat_ofNat']
    omega
  unfold byteV; rw [this]
theorem ret_u64 {a b : Int} (h : a = b) : Ending.returned (.int .u64 a) = .returned (.int .u64 b) := by rw [h]
theorem ret_str {a b : ByteArray} (h : a = b) : Ending.returned (.string a) = .returned (.string b) := by rw [h]

theorem fold_any (n : Int) (w : World) (h0 : -9223372036854775808 ≤ n) (h1 : n ≤ 9223372036854775807) :
    Calls Tryz.prog 57 #[.int .i64 n] w fun e w' => e = .returned (.int .u64 (foldI n)) ∧ w = w' := by
  by_cases h : n < 0
  · go_enter Tryz.func57, Tryz.ntmps57
    go_wp2
    go_ret
    exact ⟨ret_u64 (by unfold foldI; rw [if_pos (by omega)]; omega), rfl⟩
  · go_enter Tryz.func57, Tryz.ntmps57
    go_wp2
    go_ret
    exact ⟨ret_u64 (by unfold foldI; rw [if_neg (by omega)]), rfl⟩

/-- What the round of impl.PutNum knows. -/
theorem set_take {α : Type} (l : List α) (k : Nat) (v : α) (h : k < l.length) : (l.set k v).take (k + 1) = l.take k ++ [v] := by
  rw [List.take_succ_eq_append_getElem (by simpa using h), List.take_set, List.set_eq_of_length_le (by simp; omega)]
  simp

theorem sizeU8 (w : World) : (sizeOf 5).run Tryz.prog w = .ok 1 w := by kernel_rfl
theorem len10 : Tryz.prog.arrayLen 89 = 10 := by kernel_rfl
theorem elem10 : Tryz.prog.elem 89 = 5 := by kernel_rfl
theorem slice10 (b k : Nat) (hk : k < 10) (W : World) :
    (Instr.sliceAt 89 (.pointer (some ⟨b, 0, none⟩)) none (some (.int .i64 ((k : Int) + 1))) none).run Tryz.prog W = .ok (.slice (some ⟨b, 0, none⟩) (k + 1) 10) W := by
  have ht : Tryz.prog.underlying 89 = some (.array (Tryz.prog.arrayLen 89) (Tryz.prog.elem 89)) := by kernel_rfl
  rw [run_sliceAt_array_h W 89 ⟨b, 0, none⟩ ht .i64 ((k : Int) + 1) (by omega) (by rw [len10]; omega), elem10, sizeU8, len10]
  have e : ((k : Int) + 1).toNat = k + 1 := by omega
  simp [slicedAt, Result.andThen, e, Addr.add]

set_option maxHeartbeats 1000000 in
theorem implPutNum_any (n : Int) (w : World) (h0 : -9223372036854775808 ≤ n) (h1 : n ≤ 9223372036854775807) :
    Calls Tryz.prog 39 #[.int .i64 n] w fun e w' => e = .returned (.string (putS n)) ∧ Below w.heap.size w w' := by
  go_enter Tryz.func39, Tryz.ntmps39
  go_wp2
  go_loopw [3, 5] (fun x i wr => ∃ k : Nat, k ≤ 9 ∧ i = .int .i64 k ∧ ∃ r : Int, 0 ≤ r ∧ r < 18446744073709551616 ∧ x = .int .u64 r ∧ ∃ c0 c1 c2 c3 c4 c5 c6 c7 c8 c9 : Value, ∃ acc : List UInt8,
      wr = w.alloc (.cells #[c0, c1, c2, c3, c4, c5, c6, c7, c8, c9] 89) ∧ Hid (r < bnd k ∧ acc ++ vb (9 - k) r = putB n ∧ acc.length = k ∧ [c0, c1, c2, c3, c4, c5, c6, c7, c8, c9].take k = acc.map byteV)) (fun _ i _ => 9 - (intOf i).toNat)
  case atStart =>
    have hr := foldI_range h0 h1
    refine ⟨0, by omega, rfl, foldI n, hr.1, hr.2, by rw [implFold n h0 h1], _, _, _, _, _, _, _, _, _, _, [], rfl, Lib.hid ⟨?_, rfl, rfl, rfl⟩⟩
    rw [bnd_zero]; exact hr.2
  case round =>
    obtain ⟨k, hk, rfl, r, hr0, hr1, rfl, c0, c1, c2, c3, c4, c5, c6, c7, c8, c9, acc, rfl, HR⟩ := hrel
    by_cases hlt : 128 ≤ r
    · have hk9 : k < 9 := lt_nine hk HR.out.1 hlt
      go_wp2
      go_roundw
      case rel =>
        obtain ⟨d0, d1, d2, d3, d4, d5, d6, d7, d8, d9, hd⟩ := list10 ([c0, c1, c2, c3, c4, c5, c6, c7, c8, c9].set k (Value.int IntKind.u8 (bits BinOp.or IntKind.u8 (bits BinOp.and IntKind.u64 r 127 % 256) 128))) (by simp)
        refine ⟨k + 1, by omega, by go_num, _, by omega, by omega, rfl, d0, d1, d2, d3, d4, d5, d6, d7, d8, d9, acc ++ [UInt8.ofNat (r % 128 + 128).toNat], by rw [hd], Lib.hid ⟨bnd_step hk9 HR.out.1, ?_, ?_, ?_⟩⟩
        · rw [List.append_assoc, ← HR.out.2.1, show 9 - k = (9 - (k + 1)) + 1 by omega, vb_big _ hlt]; rfl
        · rw [List.length_append, HR.out.2.2.1]; rfl
        · rw [← hd, set_take _ _ _ (by simp; omega), HR.out.2.2.2, List.map_append, implByte r hr0 hr1]
          simp only [List.map_cons, List.map_nil]
          rw [byteV_of (by omega) (by omega)]
      case measure => simp [intOf]; omega
    · have hk10 : k < 10 := by omega
      have hfin : putB n = acc ++ [UInt8.ofNat r.toNat] := by rw [← HR.out.2.1, vb_small _ (by omega)]
      have hc : ∀ W : World, W = w.alloc (.cells ([c0, c1, c2, c3, c4, c5, c6, c7, c8, c9].set k (Value.int IntKind.u8 r)).toArray 89) →
          ∀ j (hj : j < (acc ++ [UInt8.ofNat r.toNat]).length), W.cell? ((⟨w.heap.size, 0, none⟩ : Addr).add j) = some (.int .u8 ((acc ++ [UInt8.ofNat r.toNat])[j].toNat : Int)) := by
        rintro W rfl j hj
        have hadd : (⟨w.heap.size, 0, none⟩ : Addr).add j = ⟨w.heap.size, j, none⟩ := by unfold Addr.add; split <;> simp_all
        rw [hadd, cell_of_row _ w.heap.size j _ _ (0, 0) (heap_alloc_new w _)]
        have e1 : ([c0, c1, c2, c3, c4, c5, c6, c7, c8, c9].set k (Value.int IntKind.u8 r)).take (k + 1) = (acc ++ [UInt8.ofNat r.toNat]).map byteV := by
          rw [set_take _ _ _ (by simp; omega), HR.out.2.2.2, List.map_append]
          simp only [List.map_cons, List.map_nil]
          rw [byteV_of (by omega) (by omega)]
        have hl : (acc ++ [UInt8.ofNat r.toNat]).length = k + 1 := by rw [List.length_append, HR.out.2.2.1]; rfl
        have e2 : ([c0, c1, c2, c3, c4, c5, c6, c7, c8, c9].set k (Value.int IntKind.u8 r))[j]? = (([c0, c1, c2, c3, c4, c5, c6, c7, c8, c9].set k (Value.int IntKind.u8 r)).take (k + 1))[j]? := by
          rw [List.getElem?_take_of_lt (by omega)]
        show ([c0, c1, c2, c3, c4, c5, c6, c7, c8, c9].set k (Value.int IntKind.u8 r)).toArray[j]? = _
        rw [List.getElem?_toArray, e2, e1, List.getElem?_map, List.getElem?_eq_getElem hj]
        rfl
      have hconv : ∀ cap : Nat, (convert 73 9 (.slice (some ⟨w.heap.size, 0, none⟩) (k + 1) cap)).run Tryz.prog (w.alloc (.cells ([c0, c1, c2, c3, c4, c5, c6, c7, c8, c9].set k (Value.int IntKind.u8 r)).toArray 89))
          = .ok (.string ⟨(acc ++ [UInt8.ofNat r.toNat]).toArray⟩) (w.alloc (.cells ([c0, c1, c2, c3, c4, c5, c6, c7, c8, c9].set k (Value.int IntKind.u8 r)).toArray 89)) := by
        intro cap
        have := run_convert_bytes_back (P := Tryz.prog) (w.alloc (.cells ([c0, c1, c2, c3, c4, c5, c6, c7, c8, c9].set k (Value.int IntKind.u8 r)).toArray 89)) 73 9 5 ⟨w.heap.size, 0, none⟩ cap (acc ++ [UInt8.ofNat r.toNat]) Tryz.underlying73 Tryz.underlying5 Tryz.underlying9 (hc _ rfl)
        rw [show (acc ++ [UInt8.ofNat r.toNat]).length = k + 1 by rw [List.length_append, HR.out.2.2.1]; rfl] at this
        exact this
      have hsl := slice10 w.heap.size k hk10
      have HF := Lib.hid hfin
      clear hfin hc
      go_wp2
      go_ret
      exact ⟨ret_str (by unfold putS; rw [HF.out]), (Below.refl _ _).alloc (Nat.le_refl _) _⟩

theorem infoU8 : (Tryz.prog.info? 5).map (fun i => (i.zero, i.size, i.bytes)) = some (some (.int .u8 0), 1, 1) := by kernel_rfl

/-- 'string(b)' of a slice of bytes that the call owns. -/
theorem conv_own {w : World} {base : Nat} {v : Value} {n : Nat} {l : List UInt8} (h : w.ownsRow base 5 1 v n (l.map byteV)) :
    (convert 73 9 v).run Tryz.prog w = .ok (.string ⟨l.toArray⟩) w := by
  have hn : n = l.length := by have := h.1; simpa using this.symm
  subst hn
  rcases h.2 with ⟨rfl, h0⟩ | ⟨g, cap, cur, rfl, hb, hg, hle, hm, hs, ht⟩
  · have : l = [] := List.eq_nil_of_length_eq_zero h0
    subst this
    exact run_convert_bytes_nil w 73 5 Tryz.underlying73 Tryz.underlying5 0 0 _ Tryz.underlying9
  · exact run_convert_bytes_back (P := Tryz.prog) w 73 9 5 ⟨g, 0, none⟩ cap l Tryz.underlying73 Tryz.underlying5 Tryz.underlying9 (fun j hj => by
      have := h.cells (g := g) rfl j (byteV l[j]) (by rw [List.getElem?_map, List.getElem?_eq_getElem hj]; rfl)
      exact this)

set_option maxHeartbeats 1000000 in
theorem specPutNum_any (n : Int) (w : World) (h0 : -9223372036854775808 ≤ n) (h1 : n ≤ 9223372036854775807) :
    Calls Tryz.prog 27 #[.int .i64 n] w fun e w' => e = .returned (.string (putS n)) ∧ Below w.heap.size w w' := by
  have hfr := foldI_range h0 h1
  obtain ⟨i0, hi, hz0, hz1, hz2⟩ := info_parts infoU8
  go_enter Tryz.func27, Tryz.ntmps27
  go_wp2_with (go_at_call 57; refine (fold_any _ _ h0 h1).mono ?_; rintro e w' ⟨rfl, rfl⟩)
  go_loopw [3, 4] (fun x v wr => ∃ r : Int, 0 ≤ r ∧ r < 18446744073709551616 ∧ x = .int .u64 r ∧ ∃ acc : List UInt8, wr.ownsRow w.heap.size 5 1 v acc.length (acc.map byteV) ∧
      Hid (acc.length ≤ 9 ∧ r < bnd acc.length ∧ acc ++ vb (9 - acc.length) r = putB n) ∧ Below w.heap.size w wr) (fun x _ _ => (intOf x).toNat)
  case atStart =>
    refine ⟨foldI n, hfr.1, hfr.2, rfl, [], World.ownsRow_made w #[] 0 (Nat.le_refl _) (by unfold maxLen; omega) rfl, Lib.hid ⟨by simp, ?_, rfl⟩, (Below.refl _ _).alloc (Nat.le_refl _) _⟩
    show foldI n < bnd 0
    rw [bnd_zero]; exact hfr.2
  case round =>
    obtain ⟨r, hr0, hr1, rfl, acc, hown, HR, hbel⟩ := hrel
    have HL := Lib.hid hown.lt
    by_cases hlt : 128 ≤ r
    · have hl9 : acc.length < 9 := lt_nine HR.out.1 HR.out.2.1 hlt
      go_wp2_with (at_builtin; refine wpList_append_own _ rfl _ _ 73 rfl w.heap.size 5 i0 (.int .u8 0) 1 1 Tryz.underlying73 hi hz0 hz1 hz2 rfl (by decide) _ _ _ rfl (hown.alloc _) ⟨wr.heap.size, 0, none⟩ 1 1 [.int .u8 (r % 128 + 128)] rfl rfl ?c1 ?c2 ?c3 ?c4 ?c5 ?_)
      case c1 =>
        intro j u hj
        match j, hj with
        | 0, hj => simp at hj; subst hj; simp [Addr.add]
      case c2 => intro u hu; simp at hu; subst hu; rfl
      case c3 => unfold maxLen; omega
      case c4 => omega
      case c5 => have := hbel.size; simp; omega
      intro v' w1 hown' hgrow _
      have hb1 : Below w.heap.size w w1 := (hbel.alloc hbel.size _).grown hgrow (by have := hbel.size; simp; omega) (fun k hk => (HL.out k hk).1)
      have hown2 : w1.ownsRow w.heap.size 5 1 v' (acc ++ [UInt8.ofNat (r % 128 + 128).toNat]).length ((acc ++ [UInt8.ofNat (r % 128 + 128).toNat]).map byteV) := by
        rw [List.map_append, List.length_append]
        simp only [List.map_cons, List.map_nil, List.length_cons, List.length_nil]
        rw [byteV_of (by omega) (by omega)]
        exact hown'
      clear hown hbel hgrow hown'
      go_wp2
      go_roundw
      case rel =>
        refine ⟨r / 128, by omega, by omega, rfl, _, hown2, Lib.hid ⟨by simp; omega, ?_, ?_⟩, hb1⟩
        · rw [List.length_append]; exact bnd_step hl9 HR.out.2.1
        · rw [List.append_assoc, ← HR.out.2.2, List.length_append, show 9 - acc.length = (9 - (acc.length + [UInt8.ofNat (r % 128 + 128).toNat].length)) + 1 by simp; omega, vb_big _ hlt]; rfl
      case measure => simp [intOf]; omega
    · have HF : Hid (putB n = acc ++ [UInt8.ofNat r.toNat]) := by exact Lib.hid (by rw [← HR.out.2.2, vb_small _ (by omega)])
      have hl9 := HR.out.1
      go_wp2_with (at_builtin; refine wpList_append_own _ rfl _ _ 73 rfl w.heap.size 5 i0 (.int .u8 0) 1 1 Tryz.underlying73 hi hz0 hz1 hz2 rfl (by decide) _ _ _ rfl (hown.alloc _) ⟨wr.heap.size, 0, none⟩ 1 1 [.int .u8 r] rfl rfl ?d1 ?d2 ?d3 ?d4 ?d5 ?_)
      case d2 => rfl
      case d3 => unfold maxLen; omega
      case d4 => omega
      case d5 => have := hbel.size; omega
      intro v' w1 hown' hgrow _
      have hb1 : Below w.heap.size w w1 := (hbel.alloc hbel.size _).grown hgrow (by have := hbel.size; simp; omega) (fun k hk => (HL.out k hk).1)
      have hown2 : w1.ownsRow w.heap.size 5 1 v' (acc.length + 1) ((acc ++ [UInt8.ofNat r.toNat]).map byteV) := by
        rw [List.map_append]
        simp only [List.map_cons, List.map_nil]
        rw [byteV_of (by omega) (by omega)]
        exact hown'
      have hconv := conv_own hown2
      clear hown hbel hgrow hown' hown2
      go_wp2
      go_ret
      exact ⟨ret_str (by unfold putS; rw [HF.out]), hb1⟩
end Go.Proofs.YtkmlnibkdcdegaaGreatDoor.Num

/-
  The Go functions impl.PutText and spec.PutText answer the same bytes for every string, and the law over them answers true.
  No condition beside the form's own bound on a string's length.
-/
namespace Go.Proofs.YtkmlnibkdcdegaaGreatDoor.Text
open Go.ChangeShapes Go.WideShapes Go.ChangeAt Go.RowKit
set_option linter.unusedVariables false
set_option maxRecDepth 100000

/-- What PutText answers. -/
def putT (s : ByteArray) : ByteArray := if s.size ≤ 8000 then ⟨(Num.putB s.size ++ s.data.toList).toArray⟩ else ⟨#[]⟩
theorem ret_str {a b : ByteArray} (h : a = b) : Ending.returned (.string a) = .returned (.string b) := by rw [h]
theorem flat2 (a b : ByteArray) : Join.flat [a, b] = a.data.toList ++ b.data.toList := by simp [Join.flat]
theorem flat1 (a : ByteArray) : Join.flat [a] = a.data.toList := by simp [Join.flat]
theorem put_cells (a b : ByteArray) (w : World) (t : TypeId) : ∀ k (h : k < [a, b].length), (w.alloc (.cells #[.string a, .string b] t)).cell? ⟨w.heap.size, k, none⟩ = some (.string [a, b][k]) := by
  intro k h
  rw [cell_of_row _ w.heap.size k _ _ (0, 0) (heap_alloc_new w _)]
  match k, h with
  | 0, _ => rfl
  | 1, _ => rfl
theorem one_cell (a : ByteArray) (w : World) (t : TypeId) : ∀ k (h : k < [a].length), (w.alloc (.cells #[.string a] t)).cell? ⟨w.heap.size, k, none⟩ = some (.string [a][k]) := by
  intro k h
  rw [cell_of_row _ w.heap.size k _ _ (0, 0) (heap_alloc_new w _)]
  match k, h with
  | 0, _ => rfl

set_option maxHeartbeats 400000 in
theorem implPutText_any (s : ByteArray) (w : World) (hs : s.size ≤ maxLen) :
    Calls Tryz.prog 40 #[.string s] w fun e w' => e = .returned (.string (putT s)) ∧ Below w.heap.size w w' := by
  have hm := hs
  unfold maxLen at hm
  by_cases h : s.size ≤ 8000
  · have HT : Hid (putT s = ⟨(Join.flat [Num.putS s.size, s]).toArray⟩) := by
      refine Lib.hid ?_
      unfold putT
      rw [if_pos h, flat2]; simp [Num.putS]
    have hz := Num.putS_size s.size
    go_enter Tryz.func40, Tryz.ntmps40
    go_wp2_with (go_at_call 39; refine (Num.implPutNum_any _ _ (by omega) (by omega)).mono ?_; rintro e w1 ⟨rfl, hb1⟩)
    have hb2 : Below w.heap.size w (w1.alloc (.cells #[.string (Num.putS s.size), .string s] 9)) := hb1.alloc hb1.size _
    refine (Join.joined_any [Num.putS s.size, s] w1.heap.size _ (by simp) (by simp) (by rw [flat2, List.length_append, Join.size_len, Join.size_len]; omega) (put_cells _ _ _ _)).mono ?_
    rintro e w2 ⟨rfl, hb3⟩
    go_wp2_with fail
    go_ret
    exact ⟨ret_str HT.out.symm, hb2.trans (hb3.mono (by have := hb1.size; simp; omega))⟩
  · have HT : Hid (putT s = ⟨#[]⟩) := by exact Lib.hid (by unfold putT; rw [if_neg h])
    go_enter Tryz.func40, Tryz.ntmps40
    go_wp2_with fail
    go_ret
    exact ⟨ret_str HT.out.symm, Below.refl _ _⟩

set_option maxHeartbeats 400000 in
theorem specPutText_any (s : ByteArray) (w : World) (hs : s.size ≤ maxLen) :
    Calls Tryz.prog 25 #[.string s] w fun e w' => e = .returned (.string (putT s)) ∧ Below w.heap.size w w' := by
  have hm := hs
  unfold maxLen at hm
  by_cases h : s.size ≤ 8000
  · have HT : Hid (putT s = Num.putS s.size ++ s) := by
      refine Lib.hid ?_
      unfold putT
      rw [if_pos h]
      apply ByteArray.ext
      apply Array.toList_inj.1
      simp [Num.putS]
    go_enter Tryz.func25, Tryz.ntmps25
    go_wp2_with fail
    refine (Num.specPutNum_any _ _ (by omega) (by omega)).mono ?_
    rintro e w1 ⟨rfl, hb1⟩
    have hz := Num.putS_size s.size
    generalize Num.putS s.size = p at *
    have hz2 := hz.2
    clear hz
    go_wp2_with fail
    go_ret
    exact ⟨ret_str HT.out.symm, hb1⟩
  · have HT : Hid (putT s = ⟨#[]⟩) := by exact Lib.hid (by unfold putT; rw [if_neg h])
    go_enter Tryz.func25, Tryz.ntmps25
    go_wp2_with fail
    go_ret
    exact ⟨ret_str HT.out.symm, Below.refl _ _⟩
end Go.Proofs.YtkmlnibkdcdegaaGreatDoor.Text

/-
  A number comes back from its bytes, with the place behind them; of bytes that end too early nothing comes back; and so a text. Plain facts on bytes; no Go text is walked here.
-/
namespace Go.Proofs.YtkmlnibkdcdegaaGreatDoor.Gn
open Go.ChangeShapes Go.WideShapes Go.ChangeAt Go.RowKit
set_option linter.unusedVariables false
set_option maxRecDepth 100000

theorem ofNat_toNat {x : Int} (h0 : 0 ≤ x) (h1 : x < 256) : ((UInt8.ofNat x.toNat).toNat : Int) = x := by
  rw [UInt8.toNat_ofNat_of_lt' (by show x.toNat < 256; omega)]; omega
theorem pow_pos (k : Nat) : (0 : Int) < 128 ^ k := Int.pow_pos (by decide)
/-- A number's bytes are read whole. -/
theorem rd_vb (f : Nat) : ∀ (k : Nat) (v u a : Int) (rest : List UInt8), k + f = 9 → 0 ≤ v → v < Num.bnd k → (0 < k → 1 ≤ v) →
    rd (f + 1) (Num.vb f v ++ rest) k u a = (val (u + v * 128 ^ k), a + (Num.vb f v).length, 0) := by
  induction f with
  | zero =>
    intro k v u a rest hk h0 h1 h2
    obtain rfl : k = 9 := by omega
    rw [Num.bnd_nine] at h1
    have hv : v = 1 := by have := h2 (by omega); omega
    subst hv
    have hc : (UInt8.ofNat (1 : Int).toNat).toNat = 1 := by decide
    show rd 1 (UInt8.ofNat (1 : Int).toNat :: rest) 9 u a = _
    rw [rd_val 0 rest 9 u a (by rw [hc]; omega) (by rw [hc]; omega) (by rw [hc]; omega), hc]
    rfl
  | succ f ih =>
    intro k v u a rest hk h0 h1 h2
    by_cases hv : v < 128
    · have hc := ofNat_toNat h0 (by omega)
      rw [Num.vb_small _ hv]
      show rd (f + 1 + 1) (UInt8.ofNat v.toNat :: rest) k u a = _
      rw [rd_val (f + 1) rest k u a (by omega) (by rintro ⟨x, y⟩; have := h2 y; omega) (by omega), hc]
      have hm : v % 128 = v := by omega
      rw [hm]; rfl
    · have hc := ofNat_toNat (show 0 ≤ v % 128 + 128 by omega) (by omega)
      rw [Num.vb_big _ (by omega)]
      show rd (f + 1 + 1) (UInt8.ofNat (v % 128 + 128).toNat :: (Num.vb f (v / 128) ++ rest)) k u a = _
      rw [rd_next (f + 1) _ k u a (by omega) (by omega), hc, ih (k + 1) (v / 128) _ _ rest (by omega) (by omega) (Num.bnd_step (by omega) h1) (by omega)]
      have hm : (v % 128 + 128) % 128 = v % 128 := by omega
      have hp : u + (v % 128 + 128) % 128 * 128 ^ k + v / 128 * 128 ^ (k + 1) = u + v * 128 ^ k := by
        rw [hm, Int.pow_succ]
        generalize (128 : Int) ^ k = q
        have e : v * q = (128 * (v / 128) + v % 128) * q := by rw [Int.mul_ediv_add_emod]
        rw [e, Int.add_mul, Int.add_assoc]
        congr 1
        rw [Int.add_comm]
        congr 1
        rw [Int.mul_comm 128 (v / 128), Int.mul_assoc, Int.mul_comm 128 q]
      rw [hp]
      simp only [List.length_cons, Prod.mk.injEq, and_true, true_and]
      omega
/-- A number's bytes without the last. -/
theorem rd_cut (f : Nat) : ∀ (k : Nat) (v u a : Int), k + f = 9 → 0 ≤ v → rd (f + 1) (Num.vb f v).dropLast k u a = (0, 0, 4) := by
  induction f with
  | zero => intro k v u a hk h0; rfl
  | succ f ih =>
    intro k v u a hk h0
    by_cases hv : v < 128
    · rw [Num.vb_small _ hv]; rfl
    · have hc := ofNat_toNat (show 0 ≤ v % 128 + 128 by omega) (by omega)
      have hl := (Num.vb_length f (v / 128)).1
      rw [Num.vb_big _ (by omega), List.dropLast_cons_of_ne_nil (by intro e; rw [e] at hl; simp at hl), rd_next (f + 1) _ k u a (by omega) (by omega), ih (k + 1) (v / 128) _ _ (by omega) (by omega)]
theorem val_fold (n : Int) : val (Num.foldI n) = n := by
  unfold val Num.foldI
  split <;> split <;> omega
theorem rd_put (n : Int) (h0 : -9223372036854775808 ≤ n) (h1 : n ≤ 9223372036854775807) (a : Int) (rest : List UInt8) :
    rd 10 (Num.putB n ++ rest) 0 0 a = (n, a + (Num.putB n).length, 0) := by
  have hr := Num.foldI_range h0 h1
  unfold Num.putB
  rw [rd_vb 9 0 _ 0 a rest rfl hr.1 (by rw [Num.bnd_zero]; exact hr.2) (by omega)]
  rw [show (0 : Int) + Num.foldI n * 128 ^ 0 = Num.foldI n by omega, val_fold]
theorem putS_list (n : Int) : (Num.putS n).data.toList = Num.putB n := by simp [Num.putS]
theorem putB_len (n : Int) : (Num.putB n).length = (Num.putS n).size := by rw [← putS_list]; simp
/-- Behind p, ahead of q. -/
theorem gn_at (p q : ByteArray) (n : Int) (h0 : -9223372036854775808 ≤ n) (h1 : n ≤ 9223372036854775807) (hs : p.size + 10 + q.size ≤ 8000) :
    gn (p ++ Num.putS n ++ q) (p.size : Int) = (n, (p.size : Int) + (Num.putS n).size, 0) := by
  have hz := (Num.putS_size n).2
  unfold gn
  rw [if_neg (by simp only [ByteArray.size_append]; omega), if_neg (by omega), Int.toNat_natCast]
  have e : (p ++ Num.putS n ++ q).data.toList.drop p.size = Num.putB n ++ q.data.toList := by
    have e1 : (p ++ Num.putS n ++ q).data.toList = p.data.toList ++ (Num.putB n ++ q.data.toList) := by
      rw [← putS_list]; simp
    have e2 : p.data.toList.length = p.size := by simp
    rw [e1, ← e2, List.drop_left]
  rw [e, rd_put n h0 h1, putB_len]
theorem ext_list (s : ByteArray) (k : Nat) : (s.extract 0 k).data.toList = s.data.toList.take k := by simp
theorem ext_mid (s : ByteArray) (i k : Nat) : (s.extract i (i + k)).data.toList = (s.data.toList.drop i).take k := by
  rw [ByteArray.data_extract, Array.toList_extract, List.extract_eq_take_drop, Nat.add_sub_cancel_left]
theorem gn_cut (n : Int) (h0 : -9223372036854775808 ≤ n) (h1 : n ≤ 9223372036854775807) : gn ((Num.putS n).extract 0 ((Num.putS n).size - 1)) 0 = (0, 0, 4) := by
  have hz := (Num.putS_size n).2
  have hl : ((Num.putS n).extract 0 ((Num.putS n).size - 1)).data.toList = (Num.putB n).dropLast := by
    rw [ext_list, putS_list, List.dropLast_eq_take, putB_len]
  unfold gn
  rw [if_neg (by rw [ByteArray.size_extract]; omega), if_neg (by omega)]
  rw [show (0 : Int).toNat = 0 from rfl, List.drop_zero, hl]
  exact rd_cut 9 0 _ 0 0 rfl (Num.foldI_range h0 h1).1

theorem putT_list {u : ByteArray} (h : u.size ≤ 8000) : (Text.putT u).data.toList = Num.putB u.size ++ u.data.toList := by unfold Text.putT; rw [if_pos h]
theorem putT_size {u : ByteArray} (h : u.size ≤ 8000) : (Text.putT u).size = (Num.putB u.size).length + u.size := by
  have e : (Text.putT u).data.toList.length = (Text.putT u).size := by simp
  rw [← e, putT_list h, List.length_append]; simp
theorem ext_bytes {a b : ByteArray} (h : a.data.toList = b.data.toList) : a = b := ByteArray.ext (Array.toList_inj.1 h)
theorem gt_put {u p : ByteArray} (h : u.size ≤ 8000) (hp : p.size + (Text.putT u).size ≤ 8000) :
    gtV (p ++ Text.putT u) (p.size : Int) = .agg #[.string u, .int .i64 ((p.size : Int) + (Text.putT u).size), .int .i64 0] := by
  have hz := putT_size h
  have hl : (p ++ Text.putT u).data.toList = p.data.toList ++ (Num.putB u.size ++ u.data.toList) := by rw [← putT_list h]; simp
  have e2 : p.data.toList.length = p.size := by simp
  have hsz : (p ++ Text.putT u).size = p.size + (Text.putT u).size := by simp
  have hg : gn (p ++ Text.putT u) (p.size : Int) = ((u.size : Int), (p.size : Int) + (Num.putB u.size).length, 0) := by
    unfold gn
    rw [if_neg (by omega), if_neg (by omega), Int.toNat_natCast, hl, ← e2, List.drop_left, rd_put _ (by omega) (by omega)]
  rw [gt_ok hg (by omega) (by omega)]
  have hx : (p ++ Text.putT u).extract ((p.size : Int) + (Num.putB u.size).length).toNat ((p.size : Int) + (Num.putB u.size).length + u.size).toNat = u := by
    apply ext_bytes
    rw [show ((p.size : Int) + (Num.putB u.size).length).toNat = p.size + (Num.putB u.size).length by omega, show ((p.size : Int) + (Num.putB u.size).length + u.size).toNat = p.size + (Num.putB u.size).length + u.size by omega]
    have hu : u.data.toList.length = u.size := by simp
    have hd : (p.data.toList ++ (Num.putB u.size ++ u.data.toList)).drop (p.size + (Num.putB u.size).length) = u.data.toList := by
      rw [← List.append_assoc, ← e2, ← List.length_append, List.drop_left]
    have ht := ext_mid (p ++ Text.putT u) (p.size + (Num.putB u.size).length) u.size
    rw [ht, hl, hd, ← hu, List.take_length]
  rw [hx, show (p.size : Int) + (Num.putB u.size).length + u.size = (p.size : Int) + (Text.putT u).size by omega]
theorem gt_cut {u : ByteArray} (h : u.size ≤ 8000) (hp : (Text.putT u).size ≤ 8000) :
    gtV ((Text.putT u).extract 0 ((Text.putT u).size - 1)) 0 = .agg #[.string ⟨#[]⟩, .int .i64 0, .int .i64 4] := by
  have hz := putT_size h
  have hsz : ((Text.putT u).extract 0 ((Text.putT u).size - 1)).size = (Text.putT u).size - 1 := by rw [ByteArray.size_extract]; omega
  have hl : ((Text.putT u).extract 0 ((Text.putT u).size - 1)).data.toList = (Num.putB u.size ++ u.data.toList).take ((Num.putB u.size).length + u.size - 1) := by rw [ext_list, putT_list h, hz]
  by_cases h0 : u.size = 0
  · have hg : gn ((Text.putT u).extract 0 ((Text.putT u).size - 1)) 0 = (0, 0, 4) := by
      have hu : u.data.toList = [] := List.length_eq_zero_iff.1 (by simpa using h0)
      unfold gn
      rw [if_neg (by omega), if_neg (by omega), show (0 : Int).toNat = 0 from rfl, List.drop_zero, hl, hu, List.append_nil, h0, Nat.add_zero, ← List.dropLast_eq_take]
      exact rd_cut 9 0 _ 0 0 rfl (by decide)
    exact gt_code hg (by omega)
  · have hg : gn ((Text.putT u).extract 0 ((Text.putT u).size - 1)) 0 = ((u.size : Int), (0 : Int) + (Num.putB u.size).length, 0) := by
      unfold gn
      rw [if_neg (by omega), if_neg (by omega), show (0 : Int).toNat = 0 from rfl, List.drop_zero, hl, show (Num.putB u.size).length + u.size - 1 = (Num.putB u.size).length + (u.size - 1) by omega, List.take_length_add_append, rd_put _ (by omega) (by omega)]
    exact gt_short hg (by omega) (by omega)
end Go.Proofs.YtkmlnibkdcdegaaGreatDoor.Gn
