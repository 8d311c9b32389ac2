/-
  The Go functions impl.PutNum and spec.PutNum answer the same bytes for every int64, and the law over them answers true.
  No condition.
-/
import Derived.Test.YtkmlnibkdcdegaaRows
import Derived.WalkKit
import Derived.ProofKit
import Derived.OpenShut
import Derived.ShutString
import Derived.Lib.Hide
namespace Go.Proofs.Ytkmlnibkdcdegaa.Num
open Go.ChangeShapes Go.WideShapes Go.ChangeAt Go.RowKit
set_option linter.unusedVariables false
set_option maxRecDepth 100000

/-- A number's bytes, of at most f + 1. -/
def vb : Nat → Int → List UInt8
  | 0, u => [UInt8.ofNat u.toNat]
  | f + 1, u => if u < 128 then [UInt8.ofNat u.toNat] else UInt8.ofNat (u % 128 + 128).toNat :: vb f (u / 128)
def foldI (n : Int) : Int := if n < 0 then -2 * n - 1 else 2 * n
/-- What PutNum answers. -/
def putB (n : Int) : List UInt8 := vb 9 (foldI n)
def putS (n : Int) : ByteArray := ⟨(putB n).toArray⟩
def bnd (k : Nat) : Int := 2 * 128 ^ (9 - k)

theorem vb_small (f : Nat) {u : Int} (h : u < 128) : vb f u = [UInt8.ofNat u.toNat] := by
  cases f with
  | zero => rfl
  | succ f => simp [vb, h]
theorem vb_big (f : Nat) {u : Int} (h : 128 ≤ u) : vb (f + 1) u = UInt8.ofNat (u % 128 + 128).toNat :: vb f (u / 128) := by
  simp [vb, show ¬ u < 128 by omega]
theorem vb_length (f : Nat) : ∀ u : Int, 1 ≤ (vb f u).length ∧ (vb f u).length ≤ f + 1 := by
  induction f with
  | zero => intro u; simp [vb]
  | succ f ih =>
    intro u
    by_cases h : u < 128
    · rw [vb_small _ h]; simp
    · rw [vb_big _ (by omega)]; have := ih (u / 128); simp; omega
theorem putS_size (n : Int) : 1 ≤ (putS n).size ∧ (putS n).size ≤ 10 := by
  have h : (putS n).size = (vb 9 (foldI n)).length := by simp [putS, putB, ByteArray.size]
  have := vb_length 9 (foldI n); omega
theorem bnd_zero : bnd 0 = 18446744073709551616 := by decide
theorem bnd_nine : bnd 9 = 2 := by decide
theorem bnd_step {k : Nat} {r : Int} (hk : k < 9) (h : r < bnd k) : r / 128 < bnd (k + 1) := by
  have e : bnd k = bnd (k + 1) * 128 := by
    unfold bnd
    rw [show 9 - k = (9 - (k + 1)) + 1 by omega, Int.pow_succ, Int.mul_assoc]
  rw [e] at h
  exact Int.ediv_lt_of_lt_mul (by omega) h
theorem bnd_le (k : Nat) (hk : k ≤ 9) : bnd k ≤ 18446744073709551616 := by
  rcases (by omega : k = 0 ∨ k = 1 ∨ k = 2 ∨ k = 3 ∨ k = 4 ∨ k = 5 ∨ k = 6 ∨ k = 7 ∨ k = 8 ∨ k = 9) with h | h | h | h | h | h | h | h | h | h <;> subst h <;> decide
theorem lt_nine {k : Nat} {r : Int} (hk : k ≤ 9) (h : r < bnd k) (h1 : 128 ≤ r) : k < 9 := by
  rcases Nat.lt_or_ge k 9 with h9 | h9
  · exact h9
  · have : k = 9 := by omega
    subst this; rw [bnd_nine] at h; omega
theorem foldI_range {n : Int} (h0 : -9223372036854775808 ≤ n) (h1 : n ≤ 9223372036854775807) : 0 ≤ foldI n ∧ foldI n < 18446744073709551616 := by
  unfold foldI; split <;> omega
theorem wrap_u64_eq (n : Int) : IntKind.u64.wrap n = n % 18446744073709551616 := by simp [IntKind.wrap, IntKind.bits, IntKind.signed]
theorem xor_ones (x : Int) (h0 : 0 ≤ x) (h1 : x < 18446744073709551616) : bits .xor .u64 x 18446744073709551615 = 18446744073709551615 - x := by
  obtain ⟨a, rfl⟩ := Int.eq_ofNat_of_zero_le h0
  have ho : BitVec.ofInt 64 (18446744073709551615 : Int) = BitVec.allOnes 64 := by decide
  show IntKind.u64.wrap ((BitVec.ofInt 64 (a : Int) ^^^ BitVec.ofInt 64 (18446744073709551615 : Int)).toNat : Int) = _
  rw [ho, BitVec.xor_allOnes, BitVec.toNat_not, ofInt_u64 a (by omega), wrap_u64_eq]
  omega
theorem xor_zero64 (x : Int) (h0 : 0 ≤ x) (h1 : x < 18446744073709551616) : bits .xor .u64 x 0 = x := by
  obtain ⟨a, rfl⟩ := Int.eq_ofNat_of_zero_le h0
  have := u64_xor_nat a 0 (by omega) (by decide)
  simpa using this
theorem implFold (n : Int) (h0 : -9223372036854775808 ≤ n) (h1 : n ≤ 9223372036854775807) :
    bits BinOp.xor IntKind.u64 (IntKind.u64.wrap (IntKind.u64.wrap n * 2)) (IntKind.u64.wrap (n / 9223372036854775808)) = foldI n := by
  unfold foldI
  by_cases h : n < 0
  · rw [if_pos h]
    have e1 : IntKind.u64.wrap (n / 9223372036854775808) = 18446744073709551615 := by rw [wrap_u64_eq]; omega
    have e2 : IntKind.u64.wrap (IntKind.u64.wrap n * 2) = (2 * n) % 18446744073709551616 := by rw [wrap_u64_eq, wrap_u64_eq]; omega
    rw [e1, e2, xor_ones _ (by omega) (by omega)]
    omega
  · rw [if_neg h]
    have e1 : IntKind.u64.wrap (n / 9223372036854775808) = 0 := by rw [wrap_u64_eq]; omega
    have e2 : IntKind.u64.wrap (IntKind.u64.wrap n * 2) = 2 * n := by rw [wrap_u64_eq, wrap_u64_eq]; omega
    rw [e1, e2, xor_zero64 _ (by omega) (by omega)]
theorem implByte (r : Int) (h0 : 0 ≤ r) (h1 : r < 18446744073709551616) :
    bits BinOp.or IntKind.u8 (bits BinOp.and IntKind.u64 r 127 % 256) 128 = r % 128 + 128 := by
  obtain ⟨a, rfl⟩ := Int.eq_ofNat_of_zero_le h0
  have e1 := u64_and_nat a 127 (by omega) (by decide)
  have e2 : a &&& 127 = a % 128 := Nat.and_two_pow_sub_one_eq_mod a 7
  rw [e2] at e1
  have e3 : bits BinOp.and IntKind.u64 ((a : Nat) : Int) 127 = ((a % 128 : Nat) : Int) := e1
  rw [e3]
  have e4 : (((a % 128 : Nat) : Int) % 256) = ((a % 128 : Nat) : Int) := by omega
  rw [e4]
  have e5 := u8_or_nat (a % 128) 128 (by omega) (by decide)
  have e6 : (a % 128) ||| 128 = 128 + a % 128 := by
    have := Nat.two_pow_add_eq_or_of_lt (i := 7) (b := a % 128) (by omega) 1
    rw [Nat.or_comm]
    simpa using this.symm
  rw [e6] at e5
  have e7 : bits BinOp.or IntKind.u8 ((a % 128 : Nat) : Int) 128 = ((128 + a % 128 : Nat) : Int) := e5
  rw [e7]; omega
theorem list10 {α : Type} (l : List α) (h : l.length = 10) : ∃ c0 c1 c2 c3 c4 c5 c6 c7 c8 c9, l = [c0, c1, c2, c3, c4, c5, c6, c7, c8, c9] := by
  match l, h with
  | [c0, c1, c2, c3, c4, c5, c6, c7, c8, c9], _ => exact ⟨_, _, _, _, _, _, _, _, _, _, rfl⟩
def byteV (b : UInt8) : Value := .int .u8 (b.toNat : Int)
theorem byteV_of {x : Int} (h0 : 0 ≤ x) (h1 : x < 256) : byteV (UInt8.ofNat x.toNat) = .int .u8 x := by
  have : ((UInt8.ofNat x.toNat).toNat : Int) = x := by
    rw [UInt8.toNat_ofNat']
    omega
  unfold byteV; rw [this]
theorem ret_u64 {a b : Int} (h : a = b) : Ending.returned (.int .u64 a) = .returned (.int .u64 b) := by rw [h]
theorem ret_str {a b : ByteArray} (h : a = b) : Ending.returned (.string a) = .returned (.string b) := by rw [h]

theorem fold_any (n : Int) (w : World) (h0 : -9223372036854775808 ≤ n) (h1 : n ≤ 9223372036854775807) :
    Calls Try.prog 106 #[.int .i64 n] w fun e w' => e = .returned (.int .u64 (foldI n)) ∧ w = w' := by
  by_cases h : n < 0
  · go_enter Try.func106, Try.ntmps106
    go_wp2
    go_ret
    exact ⟨ret_u64 (by unfold foldI; rw [if_pos (by omega)]; omega), rfl⟩
  · go_enter Try.func106, Try.ntmps106
    go_wp2
    go_ret
    exact ⟨ret_u64 (by unfold foldI; rw [if_neg (by omega)]), rfl⟩

/-- What the round of impl.PutNum knows. -/
theorem set_take {α : Type} (l : List α) (k : Nat) (v : α) (h : k < l.length) : (l.set k v).take (k + 1) = l.take k ++ [v] := by
  rw [List.take_succ_eq_append_getElem (by simpa using h), List.take_set, List.set_eq_of_length_le (by simp; omega)]
  simp

theorem sizeU8 (w : World) : (sizeOf 5).run Try.prog w = .ok 1 w := by kernel_rfl
theorem len10 : Try.prog.arrayLen 114 = 10 := by kernel_rfl
theorem elem10 : Try.prog.elem 114 = 5 := by kernel_rfl
theorem slice10 (b k : Nat) (hk : k < 10) (W : World) :
    (Instr.sliceAt 114 (.pointer (some ⟨b, 0, none⟩)) none (some (.int .i64 ((k : Int) + 1))) none).run Try.prog W = .ok (.slice (some ⟨b, 0, none⟩) (k + 1) 10) W := by
  have ht : Try.prog.underlying 114 = some (.array (Try.prog.arrayLen 114) (Try.prog.elem 114)) := by kernel_rfl
  rw [run_sliceAt_array_h W 114 ⟨b, 0, none⟩ ht .i64 ((k : Int) + 1) (by omega) (by rw [len10]; omega), elem10, sizeU8, len10]
  have e : ((k : Int) + 1).toNat = k + 1 := by omega
  simp [slicedAt, Result.andThen, e, Addr.add]

set_option maxHeartbeats 1000000 in
theorem implPutNum_any (n : Int) (w : World) (h0 : -9223372036854775808 ≤ n) (h1 : n ≤ 9223372036854775807) :
    Calls Try.prog 86 #[.int .i64 n] w fun e w' => e = .returned (.string (putS n)) ∧ Below w.heap.size w w' := by
  go_enter Try.func86, Try.ntmps86
  go_wp2
  go_loopw [3, 5] (fun x i wr => ∃ k : Nat, k ≤ 9 ∧ i = .int .i64 k ∧ ∃ r : Int, 0 ≤ r ∧ r < 18446744073709551616 ∧ x = .int .u64 r ∧ ∃ c0 c1 c2 c3 c4 c5 c6 c7 c8 c9 : Value, ∃ acc : List UInt8,
      wr = w.alloc (.cells #[c0, c1, c2, c3, c4, c5, c6, c7, c8, c9] 114) ∧ Hid (r < bnd k ∧ acc ++ vb (9 - k) r = putB n ∧ acc.length = k ∧ [c0, c1, c2, c3, c4, c5, c6, c7, c8, c9].take k = acc.map byteV)) (fun _ i _ => 9 - (intOf i).toNat)
  case atStart =>
    have hr := foldI_range h0 h1
    refine ⟨0, by omega, rfl, foldI n, hr.1, hr.2, by rw [implFold n h0 h1], _, _, _, _, _, _, _, _, _, _, [], rfl, Lib.hid ⟨?_, rfl, rfl, rfl⟩⟩
    rw [bnd_zero]; exact hr.2
  case round =>
    obtain ⟨k, hk, rfl, r, hr0, hr1, rfl, c0, c1, c2, c3, c4, c5, c6, c7, c8, c9, acc, rfl, HR⟩ := hrel
    by_cases hlt : 128 ≤ r
    · have hk9 : k < 9 := lt_nine hk HR.out.1 hlt
      go_wp2
      go_roundw
      case rel =>
        obtain ⟨d0, d1, d2, d3, d4, d5, d6, d7, d8, d9, hd⟩ := list10 ([c0, c1, c2, c3, c4, c5, c6, c7, c8, c9].set k (Value.int IntKind.u8 (bits BinOp.or IntKind.u8 (bits BinOp.and IntKind.u64 r 127 % 256) 128))) (by simp)
        refine ⟨k + 1, by omega, by go_num, _, by omega, by omega, rfl, d0, d1, d2, d3, d4, d5, d6, d7, d8, d9, acc ++ [UInt8.ofNat (r % 128 + 128).toNat], by rw [hd], Lib.hid ⟨bnd_step hk9 HR.out.1, ?_, ?_, ?_⟩⟩
        · rw [List.append_assoc, ← HR.out.2.1, show 9 - k = (9 - (k + 1)) + 1 by omega, vb_big _ hlt]; rfl
        · rw [List.length_append, HR.out.2.2.1]; rfl
        · rw [← hd, set_take _ _ _ (by simp; omega), HR.out.2.2.2, List.map_append, implByte r hr0 hr1]
          simp only [List.map_cons, List.map_nil]
          rw [byteV_of (by omega) (by omega)]
      case measure => simp [intOf]; omega
    · have hk10 : k < 10 := by omega
      have hfin : putB n = acc ++ [UInt8.ofNat r.toNat] := by rw [← HR.out.2.1, vb_small _ (by omega)]
      have hc : ∀ W : World, W = w.alloc (.cells ([c0, c1, c2, c3, c4, c5, c6, c7, c8, c9].set k (Value.int IntKind.u8 r)).toArray 114) →
          ∀ j (hj : j < (acc ++ [UInt8.ofNat r.toNat]).length), W.cell? ((⟨w.heap.size, 0, none⟩ : Addr).add j) = some (.int .u8 ((acc ++ [UInt8.ofNat r.toNat])[j].toNat : Int)) := by
        rintro W rfl j hj
        have hadd : (⟨w.heap.size, 0, none⟩ : Addr).add j = ⟨w.heap.size, j, none⟩ := by unfold Addr.add; split <;> simp_all
        rw [hadd, cell_of_row _ w.heap.size j _ _ (0, 0) (heap_alloc_new w _)]
        have e1 : ([c0, c1, c2, c3, c4, c5, c6, c7, c8, c9].set k (Value.int IntKind.u8 r)).take (k + 1) = (acc ++ [UInt8.ofNat r.toNat]).map byteV := by
          rw [set_take _ _ _ (by simp; omega), HR.out.2.2.2, List.map_append]
          simp only [List.map_cons, List.map_nil]
          rw [byteV_of (by omega) (by omega)]
        have hl : (acc ++ [UInt8.ofNat r.toNat]).length = k + 1 := by rw [List.length_append, HR.out.2.2.1]; rfl
        have e2 : ([c0, c1, c2, c3, c4, c5, c6, c7, c8, c9].set k (Value.int IntKind.u8 r))[j]? = (([c0, c1, c2, c3, c4, c5, c6, c7, c8, c9].set k (Value.int IntKind.u8 r)).take (k + 1))[j]? := by
          rw [List.getElem?_take_of_lt (by omega)]
        show ([c0, c1, c2, c3, c4, c5, c6, c7, c8, c9].set k (Value.int IntKind.u8 r)).toArray[j]? = _
        rw [List.getElem?_toArray, e2, e1, List.getElem?_map, List.getElem?_eq_getElem hj]
        rfl
      have hconv : ∀ cap : Nat, (convert 22 9 (.slice (some ⟨w.heap.size, 0, none⟩) (k + 1) cap)).run Try.prog (w.alloc (.cells ([c0, c1, c2, c3, c4, c5, c6, c7, c8, c9].set k (Value.int IntKind.u8 r)).toArray 114))
          = .ok (.string ⟨(acc ++ [UInt8.ofNat r.toNat]).toArray⟩) (w.alloc (.cells ([c0, c1, c2, c3, c4, c5, c6, c7, c8, c9].set k (Value.int IntKind.u8 r)).toArray 114)) := by
        intro cap
        have := run_convert_bytes_back (P := Try.prog) (w.alloc (.cells ([c0, c1, c2, c3, c4, c5, c6, c7, c8, c9].set k (Value.int IntKind.u8 r)).toArray 114)) 22 9 5 ⟨w.heap.size, 0, none⟩ cap (acc ++ [UInt8.ofNat r.toNat]) Try.underlying22 Try.underlying5 Try.underlying9 (hc _ rfl)
        rw [show (acc ++ [UInt8.ofNat r.toNat]).length = k + 1 by rw [List.length_append, HR.out.2.2.1]; rfl] at this
        exact this
      have hsl := slice10 w.heap.size k hk10
      have HF := Lib.hid hfin
      clear hfin hc
      go_wp2
      go_ret
      exact ⟨ret_str (by unfold putS; rw [HF.out]), (Below.refl _ _).alloc (Nat.le_refl _) _⟩

theorem infoU8 : (Try.prog.info? 5).map (fun i => (i.zero, i.size, i.bytes)) = some (some (.int .u8 0), 1, 1) := by kernel_rfl

/-- 'string(b)' of a slice of bytes that the call owns. -/
theorem conv_own {w : World} {base : Nat} {v : Value} {n : Nat} {l : List UInt8} (h : w.ownsRow base 5 1 v n (l.map byteV)) :
    (convert 22 9 v).run Try.prog w = .ok (.string ⟨l.toArray⟩) w := by
  have hn : n = l.length := by have := h.1; simpa using this.symm
  subst hn
  rcases h.2 with ⟨rfl, h0⟩ | ⟨g, cap, cur, rfl, hb, hg, hle, hm, hs, ht⟩
  · have : l = [] := List.eq_nil_of_length_eq_zero h0
    subst this
    exact run_convert_bytes_nil w 22 5 Try.underlying22 Try.underlying5 0 0 _ Try.underlying9
  · exact run_convert_bytes_back (P := Try.prog) w 22 9 5 ⟨g, 0, none⟩ cap l Try.underlying22 Try.underlying5 Try.underlying9 (fun j hj => by
      have := h.cells (g := g) rfl j (byteV l[j]) (by rw [List.getElem?_map, List.getElem?_eq_getElem hj]; rfl)
      exact this)

set_option maxHeartbeats 1000000 in
theorem specPutNum_any (n : Int) (w : World) (h0 : -9223372036854775808 ≤ n) (h1 : n ≤ 9223372036854775807) :
    Calls Try.prog 83 #[.int .i64 n] w fun e w' => e = .returned (.string (putS n)) ∧ Below w.heap.size w w' := by
  have hfr := foldI_range h0 h1
  obtain ⟨i0, hi, hz0, hz1, hz2⟩ := info_parts infoU8
  go_enter Try.func83, Try.ntmps83
  go_wp2_with (go_at_call 106; refine (fold_any _ _ h0 h1).mono ?_; rintro e w' ⟨rfl, rfl⟩)
  go_loopw [3, 4] (fun x v wr => ∃ r : Int, 0 ≤ r ∧ r < 18446744073709551616 ∧ x = .int .u64 r ∧ ∃ acc : List UInt8, wr.ownsRow w.heap.size 5 1 v acc.length (acc.map byteV) ∧
      Hid (acc.length ≤ 9 ∧ r < bnd acc.length ∧ acc ++ vb (9 - acc.length) r = putB n) ∧ Below w.heap.size w wr) (fun x _ _ => (intOf x).toNat)
  case atStart =>
    refine ⟨foldI n, hfr.1, hfr.2, rfl, [], World.ownsRow_made w #[] 0 (Nat.le_refl _) (by unfold maxLen; omega) rfl, Lib.hid ⟨by simp, ?_, rfl⟩, (Below.refl _ _).alloc (Nat.le_refl _) _⟩
    show foldI n < bnd 0
    rw [bnd_zero]; exact hfr.2
  case round =>
    obtain ⟨r, hr0, hr1, rfl, acc, hown, HR, hbel⟩ := hrel
    have HL := Lib.hid hown.lt
    by_cases hlt : 128 ≤ r
    · have hl9 : acc.length < 9 := lt_nine HR.out.1 HR.out.2.1 hlt
      go_wp2_with (at_builtin; refine wpList_append_own _ rfl _ _ 22 rfl w.heap.size 5 i0 (.int .u8 0) 1 1 Try.underlying22 hi hz0 hz1 hz2 rfl (by decide) _ _ _ rfl (hown.alloc _) ⟨wr.heap.size, 0, none⟩ 1 1 [.int .u8 (r % 128 + 128)] rfl rfl ?c1 ?c2 ?c3 ?c4 ?c5 ?_)
      case c1 =>
        intro j u hj
        match j, hj with
        | 0, hj => simp at hj; subst hj; simp [Addr.add]
      case c2 => intro u hu; simp at hu; subst hu; rfl
      case c3 => unfold maxLen; omega
      case c4 => omega
      case c5 => have := hbel.size; simp; omega
      intro v' w1 hown' hgrow _
      have hb1 : Below w.heap.size w w1 := (hbel.alloc hbel.size _).grown hgrow (by have := hbel.size; simp; omega) (fun k hk => (HL.out k hk).1)
      have hown2 : w1.ownsRow w.heap.size 5 1 v' (acc ++ [UInt8.ofNat (r % 128 + 128).toNat]).length ((acc ++ [UInt8.ofNat (r % 128 + 128).toNat]).map byteV) := by
        rw [List.map_append, List.length_append]
        simp only [List.map_cons, List.map_nil, List.length_cons, List.length_nil]
        rw [byteV_of (by omega) (by omega)]
        exact hown'
      clear hown hbel hgrow hown'
      go_wp2
      go_roundw
      case rel =>
        refine ⟨r / 128, by omega, by omega, rfl, _, hown2, Lib.hid ⟨by simp; omega, ?_, ?_⟩, hb1⟩
        · rw [List.length_append]; exact bnd_step hl9 HR.out.2.1
        · rw [List.append_assoc, ← HR.out.2.2, List.length_append, show 9 - acc.length = (9 - (acc.length + [UInt8.ofNat (r % 128 + 128).toNat].length)) + 1 by simp; omega, vb_big _ hlt]; rfl
      case measure => simp [intOf]; omega
    · have HF : Hid (putB n = acc ++ [UInt8.ofNat r.toNat]) := by exact Lib.hid (by rw [← HR.out.2.2, vb_small _ (by omega)])
      have hl9 := HR.out.1
      go_wp2_with (at_builtin; refine wpList_append_own _ rfl _ _ 22 rfl w.heap.size 5 i0 (.int .u8 0) 1 1 Try.underlying22 hi hz0 hz1 hz2 rfl (by decide) _ _ _ rfl (hown.alloc _) ⟨wr.heap.size, 0, none⟩ 1 1 [.int .u8 r] rfl rfl ?d1 ?d2 ?d3 ?d4 ?d5 ?_)
      case d2 => rfl
      case d3 => unfold maxLen; omega
      case d4 => omega
      case d5 => have := hbel.size; omega
      intro v' w1 hown' hgrow _
      have hb1 : Below w.heap.size w w1 := (hbel.alloc hbel.size _).grown hgrow (by have := hbel.size; simp; omega) (fun k hk => (HL.out k hk).1)
      have hown2 : w1.ownsRow w.heap.size 5 1 v' (acc.length + 1) ((acc ++ [UInt8.ofNat r.toNat]).map byteV) := by
        rw [List.map_append]
        simp only [List.map_cons, List.map_nil]
        rw [byteV_of (by omega) (by omega)]
        exact hown'
      have hconv := conv_own hown2
      clear hown hbel hgrow hown' hown2
      go_wp2
      go_ret
      exact ⟨ret_str (by unfold putS; rw [HF.out]), hb1⟩
end Go.Proofs.Ytkmlnibkdcdegaa.Num
