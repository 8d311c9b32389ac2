/-
  The Go law FnSeal answers true for all bytes: a drawn text comes back from its seal, with any one byte turned it is refused, and a CRC goes on from text to text.
  No condition beside the form's own bounds.
-/
import Derived.Test.YtbdmildlcgecjaaSealMath
import Derived.Test.YtbdmildlcgecjaaDrawC
namespace Go.Proofs.Ytbdmildlcgecjaa.FnSeal
open Go.ChangeShapes Go.WideShapes Go.ChangeAt Go.RowKit
set_option linter.unusedVariables false

def IsRow (k : IntKind) (w : World) (a : Option Addr) (len cap : Nat) (zs : List Int) : Prop :=
  (a = none ∧ len = 0 ∧ cap = 0 ∧ zs = []) ∨
  ∃ x, a = some x ∧ len ≤ cap ∧ cap ≤ maxLen ∧ zs.length = cap ∧ (∀ i, i < zs.length → w.cell? (x.add i) = some (.int k (zs.getD i 0))) ∧ ∀ n ∈ zs, (Lit.int k n).wf = true
theorem bytes_of_row {w : World} {a : Option Addr} {len cap : Nat} {zs : List Int} (h : IsRow .u8 w a len cap zs) (hl : len ≤ 1048576) : Src.Bytes w.heap.size w a len cap := by
  refine ⟨hl, fun hp => ?_⟩
  rcases h with ⟨rfl, rfl, _, _⟩ | ⟨x, rfl, h1, h2, h3, h4, h5⟩
  · omega
  · obtain ⟨cb, co, rfl, hc⟩ := ints_at h4 (by omega)
    refine ⟨cb, co, rfl, World.block_lt_of_cell? w ⟨cb, co + 0, none⟩ (hc 0 (by omega)), fun i hi => ?_⟩
    have := range_u8 h5 i
    exact ⟨_, this.1, this.2, by have := hc i (by omega); simpa using this⟩

/-- The law's own lwAt, at bytes that came in: one number, whatever the world behind. -/
theorem lwAt_det (B len cap : Nat) (a : Option Addr) (p : Nat) (m : Int) (w : World) (hp : p ≤ 1000) (hm : m ≤ 1000000) (hc : Src.Bytes B w a len cap) :
    ∃ r : Int, 0 ≤ r ∧ (r < m ∨ (m ≤ 1 ∧ r = 0)) ∧ r ≤ 255 ∧ ∀ W, Below B w W →
      Calls Try.prog 14 #[.slice a len cap, .int .i64 p, .int .i64 m] W fun e w' => e = .returned (.int .i64 r) ∧ W = w' := by
  have hlen := hc.1
  by_cases h1 : m ≤ 1
  · refine ⟨0, by omega, .inr ⟨h1, rfl⟩, by omega, fun W _ => ?_⟩
    clear hc
    go_enter Try.func14, Try.ntmps14
    go_wp2
    go_ret
    exact ⟨rfl, rfl⟩
  · by_cases h2 : len = 0
    · refine ⟨0, by omega, .inl (by omega), by omega, fun W _ => ?_⟩
      have h3 : ((len : Int) == 0) = true := by rw [beq_iff_eq]; omega
      subst h2
      clear hc
      go_enter Try.func14, Try.ntmps14
      go_wp2
      go_ret
      exact ⟨rfl, rfl⟩
    · obtain ⟨cb, co, rfl, hcb, hcz⟩ := hc.2 (by omega)
      obtain ⟨z, z0, z1, hz⟩ := hcz (p % len) (Nat.mod_lt _ (by omega))
      have hM := Src.mod_range z m (by omega)
      have hM2 : z % m ≤ 255 := by have := Src.emod_le z m z0 (by omega); omega
      refine ⟨z % m, hM.1, .inl hM.2, hM2, fun W hW => ?_⟩
      have hz2 : W.cell? ⟨cb, co + p % len, none⟩ = some (.int .u8 z) := (hW.cell (p := ⟨cb, co + p % len, none⟩) hcb).trans hz
      have h3 : ((len : Int) == 0) = false := by rw [beq_eq_false_iff_ne]; omega
      have hl1 : (1 : Int) ≤ len := by omega
      have hpl : (p : Int) % (len : Int) = ((p % len : Nat) : Int) := by omega
      have hpl1 : p % len < len := Nat.mod_lt _ (by omega)
      clear hz hW
      generalize p % len = q at *
      clear hcz h2 hM hM2
      go_enter Try.func14, Try.ntmps14
      go_wp2
      go_ret
      exact ⟨rfl, rfl⟩

/-- What CrcMore answers of a short text. -/
def cmV (c : Int) (u : ByteArray) : Int := if 0 ≤ c ∧ c ≤ 4294967295 then Crc.crcOn c u.data.toList else 0
theorem implCrcMore_v (c : Int) (u : ByteArray) (w : World) (hu : u.size ≤ 8000) : Calls Try.prog 17 #[.int .i64 c, .string u] w fun e w' => e = .returned (.int .i64 (cmV c u)) ∧ w = w' := by
  unfold cmV
  by_cases h : 0 ≤ c ∧ c ≤ 4294967295
  · rw [if_pos h]; exact Crc.implCrcMore_in c u w hu h.1 h.2
  · rw [if_neg h]; exact Crc.implCrcMore_out c u w (by unfold maxLen; omega) (by omega)
theorem specCrcMore_v (c : Int) (u : ByteArray) (w : World) (hu : u.size ≤ 8000) : Calls Try.prog 18 #[.int .i64 c, .string u] w fun e w' => e = .returned (.int .i64 (cmV c u)) ∧ w = w' := by
  unfold cmV
  by_cases h : 0 ≤ c ∧ c ≤ 4294967295
  · rw [if_pos h]; exact Crc.specCrcMore_in c u w hu h.1 h.2
  · rw [if_neg h]; exact Crc.specCrcMore_out c u w (by unfold maxLen; omega) (by omega)
theorem implCrc_v (t : ByteArray) (w : World) (ht : t.size ≤ 8000) : Calls Try.prog 19 #[.string t] w fun e w' => e = .returned (.int .i64 (Crc.crcOn 0 t.data.toList)) ∧ w = w' := by
  have h := Crc.implCrc_any t w (by unfold maxLen; omega)
  unfold Crc.crc0 at h
  rw [if_pos ht] at h
  exact h
theorem xor_back (x : Int) (h0 : 0 ≤ x) (h1 : x < 4294967296) : bits .xor .u32 (bits .xor .u32 x 4294967295) 4294967295 = x := by
  obtain ⟨a, rfl⟩ := Int.eq_ofNat_of_zero_le h0
  have e1 := Seal.xor_nat a 4294967295 (by omega) (by decide)
  have hx : a ^^^ 4294967295 < 4294967296 := Nat.xor_lt_two_pow (n := 32) (by omega) (by decide)
  have e2 := Seal.xor_nat (a ^^^ 4294967295) 4294967295 hx (by decide)
  rw [Nat.xor_assoc, Nat.xor_self, Nat.xor_zero] at e2
  have e3 : bits .xor .u32 ((a : Nat) : Int) 4294967295 = ((a ^^^ 4294967295 : Nat) : Int) := e1
  rw [e3]
  exact e2
/-- A CRC goes on from text to text. -/
theorem crcOn_more (p q : List UInt8) : Crc.crcOn (Crc.crcOn 0 p) q = Crc.crcOn 0 (p ++ q) := by
  have r := Crc.crcOf_range p (Crc.bits_range .xor 0 4294967295)
  show bits .xor .u32 (Crc.crcOf (bits .xor .u32 (bits .xor .u32 (Crc.crcOf (bits .xor .u32 0 4294967295) p) 4294967295) 4294967295) q) 4294967295 = bits .xor .u32 (Crc.crcOf (bits .xor .u32 0 4294967295) (p ++ q)) 4294967295
  rw [xor_back _ r.1 r.2, Seal.crcOf_append]
theorem implCrc_app (t u : ByteArray) (w : World) (h : t.size + u.size ≤ 8000) : Calls Try.prog 19 #[.string (t ++ u)] w fun e w' => e = .returned (.int .i64 (Crc.crcOn (Crc.crcOn 0 t.data.toList) u.data.toList)) ∧ w = w' := by
  have h := implCrc_v (t ++ u) w (by rw [ByteArray.size_append]; exact h)
  have e : (t ++ u).data.toList = t.data.toList ++ u.data.toList := by simp
  rw [e, ← crcOn_more] at h
  exact h
theorem xor_turn {z r : Int} (h0 : 0 ≤ z) (h1 : z < 256) (h2 : 0 < r) (h3 : r < 256) : bits .xor .u8 z r ≠ z := by
  obtain ⟨a, rfl⟩ := Int.eq_ofNat_of_zero_le h0
  obtain ⟨c, rfl⟩ := Int.eq_ofNat_of_zero_le (show 0 ≤ r by omega)
  rw [u8_xor_nat a c (by omega) (by omega)]
  intro e
  have e1 : a ^^^ c = a := by omega
  have := Seal.xor_cancel c 0 a (by rw [Nat.xor_comm, e1, Nat.zero_xor])
  omega
theorem getD_turn {l : List Int} {k j : Nat} {x : Int} (hj : j < l.length) : (l.set k x).getD j 0 = if k = j then x else l.getD j 0 := by
  simp only [List.getD_eq_getElem?_getD, List.getElem?_set]
  by_cases e : k = j
  · subst e; simp [hj]
  · simp [e]
theorem nums_at (s : ByteArray) (i : Nat) (hi : i < s.size) : (s.data.toList.map (fun c => (c.toNat : Int))).getD i 0 = ((s.data[i]'hi).toNat : Int) := by
  have hl : i < s.data.toList.length := by rw [Seal.size_list]; exact hi
  rw [List.getD_eq_getElem?_getD, List.getElem?_map, List.getElem?_eq_getElem hl]
  rfl
theorem turned_nums (l : List UInt8) (k : Nat) (x : Int) : ((l.map (fun c => (c.toNat : Int))).set k x).map (fun n => UInt8.ofNat n.toNat) = l.set k (UInt8.ofNat x.toNat) := by
  rw [List.map_set, List.map_map]
  congr 1
  exact (List.map_congr_left (fun c _ => by simp)).trans (List.map_id _)
theorem gen_calls {P : Program} {f : Nat} {args : Array Value} {Q : Ending → World → Prop} {W : World} (R : World → Prop) (h : R W) (k : ∀ W, R W → Calls P f args W Q) : Calls P f args W Q := k W h

set_option maxRecDepth 100000 in
set_option maxHeartbeats 4000000 in
theorem law (a0 : Option Addr) (len0 cap0 : Nat) (z0 : List Int) (a1 : Option Addr) (len1 cap1 : Nat) (z1 : List Int) (w : World) (w0 : IsRow .u8 w a0 len0 cap0 z0) (w1 : IsRow .u8 w a1 len1 cap1 z1) :
    Calls Try.prog 3 #[.slice a0 len0 cap0, .slice a1 len1 cap1] w fun e w' => e = .returned (.bool true) ∧ Below w.heap.size w w' := by
  by_cases hl0 : 1048576 < len0
  · have h : (1048576 : Int) < (len0 : Int) := by omega
    clear w0 w1
    go_enter Try.func3, Try.ntmps3
    go_wp2_with fail
    go_ret
    exact ⟨rfl, Below.refl _ _⟩
  by_cases hl1 : 1048576 < len1
  · have h : (1048576 : Int) < (len1 : Int) := by omega
    have h0 : ¬ (1048576 : Int) < (len0 : Int) := by omega
    clear w0 w1
    go_enter Try.func3, Try.ntmps3
    go_wp2_with fail
    go_ret
    exact ⟨rfl, Below.refl _ _⟩
  have HB0 := Lib.hid (bytes_of_row w0 (by omega))
  have HB1 := Lib.hid (bytes_of_row w1 (by omega))
  have h0 : ¬ (1048576 : Int) < (len0 : Int) := by omega
  have h1 : ¬ (1048576 : Int) < (len1 : Int) := by omega
  clear w0 w1 hl0 hl1
  go_enter Try.func3, Try.ntmps3
  go_wp2_with fail
  refine (Src.drawSeal_any w.heap.size a0 len0 cap0 w (Nat.le_refl _) HB0.out).mono ?_
  rintro e w2 ⟨t, rfl, ht, hb2⟩
  have HS := Lib.hid (Seal.implSeal_any t · (by unfold maxLen; omega))
  have HS2 := Lib.hid (Seal.specSeal_any t · (by unfold maxLen; omega))
  have HU := Lib.hid (@Seal.un_seal t)
  have HUT := Lib.hid (fun (b : ByteArray) => @Seal.un_turned t b)
  have HZ := Lib.hid (@Seal.sealS_size t)
  have HE : Hid (7996 < t.size → Seal.sealS t = ⟨#[]⟩) := by
    refine Lib.hid fun h => ?_
    unfold Seal.sealS
    rw [if_neg (by omega)]
  have H2 := Lib.hid hb2
  clear hb2
  generalize Seal.sealS t = s at *
  go_wp2_with fail
  refine (HS.out _).mono ?_
  rintro e w3 ⟨rfl, hb3⟩
  have H3 := Lib.hid (H2.out.trans (hb3.mono H2.out.size))
  clear hb3
  go_wp2_with fail
  refine (HS2.out _).mono ?_
  rintro e w4 ⟨rfl, hb4⟩
  have HW := Lib.hid (H3.out.trans (hb4.mono H3.out.size))
  clear hb4
  by_cases hsm : t.size ≤ 7996
  · have hz := HZ.out hsm
    have hn1 : s.toList.isEmpty = false := by rw [ByteArray.toList_eq, List.isEmpty_eq_false_iff]; intro x; have hq := Seal.size_list s; rw [x, List.length_nil] at hq; omega
    have hn2 : ¬ s.toList = [] := by rw [ByteArray.toList_eq]; intro x; have hq := Seal.size_list s; rw [x, List.length_nil] at hq; omega
    have hn3 : (s.toList == []) = false := by rw [beq_eq_false_iff_ne]; exact hn2
    have HZ2 := Lib.hid hz
    have hs4 : 4 ≤ s.size := by omega
    have hs5 : s.size ≤ 8000 := by omega
    clear hz
    obtain ⟨r0, r00, r01, _, HL0⟩ := lwAt_det w.heap.size len1 cap1 a1 0 s.size w (by omega) (by omega) HB1.out
    obtain ⟨r1, r10, r11, _, HL1⟩ := lwAt_det w.heap.size len1 cap1 a1 1 255 w (by omega) (by omega) HB1.out
    obtain ⟨k, rfl⟩ := Int.eq_ofNat_of_zero_le r00
    have hk : k < s.size := by omega
    have HL0 := Lib.hid HL0
    have HL1 := Lib.hid HL1
    clear r00 r01
    have r12 : r1 < 255 := by omega
    have r13 : IntKind.u8.wrap (1 + r1) = 1 + r1 := IntWalk.u8_in _ (by omega)
    have r14 : IntKind.i64.wrap (1 + r1) = 1 + r1 := IntWalk.i64_in _ (by omega)
    clear r11
    have hcv := fun (W : World) => run_bytes_of_string (P := Try.prog) W 9 22 5 s Try.underlying9 Try.underlying22 Try.underlying5
    go_wp2_with fail
    generalize hcap : grownCap w4 s.size 0 5 = cap
    have hrow : ∀ j : Nat, (h : j < s.size) → (bytesRow s cap)[j]? = some (.int .u8 (s.data[j]'h).toNat) := fun j h => bytesRow_at s cap j h
    have hrs : s.size ≤ (bytesRow s cap).size := by unfold bytesRow; simp
    have HR := Lib.hid hrow
    clear hcap hrow hcv
    generalize bytesRow s cap = row at *
    refine gen_calls (fun W => Below w.heap.size w W ∧ w.heap.size ≤ w4.heap.size ∧ w4.heap.size < W.heap.size ∧ W.heap[w4.heap.size]? = some (.cells row 5 (row.size, row.size + 1))) ⟨?_, ?_, ?_, ?_⟩ ?_
    · exact (HW.out.alloc HW.out.size _).drew
    · exact HW.out.size
    · show w4.heap.size < (w4.heap.push _).size; rw [Array.size_push]; omega
    · show (w4.heap.push _)[w4.heap.size]? = _; rw [Array.getElem?_push_size]
    rintro W ⟨hB, hw4, hwW, hcell⟩
    generalize w4.heap.size = b at *
    refine (HL0.out W hB).mono ?_
    rintro e W2 ⟨rfl, rfl⟩
    have HB := Lib.hid hB
    have hck : W.cell? ⟨b, k, none⟩ = some (.int .u8 (s.data[k]'hk).toNat) := by
      rw [cell_of_row W b k row _ _ hcell]
      exact HR.out k hk
    have hfk : W.frozen? ⟨b, k, none⟩ = false := by
      have hkr : k < row.size := by omega
      simp [World.frozen?, hcell]
      omega
    have HC := Lib.hid hcell
    clear hB hcell
    have HZk : Hid (∃ z : UInt8, z = s.data[k]'hk) := Lib.hid ⟨_, rfl⟩
    obtain ⟨z, hz⟩ := HZk.out
    rw [← hz] at hck
    have hz0 : (0 : Int) ≤ (z.toNat : Int) := by omega
    have hz1 : (z.toNat : Int) < 256 := by have := z.toNat_lt; omega
    have HZ3 := Lib.hid hz
    clear hz HZk
    generalize hzi : (z.toNat : Int) = zi at *
    go_wp2_with fail
    refine wp_region_still_tail 12 (by kernel_rfl) (by kernel_rfl) ?_
    change wpStill _ _ (World.drew _) (fun a' => wpList _ _ _ _ a' (World.drew _)) _ _
    simp only [List.take_succ_cons, List.take_zero, List.drop_succ_cons, List.drop_zero]
    repeat still_step
    still_call ((HL1.out _ HB.out.drew).mono (fun e w' h => ⟨h.1, h.2.symm⟩))
    repeat still_step
    refine wpStill_nil ?_
    have hx0 : 0 ≤ bits .xor .u8 zi (1 + r1) ∧ bits .xor .u8 zi (1 + r1) < 256 := by
      have := bounds_u8 (wf_bits .xor .u8 zi (1 + r1)); omega
    have hxz : bits .xor .u8 zi (1 + r1) ≠ zi := xor_turn hz0 hz1 (by omega) (by omega)
    generalize bits .xor .u8 zi (1 + r1) = x at *
    have HX := Lib.hid hx0
    have HXZ := Lib.hid hxz
    clear hx0 hxz
    go_wp2_with fail
    refine gen_calls (fun V => Below w.heap.size w V ∧ b < V.heap.size ∧ ∀ i, i < s.size → V.cell? ⟨b, 0 + i, none⟩ = some (.int .u8 (((s.data.toList.map (fun c => (c.toNat : Int))).set k x).getD i 0))) ⟨?_, ?_, ?_⟩ ?_
    · exact (HB.out.setCell (p := ⟨b, k, none⟩) hw4 _).drew
    · show b < (W.setCell ⟨b, k, none⟩ (.int .u8 x)).heap.size
      simpa [World.setCell] using hwW
    · intro i hi
      rw [getD_turn (by rw [List.length_map, Seal.size_list]; exact hi), Nat.zero_add]
      show (W.setCell ⟨b, k, none⟩ (.int .u8 x)).cell? ⟨b, i, none⟩ = _
      by_cases hki : k = i
      · subst hki
        rw [World.cell?_setCell_same W _ _ hck, if_pos rfl]
      · rw [World.cell?_setCell_other W _ _ _ (fun e => hki (congrArg Addr.off e)), if_neg hki, cell_of_row W b i row _ _ HC.out, HR.out i hi, nums_at s i hi]
    rintro V ⟨hbV, hbsV, hcV⟩
    have HV := Lib.hid hbV
    have HSV := Lib.hid hbsV
    have HCV := Lib.hid hcV
    clear hbV hbsV hcV
    refine (Seal.implUnseal_at s t 0 (HU.out hsm) V (by unfold maxLen; omega)).mono ?_
    rintro e V2 ⟨rfl, hb8⟩
    have HV2 := Lib.hid (HV.out.trans (hb8.mono HV.out.size))
    have HCV2 := Lib.hid (fun i hi => (hb8.cell (p := ⟨b, 0 + i, none⟩) HSV.out).trans (HCV.out i hi))
    clear hb8
    have hbl : ((s.data.toList.map (fun c => (c.toNat : Int))).set k x).length = s.size := by rw [List.length_set, List.length_map, Seal.size_list]
    have hcv := run_convert_bytes_arg (P := Try.prog) V2 22 5 Try.underlying22 Try.underlying5 b 0 s.size cap _ hbl HCV2.out 9 Try.underlying9
    have hUV : Seal.unV (strOfNums ((s.data.toList.map (fun c => (c.toNat : Int))).set k x)) = .agg #[.string ⟨#[]⟩, .int .i64 0, .int .i64 5] := by
      have hkl : k < s.data.toList.length := by rw [Seal.size_list]; exact hk
      refine HUT.out _ hsm k (UInt8.ofNat x.toNat) hkl ?_ ?_
      · have hzk : s.data.toList[k]'hkl = z := by rw [HZ3.out]; rfl
        rw [hzk]
        intro e
        have e2 := congrArg UInt8.toNat e
        have hx := HX.out
        rw [UInt8.toNat_ofNat_of_lt' (by show x.toNat < 256; omega)] at e2
        exact HXZ.out (by omega)
      · rw [strOfNums_data]; exact turned_nums _ _ _
    have hsz : (strOfNums ((s.data.toList.map (fun c => (c.toNat : Int))).set k x)).size = s.size := by rw [strOfNums_size, hbl]
    have HUB := Lib.hid (fun W => Seal.implUnseal_at _ _ 5 hUV W (by rw [hsz]; unfold maxLen; omega))
    clear hUV hbl hsz HCV HCV2
    generalize strOfNums ((s.data.toList.map (fun c => (c.toNat : Int))).set k x) = sb at *
    clear HW
    go_wp2_with fail
    refine (HUB.out _).mono ?_
    rintro e V3 ⟨rfl, hb9⟩
    have HW := Lib.hid (HV2.out.trans (hb9.mono HV2.out.size))
    clear hb9 hcv
    have hfd : ∀ V : World, (Instr.field 27 (.agg #[.string ⟨#[]⟩, .int .i64 0, .int .i64 5]) 2).run Try.prog V = .ok (.int .i64 5) V := fun _ => by kernel_rfl
    go_wp2_with fail
    refine (Src.drawCrcMore_any w.heap.size a1 len1 cap1 _ HW.out.size (HB1.out.below HW.out)).mono ?_
    rintro e w8 ⟨c, u, rfl, hc0, hc1, hu, hb8⟩
    have HX := Lib.hid (HW.out.trans (hb8.mono HW.out.size))
    have HU := Lib.hid hu
    clear hb8
    have hu2 : u.size ≤ 9 := hu
    clear hu
    by_cases hbig : (8000 : Int) < (t.size : Int) + (u.size : Int)
    · go_wp2_with fail
      go_ret
      exact ⟨rfl, HX.out⟩
    · have HI := Lib.hid (implCrcMore_v c u · (by omega))
      have HP := Lib.hid (specCrcMore_v c u · (by omega))
      have HT := Lib.hid (implCrc_v t · (by omega))
      have HM := Lib.hid (fun W => Crc.implCrcMore_in (Crc.crcOn 0 t.data.toList) u W (by omega) (Crc.crcOn_range 0 _).1 (Crc.crcOn_range 0 _).2)
      have HA := Lib.hid (implCrc_app t u · (by omega))
      have ht8 : t.size ≤ 8000 := by omega
      generalize cmV c u = v at *
      generalize Crc.crcOn (Crc.crcOn 0 t.data.toList) u.data.toList = y at *
      generalize Crc.crcOn 0 t.data.toList = x at *
      go_wp2_with fail
      refine (HI.out _).mono ?_
      rintro e w9 ⟨rfl, rfl⟩
      go_wp2_with fail
      refine (HP.out _).mono ?_
      rintro e w9 ⟨rfl, rfl⟩
      go_wp2_with fail
      refine (HT.out _).mono ?_
      rintro e w9 ⟨rfl, rfl⟩
      go_wp2_with fail
      refine (HM.out _).mono ?_
      rintro e w9 ⟨rfl, rfl⟩
      go_wp2_with fail
      refine (HA.out _).mono ?_
      rintro e w9 ⟨rfl, rfl⟩
      go_wp2_with fail
      go_ret
      exact ⟨rfl, HX.out⟩
  · have hs0 := HE.out (by omega)
    subst hs0
    go_wp2_with fail
    refine (Src.drawCrcMore_any w.heap.size a1 len1 cap1 _ HW.out.size (HB1.out.below HW.out)).mono ?_
    rintro e w8 ⟨c, u, rfl, hc0, hc1, hu, hb8⟩
    have HX := Lib.hid (HW.out.trans (hb8.mono HW.out.size))
    have HU := Lib.hid hu
    clear hb8
    have hu2 : u.size ≤ 9 := hu
    clear hu
    by_cases hbig : (8000 : Int) < (t.size : Int) + (u.size : Int)
    · go_wp2_with fail
      go_ret
      exact ⟨rfl, HX.out⟩
    · have HI := Lib.hid (implCrcMore_v c u · (by omega))
      have HP := Lib.hid (specCrcMore_v c u · (by omega))
      have HT := Lib.hid (implCrc_v t · (by omega))
      have HM := Lib.hid (fun W => Crc.implCrcMore_in (Crc.crcOn 0 t.data.toList) u W (by omega) (Crc.crcOn_range 0 _).1 (Crc.crcOn_range 0 _).2)
      have HA := Lib.hid (implCrc_app t u · (by omega))
      have ht8 : t.size ≤ 8000 := by omega
      generalize cmV c u = v at *
      generalize Crc.crcOn (Crc.crcOn 0 t.data.toList) u.data.toList = y at *
      generalize Crc.crcOn 0 t.data.toList = x at *
      go_wp2_with fail
      refine (HI.out _).mono ?_
      rintro e w9 ⟨rfl, rfl⟩
      go_wp2_with fail
      refine (HP.out _).mono ?_
      rintro e w9 ⟨rfl, rfl⟩
      go_wp2_with fail
      refine (HT.out _).mono ?_
      rintro e w9 ⟨rfl, rfl⟩
      go_wp2_with fail
      refine (HM.out _).mono ?_
      rintro e w9 ⟨rfl, rfl⟩
      go_wp2_with fail
      refine (HA.out _).mono ?_
      rintro e w9 ⟨rfl, rfl⟩
      go_wp2_with fail
      go_ret
      exact ⟨rfl, HX.out⟩
end Go.Proofs.Ytbdmildlcgecjaa.FnSeal
