/-
  The draws of the given package spec, on: a number at some limit; the law's own lwAt.
-/
import Derived.Test.YtbdmildlcgecjaaDraw
namespace Go.Proofs.Ytbdmildlcgecjaa.Src
open Go.ChangeShapes Go.WideShapes Go.ChangeAt Go.RowKit
set_option linter.unusedVariables false

theorem edge_cells (r : Nat) (h : r < 14) : ∃ v : Int, (#[Value.int .i64 0, .int .i64 1, .int .i64 (-1), .int .i64 2, .int .i64 1000, .int .i64 1001, .int .i64 2147483648, .int .i64 2147483647, .int .i64 (-2147483648), .int .i64 4611686018427387904, .int .i64 9223372036854775807, .int .i64 (-9223372036854775808), .int .i64 1000000, .int .i64 1000001] : Array Value)[r]? = some (.int .i64 v) ∧ -9223372036854775808 ≤ v ∧ v ≤ 9223372036854775807 := by
  rcases (by omega : r = 0 ∨ r = 1 ∨ r = 2 ∨ r = 3 ∨ r = 4 ∨ r = 5 ∨ r = 6 ∨ r = 7 ∨ r = 8 ∨ r = 9 ∨ r = 10 ∨ r = 11 ∨ r = 12 ∨ r = 13) with rfl | rfl | rfl | rfl | rfl | rfl | rfl | rfl | rfl | rfl | rfl | rfl | rfl | rfl
  all_goals exact ⟨_, rfl, by decide, by decide⟩

set_option maxHeartbeats 1000000 in
theorem edge_st (B b len cap : Nat) (a : Option Addr) (w : World) (h : St B b a len cap w) :
    Calls Try.prog 37 #[.pointer (some ⟨b, 0, none⟩)] w fun e w' => ∃ v : Int, e = .returned (.int .i64 v) ∧ -9223372036854775808 ≤ v ∧ v ≤ 9223372036854775807 ∧ St B b a len cap w' ∧ w.grownBy w' (some b) := by
  have HS := Lib.hid h
  have hbw := h.2.1
  clear h
  go_enter Try.func37, Try.ntmps37
  go_wp2_with fail
  refine (n_st B b len cap a 14 _ (by omega) (HS.out.above ((Below.refl _ _).alloc (by omega) _))).mono ?_
  rintro e w1 ⟨r, rfl, hr0, hr1, hst, hg1⟩
  obtain ⟨q, rfl⟩ := Int.eq_ofNat_of_zero_le hr0
  have hq : q < 14 := by omega
  have hblk := (hg1.block w.heap.size (by simp) (fun e => by cases e; omega)).trans (heap_alloc_new w _)
  obtain ⟨v, hv, hv0, hv1⟩ := edge_cells q hq
  have hcell := (cell_of_row w1 w.heap.size q _ _ (0, 0) hblk).trans hv
  have HE := Lib.hid (And.intro hst (grown_trans (World.grownBy_alloc w _ _) hg1))
  have HV := Lib.hid (And.intro hv0 hv1)
  clear hst hg1 hblk hv hr1 hv0 hv1
  go_wp2_with fail
  go_ret
  exact ⟨v, rfl, HV.out.1, HV.out.2, HE.out.1, HE.out.2⟩

theorem emod_le (z m : Int) (h : 0 ≤ z) (hm : 0 ≤ m) : z % m ≤ z := by
  obtain ⟨a, rfl⟩ := Int.eq_ofNat_of_zero_le h
  obtain ⟨b, rfl⟩ := Int.eq_ofNat_of_zero_le hm
  exact_mod_cast Nat.mod_le a b

set_option maxHeartbeats 1000000 in
theorem lwAt_any (B len cap : Nat) (a : Option Addr) (p : Nat) (m : Int) (w : World) (hp : p ≤ 1000) (hm : m ≤ 1000000) (hc : Bytes B w a len cap) :
    Calls Try.prog 14 #[.slice a len cap, .int .i64 p, .int .i64 m] w fun e w' => ∃ r : Int, e = .returned (.int .i64 r) ∧ 0 ≤ r ∧ (r < m ∨ (m ≤ 1 ∧ r = 0)) ∧ r ≤ 255 ∧ w = w' := by
  have hlen := hc.1
  by_cases h1 : m ≤ 1
  · clear hc
    go_enter Try.func14, Try.ntmps14
    go_wp2
    go_ret
    exact ⟨0, rfl, by omega, .inr ⟨h1, rfl⟩, by omega, rfl⟩
  · by_cases h2 : len = 0
    · have h3 : ((len : Int) == 0) = true := by rw [beq_iff_eq]; omega
      have HM := Lib.hid h1
      subst h2
      clear hc
      go_enter Try.func14, Try.ntmps14
      go_wp2
      go_ret
      exact ⟨0, rfl, by omega, .inl (by have := HM.out; omega), by omega, rfl⟩
    · obtain ⟨cb, co, rfl, hcb, hcz⟩ := hc.2 (by omega)
      obtain ⟨z, z0, z1, hz⟩ := hcz (p % len) (Nat.mod_lt _ (by omega))
      have h3 : ((len : Int) == 0) = false := by rw [beq_eq_false_iff_ne]; omega
      have hl1 : (1 : Int) ≤ len := by omega
      have hpl : (p : Int) % (len : Int) = ((p % len : Nat) : Int) := by omega
      have hpl1 : p % len < len := Nat.mod_lt _ (by omega)
      have hM := mod_range z m (by omega)
      have hM2 : z % m ≤ 255 := by have := emod_le z m z0 (by omega); omega
      have HM := Lib.hid (And.intro hM hM2)
      generalize p % len = q at *
      clear hcz h2 hM hM2
      go_enter Try.func14, Try.ntmps14
      go_wp2
      go_ret
      exact ⟨z % m, rfl, HM.out.1.1, .inl HM.out.1.2, HM.out.2, rfl⟩

theorem made_zero (N : Nat) : (madeCells #[Value.int .u8 0] N).toList = (List.replicate N (0 : UInt8)).map Num.byteV := by
  apply List.ext_getElem
  · simp [madeCells]
  · intro i h1 h2
    simp [madeCells, Num.byteV, Nat.mod_one]

set_option maxHeartbeats 1000000 in
theorem drawSeal_any (B : Nat) (a : Option Addr) (len cap : Nat) (w : World) (hB : B ≤ w.heap.size) (hc : Bytes B w a len cap) :
    Calls Try.prog 11 #[.slice a len cap] w fun e w' => ∃ s : ByteArray, e = .returned (.string s) ∧ s.size ≤ 20000 ∧ Below w.heap.size w w' := by
  obtain ⟨i0, hi, hz0, hz1, hz2⟩ := info_parts Num.infoU8
  have HS := Lib.hid (source_any B a len cap w hB hc)
  clear hc hB
  go_enter Try.func11, Try.ntmps11
  go_wp2_with fail
  refine HS.out.mono ?_
  rintro e w1 ⟨rfl, hst, hb1⟩
  have H1 := Lib.hid (And.intro hst hb1)
  clear hst hb1 HS
  go_wp2_with fail
  refine (one_st B w.heap.size len cap a 30 w1 (by omega) H1.out.1).mono ?_
  rintro e w2 ⟨t, rfl, hst, hg⟩
  have H2 := Lib.hid (And.intro hst (H1.out.2.trans (below_of_grown hg (Nat.le_refl _) H1.out.1.2.1)))
  clear hst hg H1
  have HN := Lib.hid (fun m (hm : m ≤ 1000000) => n_st B w.heap.size len cap a m w2 hm H2.out.1)
  cases t
  · go_wp2_with fail
    refine (HN.out 20 (by omega)).mono ?_
    rintro e w3 ⟨r, rfl, hr0, hr1, hst, hg⟩
    have H3 := Lib.hid (And.intro hst (H2.out.2.trans (below_of_grown hg (Nat.le_refl _) H2.out.1.2.1)))
    clear hst hg HN
    have hr2 : r < 20 := by omega
    clear hr1
    go_wp2_with fail
    refine (bytes_st B w.heap.size len cap a r w3 hr0 (by omega) H3.out.1).mono ?_
    rintro e w4 ⟨s, rfl, hs, hst, hg⟩
    have H4 := Lib.hid (And.intro hs (H3.out.2.trans (below_of_grown hg (Nat.le_refl _) H3.out.1.2.1)))
    clear hs hst hg H3
    go_wp2_with fail
    go_ret
    exact ⟨s, rfl, by have := H4.out.1; omega, H4.out.2⟩
  · go_wp2_with fail
    refine (HN.out 3 (by omega)).mono ?_
    rintro e w3 ⟨r, rfl, hr0, hr1, hst, hg⟩
    have H3 := Lib.hid (H2.out.2.trans (below_of_grown hg (Nat.le_refl _) H2.out.1.2.1))
    have hsz := H3.out.size
    clear hst hg HN
    obtain ⟨q, rfl⟩ := Int.eq_ofNat_of_zero_le hr0
    have hq : q < 3 := by omega
    clear hr1 hr0
    go_wp2_with (at_make; refine wpList_make_full _ rfl _ _ 22 rfl w.heap.size 5 i0 (.int .u8 0) 1 Try.underlying22 hi hz0 hz1 .i64 .i64 _ _ (19995 + q) rfl rfl (by omega) (by omega) ?c1 ?c2 hsz ?_)
    case c1 => rw [hz2]; omega
    case c2 => unfold maxLen; omega
    intro w4 hown hgrow
    rw [made_zero] at hown
    have hconv := Num.conv_own hown
    have HB := Lib.hid (H3.out.grown hgrow hsz (fun k hk => by cases hk))
    clear hown hgrow
    go_wp2_with fail
    go_ret
    exact ⟨⟨(List.replicate (19995 + q) (0 : UInt8)).toArray⟩, rfl, by show (List.replicate (19995 + q) (0 : UInt8)).toArray.size ≤ 20000; simp; omega, HB.out⟩
end Go.Proofs.Ytbdmildlcgecjaa.Src
