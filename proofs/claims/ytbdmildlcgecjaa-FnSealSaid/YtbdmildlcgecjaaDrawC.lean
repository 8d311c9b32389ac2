/-
  The draw of a CRC and a text of the given package spec.
-/
import Derived.Test.YtbdmildlcgecjaaDrawB
import Derived.Test.YtbdmildlcgecjaaCrc
namespace Go.Proofs.Ytbdmildlcgecjaa.Src
open Go.ChangeShapes Go.WideShapes Go.ChangeAt Go.RowKit
set_option linter.unusedVariables false

theorem crc0_range (s : ByteArray) : -9223372036854775808 ≤ Crc.crc0 s ∧ Crc.crc0 s ≤ 9223372036854775807 := by
  unfold Crc.crc0
  split
  · have := Crc.crcOn_range 0 s.data.toList; omega
  · omega

set_option maxHeartbeats 2000000 in
theorem drawCrcMore_any (B : Nat) (a : Option Addr) (len cap : Nat) (w : World) (hB : B ≤ w.heap.size) (hc : Bytes B w a len cap) :
    Calls Try.prog 16 #[.slice a len cap] w fun e w' => ∃ (c : Int) (s : ByteArray), e = .returned (.tuple #[.int .i64 c, .string s]) ∧ -9223372036854775808 ≤ c ∧ c ≤ 9223372036854775807 ∧ s.size ≤ 9 ∧ Below w.heap.size w w' := by
  have HS := Lib.hid (source_any B a len cap w hB hc)
  clear hc hB
  go_enter Try.func16, Try.ntmps16
  go_wp2_with fail
  refine HS.out.mono ?_
  rintro e w1 ⟨rfl, hst, hb1⟩
  have H1 := Lib.hid (And.intro hst hb1)
  clear hst hb1 HS
  go_wp2_with fail
  refine (n_st B w.heap.size len cap a 9 w1 (by omega) H1.out.1).mono ?_
  rintro e w2 ⟨r, rfl, hr0, hr1, hst, hg⟩
  have H2 := Lib.hid (And.intro hst (H1.out.2.trans (below_of_grown hg (Nat.le_refl _) H1.out.1.2.1)))
  clear hst hg H1
  have hr2 : r < 9 := by omega
  clear hr1
  go_wp2_with fail
  refine (bytes_st B w.heap.size len cap a r w2 hr0 (by omega) H2.out.1).mono ?_
  rintro e w3 ⟨s, rfl, hs, hst, hg⟩
  have H3 := Lib.hid (And.intro hst (H2.out.2.trans (below_of_grown hg (Nat.le_refl _) H2.out.1.2.1)))
  have HZ := Lib.hid (show s.size ≤ 9 by omega)
  clear hs hst hg H2
  go_wp2_with fail
  refine (one_st B w.heap.size len cap a 5 w3 (by omega) H3.out.1).mono ?_
  rintro e w4 ⟨t, rfl, hst, hg⟩
  have H4 := Lib.hid (And.intro hst (H3.out.2.trans (below_of_grown hg (Nat.le_refl _) H3.out.1.2.1)))
  clear hst hg H3
  cases t
  · go_wp2_with fail
    refine (n_st B w.heap.size len cap a 9 w4 (by omega) H4.out.1).mono ?_
    rintro e w5 ⟨q, rfl, hq0, hq1, hst, hg⟩
    have H5 := Lib.hid (And.intro hst (H4.out.2.trans (below_of_grown hg (Nat.le_refl _) H4.out.1.2.1)))
    clear hst hg H4
    have hq2 : q < 9 := by omega
    clear hq1
    go_wp2_with fail
    refine (bytes_st B w.heap.size len cap a q w5 hq0 (by omega) H5.out.1).mono ?_
    rintro e w6 ⟨u, rfl, hu, hst, hg⟩
    have H6 := Lib.hid (H5.out.2.trans (below_of_grown hg (Nat.le_refl _) H5.out.1.2.1))
    clear hst hg H5
    go_wp2_with fail
    refine (Crc.specCrc_any u w6 (by unfold maxLen; omega)).mono ?_
    rintro e w7 ⟨rfl, rfl⟩
    have HC := Lib.hid (crc0_range u)
    generalize Crc.crc0 u = c at *
    clear hu
    go_wp2_with fail
    go_ret2
    exact ⟨c, s, rfl, HC.out.1, HC.out.2, HZ.out, H6.out⟩
  · go_wp2_with fail
    refine (edge_st B w.heap.size len cap a w4 H4.out.1).mono ?_
    rintro e w5 ⟨c, rfl, hc0, hc1, hst, hg⟩
    have H5 := Lib.hid (H4.out.2.trans (below_of_grown hg (Nat.le_refl _) H4.out.1.2.1))
    have HC := Lib.hid (And.intro hc0 hc1)
    clear hst hg hc0 hc1 H4
    go_wp2_with fail
    go_ret2
    exact ⟨c, s, rfl, HC.out.1, HC.out.2, HZ.out, H5.out⟩
end Go.Proofs.Ytbdmildlcgecjaa.Src
