/-
  The draws of the given package spec, on: any number; FnNums' number and text.
-/
import Derived.Test.YtbdmildlcgecjaaDoorDrawE
namespace Go.Proofs.YtbdmildlcgecjaaDoor.Src
open Go.ChangeShapes Go.WideShapes Go.ChangeAt Go.RowKit
set_option linter.unusedVariables false

set_option maxHeartbeats 1000000 in
theorem any_st (B b len cap : Nat) (a : Option Addr) (w : World) (h : St B b a len cap w) :
    Calls Tryd.prog 19 #[.pointer (some ⟨b, 0, none⟩)] w fun e w' => ∃ v : Int, e = .returned (.int .i64 v) ∧ -9223372036854775808 ≤ v ∧ v ≤ 9223372036854775807 ∧ St B b a len cap w' ∧ w.grownBy w' (some b) := by
  have HO := Lib.hid (one_st B b len cap a 4 w (by omega) h)
  clear h
  go_enter Tryd.func19, Tryd.ntmps19
  go_wp2_with fail
  refine HO.out.mono ?_
  rintro e w1 ⟨t, rfl, hst, hg⟩
  have H1 := Lib.hid (And.intro hst hg)
  clear hst hg HO
  cases t
  · go_wp2_with fail
    refine (n_st B b len cap a 1099511627776 w1 (by omega) H1.out.1).mono ?_
    rintro e w2 ⟨r, rfl, hr0, hr1, hst, hg⟩
    have H2 := Lib.hid (And.intro hst (grown_trans H1.out.2 hg))
    have hr2 : r < 1099511627776 := by omega
    clear hst hg hr1
    have hw : IntKind.i64.wrap (r - 1048576) = r - 1048576 := IntWalk.i64_in _ (by omega)
    go_wp2_with fail
    go_ret
    exact ⟨r - 1048576, rfl, by omega, by omega, H2.out.1, H2.out.2⟩
  · go_wp2_with fail
    refine (edge_st B b len cap a w1 H1.out.1).mono ?_
    rintro e w2 ⟨v, rfl, hv0, hv1, hst, hg⟩
    have H2 := Lib.hid (And.intro hst (grown_trans H1.out.2 hg))
    clear hst hg
    go_wp2_with fail
    go_ret
    exact ⟨v, rfl, hv0, hv1, H2.out.1, H2.out.2⟩

set_option maxHeartbeats 1000000 in
theorem drawPutNum_any (B : Nat) (a : Option Addr) (len cap : Nat) (w : World) (hB : B ≤ w.heap.size) (hc : Bytes B w a len cap) :
    Calls Tryd.prog 6 #[.slice a len cap] w fun e w' => ∃ v : Int, e = .returned (.int .i64 v) ∧ -9223372036854775808 ≤ v ∧ v ≤ 9223372036854775807 ∧ Below w.heap.size w w' := by
  have HS := Lib.hid (source_any B a len cap w hB hc)
  clear hc hB
  go_enter Tryd.func6, Tryd.ntmps6
  go_wp2_with fail
  refine HS.out.mono ?_
  rintro e w1 ⟨rfl, hst, hb1⟩
  have H1 := Lib.hid (And.intro hst hb1)
  clear hst hb1 HS
  go_wp2_with fail
  refine (any_st B w.heap.size len cap a w1 H1.out.1).mono ?_
  rintro e w2 ⟨v, rfl, hv0, hv1, hst, hg⟩
  have H2 := Lib.hid (H1.out.2.trans (below_of_grown hg (Nat.le_refl _) H1.out.1.2.1))
  clear hst hg H1
  go_wp2_with fail
  go_ret
  exact ⟨v, rfl, hv0, hv1, H2.out⟩

set_option maxHeartbeats 1000000 in
theorem drawPutText_any (B : Nat) (a : Option Addr) (len cap : Nat) (w : World) (hB : B ≤ w.heap.size) (hc : Bytes B w a len cap) :
    Calls Tryd.prog 10 #[.slice a len cap] w fun e w' => ∃ s : ByteArray, e = .returned (.string s) ∧ s.size ≤ 20001 ∧ Below w.heap.size w w' := by
  obtain ⟨i0, hi, hz0, hz1, hz2⟩ := info_parts Num.infoU8
  have HS := Lib.hid (source_any B a len cap w hB hc)
  clear hc hB
  go_enter Tryd.func10, Tryd.ntmps10
  go_wp2_with fail
  refine HS.out.mono ?_
  rintro e w1 ⟨rfl, hst, hb1⟩
  have H1 := Lib.hid (And.intro hst hb1)
  clear hst hb1 HS
  go_wp2_with fail
  refine (one_st B w.heap.size len cap a 8 w1 (by omega) H1.out.1).mono ?_
  rintro e w2 ⟨t, rfl, hst, hg⟩
  have H2 := Lib.hid (And.intro hst (H1.out.2.trans (below_of_grown hg (Nat.le_refl _) H1.out.1.2.1)))
  clear hst hg H1
  have HN := Lib.hid (fun m (hm : m ≤ 1000000) => n_st B w.heap.size len cap a m w2 (by omega) H2.out.1)
  cases t
  · go_wp2_with fail
    refine (HN.out 20 (by omega)).mono ?_
    rintro e w3 ⟨r, rfl, hr0, hr1, hst, hg⟩
    have H3 := Lib.hid (And.intro hst (H2.out.2.trans (below_of_grown hg (Nat.le_refl _) H2.out.1.2.1)))
    clear hst hg HN
    have hr2 : r < 20 := by omega
    clear hr1
    go_wp2_with fail
    refine (bytes_st B w.heap.size len cap a r w3 hr0 (by omega) H3.out.1).mono ?_
    rintro e w4 ⟨s, rfl, hs, hst, hg⟩
    have H4 := Lib.hid (And.intro hs (H3.out.2.trans (below_of_grown hg (Nat.le_refl _) H3.out.1.2.1)))
    clear hs hst hg H3
    go_wp2_with fail
    go_ret
    exact ⟨s, rfl, by have := H4.out.1; omega, H4.out.2⟩
  · go_wp2_with fail
    refine (HN.out 3 (by omega)).mono ?_
    rintro e w3 ⟨r, rfl, hr0, hr1, hst, hg⟩
    have H3 := Lib.hid (H2.out.2.trans (below_of_grown hg (Nat.le_refl _) H2.out.1.2.1))
    have hsz := H3.out.size
    clear hst hg HN
    obtain ⟨q, rfl⟩ := Int.eq_ofNat_of_zero_le hr0
    have hq : q < 3 := by omega
    clear hr1 hr0
    go_wp2_with (at_make; refine wpList_make_full _ rfl _ _ 22 rfl w.heap.size 5 i0 (.int .u8 0) 1 Tryd.underlying22 hi hz0 hz1 .i64 .i64 _ _ (19999 + q) rfl rfl (by omega) (by omega) ?c1 ?c2 hsz ?_)
    case c1 => rw [hz2]; omega
    case c2 => unfold maxLen; omega
    intro w4 hown hgrow
    rw [made_zero] at hown
    have hconv := Num.conv_own hown
    have HB := Lib.hid (H3.out.grown hgrow hsz (fun k hk => by cases hk))
    clear hown hgrow
    go_wp2_with fail
    go_ret
    exact ⟨⟨(List.replicate (19999 + q) (0 : UInt8)).toArray⟩, rfl, by show (List.replicate (19999 + q) (0 : UInt8)).toArray.size ≤ 20001; simp; omega, HB.out⟩
end Go.Proofs.YtbdmildlcgecjaaDoor.Src
