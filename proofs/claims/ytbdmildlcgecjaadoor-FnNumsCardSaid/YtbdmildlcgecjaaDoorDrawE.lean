/-
  The draws of the given package spec, on: a number at some limit; a made row of zeros.
-/
import Derived.Test.YtbdmildlcgecjaaDoorDraw
namespace Go.Proofs.YtbdmildlcgecjaaDoor.Src
open Go.ChangeShapes Go.WideShapes Go.ChangeAt Go.RowKit
set_option linter.unusedVariables false

theorem edge_cells (r : Nat) (h : r < 14) : ∃ v : Int, (#[Value.int .i64 0, .int .i64 1, .int .i64 (-1), .int .i64 2, .int .i64 1000, .int .i64 1001, .int .i64 2147483648, .int .i64 2147483647, .int .i64 (-2147483648), .int .i64 4611686018427387904, .int .i64 9223372036854775807, .int .i64 (-9223372036854775808), .int .i64 1000000, .int .i64 1000001] : Array Value)[r]? = some (.int .i64 v) ∧ -9223372036854775808 ≤ v ∧ v ≤ 9223372036854775807 := by
  rcases (by omega : r = 0 ∨ r = 1 ∨ r = 2 ∨ r = 3 ∨ r = 4 ∨ r = 5 ∨ r = 6 ∨ r = 7 ∨ r = 8 ∨ r = 9 ∨ r = 10 ∨ r = 11 ∨ r = 12 ∨ r = 13) with rfl | rfl | rfl | rfl | rfl | rfl | rfl | rfl | rfl | rfl | rfl | rfl | rfl | rfl
  all_goals exact ⟨_, rfl, by decide, by decide⟩

set_option maxHeartbeats 1000000 in
theorem edge_st (B b len cap : Nat) (a : Option Addr) (w : World) (h : St B b a len cap w) :
    Calls Tryd.prog 27 #[.pointer (some ⟨b, 0, none⟩)] w fun e w' => ∃ v : Int, e = .returned (.int .i64 v) ∧ -9223372036854775808 ≤ v ∧ v ≤ 9223372036854775807 ∧ St B b a len cap w' ∧ w.grownBy w' (some b) := by
  have HS := Lib.hid h
  have hbw := h.2.1
  clear h
  go_enter Tryd.func27, Tryd.ntmps27
  go_wp2_with fail
  refine (n_st B b len cap a 14 _ (by omega) (HS.out.above ((Below.refl _ _).alloc (by omega) _))).mono ?_
  rintro e w1 ⟨r, rfl, hr0, hr1, hst, hg1⟩
  obtain ⟨q, rfl⟩ := Int.eq_ofNat_of_zero_le hr0
  have hq : q < 14 := by omega
  have hblk := (hg1.block w.heap.size (by simp) (fun e => by cases e; omega)).trans (heap_alloc_new w _)
  obtain ⟨v, hv, hv0, hv1⟩ := edge_cells q hq
  have hcell := (cell_of_row w1 w.heap.size q _ _ (0, 0) hblk).trans hv
  have HE := Lib.hid (And.intro hst (grown_trans (World.grownBy_alloc w _ _) hg1))
  have HV := Lib.hid (And.intro hv0 hv1)
  clear hst hg1 hblk hv hr1 hv0 hv1
  go_wp2_with fail
  go_ret
  exact ⟨v, rfl, HV.out.1, HV.out.2, HE.out.1, HE.out.2⟩

theorem made_zero (N : Nat) : (madeCells #[Value.int .u8 0] N).toList = (List.replicate N (0 : UInt8)).map Num.byteV := by
  apply List.ext_getElem
  · simp [madeCells]
  · intro i h1 h2
    simp [madeCells, Num.byteV, Nat.mod_one]

end Go.Proofs.YtbdmildlcgecjaaDoor.Src
