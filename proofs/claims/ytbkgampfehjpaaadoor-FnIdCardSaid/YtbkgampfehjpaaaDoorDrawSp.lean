/-
  The draws of the given package spec, on: one of some texts; a text a little changed. Of what was there nothing is written but the source.
-/
import Derived.Test.YtbkgampfehjpaaaDoorDrawS
import Derived.Deep.DeepCutAuto
import Derived.IntWalk
import Derived.WalkSmall
namespace Go.Proofs.YtbkgampfehjpaaaDoor.Src
open Go.ChangeShapes Go.WideShapes Go.ChangeAt Go.RowKit
set_option linter.unusedVariables false

/-- What a draw of a text answers. -/
def TextPost (B b len cap : Nat) (a : Option Addr) (n : Nat) (w : World) (x : Ending) (w' : World) : Prop :=
  ∃ u : ByteArray, x = .returned (.string u) ∧ u.size ≤ n ∧ St B b a len cap w' ∧ w.grownBy w' (some b)

set_option maxHeartbeats 1000000 in
theorem pick_st (B b len cap g t n : Nat) (a : Option Addr) (ps : List ByteArray) (w : World) (h : St B b a len cap w) (hg : g ≠ b) (hrow : w.heap[g]? = some (.cells (ps.map Value.string).toArray t (0, 0)))
    (h1 : 1 ≤ ps.length) (h2 : ps.length ≤ 1000) (hn : ∀ p ∈ ps, p.size ≤ n) :
    Calls Tryd.prog 27 #[.pointer (some ⟨b, 0, none⟩), .slice (some ⟨g, 0, none⟩) ps.length ps.length] w (TextPost B b len cap a n w) := by
  have HS := Lib.hid h
  have HR := Lib.hid hrow
  have HN := Lib.hid hn
  have hbw := h.2.1
  clear h hrow hn
  go_enter Tryd.func27, Tryd.ntmps27
  go_wp2_with fail
  refine (n_st B b len cap a (ps.length : Int) _ (by omega) HS.out).mono ?_
  rintro x w1 ⟨r, rfl, hr0, hr1, hst, hg1⟩
  obtain ⟨q, rfl⟩ := Int.eq_ofNat_of_zero_le hr0
  have hq : q < ps.length := by omega
  have hq2 : (q : Int) < (ps.length : Int) := by omega
  have hlt : g < w.heap.size := (Array.getElem?_eq_some_iff.1 HR.out).1
  have hblk := (hg1.block g hlt (fun e => by cases e; exact hg rfl)).trans HR.out
  obtain ⟨p, hp⟩ : ∃ p, ps[q]? = some p := ⟨_, List.getElem?_eq_getElem hq⟩
  have hcell : w1.cell? ⟨g, q, none⟩ = some (.string p) := (cell_of_row w1 g q _ _ (0, 0) hblk).trans (by simp [hp])
  have HP : Hid (p ∈ ps) := Lib.hid (List.mem_of_getElem? hp)
  have HE := Lib.hid (And.intro hst hg1)
  clear hst hg1 hblk hp hr1
  go_wp2_with fail
  go_ret
  exact ⟨p, rfl, HN.out p HP.out, HE.out.1, HE.out.2⟩

theorem one_size (d : UInt8) : (⟨#[d]⟩ : ByteArray).size = 1 := rfl
theorem conv_one (W : World) (d : UInt8) :
    (convert 22 9 (.slice (some ⟨W.heap.size, 0, none⟩) 1 1)).run Tryd.prog (W.alloc (.cells #[.int .u8 (d.toNat : Int)] 5)) = .ok (.string ⟨#[d]⟩) (W.alloc (.cells #[.int .u8 (d.toNat : Int)] 5)) :=
  run_convert_bytes_back (P := Tryd.prog) (W.alloc (.cells #[.int .u8 (d.toNat : Int)] 5)) 22 9 5 ⟨W.heap.size, 0, none⟩ 1 [d] Tryd.underlying22 Tryd.underlying5 Tryd.underlying9 (fun j hj => by
    obtain rfl : j = 0 := by simpa using hj
    exact cell_of_row _ _ 0 _ 5 (0, 0) (heap_alloc_new W _))

set_option maxHeartbeats 2000000 in
set_option maxRecDepth 100000 in
theorem spoil_st (B b len cap : Nat) (a : Option Addr) (t : ByteArray) (w : World) (h : St B b a len cap w) (ht : t.size ≤ 100000) :
    Calls Tryd.prog 26 #[.pointer (some ⟨b, 0, none⟩), .string t] w (TextPost B b len cap a 200001 w) := by
  have HS := Lib.hid h
  have hbw := h.2.1
  clear h
  go_enter Tryd.func26, Tryd.ntmps26
  go_wp2_with fail
  refine (n_st B b len cap a ((t.size : Int) + 1) _ (by omega) HS.out).mono ?_
  rintro x w1 ⟨k0, rfl, hk0, hk1, hst1, hg1⟩
  obtain ⟨k, rfl⟩ := Int.eq_ofNat_of_zero_le hk0
  have hk : k ≤ t.size := by omega
  have S1 := Lib.hid hst1
  have G1 := Lib.hid hg1
  clear hst1 hg1 hk1
  go_wp2_with fail
  refine (n_st B b len cap a 17 _ (by omega) S1.out).mono ?_
  rintro x w2 ⟨r, rfl, hr0, hr1, hst2, hg2⟩
  obtain ⟨q, rfl⟩ := Int.eq_ofNat_of_zero_le hr0
  have hq : q < 17 := by omega
  have hq2 : (q : Int) < 17 := by omega
  have S2 := Lib.hid hst2
  have G2 := Lib.hid (grown_trans G1.out hg2)
  clear hst2 hg2 hr1
  have hconv := conv_one w2
  by_cases hkt : k = t.size
  · have e1 : ((k : Int) == (t.size : Int)) = true := by simp [hkt]
    clear hkt
    go_wp2_with fail
    have S3 := Lib.hid (S2.out.above ((Below.refl (b + 1) w2).alloc (by have := S2.out.2.1; omega) (Obj.cells #[Value.int .u8 ((({ data := #[32, 10, 48, 97, 45, 110, 44, 58, 93, 255, 40, 120, 126, 49, 128, 225, 59] } : ByteArray)[q]'(by show q < 17; omega)).toNat : Int)] 5)))
    have G3 := Lib.hid (grown_trans G2.out (World.grownBy_alloc w2 (Obj.cells #[Value.int .u8 ((({ data := #[32, 10, 48, 97, 45, 110, 44, 58, 93, 255, 40, 120, 126, 49, 128, 225, 59] } : ByteArray)[q]'(by show q < 17; omega)).toNat : Int)] 5) (some b)))
    generalize World.alloc w2 _ = W3 at S3 G3 ⊢
    generalize ({ data := #[32, 10, 48, 97, 45, 110, 44, 58, 93, 255, 40, 120, 126, 49, 128, 225, 59] } : ByteArray)[q] = d at *
    clear hconv S2 G2
    have k1 : (0 : Int) ≤ (k : Int) := by omega
    have k2 : (k : Int) ≤ (t.size : Int) := by omega
    go_quiet (fail)
    go_wp2
    go_ret
    exact ⟨_, rfl, by simp [ByteArray.size_append, ByteArray.size_extract, one_size]; omega, S3.out.above (below_drewN (Below.refl _ _) nq), grown_above G3.out (below_drewN (Below.refl _ _) nq)⟩
  · have e1 : ((k : Int) == (t.size : Int)) = false := beq_eq_false_iff_ne.2 (by omega)
    have hlt : k < t.size := by omega
    clear hkt
    go_wp2_with fail
    have S3 := Lib.hid (S2.out.above ((Below.refl (b + 1) w2).alloc (by have := S2.out.2.1; omega) (Obj.cells #[Value.int .u8 ((({ data := #[32, 10, 48, 97, 45, 110, 44, 58, 93, 255, 40, 120, 126, 49, 128, 225, 59] } : ByteArray)[q]'(by show q < 17; omega)).toNat : Int)] 5)))
    have G3 := Lib.hid (grown_trans G2.out (World.grownBy_alloc w2 (Obj.cells #[Value.int .u8 ((({ data := #[32, 10, 48, 97, 45, 110, 44, 58, 93, 255, 40, 120, 126, 49, 128, 225, 59] } : ByteArray)[q]'(by show q < 17; omega)).toNat : Int)] 5) (some b)))
    generalize World.alloc w2 _ = W3 at S3 G3 ⊢
    generalize ({ data := #[32, 10, 48, 97, 45, 110, 44, 58, 93, 255, 40, 120, 126, 49, 128, 225, 59] } : ByteArray)[q] = d at *
    clear hconv S2 G2
    have k1 : (0 : Int) ≤ (k : Int) := by omega
    have k2 : (k : Int) ≤ (t.size : Int) := by omega
    refine (one_st B b len cap a 3 _ (by omega) S3.out).mono ?_
    rintro x w4 ⟨t1, rfl, hst4, hg4⟩
    have S4 := Lib.hid hst4
    have G4 := Lib.hid (grown_trans G3.out hg4)
    clear hst4 hg4 S3 G3
    cases t1
    · go_wp2_with fail
      refine (one_st B b len cap a 2 _ (by omega) S4.out).mono ?_
      rintro x w5 ⟨t2, rfl, hst5, hg5⟩
      have S5 := Lib.hid hst5
      have G5 := Lib.hid (grown_trans G4.out hg5)
      clear hst5 hg5 S4 G4
      cases t2
      · go_wp2_with fail
        have p1 : IntKind.i64.wrap ((k : Int) + 1) = (k : Int) + 1 := IntWalk.i64_in _ (by omega)
        have p2 : (0 : Int) ≤ (k : Int) + 1 := by omega
        have p3 : ((k : Int) + 1).toNat = k + 1 := by omega
        have p4 : (k : Int) + 1 ≤ (t.size : Int) := by omega
        go_quiet (fail)
        go_wp2
        go_ret
        exact ⟨_, rfl, by simp [ByteArray.size_append, ByteArray.size_extract, one_size]; omega, S5.out.above (below_drewN (Below.refl _ _) nq), grown_above G5.out (below_drewN (Below.refl _ _) nq)⟩
      · go_wp2_with fail
        have p1 : IntKind.i64.wrap ((k : Int) + 1) = (k : Int) + 1 := IntWalk.i64_in _ (by omega)
        have p2 : (0 : Int) ≤ (k : Int) + 1 := by omega
        have p3 : ((k : Int) + 1).toNat = k + 1 := by omega
        have p4 : (k : Int) + 1 ≤ (t.size : Int) := by omega
        go_quiet (fail)
        go_wp2
        go_ret
        exact ⟨_, rfl, by simp [ByteArray.size_append, ByteArray.size_extract]; omega, S5.out.above (below_drewN (Below.refl _ _) nq), grown_above G5.out (below_drewN (Below.refl _ _) nq)⟩
    · go_wp2_with fail
      go_quiet (fail)
      go_wp2
      go_ret
      exact ⟨_, rfl, by simp [ByteArray.size_append, ByteArray.size_extract, one_size]; omega, S4.out.above (below_drewN (Below.refl _ _) nq), grown_above G4.out (below_drewN (Below.refl _ _) nq)⟩
end Go.Proofs.YtbkgampfehjpaaaDoor.Src
