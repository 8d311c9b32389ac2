/-
  The draws of the given package spec, on: an Id. What is drawn is some Id; of what was there nothing is written but the source.
-/
import Derived.Test.YtkmlnibkdcdegaaDrawS
import Derived.Test.YtkmlnibkdcdegaaIdPut
import Derived.Deep.DeepCutAuto
namespace Go.Proofs.Ytkmlnibkdcdegaa.Src
open Go.ChangeShapes Go.WideShapes Go.ChangeAt Go.RowKit
open Go.Proofs.Ytkmlnibkdcdegaa.Id (IdRow idV)
set_option linter.unusedVariables false
set_option maxRecDepth 100000

theorem idrow_grown {W w1 : World} {k b t : Nat} {c s e : Int} (h : IdRow W k t c s e) (hg : W.grownBy w1 (some b)) (hne : k ≠ b) : IdRow w1 k t c s e :=
  (hg.block k h.lt (fun e => by cases e; exact hne rfl)).trans h
theorem put_above (W : World) (g n : Nat) (hn : n ≤ g) (x y z : Value) : Below n W (((W.setCell ⟨g, 0, none⟩ x).setCell ⟨g, 1, none⟩ y).setCell ⟨g, 2, none⟩ z) := (Id.below_put W g x y z).mono hn

/-- What a draw of an Id answers. -/
def IdPost (B b len cap : Nat) (a : Option Addr) (w : World) (x : Ending) (w' : World) : Prop :=
  ∃ c s e : Int, x = .returned (idV c s e) ∧ St B b a len cap w' ∧ w.grownBy w' (some b)

set_option maxHeartbeats 1000000 in
theorem idOf_st (B b len cap : Nat) (a : Option Addr) (w : World) (h : St B b a len cap w) :
    Calls Try.prog 95 #[.pointer (some ⟨b, 0, none⟩)] w (IdPost B b len cap a w) := by
  have HS := Lib.hid h
  have hbw := h.2.1
  clear h
  go_enter Try.func95, Try.ntmps95
  go_wp2_with fail
  refine (n_st B b len cap a 9 _ (by omega) (HS.out.above ((Below.refl _ _).alloc (by omega) _))).mono ?_
  rintro x w1 ⟨r1, rfl, h10, h11, hst1, hg1⟩
  have hr1 : r1 < 9 := by omega
  have R1 := Lib.hid (idrow_grown (IdRow.new w 30 0 0 0) hg1 (by omega))
  have S1 := Lib.hid hst1
  have G1 := Lib.hid (grown_trans (World.grownBy_alloc w _ _) hg1)
  clear hst1 hg1 h11
  go_wp2_with fail
  refine (n_st B b len cap a 3 _ (by omega) S1.out).mono ?_
  rintro x w2 ⟨r2, rfl, h20, h21, hst2, hg2⟩
  have hr2 : r2 < 3 := by omega
  have R2 := Lib.hid (idrow_grown R1.out hg2 (by omega))
  have S2 := Lib.hid hst2
  have G2 := Lib.hid (grown_trans G1.out hg2)
  clear hst2 hg2 h21
  go_wp2_with fail
  refine (n_st B b len cap a 2 _ (by omega) S2.out).mono ?_
  rintro x w3 ⟨r3, rfl, h30, h31, hst3, hg3⟩
  have hr3 : r3 < 2 := by omega
  have R3 := idrow_grown R2.out hg3 (by omega)
  have S3 := Lib.hid hst3
  have G3 := Lib.hid (grown_trans G2.out hg3)
  obtain ⟨c0, c1, c2⟩ := R3.cells
  obtain ⟨f0, f1, f2⟩ := R3.frozen
  clear hst3 hg3 h31
  go_wp2_with fail
  obtain ⟨d0, d1, d2⟩ := (Id.IdRow.put (x := 1 + r1) (y := 1 + r2) (z := r3) R3).cells
  refine bodyPost_ret (v := idV (1 + r1) (1 + r2) r3) (by simp [results, Try.results95, go_sem, idV, d0, d1, d2]) rfl ?_
  exact ⟨_, _, _, rfl, S3.out.above (put_above w3 w.heap.size (b + 1) (by omega) _ _ _), grown_above G3.out (put_above w3 w.heap.size w.heap.size (by omega) _ _ _)⟩

theorem clock_cells (r : Nat) (h : r < 4) : ∃ v : Int, (#[Value.int .i64 0, .int .i64 (-1), .int .i64 1000000, .int .i64 1000001] : Array Value)[r]? = some (.int .i64 v) := by
  rcases (by omega : r = 0 ∨ r = 1 ∨ r = 2 ∨ r = 3) with rfl | rfl | rfl | rfl
  all_goals exact ⟨_, rfl⟩
theorem epoch_cells (r : Nat) (h : r < 3) : ∃ v : Int, (#[Value.int .i64 (-1), .int .i64 99, .int .i64 100] : Array Value)[r]? = some (.int .i64 v) := by
  rcases (by omega : r = 0 ∨ r = 1 ∨ r = 2) with rfl | rfl | rfl
  all_goals exact ⟨_, rfl⟩

/-- Block g holds some Id, the block of the result none; the source goes on. -/
def Mid (B b len cap : Nat) (a : Option Addr) (w : World) (g : Nat) (W : World) : Prop :=
  w.heap.size < g ∧ (∃ c s e, IdRow W g 30 c s e) ∧ IdRow W w.heap.size 30 0 0 0 ∧ St B b a len cap W ∧ w.grownBy W (some b)
theorem Mid.put {B b len cap g : Nat} {a : Option Addr} {w W : World} (h : Mid B b len cap a w g W) (hb : b < w.heap.size) (x y z : Int) :
    Mid B b len cap a w g (((W.setCell ⟨g, 0, none⟩ (.int .i64 x)).setCell ⟨g, 1, none⟩ (.int .i64 y)).setCell ⟨g, 2, none⟩ (.int .i64 z)) := by
  obtain ⟨h1, ⟨c, s, e, h2⟩, h3, h4, h5⟩ := h
  exact ⟨h1, ⟨x, y, z, h2.put⟩, h3.step (Id.below_put W g _ _ _) h1, h4.above (put_above W g (b + 1) (by omega) _ _ _), grown_above h5 (put_above W g w.heap.size (by omega) _ _ _)⟩
theorem Mid.set {B b len cap g : Nat} {a : Option Addr} {w W : World} (h : Mid B b len cap a w g W) (hb : b < w.heap.size) (j : Nat) (hj : j < 3) (x : Int) :
    Mid B b len cap a w g (W.setCell ⟨g, j, none⟩ (.int .i64 x)) := by
  obtain ⟨h1, ⟨c, s, e, h2⟩, h3, h4, h5⟩ := h
  have hbl : Below g W (W.setCell ⟨g, j, none⟩ (.int .i64 x)) := (Below.refl g W).setCell (p := ⟨g, j, none⟩) (Nat.le_refl g) _
  refine ⟨h1, ?_, h3.step hbl h1, h4.above (hbl.mono (by omega)), grown_above h5 (hbl.mono (by omega))⟩
  unfold IdRow at h2 ⊢
  rcases (by omega : j = 0 ∨ j = 1 ∨ j = 2) with rfl | rfl | rfl
  · exact ⟨x, s, e, by simp [World.setCell, Array.getElem?_modify, h2]⟩
  · exact ⟨c, x, e, by simp [World.setCell, Array.getElem?_modify, h2]⟩
  · exact ⟨c, s, x, by simp [World.setCell, Array.getElem?_modify, h2]⟩
theorem Mid.grown {B b len cap g : Nat} {a : Option Addr} {w W w1 : World} (h : Mid B b len cap a w g W) (hb : b < w.heap.size) (hs : St B b a len cap w1) (hg : W.grownBy w1 (some b)) : Mid B b len cap a w g w1 := by
  obtain ⟨h1, ⟨c, s, e, h2⟩, h3, h4, h5⟩ := h
  exact ⟨h1, ⟨c, s, e, idrow_grown h2 hg (by omega)⟩, idrow_grown h3 hg (by omega), hs, grown_trans h5 hg⟩
theorem Mid.alloc {B b len cap g : Nat} {a : Option Addr} {w W : World} (h : Mid B b len cap a w g W) (hb : b < w.heap.size) (o : Obj) : Mid B b len cap a w g (W.alloc o) :=
  h.grown hb (h.2.2.2.1.above ((Below.refl _ _).alloc (by have := h.2.2.2.1.2.1; omega) _)) (World.grownBy_alloc W _ _)
theorem Mid.facts {B b len cap g : Nat} {a : Option Addr} {w W : World} (h : Mid B b len cap a w g W) :
    (∃ c s e : Int, W.cell? ⟨g, 0, none⟩ = some (.int .i64 c) ∧ W.cell? ⟨g, 1, none⟩ = some (.int .i64 s) ∧ W.cell? ⟨g, 2, none⟩ = some (.int .i64 e)) ∧ W.frozen? ⟨g, 0, none⟩ = false ∧ W.frozen? ⟨g, 1, none⟩ = false ∧ W.frozen? ⟨g, 2, none⟩ = false := by
  obtain ⟨h1, ⟨c, s, e, h2⟩, _⟩ := h
  exact ⟨⟨c, s, e, h2.cells⟩, h2.frozen⟩

set_option maxHeartbeats 2000000 in
set_option maxRecDepth 100000 in
theorem id_st (B b len cap : Nat) (a : Option Addr) (w : World) (h : St B b a len cap w) :
    Calls Try.prog 50 #[.pointer (some ⟨b, 0, none⟩)] w (IdPost B b len cap a w) := by
  have HS := Lib.hid h
  have hbw := h.2.1
  clear h
  go_enter Try.func50, Try.ntmps50
  go_wp2_with fail
  refine (idOf_st B b len cap a _ (HS.out.above ((Below.refl _ _).alloc (by omega) _))).mono ?_
  rintro x w1 ⟨c, s, e, rfl, hst1, hg1⟩
  have R1 := Lib.hid (idrow_grown (IdRow.new w 30 0 0 0) hg1 (by omega))
  have S1 := Lib.hid hst1
  have G1 := Lib.hid (grown_trans (World.grownBy_alloc w _ _) hg1)
  unfold idV
  clear hst1 hg1
  go_wp2_with fail
  have M2 : Mid B b len cap a w w1.heap.size (w1.alloc (.cells #[.int .i64 c, .int .i64 s, .int .i64 e] 30)) :=
    ⟨R1.out.lt, ⟨c, s, e, IdRow.new _ _ _ _ _⟩, R1.out.alloc _, S1.out.above ((Below.refl _ _).alloc (by have := S1.out.2.1; omega) _), grown_trans G1.out (World.grownBy_alloc w1 _ _)⟩
  have M := Lib.hid M2
  generalize World.alloc w1 _ = W2 at M2 M ⊢
  clear M2
  generalize w1.heap.size = g at *
  refine (one_st B b len cap a 10 _ (by omega) M.out.2.2.2.1).mono ?_
  rintro x w3 ⟨t, rfl, hst3, hg3⟩
  have M3 := Lib.hid (M.out.grown hbw hst3 hg3)
  clear hst3 hg3
  go_upto_if 7 with fail
  go_cut [3] (fun s3 wx => s3 = .pointer (some ⟨g, 0, none⟩) ∧ Mid B b len cap a w g wx)
  case first =>
    cases t
    · go_wp2_with fail
      go_meet
      exact ⟨rfl, M3.out⟩
    · go_wp2_with fail
      refine (n_st B b len cap a 4 _ (by omega) M3.out.2.2.2.1).mono ?_
      rintro x w4 ⟨r, rfl, hr0, hr1, hst4, hg4⟩
      have hr : r = 0 ∨ r = 1 ∨ r = 2 ∨ r = 3 := by omega
      have M4 := Lib.hid (M3.out.grown hbw hst4 hg4)
      clear hst4 hg4 hr0 hr1
      rcases hr with rfl | rfl | rfl | rfl
      · go_wp2_with fail
        have M5 := Lib.hid (M4.out.alloc hbw (Obj.cells #[Value.int .i64 0, .int .i64 (-1), .int .i64 1000000, .int .i64 1000001] 2))
        refine (n_st B b len cap a 4 _ (by omega) M5.out.2.2.2.1).mono ?_
        rintro x w5 ⟨r, rfl, hr0, hr1, hst5, hg5⟩
        obtain ⟨q, rfl⟩ := Int.eq_ofNat_of_zero_le hr0
        have hq : q < 4 := by omega
        have hne : w4.heap.size ≠ b := by have := M4.out.2.2.2.1.2.1; omega
        have hblk := (hg5.block w4.heap.size (by simp) (fun e => by cases e; exact hne rfl)).trans (heap_alloc_new w4 _)
        obtain ⟨v, hv⟩ := clock_cells q hq
        have hcell := (cell_of_row w5 w4.heap.size q _ _ (0, 0) hblk).trans hv
        have M6 := Lib.hid (M5.out.grown hbw hst5 hg5)
        obtain ⟨⟨c1, s1, e1, k0, k1, k2⟩, f0, f1, f2⟩ := M6.out.facts
        clear hst5 hg5 hr1 hblk hv hne
        go_wp2_with fail
        go_meet
        exact ⟨rfl, M6.out.set hbw 0 (by omega) v⟩
      · go_wp2_with fail
        refine (n_st B b len cap a 5 _ (by omega) M4.out.2.2.2.1).mono ?_
        rintro x w5 ⟨r, rfl, hr0, hr1, hst5, hg5⟩
        have M6 := Lib.hid (M4.out.grown hbw hst5 hg5)
        obtain ⟨⟨c1, s1, e1, k0, k1, k2⟩, f0, f1, f2⟩ := M6.out.facts
        clear hst5 hg5 hr1
        go_wp2_with fail
        go_meet
        exact ⟨rfl, M6.out.set hbw 1 (by omega) r⟩
      · go_wp2_with fail
        have M5 := Lib.hid (M4.out.alloc hbw (Obj.cells #[Value.int .i64 (-1), .int .i64 99, .int .i64 100] 2))
        refine (n_st B b len cap a 3 _ (by omega) M5.out.2.2.2.1).mono ?_
        rintro x w5 ⟨r, rfl, hr0, hr1, hst5, hg5⟩
        obtain ⟨q, rfl⟩ := Int.eq_ofNat_of_zero_le hr0
        have hq : q < 3 := by omega
        have hne : w4.heap.size ≠ b := by have := M4.out.2.2.2.1.2.1; omega
        have hblk := (hg5.block w4.heap.size (by simp) (fun e => by cases e; exact hne rfl)).trans (heap_alloc_new w4 _)
        obtain ⟨v, hv⟩ := epoch_cells q hq
        have hcell := (cell_of_row w5 w4.heap.size q _ _ (0, 0) hblk).trans hv
        have M6 := Lib.hid (M5.out.grown hbw hst5 hg5)
        obtain ⟨⟨c1, s1, e1, k0, k1, k2⟩, f0, f1, f2⟩ := M6.out.facts
        clear hst5 hg5 hr1 hblk hv hne
        go_wp2_with fail
        go_meet
        exact ⟨rfl, M6.out.set hbw 2 (by omega) v⟩
      · obtain ⟨⟨c1, s1, e1, k0, k1, k2⟩, f0, f1, f2⟩ := M4.out.facts
        go_wp2_with fail
        go_meet
        exact ⟨rfl, M4.out.put hbw 0 0 0⟩
  case rest =>
    obtain ⟨rfl, hm⟩ := hcut
    have M7 := Lib.hid hm
    obtain ⟨⟨c1, s1, e1, k0, k1, k2⟩, _, _, _⟩ := hm.facts
    obtain ⟨r0, r1, r2⟩ := hm.2.2.1.cells
    obtain ⟨f0, f1, f2⟩ := hm.2.2.1.frozen
    obtain ⟨d0, d1, d2⟩ := (Id.IdRow.put (x := c1) (y := s1) (z := e1) hm.2.2.1).cells
    clear hm
    go_wp2_with fail
    refine bodyPost_ret (v := idV c1 s1 e1) (by simp [results, Try.results50, go_sem, idV, d0, d1, d2]) rfl ?_
    exact ⟨_, _, _, rfl, M7.out.2.2.2.1.above (put_above _ w.heap.size (b + 1) (by omega) _ _ _), grown_above M7.out.2.2.2.2 (put_above _ w.heap.size w.heap.size (by omega) _ _ _)⟩
end Go.Proofs.Ytkmlnibkdcdegaa.Src
