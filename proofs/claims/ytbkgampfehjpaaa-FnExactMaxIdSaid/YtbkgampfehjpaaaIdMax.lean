/-
  The Go law FnExactMaxId answers true for every two Ids.
-/
import Derived.Test.YtbkgampfehjpaaaIdLaw
namespace Go.Proofs.Ytbkgampfehjpaaa.Id
open Go.ChangeShapes Go.WideShapes Go.ChangeAt Go.RowKit
set_option linter.unusedVariables false

theorem IdRow.free {W : World} {b t : Nat} {c s e : Int} (h : IdRow W b t c s e) (j : Nat) : W.frozen? ⟨b, j, none⟩ = false := by
  unfold IdRow at h
  simp [World.frozen?, h]
theorem IdRow.drew {W : World} {b t : Nat} {c s e : Int} (h : IdRow W b t c s e) : IdRow W.drew b t c s e := h
theorem IdRow.stepA {X w1 : World} {o : Obj} {b t : Nat} {c s e : Int} (h : IdRow X b t c s e) (hb : Below (X.alloc o).heap.size (X.alloc o) w1) : IdRow w1 b t c s e := (h.alloc o).step hb (h.alloc o).lt
theorem IdRow.stepD {X w1 : World} {o : Obj} {b t : Nat} {c s e : Int} (h : IdRow X.drew b t c s e) (hb : Below (X.alloc o).drew.heap.size (X.alloc o).drew w1) : IdRow w1 b t c s e :=
  (IdRow.drew (IdRow.alloc (W := X) h o)).step hb (IdRow.alloc (W := X) h o).lt
theorem Two.lt {w W : World} {b : Nat} {c s e c' s' e' : Int} (h : Two w b c s e c' s' e' W) : b + 1 < W.heap.size := World.block_lt_of_cell? W _ h.2.1.1
/-- A box that the region makes, behind a call. -/
theorem rowNew {w X w' : World} {b t : Nat} {c s e c' s' e' x y z : Int} (h : Two w b c s e c' s' e' X) (hb : Below (X.alloc (.cells #[.int .i64 x, .int .i64 y, .int .i64 z] t)).heap.size (X.alloc (.cells #[.int .i64 x, .int .i64 y, .int .i64 z] t)) w') :
    IdRow w' X.heap.size t x y z ∧ b + 1 < X.heap.size ∧ w.heap.size ≤ X.heap.size := ⟨(IdRow.new X t x y z).step hb (by simp), h.lt, h.2.2.size⟩
theorem rowNewD {w X w' : World} {b t : Nat} {c s e c' s' e' x y z : Int} (h : Two w b c s e c' s' e' X.drew) (hb : Below (X.alloc (.cells #[.int .i64 x, .int .i64 y, .int .i64 z] t)).drew.heap.size (X.alloc (.cells #[.int .i64 x, .int .i64 y, .int .i64 z] t)).drew w') :
    IdRow w' X.heap.size t x y z ∧ b + 1 < X.heap.size ∧ w.heap.size ≤ X.heap.size := ⟨(show IdRow (X.alloc (.cells #[.int .i64 x, .int .i64 y, .int .i64 z] t)).drew X.heap.size t x y z from IdRow.new X t x y z).step hb (by simp [World.drew]), h.lt, h.2.2.size⟩
theorem Two.set3 {w W : World} {b g : Nat} {c s e c' s' e' : Int} {x y z : Value} (h : Two w b c s e c' s' e' W) (hg : b + 1 < g) (hw : w.heap.size ≤ g) :
    Two w b c s e c' s' e' (((W.setCell ⟨g, 0, none⟩ x).setCell ⟨g, 1, none⟩ y).setCell ⟨g, 2, none⟩ z) := by
  obtain ⟨⟨a0, a1, a2⟩, ⟨b0, b1, b2⟩, h3⟩ := h
  have k := fun (p : Addr) (v : Value) (hp : p.block ≠ g) (hc : W.cell? p = some v) => show (((W.setCell ⟨g, 0, none⟩ x).setCell ⟨g, 1, none⟩ y).setCell ⟨g, 2, none⟩ z).cell? p = some v by
    rw [World.cell?_setCell_far _ _ _ _ hp.symm, World.cell?_setCell_far _ _ _ _ hp.symm, World.cell?_setCell_far _ _ _ _ hp.symm, hc]
  exact ⟨⟨k _ _ (by simp; omega) a0, k _ _ (by simp; omega) a1, k _ _ (by simp; omega) a2⟩, ⟨k _ _ (by simp; omega) b0, k _ _ (by simp; omega) b1, k _ _ (by simp; omega) b2⟩, ((h3.setCell hw _).setCell hw _).setCell hw _⟩
theorem IdRow.set3 {W : World} {g t : Nat} {c s e x y z : Int} (h : IdRow W g t c s e) :
    IdRow (((W.setCell ⟨g, 0, none⟩ (.int .i64 x)).setCell ⟨g, 1, none⟩ (.int .i64 y)).setCell ⟨g, 2, none⟩ (.int .i64 z)) g t x y z := by
  unfold IdRow at *
  simp [World.setCell, Array.getElem?_modify, h]

theorem IdRow.far3 {W : World} {g t k : Nat} {c s e : Int} {x y z : Value} (h : IdRow W g t c s e) (hk : g < k) :
    IdRow (((W.setCell ⟨k, 0, none⟩ x).setCell ⟨k, 1, none⟩ y).setCell ⟨k, 2, none⟩ z) g t c s e := by
  have hb : Below (g + 1) W (((W.setCell ⟨k, 0, none⟩ x).setCell ⟨k, 1, none⟩ y).setCell ⟨k, 2, none⟩ z) := (((Below.refl _ _).setCell (by show g + 1 ≤ k; omega) _).setCell (by show g + 1 ≤ k; omega) _).setCell (by show g + 1 ≤ k; omega) _
  exact h.step hb (by omega)

set_option maxHeartbeats 4000000 in
theorem lawMaxId (c s e c' s' e' : Int) (w : World) :
    Calls Try.prog 5 #[idV c s e, idV c' s' e'] w fun x w' => x = .returned (.bool true) ∧ Below w.heap.size w w' := by
  have H0 := Lib.hid (two_new w 23 23 c s e c' s' e')
  obtain ⟨x0, y0, z0, hm⟩ : ∃ x y z, maxV c s e c' s' e' = idV x y z := by unfold maxV; split; exact ⟨_, _, _, rfl⟩; exact ⟨_, _, _, rfl⟩
  have HM := Lib.hid hm
  clear hm
  unfold idV
  go_enter Try.func5, Try.ntmps5
  go_upto_region 1 with fail
  have h0 := H0.out
  clear H0
  generalize hbs : w.heap.size = b at h0 ⊢
  generalize (World.alloc (World.alloc w _) _) = W0 at h0 ⊢
  go_cut [5] (fun s5 wx => ∃ g : Nat, s5 = .pointer (some ⟨g, 0, none⟩) ∧ IdRow wx g 25 x0 y0 z0 ∧ Two w b c s e c' s' e' wx)
  case first =>
    have HQ := Lib.hid h0.drew
    go_region_held3 (fun W => (W.cell? ⟨b, 0, none⟩ = some (.int .i64 c) ∧ W.cell? ⟨b, 1, none⟩ = some (.int .i64 s) ∧ W.cell? ⟨b, 2, none⟩ = some (.int .i64 e)) ∧
        (W.cell? ⟨b + 1, 0, none⟩ = some (.int .i64 c') ∧ W.cell? ⟨b + 1, 1, none⟩ = some (.int .i64 s') ∧ W.cell? ⟨b + 1, 2, none⟩ = some (.int .i64 e')) ∧ Below w.heap.size w W)
      (first | exact Two.drew (b := b) (by assumption) | exact Two.step (b := b) (by assumption) hb | exact Two.step HQ.out ((Below.refl _ _).alloc (Nat.le_refl _) _) | exact Two.step (b := b) (by assumption) ((Below.refl _ _).alloc (Nat.le_refl _) _) | exact Two.set3 (b := b) (by assumption) (by assumption) (by assumption))
      (first | (go_at_call 7; refine (toId_any _ _ _ _).mono ?_; rintro x w' ⟨rfl, hb⟩; (try (have Z := IdRow.step Z hb Z.lt; obtain ⟨q0, q1, q2⟩ := Z.cells; have f0 := Z.free 0; have f1 := Z.free 1; have f2 := Z.free 2)); (try (obtain ⟨Z, gb, gw⟩ := rowNew (b := b) HQ.out hb; obtain ⟨q0, q1, q2⟩ := Z.cells; have f0 := Z.free 0; have f1 := Z.free 1; have f2 := Z.free 2)); (try (obtain ⟨Z, gb, gw⟩ := rowNewD (b := b) HQ.out hb; obtain ⟨q0, q1, q2⟩ := Z.cells; have f0 := Z.free 0; have f1 := Z.free 1; have f2 := Z.free 2)); have HQ := Lib.hid (Two.step (b := b) (by assumption) hb)) | (go_at_call 11; refine (specMax_any c s e c' s' e' _).mono ?_; rintro x w' ⟨rfl, hb⟩; rw [HM.out]; unfold idV; (try (have Z := IdRow.step Z hb Z.lt; obtain ⟨q0, q1, q2⟩ := Z.cells; have f0 := Z.free 0; have f1 := Z.free 1; have f2 := Z.free 2)); (try (obtain ⟨Z, gb, gw⟩ := rowNew (b := b) HQ.out hb; obtain ⟨q0, q1, q2⟩ := Z.cells; have f0 := Z.free 0; have f1 := Z.free 1; have f2 := Z.free 2)); (try (obtain ⟨Z, gb, gw⟩ := rowNewD (b := b) HQ.out hb; obtain ⟨q0, q1, q2⟩ := Z.cells; have f0 := Z.free 0; have f1 := Z.free 1; have f2 := Z.free 2)); have HQ := Lib.hid (Two.step (b := b) (by assumption) hb)))
    all_goals
      go_wp2_with fail
      go_meet
      exact ⟨_, rfl, by first | exact IdRow.new _ _ _ _ _ | exact Z.set3, by assumption⟩
  case rest =>
    obtain ⟨g, rfl, hg, h0⟩ := hcut
    have GG := Lib.hid hg.drew
    have gx0 := hg.lt
    clear hg
    go_upto_region 2 with fail
    go_cut [6] (fun s6 wx => ∃ g' : Nat, s6 = .pointer (some ⟨g', 0, none⟩) ∧ IdRow wx g' 25 x0 y0 z0 ∧ IdRow wx g 25 x0 y0 z0 ∧ Two w b c s e c' s' e' wx)
    case first =>
      have HQ := Lib.hid h0.drew
      go_region_held3 (fun W => (W.cell? ⟨b, 0, none⟩ = some (.int .i64 c) ∧ W.cell? ⟨b, 1, none⟩ = some (.int .i64 s) ∧ W.cell? ⟨b, 2, none⟩ = some (.int .i64 e)) ∧
          (W.cell? ⟨b + 1, 0, none⟩ = some (.int .i64 c') ∧ W.cell? ⟨b + 1, 1, none⟩ = some (.int .i64 s') ∧ W.cell? ⟨b + 1, 2, none⟩ = some (.int .i64 e')) ∧ Below w.heap.size w W)
        (first | exact Two.drew (b := b) (by assumption) | exact Two.step (b := b) (by assumption) hb | exact Two.step HQ.out ((Below.refl _ _).alloc (Nat.le_refl _) _) | exact Two.step (b := b) (by assumption) ((Below.refl _ _).alloc (Nat.le_refl _) _) | exact Two.set3 (b := b) (by assumption) (by assumption) (by assumption))
        (first | (go_at_call 7; refine (toId_any _ _ _ _).mono ?_; rintro x w' ⟨rfl, hb⟩; (try (have Z := IdRow.step Z hb Z.lt; obtain ⟨q0, q1, q2⟩ := Z.cells; have f0 := Z.free 0; have f1 := Z.free 1; have f2 := Z.free 2)); (try (obtain ⟨Z, gb, gw⟩ := rowNew (b := b) HQ.out hb; obtain ⟨q0, q1, q2⟩ := Z.cells; have f0 := Z.free 0; have f1 := Z.free 1; have f2 := Z.free 2)); (try (obtain ⟨Z, gb, gw⟩ := rowNewD (b := b) HQ.out hb; obtain ⟨q0, q1, q2⟩ := Z.cells; have f0 := Z.free 0; have f1 := Z.free 1; have f2 := Z.free 2)); have HQ := Lib.hid (Two.step (b := b) (by assumption) hb); (try (have gx := GG.out.lt)); (try (have GG := Lib.hid (IdRow.step GG.out hb GG.out.lt))); (try (have GG := Lib.hid (IdRow.stepA GG.out hb))); (try (have GG := Lib.hid (IdRow.stepD GG.out hb)))) | (go_at_call 12; refine (implMax_any c s e c' s' e' _).mono ?_; rintro x w' ⟨rfl, hb⟩; rw [HM.out]; unfold idV; (try (have Z := IdRow.step Z hb Z.lt; obtain ⟨q0, q1, q2⟩ := Z.cells; have f0 := Z.free 0; have f1 := Z.free 1; have f2 := Z.free 2)); (try (obtain ⟨Z, gb, gw⟩ := rowNew (b := b) HQ.out hb; obtain ⟨q0, q1, q2⟩ := Z.cells; have f0 := Z.free 0; have f1 := Z.free 1; have f2 := Z.free 2)); (try (obtain ⟨Z, gb, gw⟩ := rowNewD (b := b) HQ.out hb; obtain ⟨q0, q1, q2⟩ := Z.cells; have f0 := Z.free 0; have f1 := Z.free 1; have f2 := Z.free 2)); have HQ := Lib.hid (Two.step (b := b) (by assumption) hb); (try (have gx := GG.out.lt)); (try (have GG := Lib.hid (IdRow.step GG.out hb GG.out.lt))); (try (have GG := Lib.hid (IdRow.stepA GG.out hb))); (try (have GG := Lib.hid (IdRow.stepD GG.out hb)))))
      all_goals
        go_wp2_with fail
        go_meet
        exact ⟨_, rfl, by first | exact IdRow.new _ _ _ _ _ | exact Z.set3, by first | exact IdRow.alloc GG.out _ | exact IdRow.far3 GG.out (by omega), by assumption⟩
    case rest =>
      obtain ⟨g', rfl, hg', hg, h0⟩ := hcut
      have B0 := Lib.hid h0.2.2
      obtain ⟨a0, a1, a2⟩ := hg.cells
      obtain ⟨b0, b1, b2⟩ := hg'.cells
      clear h0 GG hg hg'
      go_wp2_with fail
      refine (eqId_same x0 y0 z0 _).mono ?_
      rintro x w9 ⟨rfl, hb9⟩
      have B9 := Lib.hid (B0.out.trans (hb9.mono B0.out.size))
      clear hb9
      go_wp2_with fail
      go_ret
      exact ⟨rfl, B9.out⟩

end Go.Proofs.Ytbkgampfehjpaaa.Id
