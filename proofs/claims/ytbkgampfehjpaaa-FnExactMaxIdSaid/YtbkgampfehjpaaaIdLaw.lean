/-
  The Go laws FnExactIdRight, FnExactIdLess and FnExactMaxId answer true for every Id.
-/
import Derived.Test.YtbkgampfehjpaaaIdLess
import Derived.Test.YtbkgampfehjpaaaIdTo
import Derived.Deep.RegionHeld3
import Derived.Deep.DeepCutAuto
import Derived.Lib.SlBuf
namespace Go.Proofs.Ytbkgampfehjpaaa.Id
open Go.ChangeShapes Go.WideShapes Go.ChangeAt Go.RowKit
set_option linter.unusedVariables false

theorem lawIdRight (c s e : Int) (w : World) :
    Calls Try.prog 3 #[idV c s e] w fun x w' => x = .returned (.bool true) ∧ Below w.heap.size w w' := by
  generalize hb : rightB c s e = b
  have HB := Lib.hid hb
  clear hb
  unfold idV
  go_enter Try.func3, Try.ntmps3
  go_wp2_with fail
  refine (toId_any c s e _).mono ?_
  rintro x w1 ⟨rfl, b1⟩
  have r1 := (IdRow.new w 23 c s e).step b1 (by simp)
  have B1 := Lib.hid (((Below.refl _ _).alloc (Nat.le_refl _) _).trans (b1.mono (by simp)))
  have R1 := Lib.hid r1
  clear b1 r1
  go_wp2_with fail
  refine (specRight_any c s e _).mono ?_
  rintro x w2 ⟨rfl, b2⟩
  rw [HB.out]
  have r2 := R1.out.step b2 R1.out.lt
  have B2 := Lib.hid (B1.out.trans (b2.mono B1.out.size))
  have R2 := Lib.hid r2
  obtain ⟨a0, a1, a2⟩ := r2.cells
  clear b2 r2
  go_wp2_with fail
  refine (toId_any c s e _).mono ?_
  rintro x w3 ⟨rfl, b3⟩
  have B3 := Lib.hid (B2.out.trans (b3.mono B2.out.size))
  clear b3 a0 a1 a2
  go_wp2_with fail
  refine (implRight_any c s e _).mono ?_
  rintro x w4 ⟨rfl, b4⟩
  rw [HB.out]
  have B4 := Lib.hid (B3.out.trans (b4.mono B3.out.size))
  have hbb : (b == b) = true := beq_self_eq_true b
  clear b4
  go_wp2
  go_ret
  exact ⟨rfl, B4.out⟩

/-- What two boxed Ids hold, and that nothing below is written. -/
abbrev Two (w : World) (b : Nat) (c s e c' s' e' : Int) (W : World) : Prop :=
  (W.cell? ⟨b, 0, none⟩ = some (.int .i64 c) ∧ W.cell? ⟨b, 1, none⟩ = some (.int .i64 s) ∧ W.cell? ⟨b, 2, none⟩ = some (.int .i64 e)) ∧
  (W.cell? ⟨b + 1, 0, none⟩ = some (.int .i64 c') ∧ W.cell? ⟨b + 1, 1, none⟩ = some (.int .i64 s') ∧ W.cell? ⟨b + 1, 2, none⟩ = some (.int .i64 e')) ∧ Below w.heap.size w W
theorem Two.step {w W W' : World} {b : Nat} {c s e c' s' e' : Int} (h : Two w b c s e c' s' e' W) (hb : Below W.heap.size W W') : Two w b c s e c' s' e' W' := by
  obtain ⟨⟨a0, a1, a2⟩, ⟨b0, b1, b2⟩, h3⟩ := h
  have k := fun (p : Addr) (v : Value) (hc : W.cell? p = some v) => Lib.Below.cellOf hb hc (Nat.le_refl _)
  exact ⟨⟨k _ _ a0, k _ _ a1, k _ _ a2⟩, ⟨k _ _ b0, k _ _ b1, k _ _ b2⟩, h3.trans (hb.mono h3.size)⟩
theorem Two.drew {w W : World} {b : Nat} {c s e c' s' e' : Int} (h : Two w b c s e c' s' e' W) : Two w b c s e c' s' e' W.drew := ⟨h.1, h.2.1, h.2.2.drew⟩
theorem two_new (w : World) (t t' : Nat) (c s e c' s' e' : Int) :
    Two w w.heap.size c s e c' s' e' ((w.alloc (.cells #[.int .i64 c, .int .i64 s, .int .i64 e] t)).alloc (.cells #[.int .i64 c', .int .i64 s', .int .i64 e'] t')) := by
  have h1 : IdRow ((w.alloc (.cells #[.int .i64 c, .int .i64 s, .int .i64 e] t)).alloc (.cells #[.int .i64 c', .int .i64 s', .int .i64 e'] t')) w.heap.size t c s e := (IdRow.new w t c s e).alloc _
  have h2 : IdRow ((w.alloc (.cells #[.int .i64 c, .int .i64 s, .int .i64 e] t)).alloc (.cells #[.int .i64 c', .int .i64 s', .int .i64 e'] t')) (w.heap.size + 1) t' c' s' e' := by
    have := IdRow.new (w.alloc (.cells #[.int .i64 c, .int .i64 s, .int .i64 e] t)) t' c' s' e'
    simpa using this
  exact ⟨h1.cells, h2.cells, ((Below.refl _ _).alloc (Nat.le_refl _) _).alloc (by simp) _⟩

theorem lawIdLess (c s e c' s' e' : Int) (w : World) :
    Calls Try.prog 4 #[idV c s e, idV c' s' e'] w fun x w' => x = .returned (.bool true) ∧ Below w.heap.size w w' := by
  have H0 := Lib.hid (two_new w 23 23 c s e c' s' e')
  generalize hl : lessB c s e c' s' e' = l
  have HL := Lib.hid hl
  clear hl
  unfold idV
  go_enter Try.func4, Try.ntmps4
  go_wp2_with fail
  have h0 := H0.out
  clear H0
  generalize hbs : w.heap.size = b at h0 ⊢
  generalize (World.alloc (World.alloc w _) _) = W0 at h0 ⊢
  go_region_held3 (fun W => (W.cell? ⟨b, 0, none⟩ = some (.int .i64 c) ∧ W.cell? ⟨b, 1, none⟩ = some (.int .i64 s) ∧ W.cell? ⟨b, 2, none⟩ = some (.int .i64 e)) ∧
      (W.cell? ⟨b + 1, 0, none⟩ = some (.int .i64 c') ∧ W.cell? ⟨b + 1, 1, none⟩ = some (.int .i64 s') ∧ W.cell? ⟨b + 1, 2, none⟩ = some (.int .i64 e')) ∧ Below w.heap.size w W)
    (first | exact Two.drew (b := b) (by assumption) | exact Two.step (b := b) (by assumption) hb)
    (first | (go_at_call 7; refine (toId_any _ _ _ _).mono ?_; rintro x w' ⟨rfl, hb⟩) | (go_at_call 9; refine (specLess_any c s e c' s' e' _).mono ?_; rintro x w' ⟨rfl, hb⟩; rw [HL.out]))
  have h1 : Two w b c s e c' s' e' w' := by assumption
  have H1 := Lib.hid h1
  clear h0 h1 hb
  go_wp2_with fail
  have h0 := H1.out
  go_region_held3 (fun W => (W.cell? ⟨b, 0, none⟩ = some (.int .i64 c) ∧ W.cell? ⟨b, 1, none⟩ = some (.int .i64 s) ∧ W.cell? ⟨b, 2, none⟩ = some (.int .i64 e)) ∧
      (W.cell? ⟨b + 1, 0, none⟩ = some (.int .i64 c') ∧ W.cell? ⟨b + 1, 1, none⟩ = some (.int .i64 s') ∧ W.cell? ⟨b + 1, 2, none⟩ = some (.int .i64 e')) ∧ Below w.heap.size w W)
    (first | exact Two.drew (b := b) (by assumption) | exact Two.step (b := b) (by assumption) hb)
    (first | (go_at_call 7; refine (toId_any _ _ _ _).mono ?_; rintro x w' ⟨rfl, hb⟩) | (go_at_call 10; refine (implLess_any c s e c' s' e' _).mono ?_; rintro x w' ⟨rfl, hb⟩; rw [HL.out]))
  have h2 : Two w b c s e c' s' e' w' := by assumption
  have hll : (l == l) = true := beq_self_eq_true l
  go_wp2
  go_ret
  exact ⟨rfl, h2.2.2⟩

end Go.Proofs.Ytbkgampfehjpaaa.Id
