/-
  The Go law FnExactIdText answers true for every Id.
-/
import Derived.Test.YtbkgampfehjpaaaDoorIdText
namespace Go.Proofs.YtbkgampfehjpaaaDoor.Id
open Go.ChangeShapes Go.WideShapes Go.ChangeAt Go.RowKit
set_option linter.unusedVariables false

theorem lawIdText (c s e : Int) (w : World) (hrd : Tab w) :
    Calls Tryd.prog 4 #[idV c s e] w fun x w' => x = .returned (.bool true) ∧ Below w.heap.size w w' := by
  generalize hb : textB c s e = b
  have HB := Lib.hid hb
  have RD := Lib.hid hrd
  clear hb hrd
  unfold idV
  go_enter Tryd.func4, Tryd.ntmps4
  go_wp2_with fail
  refine (toId_any c s e _).mono ?_
  rintro x w1 ⟨rfl, b1⟩
  have r1 := (IdRow.new w 37 c s e).step b1 (by simp)
  have B1 := Lib.hid (((Below.refl _ _).alloc (Nat.le_refl _) _).trans (b1.mono (by simp)))
  have R1 := Lib.hid r1
  clear b1 r1
  go_wp2_with fail
  refine (specText_any c s e _).mono ?_
  rintro x w2 ⟨rfl, b2⟩
  rw [HB.out]
  have r2 := R1.out.step b2 R1.out.lt
  have B2 := Lib.hid (B1.out.trans (b2.mono B1.out.size))
  have R2 := Lib.hid r2
  obtain ⟨a0, a1, a2⟩ := r2.cells
  clear b2 r2
  go_wp2_with fail
  refine (toId_any c s e _).mono ?_
  rintro x w3 ⟨rfl, b3⟩
  have B3 := Lib.hid (B2.out.trans (b3.mono B2.out.size))
  clear b3 a0 a1 a2
  go_wp2_with fail
  refine (implText_any c s e _ (RD.out.on B3.out (Nat.le_refl _))).mono ?_
  rintro x w4 ⟨rfl, b4⟩
  rw [HB.out]
  have B4 := Lib.hid (B3.out.trans (b4.mono B3.out.size))
  have hbb : (b.toList == b.toList) = true := beq_self_eq_true _
  clear b4
  go_wp2
  go_ret
  exact ⟨rfl, B4.out⟩
end Go.Proofs.YtbkgampfehjpaaaDoor.Id
