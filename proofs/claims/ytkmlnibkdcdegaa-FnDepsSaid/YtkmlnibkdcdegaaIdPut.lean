/-
  Ids: the block of an Id is written anew.
-/
import Derived.Test.YtkmlnibkdcdegaaIdTo
import Derived.Below
namespace Go.Proofs.Ytkmlnibkdcdegaa.Id
open Go.ChangeShapes Go.WideShapes Go.ChangeAt Go.RowKit
set_option linter.unusedVariables false
set_option maxRecDepth 100000

theorem IdRow.frozen {W : World} {b t : Nat} {c s e : Int} (h : IdRow W b t c s e) : W.frozen? ⟨b, 0, none⟩ = false ∧ W.frozen? ⟨b, 1, none⟩ = false ∧ W.frozen? ⟨b, 2, none⟩ = false := by
  unfold IdRow at h
  simp [World.frozen?, h]
theorem IdRow.put {W : World} {g t : Nat} {c s e x y z : Int} (h : IdRow W g t c s e) :
    IdRow (((W.setCell ⟨g, 0, none⟩ (.int .i64 x)).setCell ⟨g, 1, none⟩ (.int .i64 y)).setCell ⟨g, 2, none⟩ (.int .i64 z)) g t x y z := by
  unfold IdRow at *
  simp [World.setCell, Array.getElem?_modify, h]
theorem below_put (W : World) (g : Nat) (x y z : Value) : Below g W (((W.setCell ⟨g, 0, none⟩ x).setCell ⟨g, 1, none⟩ y).setCell ⟨g, 2, none⟩ z) :=
  (((Below.refl g W).setCell (p := ⟨g, 0, none⟩) (Nat.le_refl g) x).setCell (p := ⟨g, 1, none⟩) (Nat.le_refl g) y).setCell (p := ⟨g, 2, none⟩) (Nat.le_refl g) z
end Go.Proofs.Ytkmlnibkdcdegaa.Id
