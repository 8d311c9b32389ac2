/-
  The boxed variables of the law FnId: five of them; they stand while whatever is laid above.
-/
import Derived.Test.YtbkgampfehjpaaaDoorDrawIds
import Derived.Deep.DeepCutAuto
namespace Go.Proofs.YtbkgampfehjpaaaDoor.FnId
open Go.ChangeShapes Go.WideShapes Go.ChangeAt Go.RowKit
open Go.Proofs.YtbkgampfehjpaaaDoor.Id (IdRow idV OutRow outV)
set_option linter.unusedVariables false

def IsRow (k : IntKind) (w : World) (a : Option Addr) (len cap : Nat) (zs : List Int) : Prop :=
  (a = none ∧ len = 0 ∧ cap = 0 ∧ zs = []) ∨
  ∃ x, a = some x ∧ len ≤ cap ∧ cap ≤ maxLen ∧ zs.length = cap ∧ (∀ i, i < zs.length → w.cell? (x.add i) = some (.int k (zs.getD i 0))) ∧ ∀ n ∈ zs, (Lit.int k n).wf = true
theorem bytes_of_row {w : World} {a : Option Addr} {len cap : Nat} {zs : List Int} (h : IsRow .u8 w a len cap zs) (hl : len ≤ 1048576) : Src.Bytes w.heap.size w a len cap := by
  refine ⟨hl, fun hp => ?_⟩
  rcases h with ⟨rfl, rfl, _, _⟩ | ⟨x, rfl, h1, h2, h3, h4, h5⟩
  · omega
  · obtain ⟨cb, co, rfl, hc⟩ := ints_at h4 (by omega)
    refine ⟨cb, co, rfl, World.block_lt_of_cell? w ⟨cb, co + 0, none⟩ (hc 0 (by omega)), fun i hi => ?_⟩
    have hr := range_u8 h5 i
    exact ⟨_, hr.1, hr.2, hc i (by omega)⟩

/-- Three cells. -/
abbrev C3 (W : World) (g : Nat) (x y z : Int) : Prop := W.cell? ⟨g, 0, none⟩ = some (.int .i64 x) ∧ W.cell? ⟨g, 1, none⟩ = some (.int .i64 y) ∧ W.cell? ⟨g, 2, none⟩ = some (.int .i64 z)
/-- Four cells. -/
abbrev C4 (W : World) (g : Nat) (x y z k : Int) : Prop := W.cell? ⟨g, 0, none⟩ = some (.int .i64 x) ∧ W.cell? ⟨g, 1, none⟩ = some (.int .i64 y) ∧ W.cell? ⟨g, 2, none⟩ = some (.int .i64 z) ∧ W.cell? ⟨g, 3, none⟩ = some (.int .i64 k)
theorem C3.step {W W' : World} {g : Nat} {x y z : Int} (h : C3 W g x y z) (hb : Below W.heap.size W W') : C3 W' g x y z :=
  ⟨Lib.Below.cellOf hb h.1 (Nat.le_refl _), Lib.Below.cellOf hb h.2.1 (Nat.le_refl _), Lib.Below.cellOf hb h.2.2 (Nat.le_refl _)⟩
theorem C4.step {W W' : World} {g : Nat} {x y z k : Int} (h : C4 W g x y z k) (hb : Below W.heap.size W W') : C4 W' g x y z k :=
  ⟨Lib.Below.cellOf hb h.1 (Nat.le_refl _), Lib.Below.cellOf hb h.2.1 (Nat.le_refl _), Lib.Below.cellOf hb h.2.2.1 (Nat.le_refl _), Lib.Below.cellOf hb h.2.2.2 (Nat.le_refl _)⟩
/-- The five variables. -/
abbrev Five (w : World) (ga gb gm gc gx : Nat) (a0 a1 a2 b0 b1 b2 m0 m1 m2 c0 c1 c2 x0 x1 x2 x3 : Int) (W : World) : Prop :=
  C3 W ga a0 a1 a2 ∧ C3 W gb b0 b1 b2 ∧ C3 W gm m0 m1 m2 ∧ C3 W gc c0 c1 c2 ∧ C4 W gx x0 x1 x2 x3 ∧ Below w.heap.size w W
theorem Five.step {w W W' : World} {ga gb gm gc gx : Nat} {a0 a1 a2 b0 b1 b2 m0 m1 m2 c0 c1 c2 x0 x1 x2 x3 : Int} (h : Five w ga gb gm gc gx a0 a1 a2 b0 b1 b2 m0 m1 m2 c0 c1 c2 x0 x1 x2 x3 W) (hb : Below W.heap.size W W') :
    Five w ga gb gm gc gx a0 a1 a2 b0 b1 b2 m0 m1 m2 c0 c1 c2 x0 x1 x2 x3 W' :=
  ⟨h.1.step hb, h.2.1.step hb, h.2.2.1.step hb, h.2.2.2.1.step hb, h.2.2.2.2.1.step hb, h.2.2.2.2.2.trans (hb.mono h.2.2.2.2.2.size)⟩
theorem Five.drew {w W : World} {ga gb gm gc gx : Nat} {a0 a1 a2 b0 b1 b2 m0 m1 m2 c0 c1 c2 x0 x1 x2 x3 : Int} (h : Five w ga gb gm gc gx a0 a1 a2 b0 b1 b2 m0 m1 m2 c0 c1 c2 x0 x1 x2 x3 W) :
    Five w ga gb gm gc gx a0 a1 a2 b0 b1 b2 m0 m1 m2 c0 c1 c2 x0 x1 x2 x3 W.drew := ⟨h.1, h.2.1, h.2.2.1, h.2.2.2.1, h.2.2.2.2.1, h.2.2.2.2.2.drew⟩
end Go.Proofs.YtbkgampfehjpaaaDoor.FnId
