/-
  impl.Covers of any deps.
-/
import Derived.Test.YtlhebgfiljmeiaaDepIOf2
namespace Go.Proofs.Ytlhebgfiljmeiaa.Dep
open Go.ChangeShapes Go.WideShapes Go.ChangeAt Go.RowKit
set_option linter.unusedVariables false
set_option maxRecDepth 100000

theorem cell_lt' {w : World} {a : Addr} {v : Value} (h : w.cell? a = some v) : a.block < w.heap.size := by
  rcases Nat.lt_or_ge a.block w.heap.size with h' | h'
  · exact h'
  · simp [World.cell?, Array.getElem?_eq_none h'] at h
/-- A dep stands in a block of its own, and nothing below is written. -/
abbrev Four (w : World) (n : Nat) (d : D) (W : World) : Prop :=
  (W.cell? ⟨n, 0, none⟩ = some (.string d.k) ∧ W.cell? ⟨n, 1, none⟩ = some (.int .i64 d.i.c) ∧ W.cell? ⟨n, 2, none⟩ = some (.int .i64 d.i.s) ∧ W.cell? ⟨n, 3, none⟩ = some (.int .i64 d.i.e)) ∧ Below w.heap.size w W
theorem Four.step {w W W' : World} {n : Nat} {d : D} (h : Four w n d W) (hb : Below W.heap.size W W') : Four w n d W' := by
  have hn : n < W.heap.size := cell_lt' h.1.1
  exact ⟨⟨(hb.cell (p := ⟨n, 0, none⟩) hn).trans h.1.1, (hb.cell (p := ⟨n, 1, none⟩) hn).trans h.1.2.1, (hb.cell (p := ⟨n, 2, none⟩) hn).trans h.1.2.2.1, (hb.cell (p := ⟨n, 3, none⟩) hn).trans h.1.2.2.2⟩, h.2.trans (hb.mono h.2.size)⟩
theorem Four.drew {w W : World} {n : Nat} {d : D} (h : Four w n d W) : Four w n d W.drew := ⟨h.1, h.2.drew⟩

theorem implLessI_any (x y : I) (w : World) :
    Calls Try.prog 62 #[x.val, y.val] w fun e w' => e = .returned (.bool (x.less y)) ∧ Below w.heap.size w w' := Id.implLess_any x.c x.s x.e y.c y.s y.e w

end Go.Proofs.Ytlhebgfiljmeiaa.Dep
