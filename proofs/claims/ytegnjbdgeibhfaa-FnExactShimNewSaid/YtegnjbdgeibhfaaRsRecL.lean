/-
  The law's own marks on a record by value: markRec, heldRec.
-/
import Derived.Test.YtegnjbdgeibhfaaRsMark
namespace Go.Proofs.Ytegnjbdgeibhfaa.Rs
open Go.ChangeShapes Go.WideShapes Go.ChangeAt Go.RowKit
open Rec (R P Sound Small recV cellsV)
open Net (Cl Bk HeldV)
set_option linter.unusedVariables false
set_option maxRecDepth 100000
set_option linter.unusedSimpArgs false

theorem Tch.blk2 {ts : List Nat} {W W' : World} {lo hi b t : Nat} {cs : Array Value} (h : Tch ts W W' lo hi) (hh : Blk W b t cs) (hd : b < lo ∨ hi ≤ b) : Blk W' b t cs := (h.block b hh.lt (by omega)).trans hh
/-- A record's lists, marked. -/
def mkL (k : Nat) (r : R) : R := ⟨r.k, r.i, r.d, r.g, Dep.marks k r.l.length, Str.marks (k + 4 * r.l.length) r.b.length⟩
def kL (r : R) : Nat := 4 * r.l.length + r.b.length

end Go.Proofs.Ytegnjbdgeibhfaa.Rs
