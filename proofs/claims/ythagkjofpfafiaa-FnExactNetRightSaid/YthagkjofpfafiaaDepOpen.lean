/-
  A parameter that is a slice of deps, opened: it reads as a list.
-/
import Derived.Test.YthagkjofpfafiaaDepApp
import Derived.Deep.Slices
import Derived.ChangeArms
namespace Go.Proofs.Ythagkjofpfafiaa.Dep
open Go.ChangeShapes Go.WideShapes Go.ChangeAt Go.RowKit
set_option linter.unusedVariables false
set_option maxRecDepth 100000
set_option linter.unusedSimpArgs false

theorem cell_lt {w : World} {a : Addr} {v : Value} (h : w.cell? a = some v) : a.block < w.heap.size := by
  rcases Nat.lt_or_ge a.block w.heap.size with h' | h'
  · exact h'
  · simp [World.cell?, Array.getElem?_eq_none h'] at h

/-- What a number of a dep is within. -/
def I64 (n : Int) : Prop := -9223372036854775808 ≤ n ∧ n ≤ 9223372036854775807
def Sound (d : D) : Prop := d.k.size ≤ maxLen ∧ I64 d.i.c ∧ I64 d.i.s ∧ I64 d.i.e
/-- A slice of deps as it comes in. -/
def IsDeps (w : World) (A : Option Addr) (l : List D) (cap : Nat) : Prop := l.length ≤ cap ∧ cap ≤ maxLen ∧ Lies w w.heap.size A l ∧ ∀ d ∈ l, Sound d

theorem i64_of {n : Int} (h : (Lit.int .i64 n).wf = true) : I64 n := by
  have := bounds_i64 h
  unfold I64; omega

instance : Inhabited D := ⟨⟨ByteArray.empty, zero⟩⟩

end Go.Proofs.Ythagkjofpfafiaa.Dep
