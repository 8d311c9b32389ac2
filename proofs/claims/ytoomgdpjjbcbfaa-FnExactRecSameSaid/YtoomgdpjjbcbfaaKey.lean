/-
  A right key: spec.KeyRight answers whether a string has one to four bytes, each a small letter.
-/
import Derived.Test.YtoomgdpjjbcbfaaRows
import Derived.WalkKit
import Derived.ProofKit
import Derived.OpenShut
import Derived.ShutString
import Derived.Lib.Hide
namespace Go.Proofs.Ytoomgdpjjbcbfaa.Key
open Go.ChangeShapes Go.WideShapes Go.ChangeAt Go.RowKit
set_option linter.unusedVariables false
set_option maxRecDepth 100000

def letB (c : Int) : Bool := decide (97 ≤ c ∧ c ≤ 122)
def KeyOk (s : ByteArray) : Prop := 1 ≤ s.size ∧ s.size ≤ 4 ∧ ∀ k (h : k < s.size), letB s[k].toNat = true
noncomputable def keyB (s : ByteArray) : Bool := @decide (KeyOk s) (Classical.propDecidable _)
theorem keyB_true {s : ByteArray} (h : KeyOk s) : keyB s = true := by simp [keyB, h]
theorem keyB_false {s : ByteArray} (h : ¬ KeyOk s) : keyB s = false := by simp [keyB, h]
theorem ok_of {s : ByteArray} (h : keyB s = true) : KeyOk s := by
  rcases Classical.em (KeyOk s) with h1 | h1
  · exact h1
  · rw [keyB_false h1] at h; cases h
theorem ret_bool {a b : Bool} (h : a = b) : Ending.returned (.bool a) = .returned (.bool b) := by rw [h]
theorem byte_le (b : UInt8) : (b.toNat : Int) ≤ 255 := by have := b.toNat_lt; omega

end Go.Proofs.Ytoomgdpjjbcbfaa.Key
