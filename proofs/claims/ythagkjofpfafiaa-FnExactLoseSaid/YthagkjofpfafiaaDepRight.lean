/-
  Right deps: spec.DepsRight answers whether a slice reads as at most six deps, each with a right key and a right Id, the keys going up.
-/
import Derived.Test.YthagkjofpfafiaaPackDep
import Derived.Deep.DeepCutAuto
namespace Go.Proofs.Ythagkjofpfafiaa.Dep
open Go.ChangeShapes Go.WideShapes Go.ChangeAt Go.RowKit
set_option linter.unusedVariables false
set_option maxRecDepth 100000

theorem binOp_string_geq_dep (t : TypeId) (a b : ByteArray) : binOp .geq t (.string a) (.string b) = pure (.bool !(Op.bytesLess a.toList b.toList)) := by simp [binOp, Op.stringOp]
attribute [local go_sem] binOp_string_geq_dep

/-- A dep stands, and nothing below is written. -/
abbrev One (w : World) (p : Addr) (d : D) (W : World) : Prop := At W p d ∧ Below w.heap.size w W
theorem One.step {w W W' : World} {p : Addr} {d : D} (h : One w p d W) (hb : Below W.heap.size W W') : One w p d W' := ⟨at_step h.1 hb, h.2.trans (hb.mono h.2.size)⟩
theorem One.drew {w W : World} {p : Addr} {d : D} (h : One w p d W) : One w p d W.drew := ⟨h.1, h.2.drew⟩

theorem not_ok_key {l : List D} {k : Nat} (hk : k < l.length) (h : Key.keyB l[k].k = false) : depsB l = false := depsB_false fun ho => by
  have := (ho.2.1 l[k] (List.getElem_mem hk)).1; rw [h] at this; cases this
theorem not_ok_id {l : List D} {k : Nat} (hk : k < l.length) (h : l[k].i.right = false) : depsB l = false := depsB_false fun ho => by
  have := (ho.2.1 l[k] (List.getElem_mem hk)).2; rw [h] at this; cases this
theorem not_ok_less {l : List D} {j : Nat} (hj : j + 1 < l.length) (h : kl l[j].k l[j + 1].k = false) : depsB l = false := depsB_false fun ho => by
  have := sorted_at ho.2.2 hj; rw [h] at this; cases this
/-- What is found out so far. -/
def SoFar (l : List D) (k : Nat) : Prop := (∀ j (hj : j < l.length), j < k → Key.keyB l[j].k = true ∧ l[j].i.right = true) ∧ ∀ j (hj : j + 1 < l.length), j + 1 < k → kl l[j].k l[j + 1].k = true
theorem SoFar.all {l : List D} {k : Nat} (h : SoFar l k) (hk : l.length ≤ k) (h6 : l.length ≤ 6) : depsB l = true := depsB_true
  ⟨h6, fun d hd => by obtain ⟨j, hj, rfl⟩ := List.getElem_of_mem hd; exact h.1 j hj (by omega), sorted_of fun j hj => h.2 j hj (by omega)⟩
theorem SoFar.first {l : List D} (h : SoFar l 0) (hk : 0 < l.length) (h1 : Key.keyB l[0].k = true) (h2 : l[0].i.right = true) : SoFar l 1 :=
  ⟨fun j hj hjk => by have : j = 0 := by omega
                      subst this; exact ⟨h1, h2⟩, fun j hj hjk => absurd hjk (by omega)⟩
theorem SoFar.next {l : List D} {k : Nat} (h : SoFar l (k + 1)) (hk : k + 1 < l.length) (h1 : Key.keyB l[k + 1].k = true) (h2 : l[k + 1].i.right = true) (h3 : kl l[k].k l[k + 1].k = true) : SoFar l (k + 1 + 1) :=
  ⟨fun j hj hjk => by
    by_cases e : j = k + 1
    · subst e; exact ⟨h1, h2⟩
    · exact h.1 j hj (by omega), fun j hj hjk => by
    by_cases e : j = k
    · subst e; exact h3
    · exact h.2 j hj (by omega)⟩

end Go.Proofs.Ythagkjofpfafiaa.Dep
