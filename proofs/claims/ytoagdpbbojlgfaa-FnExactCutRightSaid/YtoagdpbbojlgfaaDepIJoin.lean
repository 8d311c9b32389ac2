/-
  impl.DepsJoin.
-/
import Derived.Test.YtoagdpbbojlgfaaDepAll
import Derived.Test.YtoagdpbbojlgfaaDepLists
namespace Go.Proofs.Ytoagdpbbojlgfaa.Dep
open Go.ChangeShapes Go.WideShapes Go.ChangeAt Go.RowKit
set_option linter.unusedVariables false
set_option maxRecDepth 100000

/-- Two lists in a new row. -/
abbrev twoObj (A B : Option Addr) (a b : List D) (ca cb : Nat) : Obj := Obj.cells #[Value.slice A a.length ca, Value.slice B b.length cb] 38
theorem two_lists {w W : World} {A B : Option Addr} {a b : List D} {ca cb : Nat} (ha : Lies w w.heap.size A a) (hb : Lies w w.heap.size B b) (hW : Below w.heap.size w W) :
    Lists (W.alloc (twoObj A B a b ca cb)) (W.alloc (twoObj A B a b ca cb)).heap.size ⟨W.heap.size, 0, none⟩ [⟨A, a, ca⟩, ⟨B, b, cb⟩] := by
  have hr := heap_alloc_new W (twoObj A B a b ca cb)
  have hB : Below w.heap.size w (W.alloc (twoObj A B a b ca cb)) := hW.alloc hW.size _
  have hs := hB.size
  refine ⟨by simp, fun j hj => ?_, fun j hj => ?_⟩
  · have : j = 0 ∨ j = 1 := by simp at hj; omega
    rcases this with rfl | rfl
    · exact cell_of_row _ _ 0 _ _ (0, 0) hr
    · exact cell_of_row _ _ 1 _ _ (0, 0) hr
  · have : j = 0 ∨ j = 1 := by simp at hj; omega
    rcases this with rfl | rfl
    · exact (ha.below hB (Nat.le_refl _)).more hs
    · exact (hb.below hB (Nat.le_refl _)).more hs
theorem two_len {a b : List D} {A B : Option Addr} {ca cb : Nat} (hla : a.length ≤ maxLen) (hlb : b.length ≤ maxLen) : ∀ j (h : j < [(⟨A, a, ca⟩ : Sl), ⟨B, b, cb⟩].length), ([(⟨A, a, ca⟩ : Sl), ⟨B, b, cb⟩][j]).l.length ≤ maxLen := by
  intro j hj
  have : j = 0 ∨ j = 1 := by simp at hj; omega
  rcases this with rfl | rfl <;> assumption
theorem two_keys {a b : List D} {A B : Option Addr} {ca cb : Nat} (ka : ∀ d ∈ a, d.k.size ≤ maxLen) (kb : ∀ d ∈ b, d.k.size ≤ maxLen) : ∀ j (h : j < [(⟨A, a, ca⟩ : Sl), ⟨B, b, cb⟩].length), ∀ d ∈ ([(⟨A, a, ca⟩ : Sl), ⟨B, b, cb⟩][j]).l, d.k.size ≤ maxLen := by
  intro j hj
  have : j = 0 ∨ j = 1 := by simp at hj; omega
  rcases this with rfl | rfl <;> assumption

theorem joinC_code (a b : List D) : (codeV [a, b] ≠ 0 ∧ joinC a b = codeV [a, b] ∧ joinR a b = []) ∨ (codeV [a, b] = 0 ∧ depsB a = true ∧ depsB b = true ∧ ¬ (400 < a.length ∨ 400 < b.length)) := by
  by_cases h : 400 < a.length ∨ 400 < b.length
  · have e : codeV [a, b] = 2 := by
      rcases h with h | h
      · exact code_big (l := a) (by simp) h
      · exact code_big (l := b) (by simp) h
    have e2 : joinC a b = 2 := by unfold joinC; rw [if_pos h]
    exact .inl ⟨by omega, by omega, by unfold joinR; rw [if_neg (by omega)]⟩
  · have hn : ∀ l ∈ [a, b], ¬ 400 < l.length := by
      intro l hl
      simp only [List.mem_cons, List.not_mem_nil, or_false] at hl
      rcases hl with rfl | rfl <;> omega
    by_cases h2 : depsB a = true ∧ depsB b = true
    · refine .inr ⟨?_, h2.1, h2.2, h⟩
      rw [code_all hn, if_pos]
      simpa using h2
    · have e : codeV [a, b] = 1 := by
        rw [code_all hn, if_neg]
        simpa using h2
      have e2 : joinC a b = 1 := by unfold joinC; rw [if_neg h, if_neg h2]
      exact .inl ⟨by omega, by omega, by unfold joinR; rw [if_neg (by omega)]⟩
/-- The keys of what is joined, each short. -/
theorem short_keys {l : List D} (h : Good l) : ∃ ks : List K4, ks.map (·.1) = l.map D.k := by
  induction l with
  | nil => exact ⟨[], rfl⟩
  | cons d l ih =>
    obtain ⟨ks, hk⟩ := ih fun x hx => h x (by simp [hx])
    exact ⟨⟨d.k, (Key.ok_of (h d (by simp)).1).2.1⟩ :: ks, by simp [hk]⟩

/-- What the inner call hands back, told once more in a cell. -/
theorem Answers.cell {w w1 w2 : World} {e : Ending} {r : List D} {c : Int} {b : Nat} (h : Answers w1 e w2 r c) (hw : Below w.heap.size w w1) (hb : w.heap.size ≤ b) (hb1 : b < w1.heap.size) (hR : ORow w1 b (.slice none 0 0) 0) :
    ∃ v, e = .returned (outV v c) ∧ ORow w2 b (.slice none 0 0) 0 ∧ (∃ (A : Option Addr) (m : Nat × Nat), v = .slice A m.1 m.2) ∧ Answers w (.returned (outV v c)) ((w2.setCell ⟨b, 0, none⟩ v).setCell ⟨b, 1, none⟩ (.int .i64 c)) r c := by
  obtain ⟨A, cap, rfl, ho, hc, hL, hB⟩ := h
  refine ⟨slV A r cap, rfl, hR.step hB hb1, ⟨A, (r.length, cap), rfl⟩, ?_⟩
  exact Answers.row (own_less (own_set2 ho hb1 _ _) hw.size) (((hw.trans (hB.mono hw.size)).setCell (p := ⟨b, 0, none⟩) hb _).setCell (p := ⟨b, 1, none⟩) hb _)

end Go.Proofs.Ytoagdpbbojlgfaa.Dep
