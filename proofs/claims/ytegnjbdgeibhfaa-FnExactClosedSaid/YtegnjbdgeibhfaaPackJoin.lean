/-
  Several texts in one: DepLists, DepIJoin, DepOne.
-/
import Derived.Test.YtegnjbdgeibhfaaPackAll
import Derived.Test.YtegnjbdgeibhfaaDepAll
/-
  impl.listsCode: the first fault of some lists.
-/
namespace Go.Proofs.Ytegnjbdgeibhfaa.Dep
open Go.ChangeShapes Go.WideShapes Go.ChangeAt Go.RowKit
set_option linter.unusedVariables false
set_option maxRecDepth 100000

open Classical in
noncomputable def codeV (L : List (List D)) : Int := if (∃ l ∈ L, 400 < l.length) then 2 else if (∀ l ∈ L, depsB l = true) then 0 else 1
theorem code_big {L : List (List D)} {l : List D} (h : l ∈ L) (hl : 400 < l.length) : codeV L = 2 := by unfold codeV; rw [if_pos ⟨l, h, hl⟩]
theorem code_all {L : List (List D)} (h : ∀ l ∈ L, ¬ 400 < l.length) : codeV L = if @decide (∀ l ∈ L, depsB l = true) (Classical.propDecidable _) = true then 0 else 1 := by
  unfold codeV
  rw [if_neg (by rintro ⟨l, hl, h2⟩; exact h l hl h2)]
  by_cases e : ∀ l ∈ L, depsB l = true
  · rw [if_pos e, if_pos (by simpa using e)]
  · rw [if_neg e, if_neg (by simpa using e)]
theorem take_mem {L : List (List D)} {k : Nat} (hk : k < L.length) (p : List D → Prop) : (∀ l ∈ L.take (k + 1), p l) ↔ (∀ l ∈ L.take k, p l) ∧ p L[k] := by
  rw [show L.take (k + 1) = L.take k ++ [L[k]] by simp]
  constructor
  · intro h
    exact ⟨fun l hl => h l (List.mem_append_left _ hl), h _ (List.mem_append_right _ (List.mem_singleton.2 rfl))⟩
  · rintro ⟨h1, h2⟩ l hl
    rcases List.mem_append.1 hl with hl | hl
    · exact h1 l hl
    · obtain rfl : l = L[k] := by simpa using hl
      exact h2

end Go.Proofs.Ytegnjbdgeibhfaa.Dep

/-
  impl.DepsJoin.
-/
namespace Go.Proofs.Ytegnjbdgeibhfaa.Dep
open Go.ChangeShapes Go.WideShapes Go.ChangeAt Go.RowKit
set_option linter.unusedVariables false
set_option maxRecDepth 100000

/-- Two lists in a new row. -/
abbrev twoObj (A B : Option Addr) (a b : List D) (ca cb : Nat) : Obj := Obj.cells #[Value.slice A a.length ca, Value.slice B b.length cb] 22
theorem two_lists {w W : World} {A B : Option Addr} {a b : List D} {ca cb : Nat} (ha : Lies w w.heap.size A a) (hb : Lies w w.heap.size B b) (hW : Below w.heap.size w W) :
    Lists (W.alloc (twoObj A B a b ca cb)) (W.alloc (twoObj A B a b ca cb)).heap.size ⟨W.heap.size, 0, none⟩ [⟨A, a, ca⟩, ⟨B, b, cb⟩] := by
  have hr := heap_alloc_new W (twoObj A B a b ca cb)
  have hB : Below w.heap.size w (W.alloc (twoObj A B a b ca cb)) := hW.alloc hW.size _
  have hs := hB.size
  refine ⟨by simp, fun j hj => ?_, fun j hj => ?_⟩
  · have : j = 0 ∨ j = 1 := by simp at hj; omega
    rcases this with rfl | rfl
    · exact cell_of_row _ _ 0 _ _ (0, 0) hr
    · exact cell_of_row _ _ 1 _ _ (0, 0) hr
  · have : j = 0 ∨ j = 1 := by simp at hj; omega
    rcases this with rfl | rfl
    · exact (ha.below hB (Nat.le_refl _)).more hs
    · exact (hb.below hB (Nat.le_refl _)).more hs
theorem two_len {a b : List D} {A B : Option Addr} {ca cb : Nat} (hla : a.length ≤ maxLen) (hlb : b.length ≤ maxLen) : ∀ j (h : j < [(⟨A, a, ca⟩ : Sl), ⟨B, b, cb⟩].length), ([(⟨A, a, ca⟩ : Sl), ⟨B, b, cb⟩][j]).l.length ≤ maxLen := by
  intro j hj
  have : j = 0 ∨ j = 1 := by simp at hj; omega
  rcases this with rfl | rfl <;> assumption
theorem two_keys {a b : List D} {A B : Option Addr} {ca cb : Nat} (ka : ∀ d ∈ a, d.k.size ≤ maxLen) (kb : ∀ d ∈ b, d.k.size ≤ maxLen) : ∀ j (h : j < [(⟨A, a, ca⟩ : Sl), ⟨B, b, cb⟩].length), ∀ d ∈ ([(⟨A, a, ca⟩ : Sl), ⟨B, b, cb⟩][j]).l, d.k.size ≤ maxLen := by
  intro j hj
  have : j = 0 ∨ j = 1 := by simp at hj; omega
  rcases this with rfl | rfl <;> assumption

theorem joinC_code (a b : List D) : (codeV [a, b] ≠ 0 ∧ joinC a b = codeV [a, b] ∧ joinR a b = []) ∨ (codeV [a, b] = 0 ∧ depsB a = true ∧ depsB b = true ∧ ¬ (400 < a.length ∨ 400 < b.length)) := by
  by_cases h : 400 < a.length ∨ 400 < b.length
  · have e : codeV [a, b] = 2 := by
      rcases h with h | h
      · exact code_big (l := a) (by simp) h
      · exact code_big (l := b) (by simp) h
    have e2 : joinC a b = 2 := by unfold joinC; rw [if_pos h]
    exact .inl ⟨by omega, by omega, by unfold joinR; rw [if_neg (by omega)]⟩
  · have hn : ∀ l ∈ [a, b], ¬ 400 < l.length := by
      intro l hl
      simp only [List.mem_cons, List.not_mem_nil, or_false] at hl
      rcases hl with rfl | rfl <;> omega
    by_cases h2 : depsB a = true ∧ depsB b = true
    · refine .inr ⟨?_, h2.1, h2.2, h⟩
      rw [code_all hn, if_pos]
      simpa using h2
    · have e : codeV [a, b] = 1 := by
        rw [code_all hn, if_neg]
        simpa using h2
      have e2 : joinC a b = 1 := by unfold joinC; rw [if_neg h, if_neg h2]
      exact .inl ⟨by omega, by omega, by unfold joinR; rw [if_neg (by omega)]⟩
/-- The keys of what is joined, each short. -/
theorem short_keys {l : List D} (h : Good l) : ∃ ks : List K4, ks.map (·.1) = l.map D.k := by
  induction l with
  | nil => exact ⟨[], rfl⟩
  | cons d l ih =>
    obtain ⟨ks, hk⟩ := ih fun x hx => h x (by simp [hx])
    exact ⟨⟨d.k, (Key.ok_of (h d (by simp)).1).2.1⟩ :: ks, by simp [hk]⟩

/-- What the inner call hands back, told once more in a cell. -/
theorem Answers.cell {w w1 w2 : World} {e : Ending} {r : List D} {c : Int} {b : Nat} (h : Answers w1 e w2 r c) (hw : Below w.heap.size w w1) (hb : w.heap.size ≤ b) (hb1 : b < w1.heap.size) (hR : ORow w1 b (.slice none 0 0) 0) :
    ∃ v, e = .returned (outV v c) ∧ ORow w2 b (.slice none 0 0) 0 ∧ (∃ (A : Option Addr) (m : Nat × Nat), v = .slice A m.1 m.2) ∧ Answers w (.returned (outV v c)) ((w2.setCell ⟨b, 0, none⟩ v).setCell ⟨b, 1, none⟩ (.int .i64 c)) r c := by
  obtain ⟨A, cap, rfl, ho, hc, hL, hB⟩ := h
  refine ⟨slV A r cap, rfl, hR.step hB hb1, ⟨A, (r.length, cap), rfl⟩, ?_⟩
  exact Answers.row (own_less (own_set2 ho hb1 _ _) hw.size) (((hw.trans (hB.mono hw.size)).setCell (p := ⟨b, 0, none⟩) hb _).setCell (p := ⟨b, 1, none⟩) hb _)

end Go.Proofs.Ytegnjbdgeibhfaa.Dep

/-
  impl.joinAll of one right list: the same list, in new memory.
-/
namespace Go.Proofs.Ytegnjbdgeibhfaa.Dep
open Go.ChangeShapes Go.WideShapes Go.ChangeAt Go.RowKit
set_option linter.unusedVariables false
set_option maxRecDepth 100000

/-- One list in a new row. -/
abbrev oneObj (A : Option Addr) (a : List D) (ca : Nat) : Obj := Obj.cells #[Value.slice A a.length ca] 22
theorem one_list {w W : World} {A : Option Addr} {a : List D} {ca : Nat} (ha : Lies w w.heap.size A a) (hW : Below w.heap.size w W) :
    Lists (W.alloc (oneObj A a ca)) (W.alloc (oneObj A a ca)).heap.size ⟨W.heap.size, 0, none⟩ [⟨A, a, ca⟩] := by
  have hr := heap_alloc_new W (oneObj A a ca)
  have hB : Below w.heap.size w (W.alloc (oneObj A a ca)) := hW.alloc hW.size _
  refine ⟨by simp, fun j hj => ?_, fun j hj => ?_⟩
  · have : j = 0 := by simp at hj; omega
    subst this
    exact cell_of_row _ _ 0 _ _ (0, 0) hr
  · have : j = 0 := by simp at hj; omega
    subst this
    exact (ha.below hB (Nat.le_refl _)).more hB.size
theorem ok_nil : Ok [] := ⟨by simp, fun d hd => absurd hd (by simp), List.Pairwise.nil⟩
theorem chain_one {a : List D} (ha : Ok a) : Chain a (a.map D.k) := by
  have h := chain_join ha ok_nil
  rw [List.append_nil] at h
  exact h
theorem one_keys {a : List D} (ha : Ok a) : (a.map D.k).map (withMost [a]) = a := by
  have h : a = (a.map D.k).map fun k => ⟨k, mostV [a, []] k⟩ := join_keys ha ok_nil
  refine (List.map_congr_left fun k _ => ?_).trans h.symm
  have e1 : mostV [a, []] k = (mostV [a] k).max (ofV [] k) := most_snoc [a] [] k
  have e2 : mostV [a] k = zero.max (ofV a k) := rfl
  have e3 : ofV [] k = zero := rfl
  unfold withMost
  rw [e1, e2, e3]
  rcases ofV_right ha.2.1 k with h | h
  · rw [I.zero_max h, I.max_comm, I.zero_max h]
  · rw [h, I.max_idem, I.max_idem]
theorem one_any (A : Option Addr) (a : List D) (ca : Nat) (w W : World) (ha : Lies w w.heap.size A a) (hd : depsB a = true) (hW : Below w.heap.size w W) :
    Calls Try.prog 63 #[.slice (some ⟨W.heap.size, 0, none⟩) 1 1] (W.alloc (oneObj A a ca)) fun e w' => Answers (W.alloc (oneObj A a ca)) e w' a 0 := by
  have ho := ok_of hd
  obtain ⟨ks, hks⟩ := short_keys ho.2.1
  have hlen : ks.length = a.length := by have := congrArg List.length hks; simpa using this
  have h6 := ho.1
  have hall := all_any ⟨W.heap.size, 0, none⟩ [⟨A, a, ca⟩] 1 ks (by rw [hks]; simpa [allOf] using chain_one ho) (by simp) (fun j hj => by
    have : j = 0 := by simp at hj; omega
    subst this
    show a.length ≤ maxLen
    unfold maxLen; omega) (W.alloc (oneObj A a ca)) (one_list ha hW)
  simp only [List.map_cons, List.map_nil, List.length_cons, List.length_nil] at hall
  refine hall.mono ?_
  rintro e w' ⟨h1, _⟩
  have h2 := h1 (by omega)
  rw [hks, one_keys ho] at h2
  exact h2
/-- The row of lists stands anywhere. -/
theorem one_at (A : Option Addr) (a : List D) (ca nb : Nat) (w : World) (ha : Lies w w.heap.size A a) (hd : depsB a = true) (hb : w.heap[nb]? = some (Obj.cells #[Value.slice A a.length ca] 22 (0, 0))) :
    Calls Try.prog 63 #[.slice (some ⟨nb, 0, none⟩) 1 1] w fun e w' => Answers w e w' a 0 := by
  have ho := ok_of hd
  obtain ⟨ks, hks⟩ := short_keys ho.2.1
  have hlen : ks.length = a.length := by have := congrArg List.length hks; simpa using this
  have h6 := ho.1
  have hall := all_any ⟨nb, 0, none⟩ [⟨A, a, ca⟩] 1 ks (by rw [hks]; simpa [allOf] using chain_one ho) (by simp) (fun j hj => by
    have : j = 0 := by simp at hj; omega
    subst this
    show a.length ≤ maxLen
    unfold maxLen; omega) w ⟨(Array.getElem?_eq_some_iff.1 hb).1, fun j hj => by
      have : j = 0 := by simp at hj; omega
      subst this
      exact cell_of_row _ _ 0 _ _ (0, 0) hb, fun j hj => by
      have : j = 0 := by simp at hj; omega
      subst this
      exact ha⟩
  simp only [List.map_cons, List.map_nil, List.length_cons, List.length_nil] at hall
  refine hall.mono ?_
  rintro e w' ⟨h1, _⟩
  have h2 := h1 (by omega)
  rw [hks, one_keys ho] at h2
  exact h2
end Go.Proofs.Ytegnjbdgeibhfaa.Dep
