/-
  Two records alike: impl.recordOf, spec.RecSame, impl.RecSame.
-/
import Derived.Test.YtegnjbdgeibhfaaRecBox
namespace Go.Proofs.Ytegnjbdgeibhfaa.Rec
open Go.ChangeShapes Go.WideShapes Go.ChangeAt Go.RowKit
open Dep (D I)
set_option linter.unusedVariables false
set_option maxRecDepth 100000
set_option linter.unusedSimpArgs false

theorem C8.step {W W' : World} {b : Nat} {r : R} {p : P} (h : C8 W b r p) (hb : Below W.heap.size W W') : C8 W' b r p := by
  obtain ⟨h0, h1, h2, h3, h4, h5, h6, h7⟩ := h
  have k := fun (a : Addr) (v : Value) (hc : W.cell? a = some v) => Lib.Below.cellOf hb hc (Nat.le_refl _)
  exact ⟨k _ _ h0, k _ _ h1, k _ _ h2, k _ _ h3, k _ _ h4, k _ _ h5, k _ _ h6, k _ _ h7⟩
/-- A boxed record stands, and nothing below is written. -/
abbrev One (w : World) (b : Nat) (r : R) (p : P) (W : World) : Prop := C8 W b r p ∧ Below w.heap.size w W
theorem One.step {w W W' : World} {b : Nat} {r : R} {p : P} (h : One w b r p W) (hb : Below W.heap.size W W') : One w b r p W' := ⟨C8.step h.1 hb, h.2.trans (hb.mono h.2.size)⟩
theorem One.drew {w W : World} {b : Nat} {r : R} {p : P} (h : One w b r p W) : One w b r p W.drew := ⟨h.1, h.2.drew⟩
/-- Two boxed records stand, and nothing below is written. -/
abbrev Two (w : World) (b c : Nat) (r s : R) (p q : P) (W : World) : Prop := C8 W b r p ∧ C8 W c s q ∧ Below w.heap.size w W
theorem Two.step {w W W' : World} {b c : Nat} {r s : R} {p q : P} (h : Two w b c r s p q W) (hb : Below W.heap.size W W') : Two w b c r s p q W' := ⟨C8.step h.1 hb, C8.step h.2.1 hb, h.2.2.trans (hb.mono h.2.2.size)⟩
theorem Two.drew {w W : World} {b c : Nat} {r s : R} {p q : P} (h : Two w b c r s p q W) : Two w b c r s p q W.drew := ⟨h.1, h.2.1, h.2.2.drew⟩

noncomputable def sameB (r s : R) : Bool := @decide (r = s) (Classical.propDecidable _)
theorem sameB_true {r s : R} (h : r = s) : sameB r s = true := by simp [sameB, h]
theorem sameB_false {r s : R} (h : ¬ r = s) : sameB r s = false := by simp [sameB, h]
theorem same_of {r s : R} (h : sameB r s = true) : r = s := by
  rcases Classical.em (r = s) with h1 | h1
  · exact h1
  · rw [sameB_false h1] at h; cases h
/-- What is alike without the lists. -/
def Base (r s : R) : Prop := (r.k.toList == s.k.toList) = true ∧ (r.i.c == s.i.c) = true ∧ (r.i.s == s.i.s) = true ∧ (r.i.e == s.i.e) = true ∧ (r.d.toList == s.d.toList) = true ∧ (r.g == s.g) = true
theorem same_base {r s : R} (h : Base r s) : sameB r s = (Dep.alikeB r.l s.l && Str.alikeB r.b s.b) := by
  obtain ⟨h0, h1, h2, h3, h4, h5⟩ := h
  have hs := fun (a b : ByteArray) (e : (a.toList == b.toList) = true) => Dep.list_eq (a := a) (b := b) (by rw [← ByteArray.toList_eq, ← ByteArray.toList_eq]; exact beq_iff_eq.1 e)
  by_cases hl : r.l = s.l
  · by_cases hb : r.b = s.b
    · rw [Dep.alikeB_true hl, Str.alikeB_true hb]
      refine sameB_true ?_
      obtain ⟨k, ⟨c, a, e⟩, d, g, l, b⟩ := r
      obtain ⟨k', ⟨c', a', e'⟩, d', g', l', b'⟩ := s
      have q0 := hs _ _ h0
      have q1 := beq_iff_eq.1 h1
      have q2 := beq_iff_eq.1 h2
      have q3 := beq_iff_eq.1 h3
      have q4 := hs _ _ h4
      have q5 := beq_iff_eq.1 h5
      simp only at q0 q1 q2 q3 q4 q5 hl hb
      subst q0 q1 q2 q3 q4 q5 hl hb
      rfl
    · rw [Str.alikeB_false hb, Bool.and_false]
      exact sameB_false fun e => hb (by rw [e])
  · rw [Dep.alikeB_false hl, Bool.false_and]
    exact sameB_false fun e => hl (by rw [e])
theorem not_base {r s : R} (h : sameB r s = true) : Base r s := by
  rw [same_of h]
  exact ⟨beq_self_eq_true _, beq_self_eq_true _, beq_self_eq_true _, beq_self_eq_true _, beq_self_eq_true _, beq_self_eq_true _⟩
theorem same_no {r s : R} (h : ¬ Base r s) : sameB r s = false := by
  cases e : sameB r s
  · rfl
  · exact absurd (not_base e) h

/-- A record without its lists, by value. -/
def rcdV (r : R) : Value := .agg #[.int .i64 r.i.c, .int .i64 r.i.s, .int .i64 r.i.e, .string r.k, .string r.d, .bool r.g]
theorem recordOf_any (r : R) (p : P) (w : World) :
    Calls Try.prog 97 #[recV r p] w fun x w' => x = .returned (rcdV r) ∧ Below w.heap.size w w' := by
  unfold recV
  go_enter Try.func97, Try.ntmps97
  go_wp2_with fail
  refine bodyPost_ret (v := rcdV r) (by simp [results, Try.results97, go_sem, rcdV]) rfl ⟨rfl, ?_⟩
  exact ((Below.refl _ _).alloc (Nat.le_refl _) _).alloc (by simp) _

end Go.Proofs.Ytegnjbdgeibhfaa.Rec
