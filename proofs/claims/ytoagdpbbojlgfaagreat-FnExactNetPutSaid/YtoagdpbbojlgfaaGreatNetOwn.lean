/-
  A net that a call makes: its two lists in rows of their own, the rows that it tells, and boxes that stay.
-/
import Derived.Test.YtoagdpbbojlgfaaGreatNetApp
import Derived.Test.YtoagdpbbojlgfaaGreatNetNew
namespace Go.Proofs.YtoagdpbbojlgfaaGreat.Net
open Go.ChangeShapes Go.WideShapes Go.ChangeAt Go.RowKit
open Sto (R Sl)
set_option linter.unusedVariables false
set_option maxRecDepth 100000

abbrev Fx := List (Nat × Nat × Array Value)
/-- A net in the making: the stores s in the row oS, the letters m in the row oM; boxes that stay. -/
structure NS (w W : World) (base : Nat) (fx : Fx) (oS oM : Value) (s : List Sl) (m : List Ml) : Prop where
  s0 : W.ownsRow base 98 1 oS s.length (sv s)
  m0 : W.ownsRow base 141 3 oM m.length (mv m)
  r0 : HeldL W (s ++ m.map (fun y => y.x)) base W.heap.size
  fix : ∀ p ∈ fx, Blk W p.1 p.2.1 p.2.2
  small : ∀ p ∈ fx, p.1 < base
  bel : Below w.heap.size w W
  hb : w.heap.size ≤ base
  hs : base ≤ W.heap.size
section
variable {w W W' : World} {base : Nat} {fx : Fx} {oS oM : Value} {s : List Sl} {m : List Ml}
theorem NS.step (h : NS w W base fx oS oM s m) (hb : Below W.heap.size W W') : NS w W' base fx oS oM s m :=
  ⟨o_step h.s0 hb (Nat.le_refl _), o_step h.m0 hb (Nat.le_refl _), (h.r0.step hb (.inr (Nat.le_refl _))).wide (Nat.le_refl _) hb.size, fun p hp => (h.fix p hp).on hb, h.small, h.bel.trans (hb.mono h.bel.size), h.hb, Nat.le_trans h.hs hb.size⟩
theorem NS.alloc (h : NS w W base fx oS oM s m) (o : Obj) : NS w (W.alloc o) base fx oS oM s m := h.step ((Below.refl _ _).alloc (Nat.le_refl _) o)
theorem NS.drew (h : NS w W base fx oS oM s m) : NS w W.drew base fx oS oM s m := h.step ((Below.refl _ _).drew)
/-- A store into a block below the base that is none of the boxes. -/
theorem NS.set (h : NS w W base fx oS oM s m) {p : Addr} (hp : p.block < base) (hw : w.heap.size ≤ p.block) (hn : ∀ q ∈ fx, q.1 ≠ p.block) (u : Value) : NS w (W.setCell p u) base fx oS oM s m :=
  ⟨o_set h.s0 hp u, o_set h.m0 hp u, by rw [World.size_setCell]; exact h.r0.above ((Above.refl base W).set hp u), fun q hq => (h.fix q hq).other (hn q hq) u, h.small, h.bel.setCell hw u, h.hb, by rw [World.size_setCell]; exact h.hs⟩
theorem o_other {te size te' size' n n' : Nat} {v v' : Value} {xs xs' : List Value} (h : W.ownsRow base te size v n xs) (hg : W.grownBy W' v.ownBlock) (k : W.ownsRow base te' size' v' n' xs') (hne : te' ≠ te) : W'.ownsRow base te' size' v' n' xs' := by
  refine ⟨k.1, k.2.imp id ?_⟩
  rintro ⟨g, cap, cur, e, hb', hh, r⟩
  exact ⟨g, cap, cur, e, hb', (o_types h hg hne g cur hh).trans hh, r⟩
theorem NS.grown (h : NS w W base fx oS oM s m) {te size n : Nat} {v : Value} {xs : List Value} (ho : W.ownsRow base te size v n xs) (hg : W.grownBy W' v.ownBlock) (ht : te ≠ 42) :
    HeldL W' (s ++ m.map (fun y => y.x)) base W'.heap.size ∧ (∀ p ∈ fx, Blk W' p.1 p.2.1 p.2.2) ∧ Below w.heap.size w W' ∧ base ≤ W'.heap.size :=
  ⟨(h.r0.types fun g cs hc => o_types ho hg (Ne.symm ht) g cs hc).wide (Nat.le_refl _) hg.size, fun p hp => (hg.block p.1 (h.fix p hp).lt (fun e => by have := o_base ho p.1 e.symm; have := h.small p hp; omega)).trans (h.fix p hp), h.bel.grown hg h.bel.size (fun k e => Nat.le_trans h.hb (o_base ho k e)), Nat.le_trans h.hs hg.size⟩
/-- A store more. -/
theorem NS.addS (h : NS w W base fx oS oM s []) {x : Sl} (hx : HeldL W (s ++ [x]) base W.heap.size) {v : Value} (ho : W'.ownsRow base 98 1 v (s.length + 1) (sv s ++ sv [x])) (hg : W.grownBy W' oS.ownBlock) : NS w W' base fx v oM (s ++ [x]) [] := by
  obtain ⟨_, h2, h3, h4⟩ := h.grown h.s0 hg (by decide)
  refine ⟨by rw [sv_append, List.length_append]; exact ho, o_other h.s0 hg h.m0 (by decide), ?_, h2, h.small, h3, h.hb, h4⟩
  have := (hx.types fun g cs hc => o_types h.s0 hg (by decide) g cs hc).wide (Nat.le_refl _) hg.size
  simpa using this
/-- A letter more. -/
theorem NS.addM (h : NS w W base fx oS oM s m) {y : Ml} (hx : HeldL W ((s ++ m.map (fun y => y.x)) ++ [y.x]) base W.heap.size) {v : Value} (ho : W'.ownsRow base 141 3 v (m.length + 1) (mv m ++ mv [y])) (hg : W.grownBy W' oM.ownBlock) : NS w W' base fx oS v s (m ++ [y]) := by
  obtain ⟨_, h2, h3, h4⟩ := h.grown h.m0 hg (by decide)
  refine ⟨o_other h.m0 hg h.s0 (by decide), by rw [mv_append, List.length_append]; exact ho, ?_, h2, h.small, h3, h.hb, h4⟩
  have := (hx.types fun g cs hc => o_types h.m0 hg (by decide) g cs hc).wide (Nat.le_refl _) hg.size
  simpa using this
end

/-- A net of a call's own, with room told. -/
structure OwnN (W : World) (n : Nt) (a : Nat) : Prop where
  s0 : W.ownsRow a 98 1 (.slice n.A n.s.length n.ca) n.s.length (sv n.s)
  m0 : W.ownsRow a 141 3 (.slice n.B n.m.length n.cb) n.m.length (mv n.m)
  r0 : HeldL W n.all a W.heap.size
theorem slice_inj {A A' : Option Addr} {l l' c c' : Nat} (h : Value.slice A l c = Value.slice A' l' c') : A = A' := by injection h
theorem OwnN.held {W : World} {n : Nt} {a : Nat} (h : OwnN W n a) : HeldN W n a W.heap.size := by
  obtain ⟨A, c, e, _, _, _, h1⟩ := o_val h.s0
  obtain ⟨B, d, e2, _, _, _, h2⟩ := o_val h.m0
  exact ⟨by rw [slice_inj e]; exact h1, by rw [slice_inj e2]; exact h2, h.r0⟩
/-- The net that has been made. -/
theorem NS.net {w W : World} {base : Nat} {fx : Fx} {oS oM : Value} {s : List Sl} {m : List Ml} (h : NS w W base fx oS oM s m) : ∃ n : Nt, oS = .slice n.A n.s.length n.ca ∧ oM = .slice n.B n.m.length n.cb ∧ n.s = s ∧ n.m = m ∧ OwnN W n base := by
  obtain ⟨A, c, e, _, _, _, _⟩ := o_val h.s0
  obtain ⟨B, d, e2, _, _, _, _⟩ := o_val h.m0
  exact ⟨⟨A, s, c, B, m, d⟩, e, e2, rfl, rfl, ⟨by rw [← e]; exact h.s0, by rw [← e2]; exact h.m0, h.r0⟩⟩
theorem OwnN.less {W : World} {n : Nt} {a a' : Nat} (h : OwnN W n a) (ha : a' ≤ a) : OwnN W n a' := ⟨o_less h.s0 ha, o_less h.m0 ha, h.r0.wide ha (Nat.le_refl _)⟩
theorem OwnN.step {W W' : World} {n : Nt} {a : Nat} (h : OwnN W n a) (hb : Below W.heap.size W W') : OwnN W' n a :=
  ⟨o_step h.s0 hb (Nat.le_refl _), o_step h.m0 hb (Nat.le_refl _), (h.r0.step hb (.inr (Nat.le_refl _))).wide (Nat.le_refl _) hb.size⟩
theorem OwnN.set {W : World} {n : Nt} {a : Nat} (h : OwnN W n a) {p : Addr} (hp : p.block < a) (u : Value) : OwnN (W.setCell p u) n a :=
  ⟨o_set h.s0 hp u, o_set h.m0 hp u, by rw [World.size_setCell]; exact h.r0.above ((Above.refl a W).set hp u)⟩
theorem o_box {W : World} {base te size n b t i : Nat} {v u : Value} {xs : List Value} {cs : Array Value} (h : W.ownsRow base te size v n xs) (hB : Blk W b t cs) (ht : t ≠ te) : (W.setCell ⟨b, i, none⟩ u).ownsRow base te size v n xs := by
  refine ⟨h.1, h.2.imp id ?_⟩
  rintro ⟨g, cap, cur, e, hb', hh, r⟩
  refine ⟨g, cap, cur, e, hb', (heap_setCell_other W ⟨b, i, none⟩ g u fun e2 => ?_).trans hh, r⟩
  rw [show g = b from e2, show W.heap[b]? = _ from hB] at hh
  injection hh with hh
  injection hh with _ h5
  exact ht h5
theorem held_box {W : World} {xs : List Sl} {a c b t : Nat} {cs : Array Value} (h : HeldL W xs a c) (hB : Blk W b t cs) (ht : t ≠ 42) (i : Nat) (u : Value) : HeldL (W.setCell ⟨b, i, none⟩ u) xs a c :=
  h.types fun k ks hc => heap_setCell_other W ⟨b, i, none⟩ k u fun e => by
    rw [show k = b from e, show W.heap[b]? = _ from hB] at hc
    injection hc with hc
    injection hc with _ h5
    exact ht h5
/-- A store into a box. -/
theorem OwnN.box {W : World} {n : Nt} {a b t : Nat} {cs : Array Value} (h : OwnN W n a) (hB : Blk W b t cs) (h1 : t ≠ 98) (h2 : t ≠ 141) (h3 : t ≠ 42) (i : Nat) (u : Value) : OwnN (W.setCell ⟨b, i, none⟩ u) n a :=
  ⟨o_box h.s0 hB h1, o_box h.m0 hB h2, by rw [World.size_setCell]; exact held_box h.r0 hB h3 i u⟩
theorem o_ne {W : World} {base te size n : Nat} {v u : Value} {xs : List Value} (h : W.ownsRow base te size v n xs) {p : Addr} (hne : ∀ k, v.ownBlock = some k → k ≠ p.block) : (W.setCell p u).ownsRow base te size v n xs := by
  refine ⟨h.1, h.2.imp id ?_⟩
  rintro ⟨g, cap, cur, e, hb', hh, r⟩
  subst e
  exact ⟨g, cap, cur, rfl, hb', (heap_setCell_other W p g u (hne g rfl)).trans hh, r⟩
/-- A store into a letter of one's own. -/
theorem OwnN.letter {W : World} {n : Nt} {a b : Nat} {cs : Array Value} (h : OwnN W n a) (hB : Blk W b 141 cs) (hne : ∀ k, (Value.slice n.B n.m.length n.cb).ownBlock = some k → k ≠ b) (i : Nat) (u : Value) : OwnN (W.setCell ⟨b, i, none⟩ u) n a :=
  ⟨o_box h.s0 hB (by decide), o_ne h.m0 hne, by rw [World.size_setCell]; exact held_box h.r0 hB (by decide) i u⟩
/-- A letter more. -/
theorem OwnN.addM {W W' : World} {n : Nt} {a : Nat} (h : OwnN W n a) {y : Ml} (hx : HeldL W (n.all ++ [y.x]) a W.heap.size) {A2 : Option Addr} {c2 : Nat} (ho : W'.ownsRow a 141 3 (.slice A2 (n.m.length + 1) c2) (n.m.length + 1) (mv n.m ++ mv [y])) (hg : W.grownBy W' (Value.slice n.B n.m.length n.cb).ownBlock) : OwnN W' ⟨n.A, n.s, n.ca, A2, n.m ++ [y], c2⟩ a := by
  have h1 : W'.heap.size ≥ W.heap.size := hg.size
  refine ⟨o_other h.m0 hg h.s0 (by decide), by simp only [List.length_append, List.length_singleton]; rw [mv_append]; exact ho, ?_⟩
  have := (hx.types fun g cs hc => o_types h.m0 hg (by decide) g cs hc).wide (Nat.le_refl _) h1
  unfold Nt.all at this ⊢
  simpa using this
theorem OwnN.alloc {W : World} {n : Nt} {a : Nat} (h : OwnN W n a) (o : Obj) : OwnN (W.alloc o) n a := h.step ((Below.refl _ _).alloc (Nat.le_refl _) o)
theorem OwnN.drew {W : World} {n : Nt} {a : Nat} (h : OwnN W n a) : OwnN W.drew n a := h.step ((Below.refl _ _).drew)
theorem OwnN.lt {W : World} {n : Nt} {a : Nat} (h : OwnN W n a) : ∀ k, (Value.slice n.B n.m.length n.cb).ownBlock = some k → a ≤ k ∧ k < W.heap.size := fun k e => by
  refine ⟨o_base h.m0 k e, ?_⟩
  rcases h.m0.2 with ⟨e2, _⟩ | ⟨g, cap, cur, e2, hb, hh, _⟩
  · rw [e2] at e; cases e
  · rw [e2] at e; cases e; exact (Array.getElem?_eq_some_iff.1 hh).1
theorem out_set9 {W : World} {b t : Nat} {a c : Value} (h : Blk W b t #[a, c]) (v : Value) : Blk (W.setCell ⟨b, 1, none⟩ v) b t #[a, v] := h.set 1 v rfl
/-- A net and a code of one's own. -/
theorem AnsN.own {w w' : World} {n : Nt} {c : Int} {p : List (List R) × List Pm} (h : OwnN w' n w.heap.size) (hp : pl n = p) (hb : Below w.heap.size w w') : AnsN w (.returned (Nt.out n c)) w' p c := ⟨n, rfl, hp, h.held, hb⟩

/-- What a call answers: a net of its own, with room told. -/
def AnsO (w : World) (e : Ending) (w' : World) (p : List (List R) × List Pm) : Prop :=
  ∃ n : Nt, e = .returned n.val ∧ pl n = p ∧ OwnN w' n w.heap.size ∧ Below w.heap.size w w'
end Go.Proofs.YtoagdpbbojlgfaaGreat.Net
