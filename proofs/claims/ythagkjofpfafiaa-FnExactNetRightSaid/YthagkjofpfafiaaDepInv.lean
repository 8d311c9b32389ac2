/-
  What joinAll's rounds keep.
-/
import Derived.Test.YthagkjofpfafiaaDepChain
import Derived.Test.YthagkjofpfafiaaDepOut
namespace Go.Proofs.Ythagkjofpfafiaa.Dep
open Go.ChangeShapes Go.WideShapes Go.ChangeAt Go.RowKit Go.Shelf
set_option linter.unusedVariables false
set_option maxRecDepth 100000

/-- A key with the greatest Id of it. -/
def withMost (L : List (List D)) (k : ByteArray) : D := ⟨k, mostV L k⟩
/-- What holds ahead of a round: the keys pre have come. -/
structure Inv (w : World) (ad : Addr) (len cap : Nat) (L : List (List D)) (pre : List ByteArray) (W : World) : Prop where
  lists : Boxed W w.heap.size 88 (.slice (some ad) len cap)
  res : ORow W (w.heap.size + 1) (.slice none 0 0) 0
  deps : ∃ A c, Boxed W (w.heap.size + 2) 85 (slV A (pre.map (withMost L)) c) ∧ W.ownsRow (w.heap.size + 4) 108 4 (slV A (pre.map (withMost L)) c) (pre.map (withMost L)).length (flat (pre.map (withMost L)))
  six : pre.length ≤ 6
  below : Below w.heap.size w W
  size : w.heap.size + 4 ≤ W.heap.size
/-- What holds where a round has left. -/
def InvX (w : World) (c : Code) (pre : List ByteArray) (W : World) : Prop := c = .ret ∧ ORow W (w.heap.size + 1) (.slice none 0 0) 9 ∧ 6 < pre.length ∧ Below w.heap.size w W

theorem cells_kept {W W' : World} {row : Option Nat} (hg : W.grownBy W' row) (hr : ∀ r, row = some r → ∃ o : Obj, W.heap[r]? = some o ∧ o.isCells = false) {b t : Nat} {cs : Array Value} {f : Nat × Nat} (h : W.heap[b]? = some (.cells cs t f)) : W'.heap[b]? = some (.cells cs t f) := by
  refine (hg.block b (Array.getElem?_eq_some_iff.1 h).1 (fun e => ?_)).trans h
  obtain ⟨o, ho, hc⟩ := hr b e.symm
  rw [h] at ho; cases ho; cases hc
theorem own_kept {W W' : World} {row : Option Nat} (hg : W.grownBy W' row) (hr : ∀ r, row = some r → ∃ o : Obj, W.heap[r]? = some o ∧ o.isCells = false) {base n : Nat} {v : Value} {xs : List Value} (h : W.ownsRow base 108 4 v n xs) : W'.ownsRow base 108 4 v n xs := by
  refine ⟨h.1, h.2.imp id ?_⟩
  rintro ⟨g, cap, cur, e, hb', hh, r⟩
  exact ⟨g, cap, cur, e, hb', cells_kept hg hr hh, r⟩
theorem Inv.own (w : World) (ad : Addr) (len cap : Nat) (L : List (List D)) (B : Nat) (hB : w.heap.size ≤ B) : OwnFrom B (Inv w ad len cap L) := by
  rintro pre W W' row ⟨h1, h2, ⟨A, c, h3, h4⟩, h5, h6, h7⟩ hg hr
  have hr' : ∀ r, row = some r → ∃ o : Obj, W.heap[r]? = some o ∧ o.isCells = false := fun r e => (hr r e).2
  exact ⟨cells_kept hg hr' h1, cells_kept hg hr' h2, ⟨A, c, cells_kept hg hr' h3, own_kept hg hr' h4⟩, h5, h6.grown hg h6.size (fun k e => Nat.le_trans hB (hr k e).1), Nat.le_trans h7 hg.size⟩
theorem InvX.own (w : World) (c : Code) (B : Nat) (hB : w.heap.size ≤ B) : OwnFrom B (InvX w c) := by
  rintro pre W W' row ⟨h1, h2, h3, h6⟩ hg hr
  exact ⟨h1, cells_kept hg (fun r e => (hr r e).2) h2, h3, h6.grown hg h6.size (fun k e => Nat.le_trans hB (hr k e).1)⟩
theorem keepsBox_put {n₀ Bn : Nat} {w : World} (hn : n₀ ≤ w.heap.size) (hB : Bn < w.heap.size) (W : World) (l : Nat) (o o' : Obj) (hl : w.heap.size ≤ l) (h : W.heap[l]? = some o) (hc : o.isCells = false) (hw : o.isWalk = false) : KeepsBox n₀ Bn W (W.putObj l o') :=
  ⟨belowK_b hn W l o o' hl h hc hw, (grownBy_putObj' W l o').block Bn (by have := (Array.getElem?_eq_some_iff.1 h).1; omega) (fun e => by cases e; omega)⟩
/-- A box below what is written. -/
theorem box_below {W W' : World} {B N : Nat} {t : TypeId} {v : Value} (h : Boxed W B t v) (hb : Below N W W') (hB : B < N) : Boxed W' B t v := (hb.block B hB).trans h

/-- Where the loop begins. -/
def start (w : World) (ad : Addr) (len cap : Nat) : World :=
  (((w.alloc (.cells #[.slice (some ad) len cap] 88)).alloc (.cells #[.slice none 0 0, .int .i64 0] 90)).alloc (.cells #[.slice none 0 0] 85)).alloc (.cells #[.slice (some ad) len cap] 88)
theorem start_size (w : World) (ad : Addr) (len cap : Nat) : (start w ad len cap).heap.size = w.heap.size + 4 := by simp [start]
theorem start_below (w : World) (ad : Addr) (len cap : Nat) : Below w.heap.size w (start w ad len cap) :=
  ((((Below.refl _ w).alloc (Nat.le_refl _) _).alloc (by simp) _).alloc (by simp; omega) _).alloc (by simp; omega) _
theorem start_inv (w : World) (ad : Addr) (len cap : Nat) (L : List (List D)) : Inv w ad len cap L [] (start w ad len cap) := by
  have e0 := Boxed.new w 88 (.slice (some ad) len cap)
  have e1 := ORow.new (w.alloc (.cells #[.slice (some ad) len cap] 88)) (.slice none 0 0) 0
  have e2 := Boxed.new ((w.alloc (.cells #[.slice (some ad) len cap] 88)).alloc (.cells #[.slice none 0 0, .int .i64 0] 90)) 85 (.slice none 0 0)
  simp only [World.size_alloc] at e1 e2
  exact ⟨((e0.alloc _).alloc _).alloc _, (e1.alloc _).alloc _, ⟨none, 0, e2.alloc _, own_nil _ _⟩, by simp, start_below w ad len cap, by rw [start_size]; omega⟩
theorem start_box (w : World) (ad : Addr) (len cap : Nat) : (start w ad len cap).cell? ⟨w.heap.size + 3, 0, none⟩ = some (.slice (some ad) len cap) := by
  have := (Boxed.new (((w.alloc (.cells #[.slice (some ad) len cap] 88)).alloc (.cells #[.slice none 0 0, .int .i64 0] 90)).alloc (.cells #[.slice none 0 0] 85)) 88 (.slice (some ad) len cap)).cell
  simp only [World.size_alloc] at this
  exact this
end Go.Proofs.Ythagkjofpfafiaa.Dep
