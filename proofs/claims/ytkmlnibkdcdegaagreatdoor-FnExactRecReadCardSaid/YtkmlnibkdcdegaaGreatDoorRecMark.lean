/-
  The law's own marks on a record: markRec; what they leave of the rest.
-/
import Derived.Test.YtkmlnibkdcdegaaGreatDoorRecBox
namespace Go.Proofs.YtkmlnibkdcdegaaGreatDoor.Rec
open Go.ChangeShapes Go.WideShapes Go.ChangeAt Go.RowKit
open Dep (D I)
set_option linter.unusedVariables false
set_option maxRecDepth 100000
set_option linter.unusedSimpArgs false

/-- Nothing has turned but new blocks, and blocks of deps and of strings from lo on, below hi. -/
structure Marked (W W' : World) (lo hi : Nat) : Prop where
  size : W.heap.size ≤ W'.heap.size
  below : ∀ w : World, Below w.heap.size w W → w.heap.size ≤ lo → Below w.heap.size w W'
  blk : ∀ (b t : Nat) (cs : Array Value), Blk W b t cs → t ≠ 44 → t ≠ 9 → Blk W' b t cs
  deps : ∀ (A : Option Addr) (l : List D) (lo' hi' : Nat), Dep.Held W A l lo' hi' → hi' ≤ lo ∨ hi ≤ lo' → Dep.Held W' A l lo' hi'
  strs : ∀ (A : Option Addr) (l : List ByteArray) (lo' hi' : Nat), Str.Held W A l lo' hi' → hi' ≤ lo ∨ hi ≤ lo' → Str.Held W' A l lo' hi'
theorem Marked.trans {a b c : World} {lo hi : Nat} (h : Marked a b lo hi) (k : Marked b c lo hi) : Marked a c lo hi :=
  ⟨Nat.le_trans h.size k.size, fun w hb hl => k.below w (h.below w hb hl) hl, fun b t cs hb h1 h2 => k.blk b t cs (h.blk b t cs hb h1 h2) h1 h2, fun A l lo' hi' hh hd => k.deps A l lo' hi' (h.deps A l lo' hi' hh hd) hd, fun A l lo' hi' hh hd => k.strs A l lo' hi' (h.strs A l lo' hi' hh hd) hd⟩
theorem Marked.ofAlloc (W : World) (o : Obj) (lo hi : Nat) : Marked W (W.alloc o) lo hi :=
  ⟨by simp, fun w hb _ => hb.alloc hb.size o, fun b t cs hb _ _ => hb.alloc o, fun A l lo' hi' hh _ => hh.step ((Below.refl _ W).alloc (Nat.le_refl _) o) (.inr (Nat.le_refl _)), fun A l lo' hi' hh _ => hh.step ((Below.refl _ W).alloc (Nat.le_refl _) o) (.inr (Nat.le_refl _))⟩
theorem Marked.ofDeps {W W' : World} {lo hi : Nat} (h : Dep.Turned W W' lo hi) : Marked W W' lo hi :=
  ⟨h.size, fun w hb hl => h.below hb hl, fun b t cs hb h1 _ => Str.blk_turned h hb h1, fun A l lo' hi' hh hd => h.held hh hd, fun A l lo' hi' hh _ => hh.turned h⟩
theorem Marked.ofStrs {W W' : World} {lo hi : Nat} (h : Str.Turned W W' lo hi) : Marked W W' lo hi :=
  ⟨h.size, fun w hb hl => h.below hb hl, fun b t cs hb _ h2 => h.blk hb h2, fun A l lo' hi' hh _ => h.deps hh, fun A l lo' hi' hh hd => h.held hh hd⟩

theorem markRec_any (r : R) (p : P) (k lo hi : Nat) (w : World) (h : Held w r p lo hi) (hhi : hi ≤ w.heap.size) (hl : r.l.length ≤ 1048576) (hb : r.b.length ≤ 1048576) (hk : k ≤ 5000000) :
    Calls Tryz.prog 18 #[recV r p, .int .i64 k] w fun e w' => e = .returned (.int .i64 ((k + 4 * r.l.length + r.b.length : Nat) : Int)) ∧ Dep.Held w' p.A (Dep.marks k r.l.length) lo hi ∧ Str.Held w' p.B (Str.marks (k + 4 * r.l.length) r.b.length) lo hi ∧ Marked w w' lo hi := by
  have M0 := Lib.hid (Marked.ofAlloc w (.cells (cellsV r p) 27) lo hi)
  have X0 := Lib.hid (Blk.new w 27 (cellsV r p))
  have HM := Lib.hid (Dep.mark_any p.A r.l p.ca k lo hi (w.alloc (.cells (cellsV r p) 27)) (h.1.step ((Below.refl _ w).alloc (Nat.le_refl _) _) (.inr (Nat.le_refl _))) hl (by omega))
  have HS := Lib.hid (h.2.step ((Below.refl _ w).alloc (Nat.le_refl _) (.cells (cellsV r p) 27)) (.inr (Nat.le_refl _)))
  clear h
  unfold recV
  go_enter Tryz.func18, Tryz.ntmps18
  go_wp2_with fail
  refine HM.out.mono ?_
  rintro e w1 ⟨rfl, hh, ht⟩
  have M1 := Lib.hid (M0.out.trans (Marked.ofDeps ht))
  have X1 := Lib.hid ((Marked.ofDeps ht).blk _ _ _ X0.out (by decide) (by decide))
  have HD := Lib.hid hh
  have HS1 := Lib.hid (HS.out.turned ht)
  obtain ⟨z, hz⟩ : ∃ z : Nat, k + 4 * r.l.length = z := ⟨_, rfl⟩
  have HZ := Lib.hid hz
  have hz2 : z ≤ 10000000 := by omega
  rw [hz]
  clear hh ht hz
  obtain ⟨x0, x1, x2, x3, x4, x5, x6, x7⟩ := cells8 X1.out
  go_wp2_with fail
  refine (Str.mark_any p.B r.b p.cb z lo hi w1 HS1.out hb hz2).mono ?_
  rintro e w2 ⟨rfl, hh, ht⟩
  have M2 := Lib.hid (M1.out.trans (Marked.ofStrs ht))
  have HD2 := Lib.hid (ht.deps HD.out)
  have HS2 := Lib.hid hh
  obtain ⟨z2, hz2⟩ : ∃ z2 : Nat, z + r.b.length = z2 := ⟨_, rfl⟩
  have HZ2 := Lib.hid hz2
  rw [hz2]
  clear hh ht hz2 x0 x1 x2 x3 x4 x5 x6 x7
  go_wp2_with fail
  go_ret
  exact ⟨Str.ret_i64 (by have := HZ2.out; have := HZ.out; omega), HD2.out, by rw [HZ.out]; exact HS2.out, M2.out⟩
end Go.Proofs.YtkmlnibkdcdegaaGreatDoor.Rec
