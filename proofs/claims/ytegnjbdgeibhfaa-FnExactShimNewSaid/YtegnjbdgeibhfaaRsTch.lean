/-
  What a mark leaves as it was; a list of records, and a shelf, that are a call's own.
-/
import Derived.Test.YtegnjbdgeibhfaaRsCut
import Derived.Test.YtegnjbdgeibhfaaPackRecB
namespace Go.Proofs.Ytegnjbdgeibhfaa.Rs
open Go.ChangeShapes Go.WideShapes Go.ChangeAt Go.RowKit
open Rec (R P Sound Small recV cellsV)
open Net (Cl Bk HeldV)
set_option linter.unusedVariables false
set_option maxRecDepth 100000

/-- Nothing has turned but new blocks, and blocks of these types from lo on, below hi. -/
structure Tch (ts : List Nat) (W W' : World) (lo hi : Nat) : Prop where
  os : W'.os = W.os
  tape : W'.tape = W.tape
  output : W'.output = W.output
  size : W.heap.size ≤ W'.heap.size
  block : ∀ k, k < W.heap.size → (k < lo ∨ hi ≤ k ∨ ∀ (cs : Array Value) (t : Nat), W.heap[k]? = some (Obj.cells cs t (0, 0)) → t ∉ ts) → W'.heap[k]? = W.heap[k]?
theorem Tch.refl (ts : List Nat) (W : World) (lo hi : Nat) : Tch ts W W lo hi := ⟨rfl, rfl, rfl, Nat.le_refl _, fun _ _ _ => rfl⟩
theorem Tch.trans {ts : List Nat} {a b c : World} {lo hi : Nat} (h : Tch ts a b lo hi) (k : Tch ts b c lo hi) : Tch ts a c lo hi :=
  ⟨k.os.trans h.os, k.tape.trans h.tape, k.output.trans h.output, Nat.le_trans h.size k.size, fun i hi' hc => by
    have e := h.block i hi' hc
    refine (k.block i (Nat.lt_of_lt_of_le hi' h.size) ?_).trans e
    rcases hc with hc | hc | hc
    · exact .inl hc
    · exact .inr (.inl hc)
    · exact .inr (.inr fun cs t hb => hc cs t (e ▸ hb))⟩
theorem Tch.wide {ts ts' : List Nat} {W W' : World} {lo hi lo' hi' : Nat} (h : Tch ts W W' lo hi) (ht : ∀ t ∈ ts, t ∈ ts') (h1 : lo' ≤ lo) (h2 : hi ≤ hi') : Tch ts' W W' lo' hi' :=
  ⟨h.os, h.tape, h.output, h.size, fun k hk hc => h.block k hk (by
    rcases hc with hc | hc | hc
    · exact .inl (by omega)
    · exact .inr (.inl (by omega))
    · exact .inr (.inr fun cs t hb hm => hc cs t hb (ht t hm)))⟩
theorem Tch.ofBelow {ts : List Nat} {W W' : World} {lo hi : Nat} (h : Below W.heap.size W W') : Tch ts W W' lo hi := ⟨h.os, h.tape, h.output, h.size, fun k hk _ => h.block k hk⟩
theorem Tch.ofGrown {ts : List Nat} {W W' : World} {lo hi : Nat} {row : Option Nat} (h : W.grownBy W' row) (hr : ∀ g, row = some g → lo ≤ g ∧ g < hi ∧ ∃ (cs : Array Value) (t : Nat), W.heap[g]? = some (Obj.cells cs t (0, 0)) ∧ t ∈ ts) : Tch ts W W' lo hi :=
  ⟨h.os, h.tape, h.output, h.size, fun k hk hc => h.block k hk fun e => by
    obtain ⟨h1, h2, cs, t, hb, hm⟩ := hr k e.symm
    rcases hc with hc | hc | hc
    · omega
    · omega
    · exact hc cs t hb hm⟩
theorem Tch.ofDeps {ts : List Nat} {W W' : World} {lo hi : Nat} (h : Dep.Turned W W' lo hi) (ht : 80 ∈ ts) : Tch ts W W' lo hi := by
  obtain ⟨row, hg, hr⟩ := h
  exact Tch.ofGrown hg fun g e => by
    obtain ⟨h1, h2, cs, hb⟩ := hr g e
    exact ⟨h1, h2, cs, _, hb, ht⟩
theorem Tch.ofStrs {ts : List Nat} {W W' : World} {lo hi : Nat} (h : Str.Turned W W' lo hi) (ht : 9 ∈ ts) : Tch ts W W' lo hi := by
  obtain ⟨row, hg, hr⟩ := h
  exact Tch.ofGrown hg fun g e => by
    obtain ⟨h1, h2, cs, hb⟩ := hr g e
    exact ⟨h1, h2, cs, _, hb, ht⟩
theorem Tch.set {ts : List Nat} {W W' : World} {lo hi g t : Nat} {cs : Array Value} (h : Tch ts W W' lo hi) (hb : W'.heap[g]? = some (Obj.cells cs t (0, 0))) (ht : t ∈ ts) (h1 : lo ≤ g) (h2 : g < hi) (i : Nat) (u : Value) : Tch ts W (W'.setCell ⟨g, i, none⟩ u) lo hi :=
  h.trans ⟨rfl, rfl, rfl, by rw [World.size_setCell]; exact Nat.le_refl _, fun k hk hc => heap_setCell_other W' _ k u fun e => by
    have e2 : k = g := e
    subst e2
    rcases hc with hc | hc | hc
    · omega
    · omega
    · exact hc cs t hb ht⟩
theorem Tch.below {ts : List Nat} {w W W' : World} {lo hi : Nat} (h : Tch ts W W' lo hi) (hb : Below w.heap.size w W) (hlo : w.heap.size ≤ lo) : Below w.heap.size w W' :=
  hb.trans ⟨h.os, h.tape, h.output, h.size, fun k hk => h.block k (by have := hb.size; omega) (.inl (by omega))⟩
theorem Tch.blk {ts : List Nat} {W W' : World} {lo hi b t : Nat} {cs : Array Value} (h : Tch ts W W' lo hi) (hh : Blk W b t cs) (ht : t ∉ ts) : Blk W' b t cs :=
  (h.block b hh.lt (.inr (.inr fun cs' t' hb => by
    rw [show W.heap[b]? = _ from hh] at hb
    injection hb with hb
    injection hb with _ h2
    subst h2
    exact ht))).trans hh
theorem Tch.dep {ts : List Nat} {W W' : World} {lo hi lo' hi' : Nat} {A : Option Addr} {l : List Dep.D} (h : Tch ts W W' lo hi) (hh : Dep.Held W A l lo' hi') (hd : hi' ≤ lo ∨ hi ≤ lo') : Dep.Held W' A l lo' hi' :=
  hh.keep fun k h1 h2 h3 => h.block k h3 (by omega)
theorem Tch.str {ts : List Nat} {W W' : World} {lo hi lo' hi' : Nat} {A : Option Addr} {l : List ByteArray} (h : Tch ts W W' lo hi) (hh : Str.Held W A l lo' hi') (hd : hi' ≤ lo ∨ hi ≤ lo') : Str.Held W' A l lo' hi' :=
  hh.keep fun k h1 h2 h3 => h.block k h3 (by omega)
theorem Tch.recd {ts : List Nat} {W W' : World} {lo hi lo' hi' : Nat} {r : R} {p : P} (h : Tch ts W W' lo hi) (hh : Rec.Held W r p lo' hi') (hd : hi' ≤ lo ∨ hi ≤ lo') : Rec.Held W' r p lo' hi' := ⟨h.dep hh.1 hd, h.str hh.2 hd⟩
theorem Tch.vals {ts : List Nat} {W W' : World} {lo hi lo' hi' t : Nat} {A : Option Addr} {vs : List Value} (h : Tch ts W W' lo hi) (hh : HeldV W A t vs lo' hi') (hd : hi' ≤ lo ∨ hi ≤ lo') : HeldV W' A t vs lo' hi' :=
  hh.keep fun g cs hc h1 h2 => h.block g (Array.getElem?_eq_some_iff.1 hc).1 (by omega)
theorem Tch.vals2 {ts : List Nat} {W W' : World} {lo hi lo' hi' t : Nat} {A : Option Addr} {vs : List Value} (h : Tch ts W W' lo hi) (hh : HeldV W A t vs lo' hi') (ht : t ∉ ts) : HeldV W' A t vs lo' hi' :=
  hh.keep fun g cs hc h1 h2 => h.block g (Array.getElem?_eq_some_iff.1 hc).1 (.inr (.inr fun cs' t' hb => by
    rw [hc] at hb
    injection hb with hb
    injection hb with _ h2
    subst h2
    exact ht))
theorem Tch.bk {ts : List Nat} {W W' : World} {lo hi g t n : Nat} {vs : List Value} (h : Tch ts W W' lo hi) (hh : Bk W g t n vs) (ht : t ∉ ts) : Bk W' g t n vs := by
  refine hh.same (h.block g hh.lt (.inr (.inr fun cs' t' hb => ?_)))
  obtain ⟨cs, hc, _⟩ := hh
  rw [hc] at hb
  injection hb with hb
  injection hb with _ h2
  subst h2
  exact ht

theorem HeldQ.keep {w w' : World} : ∀ {l : List Q} {a b : Nat}, HeldQ w l a b → (∀ k, a ≤ k → k < b → k < w.heap.size → w'.heap[k]? = w.heap[k]?) → HeldQ w' l a b
  | [], _, _, h, _ => h
  | q :: l, a, b, ⟨m, h1, h2, h3⟩, hk => ⟨m, h1, ⟨h2.1.keep fun k x y z => hk k x (by have := h3.le; omega) z, h2.2.keep fun k x y z => hk k x (by have := h3.le; omega) z⟩, HeldQ.keep h3 fun k x y z => hk k (by omega) y z⟩
theorem HeldQ.split {w : World} {x : Q} {S : List Q} : ∀ {P : List Q} {lo hi : Nat}, HeldQ w (P ++ x :: S) lo hi → ∃ a b, HeldQ w P lo a ∧ a ≤ b ∧ Rec.Held w x.r x.p a b ∧ HeldQ w S b hi
  | [], lo, hi, ⟨m, h1, h2, h3⟩ => ⟨lo, m, Nat.le_refl _, h1, h2, h3⟩
  | q :: P, lo, hi, ⟨m, h1, h2, h3⟩ => by
    obtain ⟨a, b, k1, k2, k3, k4⟩ := HeldQ.split (P := P) h3
    exact ⟨a, b, ⟨m, h1, h2, k1⟩, k2, k3, k4⟩
theorem HeldQ.join {w : World} {x : Q} {S : List Q} {a b hi : Nat} (hab : a ≤ b) (hx : Rec.Held w x.r x.p a b) (hS : HeldQ w S b hi) : ∀ {P : List Q} {lo : Nat}, HeldQ w P lo a → HeldQ w (P ++ x :: S) lo hi
  | [], lo, h => ⟨b, Nat.le_trans h hab, hx.wide h (Nat.le_refl _), hS⟩
  | q :: P, lo, ⟨m, h1, h2, h3⟩ => ⟨m, h1, h2, HeldQ.join hab hx hS h3⟩
theorem Tch.recs {ts : List Nat} {W W' : World} {lo hi lo' hi' : Nat} {l : List Q} (h : Tch ts W W' lo hi) (hh : HeldQ W l lo' hi') (hd : hi' ≤ lo ∨ hi ≤ lo') : HeldQ W' l lo' hi' :=
  hh.keep fun k h1 h2 h3 => h.block k h3 (by omega)

/-- A list of records is a call's own. -/
structure HeldRs (w : World) (A : Option Addr) (l : List Q) (lo hi : Nat) : Prop where
  v : HeldV w A 61 (rv l) lo hi
  q : HeldQ w l lo hi
theorem HeldRs.step {w w' : World} {A : Option Addr} {l : List Q} {lo hi N : Nat} (h : HeldRs w A l lo hi) (hb : Below N w w') (hN : hi ≤ N ∨ w.heap.size ≤ N) : HeldRs w' A l lo hi := ⟨h.v.step hb hN, h.q.step hb hN⟩
theorem HeldRs.wide {w : World} {A : Option Addr} {l : List Q} {lo hi lo' hi' : Nat} (h : HeldRs w A l lo hi) (h1 : lo' ≤ lo) (h2 : hi ≤ hi') : HeldRs w A l lo' hi' := ⟨h.v.wide h1 h2, h.q.wide h1 h2⟩
theorem HeldRs.lies {w : World} {A : Option Addr} {l : List Q} {lo hi B : Nat} (h : HeldRs w A l lo hi) (hB : hi ≤ B) : LRs w B A l := ⟨h.v.cl hB, h.q.lies hB⟩
theorem HeldRs.drew {w : World} {A : Option Addr} {l : List Q} {lo hi : Nat} (h : HeldRs w A l lo hi) : HeldRs w.drew A l lo hi := h.step (Below.refl w.heap.size w).drew (.inr (Nat.le_refl _))
theorem HeldRs.le {w : World} {A : Option Addr} {l : List Q} {lo hi : Nat} (h : HeldRs w A l lo hi) : lo ≤ hi := h.q.le
theorem Tch.heldRs {ts : List Nat} {W W' : World} {lo hi lo' hi' : Nat} {A : Option Addr} {l : List Q} (h : Tch ts W W' lo hi) (hh : HeldRs W A l lo' hi') (hd : hi' ≤ lo ∨ hi ≤ lo') : HeldRs W' A l lo' hi' := ⟨h.vals hh.v hd, h.recs hh.q hd⟩
theorem HeldRs.above {w w' : World} {A : Option Addr} {l : List Q} {lo hi : Nat} (h : HeldRs w A l lo hi) (hk : Above lo w w') : HeldRs w' A l lo hi := ⟨h.v.above hk, h.q.above hk⟩

/-- A shelf is a call's own. -/
structure HeldC (w : World) (n : Ct) (lo hi : Nat) : Prop where
  s : ∃ m, HeldRs w n.A n.s lo m ∧ HeldRs w n.B n.m m hi
theorem HeldC.step {w w' : World} {n : Ct} {lo hi N : Nat} (h : HeldC w n lo hi) (hb : Below N w w') (hN : hi ≤ N ∨ w.heap.size ≤ N) : HeldC w' n lo hi := by
  obtain ⟨m, h1, h2⟩ := h.s
  exact ⟨m, h1.step hb (hN.imp (fun h => Nat.le_trans h2.le h) id), h2.step hb hN⟩
theorem HeldC.drew {w : World} {n : Ct} {lo hi : Nat} (h : HeldC w n lo hi) : HeldC w.drew n lo hi := h.step (Below.refl w.heap.size w).drew (.inr (Nat.le_refl _))
theorem HeldC.wide {w : World} {n : Ct} {lo hi lo' hi' : Nat} (h : HeldC w n lo hi) (h1 : lo' ≤ lo) (h2 : hi ≤ hi') : HeldC w n lo' hi' := by
  obtain ⟨m, k1, k2⟩ := h.s
  exact ⟨m, k1.wide h1 (Nat.le_refl _), k2.wide (Nat.le_refl _) h2⟩
theorem HeldC.lies {w : World} {n : Ct} {lo hi B : Nat} (h : HeldC w n lo hi) (hB : hi ≤ B) : CLies w B n := by
  obtain ⟨m, k1, k2⟩ := h.s
  exact ⟨k1.lies (Nat.le_trans k2.le hB), k2.lies hB⟩
theorem HeldC.le {w : World} {n : Ct} {lo hi : Nat} (h : HeldC w n lo hi) : lo ≤ hi := by
  obtain ⟨m, k1, k2⟩ := h.s
  exact Nat.le_trans k1.le k2.le
theorem Tch.heldC {ts : List Nat} {W W' : World} {lo hi lo' hi' : Nat} {n : Ct} (h : Tch ts W W' lo hi) (hh : HeldC W n lo' hi') (hd : hi' ≤ lo ∨ hi ≤ lo') : HeldC W' n lo' hi' := by
  obtain ⟨m, k1, k2⟩ := hh.s
  have h1 := k1.le
  have h2 := k2.le
  exact ⟨m, h.heldRs k1 (by omega), h.heldRs k2 (by omega)⟩
end Go.Proofs.Ytegnjbdgeibhfaa.Rs
