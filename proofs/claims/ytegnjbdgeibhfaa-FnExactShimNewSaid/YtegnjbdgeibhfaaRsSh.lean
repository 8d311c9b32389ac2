/-
  A shim in the law's hands: what is known of it, a copy of it, its marks; a parameter that is a shim, opened.
-/
import Derived.Test.YtegnjbdgeibhfaaRsCt
import Derived.Test.YtegnjbdgeibhfaaRsRecL
namespace Go.Proofs.Ytegnjbdgeibhfaa.Rs
open Go.ChangeShapes Go.WideShapes Go.ChangeAt Go.RowKit
open Rec (R P recV cellsV)
open Net (Cl Bk HeldV)
open Dep (D I)
set_option linter.unusedVariables false
set_option maxRecDepth 100000
set_option linter.unusedSimpArgs false

/-- A shim, and where its lists lie. -/
structure Sh where
  me : Int
  ep : Int
  ck : Int
  A : Option Addr
  l : List D
  c : Nat
  n : Ct
def Sh.val (s : Sh) : Value := .agg #[Value.int IntKind.i64 s.me, Value.int IntKind.i64 s.ep, Value.int IntKind.i64 s.ck, Value.slice s.A s.l.length s.c, Value.slice s.n.A s.n.s.length s.n.ca, Value.slice s.n.B s.n.m.length s.n.cb]
def SLies (w : World) (B : Nat) (s : Sh) : Prop := Dep.Lies w B s.A s.l ∧ CLies w B s.n
theorem SLies.on {w w' : World} {s : Sh} (h : SLies w w.heap.size s) (hb : Below w.heap.size w w') : SLies w' w'.heap.size s := ⟨(h.1.below hb (Nat.le_refl _)).more hb.size, h.2.on hb⟩
/-- What a shim is. -/
structure PS where
  me : Int
  ep : Int
  ck : Int
  l : List D
  c : List R × List R
def ps (s : Sh) : PS := ⟨s.me, s.ep, s.ck, s.l, pc s.n⟩
structure SFine (s : Sh) : Prop where
  l : s.l.length ≤ 1048576
  k : ∀ d ∈ s.l, d.k.size ≤ maxLen
  n : CFine s.n
  t : s.l.length + (s.n.s.length + tot s.n.s + (s.n.m.length + tot s.n.m)) ≤ 1048576
def SCopy (s : Sh) : Prop := CCopy s.n
theorem ps_parts {s s' : Sh} (h : ps s' = ps s) : s'.me = s.me ∧ s'.ep = s.ep ∧ s'.ck = s.ck ∧ s'.l = s.l ∧ pc s'.n = pc s.n := by
  unfold ps at h
  injection h with h1 h2 h3 h4 h5
  exact ⟨h1, h2, h3, h4, h5⟩
theorem SFine.same {s s' : Sh} (h : SFine s) (e : ps s' = ps s) : SFine s' := by
  obtain ⟨e1, e2, e3, e4, e5⟩ := ps_parts e
  refine ⟨by rw [e4]; exact h.l, by rw [e4]; exact h.k, h.n.same e5, ?_⟩
  unfold pc at e5
  injection e5 with p1 p2
  rw [e4, pr_length p1, pr_length p2, tot_pr p1, tot_pr p2]
  exact h.t
/-- A shim is a call's own. -/
structure HeldS (w : World) (s : Sh) (lo hi : Nat) : Prop where
  s : ∃ m, lo ≤ m ∧ Dep.Held w s.A s.l lo m ∧ HeldC w s.n m hi
theorem HeldS.le {w : World} {s : Sh} {lo hi : Nat} (h : HeldS w s lo hi) : lo ≤ hi := by
  obtain ⟨m, h0, h1, h2⟩ := h.s
  exact Nat.le_trans h0 h2.le
theorem HeldS.step {w w' : World} {s : Sh} {lo hi N : Nat} (h : HeldS w s lo hi) (hb : Below N w w') (hN : hi ≤ N ∨ w.heap.size ≤ N) : HeldS w' s lo hi := by
  obtain ⟨m, h0, h1, h2⟩ := h.s
  exact ⟨m, h0, h1.step hb (hN.imp (fun h => Nat.le_trans h2.le h) id), h2.step hb hN⟩
theorem HeldS.drew {w : World} {s : Sh} {lo hi : Nat} (h : HeldS w s lo hi) : HeldS w.drew s lo hi := h.step (Below.refl w.heap.size w).drew (.inr (Nat.le_refl _))
theorem HeldS.wide {w : World} {s : Sh} {lo hi lo' hi' : Nat} (h : HeldS w s lo hi) (h1 : lo' ≤ lo) (h2 : hi ≤ hi') : HeldS w s lo' hi' := by
  obtain ⟨m, h0, k1, k2⟩ := h.s
  exact ⟨m, Nat.le_trans h1 h0, k1.wide h1 (Nat.le_refl _), k2.wide (Nat.le_refl _) h2⟩
theorem HeldS.lies {w : World} {s : Sh} {lo hi B : Nat} (h : HeldS w s lo hi) (hB : hi ≤ B) : SLies w B s := by
  obtain ⟨m, h0, k1, k2⟩ := h.s
  exact ⟨k1.lies (Nat.le_trans k2.le hB), k2.lies hB⟩
theorem Tch.heldS {ts : List Nat} {W W' : World} {lo hi lo' hi' : Nat} {s : Sh} (h : Tch ts W W' lo hi) (hh : HeldS W s lo' hi') (hd : hi' ≤ lo ∨ hi ≤ lo') : HeldS W' s lo' hi' := by
  obtain ⟨m, h0, k1, k2⟩ := hh.s
  have h2 := k2.le
  exact ⟨m, h0, h.dep k1 (by omega), h.heldC k2 (by omega)⟩
theorem HeldC.above {w w' : World} {n : Ct} {lo hi : Nat} (h : HeldC w n lo hi) (hk : Above lo w w') : HeldC w' n lo hi := by
  obtain ⟨m, k1, k2⟩ := h.s
  exact ⟨m, k1.above hk, k2.above (Above.less hk k1.le)⟩
theorem dep_above {w w' : World} {A : Option Addr} {l : List D} {lo hi : Nat} (h : Dep.Held w A l lo hi) (hk : Above lo w w') : Dep.Held w' A l lo hi := h.keep fun k h1 _ _ => hk.2 k h1

end Go.Proofs.Ytegnjbdgeibhfaa.Rs
