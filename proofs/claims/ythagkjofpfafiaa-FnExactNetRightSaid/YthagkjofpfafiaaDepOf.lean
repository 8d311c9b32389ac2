/-
  A slice of deps as a list; spec.l03Of: the Id at a key.
-/
import Derived.Test.YthagkjofpfafiaaDepMath
import Derived.Test.YthagkjofpfafiaaIdLess
import Derived.Test.YthagkjofpfafiaaIdTo
import Derived.Below
import Derived.Deep.Draws
namespace Go.Proofs.Ythagkjofpfafiaa.Dep
open Go.ChangeShapes Go.WideShapes Go.ChangeAt Go.RowKit
set_option linter.unusedVariables false
set_option maxRecDepth 100000

theorem add_block (a : Addr) (n : Nat) : (a.add n).block = a.block := by unfold Addr.add; split <;> rfl
theorem add_add (a : Addr) (i j : Nat) : (a.add i).add j = a.add (i + j) := by
  unfold Addr.add
  by_cases hi : i = 0 <;> by_cases hj : j = 0 <;> simp [hi, hj, Nat.add_assoc]
theorem maps_cells {w : World} {a b : Addr} {v : Value} (h : w.cell? a = some v) (e : b = a) : w.cell? b = some v := by rw [e]; exact h

/-- The dep d lies at the address. -/
abbrev At (w : World) (a : Addr) (d : D) : Prop :=
  w.cell? a = some (.string d.k) ∧ w.cell? ⟨a.block, a.off + 1, none⟩ = some (.int .i64 d.i.c) ∧ w.cell? ⟨a.block, a.off + 1 + 1, none⟩ = some (.int .i64 d.i.s) ∧ w.cell? ⟨a.block, a.off + 1 + 2, none⟩ = some (.int .i64 d.i.e)
/-- A slice's address and what it reads as; it lies below block B. -/
def Lies (w : World) (B : Nat) (A : Option Addr) (l : List D) : Prop :=
  0 < l.length → ∃ ad, A = some ad ∧ ad.block < B ∧ ∀ j (h : j < l.length), At w (ad.add (j * 4)) l[j]
/-- A slice of deps. -/
def slV (A : Option Addr) (l : List D) (cap : Nat) : Value := .slice A l.length cap

theorem At.keep {w w' : World} {a : Addr} {d : D} (h : At w a d) (hk : ∀ p : Addr, p.block = a.block → w'.cell? p = w.cell? p) : At w' a d :=
  ⟨(hk a rfl).trans h.1, (hk ⟨a.block, a.off + 1, none⟩ rfl).trans h.2.1, (hk ⟨a.block, a.off + 1 + 1, none⟩ rfl).trans h.2.2.1, (hk ⟨a.block, a.off + 1 + 2, none⟩ rfl).trans h.2.2.2⟩
theorem Lies.keep {w w' : World} {B : Nat} {A : Option Addr} {l : List D} (h : Lies w B A l) (hk : ∀ p : Addr, p.block < B → w'.cell? p = w.cell? p) : Lies w' B A l := fun h0 => by
  obtain ⟨ad, e, hb, hc⟩ := h h0
  exact ⟨ad, e, hb, fun j hj => (hc j hj).keep fun p hp => hk p (by rw [hp, add_block]; exact hb)⟩
theorem Lies.more {w : World} {B B' : Nat} {A : Option Addr} {l : List D} (h : Lies w B A l) (hB : B ≤ B') : Lies w B' A l := fun h0 => by
  obtain ⟨ad, e, hb, hc⟩ := h h0
  exact ⟨ad, e, by omega, hc⟩
theorem Lies.below {w w' : World} {B N : Nat} {A : Option Addr} {l : List D} (h : Lies w B A l) (hb : Below N w w') (hN : B ≤ N) : Lies w' B A l := h.keep fun p hp => hb.cell (by omega)
theorem Lies.drew {w : World} {B : Nat} {A : Option Addr} {l : List D} (h : Lies w B A l) : Lies w.drew B A l := h
theorem Lies.drewN {w : World} {B : Nat} {A : Option Addr} {l : List D} (h : Lies w B A l) (n : Nat) : Lies (w.drewN n) B A l := h
theorem Lies.alloc {w : World} {B : Nat} {A : Option Addr} {l : List D} (h : Lies w B A l) (hB : B ≤ w.heap.size) (o : Obj) : Lies (w.alloc o) B A l := h.keep fun p hp => World.cell?_alloc_lt w o p (by omega)
theorem Lies.at_ {w : World} {B : Nat} {A : Option Addr} {l : List D} {k : Nat} (h : Lies w B A l) (hk : k < l.length) : ∃ ad, A = some ad ∧ ad.block < B ∧ At w (ad.add (k * 4)) l[k] := by
  obtain ⟨ad, e, hb, hc⟩ := h (by omega)
  exact ⟨ad, e, hb, hc k hk⟩

def I.val (x : I) : Value := Id.idV x.c x.s x.e

end Go.Proofs.Ythagkjofpfafiaa.Dep
