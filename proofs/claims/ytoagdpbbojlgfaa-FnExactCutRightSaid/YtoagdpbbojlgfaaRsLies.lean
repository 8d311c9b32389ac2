/-
  A slice of records: what lies where, and what is a call's own.
-/
import Derived.Test.YtoagdpbbojlgfaaCells
import Derived.Test.YtoagdpbbojlgfaaRecBox
namespace Go.Proofs.Ytoagdpbbojlgfaa.Rs
open Go.ChangeShapes Go.WideShapes Go.ChangeAt Go.RowKit
open Rec (R P Sound Small recV cellsV)
open Net (Cl Bk HeldV)
open Dep (add_block add_add)
set_option linter.unusedVariables false
set_option maxRecDepth 100000

/-- A record, and where its lists lie. -/
structure Q where
  r : R
  p : P
def qc (q : Q) : List Value := [.string q.r.k, .int .i64 q.r.i.c, .int .i64 q.r.i.s, .int .i64 q.r.i.e, .string q.r.d, .bool q.r.g, .slice q.p.A q.r.l.length q.p.ca, .slice q.p.B q.r.b.length q.p.cb]
def rv (l : List Q) : List Value := l.flatMap qc
theorem rv_cons (q : Q) (l : List Q) : rv (q :: l) = qc q ++ rv l := by simp [rv]
theorem rv_append (a b : List Q) : rv (a ++ b) = rv a ++ rv b := by simp [rv]
theorem qc_len (q : Q) : (qc q).length = 8 := rfl
theorem rv_len (l : List Q) : (rv l).length = l.length * 8 := by
  induction l with
  | nil => rfl
  | cons q l ih => rw [rv_cons, List.length_append, ih, qc_len, List.length_cons]; omega
theorem rv_at {l : List Q} {k : Nat} (h : k < l.length) {j : Nat} (hj : j < 8) : (rv l)[k * 8 + j]? = (qc l[k])[j]? := by
  induction l generalizing k with
  | nil => simp at h
  | cons q l ih =>
    rw [rv_cons]
    cases k with
    | zero => rw [List.getElem?_append_left (by rw [qc_len]; omega)]; simp
    | succ k =>
      rw [List.getElem?_append_right (by rw [qc_len]; omega), qc_len, show (k + 1) * 8 + j - 8 = k * 8 + j by omega, ih (k := k) (by simpa using h)]
      simp
/-- What the records are. -/
def pr (l : List Q) : List R := l.map (·.r)
theorem pr_len (l : List Q) : (pr l).length = l.length := by simp [pr]
theorem pr_at {l : List Q} {k : Nat} (h : k < l.length) : (pr l)[k]'(by rw [pr_len]; exact h) = l[k].r := by simp [pr]

/-- A record lies at an address. -/
abbrev RPAt (w : World) (a : Addr) (r : R) (p : P) : Prop :=
  w.cell? a = some (.string r.k) ∧ w.cell? ⟨a.block, a.off + 1, none⟩ = some (.int .i64 r.i.c) ∧ w.cell? ⟨a.block, a.off + 1 + 1, none⟩ = some (.int .i64 r.i.s) ∧ w.cell? ⟨a.block, a.off + 1 + 2, none⟩ = some (.int .i64 r.i.e) ∧
  w.cell? ⟨a.block, a.off + 4, none⟩ = some (.string r.d) ∧ w.cell? ⟨a.block, a.off + 5, none⟩ = some (.bool r.g) ∧ w.cell? ⟨a.block, a.off + 6, none⟩ = some (.slice p.A r.l.length p.ca) ∧ w.cell? ⟨a.block, a.off + 7, none⟩ = some (.slice p.B r.b.length p.cb)
abbrev QAt (w : World) (a : Addr) (q : Q) : Prop := RPAt w a q.r q.p
theorem addr_next (a : Addr) (i r : Nat) (hr : 0 < r) : (⟨(a.add i).block, (a.add i).off + r, none⟩ : Addr) = a.add (i + r) := by
  unfold Addr.add
  by_cases h : i = 0
  · subst h
    rw [if_pos rfl, if_neg (by omega)]
    simp
  · rw [if_neg h, if_neg (by omega)]
    simp [Nat.add_assoc]
theorem QAt.step {W W' : World} {p : Addr} {q : Q} (h : QAt W p q) (hb : Below W.heap.size W W') : QAt W' p q :=
  ⟨Lib.Below.cellOf hb h.1 (Nat.le_refl _), Lib.Below.cellOf hb h.2.1 (Nat.le_refl _), Lib.Below.cellOf hb h.2.2.1 (Nat.le_refl _), Lib.Below.cellOf hb h.2.2.2.1 (Nat.le_refl _), Lib.Below.cellOf hb h.2.2.2.2.1 (Nat.le_refl _), Lib.Below.cellOf hb h.2.2.2.2.2.1 (Nat.le_refl _), Lib.Below.cellOf hb h.2.2.2.2.2.2.1 (Nat.le_refl _), Lib.Below.cellOf hb h.2.2.2.2.2.2.2 (Nat.le_refl _)⟩
/-- The records lie there, and their lists. -/
def LRs (w : World) (B : Nat) (A : Option Addr) (l : List Q) : Prop := Cl w B A (rv l) ∧ ∀ q ∈ l, Rec.Lies w B q.r q.p
theorem LRs.below {w w' : World} {B N : Nat} {A : Option Addr} {l : List Q} (h : LRs w B A l) (hb : Below N w w') (hN : B ≤ N) : LRs w' B A l := ⟨h.1.below hb hN, fun x hx => (h.2 x hx).step hb hN (Nat.le_refl _)⟩
theorem LRs.more {w : World} {B B' : Nat} {A : Option Addr} {l : List Q} (h : LRs w B A l) (hB : B ≤ B') : LRs w B' A l := ⟨h.1.more hB, fun x hx => ⟨(h.2 x hx).1.more hB, (h.2 x hx).2.more hB⟩⟩
theorem LRs.on {w w' : World} {A : Option Addr} {l : List Q} (h : LRs w w.heap.size A l) (hb : Below w.heap.size w w') : LRs w' w'.heap.size A l := (h.below hb (Nat.le_refl _)).more hb.size
theorem LRs.nil (w : World) (B : Nat) (A : Option Addr) : LRs w B A [] := ⟨Cl.nil _ _ _, fun x hx => absurd hx (by simp)⟩
theorem LRs.at_ {w : World} {B : Nat} {A : Option Addr} {l : List Q} (h : LRs w B A l) {k : Nat} (hk : k < l.length) :
    ∃ ad, A = some ad ∧ ad.block < B ∧ QAt w (ad.add (k * 8)) l[k] ∧ Rec.Lies w B l[k].r l[k].p := by
  obtain ⟨ad, e, hb, hc⟩ := h.1 (by rw [rv_len]; omega)
  refine ⟨ad, e, hb, ⟨?_, ?_, ?_, ?_, ?_, ?_, ?_, ?_⟩, h.2 _ (List.getElem_mem hk)⟩
  · have := hc (k * 8 + 0) _ ((rv_at hk (by omega)).trans (by rfl)); simpa using this
  · rw [addr_next _ _ 1 (by omega)]; exact hc _ _ ((rv_at hk (by omega)).trans (by rfl))
  · rw [Nat.add_assoc, addr_next _ _ 2 (by omega)]; exact hc _ _ ((rv_at hk (by omega)).trans (by rfl))
  · rw [Nat.add_assoc, addr_next _ _ 3 (by omega)]; exact hc _ _ ((rv_at hk (by omega)).trans (by rfl))
  · rw [addr_next _ _ 4 (by omega)]; exact hc _ _ ((rv_at hk (by omega)).trans (by rfl))
  · rw [addr_next _ _ 5 (by omega)]; exact hc _ _ ((rv_at hk (by omega)).trans (by rfl))
  · rw [addr_next _ _ 6 (by omega)]; exact hc _ _ ((rv_at hk (by omega)).trans (by rfl))
  · rw [addr_next _ _ 7 (by omega)]; exact hc _ _ ((rv_at hk (by omega)).trans (by rfl))

/-- The lists of the records are a call's own, one behind the other. -/
def HeldQ (w : World) : List Q → Nat → Nat → Prop
  | [], a, b => a ≤ b
  | q :: l, a, b => ∃ m, a ≤ m ∧ Rec.Held w q.r q.p a m ∧ HeldQ w l m b
theorem HeldQ.le {w : World} : ∀ {l : List Q} {a b : Nat}, HeldQ w l a b → a ≤ b
  | [], _, _, h => h
  | q :: l, _, _, ⟨m, h1, _, h2⟩ => Nat.le_trans h1 (HeldQ.le h2)
theorem HeldQ.step {w w' : World} {N : Nat} (hb : Below N w w') : ∀ {l : List Q} {a b : Nat}, HeldQ w l a b → (b ≤ N ∨ w.heap.size ≤ N) → HeldQ w' l a b
  | [], _, _, h, _ => h
  | q :: l, _, _, ⟨m, h1, h2, h3⟩, hN => ⟨m, h1, h2.step hb (hN.imp (fun h => Nat.le_trans h3.le h) id), HeldQ.step hb h3 hN⟩
theorem HeldQ.wide {w : World} : ∀ {l : List Q} {a b a' b' : Nat}, HeldQ w l a b → a' ≤ a → b ≤ b' → HeldQ w l a' b'
  | [], _, _, _, _, h, h1, h2 => Nat.le_trans h1 (Nat.le_trans h h2)
  | q :: l, _, _, _, _, ⟨m, h0, h3, h4⟩, h1, h2 => ⟨m, Nat.le_trans h1 h0, h3.wide h1 (Nat.le_refl _), h4.wide (Nat.le_refl _) h2⟩
theorem HeldQ.snoc {w : World} {q : Q} {c d : Nat} (hq : Rec.Held w q.r q.p c d) (hcd : c ≤ d) : ∀ {l : List Q} {a b : Nat}, HeldQ w l a b → b ≤ c → HeldQ w (l ++ [q]) a d
  | [], _, _, h, hbc => ⟨d, Nat.le_trans h (Nat.le_trans hbc hcd), hq.wide (Nat.le_trans h hbc) (Nat.le_refl _), Nat.le_refl _⟩
  | x :: l, _, _, ⟨m, h1, h2, h3⟩, hbc => ⟨m, h1, h2, HeldQ.snoc hq hcd h3 hbc⟩
theorem HeldQ.lies {w : World} {B : Nat} : ∀ {l : List Q} {a b : Nat}, HeldQ w l a b → b ≤ B → ∀ q ∈ l, Rec.Lies w B q.r q.p
  | [], _, _, _, _ => fun q hq => absurd hq (by simp)
  | x :: l, _, _, ⟨m, h1, h2, h3⟩, hB => fun q hq => by
    rcases List.mem_cons.1 hq with rfl | hq
    · exact h2.lies (Nat.le_trans h3.le hB)
    · exact h3.lies hB q hq
theorem HeldQ.types {w w' : World} (hk : ∀ (k : Nat) (cs : Array Value) (t : Nat), w.heap[k]? = some (Obj.cells cs t (0, 0)) → t ≠ 47 → w'.heap[k]? = w.heap[k]?) : ∀ {l : List Q} {a b : Nat}, HeldQ w l a b → HeldQ w' l a b
  | [], _, _, h => h
  | q :: l, a, b, ⟨m, h1, h2, h3⟩ => ⟨m, h1, by
      refine ⟨?_, ?_⟩
      · rcases h2.1 with e | ⟨g, e, ho, x, y⟩
        · exact .inl e
        · obtain ⟨cs, hc, hh⟩ := ho
          exact .inr ⟨g, e, ⟨cs, (hk g cs _ hc (by decide)).trans hc, hh⟩, x, y⟩
      · rcases h2.2 with e | ⟨g, e, ho, x, y⟩
        · exact .inl e
        · obtain ⟨cs, hc, hh⟩ := ho
          exact .inr ⟨g, e, ⟨cs, (hk g cs _ hc (by decide)).trans hc, hh⟩, x, y⟩, HeldQ.types hk h3⟩
end Go.Proofs.Ytoagdpbbojlgfaa.Rs
