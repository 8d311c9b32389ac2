/-
  A slice of deps as a list; spec.l03Of: the Id at a key.
-/
import Derived.Test.YtkmlnibkdcdegaaDepMath
import Derived.Test.YtkmlnibkdcdegaaIdLess
import Derived.Test.YtkmlnibkdcdegaaIdTo
import Derived.Below
import Derived.Deep.Draws
namespace Go.Proofs.Ytkmlnibkdcdegaa.Dep
open Go.ChangeShapes Go.WideShapes Go.ChangeAt Go.RowKit
set_option linter.unusedVariables false
set_option maxRecDepth 100000

theorem add_block (a : Addr) (n : Nat) : (a.add n).block = a.block := by unfold Addr.add; split <;> rfl
theorem add_add (a : Addr) (i j : Nat) : (a.add i).add j = a.add (i + j) := by
  unfold Addr.add
  by_cases hi : i = 0 <;> by_cases hj : j = 0 <;> simp [hi, hj, Nat.add_assoc]
theorem maps_cells {w : World} {a b : Addr} {v : Value} (h : w.cell? a = some v) (e : b = a) : w.cell? b = some v := by rw [e]; exact h

/-- The dep d lies at the address. -/
abbrev At (w : World) (a : Addr) (d : D) : Prop :=
  w.cell? a = some (.string d.k) ∧ w.cell? ⟨a.block, a.off + 1, none⟩ = some (.int .i64 d.i.c) ∧ w.cell? ⟨a.block, a.off + 1 + 1, none⟩ = some (.int .i64 d.i.s) ∧ w.cell? ⟨a.block, a.off + 1 + 2, none⟩ = some (.int .i64 d.i.e)
/-- A slice's address and what it reads as; it lies below block B. -/
def Lies (w : World) (B : Nat) (A : Option Addr) (l : List D) : Prop :=
  0 < l.length → ∃ ad, A = some ad ∧ ad.block < B ∧ ∀ j (h : j < l.length), At w (ad.add (j * 4)) l[j]
/-- A slice of deps. -/
def slV (A : Option Addr) (l : List D) (cap : Nat) : Value := .slice A l.length cap

theorem At.keep {w w' : World} {a : Addr} {d : D} (h : At w a d) (hk : ∀ p : Addr, p.block = a.block → w'.cell? p = w.cell? p) : At w' a d :=
  ⟨(hk a rfl).trans h.1, (hk ⟨a.block, a.off + 1, none⟩ rfl).trans h.2.1, (hk ⟨a.block, a.off + 1 + 1, none⟩ rfl).trans h.2.2.1, (hk ⟨a.block, a.off + 1 + 2, none⟩ rfl).trans h.2.2.2⟩
theorem Lies.keep {w w' : World} {B : Nat} {A : Option Addr} {l : List D} (h : Lies w B A l) (hk : ∀ p : Addr, p.block < B → w'.cell? p = w.cell? p) : Lies w' B A l := fun h0 => by
  obtain ⟨ad, e, hb, hc⟩ := h h0
  exact ⟨ad, e, hb, fun j hj => (hc j hj).keep fun p hp => hk p (by rw [hp, add_block]; exact hb)⟩
theorem Lies.more {w : World} {B B' : Nat} {A : Option Addr} {l : List D} (h : Lies w B A l) (hB : B ≤ B') : Lies w B' A l := fun h0 => by
  obtain ⟨ad, e, hb, hc⟩ := h h0
  exact ⟨ad, e, by omega, hc⟩
theorem Lies.below {w w' : World} {B N : Nat} {A : Option Addr} {l : List D} (h : Lies w B A l) (hb : Below N w w') (hN : B ≤ N) : Lies w' B A l := h.keep fun p hp => hb.cell (by omega)
theorem Lies.drew {w : World} {B : Nat} {A : Option Addr} {l : List D} (h : Lies w B A l) : Lies w.drew B A l := h
theorem Lies.drewN {w : World} {B : Nat} {A : Option Addr} {l : List D} (h : Lies w B A l) (n : Nat) : Lies (w.drewN n) B A l := h
theorem Lies.alloc {w : World} {B : Nat} {A : Option Addr} {l : List D} (h : Lies w B A l) (hB : B ≤ w.heap.size) (o : Obj) : Lies (w.alloc o) B A l := h.keep fun p hp => World.cell?_alloc_lt w o p (by omega)
theorem Lies.at_ {w : World} {B : Nat} {A : Option Addr} {l : List D} {k : Nat} (h : Lies w B A l) (hk : k < l.length) : ∃ ad, A = some ad ∧ ad.block < B ∧ At w (ad.add (k * 4)) l[k] := by
  obtain ⟨ad, e, hb, hc⟩ := h (by omega)
  exact ⟨ad, e, hb, hc k hk⟩

def I.val (x : I) : Value := Id.idV x.c x.s x.e

theorem specOf_any (A : Option Addr) (l : List D) (cap : Nat) (q : ByteArray) (w : World) (h : Lies w w.heap.size A l) (hl : l.length ≤ maxLen) :
    Calls Try.prog 60 #[slV A l cap, .string q] w fun e w' => e = .returned (ofV l q).val ∧ Below w.heap.size w w' := by
  unfold maxLen at hl
  unfold slV
  have H := Lib.hid h
  clear h
  go_enter Try.func60, Try.ntmps60
  go_wp2_with fail
  have H1 := Lib.hid (H.out.alloc (Nat.le_refl _) (Obj.cells #[Value.int IntKind.i64 0, Value.int IntKind.i64 0, Value.int IntKind.i64 0] 30))
  have B1 := Lib.hid ((Below.refl w.heap.size w).alloc (Nat.le_refl _) (Obj.cells #[Value.int IntKind.i64 0, Value.int IntKind.i64 0, Value.int IntKind.i64 0] 30))
  have r := Id.IdRow.new w 30 0 0 0
  obtain ⟨r0, r1, r2⟩ := r.cells
  have f0 := Id.id_free (Below.refl _ _) r.lt r 0
  have f1 := Id.id_free (Below.refl _ _) r.lt r 1
  have f2 := Id.id_free (Below.refl _ _) r.lt r 2
  generalize hb : w.heap.size = b at *
  generalize World.alloc w _ = W at *
  clear r H
  go_loop [5] (fun i => ∃ k : Nat, k ≤ l.length ∧ i = .int .i64 k ∧ Hid (ofV (l.drop k) q = ofV l q)) (fun i => l.length - (intOf i).toNat)
  case atStart => exact ⟨0, by omega, rfl, Lib.hid rfl⟩
  case round =>
    obtain ⟨k, hk, rfl, HJ⟩ := hrel
    by_cases hlt : k < l.length
    · obtain ⟨ad, rfl, hb, c0, c1, c2, c3⟩ := H1.out.at_ hlt
      have hd : l.drop k = l[k] :: l.drop (k + 1) := List.drop_eq_getElem_cons hlt
      by_cases he : l[k].k = q
      · have hee : (l[k].k.toList == q.toList) = true := by rw [he]; exact beq_self_eq_true _
        have HV : Hid (ofV l q = l[k].i) := by exact Lib.hid (by rw [← HJ.out, hd, ofV, if_pos he])
        clear he hd
        go_wp2_with fail
        refine bodyPost_ret (v := Id.idV l[k].i.c l[k].i.s l[k].i.e) (by simp [results, Try.results60, go_sem, r0, r1, r2, Id.idV]) rfl ⟨?_, ?_⟩
        · rw [HV.out]; rfl
        · exact ((B1.out.setCell (Nat.le_refl _) _).setCell (Nat.le_refl _) _).setCell (Nat.le_refl _) _
      · have hee : (l[k].k.toList == q.toList) = false := beq_eq_false_iff_ne.2 fun h => he (list_eq (by rw [← ByteArray.toList_eq, ← ByteArray.toList_eq]; exact h))
        have HV : Hid (ofV (l.drop (k + 1)) q = ofV l q) := by exact Lib.hid (by rw [← HJ.out, hd, ofV, if_neg he])
        clear he hd
        go_wp2_with fail
        go_round
        case rel => exact ⟨k + 1, by omega, by go_num, HV⟩
        case measure => simp [intOf]; omega
    · have HV : Hid (ofV l q = zero) := by exact Lib.hid (by rw [← HJ.out, List.drop_eq_nil_of_le (by omega)]; rfl)
      go_wp2_with fail
      refine bodyPost_ret (v := Id.idV 0 0 0) (by simp [results, Try.results60, go_sem, r0, r1, r2, Id.idV]) rfl ⟨?_, ?_⟩
      · rw [HV.out]; rfl
      · exact ((B1.out.setCell (Nat.le_refl _) _).setCell (Nat.le_refl _) _).setCell (Nat.le_refl _) _
end Go.Proofs.Ytkmlnibkdcdegaa.Dep
