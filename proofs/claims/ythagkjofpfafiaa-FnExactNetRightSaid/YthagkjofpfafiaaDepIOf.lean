/-
  impl.idAt and impl.DepOf: the Id at a key.
-/
import Derived.Test.YthagkjofpfafiaaDepTo
namespace Go.Proofs.Ythagkjofpfafiaa.Dep
open Go.ChangeShapes Go.WideShapes Go.ChangeAt Go.RowKit
set_option linter.unusedVariables false
set_option maxRecDepth 100000

/-- A dep in a block of its own. -/
abbrev D.obj (d : D) : Obj := Obj.cells #[Value.string d.k, Value.int IntKind.i64 d.i.c, Value.int IntKind.i64 d.i.s, Value.int IntKind.i64 d.i.e] 108

theorem implAt_any (A : Option Addr) (l : List D) (cap : Nat) (q : ByteArray) (w : World) (h : Lies w w.heap.size A l) (hl : l.length ≤ maxLen) :
    Calls Try.prog 83 #[slV A l cap, .string q] w fun e w' => e = .returned (ofV l q).val ∧ Below w.heap.size w w' := by
  unfold maxLen at hl
  unfold slV
  have H := Lib.hid h
  clear h
  go_enter Try.func83, Try.ntmps83
  go_wp2_with fail
  have H1 := Lib.hid (H.out.alloc (Nat.le_refl _) (Obj.cells #[Value.int IntKind.i64 0, Value.int IntKind.i64 0, Value.int IntKind.i64 0] 60))
  have B1 := Lib.hid ((Below.refl w.heap.size w).alloc (Nat.le_refl _) (Obj.cells #[Value.int IntKind.i64 0, Value.int IntKind.i64 0, Value.int IntKind.i64 0] 60))
  have R1 := Lib.hid (Id.IdRow.new w 60 0 0 0)
  generalize hb : w.heap.size = b at *
  generalize World.alloc w _ = W at *
  clear H
  have hbW := R1.out.lt
  go_loopw [9] (fun i wr => ∃ k : Nat, k ≤ l.length ∧ i = .int .i64 k ∧ Hid (ofV (l.drop k) q = ofV l q ∧ Below W.heap.size W wr)) (fun i _ => l.length - (intOf i).toNat)
  case atStart => exact ⟨0, by omega, rfl, Lib.hid ⟨rfl, Below.refl _ _⟩⟩
  case round =>
    obtain ⟨k, hk, rfl, HJ⟩ := hrel
    have HB := Lib.hid (B1.out.trans (HJ.out.2.mono (by omega)))
    have hR := R1.out.step HJ.out.2 hbW
    have R2 := Lib.hid hR
    by_cases hlt : k < l.length
    · obtain ⟨ad, rfl, hb2, c0, c1, c2, c3⟩ := (H1.out.below HJ.out.2 (by omega)).at_ hlt
      have hd : l.drop k = l[k] :: l.drop (k + 1) := List.drop_eq_getElem_cons hlt
      by_cases he : l[k].k = q
      · have hee : (l[k].k.toList == q.toList) = true := by rw [he]; exact beq_self_eq_true _
        have HV : Hid (ofV l q = l[k].i) := by exact Lib.hid (by rw [← HJ.out.1, hd, ofV, if_pos he])
        have hR2 := hR.alloc l[k].obj
        obtain ⟨r0, r1, r2⟩ := hR2.cells
        have f0 := Id.id_free (Below.refl _ _) hR2.lt hR2 0
        have f1 := Id.id_free (Below.refl _ _) hR2.lt hR2 1
        have f2 := Id.id_free (Below.refl _ _) hR2.lt hR2 2
        have B3 := Lib.hid (HB.out.alloc (Nat.le_of_lt hR.lt |> fun h => by have := HB.out.size; omega) l[k].obj)
        clear he hd hR hR2
        go_wp2_with fail
        refine bodyPost_ret (v := Id.idV l[k].i.c l[k].i.s l[k].i.e) (by simp [results, Try.results83, go_sem, r0, r1, r2, Id.idV]) rfl ⟨?_, ?_⟩
        · rw [HV.out]; rfl
        · subst hb
          exact ((B3.out.setCell (Nat.le_refl _) _).setCell (Nat.le_refl _) _).setCell (Nat.le_refl _) _
      · have hee : (l[k].k.toList == q.toList) = false := beq_eq_false_iff_ne.2 fun h => he (list_eq (by rw [← ByteArray.toList_eq, ← ByteArray.toList_eq]; exact h))
        have HV : Hid (ofV (l.drop (k + 1)) q = ofV l q) := by exact Lib.hid (by rw [← HJ.out.1, hd, ofV, if_neg he])
        clear he hd hR
        go_wp2_with fail
        go_roundw
        case rel => exact ⟨k + 1, by omega, by go_num, Lib.hid ⟨HV.out, HJ.out.2.alloc HJ.out.2.size _⟩⟩
        case measure => simp [intOf]; omega
    · have HV : Hid (ofV l q = zero) := by exact Lib.hid (by rw [← HJ.out.1, List.drop_eq_nil_of_le (by omega)]; rfl)
      obtain ⟨r0, r1, r2⟩ := hR.cells
      have f0 := Id.id_free (Below.refl _ _) hR.lt hR 0
      have f1 := Id.id_free (Below.refl _ _) hR.lt hR 1
      have f2 := Id.id_free (Below.refl _ _) hR.lt hR 2
      clear hR
      go_wp2_with fail
      refine bodyPost_ret (v := Id.idV 0 0 0) (by simp [results, Try.results83, go_sem, r0, r1, r2, Id.idV]) rfl ⟨?_, ?_⟩
      · rw [HV.out]; rfl
      · subst hb
        exact ((HB.out.setCell (Nat.le_refl _) _).setCell (Nat.le_refl _) _).setCell (Nat.le_refl _) _
end Go.Proofs.Ythagkjofpfafiaa.Dep
