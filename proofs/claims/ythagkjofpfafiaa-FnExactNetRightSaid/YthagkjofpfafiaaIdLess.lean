/-
  Ids: IdLess and MaxId of the program and of the given model answer the same.
-/
import Derived.Test.YthagkjofpfafiaaId
namespace Go.Proofs.Ythagkjofpfafiaa.Id
open Go.ChangeShapes Go.WideShapes Go.ChangeAt Go.RowKit
set_option linter.unusedVariables false
set_option maxRecDepth 100000

theorem cmp_less (c s e c' s' e' : Int) : decide (orV (cmpV c c') (cmpV s s') (cmpV e e') < 0) = lessB c s e c' s' e' := by
  have h1 : ∀ x y : Int, (x < y ∧ cmpV x y = -1) ∨ (x = y ∧ cmpV x y = 0) ∨ (y < x ∧ cmpV x y = 1) := fun x y => by
    unfold cmpV
    rcases Int.lt_trichotomy x y with h | h | h
    · exact .inl ⟨h, if_pos h⟩
    · exact .inr (.inl ⟨h, by rw [if_neg (by omega), if_neg (by omega)]⟩)
    · exact .inr (.inr ⟨h, by rw [if_neg (by omega), if_pos h]⟩)
  unfold lessB orV
  rw [decide_eq_decide]
  rcases h1 c c' with ⟨a, b⟩ | ⟨a, b⟩ | ⟨a, b⟩ <;> rcases h1 s s' with ⟨a2, b2⟩ | ⟨a2, b2⟩ | ⟨a2, b2⟩ <;> rcases h1 e e' with ⟨a3, b3⟩ | ⟨a3, b3⟩ | ⟨a3, b3⟩ <;> simp [b, b2, b3] <;> omega

set_option maxRecDepth 100000 in
theorem less_any (c s e c' s' e' : Int) (w : World) :
    Calls Try.prog 97 #[idV c s e, idV c' s' e'] w fun x w' => x = .returned (.bool (lessB c s e c' s' e')) ∧ Below w.heap.size w w' := by
  unfold idV
  go_enter Try.func97, Try.ntmps97
  go_wp2_with (go_at_call 99; refine (compare_any _ _ _).mono ?_; rintro e w1 ⟨rfl, rfl⟩)
  refine wp_region_still_tail 15 (by kernel_rfl) (by kernel_rfl) ?_
  change wpStill _ _ (World.drew _) (fun a' => wpList _ _ _ _ a' (World.drew _)) _ _
  simp only [List.take_succ_cons, List.take_zero, List.drop_succ_cons, List.drop_zero]
  repeat still_step
  still_call ((compare_any _ _ _).mono (fun e w' h => ⟨h.1, h.2.symm⟩))
  repeat still_step
  still_call ((compare_any _ _ _).mono (fun e w' h => ⟨h.1, h.2.symm⟩))
  repeat still_step
  still_call ((compare_any _ _ _).mono (fun e w' h => ⟨h.1, h.2.symm⟩))
  repeat still_step
  refine wpStill_nil ?_
  go_wp2_with (go_at_call 98; refine (or_any (cmpV c c') (cmpV s s') (cmpV e e') _ _ ?_).mono ?_)
  · intro k hk
    have hr : ∀ W : World, W.heap.size = w.heap.size + 1 + 1 → (W.alloc (Obj.cells #[Value.int IntKind.i64 (cmpV c c'), Value.int IntKind.i64 (cmpV s s'), Value.int IntKind.i64 (cmpV e e')] 3)).drew.heap[w.heap.size + 1 + 1]? = some (Obj.cells #[Value.int IntKind.i64 (cmpV c c'), Value.int IntKind.i64 (cmpV s s'), Value.int IntKind.i64 (cmpV e e')] 3) := fun W hW => by
      rw [← hW]; exact heap_alloc_new W _
    rw [cell_of_row _ _ _ _ _ (0, 0) (hr _ (by simp))]
    rcases (show k = 0 ∨ k = 1 ∨ k = 2 by omega) with rfl | rfl | rfl
    all_goals rfl
  rintro x w1 ⟨rfl, rfl⟩
  go_wp2_with fail
  go_ret
  rw [← cmp_less]
  exact ⟨rfl, ((((Below.refl _ _).alloc (Nat.le_refl _) _).alloc (by simp) _).alloc (by simp; omega) _).drew⟩

theorem implLess_any (c s e c' s' e' : Int) (w : World) :
    Calls Try.prog 94 #[idV c s e, idV c' s' e'] w fun x w' => x = .returned (.bool (lessB c s e c' s' e')) ∧ Below w.heap.size w w' := by
  unfold idV
  go_enter Try.func94, Try.ntmps94
  go_wp2_with (go_at_call 97; refine (less_any c s e c' s' e' _).mono ?_; rintro x w1 ⟨rfl, hb⟩)
  go_ret
  exact ⟨rfl, (((Below.refl _ _).alloc (Nat.le_refl _) _).alloc (by simp) _).trans (hb.mono (by simp; omega))⟩

theorem lessB_c {c s e c' s' e' : Int} (h : c < c') : lessB c s e c' s' e' = true := by simp [lessB, h]

theorem specLess_any (c s e c' s' e' : Int) (w : World) :
    Calls Try.prog 89 #[idV c s e, idV c' s' e'] w fun x w' => x = .returned (.bool (lessB c s e c' s' e')) ∧ Below w.heap.size w w' := by
  unfold idV
  by_cases h1 : c = c'
  · subst h1
    by_cases h2 : s = s'
    · subst h2
      have h1b : (c == c) = true := beq_self_eq_true c
      have h2b : (s == s) = true := beq_self_eq_true s
      go_enter Try.func89, Try.ntmps89
      go_wp2
      go_ret
      exact ⟨by rw [show lessB c s e c s e' = decide (e < e') by simp [lessB]]; rfl, (((Below.refl _ _).alloc (Nat.le_refl _) _).alloc (by simp) _)⟩
    · have h1b : (c == c) = true := beq_self_eq_true c
      have h2b : (s == s') = false := beq_eq_false_iff_ne.2 h2
      go_enter Try.func89, Try.ntmps89
      go_wp2
      go_ret
      exact ⟨by rw [show lessB c s e c s' e' = decide (s < s') by simp [lessB, h2]]; rfl, (((Below.refl _ _).alloc (Nat.le_refl _) _).alloc (by simp) _)⟩
  · have h1b : (c == c') = false := beq_eq_false_iff_ne.2 h1
    go_enter Try.func89, Try.ntmps89
    go_wp2
    go_ret
    exact ⟨by rw [show lessB c s e c' s' e' = decide (c < c') by simp [lessB, h1]]; rfl, (((Below.refl _ _).alloc (Nat.le_refl _) _).alloc (by simp) _)⟩

/-- What MaxId answers. -/
def maxV (c s e c' s' e' : Int) : Value := if lessB c s e c' s' e' = true then idV c' s' e' else idV c s e

theorem row_old3 (w : World) (o1 o2 o3 : Obj) : (((w.alloc o1).alloc o2).alloc o3).heap[w.heap.size]? = some o1 := by
  rw [heap_alloc_old _ _ (by simp; omega), heap_alloc_old _ _ (by simp), heap_alloc_new]
theorem row_mid3 (w : World) (o1 o2 o3 : Obj) : (((w.alloc o1).alloc o2).alloc o3).heap[w.heap.size + 1]? = some o2 := by
  rw [heap_alloc_old _ _ (by simp), show w.heap.size + 1 = (w.alloc o1).heap.size by simp, heap_alloc_new]
theorem row_new3 (w : World) (o1 o2 o3 : Obj) : (((w.alloc o1).alloc o2).alloc o3).heap[w.heap.size + 1 + 1]? = some o3 := by
  rw [show w.heap.size + 1 + 1 = ((w.alloc o1).alloc o2).heap.size by simp, heap_alloc_new]
theorem id_free {W w1 : World} {b t : Nat} {xs : Array Value} (hb : Below W.heap.size W w1) (hlt : b < W.heap.size) (hrow : W.heap[b]? = some (.cells xs t (0, 0))) (j : Nat) : w1.frozen? ⟨b, j, none⟩ = false := by
  have h := (hb.block b hlt).trans hrow
  simp [World.frozen?, h]
/-- The three cells of an Id stand where they stood. -/
theorem id_kept {W w1 : World} {b t : Nat} {c s e : Int} (hb : Below W.heap.size W w1) (hlt : b < W.heap.size) (hrow : W.heap[b]? = some (.cells #[.int .i64 c, .int .i64 s, .int .i64 e] t (0, 0))) :
    w1.cell? ⟨b, 0, none⟩ = some (.int .i64 c) ∧ w1.cell? ⟨b, 1, none⟩ = some (.int .i64 s) ∧ w1.cell? ⟨b, 2, none⟩ = some (.int .i64 e) := by
  have h := (hb.block b hlt).trans hrow
  exact ⟨cell_of_row w1 b 0 _ t (0, 0) h, cell_of_row w1 b 1 _ t (0, 0) h, cell_of_row w1 b 2 _ t (0, 0) h⟩

theorem implMax_any (c s e c' s' e' : Int) (w : World) :
    Calls Try.prog 82 #[idV c s e, idV c' s' e'] w fun x w' => x = .returned (maxV c s e c' s' e') ∧ Below w.heap.size w w' := by
  unfold maxV
  cases hl : lessB c s e c' s' e'
  all_goals
    have HL := Lib.hid hl
    clear hl
    unfold idV
    go_enter Try.func82, Try.ntmps82
    go_wp2_with fail
    refine (implLess_any c s e c' s' e' _).mono ?_
    rintro x w1 ⟨rfl, hb⟩
    rw [HL.out]
    obtain ⟨a0, a1, a2⟩ := id_kept (b := w.heap.size) hb (by simp; try omega) (row_old3 w _ _ _)
    obtain ⟨b0, b1, b2⟩ := id_kept (b := w.heap.size + 1) hb (by simp) (row_mid3 w _ _ _)
    obtain ⟨r0, r1, r2⟩ := id_kept (b := w.heap.size + 1 + 1) hb (by simp) (row_new3 w _ _ _)
    have f0 := id_free (b := w.heap.size + 1 + 1) hb (by simp) (row_new3 w _ _ _) 0
    have f1 := id_free (b := w.heap.size + 1 + 1) hb (by simp) (row_new3 w _ _ _) 1
    have f2 := id_free (b := w.heap.size + 1 + 1) hb (by simp) (row_new3 w _ _ _) 2
    have HB := Lib.hid hb
    clear hb
    go_wp2_with fail
    refine bodyPost_ret (v := _) (by simp [results, Try.results82, go_sem, r0, r1, r2]) rfl ⟨rfl, ?_⟩
    have hb2 : Below w.heap.size w w1 := ((((Below.refl _ _).alloc (Nat.le_refl _) _).alloc (by simp) _).alloc (by simp; omega) _).trans (HB.out.mono (by simp; omega))
    exact ((hb2.setCell (by simp; omega) _).setCell (by simp; omega) _).setCell (by simp; omega) _

end Go.Proofs.Ythagkjofpfafiaa.Id
