/-
  impl.DepsPut.
-/
import Derived.Test.YtkmlnibkdcdegaaDepIJoin
import Derived.Test.YtkmlnibkdcdegaaDepOutP
namespace Go.Proofs.Ytkmlnibkdcdegaa.Dep
open Go.ChangeShapes Go.WideShapes Go.ChangeAt Go.RowKit
set_option linter.unusedVariables false
set_option maxRecDepth 100000

theorem one_right (q : ByteArray) (x : I) : depsB [⟨q, x⟩] = (Key.keyB q && x.right) := by
  cases hk : Key.keyB q
  · exact not_ok_key (l := [⟨q, x⟩]) (k := 0) (by simp) hk
  · cases hx : x.right
    · exact not_ok_id (l := [⟨q, x⟩]) (k := 0) (by simp) hx
    · refine depsB_true ⟨by simp, ?_, List.pairwise_singleton _ _⟩
      intro d hd
      obtain rfl : d = ⟨q, x⟩ := by simpa using hd
      exact ⟨hk, hx⟩
theorem put_join (l : List D) (q : ByteArray) (x : I) (hq : ¬ 8000 < q.size) : putC l q x = joinC l [⟨q, x⟩] ∧ putR l q x = joinR l [⟨q, x⟩] := by
  have e : putC l q x = joinC l [⟨q, x⟩] := by
    unfold putC joinC
    rw [one_right]
    have e1 : (400 < l.length ∨ 8000 < q.size) ↔ (400 < l.length ∨ 400 < [(⟨q, x⟩ : D)].length) := by simp; omega
    have e2 : (depsB l = true ∧ Key.keyB q = true ∧ x.right = true) ↔ (depsB l = true ∧ (Key.keyB q && x.right) = true) := by simp
    have e3 : joinV l [⟨q, x⟩] = putV l q x := rfl
    by_cases h1 : 400 < l.length ∨ 8000 < q.size
    · rw [if_pos h1, if_pos (e1.1 h1)]
    · rw [if_neg h1, if_neg (fun h => h1 (e1.2 h)), e3]
      by_cases h2 : depsB l = true ∧ Key.keyB q = true ∧ x.right = true
      · rw [if_pos h2, if_pos (e2.1 h2)]
      · rw [if_neg h2, if_neg (fun h => h2 (e2.2 h))]
  refine ⟨e, ?_⟩
  unfold putR joinR
  rw [e]
  rfl

set_option maxHeartbeats 600000 in
set_option maxRecDepth 100000 in
theorem implPutOut_any (A : Option Addr) (l : List D) (cap : Nat) (q : ByteArray) (x : I) (w : World) (h : Lies w w.heap.size A l) (hl : l.length ≤ maxLen) (hk : ∀ d ∈ l, d.k.size ≤ maxLen) (hq : q.size ≤ maxLen) :
    Calls Try.prog 11 #[slV A l cap, .string q, x.val] w fun e w' => Answers w e w' (putR l q x) (putC l q x) := by
  have hq1 := hq
  unfold maxLen at hq1
  have B1 := ((Below.refl w.heap.size w).alloc (Nat.le_refl _) (Obj.cells #[Value.int IntKind.i64 x.c, Value.int IntKind.i64 x.s, Value.int IntKind.i64 x.e] 30)).alloc (by simp) (Obj.cells #[Value.slice none 0 0, Value.int IntKind.i64 0] 27)
  have hI := (Id.IdRow.new w 30 x.c x.s x.e).alloc (Obj.cells #[Value.slice none 0 0, Value.int IntKind.i64 0] 27)
  have hR := ORow.new (w.alloc (Obj.cells #[Value.int IntKind.i64 x.c, Value.int IntKind.i64 x.s, Value.int IntKind.i64 x.e] 30)) (.slice none 0 0) 0
  rw [World.size_alloc] at hR
  by_cases h8 : 8000 < q.size
  · have HV := Lib.hid (show putC l q x = 2 by unfold putC; rw [if_pos (.inr h8)])
    have HR := Lib.hid (show putR l q x = [] by unfold putR; rw [HV.out]; rfl)
    unfold slV I.val Id.idV
    clear B1 hI hR h
    go_enter Try.func11, Try.ntmps11
    go_wp2_with fail
    refine bodyPost_ret (v := outV (.slice none 0 0) 2) (by simp [results, Try.results11, go_sem, outV]) rfl ?_
    rw [HV.out, HR.out]
    exact Answers.nil (((Below.refl w.heap.size w).alloc (Nat.le_refl _) _).alloc (by simp) _)
  obtain ⟨e1, e2⟩ := put_join l q x h8
  rw [e1, e2]
  have hq1' : ∀ d ∈ [(⟨q, x⟩ : D)], d.k.size ≤ maxLen := by
    intro d hd
    obtain rfl : d = ⟨q, x⟩ := by simpa using hd
    exact hq
  have HJ := Lib.hid (fun W (hW : Below w.heap.size w W) => implJoinOut_any A (some ⟨W.heap.size, 0, none⟩) l [⟨q, x⟩] cap 1 (W.alloc (D.obj ⟨q, x⟩)) (((h.below hW (Nat.le_refl _)).more hW.size).alloc (Nat.le_refl _) _ |>.more (by simp)) (one_lies W ⟨q, x⟩) hl (by simp [maxLen]) hk hq1')
  clear h hk e1 e2
  unfold slV at HJ
  unfold slV I.val Id.idV
  have hsz : (World.alloc (World.alloc w (Obj.cells #[Value.int IntKind.i64 x.c, Value.int IntKind.i64 x.s, Value.int IntKind.i64 x.e] 30)) (Obj.cells #[Value.slice none 0 0, Value.int IntKind.i64 0] 27)).heap.size = w.heap.size + 1 + 1 := by simp
  go_enter Try.func11, Try.ntmps11
  go_wp2_with fail
  generalize World.alloc (World.alloc w _) _ = W1 at B1 hI hR hsz ⊢
  have hcall := HJ.out W1 B1
  rw [hsz] at hcall
  refine hcall.mono ?_
  intro e w2 hans
  have hR1a := hR.alloc (D.obj ⟨q, x⟩)
  obtain ⟨v, rfl, hR2, ⟨vA, vm, rfl⟩, hans⟩ := hans.cell (b := w.heap.size + 1) (B1.alloc B1.size (D.obj ⟨q, x⟩)) (Nat.le_succ _) hR1a.lt hR1a
  have HANS := Lib.hid hans
  obtain ⟨r0, r1⟩ := hR2.cells
  have f0 := hR2.free 0
  have f1 := hR2.free 1
  clear hans hR2 hR hI hR1a B1 hcall
  unfold outV
  obtain ⟨jc, hjc⟩ : ∃ jc, joinC l [⟨q, x⟩] = jc := ⟨_, rfl⟩
  have HJC := Lib.hid hjc
  rw [hjc] at HANS ⊢
  clear hjc
  go_wp2_with fail
  exact bodyPost_ret (v := outV (.slice vA vm.1 vm.2) jc) (by simp [results, Try.results11, go_sem, outV, r0, r1]) rfl (by rw [HJC.out]; exact HANS.out)
end Go.Proofs.Ytkmlnibkdcdegaa.Dep
