/-
  Answers without lists: l08Ill, ShimNew of both.
-/
import Derived.Test.YtegnjbdgeibhfaaRsSo
import Derived.Test.YtegnjbdgeibhfaaPackDep
namespace Go.Proofs.Ytegnjbdgeibhfaa.Rs
open Go.ChangeShapes Go.WideShapes Go.ChangeAt Go.RowKit
open Rec (R P Sound recV cellsV recB)
open Net (Cl Bk HeldV)
open Dep (D I)
set_option linter.unusedVariables false
set_option maxRecDepth 100000
set_option linter.unusedSimpArgs false

/-- An answer without lists. -/
def mkSo (me ep code : Int) : So := ⟨⟨me, ep, 0, none, [], 0, ⟨none, [], 0, none, [], 0⟩⟩, none, [], 0, none, [], 0, code⟩
def mkPO (me ep code : Int) : PO := ⟨⟨me, ep, 0, [], ([], [])⟩, [], [], code⟩
theorem mkSo_po (me ep code : Int) : po (mkSo me ep code) = mkPO me ep code := rfl
theorem nil_recs (W : World) {a b : Nat} (h : a ≤ b) : HeldRs W none [] a b := ⟨.inl rfl, h⟩
theorem mkSo_held (W : World) (me ep code : Int) (a : Nat) {b : Nat} (h : a ≤ b) : HeldO W (mkSo me ep code) a b :=
  ⟨a, a, ⟨a, Nat.le_refl _, .inl ⟨rfl, rfl⟩, ⟨a, nil_recs W (Nat.le_refl _), nil_recs W (Nat.le_refl _)⟩⟩, nil_recs W (Nat.le_refl _), h, .inl ⟨rfl, rfl⟩⟩
theorem po_fine {o : So} {me ep code : Int} (h : po o = mkPO me ep code) : OFine o := by
  obtain ⟨s, RA, rs, rc, FA, fr, fc, cd⟩ := o
  unfold po mkPO at h
  injection h with h1 h2 h3 h4
  unfold ps at h1
  injection h1 with _ _ _ g4 g5
  simp only at g4 g5 h2 h3
  unfold pc at g5
  injection g5 with p1 p2
  have e1 := pr_length (a := s.n.s) (b := []) p1
  have e2 := pr_length (a := s.n.m) (b := []) p2
  have e3 := pr_length (a := rs) (b := []) h2
  have z1 : s.n.s = [] := List.eq_nil_of_length_eq_zero e1
  have z2 : s.n.m = [] := List.eq_nil_of_length_eq_zero e2
  have z3 : rs = [] := List.eq_nil_of_length_eq_zero e3
  subst z3 h3
  refine ⟨⟨by simp only; rw [g4]; simp, by simp only; rw [g4]; simp, ⟨by simp only; rw [z1]; simp, by simp only; rw [z2]; simp, by simp only; rw [z1, z2]; simp, by simp only; rw [z1, z2]; simp, by simp only; rw [z1, z2]; simp [tot]⟩, by simp only; rw [g4, z1, z2]; simp [tot]⟩, by simp, by simp, by simp, ?_⟩
  simp only [kS, kC, kR]
  rw [g4, z1, z2]
  simp
set_option maxRecDepth 100000 in
theorem ill_any (code : Int) (w : World) :
    Calls Try.prog 22 #[.int .i64 code] w fun e w' => e = .returned (mkSo 0 0 code).val ∧ Below w.heap.size w w' := by
  have B0 := Lib.hid ((Below.refl w.heap.size w).alloc (Nat.le_refl _) (Obj.cells #[Value.int IntKind.i64 0, Value.int IntKind.i64 0, Value.int IntKind.i64 0, Value.slice none 0 0, Value.slice none 0 0, Value.slice none 0 0, Value.slice none 0 0, Value.slice none 0 0, Value.int IntKind.i64 0] 30))
  have Y0 := Lib.hid (Blk.new w 30 #[Value.int IntKind.i64 0, Value.int IntKind.i64 0, Value.int IntKind.i64 0, Value.slice none 0 0, Value.slice none 0 0, Value.slice none 0 0, Value.slice none 0 0, Value.slice none 0 0, Value.int IntKind.i64 0])
  go_enter Try.func22, Try.ntmps22
  have y0 := Y0.out.cell 0
  have y1 := Y0.out.cell 1
  have y2 := Y0.out.cell 2
  have y3 := Y0.out.cell 3
  have y4 := Y0.out.cell 4
  have y5 := Y0.out.cell 5
  have y6 := Y0.out.cell 6
  have y7 := Y0.out.cell 7
  have y8 := Y0.out.cell 8
  have fy0 := Y0.out.free 0
  have fy1 := Y0.out.free 1
  have fy2 := Y0.out.free 2
  have fy3 := Y0.out.free 3
  have fy4 := Y0.out.free 4
  have fy5 := Y0.out.free 5
  have fy6 := Y0.out.free 6
  have fy7 := Y0.out.free 7
  have fy8 := Y0.out.free 8
  go_wp2_with fail
  have Y1 := Blk.new w 30 #[Value.int IntKind.i64 0, Value.int IntKind.i64 0, Value.int IntKind.i64 0, Value.slice none 0 0, Value.slice none 0 0, Value.slice none 0 0, Value.slice none 0 0, Value.slice none 0 0, Value.int IntKind.i64 code]
  have z0 := Y1.cell 0
  have z1 := Y1.cell 1
  have z2 := Y1.cell 2
  have z3 := Y1.cell 3
  have z4 := Y1.cell 4
  have z5 := Y1.cell 5
  have z6 := Y1.cell 6
  have z7 := Y1.cell 7
  have z8 := Y1.cell 8
  exact bodyPost_ret (v := (mkSo 0 0 code).val) (by simp [results, Try.results22, go_sem, So.val, mkSo, z0, z1, z2, z3, z4, z5, z6, z7, z8]) rfl ⟨rfl, (Below.refl w.heap.size w).alloc (Nat.le_refl _) _⟩

/-- What ShimNew answers. -/
def newP (me : Int) : PO := if Id.inB me 1 3 = true then mkPO me 0 0 else mkPO 0 0 1
theorem new_1 {me : Int} (h : Id.inB me 1 3 = false) : mkPO 0 0 1 = newP me := by unfold newP; rw [if_neg (by rw [h]; exact Bool.noConfusion)]
theorem new_2 {me : Int} (h : Id.inB me 1 3 = true) : mkPO me 0 0 = newP me := by unfold newP; rw [if_pos h]
theorem newP_cases (me : Int) : ∃ a b c, newP me = mkPO a b c := by
  unfold newP
  by_cases h : Id.inB me 1 3 = true
  · rw [if_pos h]; exact ⟨_, _, _, rfl⟩
  · rw [if_neg h]; exact ⟨_, _, _, rfl⟩

set_option maxRecDepth 100000 in
theorem implNew_any (me : Int) (w : World) :
    Calls Try.prog 7 #[.int .i64 me] w fun e w' => ∃ o : So, e = .returned o.val ∧ po o = newP me ∧ HeldO w' o w.heap.size w'.heap.size ∧ Below w.heap.size w w' := by
  have B0 := Lib.hid ((Below.refl w.heap.size w).alloc (Nat.le_refl _) (Obj.cells #[Value.int IntKind.i64 0, Value.int IntKind.i64 0, Value.int IntKind.i64 0, Value.slice none 0 0, Value.slice none 0 0, Value.slice none 0 0, Value.slice none 0 0, Value.slice none 0 0, Value.int IntKind.i64 0] 30))
  have Y0 := Lib.hid (Blk.new w 30 #[Value.int IntKind.i64 0, Value.int IntKind.i64 0, Value.int IntKind.i64 0, Value.slice none 0 0, Value.slice none 0 0, Value.slice none 0 0, Value.slice none 0 0, Value.slice none 0 0, Value.int IntKind.i64 0])
  go_enter Try.func7, Try.ntmps7
  go_wp2_with fail
  refine (Id.within_any me 1 3 _).mono ?_
  rintro e w' ⟨rfl, rfl⟩
  have y0 := Y0.out.cell 0
  have y1 := Y0.out.cell 1
  have y2 := Y0.out.cell 2
  have y3 := Y0.out.cell 3
  have y4 := Y0.out.cell 4
  have y5 := Y0.out.cell 5
  have y6 := Y0.out.cell 6
  have y7 := Y0.out.cell 7
  have y8 := Y0.out.cell 8
  have fy0 := Y0.out.free 0
  have fy1 := Y0.out.free 1
  have fy2 := Y0.out.free 2
  have fy3 := Y0.out.free 3
  have fy4 := Y0.out.free 4
  have fy5 := Y0.out.free 5
  have fy6 := Y0.out.free 6
  have fy7 := Y0.out.free 7
  have fy8 := Y0.out.free 8
  cases e1 : Id.inB me 1 3
  · have HN := Lib.hid (new_1 e1)
    clear e1
    have Y1 := Blk.new w 30 #[Value.int .i64 0, Value.int .i64 0, Value.int .i64 0, Value.slice none 0 0, Value.slice none 0 0, Value.slice none 0 0, Value.slice none 0 0, Value.slice none 0 0, Value.int .i64 1]
    have z0 := Y1.cell 0
    have z1 := Y1.cell 1
    have z2 := Y1.cell 2
    have z3 := Y1.cell 3
    have z4 := Y1.cell 4
    have z5 := Y1.cell 5
    have z6 := Y1.cell 6
    have z7 := Y1.cell 7
    have z8 := Y1.cell 8
    go_wp2_with fail
    exact bodyPost_ret (v := (mkSo 0 0 1).val) (by simp [results, Try.results7, go_sem, So.val, mkSo, z0, z1, z2, z3, z4, z5, z6, z7, z8]) rfl ⟨mkSo 0 0 1, rfl, HN.out, mkSo_held _ _ _ _ _ (by simp), (Below.refl w.heap.size w).alloc (Nat.le_refl _) _⟩
  · have HN := Lib.hid (new_2 e1)
    clear e1
    have Y1 := Blk.new w 30 #[Value.int .i64 me, Value.int .i64 0, Value.int .i64 0, Value.slice none 0 0, Value.slice none 0 0, Value.slice none 0 0, Value.slice none 0 0, Value.slice none 0 0, Value.int .i64 0]
    have z0 := Y1.cell 0
    have z1 := Y1.cell 1
    have z2 := Y1.cell 2
    have z3 := Y1.cell 3
    have z4 := Y1.cell 4
    have z5 := Y1.cell 5
    have z6 := Y1.cell 6
    have z7 := Y1.cell 7
    have z8 := Y1.cell 8
    go_wp2_with fail
    exact bodyPost_ret (v := (mkSo me 0 0).val) (by simp [results, Try.results7, go_sem, So.val, mkSo, z0, z1, z2, z3, z4, z5, z6, z7, z8]) rfl ⟨mkSo me 0 0, rfl, HN.out, mkSo_held _ _ _ _ _ (by simp), (Below.refl w.heap.size w).alloc (Nat.le_refl _) _⟩

set_option maxRecDepth 100000 in
theorem specNew_any (me : Int) (w : World) :
    Calls Try.prog 6 #[.int .i64 me] w fun e w' => ∃ o : So, e = .returned o.val ∧ po o = newP me ∧ HeldO w' o w.heap.size w'.heap.size ∧ Below w.heap.size w w' := by
  have B0 := Lib.hid ((Below.refl w.heap.size w).alloc (Nat.le_refl _) (Obj.cells #[Value.int IntKind.i64 0, Value.int IntKind.i64 0, Value.int IntKind.i64 0, Value.slice none 0 0, Value.slice none 0 0, Value.slice none 0 0, Value.slice none 0 0, Value.slice none 0 0, Value.int IntKind.i64 0] 30))
  have Y0 := Lib.hid (Blk.new w 30 #[Value.int IntKind.i64 0, Value.int IntKind.i64 0, Value.int IntKind.i64 0, Value.slice none 0 0, Value.slice none 0 0, Value.slice none 0 0, Value.slice none 0 0, Value.slice none 0 0, Value.int IntKind.i64 0])
  go_enter Try.func6, Try.ntmps6
  go_wp2_with fail
  refine (Id.is_any me 1 3 _).mono ?_
  rintro e w' ⟨rfl, rfl⟩
  cases e1 : Id.inB me 1 3
  · have HN := Lib.hid (new_1 e1)
    clear e1
    go_wp2_with fail
    refine (ill_any 1 _).mono ?_
    rintro e w2 ⟨rfl, hb⟩
    have B2 := Lib.hid (B0.out.trans (hb.mono B0.out.size))
    have Y2 := Lib.hid (Y0.out.on hb)
    clear hb
    unfold So.val mkSo
    have y0 := Y2.out.cell 0
    have y1 := Y2.out.cell 1
    have y2 := Y2.out.cell 2
    have y3 := Y2.out.cell 3
    have y4 := Y2.out.cell 4
    have y5 := Y2.out.cell 5
    have y6 := Y2.out.cell 6
    have y7 := Y2.out.cell 7
    have y8 := Y2.out.cell 8
    have fy0 := Y2.out.free 0
    have fy1 := Y2.out.free 1
    have fy2 := Y2.out.free 2
    have fy3 := Y2.out.free 3
    have fy4 := Y2.out.free 4
    have fy5 := Y2.out.free 5
    have fy6 := Y2.out.free 6
    have fy7 := Y2.out.free 7
    have fy8 := Y2.out.free 8
    go_wp2_with fail
    exact bodyPost_ret (v := (mkSo 0 0 1).val) (by simp [results, Try.results6, go_sem, So.val, mkSo, y0, y1, y2, y3, y4, y5, y6, y7, y8]) rfl ⟨mkSo 0 0 1, rfl, HN.out, mkSo_held _ _ _ _ _ (by simp only [World.size_setCell]; exact B2.out.size), (((((((((B2.out.setCell (p := ⟨w.heap.size, 0, none⟩) (Nat.le_refl _) (.int .i64 0)).setCell (p := ⟨w.heap.size, 1, none⟩) (Nat.le_refl _) (.int .i64 0)).setCell (p := ⟨w.heap.size, 2, none⟩) (Nat.le_refl _) (.int .i64 0)).setCell (p := ⟨w.heap.size, 3, none⟩) (Nat.le_refl _) (.slice none 0 0)).setCell (p := ⟨w.heap.size, 4, none⟩) (Nat.le_refl _) (.slice none 0 0)).setCell (p := ⟨w.heap.size, 5, none⟩) (Nat.le_refl _) (.slice none 0 0)).setCell (p := ⟨w.heap.size, 6, none⟩) (Nat.le_refl _) (.slice none 0 0)).setCell (p := ⟨w.heap.size, 7, none⟩) (Nat.le_refl _) (.slice none 0 0)).setCell (p := ⟨w.heap.size, 8, none⟩) (Nat.le_refl _) (.int .i64 1))⟩
  · have HN := Lib.hid (new_2 e1)
    clear e1
    have y0 := Y0.out.cell 0
    have y1 := Y0.out.cell 1
    have y2 := Y0.out.cell 2
    have y3 := Y0.out.cell 3
    have y4 := Y0.out.cell 4
    have y5 := Y0.out.cell 5
    have y6 := Y0.out.cell 6
    have y7 := Y0.out.cell 7
    have y8 := Y0.out.cell 8
    have fy0 := Y0.out.free 0
    have fy1 := Y0.out.free 1
    have fy2 := Y0.out.free 2
    have fy3 := Y0.out.free 3
    have fy4 := Y0.out.free 4
    have fy5 := Y0.out.free 5
    have fy6 := Y0.out.free 6
    have fy7 := Y0.out.free 7
    have fy8 := Y0.out.free 8
    have Y1 := Blk.new w 30 #[Value.int .i64 me, Value.int .i64 0, Value.int .i64 0, Value.slice none 0 0, Value.slice none 0 0, Value.slice none 0 0, Value.slice none 0 0, Value.slice none 0 0, Value.int .i64 0]
    have z0 := Y1.cell 0
    have z1 := Y1.cell 1
    have z2 := Y1.cell 2
    have z3 := Y1.cell 3
    have z4 := Y1.cell 4
    have z5 := Y1.cell 5
    have z6 := Y1.cell 6
    have z7 := Y1.cell 7
    have z8 := Y1.cell 8
    go_wp2_with fail
    exact bodyPost_ret (v := (mkSo me 0 0).val) (by simp [results, Try.results6, go_sem, So.val, mkSo, z0, z1, z2, z3, z4, z5, z6, z7, z8]) rfl ⟨mkSo me 0 0, rfl, HN.out, mkSo_held _ _ _ _ _ (by simp), (Below.refl w.heap.size w).alloc (Nat.le_refl _) _⟩
end Go.Proofs.Ytegnjbdgeibhfaa.Rs
