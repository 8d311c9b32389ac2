/-
  Restart of the model and of the program.
-/
import Derived.Test.YtegnjbdgeibhfaaGreatRsSo
import Derived.Test.YtegnjbdgeibhfaaGreatRsShR
namespace Go.Proofs.YtegnjbdgeibhfaaGreat.Rs
open Go.ChangeShapes Go.WideShapes Go.ChangeAt Go.RowKit
open Rec (R P Sound recV cellsV recB)
open Net (Cl Bk HeldV)
open Dep (D I)
set_option linter.unusedVariables false
set_option maxRecDepth 100000
set_option linter.unusedSimpArgs false

/-- An answer without lists. -/
def mkSo (me ep code : Int) : So := ⟨⟨me, ep, 0, none, [], 0, ⟨none, [], 0, none, [], 0⟩⟩, none, [], 0, none, [], 0, code⟩
def mkPO (me ep code : Int) : PO := ⟨⟨me, ep, 0, [], ([], [])⟩, [], [], code⟩
theorem mkSo_po (me ep code : Int) : po (mkSo me ep code) = mkPO me ep code := rfl
theorem nil_recs (W : World) {a b : Nat} (h : a ≤ b) : HeldRs W none [] a b := ⟨.inl rfl, h⟩
theorem mkSo_held (W : World) (me ep code : Int) (a : Nat) {b : Nat} (h : a ≤ b) : HeldO W (mkSo me ep code) a b :=
  ⟨a, a, ⟨a, Nat.le_refl _, .inl ⟨rfl, rfl⟩, ⟨a, nil_recs W (Nat.le_refl _), nil_recs W (Nat.le_refl _)⟩⟩, nil_recs W (Nat.le_refl _), h, .inl ⟨rfl, rfl⟩⟩
theorem po_fine {o : So} {me ep code : Int} (h : po o = mkPO me ep code) : OFine o := by
  obtain ⟨s, RA, rs, rc, FA, fr, fc, cd⟩ := o
  unfold po mkPO at h
  injection h with h1 h2 h3 h4
  unfold ps at h1
  injection h1 with _ _ _ g4 g5
  simp only at g4 g5 h2 h3
  unfold pc at g5
  injection g5 with p1 p2
  have e1 := pr_length (a := s.n.s) (b := []) p1
  have e2 := pr_length (a := s.n.m) (b := []) p2
  have e3 := pr_length (a := rs) (b := []) h2
  have z1 : s.n.s = [] := List.eq_nil_of_length_eq_zero e1
  have z2 : s.n.m = [] := List.eq_nil_of_length_eq_zero e2
  have z3 : rs = [] := List.eq_nil_of_length_eq_zero e3
  subst z3 h3
  refine ⟨⟨by simp only; rw [g4]; simp, by simp only; rw [g4]; simp, ⟨by simp only; rw [z1]; simp, by simp only; rw [z2]; simp, by simp only; rw [z1, z2]; simp, by simp only; rw [z1, z2]; simp, by simp only; rw [z1, z2]; simp [tot]⟩, by simp only; rw [g4, z1, z2]; simp [tot]⟩, by simp, by simp, by simp, ?_⟩
  simp only [kS, kC, kR]
  rw [g4, z1, z2]
  simp
/-- What Restart answers. -/
noncomputable def resP (p : PS) : PO := if shB p = true then (if p.ep = 99 then mkPO 0 0 9 else mkPO p.me (p.ep + 1) 0) else mkPO 0 0 1
theorem res_1 {p : PS} (h : shB p = false) : mkPO 0 0 1 = resP p := by unfold resP; rw [if_neg (by rw [h]; exact Bool.noConfusion)]
theorem res_2 {p : PS} (h : shB p = true) (h2 : p.ep = 99) : mkPO 0 0 9 = resP p := by unfold resP; rw [if_pos h, if_pos h2]
theorem res_3 {p : PS} (h : shB p = true) (h2 : ¬ p.ep = 99) : mkPO p.me (p.ep + 1) 0 = resP p := by unfold resP; rw [if_pos h, if_neg h2]
theorem resP_cases (p : PS) : ∃ me ep code, resP p = mkPO me ep code := by
  unfold resP
  by_cases h : shB p = true
  · rw [if_pos h]
    by_cases h2 : p.ep = 99
    · rw [if_pos h2]; exact ⟨_, _, _, rfl⟩
    · rw [if_neg h2]; exact ⟨_, _, _, rfl⟩
  · rw [if_neg h]; exact ⟨_, _, _, rfl⟩
theorem sh_ep {p : PS} (h : shB p = true) : 0 ≤ p.ep ∧ p.ep ≤ 99 := by
  cases e : Id.inB p.ep 0 99
  · rw [sh_2 e] at h; cases h
  · exact of_decide_eq_true e

set_option maxHeartbeats 4000000 in
set_option maxRecDepth 100000 in
theorem implRest_any (s : Sh) (w : World) (h : SLies w w.heap.size s) (hf : SFine s) (hc : SCopy s) :
    Calls Tryz.prog 57 #[s.val] w fun e w' => ∃ o : So, e = .returned o.val ∧ po o = resP (ps s) ∧ HeldO w' o w.heap.size w'.heap.size ∧ Below w.heap.size w w' := by
  have B0 := Lib.hid (((Below.refl w.heap.size w).alloc (Nat.le_refl _) (Obj.cells #[Value.int IntKind.i64 s.me, Value.int IntKind.i64 s.ep, Value.int IntKind.i64 s.ck, Value.slice s.A s.l.length s.c, Value.slice s.n.A s.n.s.length s.n.ca, Value.slice s.n.B s.n.m.length s.n.cb] 64)).alloc (by simp) (Obj.cells #[Value.int IntKind.i64 0, Value.int IntKind.i64 0, Value.int IntKind.i64 0, Value.slice none 0 0, Value.slice none 0 0, Value.slice none 0 0, Value.slice none 0 0, Value.slice none 0 0, Value.int IntKind.i64 0] 70))
  have X0 := Lib.hid ((Blk.new w 64 #[Value.int IntKind.i64 s.me, Value.int IntKind.i64 s.ep, Value.int IntKind.i64 s.ck, Value.slice s.A s.l.length s.c, Value.slice s.n.A s.n.s.length s.n.ca, Value.slice s.n.B s.n.m.length s.n.cb]).alloc (Obj.cells #[Value.int IntKind.i64 0, Value.int IntKind.i64 0, Value.int IntKind.i64 0, Value.slice none 0 0, Value.slice none 0 0, Value.slice none 0 0, Value.slice none 0 0, Value.slice none 0 0, Value.int IntKind.i64 0] 70))
  have y0 := Blk.new (w.alloc (Obj.cells #[Value.int IntKind.i64 s.me, Value.int IntKind.i64 s.ep, Value.int IntKind.i64 s.ck, Value.slice s.A s.l.length s.c, Value.slice s.n.A s.n.s.length s.n.ca, Value.slice s.n.B s.n.m.length s.n.cb] 64)) 70 #[Value.int IntKind.i64 0, Value.int IntKind.i64 0, Value.int IntKind.i64 0, Value.slice none 0 0, Value.slice none 0 0, Value.slice none 0 0, Value.slice none 0 0, Value.slice none 0 0, Value.int IntKind.i64 0]
  rw [World.size_alloc] at y0
  have Y0 := Lib.hid y0
  have HC := Lib.hid (fun W (hW : Below w.heap.size w W) => implSh_any s W (h.on hW) hf hc)
  clear h hf hc y0
  unfold Sh.val at HC ⊢
  obtain ⟨x0, x1, x2, x3, x4, x5⟩ := cell6 X0.out
  go_enter Tryz.func57, Tryz.ntmps57
  go_wp2_with fail
  clear x0 x1 x2 x3 x4 x5
  generalize World.alloc (World.alloc w _) _ = W0 at B0 X0 Y0 ⊢
  refine (HC.out _ B0.out).mono ?_
  rintro e w1 ⟨rfl, hb⟩
  have B1 := Lib.hid (B0.out.trans (hb.mono B0.out.size))
  have X1 := Lib.hid (X0.out.on hb)
  have Y1 := Lib.hid (Y0.out.on hb)
  clear hb HC X0 Y0
  cases e4 : shB (ps s)
  · have HN := Lib.hid (res_1 e4)
    clear e4
    have y0 := Y1.out.cell 0
    have y1 := Y1.out.cell 1
    have y2 := Y1.out.cell 2
    have y3 := Y1.out.cell 3
    have y4 := Y1.out.cell 4
    have y5 := Y1.out.cell 5
    have y6 := Y1.out.cell 6
    have y7 := Y1.out.cell 7
    have y8 := Y1.out.cell 8
    have fy0 := Y1.out.free 0
    have fy1 := Y1.out.free 1
    have fy2 := Y1.out.free 2
    have fy3 := Y1.out.free 3
    have fy4 := Y1.out.free 4
    have fy5 := Y1.out.free 5
    have fy6 := Y1.out.free 6
    have fy7 := Y1.out.free 7
    have fy8 := Y1.out.free 8
    go_wp2_with fail
    refine bodyPost_ret (v := (mkSo 0 0 1).val) (by simp [results, Tryz.results57, go_sem, So.val, mkSo, y0, y1, y2, y3, y4, y5, y6, y7, y8]) rfl ⟨mkSo 0 0 1, rfl, HN.out, mkSo_held _ _ _ _ _ ?_, (((((((((B1.out.setCell (p := ⟨w.heap.size + 1, 0, none⟩) (by show w.heap.size ≤ w.heap.size + 1; omega) (.int .i64 0)).setCell (p := ⟨w.heap.size + 1, 1, none⟩) (by show w.heap.size ≤ w.heap.size + 1; omega) (.int .i64 0)).setCell (p := ⟨w.heap.size + 1, 2, none⟩) (by show w.heap.size ≤ w.heap.size + 1; omega) (.int .i64 0)).setCell (p := ⟨w.heap.size + 1, 3, none⟩) (by show w.heap.size ≤ w.heap.size + 1; omega) (.slice none 0 0)).setCell (p := ⟨w.heap.size + 1, 4, none⟩) (by show w.heap.size ≤ w.heap.size + 1; omega) (.slice none 0 0)).setCell (p := ⟨w.heap.size + 1, 5, none⟩) (by show w.heap.size ≤ w.heap.size + 1; omega) (.slice none 0 0)).setCell (p := ⟨w.heap.size + 1, 6, none⟩) (by show w.heap.size ≤ w.heap.size + 1; omega) (.slice none 0 0)).setCell (p := ⟨w.heap.size + 1, 7, none⟩) (by show w.heap.size ≤ w.heap.size + 1; omega) (.slice none 0 0)).setCell (p := ⟨w.heap.size + 1, 8, none⟩) (by show w.heap.size ≤ w.heap.size + 1; omega) (.int .i64 1))⟩
    simp only [World.size_setCell]
    exact B1.out.size
  have HE := Lib.hid e4
  obtain ⟨hp0, hp1⟩ := sh_ep e4
  have hp0' : 0 ≤ s.ep := hp0
  have hp1' : s.ep ≤ 99 := hp1
  clear e4 hp0 hp1
  by_cases e5 : s.ep = 99
  · have HN := Lib.hid (res_2 HE.out e5)
    have h99 : (s.ep == 99) = true := by rw [e5]; rfl
    clear e5
    obtain ⟨x0, x1, x2, x3, x4, x5⟩ := cell6 X1.out
    have y0 := Y1.out.cell 0
    have y1 := Y1.out.cell 1
    have y2 := Y1.out.cell 2
    have y3 := Y1.out.cell 3
    have y4 := Y1.out.cell 4
    have y5 := Y1.out.cell 5
    have y6 := Y1.out.cell 6
    have y7 := Y1.out.cell 7
    have y8 := Y1.out.cell 8
    have fy0 := Y1.out.free 0
    have fy1 := Y1.out.free 1
    have fy2 := Y1.out.free 2
    have fy3 := Y1.out.free 3
    have fy4 := Y1.out.free 4
    have fy5 := Y1.out.free 5
    have fy6 := Y1.out.free 6
    have fy7 := Y1.out.free 7
    have fy8 := Y1.out.free 8
    go_wp2_with fail
    refine bodyPost_ret (v := (mkSo 0 0 9).val) (by simp [results, Tryz.results57, go_sem, So.val, mkSo, y0, y1, y2, y3, y4, y5, y6, y7, y8]) rfl ⟨mkSo 0 0 9, rfl, HN.out, mkSo_held _ _ _ _ _ ?_, (((((((((B1.out.setCell (p := ⟨w.heap.size + 1, 0, none⟩) (by show w.heap.size ≤ w.heap.size + 1; omega) (.int .i64 0)).setCell (p := ⟨w.heap.size + 1, 1, none⟩) (by show w.heap.size ≤ w.heap.size + 1; omega) (.int .i64 0)).setCell (p := ⟨w.heap.size + 1, 2, none⟩) (by show w.heap.size ≤ w.heap.size + 1; omega) (.int .i64 0)).setCell (p := ⟨w.heap.size + 1, 3, none⟩) (by show w.heap.size ≤ w.heap.size + 1; omega) (.slice none 0 0)).setCell (p := ⟨w.heap.size + 1, 4, none⟩) (by show w.heap.size ≤ w.heap.size + 1; omega) (.slice none 0 0)).setCell (p := ⟨w.heap.size + 1, 5, none⟩) (by show w.heap.size ≤ w.heap.size + 1; omega) (.slice none 0 0)).setCell (p := ⟨w.heap.size + 1, 6, none⟩) (by show w.heap.size ≤ w.heap.size + 1; omega) (.slice none 0 0)).setCell (p := ⟨w.heap.size + 1, 7, none⟩) (by show w.heap.size ≤ w.heap.size + 1; omega) (.slice none 0 0)).setCell (p := ⟨w.heap.size + 1, 8, none⟩) (by show w.heap.size ≤ w.heap.size + 1; omega) (.int .i64 9))⟩
    simp only [World.size_setCell]
    exact B1.out.size
  · have HN := Lib.hid (res_3 HE.out e5)
    have h99 : (s.ep == 99) = false := beq_eq_false_iff_ne.2 e5
    clear e5
    obtain ⟨x0, x1, x2, x3, x4, x5⟩ := cell6 X1.out
    have y0 := Y1.out.cell 0
    have y1 := Y1.out.cell 1
    have y2 := Y1.out.cell 2
    have y3 := Y1.out.cell 3
    have y4 := Y1.out.cell 4
    have y5 := Y1.out.cell 5
    have y6 := Y1.out.cell 6
    have y7 := Y1.out.cell 7
    have y8 := Y1.out.cell 8
    have fy0 := Y1.out.free 0
    have fy1 := Y1.out.free 1
    have fy2 := Y1.out.free 2
    have fy3 := Y1.out.free 3
    have fy4 := Y1.out.free 4
    have fy5 := Y1.out.free 5
    have fy6 := Y1.out.free 6
    have fy7 := Y1.out.free 7
    have fy8 := Y1.out.free 8
    go_wp2_with fail
    refine bodyPost_ret (v := (mkSo s.me (s.ep + 1) 0).val) (by simp [results, Tryz.results57, go_sem, So.val, mkSo, y0, y1, y2, y3, y4, y5, y6, y7, y8]) rfl ⟨mkSo s.me (s.ep + 1) 0, rfl, HN.out, mkSo_held _ _ _ _ _ ?_, (((((((((B1.out.setCell (p := ⟨w.heap.size + 1, 0, none⟩) (by show w.heap.size ≤ w.heap.size + 1; omega) (.int .i64 s.me)).setCell (p := ⟨w.heap.size + 1, 1, none⟩) (by show w.heap.size ≤ w.heap.size + 1; omega) (.int .i64 (s.ep + 1))).setCell (p := ⟨w.heap.size + 1, 2, none⟩) (by show w.heap.size ≤ w.heap.size + 1; omega) (.int .i64 0)).setCell (p := ⟨w.heap.size + 1, 3, none⟩) (by show w.heap.size ≤ w.heap.size + 1; omega) (.slice none 0 0)).setCell (p := ⟨w.heap.size + 1, 4, none⟩) (by show w.heap.size ≤ w.heap.size + 1; omega) (.slice none 0 0)).setCell (p := ⟨w.heap.size + 1, 5, none⟩) (by show w.heap.size ≤ w.heap.size + 1; omega) (.slice none 0 0)).setCell (p := ⟨w.heap.size + 1, 6, none⟩) (by show w.heap.size ≤ w.heap.size + 1; omega) (.slice none 0 0)).setCell (p := ⟨w.heap.size + 1, 7, none⟩) (by show w.heap.size ≤ w.heap.size + 1; omega) (.slice none 0 0)).setCell (p := ⟨w.heap.size + 1, 8, none⟩) (by show w.heap.size ≤ w.heap.size + 1; omega) (.int .i64 0))⟩
    simp only [World.size_setCell]
    exact B1.out.size

set_option maxRecDepth 100000 in
theorem ill_any (code : Int) (w : World) :
    Calls Tryz.prog 101 #[.int .i64 code] w fun e w' => e = .returned (mkSo 0 0 code).val ∧ Below w.heap.size w w' := by
  have B0 := Lib.hid ((Below.refl w.heap.size w).alloc (Nat.le_refl _) (Obj.cells #[Value.int IntKind.i64 0, Value.int IntKind.i64 0, Value.int IntKind.i64 0, Value.slice none 0 0, Value.slice none 0 0, Value.slice none 0 0, Value.slice none 0 0, Value.slice none 0 0, Value.int IntKind.i64 0] 70))
  have Y0 := Lib.hid (Blk.new w 70 #[Value.int IntKind.i64 0, Value.int IntKind.i64 0, Value.int IntKind.i64 0, Value.slice none 0 0, Value.slice none 0 0, Value.slice none 0 0, Value.slice none 0 0, Value.slice none 0 0, Value.int IntKind.i64 0])
  go_enter Tryz.func101, Tryz.ntmps101
  have y0 := Y0.out.cell 0
  have y1 := Y0.out.cell 1
  have y2 := Y0.out.cell 2
  have y3 := Y0.out.cell 3
  have y4 := Y0.out.cell 4
  have y5 := Y0.out.cell 5
  have y6 := Y0.out.cell 6
  have y7 := Y0.out.cell 7
  have y8 := Y0.out.cell 8
  have fy0 := Y0.out.free 0
  have fy1 := Y0.out.free 1
  have fy2 := Y0.out.free 2
  have fy3 := Y0.out.free 3
  have fy4 := Y0.out.free 4
  have fy5 := Y0.out.free 5
  have fy6 := Y0.out.free 6
  have fy7 := Y0.out.free 7
  have fy8 := Y0.out.free 8
  go_wp2_with fail
  have Y1 := Blk.new w 70 #[Value.int IntKind.i64 0, Value.int IntKind.i64 0, Value.int IntKind.i64 0, Value.slice none 0 0, Value.slice none 0 0, Value.slice none 0 0, Value.slice none 0 0, Value.slice none 0 0, Value.int IntKind.i64 code]
  have z0 := Y1.cell 0
  have z1 := Y1.cell 1
  have z2 := Y1.cell 2
  have z3 := Y1.cell 3
  have z4 := Y1.cell 4
  have z5 := Y1.cell 5
  have z6 := Y1.cell 6
  have z7 := Y1.cell 7
  have z8 := Y1.cell 8
  exact bodyPost_ret (v := (mkSo 0 0 code).val) (by simp [results, Tryz.results101, go_sem, So.val, mkSo, z0, z1, z2, z3, z4, z5, z6, z7, z8]) rfl ⟨rfl, (Below.refl w.heap.size w).alloc (Nat.le_refl _) _⟩

set_option maxHeartbeats 4000000 in
set_option maxRecDepth 100000 in
theorem specRest_any (s : Sh) (w : World) (h : SLies w w.heap.size s) (hf : SFine s) (hc : SCopy s) :
    Calls Tryz.prog 56 #[s.val] w fun e w' => ∃ o : So, e = .returned o.val ∧ po o = resP (ps s) ∧ HeldO w' o w.heap.size w'.heap.size ∧ Below w.heap.size w w' := by
  have B0 := Lib.hid (((Below.refl w.heap.size w).alloc (Nat.le_refl _) (Obj.cells #[Value.int IntKind.i64 s.me, Value.int IntKind.i64 s.ep, Value.int IntKind.i64 s.ck, Value.slice s.A s.l.length s.c, Value.slice s.n.A s.n.s.length s.n.ca, Value.slice s.n.B s.n.m.length s.n.cb] 64)).alloc (by simp) (Obj.cells #[Value.int IntKind.i64 0, Value.int IntKind.i64 0, Value.int IntKind.i64 0, Value.slice none 0 0, Value.slice none 0 0, Value.slice none 0 0, Value.slice none 0 0, Value.slice none 0 0, Value.int IntKind.i64 0] 70))
  have X0 := Lib.hid ((Blk.new w 64 #[Value.int IntKind.i64 s.me, Value.int IntKind.i64 s.ep, Value.int IntKind.i64 s.ck, Value.slice s.A s.l.length s.c, Value.slice s.n.A s.n.s.length s.n.ca, Value.slice s.n.B s.n.m.length s.n.cb]).alloc (Obj.cells #[Value.int IntKind.i64 0, Value.int IntKind.i64 0, Value.int IntKind.i64 0, Value.slice none 0 0, Value.slice none 0 0, Value.slice none 0 0, Value.slice none 0 0, Value.slice none 0 0, Value.int IntKind.i64 0] 70))
  have y0 := Blk.new (w.alloc (Obj.cells #[Value.int IntKind.i64 s.me, Value.int IntKind.i64 s.ep, Value.int IntKind.i64 s.ck, Value.slice s.A s.l.length s.c, Value.slice s.n.A s.n.s.length s.n.ca, Value.slice s.n.B s.n.m.length s.n.cb] 64)) 70 #[Value.int IntKind.i64 0, Value.int IntKind.i64 0, Value.int IntKind.i64 0, Value.slice none 0 0, Value.slice none 0 0, Value.slice none 0 0, Value.slice none 0 0, Value.slice none 0 0, Value.int IntKind.i64 0]
  rw [World.size_alloc] at y0
  have Y0 := Lib.hid y0
  have HC := Lib.hid (fun W (hW : Below w.heap.size w W) => specSh_any s W (h.on hW) hf hc)
  clear h hf hc y0
  unfold Sh.val at HC ⊢
  obtain ⟨x0, x1, x2, x3, x4, x5⟩ := cell6 X0.out
  go_enter Tryz.func56, Tryz.ntmps56
  go_wp2_with fail
  clear x0 x1 x2 x3 x4 x5
  generalize World.alloc (World.alloc w _) _ = W0 at B0 X0 Y0 ⊢
  refine (HC.out _ B0.out).mono ?_
  rintro e w1 ⟨rfl, hb⟩
  have B1 := Lib.hid (B0.out.trans (hb.mono B0.out.size))
  have X1 := Lib.hid (X0.out.on hb)
  have Y1 := Lib.hid (Y0.out.on hb)
  clear hb HC X0 Y0
  cases e4 : shB (ps s)
  · have HN := Lib.hid (res_1 e4)
    clear e4
    go_wp2_with fail
    refine (ill_any 1 _).mono ?_
    rintro e w2 ⟨rfl, hb⟩
    have B2 := Lib.hid (B1.out.trans (hb.mono B1.out.size))
    have Y2 := Lib.hid (Y1.out.on hb)
    clear hb
    unfold So.val mkSo
    have y0 := Y2.out.cell 0
    have y1 := Y2.out.cell 1
    have y2 := Y2.out.cell 2
    have y3 := Y2.out.cell 3
    have y4 := Y2.out.cell 4
    have y5 := Y2.out.cell 5
    have y6 := Y2.out.cell 6
    have y7 := Y2.out.cell 7
    have y8 := Y2.out.cell 8
    have fy0 := Y2.out.free 0
    have fy1 := Y2.out.free 1
    have fy2 := Y2.out.free 2
    have fy3 := Y2.out.free 3
    have fy4 := Y2.out.free 4
    have fy5 := Y2.out.free 5
    have fy6 := Y2.out.free 6
    have fy7 := Y2.out.free 7
    have fy8 := Y2.out.free 8
    go_wp2_with fail
    refine bodyPost_ret (v := (mkSo 0 0 1).val) (by simp [results, Tryz.results56, go_sem, So.val, mkSo, y0, y1, y2, y3, y4, y5, y6, y7, y8]) rfl ⟨mkSo 0 0 1, rfl, HN.out, mkSo_held _ _ _ _ _ ?_, (((((((((B2.out.setCell (p := ⟨w.heap.size + 1, 0, none⟩) (by show w.heap.size ≤ w.heap.size + 1; omega) (.int .i64 0)).setCell (p := ⟨w.heap.size + 1, 1, none⟩) (by show w.heap.size ≤ w.heap.size + 1; omega) (.int .i64 0)).setCell (p := ⟨w.heap.size + 1, 2, none⟩) (by show w.heap.size ≤ w.heap.size + 1; omega) (.int .i64 0)).setCell (p := ⟨w.heap.size + 1, 3, none⟩) (by show w.heap.size ≤ w.heap.size + 1; omega) (.slice none 0 0)).setCell (p := ⟨w.heap.size + 1, 4, none⟩) (by show w.heap.size ≤ w.heap.size + 1; omega) (.slice none 0 0)).setCell (p := ⟨w.heap.size + 1, 5, none⟩) (by show w.heap.size ≤ w.heap.size + 1; omega) (.slice none 0 0)).setCell (p := ⟨w.heap.size + 1, 6, none⟩) (by show w.heap.size ≤ w.heap.size + 1; omega) (.slice none 0 0)).setCell (p := ⟨w.heap.size + 1, 7, none⟩) (by show w.heap.size ≤ w.heap.size + 1; omega) (.slice none 0 0)).setCell (p := ⟨w.heap.size + 1, 8, none⟩) (by show w.heap.size ≤ w.heap.size + 1; omega) (.int .i64 1))⟩
    simp only [World.size_setCell]
    exact B2.out.size
  have HE := Lib.hid e4
  obtain ⟨hp0, hp1⟩ := sh_ep e4
  have hp0' : 0 ≤ s.ep := hp0
  have hp1' : s.ep ≤ 99 := hp1
  clear e4 hp0 hp1
  by_cases e5 : s.ep = 99
  · have HN := Lib.hid (res_2 HE.out e5)
    have h99 : (s.ep == 99) = true := by rw [e5]; rfl
    clear e5
    obtain ⟨x0, x1, x2, x3, x4, x5⟩ := cell6 X1.out
    go_wp2_with fail
    clear x0 x1 x2 x3 x4 x5
    refine (ill_any 9 _).mono ?_
    rintro e w2 ⟨rfl, hb⟩
    have B2 := Lib.hid (B1.out.trans (hb.mono B1.out.size))
    have Y2 := Lib.hid (Y1.out.on hb)
    clear hb
    unfold So.val mkSo
    have y0 := Y2.out.cell 0
    have y1 := Y2.out.cell 1
    have y2 := Y2.out.cell 2
    have y3 := Y2.out.cell 3
    have y4 := Y2.out.cell 4
    have y5 := Y2.out.cell 5
    have y6 := Y2.out.cell 6
    have y7 := Y2.out.cell 7
    have y8 := Y2.out.cell 8
    have fy0 := Y2.out.free 0
    have fy1 := Y2.out.free 1
    have fy2 := Y2.out.free 2
    have fy3 := Y2.out.free 3
    have fy4 := Y2.out.free 4
    have fy5 := Y2.out.free 5
    have fy6 := Y2.out.free 6
    have fy7 := Y2.out.free 7
    have fy8 := Y2.out.free 8
    go_wp2_with fail
    refine bodyPost_ret (v := (mkSo 0 0 9).val) (by simp [results, Tryz.results56, go_sem, So.val, mkSo, y0, y1, y2, y3, y4, y5, y6, y7, y8]) rfl ⟨mkSo 0 0 9, rfl, HN.out, mkSo_held _ _ _ _ _ ?_, (((((((((B2.out.setCell (p := ⟨w.heap.size + 1, 0, none⟩) (by show w.heap.size ≤ w.heap.size + 1; omega) (.int .i64 0)).setCell (p := ⟨w.heap.size + 1, 1, none⟩) (by show w.heap.size ≤ w.heap.size + 1; omega) (.int .i64 0)).setCell (p := ⟨w.heap.size + 1, 2, none⟩) (by show w.heap.size ≤ w.heap.size + 1; omega) (.int .i64 0)).setCell (p := ⟨w.heap.size + 1, 3, none⟩) (by show w.heap.size ≤ w.heap.size + 1; omega) (.slice none 0 0)).setCell (p := ⟨w.heap.size + 1, 4, none⟩) (by show w.heap.size ≤ w.heap.size + 1; omega) (.slice none 0 0)).setCell (p := ⟨w.heap.size + 1, 5, none⟩) (by show w.heap.size ≤ w.heap.size + 1; omega) (.slice none 0 0)).setCell (p := ⟨w.heap.size + 1, 6, none⟩) (by show w.heap.size ≤ w.heap.size + 1; omega) (.slice none 0 0)).setCell (p := ⟨w.heap.size + 1, 7, none⟩) (by show w.heap.size ≤ w.heap.size + 1; omega) (.slice none 0 0)).setCell (p := ⟨w.heap.size + 1, 8, none⟩) (by show w.heap.size ≤ w.heap.size + 1; omega) (.int .i64 9))⟩
    simp only [World.size_setCell]
    exact B2.out.size
  · have HN := Lib.hid (res_3 HE.out e5)
    have h99 : (s.ep == 99) = false := beq_eq_false_iff_ne.2 e5
    clear e5
    obtain ⟨x0, x1, x2, x3, x4, x5⟩ := cell6 X1.out
    have y0 := Y1.out.cell 0
    have y1 := Y1.out.cell 1
    have y2 := Y1.out.cell 2
    have y3 := Y1.out.cell 3
    have y4 := Y1.out.cell 4
    have y5 := Y1.out.cell 5
    have y6 := Y1.out.cell 6
    have y7 := Y1.out.cell 7
    have y8 := Y1.out.cell 8
    have fy0 := Y1.out.free 0
    have fy1 := Y1.out.free 1
    have fy2 := Y1.out.free 2
    have fy3 := Y1.out.free 3
    have fy4 := Y1.out.free 4
    have fy5 := Y1.out.free 5
    have fy6 := Y1.out.free 6
    have fy7 := Y1.out.free 7
    have fy8 := Y1.out.free 8
    go_wp2_with fail
    refine bodyPost_ret (v := (mkSo s.me (s.ep + 1) 0).val) (by simp [results, Tryz.results56, go_sem, So.val, mkSo, y0, y1, y2, y3, y4, y5, y6, y7, y8]) rfl ⟨mkSo s.me (s.ep + 1) 0, rfl, HN.out, mkSo_held _ _ _ _ _ ?_, (((((((((B1.out.setCell (p := ⟨w.heap.size + 1, 0, none⟩) (by show w.heap.size ≤ w.heap.size + 1; omega) (.int .i64 s.me)).setCell (p := ⟨w.heap.size + 1, 1, none⟩) (by show w.heap.size ≤ w.heap.size + 1; omega) (.int .i64 (s.ep + 1))).setCell (p := ⟨w.heap.size + 1, 2, none⟩) (by show w.heap.size ≤ w.heap.size + 1; omega) (.int .i64 0)).setCell (p := ⟨w.heap.size + 1, 3, none⟩) (by show w.heap.size ≤ w.heap.size + 1; omega) (.slice none 0 0)).setCell (p := ⟨w.heap.size + 1, 4, none⟩) (by show w.heap.size ≤ w.heap.size + 1; omega) (.slice none 0 0)).setCell (p := ⟨w.heap.size + 1, 5, none⟩) (by show w.heap.size ≤ w.heap.size + 1; omega) (.slice none 0 0)).setCell (p := ⟨w.heap.size + 1, 6, none⟩) (by show w.heap.size ≤ w.heap.size + 1; omega) (.slice none 0 0)).setCell (p := ⟨w.heap.size + 1, 7, none⟩) (by show w.heap.size ≤ w.heap.size + 1; omega) (.slice none 0 0)).setCell (p := ⟨w.heap.size + 1, 8, none⟩) (by show w.heap.size ≤ w.heap.size + 1; omega) (.int .i64 0))⟩
    simp only [World.size_setCell]
    exact B1.out.size
end Go.Proofs.YtegnjbdgeibhfaaGreat.Rs
