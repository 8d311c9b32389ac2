/-
  spec.l04Copy: a record in new memory; spec.l07At.
-/
import Derived.Test.YtegnjbdgeibhfaaGreatRsNewRec
namespace Go.Proofs.YtegnjbdgeibhfaaGreat.Rs
open Go.ChangeShapes Go.WideShapes Go.ChangeAt Go.RowKit
open Rec (R P Sound recV cellsV recB)
open Net (Cl Bk HeldV)
open Dep (D I depsB)
set_option linter.unusedVariables false
set_option maxRecDepth 100000
set_option linter.unusedSimpArgs false
attribute [local go_sem] Dep.sem_pure0 Dep.sem_store0

theorem blk_grown {W W' : World} {b t base : Nat} {cs : Array Value} {row : Option Nat} (h : Blk W b t cs) (hg : W.grownBy W' row) (hr : ∀ k, row = some k → base ≤ k) (hb : b < base) : Blk W' b t cs :=
  (hg.block b h.lt (fun e => by have := hr b e.symm; omega)).trans h
theorem deps_own {W : World} {base : Nat} {v : Value} {l : List D} (ho : W.ownsRow base 103 4 v l.length (Dep.flat l)) : ∃ A c, v = .slice A l.length c ∧ l.length ≤ c ∧ Dep.Held W A l base W.heap.size := by
  obtain ⟨hn, A, c, rfl, hc, hL⟩ := Dep.own_lies ho
  exact ⟨A, c, rfl, hc, Dep.Held.of_own ho⟩

set_option maxHeartbeats 4000000 in
set_option maxRecDepth 100000 in
theorem l04Copy_any (r : R) (p : P) (w : World) (h : Rec.Lies w w.heap.size r p) (hl : r.l.length ≤ 1000000) (hb : r.b.length ≤ 1000000) :
    Calls Tryz.prog 63 #[recV r p] w fun e w' => ∃ p', e = .returned (recV r p') ∧ Rec.Held w' r p' w.heap.size w'.heap.size ∧ Below w.heap.size w w' := by
  have B0 := ((Below.refl w.heap.size w).alloc (Nat.le_refl _) (Obj.cells (cellsV r p) 31)).alloc (by simp) (Obj.cells Rec.zeroV 31)
  have X0 := (Blk.new w 31 (cellsV r p)).alloc (Obj.cells Rec.zeroV 31)
  have Y0 := Blk.new (w.alloc (Obj.cells (cellsV r p) 31)) 31 Rec.zeroV
  rw [World.size_alloc] at Y0
  have hz0 : w.heap.size + 2 = ((w.alloc (Obj.cells (cellsV r p) 31)).alloc (Obj.cells Rec.zeroV 31)).heap.size := by simp
  have HX0 := Lib.hid X0
  have HY0 := Lib.hid Y0
  have HB0 := Lib.hid B0
  have HZ0 := Lib.hid hz0
  have HL0 := Lib.hid (h.step B0 (Nat.le_refl _) B0.size)
  have HST := Lib.hid h.2
  clear h B0 X0 Y0 hz0
  unfold recV
  have hon := Dep.own_none ((w.alloc (Obj.cells (cellsV r p) 31)).alloc (Obj.cells Rec.zeroV 31))
  simp only [World.size_alloc] at hon
  have HON := Lib.hid hon
  have x6 := (HX0.out.alloc (Obj.cells #[] 103)).cell 6
  have HLD := Lib.hid (HL0.out.1.below ((Below.refl _ _).alloc (Nat.le_refl _) (Obj.cells #[] 103)) (Nat.le_refl _))
  clear hon
  go_enter Tryz.func63, Tryz.ntmps63
  go_upto_region 2 with (at_builtin; refine Dep.wpList_append_deps2 rfl rfl rfl r.l rfl rfl rfl HON.out HLD.out (by omega) (by simp) ?_; intro v1 W1 ho1 hg1 hn1; rw [Nat.zero_add, List.nil_append] at ho1; obtain ⟨A1, c1, rfl, hc1, hh1⟩ := deps_own ho1; have HG1 := Lib.hid hg1; have HH1 := Lib.hid hh1; have hx1 := blk_grown (HX0.out.alloc (Obj.cells #[] 103)) hg1 (base := w.heap.size + 1 + 1) (fun k e => by cases e; exact Nat.le_refl _) (by omega); have hy1 := blk_grown (HY0.out.alloc (Obj.cells #[] 103)) hg1 (base := w.heap.size + 1 + 1) (fun k e => by cases e; exact Nat.le_refl _) (by omega); have HX1 := Lib.hid hx1; have HY1 := Lib.hid hy1; have y6 := hx1.cell 6; have g6 := hx1.free 6; clear ho1 hg1 hh1 hn1 hc1 hx1 hy1 x6)
  clear y6 g6
  have HX2 := Lib.hid (HX1.out.set 6 (.slice A1 r.l.length c1) (cs' := cellsV r ⟨A1, c1, p.B, p.cb⟩) rfl)
  have HY2 := Lib.hid (HY1.out.other (p := ⟨w.heap.size, 6, none⟩) (by show w.heap.size + 1 ≠ w.heap.size; omega) (.slice A1 r.l.length c1))
  have hsz := HG1.out.size
  have hs1 : w.heap.size + 3 ≤ W1.heap.size := by simp at hsz; omega
  have HS1 := Lib.hid hs1
  have HB2 := Lib.hid ((((HB0.out.alloc HB0.out.size (Obj.cells #[] 103)).grown HG1.out (by simp; omega) (fun k e => by cases e; show w.heap.size ≤ w.heap.size + 1 + 1; omega))).setCell (p := ⟨w.heap.size, 6, none⟩) (Nat.le_refl _) (.slice A1 r.l.length c1))
  have HH2 := Lib.hid (show Dep.Held (W1.setCell ⟨w.heap.size, 6, none⟩ (.slice A1 r.l.length c1)) A1 r.l (w.heap.size + 2) W1.heap.size from HH1.out.keep fun k h1 _ _ => heap_setCell_other _ _ k _ (by show k ≠ w.heap.size; omega))
  have HLS := Lib.hid (show Str.Lies (W1.setCell ⟨w.heap.size, 6, none⟩ (.slice A1 r.l.length c1)) w.heap.size p.B r.b from HST.out.below HB2.out (Nat.le_refl _))
  have hz2 : (W1.setCell ⟨w.heap.size, 6, none⟩ (.slice A1 r.l.length c1)).heap.size = W1.heap.size := World.size_setCell _ _ _
  clear hsz hs1
  have HZ2 := Lib.hid hz2
  clear hz2
  generalize World.setCell W1 _ _ = W2 at HX2 HY2 HB2 HH2 HLS HZ2 ⊢
  have x7 := (HX2.out.alloc (Obj.cells #[] 9)).cell 7
  have HLT := Lib.hid (texts_cl (HLS.out.below ((Below.refl W2.heap.size W2).alloc (Nat.le_refl _) (Obj.cells #[] 9)) (by have := HB2.out.size; omega)))
  have HON2 := Lib.hid (o_none W2 9 1)
  go_upto_region 3 with (at_builtin; refine wpList_app fit_texts rfl rfl rfl (tv r.b) rfl rfl HON2.out HLT.out (by rw [tv_len, Nat.mul_one]) (tv_one _) (by omega) (by simp) ?_; intro v2 W3 ho2 hg2 hn2; rw [Nat.zero_add, List.nil_append] at ho2; obtain ⟨hn3, A2, c2, rfl, hc2, hh2⟩ := texts_own ho2; have HG3 := Lib.hid hg2; have HH3 := Lib.hid hh2; have hx3 := blk_grown (HX2.out.alloc (Obj.cells #[] 9)) hg2 (base := W2.heap.size) (fun k e => by cases e; exact Nat.le_refl _) HX2.out.lt; have HX3 := Lib.hid hx3; have hy3 := blk_grown (HY2.out.alloc (Obj.cells #[] 9)) hg2 (base := W2.heap.size) (fun k e => by cases e; exact Nat.le_refl _) HY2.out.lt; have HY3 := Lib.hid hy3; have y7 := hx3.cell 7; have g7 := hx3.free 7; clear ho2 hg2 hh2 hn2 hc2 hn3 hx3 hy3 x7)
  clear y7 g7
  have hz2 := HZ2.out
  have hsz3 := HG3.out.size
  simp only [World.size_alloc] at hsz3
  have HX4 := Lib.hid (HX3.out.set 7 (.slice A2 r.b.length c2) (cs' := cellsV r ⟨A1, c1, A2, c2⟩) rfl)
  have HY4 := Lib.hid (HY3.out.other (p := ⟨w.heap.size, 7, none⟩) (by show w.heap.size + 1 ≠ w.heap.size; omega) (.slice A2 r.b.length c2))
  have HB4 := Lib.hid (((HB2.out.alloc HB2.out.size (Obj.cells #[] 9)).grown HG3.out (by have := HB2.out.size; simp; omega) (fun k e => by cases e; exact HB2.out.size)).setCell (p := ⟨w.heap.size, 7, none⟩) (Nat.le_refl _) (.slice A2 r.b.length c2))
  have hk4 : ∀ k, w.heap.size + 2 ≤ k → k < W1.heap.size → (W3.setCell ⟨w.heap.size, 7, none⟩ (.slice A2 r.b.length c2)).heap[k]? = W2.heap[k]? := fun k h1 h2 => by
    have e1 := heap_setCell_other W3 ⟨w.heap.size, 7, none⟩ k (.slice A2 r.b.length c2) (by show k ≠ w.heap.size; omega)
    have e2 := HG3.out.block k (by rw [World.size_alloc]; omega) (fun e => by have e2 : k = W2.heap.size := by cases e; rfl
                                                                              omega)
    have e3 := heap_alloc_old W2 (Obj.cells #[] 9) (show k < W2.heap.size by omega)
    exact e1.trans (e2.trans e3)
  have HD4 := Lib.hid (show Dep.Held (W3.setCell ⟨w.heap.size, 7, none⟩ (.slice A2 r.b.length c2)) A1 r.l (w.heap.size + 2) W2.heap.size from (HH2.out.keep fun k h1 h2 _ => hk4 k h1 h2).wide (Nat.le_refl _) (by omega))
  clear hk4
  have HS4 := Lib.hid (show Str.Held (W3.setCell ⟨w.heap.size, 7, none⟩ (.slice A2 r.b.length c2)) A2 r.b W2.heap.size W3.heap.size from HH3.out.keep fun k h1 _ _ => heap_setCell_other W3 ⟨w.heap.size, 7, none⟩ k _ (by show k ≠ w.heap.size; have := HX2.out.lt; omega))
  have hz4 : (W3.setCell ⟨w.heap.size, 7, none⟩ (.slice A2 r.b.length c2)).heap.size = W3.heap.size := World.size_setCell _ _ _
  have HZ4 := Lib.hid (show w.heap.size + 2 ≤ W2.heap.size ∧ W2.heap.size ≤ W3.heap.size from ⟨by have := HS1.out; omega, by omega⟩)
  have HZ5 := Lib.hid hz4
  clear hsz3 hz4 hz2
  generalize World.setCell W3 _ _ = W4 at HX4 HY4 HB4 HD4 HS4 HZ5 ⊢
  obtain ⟨x0, x1, x2, x3, x4, x5, x6, x7⟩ := Rec.cells8 HX4.out
  have y0 := HY4.out.cell 0
  have y1 := HY4.out.cell 1
  have y2 := HY4.out.cell 2
  have y3 := HY4.out.cell 3
  have y4 := HY4.out.cell 4
  have y5 := HY4.out.cell 5
  have y6 := HY4.out.cell 6
  have y7 := HY4.out.cell 7
  have f0 := HY4.out.free 0
  have f1 := HY4.out.free 1
  have f2 := HY4.out.free 2
  have f3 := HY4.out.free 3
  have f4 := HY4.out.free 4
  have f5 := HY4.out.free 5
  have f6 := HY4.out.free 6
  have f7 := HY4.out.free 7
  go_wp2_with fail
  have hA := (((((((((Above.refl (w.heap.size + 2) W4).set (p := ⟨w.heap.size + 1, 0, none⟩) (by show w.heap.size + 1 < w.heap.size + 2; omega) (.string r.k)).set (p := ⟨w.heap.size + 1, 1, none⟩) (by show w.heap.size + 1 < w.heap.size + 2; omega) (.int .i64 r.i.c)).set (p := ⟨w.heap.size + 1, 2, none⟩) (by show w.heap.size + 1 < w.heap.size + 2; omega) (.int .i64 r.i.s)).set (p := ⟨w.heap.size + 1, 3, none⟩) (by show w.heap.size + 1 < w.heap.size + 2; omega) (.int .i64 r.i.e)).set (p := ⟨w.heap.size + 1, 4, none⟩) (by show w.heap.size + 1 < w.heap.size + 2; omega) (.string r.d)).set (p := ⟨w.heap.size + 1, 5, none⟩) (by show w.heap.size + 1 < w.heap.size + 2; omega) (.bool r.g)).set (p := ⟨w.heap.size + 1, 6, none⟩) (by show w.heap.size + 1 < w.heap.size + 2; omega) (.slice A1 r.l.length c1)).set (p := ⟨w.heap.size + 1, 7, none⟩) (by show w.heap.size + 1 < w.heap.size + 2; omega) (.slice A2 r.b.length c2))
  refine bodyPost_ret (v := recV r ⟨A1, c1, A2, c2⟩) (by simp [results, Tryz.results63, go_sem, recV, y0, y1, y2, y3, y4, y5, y6, y7]) rfl ⟨⟨A1, c1, A2, c2⟩, rfl, ?_, ((((((((HB4.out.setCell (p := ⟨w.heap.size + 1, 0, none⟩) (by show w.heap.size ≤ w.heap.size + 1; omega) (.string r.k)).setCell (p := ⟨w.heap.size + 1, 1, none⟩) (by show w.heap.size ≤ w.heap.size + 1; omega) (.int .i64 r.i.c)).setCell (p := ⟨w.heap.size + 1, 2, none⟩) (by show w.heap.size ≤ w.heap.size + 1; omega) (.int .i64 r.i.s)).setCell (p := ⟨w.heap.size + 1, 3, none⟩) (by show w.heap.size ≤ w.heap.size + 1; omega) (.int .i64 r.i.e)).setCell (p := ⟨w.heap.size + 1, 4, none⟩) (by show w.heap.size ≤ w.heap.size + 1; omega) (.string r.d)).setCell (p := ⟨w.heap.size + 1, 5, none⟩) (by show w.heap.size ≤ w.heap.size + 1; omega) (.bool r.g)).setCell (p := ⟨w.heap.size + 1, 6, none⟩) (by show w.heap.size ≤ w.heap.size + 1; omega) (.slice A1 r.l.length c1)).setCell (p := ⟨w.heap.size + 1, 7, none⟩) (by show w.heap.size ≤ w.heap.size + 1; omega) (.slice A2 r.b.length c2))⟩
  have h1 := HZ4.out
  have h2 := HZ5.out
  have hr : Rec.Held W4 r ⟨A1, c1, A2, c2⟩ (w.heap.size + 2) W4.heap.size := ⟨HD4.out.wide (Nat.le_refl _) (by omega), HS4.out.wide (by omega) (by omega)⟩
  exact (hr.above hA).wide (by omega) (by simp only [World.size_setCell]; exact Nat.le_refl _)

def AtIs (l : List Q) (key : ByteArray) (i : Int) : Prop := (i = -1 ∧ ∀ j (hj : j < l.length), ¬ l[j].r.k = key) ∨ ∃ k, ∃ hk : k < l.length, i = (k : Int) ∧ l[k].r.k = key ∧ ∀ j (hj : j < l.length), j < k → ¬ l[j].r.k = key
/-- Where a key stands. -/
theorem at_any (A : Option Addr) (l : List Q) (cap : Nat) (key : ByteArray) (w : World) (h : LRs w w.heap.size A l) (hl : l.length ≤ 1048576) :
    Calls Tryz.prog 61 #[.slice A l.length cap, .string key] w fun e w' => (∃ i : Int, e = .returned (.int .i64 i) ∧ AtIs l key i) ∧ w' = w := by
  have H := Lib.hid h
  clear h
  go_enter Tryz.func61, Tryz.ntmps61
  go_wp2_with fail
  go_loop [5] (fun i => ∃ k : Nat, k ≤ l.length ∧ i = .int .i64 k ∧ Hid (∀ j (hj : j < l.length), j < k → ¬ l[j].r.k = key)) (fun i => l.length - (intOf i).toNat)
  case atStart => exact ⟨0, by omega, rfl, Lib.hid fun j hj hjk => absurd hjk (by omega)⟩
  case round =>
    obtain ⟨k, hk, rfl, HR⟩ := hrel
    by_cases hlt : k < l.length
    · obtain ⟨ad, rfl, _, hq, -⟩ := H.out.at_ hlt
      have HLT := Lib.hid hlt
      have HYK := Lib.hid (show ∀ j (hj : j < l.length), j = k → l[j].r.k = (l[k]'hlt).r.k from fun j hj e => by subst e; rfl)
      have c0 : w.cell? (ad.add (k * 8)) = some (.string (l[k]'hlt).r.k) := hq.1
      clear hq
      generalize (l[k]'hlt).r.k = kk at c0 HYK
      by_cases he : kk = key
      · have HE := Lib.hid he
        have e0 := Str.str_eq he
        clear he
        go_wp2_with fail
        go_ret
        exact ⟨⟨k, rfl, .inr ⟨k, HLT.out, rfl, (HYK.out k HLT.out rfl).trans HE.out, HR.out⟩⟩, rfl⟩
      · have HN := Lib.hid he
        have e0 := Str.str_ne he
        clear he
        go_wp2_with fail
        go_round
        case rel =>
          refine ⟨k + 1, by omega, by go_num, Lib.hid fun j hj hjk => ?_⟩
          by_cases e : j = k
          · rw [HYK.out j hj e]; exact HN.out
          · exact HR.out j hj (by omega)
        case measure => simp [intOf]; omega
    · go_wp2_with fail
      go_ret
      exact ⟨⟨-1, rfl, .inl ⟨rfl, fun j hj => HR.out j hj (by omega)⟩⟩, rfl⟩
end Go.Proofs.YtegnjbdgeibhfaaGreat.Rs
