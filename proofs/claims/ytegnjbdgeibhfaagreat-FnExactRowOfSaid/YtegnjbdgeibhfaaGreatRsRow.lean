/-
  RowOf of the model and of the program.
-/
import Derived.Test.YtegnjbdgeibhfaaGreatRsCopy
import Derived.Test.YtegnjbdgeibhfaaGreatRsAt
namespace Go.Proofs.YtegnjbdgeibhfaaGreat.Rs
open Go.ChangeShapes Go.WideShapes Go.ChangeAt Go.RowKit
open Rec (R P Sound recV cellsV recB needsR rec_of)
open Net (Cl Bk HeldV)
open Dep (D I depsB)
set_option linter.unusedVariables false
set_option maxRecDepth 100000
set_option linter.unusedSimpArgs false

/-- No record. -/
def zR : R := (default : Q).r
def zP : P := (default : Q).p
theorem atQ_yes {q : Q} {l : List Q} {key : ByteArray} (h : q.r.k = key) : atQ (q :: l) key = q := at_hit (k := 0) (by simp) (fun j hj hj0 => absurd hj0 (by omega)) h
theorem atQ_no {q : Q} {l : List Q} {key : ByteArray} (h : ¬ q.r.k = key) : atQ (q :: l) key = atQ l key := by
  unfold atQ
  rw [List.find?_cons_of_neg (by simpa using h)]
theorem atQ_nil (key : ByteArray) : atQ [] key = default := rfl
/-- The first record of a key, as a plain value. -/
noncomputable def atR : List R → ByteArray → R
  | [], _ => zR
  | r :: l, key => @ite R (r.k = key) (Classical.propDecidable _) r (atR l key)
theorem atR_yes {r : R} {l : List R} {key : ByteArray} (h : r.k = key) : atR (r :: l) key = r := by unfold atR; rw [if_pos h]
theorem atR_no {r : R} {l : List R} {key : ByteArray} (h : ¬ r.k = key) : atR (r :: l) key = atR l key := by rw [atR, if_neg h]
theorem atQ_r (l : List Q) (key : ByteArray) : (atQ l key).r = atR (pr l) key := by
  induction l with
  | nil => rfl
  | cons q l ih =>
    show _ = atR (q.r :: pr l) key
    by_cases h : q.r.k = key
    · rw [atQ_yes h, atR_yes h]
    · rw [atQ_no h, atR_no h, ih]
theorem atQ_mem (l : List Q) (key : ByteArray) : atQ l key ∈ l ∨ atQ l key = default := by
  induction l with
  | nil => exact .inr rfl
  | cons q l ih =>
    by_cases h : q.r.k = key
    · rw [atQ_yes h]; exact .inl List.mem_cons_self
    · rw [atQ_no h]; exact ih.imp (fun h => List.mem_cons_of_mem _ h) id
theorem atR_mem (l : List R) (key : ByteArray) : atR l key ∈ l ∨ atR l key = zR := by
  induction l with
  | nil => exact .inr rfl
  | cons q l ih =>
    by_cases h : q.k = key
    · rw [atR_yes h]; exact .inl List.mem_cons_self
    · rw [atR_no h]; exact ih.imp (fun h => List.mem_cons_of_mem _ h) id
/-- The row of a key. -/
noncomputable def rowV (rows wait : List R) (key : ByteArray) : R := if cutB rows wait = true then atR rows key else zR
theorem row_no {rows wait : List R} {key : ByteArray} (h : cutB rows wait = false) : rowV rows wait key = zR := by unfold rowV; rw [if_neg (by rw [h]; exact Bool.noConfusion)]
theorem row_yes {rows wait : List R} {key : ByteArray} (h : cutB rows wait = true) : rowV rows wait key = atR rows key := by unfold rowV; rw [if_pos h]
theorem zero_lies (w : World) (B : Nat) : Rec.Lies w B zR zP := ⟨fun h => absurd h (by show ¬ 0 < [].length; simp), fun h => absurd h (by show ¬ 0 < [].length; simp)⟩
theorem zero_held (w : World) (a b : Nat) : Rec.Held w zR zP a b := ⟨.inl ⟨rfl, rfl⟩, .inl ⟨rfl, rfl⟩⟩
/-- What a right record, or none, is like. -/
structure RFine (r : R) : Prop where
  k : r.k.size ≤ 1048576
  d : r.d.size ≤ 1048576
  l : depsB r.l = true
  b : r.b.length ≤ 4
  x : ∀ x ∈ r.b, x.size ≤ 1048576
theorem rfine_zero : RFine zR := ⟨by show (0 : Nat) ≤ _; omega, by show (0 : Nat) ≤ _; omega, Dep.depsB_true ⟨by show [].length ≤ 6; simp, fun d hd => absurd hd (by show ¬ d ∈ []; simp), List.Pairwise.nil⟩, by show [].length ≤ 4; simp, fun x hx => absurd hx (by show ¬ x ∈ []; simp)⟩
theorem RFine.six {r : R} (h : RFine r) : r.l.length ≤ 6 := (Dep.ok_of h.l).1
theorem rfine_of {r : R} (h : recB r = true) : RFine r := by
  have ho := rec_of h
  have hb := Rec.keys_of ho.2.2.2.2.2.1
  exact ⟨by have := (Key.ok_of ho.1).2.1; omega, by have := (Rec.dat_of ho.2.2.1).1; omega, ho.2.2.2.2.1, hb.1, fun x hx => by have := (Key.ok_of (hb.2.1 x hx)).2.1; omega⟩
theorem row_fine (rows wait : List R) (key : ByteArray) : RFine (rowV rows wait key) := by
  cases h : cutB rows wait
  · rw [row_no h]; exact rfine_zero
  · rw [row_yes h]
    rcases atR_mem rows key with h1 | h1
    · exact rfine_of ((cut_list h).2.1 _ h1)
    · rw [h1]; exact rfine_zero
theorem at_lies {w : World} {B : Nat} {A : Option Addr} {l : List Q} (h : LRs w B A l) (key : ByteArray) : Rec.Lies w B (atQ l key).r (atQ l key).p := by
  rcases atQ_mem l key with h1 | h1
  · exact h.2 _ h1
  · rw [h1]; exact zero_lies w B

set_option maxHeartbeats 4000000 in
set_option maxRecDepth 100000 in
theorem implRow_any (A : Option Addr) (bd : Addr) (rows wait : List Q) (ca cb : Nat) (key : ByteArray) (w : World) (h : LRs w w.heap.size A rows) (hw : LRs w w.heap.size (some bd) wait) (hrl : rows.length ≤ 1048576) (hwl : wait.length ≤ 1048576) (hsr : ∀ q ∈ rows, Sound q.r) (hsw : ∀ q ∈ wait, Sound q.r) :
    Calls Tryz.prog 15 #[.agg #[.slice A rows.length ca, .slice (some bd) wait.length cb], .string key] w fun e w' => ∃ p', e = .returned (recV (rowV (pr rows) (pr wait) key) p') ∧ Rec.Held w' (rowV (pr rows) (pr wait) key) p' w.heap.size w'.heap.size ∧ Below w.heap.size w w' := by
  have B0 := Lib.hid (((Below.refl w.heap.size w).alloc (Nat.le_refl _) (Obj.cells #[.slice A rows.length ca, .slice (some bd) wait.length cb] 35)).alloc (by simp) (Obj.cells Rec.zeroV 31))
  have X0 := Lib.hid ((Blk.new w 35 #[.slice A rows.length ca, .slice (some bd) wait.length cb]).alloc (Obj.cells Rec.zeroV 31))
  have y0 := Blk.new (w.alloc (Obj.cells #[.slice A rows.length ca, .slice (some bd) wait.length cb] 35)) 31 Rec.zeroV
  rw [World.size_alloc] at y0
  have Y0 := Lib.hid y0
  have Z0 := Lib.hid (show w.heap.size + 2 ≤ ((w.alloc (Obj.cells #[.slice A rows.length ca, .slice (some bd) wait.length cb] 35)).alloc (Obj.cells Rec.zeroV 31)).heap.size by simp)
  have HC := Lib.hid (fun W (hW : Below w.heap.size w W) => implCut_any A bd rows wait ca cb W (h.on hW) (hw.on hW) hrl hwl hsr hsw)
  have HAT := Lib.hid (fun W (hW : Below w.heap.size w W) => recAt_any A rows ca key W (h.on hW) hrl)
  have HL := Lib.hid (fun W (hW : Below w.heap.size w W) => at_lies (h.on hW) key)
  clear h hw hsr hsw y0
  go_enter Tryz.func15, Tryz.ntmps15
  obtain ⟨x0, x1⟩ := cell2 X0.out
  go_wp2_with fail
  clear x0 x1
  generalize World.alloc (World.alloc w _) _ = W0 at B0 X0 Y0 Z0 ⊢
  refine (HC.out _ B0.out).mono ?_
  rintro e w1 ⟨rfl, hb⟩
  have B1 := Lib.hid (B0.out.trans (hb.mono B0.out.size))
  have X1 := Lib.hid (X0.out.on hb)
  have Y1 := Lib.hid (Y0.out.on hb)
  have Z1 := Lib.hid (Nat.le_trans Z0.out hb.size)
  clear hb HC X0 Y0
  cases hc : cutB (pr rows) (pr wait)
  · have HN := Lib.hid (row_no (key := key) hc)
    clear hc
    have y0 := Y1.out.cell 0
    have y1 := Y1.out.cell 1
    have y2 := Y1.out.cell 2
    have y3 := Y1.out.cell 3
    have y4 := Y1.out.cell 4
    have y5 := Y1.out.cell 5
    have y6 := Y1.out.cell 6
    have y7 := Y1.out.cell 7
    have f0 := Y1.out.free 0
    have f1 := Y1.out.free 1
    have f2 := Y1.out.free 2
    have f3 := Y1.out.free 3
    have f4 := Y1.out.free 4
    have f5 := Y1.out.free 5
    have f6 := Y1.out.free 6
    have f7 := Y1.out.free 7
    go_wp2_with fail
    rw [HN.out]
    exact bodyPost_ret (v := .agg Rec.zeroV) (by simp [results, Tryz.results15, go_sem, y0, y1, y2, y3, y4, y5, y6, y7]) rfl ⟨zP, rfl, zero_held _ _ _, ((((((((B1.out.setCell (p := ⟨w.heap.size + 1, 0, none⟩) (by show w.heap.size ≤ w.heap.size + 1; omega) (.string ⟨#[]⟩)).setCell (p := ⟨w.heap.size + 1, 1, none⟩) (by show w.heap.size ≤ w.heap.size + 1; omega) (.int .i64 0)).setCell (p := ⟨w.heap.size + 1, 2, none⟩) (by show w.heap.size ≤ w.heap.size + 1; omega) (.int .i64 0)).setCell (p := ⟨w.heap.size + 1, 3, none⟩) (by show w.heap.size ≤ w.heap.size + 1; omega) (.int .i64 0)).setCell (p := ⟨w.heap.size + 1, 4, none⟩) (by show w.heap.size ≤ w.heap.size + 1; omega) (.string ⟨#[]⟩)).setCell (p := ⟨w.heap.size + 1, 5, none⟩) (by show w.heap.size ≤ w.heap.size + 1; omega) (.bool false)).setCell (p := ⟨w.heap.size + 1, 6, none⟩) (by show w.heap.size ≤ w.heap.size + 1; omega) (.slice none 0 0)).setCell (p := ⟨w.heap.size + 1, 7, none⟩) (by show w.heap.size ≤ w.heap.size + 1; omega) (.slice none 0 0))⟩
  · have HY := Lib.hid (row_yes (key := key) hc)
    have HF := Lib.hid (show RFine (atR (pr rows) key) from row_yes (key := key) hc ▸ row_fine (pr rows) (pr wait) key)
    have HR := Lib.hid (atQ_r rows key)
    clear hc
    obtain ⟨x0, x1⟩ := cell2 X1.out
    go_wp2_with fail
    clear x0 x1
    refine (HAT.out _ B1.out).mono ?_
    rintro e w2 ⟨rfl, hb⟩
    have B2 := Lib.hid (B1.out.trans (hb.mono B1.out.size))
    have Y2 := Lib.hid (Y1.out.on hb)
    have Z2 := Lib.hid (Nat.le_trans Z1.out hb.size)
    have HL2 := Lib.hid (HL.out _ B2.out)
    clear hb HAT
    obtain ⟨q, hq⟩ : ∃ q, atQ rows key = q := ⟨_, rfl⟩
    rw [hq] at HL2 HR ⊢
    clear hq
    obtain ⟨r, p⟩ := q
    have hr : r = atR (pr rows) key := HR.out
    rw [← hr] at HF HY
    have HNR := Lib.hid (newRec_any r p w2 HL2.out HF.out.k HF.out.d HF.out.l (by have := HF.out.b; omega) HF.out.x)
    unfold recV at HNR ⊢
    clear hr HR HL HL2
    go_wp2_with fail
    refine HNR.out.mono ?_
    rintro e w3 ⟨p3, rfl, hh, hb⟩
    have B3 := Lib.hid (B2.out.trans (hb.mono B2.out.size))
    have Y3 := Lib.hid (Y2.out.on hb)
    have HH := Lib.hid (hh.wide Z2.out (Nat.le_refl _))
    clear hb hh
    have y0 := Y3.out.cell 0
    have y1 := Y3.out.cell 1
    have y2 := Y3.out.cell 2
    have y3 := Y3.out.cell 3
    have y4 := Y3.out.cell 4
    have y5 := Y3.out.cell 5
    have y6 := Y3.out.cell 6
    have y7 := Y3.out.cell 7
    have f0 := Y3.out.free 0
    have f1 := Y3.out.free 1
    have f2 := Y3.out.free 2
    have f3 := Y3.out.free 3
    have f4 := Y3.out.free 4
    have f5 := Y3.out.free 5
    have f6 := Y3.out.free 6
    have f7 := Y3.out.free 7
    go_wp2_with fail
    have hA := (((((((((Above.refl (w.heap.size + 2) w3).set (p := ⟨w.heap.size + 1, 0, none⟩) (by show w.heap.size + 1 < w.heap.size + 2; omega) (.string r.k)).set (p := ⟨w.heap.size + 1, 1, none⟩) (by show w.heap.size + 1 < w.heap.size + 2; omega) (.int .i64 r.i.c)).set (p := ⟨w.heap.size + 1, 2, none⟩) (by show w.heap.size + 1 < w.heap.size + 2; omega) (.int .i64 r.i.s)).set (p := ⟨w.heap.size + 1, 3, none⟩) (by show w.heap.size + 1 < w.heap.size + 2; omega) (.int .i64 r.i.e)).set (p := ⟨w.heap.size + 1, 4, none⟩) (by show w.heap.size + 1 < w.heap.size + 2; omega) (.string r.d)).set (p := ⟨w.heap.size + 1, 5, none⟩) (by show w.heap.size + 1 < w.heap.size + 2; omega) (.bool r.g)).set (p := ⟨w.heap.size + 1, 6, none⟩) (by show w.heap.size + 1 < w.heap.size + 2; omega) (.slice p3.A r.l.length p3.ca)).set (p := ⟨w.heap.size + 1, 7, none⟩) (by show w.heap.size + 1 < w.heap.size + 2; omega) (.slice p3.B r.b.length p3.cb))
    rw [HY.out]
    refine bodyPost_ret (v := recV r p3) (by simp [results, Tryz.results15, go_sem, recV, y0, y1, y2, y3, y4, y5, y6, y7]) rfl ⟨p3, rfl, ?_, ((((((((B3.out.setCell (p := ⟨w.heap.size + 1, 0, none⟩) (by show w.heap.size ≤ w.heap.size + 1; omega) (.string r.k)).setCell (p := ⟨w.heap.size + 1, 1, none⟩) (by show w.heap.size ≤ w.heap.size + 1; omega) (.int .i64 r.i.c)).setCell (p := ⟨w.heap.size + 1, 2, none⟩) (by show w.heap.size ≤ w.heap.size + 1; omega) (.int .i64 r.i.s)).setCell (p := ⟨w.heap.size + 1, 3, none⟩) (by show w.heap.size ≤ w.heap.size + 1; omega) (.int .i64 r.i.e)).setCell (p := ⟨w.heap.size + 1, 4, none⟩) (by show w.heap.size ≤ w.heap.size + 1; omega) (.string r.d)).setCell (p := ⟨w.heap.size + 1, 5, none⟩) (by show w.heap.size ≤ w.heap.size + 1; omega) (.bool r.g)).setCell (p := ⟨w.heap.size + 1, 6, none⟩) (by show w.heap.size ≤ w.heap.size + 1; omega) (.slice p3.A r.l.length p3.ca)).setCell (p := ⟨w.heap.size + 1, 7, none⟩) (by show w.heap.size ≤ w.heap.size + 1; omega) (.slice p3.B r.b.length p3.cb))⟩
    exact (HH.out.above hA).wide (by omega) (by simp only [World.size_setCell]; exact Nat.le_refl _)

theorem at_is {l : List Q} {key : ByteArray} {i : Int} (h : AtIs l key i) : (i = -1 ∧ atR (pr l) key = zR) ∨ ∃ k, ∃ hk : k < l.length, i = (k : Int) ∧ l[k].r = atR (pr l) key := by
  rcases h with ⟨e, h⟩ | ⟨k, hk, e, h1, h2⟩
  · refine .inl ⟨e, ?_⟩
    rw [← atQ_r, at_none h]; rfl
  · refine .inr ⟨k, hk, e, ?_⟩
    rw [← atQ_r, at_hit hk (fun j hj hjk => h2 j hj hjk) h1]

set_option maxHeartbeats 4000000 in
set_option maxRecDepth 100000 in
theorem specRow_any (A : Option Addr) (bd : Addr) (rows wait : List Q) (ca cb : Nat) (key : ByteArray) (w : World) (h : LRs w w.heap.size A rows) (hw : LRs w w.heap.size (some bd) wait) (hrl : rows.length ≤ 1048576) (hwl : wait.length ≤ 1048576) (hsr : ∀ q ∈ rows, Sound q.r) (hsw : ∀ q ∈ wait, Sound q.r) :
    Calls Tryz.prog 13 #[.agg #[.slice A rows.length ca, .slice (some bd) wait.length cb], .string key] w fun e w' => ∃ p', e = .returned (recV (rowV (pr rows) (pr wait) key) p') ∧ Rec.Held w' (rowV (pr rows) (pr wait) key) p' w.heap.size w'.heap.size ∧ Below w.heap.size w w' := by
  have B0 := Lib.hid (((Below.refl w.heap.size w).alloc (Nat.le_refl _) (Obj.cells #[.slice A rows.length ca, .slice (some bd) wait.length cb] 35)).alloc (by simp) (Obj.cells Rec.zeroV 31))
  have X0 := Lib.hid ((Blk.new w 35 #[.slice A rows.length ca, .slice (some bd) wait.length cb]).alloc (Obj.cells Rec.zeroV 31))
  have y0 := Blk.new (w.alloc (Obj.cells #[.slice A rows.length ca, .slice (some bd) wait.length cb] 35)) 31 Rec.zeroV
  rw [World.size_alloc] at y0
  have Y0 := Lib.hid y0
  have Z0 := Lib.hid (show w.heap.size + 2 ≤ ((w.alloc (Obj.cells #[.slice A rows.length ca, .slice (some bd) wait.length cb] 35)).alloc (Obj.cells Rec.zeroV 31)).heap.size by simp)
  have HC := Lib.hid (fun W (hW : Below w.heap.size w W) => specCut_any A bd rows wait ca cb W (h.on hW) (hw.on hW) hrl hwl hsr hsw)
  have HAT := Lib.hid (fun W (hW : Below w.heap.size w W) => at_any A rows ca key W (h.on hW) hrl)
  have HL := Lib.hid (fun W (hW : Below w.heap.size w W) k (hk : k < rows.length) => (h.on hW).at_ hk)
  clear h hw hsr hsw y0
  go_enter Tryz.func13, Tryz.ntmps13
  obtain ⟨x0, x1⟩ := cell2 X0.out
  go_wp2_with fail
  clear x0 x1
  generalize World.alloc (World.alloc w _) _ = W0 at B0 X0 Y0 Z0 ⊢
  refine (HAT.out _ B0.out).mono ?_
  rintro e w' ⟨⟨i, rfl, hi⟩, rfl⟩
  have HI := Lib.hid (at_is hi)
  clear hi
  obtain ⟨x0, x1⟩ := cell2 X0.out
  go_wp2_with fail
  clear x0 x1
  refine (HC.out _ B0.out).mono ?_
  rintro e w2 ⟨rfl, hb⟩
  have B2 := Lib.hid (B0.out.trans (hb.mono B0.out.size))
  have X2 := Lib.hid (X0.out.on hb)
  have Y2 := Lib.hid (Y0.out.on hb)
  have Z2 := Lib.hid (Nat.le_trans Z0.out hb.size)
  clear hb HC X0 Y0
  cases hc : cutB (pr rows) (pr wait)
  · have HN := Lib.hid (row_no (key := key) hc)
    clear hc
    have y0 := Y2.out.cell 0
    have y1 := Y2.out.cell 1
    have y2 := Y2.out.cell 2
    have y3 := Y2.out.cell 3
    have y4 := Y2.out.cell 4
    have y5 := Y2.out.cell 5
    have y6 := Y2.out.cell 6
    have y7 := Y2.out.cell 7
    have f0 := Y2.out.free 0
    have f1 := Y2.out.free 1
    have f2 := Y2.out.free 2
    have f3 := Y2.out.free 3
    have f4 := Y2.out.free 4
    have f5 := Y2.out.free 5
    have f6 := Y2.out.free 6
    have f7 := Y2.out.free 7
    go_wp2_with fail
    rw [HN.out]
    exact bodyPost_ret (v := .agg Rec.zeroV) (by simp [results, Tryz.results13, go_sem, y0, y1, y2, y3, y4, y5, y6, y7]) rfl ⟨zP, rfl, zero_held _ _ _, ((((((((B2.out.setCell (p := ⟨w.heap.size + 1, 0, none⟩) (by show w.heap.size ≤ w.heap.size + 1; omega) (.string ⟨#[]⟩)).setCell (p := ⟨w.heap.size + 1, 1, none⟩) (by show w.heap.size ≤ w.heap.size + 1; omega) (.int .i64 0)).setCell (p := ⟨w.heap.size + 1, 2, none⟩) (by show w.heap.size ≤ w.heap.size + 1; omega) (.int .i64 0)).setCell (p := ⟨w.heap.size + 1, 3, none⟩) (by show w.heap.size ≤ w.heap.size + 1; omega) (.int .i64 0)).setCell (p := ⟨w.heap.size + 1, 4, none⟩) (by show w.heap.size ≤ w.heap.size + 1; omega) (.string ⟨#[]⟩)).setCell (p := ⟨w.heap.size + 1, 5, none⟩) (by show w.heap.size ≤ w.heap.size + 1; omega) (.bool false)).setCell (p := ⟨w.heap.size + 1, 6, none⟩) (by show w.heap.size ≤ w.heap.size + 1; omega) (.slice none 0 0)).setCell (p := ⟨w.heap.size + 1, 7, none⟩) (by show w.heap.size ≤ w.heap.size + 1; omega) (.slice none 0 0))⟩
  have HY := Lib.hid (row_yes (key := key) hc)
  have HF := Lib.hid (show RFine (atR (pr rows) key) from row_yes (key := key) hc ▸ row_fine (pr rows) (pr wait) key)
  clear hc
  rcases HI.out with ⟨rfl, hz⟩ | ⟨k, hk, rfl, hr⟩
  · have HN := Lib.hid (HY.out.trans hz)
    clear hz
    have y0 := Y2.out.cell 0
    have y1 := Y2.out.cell 1
    have y2 := Y2.out.cell 2
    have y3 := Y2.out.cell 3
    have y4 := Y2.out.cell 4
    have y5 := Y2.out.cell 5
    have y6 := Y2.out.cell 6
    have y7 := Y2.out.cell 7
    have f0 := Y2.out.free 0
    have f1 := Y2.out.free 1
    have f2 := Y2.out.free 2
    have f3 := Y2.out.free 3
    have f4 := Y2.out.free 4
    have f5 := Y2.out.free 5
    have f6 := Y2.out.free 6
    have f7 := Y2.out.free 7
    go_wp2_with fail
    rw [HN.out]
    exact bodyPost_ret (v := .agg Rec.zeroV) (by simp [results, Tryz.results13, go_sem, y0, y1, y2, y3, y4, y5, y6, y7]) rfl ⟨zP, rfl, zero_held _ _ _, ((((((((B2.out.setCell (p := ⟨w.heap.size + 1, 0, none⟩) (by show w.heap.size ≤ w.heap.size + 1; omega) (.string ⟨#[]⟩)).setCell (p := ⟨w.heap.size + 1, 1, none⟩) (by show w.heap.size ≤ w.heap.size + 1; omega) (.int .i64 0)).setCell (p := ⟨w.heap.size + 1, 2, none⟩) (by show w.heap.size ≤ w.heap.size + 1; omega) (.int .i64 0)).setCell (p := ⟨w.heap.size + 1, 3, none⟩) (by show w.heap.size ≤ w.heap.size + 1; omega) (.int .i64 0)).setCell (p := ⟨w.heap.size + 1, 4, none⟩) (by show w.heap.size ≤ w.heap.size + 1; omega) (.string ⟨#[]⟩)).setCell (p := ⟨w.heap.size + 1, 5, none⟩) (by show w.heap.size ≤ w.heap.size + 1; omega) (.bool false)).setCell (p := ⟨w.heap.size + 1, 6, none⟩) (by show w.heap.size ≤ w.heap.size + 1; omega) (.slice none 0 0)).setCell (p := ⟨w.heap.size + 1, 7, none⟩) (by show w.heap.size ≤ w.heap.size + 1; omega) (.slice none 0 0))⟩
  · have hk0 : ¬ (k : Int) < 0 := by omega
    obtain ⟨ad, rfl, _, hq, hL⟩ := HL.out _ B2.out k hk
    have HRR := Lib.hid hr
    obtain ⟨y, hy⟩ : ∃ y, rows[k] = y := ⟨_, rfl⟩
    have hr2 : y.r = atR (pr rows) key := by rw [← hy]; exact hr
    rw [hy] at hq hL
    clear hy hr
    obtain ⟨r, p⟩ := y
    simp only at hr2 hL
    rw [← hr2] at HF HY
    have HNR := Lib.hid (l04Copy_any r p w2 hL (by have := HF.out.six; omega) (by have := HF.out.b; omega))
    obtain ⟨c0, c1, c2, c3, c4, c5, c6, c7⟩ := hq
    simp only at c0 c1 c2 c3 c4 c5 c6 c7
    obtain ⟨x0, x1⟩ := cell2 X2.out
    unfold recV at HNR
    clear hr2 HL hL HRR HI
    go_wp2_with fail
    clear x0 x1 c0 c1 c2 c3 c4 c5 c6 c7
    refine HNR.out.mono ?_
    rintro e w3 ⟨p3, rfl, hh, hb⟩
    have B3 := Lib.hid (B2.out.trans (hb.mono B2.out.size))
    have Y3 := Lib.hid (Y2.out.on hb)
    have HH := Lib.hid (hh.wide Z2.out (Nat.le_refl _))
    clear hb hh
    have y0 := Y3.out.cell 0
    have y1 := Y3.out.cell 1
    have y2 := Y3.out.cell 2
    have y3 := Y3.out.cell 3
    have y4 := Y3.out.cell 4
    have y5 := Y3.out.cell 5
    have y6 := Y3.out.cell 6
    have y7 := Y3.out.cell 7
    have f0 := Y3.out.free 0
    have f1 := Y3.out.free 1
    have f2 := Y3.out.free 2
    have f3 := Y3.out.free 3
    have f4 := Y3.out.free 4
    have f5 := Y3.out.free 5
    have f6 := Y3.out.free 6
    have f7 := Y3.out.free 7
    go_wp2_with fail
    have hA := (((((((((Above.refl (w.heap.size + 2) w3).set (p := ⟨w.heap.size + 1, 0, none⟩) (by show w.heap.size + 1 < w.heap.size + 2; omega) (.string r.k)).set (p := ⟨w.heap.size + 1, 1, none⟩) (by show w.heap.size + 1 < w.heap.size + 2; omega) (.int .i64 r.i.c)).set (p := ⟨w.heap.size + 1, 2, none⟩) (by show w.heap.size + 1 < w.heap.size + 2; omega) (.int .i64 r.i.s)).set (p := ⟨w.heap.size + 1, 3, none⟩) (by show w.heap.size + 1 < w.heap.size + 2; omega) (.int .i64 r.i.e)).set (p := ⟨w.heap.size + 1, 4, none⟩) (by show w.heap.size + 1 < w.heap.size + 2; omega) (.string r.d)).set (p := ⟨w.heap.size + 1, 5, none⟩) (by show w.heap.size + 1 < w.heap.size + 2; omega) (.bool r.g)).set (p := ⟨w.heap.size + 1, 6, none⟩) (by show w.heap.size + 1 < w.heap.size + 2; omega) (.slice p3.A r.l.length p3.ca)).set (p := ⟨w.heap.size + 1, 7, none⟩) (by show w.heap.size + 1 < w.heap.size + 2; omega) (.slice p3.B r.b.length p3.cb))
    rw [HY.out]
    refine bodyPost_ret (v := recV r p3) (by simp [results, Tryz.results13, go_sem, recV, y0, y1, y2, y3, y4, y5, y6, y7]) rfl ⟨p3, rfl, ?_, ((((((((B3.out.setCell (p := ⟨w.heap.size + 1, 0, none⟩) (by show w.heap.size ≤ w.heap.size + 1; omega) (.string r.k)).setCell (p := ⟨w.heap.size + 1, 1, none⟩) (by show w.heap.size ≤ w.heap.size + 1; omega) (.int .i64 r.i.c)).setCell (p := ⟨w.heap.size + 1, 2, none⟩) (by show w.heap.size ≤ w.heap.size + 1; omega) (.int .i64 r.i.s)).setCell (p := ⟨w.heap.size + 1, 3, none⟩) (by show w.heap.size ≤ w.heap.size + 1; omega) (.int .i64 r.i.e)).setCell (p := ⟨w.heap.size + 1, 4, none⟩) (by show w.heap.size ≤ w.heap.size + 1; omega) (.string r.d)).setCell (p := ⟨w.heap.size + 1, 5, none⟩) (by show w.heap.size ≤ w.heap.size + 1; omega) (.bool r.g)).setCell (p := ⟨w.heap.size + 1, 6, none⟩) (by show w.heap.size ≤ w.heap.size + 1; omega) (.slice p3.A r.l.length p3.ca)).setCell (p := ⟨w.heap.size + 1, 7, none⟩) (by show w.heap.size ≤ w.heap.size + 1; omega) (.slice p3.B r.b.length p3.cb))⟩
    exact (HH.out.above hA).wide (by omega) (by simp only [World.size_setCell]; exact Nat.le_refl _)

noncomputable def rowC (p : List R × List R) (key : ByteArray) : R := rowV p.1 p.2 key
theorem rowC_fine (p : List R × List R) (key : ByteArray) : RFine (rowC p key) := row_fine _ _ _
theorem specRowC_any (n : Ct) (key : ByteArray) (w : World) (h : CLies w w.heap.size n) (hf : CFine n) (hc : CCopy n) {hb : Prop} (_ : hb) :
    Calls Tryz.prog 13 #[n.val, .string key] w fun e w' => ∃ p', e = .returned (recV (rowC (pc n) key) p') ∧ Rec.Held w' (rowC (pc n) key) p' w.heap.size w'.heap.size ∧ Below w.heap.size w w' := by
  obtain ⟨A, s, ca, B, m, cb⟩ := n
  obtain ⟨bd, hB⟩ := hc
  simp only at hB
  subst hB
  exact specRow_any A bd s m ca cb key w h.1 h.2 hf.s hf.m (fun q hq => hf.k q (List.mem_append_left _ hq)) (fun q hq => hf.k q (List.mem_append_right _ hq))
theorem implRowC_any (n : Ct) (key : ByteArray) (w : World) (h : CLies w w.heap.size n) (hf : CFine n) (hc : CCopy n) {hb : Prop} (_ : hb) :
    Calls Tryz.prog 15 #[n.val, .string key] w fun e w' => ∃ p', e = .returned (recV (rowC (pc n) key) p') ∧ Rec.Held w' (rowC (pc n) key) p' w.heap.size w'.heap.size ∧ Below w.heap.size w w' := by
  obtain ⟨A, s, ca, B, m, cb⟩ := n
  obtain ⟨bd, hB⟩ := hc
  simp only at hB
  subst hB
  exact implRow_any A bd s m ca cb key w h.1 h.2 hf.s hf.m (fun q hq => hf.k q (List.mem_append_left _ hq)) (fun q hq => hf.k q (List.mem_append_right _ hq))
end Go.Proofs.YtegnjbdgeibhfaaGreat.Rs
