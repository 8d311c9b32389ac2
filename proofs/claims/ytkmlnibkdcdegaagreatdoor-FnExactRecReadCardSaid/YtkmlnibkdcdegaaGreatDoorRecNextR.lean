/-
  The reader of a record's text: a whole record.
-/
import Derived.Test.YtkmlnibkdcdegaaGreatDoorRecNextD
import Derived.Test.YtkmlnibkdcdegaaGreatDoorRecBox
import Derived.Test.YtkmlnibkdcdegaaGreatDoorPackHeld
namespace Go.Proofs.YtkmlnibkdcdegaaGreatDoor.Rec
open Go.ChangeShapes Go.WideShapes Go.ChangeAt Go.RowKit
open Dep (D I)
set_option linter.unusedVariables false
set_option maxRecDepth 100000
set_option linter.unusedSimpArgs false

theorem own_other {w : World} {base n t m c i : Nat} {v u : Value} {xs : List Value} (h : w.ownsRow base t m v n xs) (hc : c < base) : (w.setCell ⟨c, i, none⟩ u).ownsRow base t m v n xs := by
  refine ⟨h.1, h.2.imp id ?_⟩
  rintro ⟨g, cap, cur, e, hb', hh, r⟩
  exact ⟨g, cap, cur, e, hb', (heap_setCell_other w ⟨c, i, none⟩ g u (by simp; omega)).trans hh, r⟩
theorem strHeld_of_own {W : World} {A : Option Addr} {l : List ByteArray} {base n cap : Nat} (h : W.ownsRow base 9 1 (Str.slV A l cap) n (Str.flat l)) : Str.Held W A l base W.heap.size := by
  have hn : n = l.length := (Str.own_lies h).1
  rcases h.2 with ⟨e, h0⟩ | ⟨g, cap', cur, e, hb, hh, hnc, hcm, hsz, hx⟩
  · unfold Str.slV at e
    injection e with e1 e2 e3
    exact .inl ⟨e1, List.eq_nil_of_length_eq_zero e2⟩
  · unfold Str.slV at e
    injection e with e1 e2 e3
    subst e1
    refine .inr ⟨g, rfl, ⟨cur, hh, by rw [hsz]; omega, fun j hj => ?_⟩, hb, (Array.getElem?_eq_some_iff.1 hh).1⟩
    have := Str.flat_at hj
    rw [← hx, List.getElem?_take, if_pos (by omega)] at this
    rw [← Array.getElem?_toList]
    exact this
theorem end_rec {w w6 W : World} {b c x y : Nat} {r : R} {p : P} (t : Touch c w6 W) (hc : w.heap.size ≤ c) (h4 : c < x) (h5 : c < y) (h : Dep.Held w6 p.A r.l x w6.heap.size) (h' : Str.Held w6 p.B r.b y w6.heap.size) (hg : w.grownBy w6 (some b)) (h8 : r.l.length ≤ p.ca) (h9 : r.b.length ≤ p.cb) :
    ∃ q, Ending.returned (recV r p) = .returned (recV r q) ∧ Held W r q w.heap.size W.heap.size ∧ r.l.length ≤ q.ca ∧ r.b.length ≤ q.cb ∧ w.grownBy W (some b) :=
  ⟨p, rfl, ⟨(h.keep (fun k h1 h2 h3 => t.block k (by omega))).wide (by omega) (by rw [t.size]; exact Nat.le_refl _), (h'.keep (fun k h1 h2 h3 => t.block k (by omega))).wide (by omega) (by rw [t.size]; exact Nat.le_refl _)⟩, h8, h9,
    ⟨t.os.trans hg.os, t.tape.trans hg.tape, t.output.trans hg.output, by rw [t.size]; exact hg.size, fun k hk hne => (t.block k (by omega)).trans (hg.block k hk hne)⟩⟩
/-- The record that is read from place a on. -/
def rR (s : ByteArray) (a : Int) : R :=
  ⟨(rT s a).1, (rI s (rT s a).2).1, (rT s (rI s (rT s a).2).2).1, (rN s (rT s (rI s (rT s a).2).2).2).1 == 1,
    (rDs s (many (rN s (rN s (rT s (rI s (rT s a).2).2).2).2).1 6) (rN s (rN s (rT s (rI s (rT s a).2).2).2).2).2).1,
    (rKs s (many (rN s (rDs s (many (rN s (rN s (rT s (rI s (rT s a).2).2).2).2).1 6) (rN s (rN s (rT s (rI s (rT s a).2).2).2).2).2).2).1 4) (rN s (rDs s (many (rN s (rN s (rT s (rI s (rT s a).2).2).2).2).1 6) (rN s (rN s (rT s (rI s (rT s a).2).2).2).2).2).2).2).1⟩
theorem rT_place (s : ByteArray) (a : Int) : 0 ≤ (rT s a).2 ∧ (rT s a).2 ≤ 8000 := ⟨(gt_all s a).2.1, (gt_all s a).2.2.1⟩
theorem rN_place (s : ByteArray) (a : Int) : 0 ≤ (rN s a).2 ∧ (rN s a).2 ≤ 8000 := gn_place s a

set_option maxHeartbeats 8000000 in
theorem nextRec_any (b : Nat) (s : ByteArray) (a : Int) (w : World) (h : Rdr w b s a) (hs : s.size ≤ maxLen) (ha0 : -9223372036854775808 ≤ a) (ha1 : a ≤ 9223372036854775807) (hw : Gn.Handle w) (hb0 : 0 < b) :
    Calls Tryz.prog 15 #[.pointer (some ⟨b, 0, none⟩)] w fun e w' => ∃ p, e = .returned (recV (rR s a) p) ∧ Held w' (rR s a) p w.heap.size w'.heap.size ∧ (rR s a).l.length ≤ p.ca ∧ (rR s a).b.length ≤ p.cb ∧ w.grownBy w' (some b) := by
  have hl := h.lt
  have hrb : w.heap.size ≠ b := by omega
  have HX0 := Lib.hid (show Rdr (w.alloc (.cells #[.string ⟨#[]⟩, .int .i64 0, .int .i64 0, .int .i64 0, .string ⟨#[]⟩, .bool false, .slice none 0 0, .slice none 0 0] 27)) b s a from h.alloc _)
  have HW0 := Lib.hid (hw.alloc (.cells #[.string ⟨#[]⟩, .int .i64 0, .int .i64 0, .int .i64 0, .string ⟨#[]⟩, .bool false, .slice none 0 0, .slice none 0 0] 27))
  have HC0 := Lib.hid (Blk.new w 27 #[.string ⟨#[]⟩, .int .i64 0, .int .i64 0, .int .i64 0, .string ⟨#[]⟩, .bool false, .slice none 0 0, .slice none 0 0])
  clear h hw
  unfold rR
  have q1 := rT_place s a
  obtain ⟨⟨k, p1⟩, e1⟩ : ∃ x, rT s a = x := ⟨_, rfl⟩
  have C1 := Lib.hid (fun W hX hW => nextText_any b s a W hX hs (by omega) (by omega) hW)
  rw [e1] at C1
  rw [e1] at q1 ⊢
  dsimp only at q1 ⊢ C1
  have q2 := rI_place s p1
  obtain ⟨⟨i, p2⟩, e2⟩ : ∃ x, rI s p1 = x := ⟨_, rfl⟩
  have C2 := Lib.hid (fun W hX hW => nextId_any b s p1 W hX hs (by omega) (by omega) hW hb0)
  rw [e2] at C2
  rw [e2] at q2 ⊢
  dsimp only at q2 ⊢ C2
  have q3 := rT_place s p2
  obtain ⟨⟨d, p3⟩, e3⟩ : ∃ x, rT s p2 = x := ⟨_, rfl⟩
  have C3 := Lib.hid (fun W hX hW => nextText_any b s p2 W hX hs (by omega) (by omega) hW)
  rw [e3] at C3
  rw [e3] at q3 ⊢
  dsimp only at q3 ⊢ C3
  have q4 := rN_place s p3
  obtain ⟨⟨n, p4⟩, e4⟩ : ∃ x, rN s p3 = x := ⟨_, rfl⟩
  have C4 := Lib.hid (fun W hX hW => nextNum_any b s p3 W hX hs (by omega) (by omega) hW)
  rw [e4] at C4
  rw [e4] at q4 ⊢
  dsimp only at q4 ⊢ C4
  have q5 := (rDs_place s (rN s p4).2 (rN_place s p4) (many (rN s p4).1 6)).2
  have C5 := Lib.hid (fun W hX hW => nextDeps_any b s p4 W hX hs (by omega) (by omega) hW hb0)
  have n5 := (rDs_place s (rN s p4).2 (rN_place s p4) (many (rN s p4).1 6)).1
  generalize many (rN s p4).1 6 = m5 at q5 C5 n5 ⊢
  obtain ⟨⟨l, p5⟩, e5⟩ : ∃ x, rDs s m5 (rN s p4).2 = x := ⟨_, rfl⟩
  rw [e5] at q5 C5 n5 ⊢
  dsimp only at q5 C5 n5 ⊢
  have C6 := Lib.hid (fun W hX hW => nextBundle_any b s p5 W hX hs (by omega) (by omega) hW hb0)
  have n6 := (rKs_place s (rN s p5).2 (rN_place s p5) (many (rN s p5).1 4)).1
  generalize many (rN s p5).1 4 = m6 at C6 n6 ⊢
  obtain ⟨⟨bl, p6⟩, e6⟩ : ∃ x, rKs s m6 (rN s p5).2 = x := ⟨_, rfl⟩
  rw [e6] at C6 n6 ⊢
  dsimp only at C6 n6 ⊢
  clear e1 e2 e3 e4 e5 e6
  go_enter Tryz.func15, Tryz.ntmps15
  go_wp2_with fail
  refine (C1.out _ HX0.out HW0.out).mono ?_
  rintro e w1 ⟨rfl, hr, hg⟩
  have HX1 := Lib.hid hr
  have HC1 := Lib.hid (blk_grown hg HC0.out hrb)
  have HG1 := Lib.hid (hg)
  have HW1 := Lib.hid (handle_grown HW0.out hg hb0)
  clear hr hg
  go_wp2_with fail
  refine (C2.out _ HX1.out HW1.out).mono ?_
  rintro e w2 ⟨rfl, hr, hg⟩
  have HX2 := Lib.hid hr
  have HC2 := Lib.hid (blk_grown hg HC1.out hrb)
  have HG2 := Lib.hid (Src.grown_trans HG1.out hg)
  have HW2 := Lib.hid (handle_grown HW1.out hg hb0)
  clear hr hg
  go_wp2_with fail
  refine (C3.out _ HX2.out HW2.out).mono ?_
  rintro e w3 ⟨rfl, hr, hg⟩
  have HX3 := Lib.hid hr
  have HC3 := Lib.hid (blk_grown hg HC2.out hrb)
  have HG3 := Lib.hid (Src.grown_trans HG2.out hg)
  have HW3 := Lib.hid (handle_grown HW2.out hg hb0)
  clear hr hg
  go_wp2_with fail
  refine (C4.out _ HX3.out HW3.out).mono ?_
  rintro e w4 ⟨rfl, hr, hg⟩
  have HX4 := Lib.hid hr
  have HC4 := Lib.hid (blk_grown hg HC3.out hrb)
  have HG4 := Lib.hid (Src.grown_trans HG3.out hg)
  have HW4 := Lib.hid (handle_grown HW3.out hg hb0)
  clear hr hg
  go_wp2_with fail
  refine (C5.out _ HX4.out HW4.out).mono ?_
  rintro e w5 ⟨v5, rfl, ho, hr, hg⟩
  have HO5 := Lib.hid ho
  have HX5 := Lib.hid hr
  have HC5 := Lib.hid (blk_grown hg HC4.out hrb)
  have HG5 := Lib.hid (Src.grown_trans HG4.out hg)
  have HW5 := Lib.hid (handle_grown HW4.out hg hb0)
  clear hr hg ho
  go_wp2_with fail
  refine (C6.out _ HX5.out HW5.out).mono ?_
  rintro e w6 ⟨v6, rfl, ho, hr, hg⟩
  have HO6 := Lib.hid ho
  have HX6 := Lib.hid hr
  have HC6 := Lib.hid (blk_grown hg HC5.out hrb)
  have HG6 := Lib.hid (Src.grown_trans HG5.out hg)
  have HW6 := Lib.hid (handle_grown HW5.out hg hb0)
  have HO5 := Lib.hid (own_grown HO5.out hg (by have := HG4.out.size; simp at this; omega))
  clear hr hg ho
  subst n5 n6
  obtain ⟨_, A5, c5, ev5, hq5, _⟩ := Dep.own_lies HO5.out
  obtain ⟨_, A6, c6, ev6, hq6, _⟩ := Str.own_lies HO6.out
  subst ev5 ev6
  have hcf := HC6.out.free
  have hcl := HC6.out.lt
  have hc0 : w6.cell? ⟨w.heap.size, 0, none⟩ = some (.string ⟨#[]⟩) := HC6.out.cell 0
  have hc1 : w6.cell? ⟨w.heap.size, 1, none⟩ = some (.int .i64 0) := HC6.out.cell 1
  have hc2 : w6.cell? ⟨w.heap.size, 2, none⟩ = some (.int .i64 0) := HC6.out.cell 2
  have hc3 : w6.cell? ⟨w.heap.size, 3, none⟩ = some (.int .i64 0) := HC6.out.cell 3
  have hc4 : w6.cell? ⟨w.heap.size, 4, none⟩ = some (.string ⟨#[]⟩) := HC6.out.cell 4
  have hc5 : w6.cell? ⟨w.heap.size, 5, none⟩ = some (.bool false) := HC6.out.cell 5
  have hc6 : w6.cell? ⟨w.heap.size, 6, none⟩ = some (.slice none 0 0) := HC6.out.cell 6
  have hc7 : w6.cell? ⟨w.heap.size, 7, none⟩ = some (.slice none 0 0) := HC6.out.cell 7
  have hz4 : w.heap.size < w4.heap.size := by have := HG4.out.size; simp at this; omega
  have hz5 : w.heap.size < w5.heap.size := by have := HG5.out.size; simp at this; omega
  have HD5 := Lib.hid (Dep.Held.of_own HO5.out)
  have HS6 := Lib.hid (strHeld_of_own HO6.out)
  clear HO5 HO6
  unfold Dep.slV Str.slV
  go_wp2_with fail
  refine bodyPost_ret (v := recV ⟨k, i, d, n == 1, l, bl⟩ ⟨A5, c5, A6, c6⟩) (by simp [results, Tryz.results15, go_sem, hc0, hc1, hc2, hc3, hc4, hc5, hc6, hc7, hcl, recV]) rfl ?_
  exact end_rec (((((((((Touch.refl _ w6).set 0 _).set 1 _).set 2 _).set 3 _).set 4 _).set 5 _).set 6 _).set 7 _) (Nat.le_refl _) hz4 hz5 HD5.out HS6.out (grown_of_alloc HG6.out) hq5 hq6
end Go.Proofs.YtkmlnibkdcdegaaGreatDoor.Rec
