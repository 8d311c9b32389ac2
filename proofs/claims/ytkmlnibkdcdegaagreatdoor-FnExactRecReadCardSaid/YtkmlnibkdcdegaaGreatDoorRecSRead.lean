/-
  A record's text read again: spec.RecRead.
-/
import Derived.Test.YtkmlnibkdcdegaaGreatDoorRecSOf
import Derived.Test.YtkmlnibkdcdegaaGreatDoorRecSNext
import Derived.Test.YtkmlnibkdcdegaaGreatDoorRecBytes
namespace Go.Proofs.YtkmlnibkdcdegaaGreatDoor.Rec
open Go.ChangeShapes Go.WideShapes Go.ChangeAt Go.RowKit
open Dep (D I)
set_option linter.unusedVariables false
set_option maxRecDepth 100000
set_option linter.unusedSimpArgs false

theorem RdrS.cell {W : World} {b : Nat} {s : ByteArray} {x : St} (h : RdrS W b s x) (j : Nat) : W.cell? ⟨b, j, none⟩ = #[Value.string s, .int .i64 x.a, .bool x.b][j]? := Blk.cell h j
theorem blk_not_dep {W : World} {b t : Nat} {cs : Array Value} {base n : Nat} {v : Value} {xs : List Value} (h : Blk W b t cs) (ht : t ≠ 44) (ho : W.ownsRow base 44 4 v n xs) : some b ≠ v.ownBlock := by
  rcases ho.2 with ⟨rfl, _⟩ | ⟨g, cap, cur, rfl, _, hg, _⟩
  · intro e; cases e
  · intro e
    cases e
    rw [show W.heap[g]? = _ from h] at hg
    injection hg with hg
    injection hg with _ h2
    exact ht h2
theorem dep_slice {w : World} {base n : Nat} {v : Value} {o : List D} (h : w.ownsRow base 44 4 v n (Dep.flat o)) : ∃ A m c, v = .slice A m c := by
  obtain ⟨_, A, c, e, _⟩ := Dep.own_lies h
  exact ⟨A, _, c, e⟩
theorem str_slice {w : World} {base n : Nat} {v : Value} {o : List ByteArray} (h : w.ownsRow base 9 1 v n (Str.flat o)) : ∃ A m c, v = .slice A m c := by
  obtain ⟨_, A, c, e, _⟩ := Str.own_lies h
  exact ⟨A, _, c, e⟩
theorem wanted_now {c : Prop} [Decidable c] {a b : Prop} (h : c) (ha : a) : if c then a else b := by rw [if_pos h]; exact ha
theorem own_keep {w W : World} {base n t m : Nat} {v : Value} {xs : List Value} (h : w.ownsRow base t m v n xs) (hk : ∀ g, base ≤ g → g < w.heap.size → W.heap[g]? = w.heap[g]?) : W.ownsRow base t m v n xs := by
  refine ⟨h.1, h.2.imp id ?_⟩
  rintro ⟨g, cap, cur, e, hb', hh, r⟩
  exact ⟨g, cap, cur, e, hb', (hk g hb' (Array.getElem?_eq_some_iff.1 hh).1).trans hh, r⟩

set_option maxHeartbeats 16000000 in
theorem specRead_any (s : ByteArray) (w : World) (hs : s.size ≤ maxLen) :
    Calls Tryz.prog 4 #[.string s] w (Reads w (rdR s) (rdC s)) := by
  have HU := Lib.hid (fun W => Seal.specUnseal_any s W hs)
  unfold Seal.unV at HU
  have hts : (Seal.unT s).size ≤ maxLen := by
    unfold Seal.unT; split
    · rw [Seal.bodyOf_size]; omega
    · exact Nat.zero_le _
  unfold maxLen at hs
  have HB0 := Lib.hid ((Below.refl w.heap.size w).alloc (Nat.le_refl _) (.cells #[.string ⟨#[]⟩, .int .i64 0, .int .i64 0, .int .i64 0, .string ⟨#[]⟩, .bool false, .slice none 0 0, .slice none 0 0, .int .i64 0] 29))
  have HC0 := Lib.hid (Blk.new w 29 #[.string ⟨#[]⟩, .int .i64 0, .int .i64 0, .int .i64 0, .string ⟨#[]⟩, .bool false, .slice none 0 0, .slice none 0 0, .int .i64 0])
  by_cases h8 : 8000 < s.size
  · have hc : Seal.unC s = 2 := by unfold Seal.unC; rw [if_pos h8]
    have hR : rdR s = zeroR := by unfold rdR; rw [hc]; rw [if_neg (fun e => by cases e.1)]
    have hC : rdC s = 2 := by unfold rdC; rw [hc]; rw [if_neg (by omega)]
    rw [hR, hC]
    clear hc hR hC HU
    go_enter Tryz.func4, Tryz.ntmps4
    go_wp2_with fail
    refine bodyPost_ret (v := outR zeroR ⟨none, 0, none, 0⟩ 2) (by simp [results, Tryz.results4, go_sem, outR, zeroR]) rfl ?_
    exact reads_zero ((Below.refl _ _).alloc (Nat.le_refl _) _)
  by_cases hc : Seal.unC s = 0
  · skip
    have hcase := read_is hc
    have HRD := Lib.hid hcase
    clear hcase
    rw [hc] at HU
    generalize rdR s = rr at *
    generalize rdC s = rc at *
    generalize Seal.unT s = t at *
    have o0 : (St.mk 0 false).ok := ⟨Int.le_refl _, by show (0 : Int) ≤ 8000; omega⟩
    have CT := Lib.hid (fun b x W h hx => sText_any b t x W h hts hx)
    have CI := Lib.hid (fun b x W h hx => sId_any b t x W h hts hx)
    unfold sRd at HRD
    have hks := sT_size t ⟨0, false⟩
    obtain ⟨⟨k, x1⟩, e1⟩ : ∃ q, sT t ⟨0, false⟩ = q := ⟨_, rfl⟩
    have o1 := (sT_fwd t o0).1
    have C1 := Lib.hid (fun b W h => sText_any b t ⟨0, false⟩ W h hts o0)
    rw [e1] at o1 C1 HRD
    dsimp only at o1 C1 HRD
    rw [e1] at hks
    dsimp only at hks
    obtain ⟨⟨i, x2⟩, e2⟩ : ∃ q, sI t x1 = q := ⟨_, rfl⟩
    have o2 := (sI_fwd t o1).1
    have C2 := Lib.hid (fun b W h => sId_any b t x1 W h hts o1)
    rw [e2] at o2 C2 HRD
    dsimp only at o2 C2 HRD
    have hdz := sT_size t x2
    obtain ⟨⟨d, x3⟩, e3⟩ : ∃ q, sT t x2 = q := ⟨_, rfl⟩
    have o3 := (sT_fwd t o2).1
    have C3 := Lib.hid (fun b W h => sText_any b t x2 W h hts o2)
    rw [e3] at o3 C3 HRD
    dsimp only at o3 C3 HRD
    rw [e3] at hdz
    dsimp only at hdz
    obtain ⟨⟨g, x4⟩, e4⟩ : ∃ q, sN t x3 = q := ⟨_, rfl⟩
    have o4 := (sN_fwd t o3).1
    have C4 := Lib.hid (fun b W h => sNum_any b t x3 W h hts o3)
    rw [e4] at o4 C4 HRD
    dsimp only at o4 C4 HRD
    have hnr := sN_range t x4
    obtain ⟨⟨n, x5⟩, e5⟩ : ∃ q, sN t x4 = q := ⟨_, rfl⟩
    have o5 := (sN_fwd t o4).1
    have C5 := Lib.hid (fun b W h => sNum_any b t x4 W h hts o4)
    rw [e5] at o5 C5 HRD
    dsimp only at o5 C5 HRD
    rw [e5] at hnr
    dsimp only at hnr
    obtain ⟨⟨l, x6⟩, e6⟩ : ∃ q, sDs t n.toNat x5 = q := ⟨_, rfl⟩
    have L6 := sDs_len t n.toNat x5 o5
    rw [e6] at L6 HRD
    dsimp only at L6 HRD
    obtain ⟨o6, l6, -, d6⟩ := L6
    have hll : l.length ≤ 8001 := by have := o5.1; omega
    have hmr := sN_range t x6
    obtain ⟨⟨m, x7⟩, e7⟩ : ∃ q, sN t x6 = q := ⟨_, rfl⟩
    have o7 := (sN_fwd t o6).1
    have C7 := Lib.hid (fun b W h => sNum_any b t x6 W h hts o6)
    rw [e7] at o7 C7 HRD
    dsimp only at o7 C7 HRD
    rw [e7] at hmr
    dsimp only at hmr
    obtain ⟨⟨bl, x8⟩, e8⟩ : ∃ q, sKs t m.toNat x7 = q := ⟨_, rfl⟩
    have L8 := sKs_len t m.toNat x7 o7
    rw [e8] at L8 HRD
    dsimp only at L8 HRD
    obtain ⟨o8, l8, -, d8⟩ := L8
    have hbl : bl.length ≤ 8001 := by have := o7.1; omega
    have e8000 : 8000 ≤ maxLen := by unfold maxLen; omega
    have e8001 : 8001 ≤ maxLen := by unfold maxLen; omega
    have HSR : Sound ⟨k, i, d, g == 1, l, bl⟩ := ⟨Nat.le_trans hks e8000, Nat.le_trans hdz e8000, Nat.le_trans hll e8001, fun q hq => Nat.le_trans (d6 q hq) e8000, Nat.le_trans hbl e8001, fun q hq => Nat.le_trans (d8 q hq) e8000⟩
    have HBY := Lib.hid (fun p W h => specBytes_any ⟨k, i, d, g == 1, l, bl⟩ p W h HSR)
    have HE6 := Lib.hid e6
    have HE8 := Lib.hid e8
    have HLL := Lib.hid hll
    have HLB := Lib.hid hbl
    clear e1 e2 e3 e4 e5 e6 e7 e8 HSR d6 d8 l6 l8 hll hbl e8000 e8001 hks hdz hc hts
    go_enter Tryz.func4, Tryz.ntmps4
    go_wp2_with fail
    refine (HU.out _).mono ?_
    rintro e w1 ⟨rfl, hb⟩
    have HB1 := Lib.hid (HB0.out.trans (hb.mono HB0.out.size))
    have HC1 := Lib.hid (HC0.out.on hb)
    have hz1 : w.heap.size < w1.heap.size := HC1.out.lt
    clear hb
    have HXa := Lib.hid (Blk.new (w1.alloc (.cells #[.string t, .int .i64 0, .int .i64 0] 35)) 39 #[.string t, .int .i64 0, .bool false])
    have HBa := Lib.hid ((HB1.out.alloc HB1.out.size (.cells #[.string t, .int .i64 0, .int .i64 0] 35)).alloc (by have := HB1.out.size; simp; omega) (.cells #[.string t, .int .i64 0, .bool false] 39))
    have HCa := Lib.hid ((HC1.out.alloc (.cells #[.string t, .int .i64 0, .int .i64 0] 35)).alloc (.cells #[.string t, .int .i64 0, .bool false] 39))
    rw [show (w1.alloc (.cells #[.string t, .int .i64 0, .int .i64 0] 35)).heap.size = w1.heap.size + 1 by simp] at HXa
    have hxal := HXa.out.lt
    go_wp2_with fail
    refine (C1.out (w1.heap.size + 1) _ HXa.out).mono ?_
    rintro e w2 ⟨rfl, hr, hg⟩
    have hz2 : w1.heap.size + 2 ≤ w2.heap.size := by have := hg.size; simp at this; omega
    have HX2 := Lib.hid (RdrS.alloc hr (.cells #[.string k, .int .i64 0, .int .i64 0, .int .i64 0, .string ⟨#[]⟩, .bool false, .slice none 0 0, .slice none 0 0] 27))
    have HB2 := Lib.hid ((HBa.out.trans (Src.below_of_grown hg (by omega) hxal)).alloc (by omega) (.cells #[.string k, .int .i64 0, .int .i64 0, .int .i64 0, .string ⟨#[]⟩, .bool false, .slice none 0 0, .slice none 0 0] 27))
    have HC2 := Lib.hid ((blk_grown hg HCa.out (by omega)).alloc (.cells #[.string k, .int .i64 0, .int .i64 0, .int .i64 0, .string ⟨#[]⟩, .bool false, .slice none 0 0, .slice none 0 0] 27))
    have HXC2 := Lib.hid (Blk.new w2 27 #[.string k, .int .i64 0, .int .i64 0, .int .i64 0, .string ⟨#[]⟩, .bool false, .slice none 0 0, .slice none 0 0])
    clear hr hg HXa HBa HCa HB0 HC0 HB1 HC1 hxal C1
    go_wp2_with fail
    refine (C2.out (w1.heap.size + 1) _ HX2.out).mono ?_
    rintro e w3 ⟨rfl, hr, hg⟩
    have hz3 : w2.heap.size + 1 ≤ w3.heap.size := by have := hg.size; simpa using this
    have HX3 := Lib.hid hr
    have HB3 := Lib.hid (HB2.out.trans (Src.below_of_grown hg (by omega) (by simp; omega)))
    have HC3 := Lib.hid (blk_grown hg HC2.out (by omega))
    have HXC3 := Lib.hid (blk_grown hg HXC2.out (by omega))
    clear hr hg HX2 HB2 HC2 HXC2 C2
    have y0 := HXC3.out.cell 0
    have y1 := HXC3.out.cell 1
    have y2 := HXC3.out.cell 2
    have y3 := HXC3.out.cell 3
    have y4 := HXC3.out.cell 4
    have y5 := HXC3.out.cell 5
    have y6 := HXC3.out.cell 6
    have y7 := HXC3.out.cell 7
    have yf := HXC3.out.free
    have yl := HXC3.out.lt
    have HX3s := Lib.hid (show RdrS (((w3.setCell ⟨w2.heap.size, 1, none⟩ (.int .i64 i.c)).setCell ⟨w2.heap.size, 2, none⟩ (.int .i64 i.s)).setCell ⟨w2.heap.size, 3, none⟩ (.int .i64 i.e)) (w1.heap.size + 1) t x2 from (((HX3.out.other (p := ⟨w2.heap.size, 1, none⟩) (by simp; omega) _).other (p := ⟨w2.heap.size, 2, none⟩) (by simp; omega) _).other (p := ⟨w2.heap.size, 3, none⟩) (by simp; omega) _))
    have HC3s := Lib.hid (show Blk (((w3.setCell ⟨w2.heap.size, 1, none⟩ (.int .i64 i.c)).setCell ⟨w2.heap.size, 2, none⟩ (.int .i64 i.s)).setCell ⟨w2.heap.size, 3, none⟩ (.int .i64 i.e)) w.heap.size 29 #[.string ⟨#[]⟩, .int .i64 0, .int .i64 0, .int .i64 0, .string ⟨#[]⟩, .bool false, .slice none 0 0, .slice none 0 0, .int .i64 0] from (((HC3.out.other (p := ⟨w2.heap.size, 1, none⟩) (by simp; omega) _).other (p := ⟨w2.heap.size, 2, none⟩) (by simp; omega) _).other (p := ⟨w2.heap.size, 3, none⟩) (by simp; omega) _))
    have HB3s := Lib.hid (show Below w.heap.size w (((w3.setCell ⟨w2.heap.size, 1, none⟩ (.int .i64 i.c)).setCell ⟨w2.heap.size, 2, none⟩ (.int .i64 i.s)).setCell ⟨w2.heap.size, 3, none⟩ (.int .i64 i.e)) from (((HB3.out.setCell (p := ⟨w2.heap.size, 1, none⟩) (show w.heap.size ≤ w2.heap.size by omega) _).setCell (p := ⟨w2.heap.size, 2, none⟩) (show w.heap.size ≤ w2.heap.size by omega) _).setCell (p := ⟨w2.heap.size, 3, none⟩) (show w.heap.size ≤ w2.heap.size by omega) _))
    have HXC3s := Lib.hid (show Blk (((w3.setCell ⟨w2.heap.size, 1, none⟩ (.int .i64 i.c)).setCell ⟨w2.heap.size, 2, none⟩ (.int .i64 i.s)).setCell ⟨w2.heap.size, 3, none⟩ (.int .i64 i.e)) w2.heap.size 27 #[.string k, .int .i64 i.c, .int .i64 i.s, .int .i64 i.e, .string ⟨#[]⟩, .bool false, .slice none 0 0, .slice none 0 0] from (((HXC3.out.set 1 _ rfl).set 2 _ rfl).set 3 _ rfl))
    go_wp2_with fail
    clear y0 y1 y2 y3 y4 y5 y6 y7 yf yl
    refine (C3.out (w1.heap.size + 1) _ HX3s.out).mono ?_
    rintro e w4 ⟨rfl, hr, hg⟩
    have hz4 : w2.heap.size + 1 ≤ w4.heap.size := by have := hg.size; simp only [World.size_setCell] at this; omega
    have HX4 := Lib.hid hr
    have HB4 := Lib.hid (HB3s.out.trans (Src.below_of_grown hg (by omega) (by simp only [World.size_setCell]; omega)))
    have HC4 := Lib.hid (blk_grown hg HC3s.out (by omega))
    have HXC4 := Lib.hid (blk_grown hg HXC3s.out (by omega))
    clear hr hg HX3 HB3 HC3 HXC3 HX3s HB3s HC3s HXC3s C3
    have y0 := HXC4.out.cell 0
    have y1 := HXC4.out.cell 1
    have y2 := HXC4.out.cell 2
    have y3 := HXC4.out.cell 3
    have y4 := HXC4.out.cell 4
    have y5 := HXC4.out.cell 5
    have y6 := HXC4.out.cell 6
    have y7 := HXC4.out.cell 7
    have yf := HXC4.out.free
    have yl := HXC4.out.lt
    have HX4s := Lib.hid (show RdrS (w4.setCell ⟨w2.heap.size, 4, none⟩ (.string d)) (w1.heap.size + 1) t x3 from (HX4.out.other (p := ⟨w2.heap.size, 4, none⟩) (by simp; omega) _))
    have HC4s := Lib.hid (show Blk (w4.setCell ⟨w2.heap.size, 4, none⟩ (.string d)) w.heap.size 29 #[.string ⟨#[]⟩, .int .i64 0, .int .i64 0, .int .i64 0, .string ⟨#[]⟩, .bool false, .slice none 0 0, .slice none 0 0, .int .i64 0] from (HC4.out.other (p := ⟨w2.heap.size, 4, none⟩) (by simp; omega) _))
    have HB4s := Lib.hid (show Below w.heap.size w (w4.setCell ⟨w2.heap.size, 4, none⟩ (.string d)) from (HB4.out.setCell (p := ⟨w2.heap.size, 4, none⟩) (show w.heap.size ≤ w2.heap.size by omega) _))
    have HXC4s := Lib.hid (show Blk (w4.setCell ⟨w2.heap.size, 4, none⟩ (.string d)) w2.heap.size 27 #[.string k, .int .i64 i.c, .int .i64 i.s, .int .i64 i.e, .string d, .bool false, .slice none 0 0, .slice none 0 0] from (HXC4.out.set 4 _ rfl))
    go_wp2_with fail
    clear y0 y1 y2 y3 y4 y5 y6 y7 yf yl
    refine (C4.out (w1.heap.size + 1) _ HX4s.out).mono ?_
    rintro e w5 ⟨rfl, hr, hg⟩
    have hz5 : w2.heap.size + 1 ≤ w5.heap.size := by have := hg.size; simp only [World.size_setCell] at this; omega
    have HX5 := Lib.hid hr
    have HB5 := Lib.hid (HB4s.out.trans (Src.below_of_grown hg (by omega) (by simp only [World.size_setCell]; omega)))
    have HC5 := Lib.hid (blk_grown hg HC4s.out (by omega))
    have HXC5 := Lib.hid (blk_grown hg HXC4s.out (by omega))
    clear hr hg HX4 HB4 HC4 HXC4 HX4s HB4s HC4s HXC4s C4
    have y0 := HXC5.out.cell 0
    have y1 := HXC5.out.cell 1
    have y2 := HXC5.out.cell 2
    have y3 := HXC5.out.cell 3
    have y4 := HXC5.out.cell 4
    have y5 := HXC5.out.cell 5
    have y6 := HXC5.out.cell 6
    have y7 := HXC5.out.cell 7
    have yf := HXC5.out.free
    have yl := HXC5.out.lt
    have HX5s := Lib.hid (show RdrS (w5.setCell ⟨w2.heap.size, 5, none⟩ (.bool (g == 1))) (w1.heap.size + 1) t x4 from (HX5.out.other (p := ⟨w2.heap.size, 5, none⟩) (by simp; omega) _))
    have HC5s := Lib.hid (show Blk (w5.setCell ⟨w2.heap.size, 5, none⟩ (.bool (g == 1))) w.heap.size 29 #[.string ⟨#[]⟩, .int .i64 0, .int .i64 0, .int .i64 0, .string ⟨#[]⟩, .bool false, .slice none 0 0, .slice none 0 0, .int .i64 0] from (HC5.out.other (p := ⟨w2.heap.size, 5, none⟩) (by simp; omega) _))
    have HB5s := Lib.hid (show Below w.heap.size w (w5.setCell ⟨w2.heap.size, 5, none⟩ (.bool (g == 1))) from (HB5.out.setCell (p := ⟨w2.heap.size, 5, none⟩) (show w.heap.size ≤ w2.heap.size by omega) _))
    have HXC5s := Lib.hid (show Blk (w5.setCell ⟨w2.heap.size, 5, none⟩ (.bool (g == 1))) w2.heap.size 27 #[.string k, .int .i64 i.c, .int .i64 i.s, .int .i64 i.e, .string d, .bool (g == 1), .slice none 0 0, .slice none 0 0] from (HXC5.out.set 5 _ rfl))
    go_wp2_with fail
    clear y0 y1 y2 y3 y4 y5 y6 y7 yf yl
    refine (C5.out (w1.heap.size + 1) _ HX5s.out).mono ?_
    rintro e w6 ⟨rfl, hr, hg⟩
    have hz6 : w2.heap.size + 1 ≤ w6.heap.size := by have := hg.size; simp only [World.size_setCell] at this; omega
    have HX6 := Lib.hid hr
    have HB6 := Lib.hid (HB5s.out.trans (Src.below_of_grown hg (by omega) (by simp only [World.size_setCell]; omega)))
    have HC6 := Lib.hid (blk_grown hg HC5s.out (by omega))
    have HXC6 := Lib.hid (blk_grown hg HXC5s.out (by omega))
    clear hr hg HX5 HB5 HC5 HXC5 HX5s HB5s HC5s HXC5s C5
    go_wp2_with fail
    go_loopw [6] (fun n6 wr => ∃ (mm : Int) (y : St) (o : List D) (v : Value), n6 = .int .i64 mm ∧ -9223372036854775808 ≤ mm ∧ mm ≤ 9223372036854775807 ∧ Hid (sDs t n.toNat x5 = (o ++ (sDs t mm.toNat y).1, (sDs t mm.toNat y).2) ∧ y.ok ∧ RdrS wr (w1.heap.size + 1) t y ∧ Blk wr w2.heap.size 27 #[.string k, .int .i64 i.c, .int .i64 i.s, .int .i64 i.e, .string d, .bool (g == 1), v, .slice none 0 0] ∧ wr.ownsRow (w2.heap.size + 1) 44 4 v o.length (Dep.flat o) ∧ Blk wr w.heap.size 29 #[.string ⟨#[]⟩, .int .i64 0, .int .i64 0, .int .i64 0, .string ⟨#[]⟩, .bool false, .slice none 0 0, .slice none 0 0, .int .i64 0] ∧ Below w.heap.size w wr ∧ w2.heap.size + 1 ≤ wr.heap.size)) (fun n6 _ => (intOf n6).toNat)
    case atStart => exact ⟨n, x5, [], .slice none 0 0, rfl, hnr.1, hnr.2, Lib.hid ⟨rfl, o5, HX6.out, HXC6.out, Dep.own_nil _ _, HC6.out, HB6.out, hz6⟩⟩
    case round =>

      obtain ⟨mm, ⟨ya, yb⟩, o, v, rfl, hm0, hm1, HR⟩ := hrel
      have HOK := Lib.hid HR.out.2.1
      have z1r : wr.cell? ⟨w1.heap.size + 1, 2, none⟩ = some (.bool yb) := HR.out.2.2.1.cell 2
      by_cases hm : 0 < mm
      · cases yb with
        | false =>
          obtain ⟨kk, hkk⟩ : ∃ kk, mm.toNat = kk + 1 := ⟨mm.toNat - 1, by omega⟩
          have HKK : Hid ((mm - 1).toNat = kk) := Lib.hid (by omega)
          have HT : Hid (sDs t n.toNat x5 = ((o ++ [⟨(sT t ⟨ya, false⟩).1, (sI t (sT t ⟨ya, false⟩).2).1⟩]) ++ (sDs t kk (sI t (sT t ⟨ya, false⟩).2).2).1, (sDs t kk (sI t (sT t ⟨ya, false⟩).2).2).2)) := Lib.hid (by have := HR.out.1; rw [hkk, sDs, if_neg (by simp)] at this; rw [this]; simp)
          have HLN : Hid (o.length ≤ 8001) := Lib.hid (by
            have h1 := congrArg (fun q => q.1.length) (HE6.out.symm.trans HR.out.1)
            simp only [List.length_append] at h1
            have := HLL.out
            omega)
          have HX := Lib.hid HR.out.2.2.1
          have HXC := Lib.hid HR.out.2.2.2.1
          have HO := Lib.hid HR.out.2.2.2.2.1
          have HC := Lib.hid HR.out.2.2.2.2.2.1
          have HB := Lib.hid HR.out.2.2.2.2.2.2.1
          have hzb := HR.out.2.2.2.2.2.2.2
          clear hkk HR
          go_wp2_with fail
          refine (CT.out (w1.heap.size + 1) ⟨ya, false⟩ _ HX.out HOK.out).mono ?_
          rintro e w7 ⟨rfl, hr, hg⟩
          have HX := Lib.hid (RdrS.alloc hr (.cells #[.string (sT t ⟨ya, false⟩).1, .int .i64 0, .int .i64 0, .int .i64 0] 44))
          have HXC := Lib.hid ((blk_grown hg HXC.out (by omega)).alloc (.cells #[.string (sT t ⟨ya, false⟩).1, .int .i64 0, .int .i64 0, .int .i64 0] 44))
          have HC := Lib.hid ((blk_grown hg HC.out (by omega)).alloc (.cells #[.string (sT t ⟨ya, false⟩).1, .int .i64 0, .int .i64 0, .int .i64 0] 44))
          have HB := Lib.hid ((HB.out.trans (Src.below_of_grown hg (by omega) (by omega))).alloc (by have := hg.size; omega) (.cells #[.string (sT t ⟨ya, false⟩).1, .int .i64 0, .int .i64 0, .int .i64 0] 44))
          have HKP : Hid (∀ q, w2.heap.size < q → q < wr.heap.size → (w7.alloc (.cells #[.string (sT t ⟨ya, false⟩).1, .int .i64 0, .int .i64 0, .int .i64 0] 44)).heap[q]? = wr.heap[q]?) := Lib.hid fun q h1 h2 => (heap_alloc_old w7 _ (by have := hg.size; omega)).trans (hg.block q h2 (by simp; omega))
          have HDB := Lib.hid (Blk.new w7 44 #[.string (sT t ⟨ya, false⟩).1, .int .i64 0, .int .i64 0, .int .i64 0])
          have hz7 : wr.heap.size ≤ w7.heap.size := hg.size
          clear hr hg
          have HOK := Lib.hid (sT_fwd t HOK.out).1
          generalize (sT t ⟨ya, false⟩).1 = ky at *
          generalize (sT t ⟨ya, false⟩).2 = z1 at *
          go_wp2_with fail
          refine (CI.out (w1.heap.size + 1) z1 _ HX.out HOK.out).mono ?_
          rintro e w8 ⟨rfl, hr, hg⟩
          have HX := Lib.hid hr
          have HXC := Lib.hid (blk_grown hg HXC.out (by omega))
          have HC := Lib.hid (blk_grown hg HC.out (by omega))
          have HB := Lib.hid (HB.out.trans (Src.below_of_grown hg (by omega) (by simp; omega)))
          have HKP : Hid (∀ q, w2.heap.size < q → q < wr.heap.size → w8.heap[q]? = wr.heap[q]?) := Lib.hid fun q h1 h2 => (hg.block q (by simp; omega) (by simp; omega)).trans (HKP.out q h1 h2)
          have HDB := Lib.hid (blk_grown hg HDB.out (by omega))
          have hz8 : w7.heap.size + 1 ≤ w8.heap.size := by have := hg.size; simpa using this
          clear hr hg
          have HOK := Lib.hid (sI_fwd t HOK.out).1
          generalize (sI t z1).1 = iy at *
          generalize (sI t z1).2 = z2 at *
          have hnb : w2.heap.size ≠ w7.heap.size := by omega
          have hnb2 : w7.heap.size ≠ w2.heap.size := by omega
          have HXs := Lib.hid (show RdrS (((w8.setCell ⟨w7.heap.size, 1, none⟩ (.int .i64 iy.c)).setCell ⟨w7.heap.size, 2, none⟩ (.int .i64 iy.s)).setCell ⟨w7.heap.size, 3, none⟩ (.int .i64 iy.e)) (w1.heap.size + 1) t z2 from (((HX.out.other (p := ⟨w7.heap.size, 1, none⟩) (by simp; omega) _).other (p := ⟨w7.heap.size, 2, none⟩) (by simp; omega) _).other (p := ⟨w7.heap.size, 3, none⟩) (by simp; omega) _))
          have HXCs := Lib.hid (show Blk (((w8.setCell ⟨w7.heap.size, 1, none⟩ (.int .i64 iy.c)).setCell ⟨w7.heap.size, 2, none⟩ (.int .i64 iy.s)).setCell ⟨w7.heap.size, 3, none⟩ (.int .i64 iy.e)) w2.heap.size 27 #[.string k, .int .i64 i.c, .int .i64 i.s, .int .i64 i.e, .string d, .bool (g == 1), v, .slice none 0 0] from (((HXC.out.other (p := ⟨w7.heap.size, 1, none⟩) (by simp; omega) _).other (p := ⟨w7.heap.size, 2, none⟩) (by simp; omega) _).other (p := ⟨w7.heap.size, 3, none⟩) (by simp; omega) _))
          have HCs := Lib.hid (show Blk (((w8.setCell ⟨w7.heap.size, 1, none⟩ (.int .i64 iy.c)).setCell ⟨w7.heap.size, 2, none⟩ (.int .i64 iy.s)).setCell ⟨w7.heap.size, 3, none⟩ (.int .i64 iy.e)) w.heap.size 29 #[.string ⟨#[]⟩, .int .i64 0, .int .i64 0, .int .i64 0, .string ⟨#[]⟩, .bool false, .slice none 0 0, .slice none 0 0, .int .i64 0] from (((HC.out.other (p := ⟨w7.heap.size, 1, none⟩) (by simp; omega) _).other (p := ⟨w7.heap.size, 2, none⟩) (by simp; omega) _).other (p := ⟨w7.heap.size, 3, none⟩) (by simp; omega) _))
          have HBs := Lib.hid (show Below w.heap.size w (((w8.setCell ⟨w7.heap.size, 1, none⟩ (.int .i64 iy.c)).setCell ⟨w7.heap.size, 2, none⟩ (.int .i64 iy.s)).setCell ⟨w7.heap.size, 3, none⟩ (.int .i64 iy.e)) from ((HB.out.setCell (p := ⟨w7.heap.size, 1, none⟩) (show w.heap.size ≤ w7.heap.size by omega) _).setCell (p := ⟨w7.heap.size, 2, none⟩) (show w.heap.size ≤ w7.heap.size by omega) _).setCell (p := ⟨w7.heap.size, 3, none⟩) (show w.heap.size ≤ w7.heap.size by omega) _)
          have HOs := Lib.hid (show ((((w8.setCell ⟨w7.heap.size, 1, none⟩ (.int .i64 iy.c)).setCell ⟨w7.heap.size, 2, none⟩ (.int .i64 iy.s)).setCell ⟨w7.heap.size, 3, none⟩ (.int .i64 iy.e))).ownsRow (w2.heap.size + 1) 44 4 v o.length (Dep.flat o) from own_keep HO.out fun q h1 h2 => (heap_setCell_other _ ⟨w7.heap.size, 3, none⟩ q _ (by simp; omega)).trans ((heap_setCell_other _ ⟨w7.heap.size, 2, none⟩ q _ (by simp; omega)).trans ((heap_setCell_other _ ⟨w7.heap.size, 1, none⟩ q _ (by simp; omega)).trans (HKP.out q (by omega) h2))))
          have hzs : w2.heap.size + 1 ≤ ((((w8.setCell ⟨w7.heap.size, 1, none⟩ (.int .i64 iy.c)).setCell ⟨w7.heap.size, 2, none⟩ (.int .i64 iy.s)).setCell ⟨w7.heap.size, 3, none⟩ (.int .i64 iy.e))).heap.size := by rw [World.size_setCell, World.size_setCell, World.size_setCell]; omega
          have y0 := HDB.out.cell 0
          have y1 := HDB.out.cell 1
          have y2 := HDB.out.cell 2
          have y3 := HDB.out.cell 3
          have yf := HDB.out.free
          have x6c := HXC.out.cell 6
          have xf := HXC.out.free
          have xl := HXC.out.lt
          have HZS := Lib.hid hzs
          have hol := Dep.one_lies (((w8.setCell ⟨w7.heap.size, 1, none⟩ (.int .i64 iy.c)).setCell ⟨w7.heap.size, 2, none⟩ (.int .i64 iy.s)).setCell ⟨w7.heap.size, 3, none⟩ (.int .i64 iy.e)) ⟨ky, iy⟩
          rw [show ((((w8.setCell ⟨w7.heap.size, 1, none⟩ (.int .i64 iy.c)).setCell ⟨w7.heap.size, 2, none⟩ (.int .i64 iy.s)).setCell ⟨w7.heap.size, 3, none⟩ (.int .i64 iy.e))).heap.size = w8.heap.size by rw [World.size_setCell, World.size_setCell, World.size_setCell]] at hol
          have HOL := Lib.hid hol
          clear hzs HKP hol
          go_wp2_with (at_builtin; refine Dep.wpList_append_deps rfl rfl rfl [⟨ky, iy⟩] rfl rfl rfl (Dep.own_alloc HOs.out (Dep.D.obj ⟨ky, iy⟩)) HOL.out (by have := HLN.out; simp; omega) (by have := HZS.out; rw [World.size_alloc]; omega) ?_; intro v3' W2 ho2 hg2; obtain ⟨A3, m3, c3, ev3⟩ := dep_slice ho2; subst ev3; have HX2 := Lib.hid ((hg2.block _ (HXs.out.alloc (Dep.D.obj ⟨ky, iy⟩)).lt (blk_not_dep (HXs.out.alloc (Dep.D.obj ⟨ky, iy⟩)) (by decide) (Dep.own_alloc HOs.out (Dep.D.obj ⟨ky, iy⟩)))).trans (HXs.out.alloc (Dep.D.obj ⟨ky, iy⟩))); have HXC2 := Lib.hid ((hg2.block _ (HXCs.out.alloc (Dep.D.obj ⟨ky, iy⟩)).lt (blk_not_dep (HXCs.out.alloc (Dep.D.obj ⟨ky, iy⟩)) (by decide) (Dep.own_alloc HOs.out (Dep.D.obj ⟨ky, iy⟩)))).trans (HXCs.out.alloc (Dep.D.obj ⟨ky, iy⟩))); have HC2 := Lib.hid ((hg2.block _ (HCs.out.alloc (Dep.D.obj ⟨ky, iy⟩)).lt (blk_not_dep (HCs.out.alloc (Dep.D.obj ⟨ky, iy⟩)) (by decide) (Dep.own_alloc HOs.out (Dep.D.obj ⟨ky, iy⟩)))).trans (HCs.out.alloc (Dep.D.obj ⟨ky, iy⟩))); have HB2' := Lib.hid ((HBs.out.alloc HBs.out.size (Dep.D.obj ⟨ky, iy⟩)).grown hg2 (HBs.out.alloc HBs.out.size (Dep.D.obj ⟨ky, iy⟩)).size (fun j e => by have := Dep.ownBlock_base HOs.out j e; omega)); have hz2' := Lib.hid (show w2.heap.size + 1 ≤ W2.heap.size from Nat.le_trans HZS.out (Nat.le_trans (by rw [World.size_alloc]; omega) hg2.size)); have HO2 := Lib.hid ho2; have x6d := (show Blk W2 _ _ _ from HXC2.out).cell 6; have xf2 := (show Blk W2 _ _ _ from HXC2.out).free; have xl2 := (show Blk W2 _ _ _ from HXC2.out).lt; clear ho2 hg2 y0 y1 y2 y3 yf x6c xf xl z1r)
          go_roundw
          case rel => exact ⟨mm - 1, z2, o ++ [⟨ky, iy⟩], .slice A3 m3 c3, by go_num, by omega, by omega, Lib.hid ⟨by rw [HKK.out]; exact HT.out, HOK.out, Blk.other HX2.out (p := ⟨w2.heap.size, 6, none⟩) (by simp; omega) _, Blk.set HXC2.out 6 _ rfl, by have := own_other (i := 6) (u := .slice A3 m3 c3) HO2.out (show w2.heap.size < w2.heap.size + 1 by omega); simpa using this, Blk.other HC2.out (p := ⟨w2.heap.size, 6, none⟩) (by simp; omega) _, HB2'.out.setCell (p := ⟨w2.heap.size, 6, none⟩) (show w.heap.size ≤ w2.heap.size by omega) _, by rw [World.size_setCell]; exact hz2'.out⟩⟩
          case measure => simp [intOf]; omega
        | true =>
          have HE1 : Hid (sDs t n.toNat x5 = (o, ⟨ya, true⟩)) := Lib.hid (by have := HR.out.1; rw [sDs_bad t mm.toNat (x := ⟨ya, true⟩) rfl] at this; simpa using this)
          obtain ⟨hl6, hx6⟩ : l = o ∧ x6 = ⟨ya, true⟩ := by
            have := HE6.out.symm.trans HE1.out
            simpa using this
          subst hl6 hx6
          obtain ⟨_, A5, c5, ev5, hq5, _⟩ := Dep.own_lies HR.out.2.2.2.2.1
          subst ev5
          have HX := Lib.hid HR.out.2.2.1
          have HXC := Lib.hid (show Blk wr w2.heap.size 27 #[.string k, .int .i64 i.c, .int .i64 i.s, .int .i64 i.e, .string d, .bool (g == 1), .slice A5 l.length c5, .slice none 0 0] from HR.out.2.2.2.1)
          have HD := Lib.hid (Dep.Held.of_own HR.out.2.2.2.2.1)
          have HC := Lib.hid HR.out.2.2.2.2.2.1
          have HB := Lib.hid HR.out.2.2.2.2.2.2.1
          have hzb := HR.out.2.2.2.2.2.2.2
          clear HR HE1 HE6
          go_wp2_with fail
          refine (C7.out (w1.heap.size + 1) _ HX.out).mono ?_
          rintro e w9 ⟨rfl, hr, hg⟩
          have HX9 := Lib.hid hr
          have HXC9 := Lib.hid (blk_grown hg HXC.out (by omega))
          have HD9 := Lib.hid ((HD.out.keep fun k h1 h2 h3 => hg.block k h3 (by simp; omega)).wide (Nat.le_refl _) hg.size)
          have HC9 := Lib.hid (blk_grown hg HC.out (by omega))
          have HB9 := Lib.hid (HB.out.trans (Src.below_of_grown hg (by omega) (by omega)))
          have hz9c : w2.heap.size + 1 ≤ w9.heap.size := Nat.le_trans hzb hg.size
          clear hr hg HX HXC HD HC HB z1r
          go_wp2_with fail
          go_loopw [8] (fun n8 wr => ∃ (mm2 : Int) (y2 : St) (o2 : List ByteArray) (v2 : Value), n8 = .int .i64 mm2 ∧ -9223372036854775808 ≤ mm2 ∧ mm2 ≤ 9223372036854775807 ∧ Hid (sKs t m.toNat x7 = (o2 ++ (sKs t mm2.toNat y2).1, (sKs t mm2.toNat y2).2) ∧ y2.ok ∧ RdrS wr (w1.heap.size + 1) t y2 ∧ Blk wr w2.heap.size 27 #[.string k, .int .i64 i.c, .int .i64 i.s, .int .i64 i.e, .string d, .bool (g == 1), .slice A5 l.length c5, v2] ∧ wr.ownsRow w9.heap.size 9 1 v2 o2.length (Str.flat o2) ∧ Blk wr w.heap.size 29 #[.string ⟨#[]⟩, .int .i64 0, .int .i64 0, .int .i64 0, .string ⟨#[]⟩, .bool false, .slice none 0 0, .slice none 0 0, .int .i64 0] ∧ Below w.heap.size w wr ∧ Dep.Held wr A5 l (w2.heap.size + 1) w9.heap.size ∧ w9.heap.size ≤ wr.heap.size)) (fun n8 _ => (intOf n8).toNat)
          case atStart => exact ⟨m, x7, [], .slice none 0 0, rfl, hmr.1, hmr.2, Lib.hid ⟨rfl, o7, HX9.out, HXC9.out, Str.own_none _ _, HC9.out, HB9.out, HD9.out, Nat.le_refl _⟩⟩
          case round =>

            obtain ⟨mm2, ⟨ya2, yb2⟩, o2, v2, rfl, hn0, hn1, HR2⟩ := hrel
            have HOK2 := Lib.hid HR2.out.2.1
            have z2 : wr.cell? ⟨w1.heap.size + 1, 2, none⟩ = some (.bool yb2) := HR2.out.2.2.1.cell 2
            by_cases hm2 : 0 < mm2
            · cases yb2 with
              | false =>
                obtain ⟨kk2, hkk2⟩ : ∃ kk2, mm2.toNat = kk2 + 1 := ⟨mm2.toNat - 1, by omega⟩
                have HKK2 : Hid ((mm2 - 1).toNat = kk2) := Lib.hid (by omega)
                have HT2 : Hid (sKs t m.toNat x7 = ((o2 ++ [(sT t ⟨ya2, false⟩).1]) ++ (sKs t kk2 (sT t ⟨ya2, false⟩).2).1, (sKs t kk2 (sT t ⟨ya2, false⟩).2).2)) := Lib.hid (by have := HR2.out.1; rw [hkk2, sKs, if_neg (by simp)] at this; rw [this]; simp)
                have HOK3 := Lib.hid (sT_fwd t HOK2.out).1
                have HLN2 : Hid (o2.length ≤ 8001) := Lib.hid (by
                  have h1 := congrArg (fun q => q.1.length) (HE8.out.symm.trans HR2.out.1)
                  simp only [List.length_append] at h1
                  have := HLB.out
                  omega)
                clear hkk2
                go_upto_region 20 with fail
                have HX := Lib.hid (show RdrS wr.drew (w1.heap.size + 1) t ⟨ya2, false⟩ from HR2.out.2.2.1)
                have HXC := Lib.hid (show Blk wr.drew w2.heap.size 27 #[.string k, .int .i64 i.c, .int .i64 i.s, .int .i64 i.e, .string d, .bool (g == 1), .slice A5 l.length c5, v2] from HR2.out.2.2.2.1)
                have HO := Lib.hid (show wr.drew.ownsRow w9.heap.size 9 1 v2 o2.length (Str.flat o2) from HR2.out.2.2.2.2.1)
                have HC := Lib.hid (show Blk wr.drew w.heap.size 29 #[.string ⟨#[]⟩, .int .i64 0, .int .i64 0, .int .i64 0, .string ⟨#[]⟩, .bool false, .slice none 0 0, .slice none 0 0, .int .i64 0] from HR2.out.2.2.2.2.2.1)
                have HB := Lib.hid (show Below w.heap.size w wr.drew from HR2.out.2.2.2.2.2.2.1.drew)
                have HD := Lib.hid (show Dep.Held wr.drew A5 l (w2.heap.size + 1) w9.heap.size from HR2.out.2.2.2.2.2.2.2.1.keep fun _ _ _ _ => rfl)
                have hz9 : w9.heap.size ≤ wr.drew.heap.size := HR2.out.2.2.2.2.2.2.2.2
                refine wp_region_held_drew (S := fun W => True) (by kernel_rfl) ?_ (fun hHeld => ?_)
                · trivial
                generalize wr.drew = wd at HX HXC HO HC HB HD hz9 hHeld ⊢
                refine wpAnyH_take (i := 0) (v := ?_) rfl (by kernel_rfl) (by kernel_rfl) (by kernel_rfl) (fun _ _ _ h => h) (Or.inl ⟨by rfl, ?_⟩) hHeld ?_
                rotate_left
                · intro V hSw
                  go_simp
                  try with_reducible rfl
                try simp only [Act.put, List.setIfInBounds_toArray, List.set_cons_zero, List.set_cons_succ, List.getElem_toArray, List.getElem_cons_zero]
                refine wpAnyH_take (i := 2) (v := ?_) rfl (by kernel_rfl) (by kernel_rfl) (by kernel_rfl) (fun _ _ _ h => h) (Or.inl ⟨by rfl, ?_⟩) hHeld ?_
                rotate_left
                · intro V hSw
                  go_simp
                  try with_reducible rfl
                try simp only [Act.put, List.setIfInBounds_toArray, List.set_cons_zero, List.set_cons_succ, List.getElem_toArray, List.getElem_cons_succ, List.getElem_cons_zero]
                refine wpAnyH_ready (rs := [1, 3]) (by kernel_rfl) (by simp) ?_
                refine AllReadyH.cons rfl (fun K hK => ?_) (AllReadyH.cons rfl (fun K hK => ?_) AllReadyH.nil)
                · have y7 := HXC.out.cell 7
                  go_simp
                  refine hK.out _ _ ?_ (fun hHeld => ?_)
                  · trivial
                  clear hK K
                  try simp only [Act.put, List.setIfInBounds_toArray, List.set_cons_zero, List.set_cons_succ, List.getElem_toArray, List.getElem_cons_succ, List.getElem_cons_zero]
                  clear y7
                  refine wpAnyH_ready (rs := [3]) (by kernel_rfl) (by simp) ?_
                  refine AllReadyH.cons rfl (fun K hK => ?_) AllReadyH.nil
                  go_simp
                  refine (CT.out (w1.heap.size + 1) ⟨ya2, false⟩ _ HX.out HOK2.out).mono ?_
                  rintro e w10 ⟨rfl, hr, hg⟩
                  have HX := Lib.hid hr
                  have HXC := Lib.hid (blk_grown hg HXC.out (by omega))
                  have HO := Lib.hid (own_grown HO.out hg (by omega))
                  have HC := Lib.hid (blk_grown hg HC.out (by omega))
                  have HB := Lib.hid (HB.out.trans (Src.below_of_grown hg (by omega) (by omega)))
                  have HD := Lib.hid (HD.out.keep fun k h1 h2 h3 => hg.block k h3 (by simp; omega))
                  have hz9 : w9.heap.size ≤ w10.heap.size := Nat.le_trans hz9 hg.size
                  clear hr hg
                  generalize (sT t ⟨ya2, false⟩).2 = z1 at *
                  generalize (sT t ⟨ya2, false⟩).1 = ky at *
                  refine hK.out _ _ ?_ (fun hHeld => ?_)
                  · trivial
                  clear hK K
                  try simp only [Act.put, List.setIfInBounds_toArray, List.set_cons_zero, List.set_cons_succ, List.getElem_toArray, List.getElem_cons_succ, List.getElem_cons_zero]
                  refine wpAnyH_ready (rs := [4]) (by kernel_rfl) (by simp) ?_
                  refine AllReadyH.cons rfl (fun K hK => ?_) AllReadyH.nil
                  go_simp
                  have HX := Lib.hid (HX.out.alloc (.cells #[.string ky] 9))
                  have HXC := Lib.hid (HXC.out.alloc (.cells #[.string ky] 9))
                  have HO := Lib.hid (Str.own_alloc HO.out (.cells #[.string ky] 9))
                  have HC := Lib.hid (HC.out.alloc (.cells #[.string ky] 9))
                  have HB := Lib.hid (HB.out.alloc HB.out.size (.cells #[.string ky] 9))
                  have HD := Lib.hid (HD.out.step ((Below.refl _ w10).alloc (Nat.le_refl _) (.cells #[.string ky] 9)) (.inr (Nat.le_refl _)))
                  have HNL := Lib.hid (show Str.Lies (w10.alloc (.cells #[.string ky] 9)) (w10.alloc (.cells #[.string ky] 9)).heap.size (some ⟨w10.heap.size, 0, none⟩) [ky] from Str.new_lies w10 [ky])
                  have hz9 : w9.heap.size ≤ (w10.alloc (.cells #[.string ky] 9)).heap.size := by simp; omega
                  refine hK.out _ _ ?_ (fun hHeld => ?_)
                  · trivial
                  clear hK K
                  try simp only [Act.put, List.setIfInBounds_toArray, List.set_cons_zero, List.set_cons_succ, List.getElem_toArray, List.getElem_cons_succ, List.getElem_cons_zero]
                  generalize World.alloc w10 _ = w11 at HX HXC HO HC HB HD HNL hz9 hHeld ⊢
                  refine wpAnyH_ready (rs := [5]) (by kernel_rfl) (by simp) ?_
                  refine AllReadyH.cons rfl (fun K hK => ?_) AllReadyH.nil
                  refine wanted_now (by rfl) ?_
                  refine Str.wp_append_strs rfl rfl [ky] rfl rfl rfl HO.out HNL.out (by have := HLN2.out; simp; omega) hz9 ?_
                  intro v3' W2 ho2 hg2
                  obtain ⟨A3, m3, c3, ev3⟩ := str_slice ho2
                  subst ev3
                  have HX := Lib.hid (show RdrS W2 (w1.heap.size + 1) t z1 from (hg2.block _ HX.out.lt (Str.blk_not_row HX.out (by decide) HO.out)).trans HX.out)
                  have HXC := Lib.hid (show Blk W2 w2.heap.size 27 #[.string k, .int .i64 i.c, .int .i64 i.s, .int .i64 i.e, .string d, .bool (g == 1), .slice A5 l.length c5, v2] from (hg2.block _ HXC.out.lt (Str.blk_not_row HXC.out (by decide) HO.out)).trans HXC.out)
                  have HC := Lib.hid (show Blk W2 w.heap.size 29 #[.string ⟨#[]⟩, .int .i64 0, .int .i64 0, .int .i64 0, .string ⟨#[]⟩, .bool false, .slice none 0 0, .slice none 0 0, .int .i64 0] from (hg2.block _ HC.out.lt (Str.blk_not_row HC.out (by decide) HO.out)).trans HC.out)
                  have HB := Lib.hid (HB.out.grown hg2 HB.out.size (fun j e => by have := Str.ownBlock_base HO.out j e; omega))
                  have HD := Lib.hid (HD.out.keep fun k h1 h2 h3 => hg2.block k h3 (fun e => by have := Str.ownBlock_base HO.out k e.symm; omega))
                  have hz9 : w9.heap.size ≤ W2.heap.size := Nat.le_trans hz9 hg2.size
                  have HO := Lib.hid ho2
                  clear ho2 hg2
                  refine hK.out _ _ ?_ (fun hHeld => ?_)
                  · trivial
                  clear hK K
                  try simp only [Act.put, List.setIfInBounds_toArray, List.set_cons_zero, List.set_cons_succ, List.getElem_toArray, List.getElem_cons_succ, List.getElem_cons_zero]
                  refine wpAnyH_take (i := 6) (v := ?_) rfl (by kernel_rfl) (by kernel_rfl) (by kernel_rfl) (fun _ _ _ h => h) (Or.inl ⟨by rfl, ?_⟩) hHeld ?_
                  rotate_left
                  · intro V hSw
                    go_simp
                    try with_reducible rfl
                  try simp only [Act.put, List.setIfInBounds_toArray, List.set_cons_zero, List.set_cons_succ, List.getElem_toArray, List.getElem_cons_succ, List.getElem_cons_zero]
                  refine wpAnyH_ready (rs := [7]) (by kernel_rfl) (by simp) ?_
                  refine AllReadyH.cons rfl (fun K hK => ?_) AllReadyH.nil
                  have y0 := HXC.out.cell 0
                  have y7 := HXC.out.cell 7
                  have yf := HXC.out.free
                  go_simp
                  refine hK.out _ _ ?_ (fun hHeld => ?_)
                  · trivial
                  clear hK K
                  try simp only [Act.put, List.setIfInBounds_toArray, List.set_cons_zero, List.set_cons_succ, List.getElem_toArray, List.getElem_cons_succ, List.getElem_cons_zero]
                  have HX := Lib.hid (show RdrS (W2.setCell ⟨w2.heap.size, 7, none⟩ (.slice A3 m3 c3)) (w1.heap.size + 1) t z1 from Blk.other HX.out (p := ⟨w2.heap.size, 7, none⟩) (by simp; omega) (.slice A3 m3 c3))
                  have HXC := Lib.hid (show Blk (W2.setCell ⟨w2.heap.size, 7, none⟩ (.slice A3 m3 c3)) w2.heap.size 27 #[.string k, .int .i64 i.c, .int .i64 i.s, .int .i64 i.e, .string d, .bool (g == 1), .slice A5 l.length c5, .slice A3 m3 c3] from Blk.set HXC.out 7 (.slice A3 m3 c3) rfl)
                  have HO := Lib.hid (own_other (i := 7) (u := (.slice A3 m3 c3)) HO.out (show w2.heap.size < w9.heap.size by omega))
                  have HC := Lib.hid (show Blk (W2.setCell ⟨w2.heap.size, 7, none⟩ (.slice A3 m3 c3)) w.heap.size 29 #[.string ⟨#[]⟩, .int .i64 0, .int .i64 0, .int .i64 0, .string ⟨#[]⟩, .bool false, .slice none 0 0, .slice none 0 0, .int .i64 0] from Blk.other HC.out (p := ⟨w2.heap.size, 7, none⟩) (by simp; omega) (.slice A3 m3 c3))
                  have HB := Lib.hid (HB.out.setCell (p := ⟨w2.heap.size, 7, none⟩) (show w.heap.size ≤ w2.heap.size by omega) (.slice A3 m3 c3))
                  have HD := Lib.hid (HD.out.keep fun k h1 h2 h3 => heap_setCell_other W2 ⟨w2.heap.size, 7, none⟩ k (.slice A3 m3 c3) (by simp; omega))
                  have hz9 : w9.heap.size ≤ (W2.setCell ⟨w2.heap.size, 7, none⟩ (.slice A3 m3 c3)).heap.size := by rw [World.size_setCell]; exact hz9
                  clear y0 y7 yf
                  refine wpAnyH_done (by kernel_rfl) ?_ _
                  go_wp2_with fail
                  go_roundw
                  case rel => exact ⟨mm2 - 1, z1, o2 ++ [ky], .slice A3 m3 c3, by go_num, by omega, by omega, Lib.hid ⟨by rw [HKK2.out]; exact HT2.out, HOK3.out, HX.out, HXC.out, by simpa using HO.out, HC.out, HB.out, HD.out, hz9⟩⟩
                  case measure => simp [intOf]; omega
                · go_simp
                  refine (CT.out (w1.heap.size + 1) ⟨ya2, false⟩ _ HX.out HOK2.out).mono ?_
                  rintro e w10 ⟨rfl, hr, hg⟩
                  have HX := Lib.hid hr
                  have HXC := Lib.hid (blk_grown hg HXC.out (by omega))
                  have HO := Lib.hid (own_grown HO.out hg (by omega))
                  have HC := Lib.hid (blk_grown hg HC.out (by omega))
                  have HB := Lib.hid (HB.out.trans (Src.below_of_grown hg (by omega) (by omega)))
                  have HD := Lib.hid (HD.out.keep fun k h1 h2 h3 => hg.block k h3 (by simp; omega))
                  have hz9 : w9.heap.size ≤ w10.heap.size := Nat.le_trans hz9 hg.size
                  clear hr hg
                  generalize (sT t ⟨ya2, false⟩).2 = z1 at *
                  generalize (sT t ⟨ya2, false⟩).1 = ky at *
                  refine hK.out _ _ ?_ (fun hHeld => ?_)
                  · trivial
                  clear hK K
                  try simp only [Act.put, List.setIfInBounds_toArray, List.set_cons_zero, List.set_cons_succ, List.getElem_toArray, List.getElem_cons_succ, List.getElem_cons_zero]
                  refine wpAnyH_ready (rs := [1, 4]) (by kernel_rfl) (by simp) ?_
                  refine AllReadyH.cons rfl (fun K hK => ?_) (AllReadyH.cons rfl (fun K hK => ?_) AllReadyH.nil)
                  · have y7 := HXC.out.cell 7
                    go_simp
                    refine hK.out _ _ ?_ (fun hHeld => ?_)
                    · trivial
                    clear hK K
                    try simp only [Act.put, List.setIfInBounds_toArray, List.set_cons_zero, List.set_cons_succ, List.getElem_toArray, List.getElem_cons_succ, List.getElem_cons_zero]
                    clear y7
                    refine wpAnyH_ready (rs := [4]) (by kernel_rfl) (by simp) ?_
                    refine AllReadyH.cons rfl (fun K hK => ?_) AllReadyH.nil
                    go_simp
                    have HX := Lib.hid (HX.out.alloc (.cells #[.string ky] 9))
                    have HXC := Lib.hid (HXC.out.alloc (.cells #[.string ky] 9))
                    have HO := Lib.hid (Str.own_alloc HO.out (.cells #[.string ky] 9))
                    have HC := Lib.hid (HC.out.alloc (.cells #[.string ky] 9))
                    have HB := Lib.hid (HB.out.alloc HB.out.size (.cells #[.string ky] 9))
                    have HD := Lib.hid (HD.out.step ((Below.refl _ w10).alloc (Nat.le_refl _) (.cells #[.string ky] 9)) (.inr (Nat.le_refl _)))
                    have HNL := Lib.hid (show Str.Lies (w10.alloc (.cells #[.string ky] 9)) (w10.alloc (.cells #[.string ky] 9)).heap.size (some ⟨w10.heap.size, 0, none⟩) [ky] from Str.new_lies w10 [ky])
                    have hz9 : w9.heap.size ≤ (w10.alloc (.cells #[.string ky] 9)).heap.size := by simp; omega
                    refine hK.out _ _ ?_ (fun hHeld => ?_)
                    · trivial
                    clear hK K
                    try simp only [Act.put, List.setIfInBounds_toArray, List.set_cons_zero, List.set_cons_succ, List.getElem_toArray, List.getElem_cons_succ, List.getElem_cons_zero]
                    generalize World.alloc w10 _ = w11 at HX HXC HO HC HB HD HNL hz9 hHeld ⊢
                    refine wpAnyH_ready (rs := [5]) (by kernel_rfl) (by simp) ?_
                    refine AllReadyH.cons rfl (fun K hK => ?_) AllReadyH.nil
                    refine wanted_now (by rfl) ?_
                    refine Str.wp_append_strs rfl rfl [ky] rfl rfl rfl HO.out HNL.out (by have := HLN2.out; simp; omega) hz9 ?_
                    intro v3' W2 ho2 hg2
                    obtain ⟨A3, m3, c3, ev3⟩ := str_slice ho2
                    subst ev3
                    have HX := Lib.hid (show RdrS W2 (w1.heap.size + 1) t z1 from (hg2.block _ HX.out.lt (Str.blk_not_row HX.out (by decide) HO.out)).trans HX.out)
                    have HXC := Lib.hid (show Blk W2 w2.heap.size 27 #[.string k, .int .i64 i.c, .int .i64 i.s, .int .i64 i.e, .string d, .bool (g == 1), .slice A5 l.length c5, v2] from (hg2.block _ HXC.out.lt (Str.blk_not_row HXC.out (by decide) HO.out)).trans HXC.out)
                    have HC := Lib.hid (show Blk W2 w.heap.size 29 #[.string ⟨#[]⟩, .int .i64 0, .int .i64 0, .int .i64 0, .string ⟨#[]⟩, .bool false, .slice none 0 0, .slice none 0 0, .int .i64 0] from (hg2.block _ HC.out.lt (Str.blk_not_row HC.out (by decide) HO.out)).trans HC.out)
                    have HB := Lib.hid (HB.out.grown hg2 HB.out.size (fun j e => by have := Str.ownBlock_base HO.out j e; omega))
                    have HD := Lib.hid (HD.out.keep fun k h1 h2 h3 => hg2.block k h3 (fun e => by have := Str.ownBlock_base HO.out k e.symm; omega))
                    have hz9 : w9.heap.size ≤ W2.heap.size := Nat.le_trans hz9 hg2.size
                    have HO := Lib.hid ho2
                    clear ho2 hg2
                    refine hK.out _ _ ?_ (fun hHeld => ?_)
                    · trivial
                    clear hK K
                    try simp only [Act.put, List.setIfInBounds_toArray, List.set_cons_zero, List.set_cons_succ, List.getElem_toArray, List.getElem_cons_succ, List.getElem_cons_zero]
                    refine wpAnyH_take (i := 6) (v := ?_) rfl (by kernel_rfl) (by kernel_rfl) (by kernel_rfl) (fun _ _ _ h => h) (Or.inl ⟨by rfl, ?_⟩) hHeld ?_
                    rotate_left
                    · intro V hSw
                      go_simp
                      try with_reducible rfl
                    try simp only [Act.put, List.setIfInBounds_toArray, List.set_cons_zero, List.set_cons_succ, List.getElem_toArray, List.getElem_cons_succ, List.getElem_cons_zero]
                    refine wpAnyH_ready (rs := [7]) (by kernel_rfl) (by simp) ?_
                    refine AllReadyH.cons rfl (fun K hK => ?_) AllReadyH.nil
                    have y0 := HXC.out.cell 0
                    have y7 := HXC.out.cell 7
                    have yf := HXC.out.free
                    go_simp
                    refine hK.out _ _ ?_ (fun hHeld => ?_)
                    · trivial
                    clear hK K
                    try simp only [Act.put, List.setIfInBounds_toArray, List.set_cons_zero, List.set_cons_succ, List.getElem_toArray, List.getElem_cons_succ, List.getElem_cons_zero]
                    have HX := Lib.hid (show RdrS (W2.setCell ⟨w2.heap.size, 7, none⟩ (.slice A3 m3 c3)) (w1.heap.size + 1) t z1 from Blk.other HX.out (p := ⟨w2.heap.size, 7, none⟩) (by simp; omega) (.slice A3 m3 c3))
                    have HXC := Lib.hid (show Blk (W2.setCell ⟨w2.heap.size, 7, none⟩ (.slice A3 m3 c3)) w2.heap.size 27 #[.string k, .int .i64 i.c, .int .i64 i.s, .int .i64 i.e, .string d, .bool (g == 1), .slice A5 l.length c5, .slice A3 m3 c3] from Blk.set HXC.out 7 (.slice A3 m3 c3) rfl)
                    have HO := Lib.hid (own_other (i := 7) (u := (.slice A3 m3 c3)) HO.out (show w2.heap.size < w9.heap.size by omega))
                    have HC := Lib.hid (show Blk (W2.setCell ⟨w2.heap.size, 7, none⟩ (.slice A3 m3 c3)) w.heap.size 29 #[.string ⟨#[]⟩, .int .i64 0, .int .i64 0, .int .i64 0, .string ⟨#[]⟩, .bool false, .slice none 0 0, .slice none 0 0, .int .i64 0] from Blk.other HC.out (p := ⟨w2.heap.size, 7, none⟩) (by simp; omega) (.slice A3 m3 c3))
                    have HB := Lib.hid (HB.out.setCell (p := ⟨w2.heap.size, 7, none⟩) (show w.heap.size ≤ w2.heap.size by omega) (.slice A3 m3 c3))
                    have HD := Lib.hid (HD.out.keep fun k h1 h2 h3 => heap_setCell_other W2 ⟨w2.heap.size, 7, none⟩ k (.slice A3 m3 c3) (by simp; omega))
                    have hz9 : w9.heap.size ≤ (W2.setCell ⟨w2.heap.size, 7, none⟩ (.slice A3 m3 c3)).heap.size := by rw [World.size_setCell]; exact hz9
                    clear y0 y7 yf
                    refine wpAnyH_done (by kernel_rfl) ?_ _
                    go_wp2_with fail
                    go_roundw
                    case rel => exact ⟨mm2 - 1, z1, o2 ++ [ky], .slice A3 m3 c3, by go_num, by omega, by omega, Lib.hid ⟨by rw [HKK2.out]; exact HT2.out, HOK3.out, HX.out, HXC.out, by simpa using HO.out, HC.out, HB.out, HD.out, hz9⟩⟩
                    case measure => simp [intOf]; omega
                  · go_simp
                    have HX := Lib.hid (HX.out.alloc (.cells #[.string ky] 9))
                    have HXC := Lib.hid (HXC.out.alloc (.cells #[.string ky] 9))
                    have HO := Lib.hid (Str.own_alloc HO.out (.cells #[.string ky] 9))
                    have HC := Lib.hid (HC.out.alloc (.cells #[.string ky] 9))
                    have HB := Lib.hid (HB.out.alloc HB.out.size (.cells #[.string ky] 9))
                    have HD := Lib.hid (HD.out.step ((Below.refl _ w10).alloc (Nat.le_refl _) (.cells #[.string ky] 9)) (.inr (Nat.le_refl _)))
                    have HNL := Lib.hid (show Str.Lies (w10.alloc (.cells #[.string ky] 9)) (w10.alloc (.cells #[.string ky] 9)).heap.size (some ⟨w10.heap.size, 0, none⟩) [ky] from Str.new_lies w10 [ky])
                    have hz9 : w9.heap.size ≤ (w10.alloc (.cells #[.string ky] 9)).heap.size := by simp; omega
                    refine hK.out _ _ ?_ (fun hHeld => ?_)
                    · trivial
                    clear hK K
                    try simp only [Act.put, List.setIfInBounds_toArray, List.set_cons_zero, List.set_cons_succ, List.getElem_toArray, List.getElem_cons_succ, List.getElem_cons_zero]
                    generalize World.alloc w10 _ = w11 at HX HXC HO HC HB HD HNL hz9 hHeld ⊢
                    refine wpAnyH_ready (rs := [1]) (by kernel_rfl) (by simp) ?_
                    refine AllReadyH.cons rfl (fun K hK => ?_) AllReadyH.nil
                    have y7 := HXC.out.cell 7
                    go_simp
                    refine hK.out _ _ ?_ (fun hHeld => ?_)
                    · trivial
                    clear hK K
                    try simp only [Act.put, List.setIfInBounds_toArray, List.set_cons_zero, List.set_cons_succ, List.getElem_toArray, List.getElem_cons_succ, List.getElem_cons_zero]
                    clear y7
                    refine wpAnyH_ready (rs := [5]) (by kernel_rfl) (by simp) ?_
                    refine AllReadyH.cons rfl (fun K hK => ?_) AllReadyH.nil
                    refine wanted_now (by rfl) ?_
                    refine Str.wp_append_strs rfl rfl [ky] rfl rfl rfl HO.out HNL.out (by have := HLN2.out; simp; omega) hz9 ?_
                    intro v3' W2 ho2 hg2
                    obtain ⟨A3, m3, c3, ev3⟩ := str_slice ho2
                    subst ev3
                    have HX := Lib.hid (show RdrS W2 (w1.heap.size + 1) t z1 from (hg2.block _ HX.out.lt (Str.blk_not_row HX.out (by decide) HO.out)).trans HX.out)
                    have HXC := Lib.hid (show Blk W2 w2.heap.size 27 #[.string k, .int .i64 i.c, .int .i64 i.s, .int .i64 i.e, .string d, .bool (g == 1), .slice A5 l.length c5, v2] from (hg2.block _ HXC.out.lt (Str.blk_not_row HXC.out (by decide) HO.out)).trans HXC.out)
                    have HC := Lib.hid (show Blk W2 w.heap.size 29 #[.string ⟨#[]⟩, .int .i64 0, .int .i64 0, .int .i64 0, .string ⟨#[]⟩, .bool false, .slice none 0 0, .slice none 0 0, .int .i64 0] from (hg2.block _ HC.out.lt (Str.blk_not_row HC.out (by decide) HO.out)).trans HC.out)
                    have HB := Lib.hid (HB.out.grown hg2 HB.out.size (fun j e => by have := Str.ownBlock_base HO.out j e; omega))
                    have HD := Lib.hid (HD.out.keep fun k h1 h2 h3 => hg2.block k h3 (fun e => by have := Str.ownBlock_base HO.out k e.symm; omega))
                    have hz9 : w9.heap.size ≤ W2.heap.size := Nat.le_trans hz9 hg2.size
                    have HO := Lib.hid ho2
                    clear ho2 hg2
                    refine hK.out _ _ ?_ (fun hHeld => ?_)
                    · trivial
                    clear hK K
                    try simp only [Act.put, List.setIfInBounds_toArray, List.set_cons_zero, List.set_cons_succ, List.getElem_toArray, List.getElem_cons_succ, List.getElem_cons_zero]
                    refine wpAnyH_take (i := 6) (v := ?_) rfl (by kernel_rfl) (by kernel_rfl) (by kernel_rfl) (fun _ _ _ h => h) (Or.inl ⟨by rfl, ?_⟩) hHeld ?_
                    rotate_left
                    · intro V hSw
                      go_simp
                      try with_reducible rfl
                    try simp only [Act.put, List.setIfInBounds_toArray, List.set_cons_zero, List.set_cons_succ, List.getElem_toArray, List.getElem_cons_succ, List.getElem_cons_zero]
                    refine wpAnyH_ready (rs := [7]) (by kernel_rfl) (by simp) ?_
                    refine AllReadyH.cons rfl (fun K hK => ?_) AllReadyH.nil
                    have y0 := HXC.out.cell 0
                    have y7 := HXC.out.cell 7
                    have yf := HXC.out.free
                    go_simp
                    refine hK.out _ _ ?_ (fun hHeld => ?_)
                    · trivial
                    clear hK K
                    try simp only [Act.put, List.setIfInBounds_toArray, List.set_cons_zero, List.set_cons_succ, List.getElem_toArray, List.getElem_cons_succ, List.getElem_cons_zero]
                    have HX := Lib.hid (show RdrS (W2.setCell ⟨w2.heap.size, 7, none⟩ (.slice A3 m3 c3)) (w1.heap.size + 1) t z1 from Blk.other HX.out (p := ⟨w2.heap.size, 7, none⟩) (by simp; omega) (.slice A3 m3 c3))
                    have HXC := Lib.hid (show Blk (W2.setCell ⟨w2.heap.size, 7, none⟩ (.slice A3 m3 c3)) w2.heap.size 27 #[.string k, .int .i64 i.c, .int .i64 i.s, .int .i64 i.e, .string d, .bool (g == 1), .slice A5 l.length c5, .slice A3 m3 c3] from Blk.set HXC.out 7 (.slice A3 m3 c3) rfl)
                    have HO := Lib.hid (own_other (i := 7) (u := (.slice A3 m3 c3)) HO.out (show w2.heap.size < w9.heap.size by omega))
                    have HC := Lib.hid (show Blk (W2.setCell ⟨w2.heap.size, 7, none⟩ (.slice A3 m3 c3)) w.heap.size 29 #[.string ⟨#[]⟩, .int .i64 0, .int .i64 0, .int .i64 0, .string ⟨#[]⟩, .bool false, .slice none 0 0, .slice none 0 0, .int .i64 0] from Blk.other HC.out (p := ⟨w2.heap.size, 7, none⟩) (by simp; omega) (.slice A3 m3 c3))
                    have HB := Lib.hid (HB.out.setCell (p := ⟨w2.heap.size, 7, none⟩) (show w.heap.size ≤ w2.heap.size by omega) (.slice A3 m3 c3))
                    have HD := Lib.hid (HD.out.keep fun k h1 h2 h3 => heap_setCell_other W2 ⟨w2.heap.size, 7, none⟩ k (.slice A3 m3 c3) (by simp; omega))
                    have hz9 : w9.heap.size ≤ (W2.setCell ⟨w2.heap.size, 7, none⟩ (.slice A3 m3 c3)).heap.size := by rw [World.size_setCell]; exact hz9
                    clear y0 y7 yf
                    refine wpAnyH_done (by kernel_rfl) ?_ _
                    go_wp2_with fail
                    go_roundw
                    case rel => exact ⟨mm2 - 1, z1, o2 ++ [ky], .slice A3 m3 c3, by go_num, by omega, by omega, Lib.hid ⟨by rw [HKK2.out]; exact HT2.out, HOK3.out, HX.out, HXC.out, by simpa using HO.out, HC.out, HB.out, HD.out, hz9⟩⟩
                    case measure => simp [intOf]; omega
              | true =>
                have HE2 : Hid (sKs t m.toNat x7 = (o2, ⟨ya2, true⟩)) := Lib.hid (by have := HR2.out.1; rw [sKs_bad t mm2.toNat (x := ⟨ya2, true⟩) rfl] at this; simpa using this)
                obtain ⟨hbl, hx8⟩ : bl = o2 ∧ x8 = ⟨ya2, true⟩ := by
                  have := HE8.out.symm.trans HE2.out
                  simpa using this
                subst hbl hx8
                have HO := Lib.hid HR2.out.2.2.2.2.1
                have HX := Lib.hid HR2.out.2.2.1
                have HC := Lib.hid HR2.out.2.2.2.2.2.1
                have HB := Lib.hid HR2.out.2.2.2.2.2.2.1
                have HD := Lib.hid HR2.out.2.2.2.2.2.2.2.1
                have hz9 := HR2.out.2.2.2.2.2.2.2.2
                obtain ⟨_, A6, c6, ev6, hq6, _⟩ := Str.own_lies HO.out
                subst ev6
                have HXC := Lib.hid (show Blk wr w2.heap.size 27 (cellsV ⟨k, i, d, g == 1, l, bl⟩ ⟨A5, c5, A6, c6⟩) from HR2.out.2.2.2.1)
                have HH := Lib.hid (strHeld_of_own HO.out)
                clear HR2 HO HE2 HE8
                have hrr : rr = zeroR := by rcases HRD.out with h | h; exact absurd h.1 (by simp); exact h.2.1
                have hrc : rc = 3 := by rcases HRD.out with h | h; exact absurd h.1 (by simp); exact h.2.2
                have z2 : wr.cell? ⟨w1.heap.size + 1, 2, none⟩ = some (.bool true) := HX.out.cell 2
                have hc0 : wr.cell? ⟨w.heap.size, 0, none⟩ = some (.string ⟨#[]⟩) := HC.out.cell 0
                have hc1 : wr.cell? ⟨w.heap.size, 1, none⟩ = some (.int .i64 0) := HC.out.cell 1
                have hc2 : wr.cell? ⟨w.heap.size, 2, none⟩ = some (.int .i64 0) := HC.out.cell 2
                have hc3 : wr.cell? ⟨w.heap.size, 3, none⟩ = some (.int .i64 0) := HC.out.cell 3
                have hc4 : wr.cell? ⟨w.heap.size, 4, none⟩ = some (.string ⟨#[]⟩) := HC.out.cell 4
                have hc5 : wr.cell? ⟨w.heap.size, 5, none⟩ = some (.bool false) := HC.out.cell 5
                have hc6 : wr.cell? ⟨w.heap.size, 6, none⟩ = some (.slice none 0 0) := HC.out.cell 6
                have hc7 : wr.cell? ⟨w.heap.size, 7, none⟩ = some (.slice none 0 0) := HC.out.cell 7
                have hc8 : wr.cell? ⟨w.heap.size, 8, none⟩ = some (.int .i64 0) := HC.out.cell 8
                have hcf := HC.out.free
                have hcl := HC.out.lt
                have HRR := Lib.hid hrr
                have HRC := Lib.hid hrc
                clear hrr hrc
                go_wp2_with fail
                have hrr := HRR.out
                have hrc := HRC.out
                refine bodyPost_ret (v := outR zeroR ⟨none, 0, none, 0⟩ 3) (by simp [results, Tryz.results4, go_sem, hc0, hc1, hc2, hc3, hc4, hc5, hc6, hc7, hc8, hcl, outR, zeroR]) rfl ?_
                rw [hrr, hrc]
                exact reads_touch (((((((((Touch.refl _ wr).set 0 _).set 1 _).set 2 _).set 3 _).set 4 _).set 5 _).set 6 _ |>.set 7 _).set 8 _) HB.out
            · have hmz : mm2.toNat = 0 := by omega
              have HMZ := Lib.hid hmz
              clear hmz
              cases yb2 with
              | true =>
                have HE2 : Hid (sKs t m.toNat x7 = (o2, ⟨ya2, true⟩)) := Lib.hid (by have := HR2.out.1; rw [sKs_bad t mm2.toNat (x := ⟨ya2, true⟩) rfl] at this; simpa using this)
                obtain ⟨hbl, hx8⟩ : bl = o2 ∧ x8 = ⟨ya2, true⟩ := by
                  have := HE8.out.symm.trans HE2.out
                  simpa using this
                subst hbl hx8
                have HO := Lib.hid HR2.out.2.2.2.2.1
                have HX := Lib.hid HR2.out.2.2.1
                have HC := Lib.hid HR2.out.2.2.2.2.2.1
                have HB := Lib.hid HR2.out.2.2.2.2.2.2.1
                have HD := Lib.hid HR2.out.2.2.2.2.2.2.2.1
                have hz9 := HR2.out.2.2.2.2.2.2.2.2
                obtain ⟨_, A6, c6, ev6, hq6, _⟩ := Str.own_lies HO.out
                subst ev6
                have HXC := Lib.hid (show Blk wr w2.heap.size 27 (cellsV ⟨k, i, d, g == 1, l, bl⟩ ⟨A5, c5, A6, c6⟩) from HR2.out.2.2.2.1)
                have HH := Lib.hid (strHeld_of_own HO.out)
                clear HR2 HO HE2 HE8
                have hrr : rr = zeroR := by rcases HRD.out with h | h; exact absurd h.1 (by simp); exact h.2.1
                have hrc : rc = 3 := by rcases HRD.out with h | h; exact absurd h.1 (by simp); exact h.2.2
                have z2 : wr.cell? ⟨w1.heap.size + 1, 2, none⟩ = some (.bool true) := HX.out.cell 2
                have hc0 : wr.cell? ⟨w.heap.size, 0, none⟩ = some (.string ⟨#[]⟩) := HC.out.cell 0
                have hc1 : wr.cell? ⟨w.heap.size, 1, none⟩ = some (.int .i64 0) := HC.out.cell 1
                have hc2 : wr.cell? ⟨w.heap.size, 2, none⟩ = some (.int .i64 0) := HC.out.cell 2
                have hc3 : wr.cell? ⟨w.heap.size, 3, none⟩ = some (.int .i64 0) := HC.out.cell 3
                have hc4 : wr.cell? ⟨w.heap.size, 4, none⟩ = some (.string ⟨#[]⟩) := HC.out.cell 4
                have hc5 : wr.cell? ⟨w.heap.size, 5, none⟩ = some (.bool false) := HC.out.cell 5
                have hc6 : wr.cell? ⟨w.heap.size, 6, none⟩ = some (.slice none 0 0) := HC.out.cell 6
                have hc7 : wr.cell? ⟨w.heap.size, 7, none⟩ = some (.slice none 0 0) := HC.out.cell 7
                have hc8 : wr.cell? ⟨w.heap.size, 8, none⟩ = some (.int .i64 0) := HC.out.cell 8
                have hcf := HC.out.free
                have hcl := HC.out.lt
                have HRR := Lib.hid hrr
                have HRC := Lib.hid hrc
                clear hrr hrc
                go_wp2_with fail
                have hrr := HRR.out
                have hrc := HRC.out
                refine bodyPost_ret (v := outR zeroR ⟨none, 0, none, 0⟩ 3) (by simp [results, Tryz.results4, go_sem, hc0, hc1, hc2, hc3, hc4, hc5, hc6, hc7, hc8, hcl, outR, zeroR]) rfl ?_
                rw [hrr, hrc]
                exact reads_touch (((((((((Touch.refl _ wr).set 0 _).set 1 _).set 2 _).set 3 _).set 4 _).set 5 _).set 6 _ |>.set 7 _).set 8 _) HB.out
              | false =>
                have HE2 : Hid (sKs t m.toNat x7 = (o2, ⟨ya2, false⟩)) := Lib.hid (by have := HR2.out.1; rw [HMZ.out] at this; simpa [sKs] using this)
                obtain ⟨hbl, hx8⟩ : bl = o2 ∧ x8 = ⟨ya2, false⟩ := by
                  have := HE8.out.symm.trans HE2.out
                  simpa using this
                subst hbl hx8
                have HO := Lib.hid HR2.out.2.2.2.2.1
                have HX := Lib.hid HR2.out.2.2.1
                have HC := Lib.hid HR2.out.2.2.2.2.2.1
                have HB := Lib.hid HR2.out.2.2.2.2.2.2.1
                have HD := Lib.hid HR2.out.2.2.2.2.2.2.2.1
                have hz9 := HR2.out.2.2.2.2.2.2.2.2
                obtain ⟨_, A6, c6, ev6, hq6, _⟩ := Str.own_lies HO.out
                subst ev6
                have HXC := Lib.hid (show Blk wr w2.heap.size 27 (cellsV ⟨k, i, d, g == 1, l, bl⟩ ⟨A5, c5, A6, c6⟩) from HR2.out.2.2.2.1)
                have HH := Lib.hid (strHeld_of_own HO.out)
                clear HR2 HO HE2 HE8
                have HL := Lib.hid (show Lies wr wr.heap.size ⟨k, i, d, g == 1, l, bl⟩ ⟨A5, c5, A6, c6⟩ from ⟨HD.out.lies (by omega), HH.out.lies (Nat.le_refl _)⟩)
                have z2 : wr.cell? ⟨w1.heap.size + 1, 2, none⟩ = some (.bool false) := HX.out.cell 2
                obtain ⟨x0, x1', x2', x3', x4', x5', x6', x7'⟩ := cells8 (r := ⟨k, i, d, g == 1, l, bl⟩) (p := ⟨A5, c5, A6, c6⟩) HXC.out
                have xf := HXC.out.free
                have xl := HXC.out.lt
                rcases HRD.out with ⟨-, hbs, hrr, hrc⟩ | ⟨hor, hrr, hrc⟩
                · have HRR := Lib.hid hrr
                  have HRC := Lib.hid hrc
                  have HBY2 := Lib.hid (HBY.out ⟨A5, c5, A6, c6⟩ wr HL.out)
                  rw [hbs] at HBY2
                  unfold recV at HBY2
                  dsimp only at HBY2
                  clear hrr hrc hbs
                  have e1 : (s.toList == s.toList) = true := beq_self_eq_true _
                  have e2 : (s.toList != s.toList) = false := by simp
                  go_wp2_with fail
                  refine HBY2.out.mono ?_
                  rintro e w3' ⟨rfl, hb⟩
                  have HB := Lib.hid (HB.out.trans (hb.mono HB.out.size))
                  have HC := Lib.hid (HC.out.on hb)
                  have HXC := Lib.hid (HXC.out.on hb)
                  have HH := Lib.hid (HH.out.step hb (.inl (Nat.le_refl _)))
                  have HD := Lib.hid (HD.out.step hb (.inl (by omega)))
                  have hz3 : wr.heap.size ≤ w3'.heap.size := hb.size
                  clear hb x0 x1' x2' x3' x4' x5' x6' x7' xf xl z2
                  have hc0 : w3'.cell? ⟨w.heap.size, 0, none⟩ = some (.string ⟨#[]⟩) := HC.out.cell 0
                  have hc1 : w3'.cell? ⟨w.heap.size, 1, none⟩ = some (.int .i64 0) := HC.out.cell 1
                  have hc2 : w3'.cell? ⟨w.heap.size, 2, none⟩ = some (.int .i64 0) := HC.out.cell 2
                  have hc3 : w3'.cell? ⟨w.heap.size, 3, none⟩ = some (.int .i64 0) := HC.out.cell 3
                  have hc4 : w3'.cell? ⟨w.heap.size, 4, none⟩ = some (.string ⟨#[]⟩) := HC.out.cell 4
                  have hc5 : w3'.cell? ⟨w.heap.size, 5, none⟩ = some (.bool false) := HC.out.cell 5
                  have hc6 : w3'.cell? ⟨w.heap.size, 6, none⟩ = some (.slice none 0 0) := HC.out.cell 6
                  have hc7 : w3'.cell? ⟨w.heap.size, 7, none⟩ = some (.slice none 0 0) := HC.out.cell 7
                  have hc8 : w3'.cell? ⟨w.heap.size, 8, none⟩ = some (.int .i64 0) := HC.out.cell 8
                  have hcf := HC.out.free
                  have hcl := HC.out.lt
                  obtain ⟨x0, x1', x2', x3', x4', x5', x6', x7'⟩ := cells8 (r := ⟨k, i, d, g == 1, l, bl⟩) (p := ⟨A5, c5, A6, c6⟩) HXC.out
                  have xf := HXC.out.free
                  have xl := HXC.out.lt
                  go_wp2_with fail
                  refine bodyPost_ret (v := outR ⟨k, i, d, g == 1, l, bl⟩ ⟨A5, c5, A6, c6⟩ 0) (by simp [results, Tryz.results4, go_sem, hc0, hc1, hc2, hc3, hc4, hc5, hc6, hc7, hc8, hcl, outR, zeroR]) rfl ?_
                  rw [HRR.out, HRC.out]
                  exact reads_rec (((((((((Touch.refl _ w3').set 0 _).set 1 _).set 2 _).set 3 _).set 4 _).set 5 _).set 6 _ |>.set 7 _).set 8 _) (show w.heap.size < w2.heap.size + 1 by omega) hz3 ⟨HD.out.wide (Nat.le_refl _) (by omega), HH.out.wide (by omega) (Nat.le_refl _)⟩ hq5 hq6 HB.out
                · have hbs : ¬ bytesV ⟨k, i, d, g == 1, l, bl⟩ = s := by rcases hor with h | h; cases h; exact h
                  have HRR := Lib.hid hrr
                  have HRC := Lib.hid hrc
                  have HBY2 := Lib.hid (HBY.out ⟨A5, c5, A6, c6⟩ wr HL.out)
                  obtain ⟨yy, hyy⟩ : ∃ yy, bytesV ⟨k, i, d, g == 1, l, bl⟩ = yy := ⟨_, rfl⟩
                  rw [hyy] at HBY2 hbs
                  unfold recV at HBY2
                  dsimp only at HBY2
                  clear hrr hrc hyy
                  have e1 : (yy.toList == s.toList) = false := Seal.str_ne hbs
                  have e2 : (yy.toList != s.toList) = true := by simp [bne, e1]
                  clear hbs
                  go_wp2_with fail
                  refine HBY2.out.mono ?_
                  rintro e w3' ⟨rfl, hb⟩
                  have HB := Lib.hid (HB.out.trans (hb.mono HB.out.size))
                  have HC := Lib.hid (HC.out.on hb)
                  clear hb x0 x1' x2' x3' x4' x5' x6' x7' xf xl z2
                  have hc0 : w3'.cell? ⟨w.heap.size, 0, none⟩ = some (.string ⟨#[]⟩) := HC.out.cell 0
                  have hc1 : w3'.cell? ⟨w.heap.size, 1, none⟩ = some (.int .i64 0) := HC.out.cell 1
                  have hc2 : w3'.cell? ⟨w.heap.size, 2, none⟩ = some (.int .i64 0) := HC.out.cell 2
                  have hc3 : w3'.cell? ⟨w.heap.size, 3, none⟩ = some (.int .i64 0) := HC.out.cell 3
                  have hc4 : w3'.cell? ⟨w.heap.size, 4, none⟩ = some (.string ⟨#[]⟩) := HC.out.cell 4
                  have hc5 : w3'.cell? ⟨w.heap.size, 5, none⟩ = some (.bool false) := HC.out.cell 5
                  have hc6 : w3'.cell? ⟨w.heap.size, 6, none⟩ = some (.slice none 0 0) := HC.out.cell 6
                  have hc7 : w3'.cell? ⟨w.heap.size, 7, none⟩ = some (.slice none 0 0) := HC.out.cell 7
                  have hc8 : w3'.cell? ⟨w.heap.size, 8, none⟩ = some (.int .i64 0) := HC.out.cell 8
                  have hcf := HC.out.free
                  have hcl := HC.out.lt
                  go_wp2_with fail
                  refine bodyPost_ret (v := outR zeroR ⟨none, 0, none, 0⟩ 3) (by simp [results, Tryz.results4, go_sem, hc0, hc1, hc2, hc3, hc4, hc5, hc6, hc7, hc8, hcl, outR, zeroR]) rfl ?_
                  rw [HRR.out, HRC.out]
                  exact reads_touch (((((((((Touch.refl _ w3').set 0 _).set 1 _).set 2 _).set 3 _).set 4 _).set 5 _).set 6 _ |>.set 7 _).set 8 _) HB.out
      · have hmz : mm.toNat = 0 := by omega
        have HMZ := Lib.hid hmz
        clear hmz
        have HE1 : Hid (sDs t n.toNat x5 = (o, ⟨ya, yb⟩)) := Lib.hid (by have := HR.out.1; rw [HMZ.out] at this; simpa [sDs] using this)
        obtain ⟨hl6, hx6⟩ : l = o ∧ x6 = ⟨ya, yb⟩ := by
          have := HE6.out.symm.trans HE1.out
          simpa using this
        subst hl6 hx6
        obtain ⟨_, A5, c5, ev5, hq5, _⟩ := Dep.own_lies HR.out.2.2.2.2.1
        subst ev5
        have HX := Lib.hid HR.out.2.2.1
        have HXC := Lib.hid (show Blk wr w2.heap.size 27 #[.string k, .int .i64 i.c, .int .i64 i.s, .int .i64 i.e, .string d, .bool (g == 1), .slice A5 l.length c5, .slice none 0 0] from HR.out.2.2.2.1)
        have HD := Lib.hid (Dep.Held.of_own HR.out.2.2.2.2.1)
        have HC := Lib.hid HR.out.2.2.2.2.2.1
        have HB := Lib.hid HR.out.2.2.2.2.2.2.1
        have hzb := HR.out.2.2.2.2.2.2.2
        clear HR HE1 HE6
        go_wp2_with fail
        refine (C7.out (w1.heap.size + 1) _ HX.out).mono ?_
        rintro e w9 ⟨rfl, hr, hg⟩
        have HX9 := Lib.hid hr
        have HXC9 := Lib.hid (blk_grown hg HXC.out (by omega))
        have HD9 := Lib.hid ((HD.out.keep fun k h1 h2 h3 => hg.block k h3 (by simp; omega)).wide (Nat.le_refl _) hg.size)
        have HC9 := Lib.hid (blk_grown hg HC.out (by omega))
        have HB9 := Lib.hid (HB.out.trans (Src.below_of_grown hg (by omega) (by omega)))
        have hz9c : w2.heap.size + 1 ≤ w9.heap.size := Nat.le_trans hzb hg.size
        clear hr hg HX HXC HD HC HB z1r
        go_wp2_with fail
        go_loopw [8] (fun n8 wr => ∃ (mm2 : Int) (y2 : St) (o2 : List ByteArray) (v2 : Value), n8 = .int .i64 mm2 ∧ -9223372036854775808 ≤ mm2 ∧ mm2 ≤ 9223372036854775807 ∧ Hid (sKs t m.toNat x7 = (o2 ++ (sKs t mm2.toNat y2).1, (sKs t mm2.toNat y2).2) ∧ y2.ok ∧ RdrS wr (w1.heap.size + 1) t y2 ∧ Blk wr w2.heap.size 27 #[.string k, .int .i64 i.c, .int .i64 i.s, .int .i64 i.e, .string d, .bool (g == 1), .slice A5 l.length c5, v2] ∧ wr.ownsRow w9.heap.size 9 1 v2 o2.length (Str.flat o2) ∧ Blk wr w.heap.size 29 #[.string ⟨#[]⟩, .int .i64 0, .int .i64 0, .int .i64 0, .string ⟨#[]⟩, .bool false, .slice none 0 0, .slice none 0 0, .int .i64 0] ∧ Below w.heap.size w wr ∧ Dep.Held wr A5 l (w2.heap.size + 1) w9.heap.size ∧ w9.heap.size ≤ wr.heap.size)) (fun n8 _ => (intOf n8).toNat)
        case atStart => exact ⟨m, x7, [], .slice none 0 0, rfl, hmr.1, hmr.2, Lib.hid ⟨rfl, o7, HX9.out, HXC9.out, Str.own_none _ _, HC9.out, HB9.out, HD9.out, Nat.le_refl _⟩⟩
        case round =>

          obtain ⟨mm2, ⟨ya2, yb2⟩, o2, v2, rfl, hn0, hn1, HR2⟩ := hrel
          have HOK2 := Lib.hid HR2.out.2.1
          have z2 : wr.cell? ⟨w1.heap.size + 1, 2, none⟩ = some (.bool yb2) := HR2.out.2.2.1.cell 2
          by_cases hm2 : 0 < mm2
          · cases yb2 with
            | false =>
              obtain ⟨kk2, hkk2⟩ : ∃ kk2, mm2.toNat = kk2 + 1 := ⟨mm2.toNat - 1, by omega⟩
              have HKK2 : Hid ((mm2 - 1).toNat = kk2) := Lib.hid (by omega)
              have HT2 : Hid (sKs t m.toNat x7 = ((o2 ++ [(sT t ⟨ya2, false⟩).1]) ++ (sKs t kk2 (sT t ⟨ya2, false⟩).2).1, (sKs t kk2 (sT t ⟨ya2, false⟩).2).2)) := Lib.hid (by have := HR2.out.1; rw [hkk2, sKs, if_neg (by simp)] at this; rw [this]; simp)
              have HOK3 := Lib.hid (sT_fwd t HOK2.out).1
              have HLN2 : Hid (o2.length ≤ 8001) := Lib.hid (by
                have h1 := congrArg (fun q => q.1.length) (HE8.out.symm.trans HR2.out.1)
                simp only [List.length_append] at h1
                have := HLB.out
                omega)
              clear hkk2
              go_upto_region 20 with fail
              have HX := Lib.hid (show RdrS wr.drew (w1.heap.size + 1) t ⟨ya2, false⟩ from HR2.out.2.2.1)
              have HXC := Lib.hid (show Blk wr.drew w2.heap.size 27 #[.string k, .int .i64 i.c, .int .i64 i.s, .int .i64 i.e, .string d, .bool (g == 1), .slice A5 l.length c5, v2] from HR2.out.2.2.2.1)
              have HO := Lib.hid (show wr.drew.ownsRow w9.heap.size 9 1 v2 o2.length (Str.flat o2) from HR2.out.2.2.2.2.1)
              have HC := Lib.hid (show Blk wr.drew w.heap.size 29 #[.string ⟨#[]⟩, .int .i64 0, .int .i64 0, .int .i64 0, .string ⟨#[]⟩, .bool false, .slice none 0 0, .slice none 0 0, .int .i64 0] from HR2.out.2.2.2.2.2.1)
              have HB := Lib.hid (show Below w.heap.size w wr.drew from HR2.out.2.2.2.2.2.2.1.drew)
              have HD := Lib.hid (show Dep.Held wr.drew A5 l (w2.heap.size + 1) w9.heap.size from HR2.out.2.2.2.2.2.2.2.1.keep fun _ _ _ _ => rfl)
              have hz9 : w9.heap.size ≤ wr.drew.heap.size := HR2.out.2.2.2.2.2.2.2.2
              refine wp_region_held_drew (S := fun W => True) (by kernel_rfl) ?_ (fun hHeld => ?_)
              · trivial
              generalize wr.drew = wd at HX HXC HO HC HB HD hz9 hHeld ⊢
              refine wpAnyH_take (i := 0) (v := ?_) rfl (by kernel_rfl) (by kernel_rfl) (by kernel_rfl) (fun _ _ _ h => h) (Or.inl ⟨by rfl, ?_⟩) hHeld ?_
              rotate_left
              · intro V hSw
                go_simp
                try with_reducible rfl
              try simp only [Act.put, List.setIfInBounds_toArray, List.set_cons_zero, List.set_cons_succ, List.getElem_toArray, List.getElem_cons_zero]
              refine wpAnyH_take (i := 2) (v := ?_) rfl (by kernel_rfl) (by kernel_rfl) (by kernel_rfl) (fun _ _ _ h => h) (Or.inl ⟨by rfl, ?_⟩) hHeld ?_
              rotate_left
              · intro V hSw
                go_simp
                try with_reducible rfl
              try simp only [Act.put, List.setIfInBounds_toArray, List.set_cons_zero, List.set_cons_succ, List.getElem_toArray, List.getElem_cons_succ, List.getElem_cons_zero]
              refine wpAnyH_ready (rs := [1, 3]) (by kernel_rfl) (by simp) ?_
              refine AllReadyH.cons rfl (fun K hK => ?_) (AllReadyH.cons rfl (fun K hK => ?_) AllReadyH.nil)
              · have y7 := HXC.out.cell 7
                go_simp
                refine hK.out _ _ ?_ (fun hHeld => ?_)
                · trivial
                clear hK K
                try simp only [Act.put, List.setIfInBounds_toArray, List.set_cons_zero, List.set_cons_succ, List.getElem_toArray, List.getElem_cons_succ, List.getElem_cons_zero]
                clear y7
                refine wpAnyH_ready (rs := [3]) (by kernel_rfl) (by simp) ?_
                refine AllReadyH.cons rfl (fun K hK => ?_) AllReadyH.nil
                go_simp
                refine (CT.out (w1.heap.size + 1) ⟨ya2, false⟩ _ HX.out HOK2.out).mono ?_
                rintro e w10 ⟨rfl, hr, hg⟩
                have HX := Lib.hid hr
                have HXC := Lib.hid (blk_grown hg HXC.out (by omega))
                have HO := Lib.hid (own_grown HO.out hg (by omega))
                have HC := Lib.hid (blk_grown hg HC.out (by omega))
                have HB := Lib.hid (HB.out.trans (Src.below_of_grown hg (by omega) (by omega)))
                have HD := Lib.hid (HD.out.keep fun k h1 h2 h3 => hg.block k h3 (by simp; omega))
                have hz9 : w9.heap.size ≤ w10.heap.size := Nat.le_trans hz9 hg.size
                clear hr hg
                generalize (sT t ⟨ya2, false⟩).2 = z1 at *
                generalize (sT t ⟨ya2, false⟩).1 = ky at *
                refine hK.out _ _ ?_ (fun hHeld => ?_)
                · trivial
                clear hK K
                try simp only [Act.put, List.setIfInBounds_toArray, List.set_cons_zero, List.set_cons_succ, List.getElem_toArray, List.getElem_cons_succ, List.getElem_cons_zero]
                refine wpAnyH_ready (rs := [4]) (by kernel_rfl) (by simp) ?_
                refine AllReadyH.cons rfl (fun K hK => ?_) AllReadyH.nil
                go_simp
                have HX := Lib.hid (HX.out.alloc (.cells #[.string ky] 9))
                have HXC := Lib.hid (HXC.out.alloc (.cells #[.string ky] 9))
                have HO := Lib.hid (Str.own_alloc HO.out (.cells #[.string ky] 9))
                have HC := Lib.hid (HC.out.alloc (.cells #[.string ky] 9))
                have HB := Lib.hid (HB.out.alloc HB.out.size (.cells #[.string ky] 9))
                have HD := Lib.hid (HD.out.step ((Below.refl _ w10).alloc (Nat.le_refl _) (.cells #[.string ky] 9)) (.inr (Nat.le_refl _)))
                have HNL := Lib.hid (show Str.Lies (w10.alloc (.cells #[.string ky] 9)) (w10.alloc (.cells #[.string ky] 9)).heap.size (some ⟨w10.heap.size, 0, none⟩) [ky] from Str.new_lies w10 [ky])
                have hz9 : w9.heap.size ≤ (w10.alloc (.cells #[.string ky] 9)).heap.size := by simp; omega
                refine hK.out _ _ ?_ (fun hHeld => ?_)
                · trivial
                clear hK K
                try simp only [Act.put, List.setIfInBounds_toArray, List.set_cons_zero, List.set_cons_succ, List.getElem_toArray, List.getElem_cons_succ, List.getElem_cons_zero]
                generalize World.alloc w10 _ = w11 at HX HXC HO HC HB HD HNL hz9 hHeld ⊢
                refine wpAnyH_ready (rs := [5]) (by kernel_rfl) (by simp) ?_
                refine AllReadyH.cons rfl (fun K hK => ?_) AllReadyH.nil
                refine wanted_now (by rfl) ?_
                refine Str.wp_append_strs rfl rfl [ky] rfl rfl rfl HO.out HNL.out (by have := HLN2.out; simp; omega) hz9 ?_
                intro v3' W2 ho2 hg2
                obtain ⟨A3, m3, c3, ev3⟩ := str_slice ho2
                subst ev3
                have HX := Lib.hid (show RdrS W2 (w1.heap.size + 1) t z1 from (hg2.block _ HX.out.lt (Str.blk_not_row HX.out (by decide) HO.out)).trans HX.out)
                have HXC := Lib.hid (show Blk W2 w2.heap.size 27 #[.string k, .int .i64 i.c, .int .i64 i.s, .int .i64 i.e, .string d, .bool (g == 1), .slice A5 l.length c5, v2] from (hg2.block _ HXC.out.lt (Str.blk_not_row HXC.out (by decide) HO.out)).trans HXC.out)
                have HC := Lib.hid (show Blk W2 w.heap.size 29 #[.string ⟨#[]⟩, .int .i64 0, .int .i64 0, .int .i64 0, .string ⟨#[]⟩, .bool false, .slice none 0 0, .slice none 0 0, .int .i64 0] from (hg2.block _ HC.out.lt (Str.blk_not_row HC.out (by decide) HO.out)).trans HC.out)
                have HB := Lib.hid (HB.out.grown hg2 HB.out.size (fun j e => by have := Str.ownBlock_base HO.out j e; omega))
                have HD := Lib.hid (HD.out.keep fun k h1 h2 h3 => hg2.block k h3 (fun e => by have := Str.ownBlock_base HO.out k e.symm; omega))
                have hz9 : w9.heap.size ≤ W2.heap.size := Nat.le_trans hz9 hg2.size
                have HO := Lib.hid ho2
                clear ho2 hg2
                refine hK.out _ _ ?_ (fun hHeld => ?_)
                · trivial
                clear hK K
                try simp only [Act.put, List.setIfInBounds_toArray, List.set_cons_zero, List.set_cons_succ, List.getElem_toArray, List.getElem_cons_succ, List.getElem_cons_zero]
                refine wpAnyH_take (i := 6) (v := ?_) rfl (by kernel_rfl) (by kernel_rfl) (by kernel_rfl) (fun _ _ _ h => h) (Or.inl ⟨by rfl, ?_⟩) hHeld ?_
                rotate_left
                · intro V hSw
                  go_simp
                  try with_reducible rfl
                try simp only [Act.put, List.setIfInBounds_toArray, List.set_cons_zero, List.set_cons_succ, List.getElem_toArray, List.getElem_cons_succ, List.getElem_cons_zero]
                refine wpAnyH_ready (rs := [7]) (by kernel_rfl) (by simp) ?_
                refine AllReadyH.cons rfl (fun K hK => ?_) AllReadyH.nil
                have y0 := HXC.out.cell 0
                have y7 := HXC.out.cell 7
                have yf := HXC.out.free
                go_simp
                refine hK.out _ _ ?_ (fun hHeld => ?_)
                · trivial
                clear hK K
                try simp only [Act.put, List.setIfInBounds_toArray, List.set_cons_zero, List.set_cons_succ, List.getElem_toArray, List.getElem_cons_succ, List.getElem_cons_zero]
                have HX := Lib.hid (show RdrS (W2.setCell ⟨w2.heap.size, 7, none⟩ (.slice A3 m3 c3)) (w1.heap.size + 1) t z1 from Blk.other HX.out (p := ⟨w2.heap.size, 7, none⟩) (by simp; omega) (.slice A3 m3 c3))
                have HXC := Lib.hid (show Blk (W2.setCell ⟨w2.heap.size, 7, none⟩ (.slice A3 m3 c3)) w2.heap.size 27 #[.string k, .int .i64 i.c, .int .i64 i.s, .int .i64 i.e, .string d, .bool (g == 1), .slice A5 l.length c5, .slice A3 m3 c3] from Blk.set HXC.out 7 (.slice A3 m3 c3) rfl)
                have HO := Lib.hid (own_other (i := 7) (u := (.slice A3 m3 c3)) HO.out (show w2.heap.size < w9.heap.size by omega))
                have HC := Lib.hid (show Blk (W2.setCell ⟨w2.heap.size, 7, none⟩ (.slice A3 m3 c3)) w.heap.size 29 #[.string ⟨#[]⟩, .int .i64 0, .int .i64 0, .int .i64 0, .string ⟨#[]⟩, .bool false, .slice none 0 0, .slice none 0 0, .int .i64 0] from Blk.other HC.out (p := ⟨w2.heap.size, 7, none⟩) (by simp; omega) (.slice A3 m3 c3))
                have HB := Lib.hid (HB.out.setCell (p := ⟨w2.heap.size, 7, none⟩) (show w.heap.size ≤ w2.heap.size by omega) (.slice A3 m3 c3))
                have HD := Lib.hid (HD.out.keep fun k h1 h2 h3 => heap_setCell_other W2 ⟨w2.heap.size, 7, none⟩ k (.slice A3 m3 c3) (by simp; omega))
                have hz9 : w9.heap.size ≤ (W2.setCell ⟨w2.heap.size, 7, none⟩ (.slice A3 m3 c3)).heap.size := by rw [World.size_setCell]; exact hz9
                clear y0 y7 yf
                refine wpAnyH_done (by kernel_rfl) ?_ _
                go_wp2_with fail
                go_roundw
                case rel => exact ⟨mm2 - 1, z1, o2 ++ [ky], .slice A3 m3 c3, by go_num, by omega, by omega, Lib.hid ⟨by rw [HKK2.out]; exact HT2.out, HOK3.out, HX.out, HXC.out, by simpa using HO.out, HC.out, HB.out, HD.out, hz9⟩⟩
                case measure => simp [intOf]; omega
              · go_simp
                refine (CT.out (w1.heap.size + 1) ⟨ya2, false⟩ _ HX.out HOK2.out).mono ?_
                rintro e w10 ⟨rfl, hr, hg⟩
                have HX := Lib.hid hr
                have HXC := Lib.hid (blk_grown hg HXC.out (by omega))
                have HO := Lib.hid (own_grown HO.out hg (by omega))
                have HC := Lib.hid (blk_grown hg HC.out (by omega))
                have HB := Lib.hid (HB.out.trans (Src.below_of_grown hg (by omega) (by omega)))
                have HD := Lib.hid (HD.out.keep fun k h1 h2 h3 => hg.block k h3 (by simp; omega))
                have hz9 : w9.heap.size ≤ w10.heap.size := Nat.le_trans hz9 hg.size
                clear hr hg
                generalize (sT t ⟨ya2, false⟩).2 = z1 at *
                generalize (sT t ⟨ya2, false⟩).1 = ky at *
                refine hK.out _ _ ?_ (fun hHeld => ?_)
                · trivial
                clear hK K
                try simp only [Act.put, List.setIfInBounds_toArray, List.set_cons_zero, List.set_cons_succ, List.getElem_toArray, List.getElem_cons_succ, List.getElem_cons_zero]
                refine wpAnyH_ready (rs := [1, 4]) (by kernel_rfl) (by simp) ?_
                refine AllReadyH.cons rfl (fun K hK => ?_) (AllReadyH.cons rfl (fun K hK => ?_) AllReadyH.nil)
                · have y7 := HXC.out.cell 7
                  go_simp
                  refine hK.out _ _ ?_ (fun hHeld => ?_)
                  · trivial
                  clear hK K
                  try simp only [Act.put, List.setIfInBounds_toArray, List.set_cons_zero, List.set_cons_succ, List.getElem_toArray, List.getElem_cons_succ, List.getElem_cons_zero]
                  clear y7
                  refine wpAnyH_ready (rs := [4]) (by kernel_rfl) (by simp) ?_
                  refine AllReadyH.cons rfl (fun K hK => ?_) AllReadyH.nil
                  go_simp
                  have HX := Lib.hid (HX.out.alloc (.cells #[.string ky] 9))
                  have HXC := Lib.hid (HXC.out.alloc (.cells #[.string ky] 9))
                  have HO := Lib.hid (Str.own_alloc HO.out (.cells #[.string ky] 9))
                  have HC := Lib.hid (HC.out.alloc (.cells #[.string ky] 9))
                  have HB := Lib.hid (HB.out.alloc HB.out.size (.cells #[.string ky] 9))
                  have HD := Lib.hid (HD.out.step ((Below.refl _ w10).alloc (Nat.le_refl _) (.cells #[.string ky] 9)) (.inr (Nat.le_refl _)))
                  have HNL := Lib.hid (show Str.Lies (w10.alloc (.cells #[.string ky] 9)) (w10.alloc (.cells #[.string ky] 9)).heap.size (some ⟨w10.heap.size, 0, none⟩) [ky] from Str.new_lies w10 [ky])
                  have hz9 : w9.heap.size ≤ (w10.alloc (.cells #[.string ky] 9)).heap.size := by simp; omega
                  refine hK.out _ _ ?_ (fun hHeld => ?_)
                  · trivial
                  clear hK K
                  try simp only [Act.put, List.setIfInBounds_toArray, List.set_cons_zero, List.set_cons_succ, List.getElem_toArray, List.getElem_cons_succ, List.getElem_cons_zero]
                  generalize World.alloc w10 _ = w11 at HX HXC HO HC HB HD HNL hz9 hHeld ⊢
                  refine wpAnyH_ready (rs := [5]) (by kernel_rfl) (by simp) ?_
                  refine AllReadyH.cons rfl (fun K hK => ?_) AllReadyH.nil
                  refine wanted_now (by rfl) ?_
                  refine Str.wp_append_strs rfl rfl [ky] rfl rfl rfl HO.out HNL.out (by have := HLN2.out; simp; omega) hz9 ?_
                  intro v3' W2 ho2 hg2
                  obtain ⟨A3, m3, c3, ev3⟩ := str_slice ho2
                  subst ev3
                  have HX := Lib.hid (show RdrS W2 (w1.heap.size + 1) t z1 from (hg2.block _ HX.out.lt (Str.blk_not_row HX.out (by decide) HO.out)).trans HX.out)
                  have HXC := Lib.hid (show Blk W2 w2.heap.size 27 #[.string k, .int .i64 i.c, .int .i64 i.s, .int .i64 i.e, .string d, .bool (g == 1), .slice A5 l.length c5, v2] from (hg2.block _ HXC.out.lt (Str.blk_not_row HXC.out (by decide) HO.out)).trans HXC.out)
                  have HC := Lib.hid (show Blk W2 w.heap.size 29 #[.string ⟨#[]⟩, .int .i64 0, .int .i64 0, .int .i64 0, .string ⟨#[]⟩, .bool false, .slice none 0 0, .slice none 0 0, .int .i64 0] from (hg2.block _ HC.out.lt (Str.blk_not_row HC.out (by decide) HO.out)).trans HC.out)
                  have HB := Lib.hid (HB.out.grown hg2 HB.out.size (fun j e => by have := Str.ownBlock_base HO.out j e; omega))
                  have HD := Lib.hid (HD.out.keep fun k h1 h2 h3 => hg2.block k h3 (fun e => by have := Str.ownBlock_base HO.out k e.symm; omega))
                  have hz9 : w9.heap.size ≤ W2.heap.size := Nat.le_trans hz9 hg2.size
                  have HO := Lib.hid ho2
                  clear ho2 hg2
                  refine hK.out _ _ ?_ (fun hHeld => ?_)
                  · trivial
                  clear hK K
                  try simp only [Act.put, List.setIfInBounds_toArray, List.set_cons_zero, List.set_cons_succ, List.getElem_toArray, List.getElem_cons_succ, List.getElem_cons_zero]
                  refine wpAnyH_take (i := 6) (v := ?_) rfl (by kernel_rfl) (by kernel_rfl) (by kernel_rfl) (fun _ _ _ h => h) (Or.inl ⟨by rfl, ?_⟩) hHeld ?_
                  rotate_left
                  · intro V hSw
                    go_simp
                    try with_reducible rfl
                  try simp only [Act.put, List.setIfInBounds_toArray, List.set_cons_zero, List.set_cons_succ, List.getElem_toArray, List.getElem_cons_succ, List.getElem_cons_zero]
                  refine wpAnyH_ready (rs := [7]) (by kernel_rfl) (by simp) ?_
                  refine AllReadyH.cons rfl (fun K hK => ?_) AllReadyH.nil
                  have y0 := HXC.out.cell 0
                  have y7 := HXC.out.cell 7
                  have yf := HXC.out.free
                  go_simp
                  refine hK.out _ _ ?_ (fun hHeld => ?_)
                  · trivial
                  clear hK K
                  try simp only [Act.put, List.setIfInBounds_toArray, List.set_cons_zero, List.set_cons_succ, List.getElem_toArray, List.getElem_cons_succ, List.getElem_cons_zero]
                  have HX := Lib.hid (show RdrS (W2.setCell ⟨w2.heap.size, 7, none⟩ (.slice A3 m3 c3)) (w1.heap.size + 1) t z1 from Blk.other HX.out (p := ⟨w2.heap.size, 7, none⟩) (by simp; omega) (.slice A3 m3 c3))
                  have HXC := Lib.hid (show Blk (W2.setCell ⟨w2.heap.size, 7, none⟩ (.slice A3 m3 c3)) w2.heap.size 27 #[.string k, .int .i64 i.c, .int .i64 i.s, .int .i64 i.e, .string d, .bool (g == 1), .slice A5 l.length c5, .slice A3 m3 c3] from Blk.set HXC.out 7 (.slice A3 m3 c3) rfl)
                  have HO := Lib.hid (own_other (i := 7) (u := (.slice A3 m3 c3)) HO.out (show w2.heap.size < w9.heap.size by omega))
                  have HC := Lib.hid (show Blk (W2.setCell ⟨w2.heap.size, 7, none⟩ (.slice A3 m3 c3)) w.heap.size 29 #[.string ⟨#[]⟩, .int .i64 0, .int .i64 0, .int .i64 0, .string ⟨#[]⟩, .bool false, .slice none 0 0, .slice none 0 0, .int .i64 0] from Blk.other HC.out (p := ⟨w2.heap.size, 7, none⟩) (by simp; omega) (.slice A3 m3 c3))
                  have HB := Lib.hid (HB.out.setCell (p := ⟨w2.heap.size, 7, none⟩) (show w.heap.size ≤ w2.heap.size by omega) (.slice A3 m3 c3))
                  have HD := Lib.hid (HD.out.keep fun k h1 h2 h3 => heap_setCell_other W2 ⟨w2.heap.size, 7, none⟩ k (.slice A3 m3 c3) (by simp; omega))
                  have hz9 : w9.heap.size ≤ (W2.setCell ⟨w2.heap.size, 7, none⟩ (.slice A3 m3 c3)).heap.size := by rw [World.size_setCell]; exact hz9
                  clear y0 y7 yf
                  refine wpAnyH_done (by kernel_rfl) ?_ _
                  go_wp2_with fail
                  go_roundw
                  case rel => exact ⟨mm2 - 1, z1, o2 ++ [ky], .slice A3 m3 c3, by go_num, by omega, by omega, Lib.hid ⟨by rw [HKK2.out]; exact HT2.out, HOK3.out, HX.out, HXC.out, by simpa using HO.out, HC.out, HB.out, HD.out, hz9⟩⟩
                  case measure => simp [intOf]; omega
                · go_simp
                  have HX := Lib.hid (HX.out.alloc (.cells #[.string ky] 9))
                  have HXC := Lib.hid (HXC.out.alloc (.cells #[.string ky] 9))
                  have HO := Lib.hid (Str.own_alloc HO.out (.cells #[.string ky] 9))
                  have HC := Lib.hid (HC.out.alloc (.cells #[.string ky] 9))
                  have HB := Lib.hid (HB.out.alloc HB.out.size (.cells #[.string ky] 9))
                  have HD := Lib.hid (HD.out.step ((Below.refl _ w10).alloc (Nat.le_refl _) (.cells #[.string ky] 9)) (.inr (Nat.le_refl _)))
                  have HNL := Lib.hid (show Str.Lies (w10.alloc (.cells #[.string ky] 9)) (w10.alloc (.cells #[.string ky] 9)).heap.size (some ⟨w10.heap.size, 0, none⟩) [ky] from Str.new_lies w10 [ky])
                  have hz9 : w9.heap.size ≤ (w10.alloc (.cells #[.string ky] 9)).heap.size := by simp; omega
                  refine hK.out _ _ ?_ (fun hHeld => ?_)
                  · trivial
                  clear hK K
                  try simp only [Act.put, List.setIfInBounds_toArray, List.set_cons_zero, List.set_cons_succ, List.getElem_toArray, List.getElem_cons_succ, List.getElem_cons_zero]
                  generalize World.alloc w10 _ = w11 at HX HXC HO HC HB HD HNL hz9 hHeld ⊢
                  refine wpAnyH_ready (rs := [1]) (by kernel_rfl) (by simp) ?_
                  refine AllReadyH.cons rfl (fun K hK => ?_) AllReadyH.nil
                  have y7 := HXC.out.cell 7
                  go_simp
                  refine hK.out _ _ ?_ (fun hHeld => ?_)
                  · trivial
                  clear hK K
                  try simp only [Act.put, List.setIfInBounds_toArray, List.set_cons_zero, List.set_cons_succ, List.getElem_toArray, List.getElem_cons_succ, List.getElem_cons_zero]
                  clear y7
                  refine wpAnyH_ready (rs := [5]) (by kernel_rfl) (by simp) ?_
                  refine AllReadyH.cons rfl (fun K hK => ?_) AllReadyH.nil
                  refine wanted_now (by rfl) ?_
                  refine Str.wp_append_strs rfl rfl [ky] rfl rfl rfl HO.out HNL.out (by have := HLN2.out; simp; omega) hz9 ?_
                  intro v3' W2 ho2 hg2
                  obtain ⟨A3, m3, c3, ev3⟩ := str_slice ho2
                  subst ev3
                  have HX := Lib.hid (show RdrS W2 (w1.heap.size + 1) t z1 from (hg2.block _ HX.out.lt (Str.blk_not_row HX.out (by decide) HO.out)).trans HX.out)
                  have HXC := Lib.hid (show Blk W2 w2.heap.size 27 #[.string k, .int .i64 i.c, .int .i64 i.s, .int .i64 i.e, .string d, .bool (g == 1), .slice A5 l.length c5, v2] from (hg2.block _ HXC.out.lt (Str.blk_not_row HXC.out (by decide) HO.out)).trans HXC.out)
                  have HC := Lib.hid (show Blk W2 w.heap.size 29 #[.string ⟨#[]⟩, .int .i64 0, .int .i64 0, .int .i64 0, .string ⟨#[]⟩, .bool false, .slice none 0 0, .slice none 0 0, .int .i64 0] from (hg2.block _ HC.out.lt (Str.blk_not_row HC.out (by decide) HO.out)).trans HC.out)
                  have HB := Lib.hid (HB.out.grown hg2 HB.out.size (fun j e => by have := Str.ownBlock_base HO.out j e; omega))
                  have HD := Lib.hid (HD.out.keep fun k h1 h2 h3 => hg2.block k h3 (fun e => by have := Str.ownBlock_base HO.out k e.symm; omega))
                  have hz9 : w9.heap.size ≤ W2.heap.size := Nat.le_trans hz9 hg2.size
                  have HO := Lib.hid ho2
                  clear ho2 hg2
                  refine hK.out _ _ ?_ (fun hHeld => ?_)
                  · trivial
                  clear hK K
                  try simp only [Act.put, List.setIfInBounds_toArray, List.set_cons_zero, List.set_cons_succ, List.getElem_toArray, List.getElem_cons_succ, List.getElem_cons_zero]
                  refine wpAnyH_take (i := 6) (v := ?_) rfl (by kernel_rfl) (by kernel_rfl) (by kernel_rfl) (fun _ _ _ h => h) (Or.inl ⟨by rfl, ?_⟩) hHeld ?_
                  rotate_left
                  · intro V hSw
                    go_simp
                    try with_reducible rfl
                  try simp only [Act.put, List.setIfInBounds_toArray, List.set_cons_zero, List.set_cons_succ, List.getElem_toArray, List.getElem_cons_succ, List.getElem_cons_zero]
                  refine wpAnyH_ready (rs := [7]) (by kernel_rfl) (by simp) ?_
                  refine AllReadyH.cons rfl (fun K hK => ?_) AllReadyH.nil
                  have y0 := HXC.out.cell 0
                  have y7 := HXC.out.cell 7
                  have yf := HXC.out.free
                  go_simp
                  refine hK.out _ _ ?_ (fun hHeld => ?_)
                  · trivial
                  clear hK K
                  try simp only [Act.put, List.setIfInBounds_toArray, List.set_cons_zero, List.set_cons_succ, List.getElem_toArray, List.getElem_cons_succ, List.getElem_cons_zero]
                  have HX := Lib.hid (show RdrS (W2.setCell ⟨w2.heap.size, 7, none⟩ (.slice A3 m3 c3)) (w1.heap.size + 1) t z1 from Blk.other HX.out (p := ⟨w2.heap.size, 7, none⟩) (by simp; omega) (.slice A3 m3 c3))
                  have HXC := Lib.hid (show Blk (W2.setCell ⟨w2.heap.size, 7, none⟩ (.slice A3 m3 c3)) w2.heap.size 27 #[.string k, .int .i64 i.c, .int .i64 i.s, .int .i64 i.e, .string d, .bool (g == 1), .slice A5 l.length c5, .slice A3 m3 c3] from Blk.set HXC.out 7 (.slice A3 m3 c3) rfl)
                  have HO := Lib.hid (own_other (i := 7) (u := (.slice A3 m3 c3)) HO.out (show w2.heap.size < w9.heap.size by omega))
                  have HC := Lib.hid (show Blk (W2.setCell ⟨w2.heap.size, 7, none⟩ (.slice A3 m3 c3)) w.heap.size 29 #[.string ⟨#[]⟩, .int .i64 0, .int .i64 0, .int .i64 0, .string ⟨#[]⟩, .bool false, .slice none 0 0, .slice none 0 0, .int .i64 0] from Blk.other HC.out (p := ⟨w2.heap.size, 7, none⟩) (by simp; omega) (.slice A3 m3 c3))
                  have HB := Lib.hid (HB.out.setCell (p := ⟨w2.heap.size, 7, none⟩) (show w.heap.size ≤ w2.heap.size by omega) (.slice A3 m3 c3))
                  have HD := Lib.hid (HD.out.keep fun k h1 h2 h3 => heap_setCell_other W2 ⟨w2.heap.size, 7, none⟩ k (.slice A3 m3 c3) (by simp; omega))
                  have hz9 : w9.heap.size ≤ (W2.setCell ⟨w2.heap.size, 7, none⟩ (.slice A3 m3 c3)).heap.size := by rw [World.size_setCell]; exact hz9
                  clear y0 y7 yf
                  refine wpAnyH_done (by kernel_rfl) ?_ _
                  go_wp2_with fail
                  go_roundw
                  case rel => exact ⟨mm2 - 1, z1, o2 ++ [ky], .slice A3 m3 c3, by go_num, by omega, by omega, Lib.hid ⟨by rw [HKK2.out]; exact HT2.out, HOK3.out, HX.out, HXC.out, by simpa using HO.out, HC.out, HB.out, HD.out, hz9⟩⟩
                  case measure => simp [intOf]; omega
            | true =>
              have HE2 : Hid (sKs t m.toNat x7 = (o2, ⟨ya2, true⟩)) := Lib.hid (by have := HR2.out.1; rw [sKs_bad t mm2.toNat (x := ⟨ya2, true⟩) rfl] at this; simpa using this)
              obtain ⟨hbl, hx8⟩ : bl = o2 ∧ x8 = ⟨ya2, true⟩ := by
                have := HE8.out.symm.trans HE2.out
                simpa using this
              subst hbl hx8
              have HO := Lib.hid HR2.out.2.2.2.2.1
              have HX := Lib.hid HR2.out.2.2.1
              have HC := Lib.hid HR2.out.2.2.2.2.2.1
              have HB := Lib.hid HR2.out.2.2.2.2.2.2.1
              have HD := Lib.hid HR2.out.2.2.2.2.2.2.2.1
              have hz9 := HR2.out.2.2.2.2.2.2.2.2
              obtain ⟨_, A6, c6, ev6, hq6, _⟩ := Str.own_lies HO.out
              subst ev6
              have HXC := Lib.hid (show Blk wr w2.heap.size 27 (cellsV ⟨k, i, d, g == 1, l, bl⟩ ⟨A5, c5, A6, c6⟩) from HR2.out.2.2.2.1)
              have HH := Lib.hid (strHeld_of_own HO.out)
              clear HR2 HO HE2 HE8
              have hrr : rr = zeroR := by rcases HRD.out with h | h; exact absurd h.1 (by simp); exact h.2.1
              have hrc : rc = 3 := by rcases HRD.out with h | h; exact absurd h.1 (by simp); exact h.2.2
              have z2 : wr.cell? ⟨w1.heap.size + 1, 2, none⟩ = some (.bool true) := HX.out.cell 2
              have hc0 : wr.cell? ⟨w.heap.size, 0, none⟩ = some (.string ⟨#[]⟩) := HC.out.cell 0
              have hc1 : wr.cell? ⟨w.heap.size, 1, none⟩ = some (.int .i64 0) := HC.out.cell 1
              have hc2 : wr.cell? ⟨w.heap.size, 2, none⟩ = some (.int .i64 0) := HC.out.cell 2
              have hc3 : wr.cell? ⟨w.heap.size, 3, none⟩ = some (.int .i64 0) := HC.out.cell 3
              have hc4 : wr.cell? ⟨w.heap.size, 4, none⟩ = some (.string ⟨#[]⟩) := HC.out.cell 4
              have hc5 : wr.cell? ⟨w.heap.size, 5, none⟩ = some (.bool false) := HC.out.cell 5
              have hc6 : wr.cell? ⟨w.heap.size, 6, none⟩ = some (.slice none 0 0) := HC.out.cell 6
              have hc7 : wr.cell? ⟨w.heap.size, 7, none⟩ = some (.slice none 0 0) := HC.out.cell 7
              have hc8 : wr.cell? ⟨w.heap.size, 8, none⟩ = some (.int .i64 0) := HC.out.cell 8
              have hcf := HC.out.free
              have hcl := HC.out.lt
              have HRR := Lib.hid hrr
              have HRC := Lib.hid hrc
              clear hrr hrc
              go_wp2_with fail
              have hrr := HRR.out
              have hrc := HRC.out
              refine bodyPost_ret (v := outR zeroR ⟨none, 0, none, 0⟩ 3) (by simp [results, Tryz.results4, go_sem, hc0, hc1, hc2, hc3, hc4, hc5, hc6, hc7, hc8, hcl, outR, zeroR]) rfl ?_
              rw [hrr, hrc]
              exact reads_touch (((((((((Touch.refl _ wr).set 0 _).set 1 _).set 2 _).set 3 _).set 4 _).set 5 _).set 6 _ |>.set 7 _).set 8 _) HB.out
          · have hmz : mm2.toNat = 0 := by omega
            have HMZ := Lib.hid hmz
            clear hmz
            cases yb2 with
            | true =>
              have HE2 : Hid (sKs t m.toNat x7 = (o2, ⟨ya2, true⟩)) := Lib.hid (by have := HR2.out.1; rw [sKs_bad t mm2.toNat (x := ⟨ya2, true⟩) rfl] at this; simpa using this)
              obtain ⟨hbl, hx8⟩ : bl = o2 ∧ x8 = ⟨ya2, true⟩ := by
                have := HE8.out.symm.trans HE2.out
                simpa using this
              subst hbl hx8
              have HO := Lib.hid HR2.out.2.2.2.2.1
              have HX := Lib.hid HR2.out.2.2.1
              have HC := Lib.hid HR2.out.2.2.2.2.2.1
              have HB := Lib.hid HR2.out.2.2.2.2.2.2.1
              have HD := Lib.hid HR2.out.2.2.2.2.2.2.2.1
              have hz9 := HR2.out.2.2.2.2.2.2.2.2
              obtain ⟨_, A6, c6, ev6, hq6, _⟩ := Str.own_lies HO.out
              subst ev6
              have HXC := Lib.hid (show Blk wr w2.heap.size 27 (cellsV ⟨k, i, d, g == 1, l, bl⟩ ⟨A5, c5, A6, c6⟩) from HR2.out.2.2.2.1)
              have HH := Lib.hid (strHeld_of_own HO.out)
              clear HR2 HO HE2 HE8
              have hrr : rr = zeroR := by rcases HRD.out with h | h; exact absurd h.1 (by simp); exact h.2.1
              have hrc : rc = 3 := by rcases HRD.out with h | h; exact absurd h.1 (by simp); exact h.2.2
              have z2 : wr.cell? ⟨w1.heap.size + 1, 2, none⟩ = some (.bool true) := HX.out.cell 2
              have hc0 : wr.cell? ⟨w.heap.size, 0, none⟩ = some (.string ⟨#[]⟩) := HC.out.cell 0
              have hc1 : wr.cell? ⟨w.heap.size, 1, none⟩ = some (.int .i64 0) := HC.out.cell 1
              have hc2 : wr.cell? ⟨w.heap.size, 2, none⟩ = some (.int .i64 0) := HC.out.cell 2
              have hc3 : wr.cell? ⟨w.heap.size, 3, none⟩ = some (.int .i64 0) := HC.out.cell 3
              have hc4 : wr.cell? ⟨w.heap.size, 4, none⟩ = some (.string ⟨#[]⟩) := HC.out.cell 4
              have hc5 : wr.cell? ⟨w.heap.size, 5, none⟩ = some (.bool false) := HC.out.cell 5
              have hc6 : wr.cell? ⟨w.heap.size, 6, none⟩ = some (.slice none 0 0) := HC.out.cell 6
              have hc7 : wr.cell? ⟨w.heap.size, 7, none⟩ = some (.slice none 0 0) := HC.out.cell 7
              have hc8 : wr.cell? ⟨w.heap.size, 8, none⟩ = some (.int .i64 0) := HC.out.cell 8
              have hcf := HC.out.free
              have hcl := HC.out.lt
              have HRR := Lib.hid hrr
              have HRC := Lib.hid hrc
              clear hrr hrc
              go_wp2_with fail
              have hrr := HRR.out
              have hrc := HRC.out
              refine bodyPost_ret (v := outR zeroR ⟨none, 0, none, 0⟩ 3) (by simp [results, Tryz.results4, go_sem, hc0, hc1, hc2, hc3, hc4, hc5, hc6, hc7, hc8, hcl, outR, zeroR]) rfl ?_
              rw [hrr, hrc]
              exact reads_touch (((((((((Touch.refl _ wr).set 0 _).set 1 _).set 2 _).set 3 _).set 4 _).set 5 _).set 6 _ |>.set 7 _).set 8 _) HB.out
            | false =>
              have HE2 : Hid (sKs t m.toNat x7 = (o2, ⟨ya2, false⟩)) := Lib.hid (by have := HR2.out.1; rw [HMZ.out] at this; simpa [sKs] using this)
              obtain ⟨hbl, hx8⟩ : bl = o2 ∧ x8 = ⟨ya2, false⟩ := by
                have := HE8.out.symm.trans HE2.out
                simpa using this
              subst hbl hx8
              have HO := Lib.hid HR2.out.2.2.2.2.1
              have HX := Lib.hid HR2.out.2.2.1
              have HC := Lib.hid HR2.out.2.2.2.2.2.1
              have HB := Lib.hid HR2.out.2.2.2.2.2.2.1
              have HD := Lib.hid HR2.out.2.2.2.2.2.2.2.1
              have hz9 := HR2.out.2.2.2.2.2.2.2.2
              obtain ⟨_, A6, c6, ev6, hq6, _⟩ := Str.own_lies HO.out
              subst ev6
              have HXC := Lib.hid (show Blk wr w2.heap.size 27 (cellsV ⟨k, i, d, g == 1, l, bl⟩ ⟨A5, c5, A6, c6⟩) from HR2.out.2.2.2.1)
              have HH := Lib.hid (strHeld_of_own HO.out)
              clear HR2 HO HE2 HE8
              have HL := Lib.hid (show Lies wr wr.heap.size ⟨k, i, d, g == 1, l, bl⟩ ⟨A5, c5, A6, c6⟩ from ⟨HD.out.lies (by omega), HH.out.lies (Nat.le_refl _)⟩)
              have z2 : wr.cell? ⟨w1.heap.size + 1, 2, none⟩ = some (.bool false) := HX.out.cell 2
              obtain ⟨x0, x1', x2', x3', x4', x5', x6', x7'⟩ := cells8 (r := ⟨k, i, d, g == 1, l, bl⟩) (p := ⟨A5, c5, A6, c6⟩) HXC.out
              have xf := HXC.out.free
              have xl := HXC.out.lt
              rcases HRD.out with ⟨-, hbs, hrr, hrc⟩ | ⟨hor, hrr, hrc⟩
              · have HRR := Lib.hid hrr
                have HRC := Lib.hid hrc
                have HBY2 := Lib.hid (HBY.out ⟨A5, c5, A6, c6⟩ wr HL.out)
                rw [hbs] at HBY2
                unfold recV at HBY2
                dsimp only at HBY2
                clear hrr hrc hbs
                have e1 : (s.toList == s.toList) = true := beq_self_eq_true _
                have e2 : (s.toList != s.toList) = false := by simp
                go_wp2_with fail
                refine HBY2.out.mono ?_
                rintro e w3' ⟨rfl, hb⟩
                have HB := Lib.hid (HB.out.trans (hb.mono HB.out.size))
                have HC := Lib.hid (HC.out.on hb)
                have HXC := Lib.hid (HXC.out.on hb)
                have HH := Lib.hid (HH.out.step hb (.inl (Nat.le_refl _)))
                have HD := Lib.hid (HD.out.step hb (.inl (by omega)))
                have hz3 : wr.heap.size ≤ w3'.heap.size := hb.size
                clear hb x0 x1' x2' x3' x4' x5' x6' x7' xf xl z2
                have hc0 : w3'.cell? ⟨w.heap.size, 0, none⟩ = some (.string ⟨#[]⟩) := HC.out.cell 0
                have hc1 : w3'.cell? ⟨w.heap.size, 1, none⟩ = some (.int .i64 0) := HC.out.cell 1
                have hc2 : w3'.cell? ⟨w.heap.size, 2, none⟩ = some (.int .i64 0) := HC.out.cell 2
                have hc3 : w3'.cell? ⟨w.heap.size, 3, none⟩ = some (.int .i64 0) := HC.out.cell 3
                have hc4 : w3'.cell? ⟨w.heap.size, 4, none⟩ = some (.string ⟨#[]⟩) := HC.out.cell 4
                have hc5 : w3'.cell? ⟨w.heap.size, 5, none⟩ = some (.bool false) := HC.out.cell 5
                have hc6 : w3'.cell? ⟨w.heap.size, 6, none⟩ = some (.slice none 0 0) := HC.out.cell 6
                have hc7 : w3'.cell? ⟨w.heap.size, 7, none⟩ = some (.slice none 0 0) := HC.out.cell 7
                have hc8 : w3'.cell? ⟨w.heap.size, 8, none⟩ = some (.int .i64 0) := HC.out.cell 8
                have hcf := HC.out.free
                have hcl := HC.out.lt
                obtain ⟨x0, x1', x2', x3', x4', x5', x6', x7'⟩ := cells8 (r := ⟨k, i, d, g == 1, l, bl⟩) (p := ⟨A5, c5, A6, c6⟩) HXC.out
                have xf := HXC.out.free
                have xl := HXC.out.lt
                go_wp2_with fail
                refine bodyPost_ret (v := outR ⟨k, i, d, g == 1, l, bl⟩ ⟨A5, c5, A6, c6⟩ 0) (by simp [results, Tryz.results4, go_sem, hc0, hc1, hc2, hc3, hc4, hc5, hc6, hc7, hc8, hcl, outR, zeroR]) rfl ?_
                rw [HRR.out, HRC.out]
                exact reads_rec (((((((((Touch.refl _ w3').set 0 _).set 1 _).set 2 _).set 3 _).set 4 _).set 5 _).set 6 _ |>.set 7 _).set 8 _) (show w.heap.size < w2.heap.size + 1 by omega) hz3 ⟨HD.out.wide (Nat.le_refl _) (by omega), HH.out.wide (by omega) (Nat.le_refl _)⟩ hq5 hq6 HB.out
              · have hbs : ¬ bytesV ⟨k, i, d, g == 1, l, bl⟩ = s := by rcases hor with h | h; cases h; exact h
                have HRR := Lib.hid hrr
                have HRC := Lib.hid hrc
                have HBY2 := Lib.hid (HBY.out ⟨A5, c5, A6, c6⟩ wr HL.out)
                obtain ⟨yy, hyy⟩ : ∃ yy, bytesV ⟨k, i, d, g == 1, l, bl⟩ = yy := ⟨_, rfl⟩
                rw [hyy] at HBY2 hbs
                unfold recV at HBY2
                dsimp only at HBY2
                clear hrr hrc hyy
                have e1 : (yy.toList == s.toList) = false := Seal.str_ne hbs
                have e2 : (yy.toList != s.toList) = true := by simp [bne, e1]
                clear hbs
                go_wp2_with fail
                refine HBY2.out.mono ?_
                rintro e w3' ⟨rfl, hb⟩
                have HB := Lib.hid (HB.out.trans (hb.mono HB.out.size))
                have HC := Lib.hid (HC.out.on hb)
                clear hb x0 x1' x2' x3' x4' x5' x6' x7' xf xl z2
                have hc0 : w3'.cell? ⟨w.heap.size, 0, none⟩ = some (.string ⟨#[]⟩) := HC.out.cell 0
                have hc1 : w3'.cell? ⟨w.heap.size, 1, none⟩ = some (.int .i64 0) := HC.out.cell 1
                have hc2 : w3'.cell? ⟨w.heap.size, 2, none⟩ = some (.int .i64 0) := HC.out.cell 2
                have hc3 : w3'.cell? ⟨w.heap.size, 3, none⟩ = some (.int .i64 0) := HC.out.cell 3
                have hc4 : w3'.cell? ⟨w.heap.size, 4, none⟩ = some (.string ⟨#[]⟩) := HC.out.cell 4
                have hc5 : w3'.cell? ⟨w.heap.size, 5, none⟩ = some (.bool false) := HC.out.cell 5
                have hc6 : w3'.cell? ⟨w.heap.size, 6, none⟩ = some (.slice none 0 0) := HC.out.cell 6
                have hc7 : w3'.cell? ⟨w.heap.size, 7, none⟩ = some (.slice none 0 0) := HC.out.cell 7
                have hc8 : w3'.cell? ⟨w.heap.size, 8, none⟩ = some (.int .i64 0) := HC.out.cell 8
                have hcf := HC.out.free
                have hcl := HC.out.lt
                go_wp2_with fail
                refine bodyPost_ret (v := outR zeroR ⟨none, 0, none, 0⟩ 3) (by simp [results, Tryz.results4, go_sem, hc0, hc1, hc2, hc3, hc4, hc5, hc6, hc7, hc8, hcl, outR, zeroR]) rfl ?_
                rw [HRR.out, HRC.out]
                exact reads_touch (((((((((Touch.refl _ w3').set 0 _).set 1 _).set 2 _).set 3 _).set 4 _).set 5 _).set 6 _ |>.set 7 _).set 8 _) HB.out
  · have hR : rdR s = zeroR := by unfold rdR; rw [if_neg (fun e => hc e.1)]
    have hC : rdC s = Seal.unC s := by unfold rdC; rw [if_neg hc]
    rw [hR, hC]
    clear hR hC
    generalize Seal.unC s = c at *
    generalize Seal.unT s = body at *
    go_enter Tryz.func4, Tryz.ntmps4
    go_wp2_with fail
    refine (HU.out _).mono ?_
    rintro e w1 ⟨rfl, hb⟩
    have HB1 := Lib.hid (HB0.out.trans (hb.mono HB0.out.size))
    have HC1 := Lib.hid (HC0.out.on hb)
    clear hb
    have k1 : (c == 0) = false := beq_eq_false_iff_ne.2 hc
    have k2 : (c != 0) = true := bne_iff_ne.2 hc
    have hc0 : w1.cell? ⟨w.heap.size, 0, none⟩ = some (.string ⟨#[]⟩) := HC1.out.cell 0
    have hc1 : w1.cell? ⟨w.heap.size, 1, none⟩ = some (.int .i64 0) := HC1.out.cell 1
    have hc2 : w1.cell? ⟨w.heap.size, 2, none⟩ = some (.int .i64 0) := HC1.out.cell 2
    have hc3 : w1.cell? ⟨w.heap.size, 3, none⟩ = some (.int .i64 0) := HC1.out.cell 3
    have hc4 : w1.cell? ⟨w.heap.size, 4, none⟩ = some (.string ⟨#[]⟩) := HC1.out.cell 4
    have hc5 : w1.cell? ⟨w.heap.size, 5, none⟩ = some (.bool false) := HC1.out.cell 5
    have hc6 : w1.cell? ⟨w.heap.size, 6, none⟩ = some (.slice none 0 0) := HC1.out.cell 6
    have hc7 : w1.cell? ⟨w.heap.size, 7, none⟩ = some (.slice none 0 0) := HC1.out.cell 7
    have hc8 : w1.cell? ⟨w.heap.size, 8, none⟩ = some (.int .i64 0) := HC1.out.cell 8
    have hcf := HC1.out.free
    have hcl := HC1.out.lt
    go_wp2_with fail
    refine bodyPost_ret (v := outR zeroR ⟨none, 0, none, 0⟩ c) (by simp [results, Tryz.results4, go_sem, hc0, hc1, hc2, hc3, hc4, hc5, hc6, hc7, hc8, hcl, outR, zeroR]) rfl ?_
    exact reads_alloc (((((((((Touch.refl _ w1).set 0 _).set 1 _).set 2 _).set 3 _).set 4 _).set 5 _).set 6 _ |>.set 7 _).set 8 _) HB1.out _
end Go.Proofs.YtkmlnibkdcdegaaGreatDoor.Rec
