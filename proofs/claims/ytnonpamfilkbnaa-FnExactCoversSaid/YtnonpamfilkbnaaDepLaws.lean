/-
  FnExactDepOf, FnExactClockOf, FnExactCovers answer true at every slice of deps.
-/
import Derived.Test.YtnonpamfilkbnaaDepICov
import Derived.Test.YtnonpamfilkbnaaDepOpen
namespace Go.Proofs.Ytnonpamfilkbnaa.Dep
open Go.ChangeShapes Go.WideShapes Go.ChangeAt Go.RowKit
set_option linter.unusedVariables false

theorem eqIdI_same (x : I) (w : World) :
    Calls Try.prog 33 #[x.val, x.val] w fun e w' => e = .returned (.bool true) ∧ Below w.heap.size w w' := Id.eqId_same x.c x.s x.e w

theorem lawOf_any (A : Option Addr) (l : List D) (cap : Nat) (q : ByteArray) (hq : q.size ≤ maxLen) (w : World) (h : IsDeps w A l cap) :
    Calls Try.prog 6 #[slV A l cap, .string q] w fun e w' => e = .returned (.bool true) ∧ Below w.heap.size w w' := by
  obtain ⟨hl, hm, h, hs⟩ := h
  have hlm : l.length ≤ maxLen := by omega
  have hk : ∀ d ∈ l, d.k.size ≤ maxLen := fun d hd => (hs d hd).1
  have H := Lib.hid h
  have HK := Lib.hid hk
  clear h hs hk
  unfold maxLen at hq
  go_enter Try.func6, Try.ntmps6
  by_cases hq1 : 1048576 < q.size
  · go_wp2_with fail
    go_ret
    exact ⟨rfl, Below.refl _ _⟩
  go_wp2_with fail
  refine (szDepS_any A l cap 1048576 w H.out hlm HK.out (by omega) (by omega)).mono ?_
  rintro e w1 ⟨r, rfl, hr, hb1⟩
  have B1 := Lib.hid hb1
  clear hb1
  rcases hr with rfl | ⟨hr0, hr1, hr2, hr3⟩
  · go_wp2_with fail
    go_ret
    exact ⟨rfl, B1.out⟩
  have hl0 : l.length ≤ 1048576 := by omega
  have hr00 : ¬ r < 0 := by omega
  go_wp2_with fail
  refine (toDepS_any A l cap _ ((H.out.below B1.out (Nat.le_refl _)).more B1.out.size) hl0).mono ?_
  rintro e w2 ⟨g2, rfl, hg2, ho2, hb2⟩
  have B2 := Lib.hid (B1.out.trans (hb2.mono B1.out.size))
  have L2 := Lib.hid (ho2.lies ho2.lt)
  clear hb2
  go_wp2_with fail
  refine (specDepOf_any _ l l.length q _ L2.out hlm HK.out).mono ?_
  rintro e w3 ⟨rfl, hb3⟩
  have B3 := Lib.hid (B2.out.trans (hb3.mono B2.out.size))
  clear hb3 ho2
  obtain ⟨v, hv⟩ : ∃ v, depOf l q = v := ⟨_, rfl⟩
  have HV := Lib.hid hv
  rw [hv]
  clear hv
  unfold I.val Id.idV
  go_wp2_with fail
  have ZZ := Lib.hid (B3.out.alloc B3.out.size (Obj.cells #[Value.int IntKind.i64 v.c, Value.int IntKind.i64 v.s, Value.int IntKind.i64 v.e] 30))
  have R3 := Id.IdRow.new w3 30 v.c v.s v.e
  have sz3 := R3.lt
  refine (toDepS_any A l cap _ ((H.out.below ZZ.out (Nat.le_refl _)).more ZZ.out.size) hl0).mono ?_
  rintro e w4 ⟨g4, rfl, hg4, ho4, hb4⟩
  have B4 := Lib.hid (ZZ.out.trans (hb4.mono ZZ.out.size))
  have L4 := Lib.hid (ho4.lies ho4.lt)
  have R4 := Lib.hid (R3.step hb4 sz3)
  have sz4 := R4.out.lt
  clear hb4 R3
  go_wp2_with fail
  refine (implDepOf_any _ l l.length q _ L4.out hlm HK.out).mono ?_
  rintro e w5 ⟨rfl, hb5⟩
  have B5 := Lib.hid (B4.out.trans (hb5.mono B4.out.size))
  have L5 := Lib.hid ((L4.out.below hb5 (Nat.le_refl _)).more hb5.size)
  have R5 := R4.out.step hb5 sz4
  clear hb5 ho4
  rw [HV.out]
  obtain ⟨y0, y1, y2⟩ := (R5.alloc (Obj.cells #[Value.int IntKind.i64 v.c, Value.int IntKind.i64 v.s, Value.int IntKind.i64 v.e] 30)).cells
  have B6 := Lib.hid (B5.out.alloc B5.out.size (Obj.cells #[Value.int IntKind.i64 v.c, Value.int IntKind.i64 v.s, Value.int IntKind.i64 v.e] 30))
  have L6 := Lib.hid (L5.out.alloc (Nat.le_refl _) (Obj.cells #[Value.int IntKind.i64 v.c, Value.int IntKind.i64 v.s, Value.int IntKind.i64 v.e] 30) |>.more (B' := (World.alloc w5 (Obj.cells #[Value.int IntKind.i64 v.c, Value.int IntKind.i64 v.s, Value.int IntKind.i64 v.e] 30)).heap.size) (by simp))
  clear R5
  unfold I.val Id.idV
  go_wp2_with fail
  refine (eqIdI_same v _).mono ?_
  rintro e w7 ⟨rfl, hb7⟩
  have B7 := Lib.hid (B6.out.trans (hb7.mono B6.out.size))
  have L7 := Lib.hid ((L6.out.below hb7 (Nat.le_refl _)).more hb7.size)
  clear hb7
  go_wp2_with fail
  refine (toDepS_any A l cap _ ((H.out.below B7.out (Nat.le_refl _)).more B7.out.size) hl0).mono ?_
  rintro e w8 ⟨g8, rfl, hg8, ho8, hb8⟩
  have B8 := Lib.hid (B7.out.trans (hb8.mono B7.out.size))
  have L8 := Lib.hid (ho8.lies ho8.lt)
  have L78 := Lib.hid ((L7.out.below hb8 (Nat.le_refl _)).more hb8.size)
  clear hb8 ho8
  go_wp2_with fail
  refine (eqDepS_same _ _ l l.length l.length _ L78.out L8.out hlm).mono ?_
  rintro e w9 ⟨rfl, hb9⟩
  have B9 := Lib.hid (B8.out.trans (hb9.mono B8.out.size))
  clear hb9
  go_wp2_with fail
  go_ret
  exact ⟨rfl, B9.out⟩

theorem lawClock_any (A : Option Addr) (l : List D) (cap : Nat) (w : World) (h : IsDeps w A l cap) :
    Calls Try.prog 10 #[slV A l cap] w fun e w' => e = .returned (.bool true) ∧ Below w.heap.size w w' := by
  obtain ⟨hl, hm, h, hs⟩ := h
  have hlm : l.length ≤ maxLen := by omega
  have hk : ∀ d ∈ l, d.k.size ≤ maxLen := fun d hd => (hs d hd).1
  have H := Lib.hid h
  have HK := Lib.hid hk
  clear h hs hk
  go_enter Try.func10, Try.ntmps10
  go_wp2_with fail
  refine (szDepS_any A l cap 1048576 w H.out hlm HK.out (by omega) (by omega)).mono ?_
  rintro e w1 ⟨r, rfl, hr, hb1⟩
  have B1 := Lib.hid hb1
  clear hb1
  rcases hr with rfl | ⟨hr0, hr1, hr2, hr3⟩
  · go_wp2_with fail
    go_ret
    exact ⟨rfl, B1.out⟩
  have hl0 : l.length ≤ 1048576 := by omega
  have hr00 : ¬ r < 0 := by omega
  go_wp2_with fail
  refine (toDepS_any A l cap _ ((H.out.below B1.out (Nat.le_refl _)).more B1.out.size) hl0).mono ?_
  rintro e w2 ⟨g2, rfl, hg2, ho2, hb2⟩
  have B2 := Lib.hid (B1.out.trans (hb2.mono B1.out.size))
  have L2 := Lib.hid (ho2.lies ho2.lt)
  clear hb2
  go_wp2_with fail
  refine (specClock_any _ l l.length _ L2.out hlm HK.out).mono ?_
  rintro e w3 ⟨rfl, hb3⟩
  have B3 := Lib.hid (B2.out.trans (hb3.mono B2.out.size))
  clear hb3 ho2
  go_wp2_with fail
  refine (toDepS_any A l cap _ ((H.out.below B3.out (Nat.le_refl _)).more B3.out.size) hl0).mono ?_
  rintro e w4 ⟨g4, rfl, hg4, ho4, hb4⟩
  have B4 := Lib.hid (B3.out.trans (hb4.mono B3.out.size))
  have L4 := Lib.hid (ho4.lies ho4.lt)
  clear hb4
  go_wp2_with fail
  refine (implClock_any _ l l.length _ L4.out hlm HK.out).mono ?_
  rintro e w5 ⟨rfl, hb5⟩
  have B5 := Lib.hid (B4.out.trans (hb5.mono B4.out.size))
  have L5 := Lib.hid ((L4.out.below hb5 (Nat.le_refl _)).more hb5.size)
  clear hb5 ho4
  obtain ⟨v, hv⟩ : ∃ v, clockB l = v := ⟨_, rfl⟩
  rw [hv]
  have hee : (v != v) = false := by simp
  go_wp2_with fail
  refine (toDepS_any A l cap _ ((H.out.below B5.out (Nat.le_refl _)).more B5.out.size) hl0).mono ?_
  rintro e w6 ⟨g6, rfl, hg6, ho6, hb6⟩
  have B6 := Lib.hid (B5.out.trans (hb6.mono B5.out.size))
  have L6 := Lib.hid (ho6.lies ho6.lt)
  have L56 := Lib.hid ((L5.out.below hb6 (Nat.le_refl _)).more hb6.size)
  clear hb6 ho6
  go_wp2_with fail
  refine (eqDepS_same _ _ l l.length l.length _ L56.out L6.out hlm).mono ?_
  rintro e w7 ⟨rfl, hb7⟩
  have B7 := Lib.hid (B6.out.trans (hb7.mono B6.out.size))
  clear hb7
  go_wp2_with fail
  go_ret
  exact ⟨rfl, B7.out⟩

theorem lawCovers_any (A : Option Addr) (l : List D) (cap : Nat) (A' : Option Addr) (l' : List D) (cap' : Nat) (w : World) (h : IsDeps w A l cap) (h' : IsDeps w A' l' cap') :
    Calls Try.prog 9 #[slV A l cap, slV A' l' cap'] w fun e w' => e = .returned (.bool true) ∧ Below w.heap.size w w' := by
  obtain ⟨hl, hm, h, hs⟩ := h
  obtain ⟨hl', hm', h', hs'⟩ := h'
  have hlm : l.length ≤ maxLen := by omega
  have hk : ∀ d ∈ l, d.k.size ≤ maxLen := fun d hd => (hs d hd).1
  have hlm' : l'.length ≤ maxLen := by omega
  have hk' : ∀ d ∈ l', d.k.size ≤ maxLen := fun d hd => (hs' d hd).1
  have H := Lib.hid h
  have HK := Lib.hid hk
  have H' := Lib.hid h'
  have HK' := Lib.hid hk'
  clear h hs hk h' hs' hk'
  go_enter Try.func9, Try.ntmps9
  go_wp2_with fail
  refine (szDepS_any A l cap 1048576 w H.out hlm HK.out (by omega) (by omega)).mono ?_
  rintro e w1 ⟨r, rfl, hr, hb1⟩
  have B1 := Lib.hid hb1
  clear hb1
  rcases hr with rfl | ⟨hr0, hr1, hr2, hr3⟩
  · go_wp2_with fail
    go_ret
    exact ⟨rfl, B1.out⟩
  have hl0 : l.length ≤ 1048576 := by omega
  have hr00 : ¬ r < 0 := by omega
  go_wp2_with fail
  refine (szDepS_any A' l' cap' r _ ((H'.out.below B1.out (Nat.le_refl _)).more B1.out.size) hlm' HK'.out hr0 (by omega)).mono ?_
  rintro e v1 ⟨r', rfl, hr', hb1⟩
  have C1 := Lib.hid (B1.out.trans (hb1.mono B1.out.size))
  clear hb1
  rcases hr' with rfl | ⟨hr0', hr1', hr2', hr3'⟩
  · go_wp2_with fail
    go_ret
    exact ⟨rfl, C1.out⟩
  have hl0' : l'.length ≤ 1048576 := by omega
  have hr00' : ¬ r' < 0 := by omega
  go_wp2_with fail
  refine (toDepS_any A l cap _ ((H.out.below C1.out (Nat.le_refl _)).more C1.out.size) hl0).mono ?_
  rintro e w2 ⟨g2, rfl, hg2, ho2, hb2⟩
  have B2 := Lib.hid (C1.out.trans (hb2.mono C1.out.size))
  have L2 := Lib.hid (ho2.lies ho2.lt)
  clear hb2 ho2
  go_wp2_with fail
  refine (toDepS_any A' l' cap' _ ((H'.out.below B2.out (Nat.le_refl _)).more B2.out.size) hl0').mono ?_
  rintro e w3 ⟨g3, rfl, hg3, ho3, hb3⟩
  have B3 := Lib.hid (B2.out.trans (hb3.mono B2.out.size))
  have L23 := Lib.hid ((L2.out.below hb3 (Nat.le_refl _)).more hb3.size)
  have L3 := Lib.hid (ho3.lies ho3.lt)
  clear hb3 ho3
  go_wp2_with fail
  refine (specCovers_any _ _ l l' l.length l'.length _ L23.out L3.out hlm hlm' HK.out HK'.out).mono ?_
  rintro e w4 ⟨rfl, hb4⟩
  have B4 := Lib.hid (B3.out.trans (hb4.mono B3.out.size))
  clear hb4
  go_wp2_with fail
  refine (toDepS_any A l cap _ ((H.out.below B4.out (Nat.le_refl _)).more B4.out.size) hl0).mono ?_
  rintro e w5 ⟨g5, rfl, hg5, ho5, hb5⟩
  have B5 := Lib.hid (B4.out.trans (hb5.mono B4.out.size))
  have L5 := Lib.hid (ho5.lies ho5.lt)
  clear hb5 ho5
  go_wp2_with fail
  refine (toDepS_any A' l' cap' _ ((H'.out.below B5.out (Nat.le_refl _)).more B5.out.size) hl0').mono ?_
  rintro e w6 ⟨g6, rfl, hg6, ho6, hb6⟩
  have B6 := Lib.hid (B5.out.trans (hb6.mono B5.out.size))
  have L56 := Lib.hid ((L5.out.below hb6 (Nat.le_refl _)).more hb6.size)
  have L6 := Lib.hid (ho6.lies ho6.lt)
  clear hb6 ho6
  go_wp2_with fail
  refine (implCovers_any _ _ l l' l.length l'.length _ L56.out L6.out hlm hlm' HK.out HK'.out).mono ?_
  rintro e w7 ⟨rfl, hb7⟩
  have B7 := Lib.hid (B6.out.trans (hb7.mono B6.out.size))
  have L57 := Lib.hid ((L56.out.below hb7 (Nat.le_refl _)).more hb7.size)
  have L67 := Lib.hid ((L6.out.below hb7 (Nat.le_refl _)).more hb7.size)
  clear hb7
  have hee : (covB l l' != covB l l') = false := by simp
  go_wp2_with fail
  refine (toDepS_any A l cap _ ((H.out.below B7.out (Nat.le_refl _)).more B7.out.size) hl0).mono ?_
  rintro e w8 ⟨g8, rfl, hg8, ho8, hb8⟩
  have B8 := Lib.hid (B7.out.trans (hb8.mono B7.out.size))
  have L8 := Lib.hid (ho8.lies ho8.lt)
  have L58 := Lib.hid ((L57.out.below hb8 (Nat.le_refl _)).more hb8.size)
  have L68 := Lib.hid ((L67.out.below hb8 (Nat.le_refl _)).more hb8.size)
  clear hb8 ho8
  go_wp2_with fail
  refine (eqDepS_same _ _ l l.length l.length _ L58.out L8.out hlm).mono ?_
  rintro e w9 ⟨rfl, hb9⟩
  have B9 := Lib.hid (B8.out.trans (hb9.mono B8.out.size))
  have L69 := Lib.hid ((L68.out.below hb9 (Nat.le_refl _)).more hb9.size)
  clear hb9
  go_wp2_with fail
  refine (toDepS_any A' l' cap' _ ((H'.out.below B9.out (Nat.le_refl _)).more B9.out.size) hl0').mono ?_
  rintro e w10 ⟨g10, rfl, hg10, ho10, hb10⟩
  have B10 := Lib.hid (B9.out.trans (hb10.mono B9.out.size))
  have L10 := Lib.hid (ho10.lies ho10.lt)
  have L610 := Lib.hid ((L69.out.below hb10 (Nat.le_refl _)).more hb10.size)
  clear hb10 ho10
  go_wp2_with fail
  refine (eqDepS_same _ _ l' l'.length l'.length _ L610.out L10.out hlm').mono ?_
  rintro e w11 ⟨rfl, hb11⟩
  have B11 := Lib.hid (B10.out.trans (hb11.mono B10.out.size))
  clear hb11
  go_wp2_with fail
  go_ret
  exact ⟨rfl, B11.out⟩
end Go.Proofs.Ytnonpamfilkbnaa.Dep
