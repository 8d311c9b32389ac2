/-
  FnExactStoreGet answers true at every slice of rows and every string.
-/
import Derived.Test.YtlhebgfiljmeiaaRowGet
import Derived.Test.YtlhebgfiljmeiaaRowRightLaw
namespace Go.Proofs.Ytlhebgfiljmeiaa.Sto
open Go.ChangeShapes Go.WideShapes Go.ChangeAt Go.RowKit
set_option linter.unusedVariables false
set_option maxRecDepth 100000

set_option maxHeartbeats 1000000 in
theorem lawGet_any (A : Option Addr) (l : List R) (cap : Nat) (q : ByteArray) (hq : q.size ≤ maxLen) (w : World) (h : IsRows w A l cap) :
    Calls Try.prog 5 #[slV A l cap, .string q] w fun e w' => e = .returned (.bool true) ∧ Below w.heap.size w w' := by
  obtain ⟨hl, hm, h, hs⟩ := h
  have hlm : l.length ≤ maxLen := by omega
  have hk : ∀ d ∈ l, Fits d := fun d hd => (hs d hd).fits
  have H := Lib.hid h
  have HK := Lib.hid hk
  clear h hs hk
  have hq2 := hq
  unfold maxLen at hq2
  by_cases hqq : 1048576 < q.size
  · go_enter Try.func5, Try.ntmps5
    go_wp2_with fail
    go_ret
    exact ⟨rfl, Below.refl _ _⟩
  go_enter Try.func5, Try.ntmps5
  go_wp2_with fail
  refine (szRowS_any A l cap 1048576 w H.out hlm HK.out (by omega) (by omega)).mono ?_
  rintro e w1 ⟨r, rfl, hr, hb1⟩
  have B1 := Lib.hid hb1
  clear hb1
  rcases hr with rfl | ⟨hr0, hr1, hr2, hr3⟩
  · go_wp2_with fail
    go_ret
    exact ⟨rfl, B1.out⟩
  have hl0 : l.length ≤ 1048576 := by omega
  have hr00 : ¬ r < 0 := by omega
  clear hr3
  go_wp2_with fail
  refine (toRowS_any A l cap _ ((H.out.below B1.out (Nat.le_refl _)).more B1.out.size) hl0).mono ?_
  rintro e w2 ⟨g2, rfl, hg2, ho2, hb2⟩
  have B2 := Lib.hid (B1.out.trans (hb2.mono B1.out.size))
  have L2 := Lib.hid (ho2.lies ho2.lt)
  clear hb2
  go_wp2_with fail
  refine (specStoreGet_any _ l l.length q _ L2.out hlm HK.out).mono ?_
  rintro e w3 ⟨rfl, hb3⟩
  have B3 := Lib.hid (B2.out.trans (hb3.mono B2.out.size))
  clear hb3 ho2
  obtain ⟨x, hx⟩ : ∃ x, tellV l q = x := ⟨_, rfl⟩
  have HX := Lib.hid hx
  rw [hx]
  clear hx
  have X3 := Lib.hid (RowRow.new w3 39 x)
  have B3 := Lib.hid (B3.out.alloc B3.out.size x.obj)
  unfold R.val
  go_wp2_with fail
  generalize World.alloc w3 _ = w3a at X3 B3 ⊢
  refine (toRowS_any A l cap _ ((H.out.below B3.out (Nat.le_refl _)).more B3.out.size) hl0).mono ?_
  rintro e w4 ⟨g4, rfl, hg4, ho4, hb4⟩
  have B4 := Lib.hid (B3.out.trans (hb4.mono B3.out.size))
  have X4 := Lib.hid (X3.out.on hb4)
  have L4 := Lib.hid (ho4.lies ho4.lt)
  clear hb4
  go_wp2_with fail
  refine (implStoreGet_any _ l l.length q _ L4.out hl0 HK.out hq).mono ?_
  rintro e w5 ⟨rfl, hb5⟩
  have B5 := Lib.hid (B4.out.trans (hb5.mono B4.out.size))
  have X5 := Lib.hid (X4.out.on hb5)
  have L5 := Lib.hid ((L4.out.below hb5 (Nat.le_refl _)).more hb5.size)
  clear hb5 ho4
  rw [HX.out]
  have Y5 := Lib.hid (RowRow.new w5 39 x)
  have B5 := Lib.hid (B5.out.alloc B5.out.size x.obj)
  have X5 := Lib.hid (X5.out.alloc x.obj)
  have L5 := Lib.hid ((L5.out.alloc (Nat.le_refl _) x.obj).more (by simp) : Lies (w5.alloc x.obj) (w5.alloc x.obj).heap.size _ _)
  unfold R.val
  obtain ⟨x0, x1, x2, x3, x4⟩ := X5.out.cells
  obtain ⟨y0, y1, y2, y3, y4⟩ := Y5.out.cells
  go_wp2_with fail
  clear x0 x1 x2 x3 x4 y0 y1 y2 y3 y4
  generalize World.alloc w5 _ = w5a at X5 Y5 B5 L5 ⊢
  refine (eqRow_same x _).mono ?_
  rintro e w6 ⟨rfl, hb6⟩
  have B6 := Lib.hid (B5.out.trans (hb6.mono B5.out.size))
  have L6 := Lib.hid ((L5.out.below hb6 (Nat.le_refl _)).more hb6.size)
  clear hb6
  go_wp2_with fail
  refine (toRowS_any A l cap _ ((H.out.below B6.out (Nat.le_refl _)).more B6.out.size) hl0).mono ?_
  rintro e w7 ⟨g7, rfl, hg7, ho7, hb7⟩
  have B7 := Lib.hid (B6.out.trans (hb7.mono B6.out.size))
  have L7 := Lib.hid (ho7.lies ho7.lt)
  have L67 := Lib.hid ((L6.out.below hb7 (Nat.le_refl _)).more hb7.size)
  clear hb7 ho7
  go_wp2_with fail
  refine (eqRowS_same _ _ l l.length l.length _ L67.out L7.out hlm).mono ?_
  rintro e w8 ⟨rfl, hb8⟩
  have B8 := Lib.hid (B7.out.trans (hb8.mono B7.out.size))
  clear hb8
  go_wp2_with fail
  go_ret
  exact ⟨rfl, B8.out⟩
end Go.Proofs.Ytlhebgfiljmeiaa.Sto
