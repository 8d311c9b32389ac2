/-
  FnExactStoreRight answers true at every slice of rows.
-/
import Derived.Test.YtlhebgfiljmeiaaRowIRight
import Derived.Test.YtlhebgfiljmeiaaRowOpen
namespace Go.Proofs.Ytlhebgfiljmeiaa.Sto
open Go.ChangeShapes Go.WideShapes Go.ChangeAt Go.RowKit
set_option linter.unusedVariables false
set_option maxRecDepth 100000

theorem Sound.fits {d : R} (h : Sound d) : Fits d := ⟨h.1, h.2.2.2.2⟩

theorem lawRight_any (A : Option Addr) (l : List R) (cap : Nat) (w : World) (h : IsRows w A l cap) :
    Calls Try.prog 3 #[slV A l cap] w fun e w' => e = .returned (.bool true) ∧ Below w.heap.size w w' := by
  obtain ⟨hl, hm, h, hs⟩ := h
  have hlm : l.length ≤ maxLen := by omega
  have hk : ∀ d ∈ l, Fits d := fun d hd => (hs d hd).fits
  have H := Lib.hid h
  have HK := Lib.hid hk
  clear h hs hk
  go_enter Try.func3, Try.ntmps3
  go_wp2_with fail
  refine (szRowS_any A l cap 1048576 w H.out hlm HK.out (by omega) (by omega)).mono ?_
  rintro e w1 ⟨r, rfl, hr, hb1⟩
  have B1 := Lib.hid hb1
  clear hb1
  rcases hr with rfl | ⟨hr0, hr1, hr2, hr3⟩
  · go_wp2_with fail
    go_ret
    exact ⟨rfl, B1.out⟩
  have hl0 : l.length ≤ 1048576 := by omega
  have hr00 : ¬ r < 0 := by omega
  clear hr3
  go_wp2_with fail
  refine (toRowS_any A l cap _ ((H.out.below B1.out (Nat.le_refl _)).more B1.out.size) hl0).mono ?_
  rintro e w2 ⟨g2, rfl, hg2, ho2, hb2⟩
  have B2 := Lib.hid (B1.out.trans (hb2.mono B1.out.size))
  have L2 := Lib.hid (ho2.lies ho2.lt)
  clear hb2
  go_wp2_with fail
  refine (specStore_any _ l l.length _ L2.out hlm HK.out).mono ?_
  rintro e w3 ⟨rfl, hb3⟩
  have B3 := Lib.hid (B2.out.trans (hb3.mono B2.out.size))
  clear hb3 ho2
  go_wp2_with fail
  refine (toRowS_any A l cap _ ((H.out.below B3.out (Nat.le_refl _)).more B3.out.size) hl0).mono ?_
  rintro e w4 ⟨g4, rfl, hg4, ho4, hb4⟩
  have B4 := Lib.hid (B3.out.trans (hb4.mono B3.out.size))
  have L4 := Lib.hid (ho4.lies ho4.lt)
  clear hb4
  go_wp2_with fail
  refine (implStore_any _ l l.length _ L4.out hl0 HK.out).mono ?_
  rintro e w5 ⟨rfl, hb5⟩
  have B5 := Lib.hid (B4.out.trans (hb5.mono B4.out.size))
  have L5 := Lib.hid ((L4.out.below hb5 (Nat.le_refl _)).more hb5.size)
  clear hb5 ho4
  have hee : (rowsB l != rowsB l) = false := by simp
  go_wp2_with fail
  refine (toRowS_any A l cap _ ((H.out.below B5.out (Nat.le_refl _)).more B5.out.size) hl0).mono ?_
  rintro e w6 ⟨g6, rfl, hg6, ho6, hb6⟩
  have B6 := Lib.hid (B5.out.trans (hb6.mono B5.out.size))
  have L6 := Lib.hid (ho6.lies ho6.lt)
  have L56 := Lib.hid ((L5.out.below hb6 (Nat.le_refl _)).more hb6.size)
  clear hb6 ho6
  go_wp2_with fail
  refine (eqRowS_same _ _ l l.length l.length _ L56.out L6.out hlm).mono ?_
  rintro e w7 ⟨rfl, hb7⟩
  have B7 := Lib.hid (B6.out.trans (hb7.mono B6.out.size))
  clear hb7
  go_wp2_with fail
  go_ret
  exact ⟨rfl, B7.out⟩
end Go.Proofs.Ytlhebgfiljmeiaa.Sto
