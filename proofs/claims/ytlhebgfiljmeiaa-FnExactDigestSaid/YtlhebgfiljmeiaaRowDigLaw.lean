/-
  FnExactDigest answers true at every slice of rows.
-/
import Derived.Test.YtlhebgfiljmeiaaRowDig
import Derived.Test.YtlhebgfiljmeiaaRowMark
import Derived.Test.YtlhebgfiljmeiaaRowRightLaw
namespace Go.Proofs.Ytlhebgfiljmeiaa.Sto
open Go.ChangeShapes Go.WideShapes Go.ChangeAt Go.RowKit
open Dep (D I)
set_option linter.unusedVariables false
set_option maxRecDepth 100000
set_option linter.unusedSimpArgs false

set_option maxHeartbeats 8000000 in
theorem lawDigest_any (A : Option Addr) (l : List R) (cap : Nat) (w : World) (h : IsRows w A l cap) :
    Calls Try.prog 8 #[slV A l cap] w fun e w' => e = .returned (.bool true) ∧ Below w.heap.size w w' := by
  obtain ⟨hl, hm, h, hs⟩ := h
  have hlm : l.length ≤ maxLen := by omega
  have hk : ∀ d ∈ l, Fits d := fun d hd => (hs d hd).fits
  have H := Lib.hid h
  have HK := Lib.hid hk
  have bw := Lib.hid (Below.refl w.heap.size w)
  clear h hs hk
  go_enter Try.func8, Try.ntmps8
  go_wp2_with fail
  refine (szRowS_any A l cap 1048576 _ H.out hlm HK.out (by omega) (by omega)).mono ?_
  rintro e v1 ⟨r, rfl, hr, hb⟩
  have bw := Lib.hid (bw.out.trans (hb.mono bw.out.size))
  have sz1 := Lib.hid (show w.heap.size ≤ v1.heap.size from hb.size)
  clear hb
  rcases hr with rfl | ⟨hr0, hr1, hr2, hr3⟩
  · go_wp2_with fail
    go_ret
    exact ⟨rfl, bw.out⟩
  have hl0 : l.length ≤ 1048576 := by omega
  have hr00 : ¬ r < 0 := by omega
  clear hr3
  have hnl := dig_len l
  obtain ⟨nr, hnr⟩ : ∃ n, digV l = n := ⟨_, rfl⟩
  have HNR := Lib.hid hnr
  rw [hnr] at hnl
  clear hnr
  go_wp2_with fail
  refine (toRowS_any A l cap _ ((H.out.below bw.out (Nat.le_refl _)).more bw.out.size) hl0).mono ?_
  rintro e v2 ⟨x1g, rfl, x1hg, x1ho, hb⟩
  have bw := Lib.hid (bw.out.trans (hb.mono bw.out.size))
  have sz2 := Lib.hid (show v1.heap.size ≤ v2.heap.size from hb.size)
  have x1 := Lib.hid (show Held v2 (some ⟨x1g, 0, none⟩) l v1.heap.size v2.heap.size from Held.of_row x1ho (Nat.le_refl _) x1hg)
  clear hb
  clear x1ho
  go_wp2_with fail
  refine (specDigest_any _ l l.length _ (x1.out.lies (by have sz1_ := sz1.out; have sz2_ := sz2.out; omega)) hlm HK.out).mono ?_
  rintro e v3 hg
  rw [HNR.out] at hg
  obtain ⟨w0A, w0c, rfl, hh, hb⟩ := hg
  have bw := Lib.hid (bw.out.trans (hb.mono bw.out.size))
  have x1 := Lib.hid (x1.out.step hb (.inr (Nat.le_refl _)))
  have sz3 := Lib.hid (show v2.heap.size ≤ v3.heap.size from hb.size)
  have w0 := Lib.hid (show Dep.Held v3 w0A nr v2.heap.size v3.heap.size from hh)
  clear hb
  clear hh
  unfold Dep.slV
  clear x1
  go_wp2_with fail
  refine (toRowS_any A l cap _ ((H.out.below bw.out (Nat.le_refl _)).more bw.out.size) hl0).mono ?_
  rintro e v4 ⟨x0g, rfl, x0hg, x0ho, hb⟩
  have bw := Lib.hid (bw.out.trans (hb.mono bw.out.size))
  have w0 := Lib.hid (w0.out.step hb (.inr (Nat.le_refl _)))
  have sz4 := Lib.hid (show v3.heap.size ≤ v4.heap.size from hb.size)
  have x0 := Lib.hid (show Held v4 (some ⟨x0g, 0, none⟩) l v3.heap.size v4.heap.size from Held.of_row x0ho (Nat.le_refl _) x0hg)
  clear hb
  clear x0ho
  go_wp2_with fail
  refine (implDigest_any _ l l.length _ (x0.out.lies (by have sz1_ := sz1.out; have sz2_ := sz2.out; have sz3_ := sz3.out; have sz4_ := sz4.out; omega)) hl0 HK.out).mono ?_
  rintro e v5 hg
  rw [HNR.out] at hg
  obtain ⟨g0A, g0c, rfl, hh, hb⟩ := hg
  have bw := Lib.hid (bw.out.trans (hb.mono bw.out.size))
  have w0 := Lib.hid (w0.out.step hb (.inr (Nat.le_refl _)))
  have x0 := Lib.hid (x0.out.step hb (.inr (Nat.le_refl _)))
  have sz5 := Lib.hid (show v4.heap.size ≤ v5.heap.size from hb.size)
  have g0 := Lib.hid (show Dep.Held v5 g0A nr v4.heap.size v5.heap.size from hh)
  clear hb
  clear hh
  unfold Dep.slV
  go_wp2_with fail
  refine (Dep.eqDepS_same g0A w0A nr g0c w0c _ (g0.out.lies (by have sz1_ := sz1.out; have sz2_ := sz2.out; have sz3_ := sz3.out; have sz4_ := sz4.out; have sz5_ := sz5.out; omega)) (w0.out.lies (by have sz1_ := sz1.out; have sz2_ := sz2.out; have sz3_ := sz3.out; have sz4_ := sz4.out; have sz5_ := sz5.out; omega)) (by unfold maxLen; omega)).mono ?_
  rintro e v6 ⟨rfl, hb⟩
  have bw := Lib.hid (bw.out.trans (hb.mono bw.out.size))
  have w0 := Lib.hid (w0.out.step hb (.inr (Nat.le_refl _)))
  have x0 := Lib.hid (x0.out.step hb (.inr (Nat.le_refl _)))
  have g0 := Lib.hid (g0.out.step hb (.inr (Nat.le_refl _)))
  have sz6 := Lib.hid (show v5.heap.size ≤ v6.heap.size from hb.size)
  clear hb
  go_wp2_with fail
  refine (toRowS_any A l cap _ ((H.out.below bw.out (Nat.le_refl _)).more bw.out.size) hl0).mono ?_
  rintro e v7 ⟨t0g, rfl, t0hg, t0ho, hb⟩
  have bw := Lib.hid (bw.out.trans (hb.mono bw.out.size))
  have w0 := Lib.hid (w0.out.step hb (.inr (Nat.le_refl _)))
  have x0 := Lib.hid (x0.out.step hb (.inr (Nat.le_refl _)))
  have g0 := Lib.hid (g0.out.step hb (.inr (Nat.le_refl _)))
  have sz7 := Lib.hid (show v6.heap.size ≤ v7.heap.size from hb.size)
  have t0 := Lib.hid (show Held v7 (some ⟨t0g, 0, none⟩) l v6.heap.size v7.heap.size from Held.of_row t0ho (Nat.le_refl _) t0hg)
  clear hb
  clear t0ho
  go_wp2_with fail
  refine (eqRowS_same _ _ l l.length l.length _ (x0.out.lies (by have sz1_ := sz1.out; have sz2_ := sz2.out; have sz3_ := sz3.out; have sz4_ := sz4.out; have sz5_ := sz5.out; have sz6_ := sz6.out; have sz7_ := sz7.out; omega)) (t0.out.lies (by have sz1_ := sz1.out; have sz2_ := sz2.out; have sz3_ := sz3.out; have sz4_ := sz4.out; have sz5_ := sz5.out; have sz6_ := sz6.out; have sz7_ := sz7.out; omega)) hlm).mono ?_
  rintro e v8 ⟨rfl, hb⟩
  have bw := Lib.hid (bw.out.trans (hb.mono bw.out.size))
  have w0 := Lib.hid (w0.out.step hb (.inr (Nat.le_refl _)))
  have x0 := Lib.hid (x0.out.step hb (.inr (Nat.le_refl _)))
  have g0 := Lib.hid (g0.out.step hb (.inr (Nat.le_refl _)))
  have t0 := Lib.hid (t0.out.step hb (.inr (Nat.le_refl _)))
  have sz8 := Lib.hid (show v7.heap.size ≤ v8.heap.size from hb.size)
  clear hb
  clear t0
  go_wp2_with fail
  have HX0 := x0
  clear x0
  refine (mark_any _ l l.length 1 _ _ _ HX0.out hl0 (by omega)).mono ?_
  rintro e v9 ⟨rfl, hh, ht⟩
  have bw := Lib.hid (ht.below bw.out (by have sz1_ := sz1.out; have sz2_ := sz2.out; have sz3_ := sz3.out; have sz4_ := sz4.out; have sz5_ := sz5.out; have sz6_ := sz6.out; have sz7_ := sz7.out; have sz8_ := sz8.out; omega))
  have w0 := Lib.hid (ht.deps w0.out)
  have g0 := Lib.hid (ht.deps g0.out)
  have sz9 := Lib.hid (show v8.heap.size ≤ v9.heap.size from ht.size)
  clear hh ht
  clear HX0
  have hz0 : ¬ ((1 + 5 * l.length : Nat) : Int) < 0 := by omega
  obtain ⟨z0, hze0⟩ : ∃ z : Nat, 1 + 5 * l.length = z := ⟨_, rfl⟩
  rw [hze0] at hz0 ⊢
  clear hze0
  go_wp2_with fail
  refine (Dep.eqDepS_same g0A w0A nr g0c w0c _ (g0.out.lies (by have sz1_ := sz1.out; have sz2_ := sz2.out; have sz3_ := sz3.out; have sz4_ := sz4.out; have sz5_ := sz5.out; have sz6_ := sz6.out; have sz7_ := sz7.out; have sz8_ := sz8.out; have sz9_ := sz9.out; omega)) (w0.out.lies (by have sz1_ := sz1.out; have sz2_ := sz2.out; have sz3_ := sz3.out; have sz4_ := sz4.out; have sz5_ := sz5.out; have sz6_ := sz6.out; have sz7_ := sz7.out; have sz8_ := sz8.out; have sz9_ := sz9.out; omega)) (by unfold maxLen; omega)).mono ?_
  rintro e v10 ⟨rfl, hb⟩
  have bw := Lib.hid (bw.out.trans (hb.mono bw.out.size))
  have w0 := Lib.hid (w0.out.step hb (.inr (Nat.le_refl _)))
  have g0 := Lib.hid (g0.out.step hb (.inr (Nat.le_refl _)))
  have sz10 := Lib.hid (show v9.heap.size ≤ v10.heap.size from hb.size)
  clear hb
  go_wp2_with fail
  refine (Dep.mark_any g0A nr g0c 1 _ _ _ g0.out (by omega) (by omega)).mono ?_
  rintro e v11 ⟨rfl, hh, ht⟩
  have bw := Lib.hid (ht.below bw.out (by have sz1_ := sz1.out; have sz2_ := sz2.out; have sz3_ := sz3.out; have sz4_ := sz4.out; have sz5_ := sz5.out; have sz6_ := sz6.out; have sz7_ := sz7.out; have sz8_ := sz8.out; have sz9_ := sz9.out; have sz10_ := sz10.out; omega))
  have w0 := Lib.hid (ht.held w0.out (by have sz1_ := sz1.out; have sz2_ := sz2.out; have sz3_ := sz3.out; have sz4_ := sz4.out; have sz5_ := sz5.out; have sz6_ := sz6.out; have sz7_ := sz7.out; have sz8_ := sz8.out; have sz9_ := sz9.out; have sz10_ := sz10.out; omega))
  have g0 := Lib.hid (show Dep.Held v11 g0A (Dep.marks 1 nr.length) v4.heap.size v5.heap.size from hh)
  have sz11 := Lib.hid (show v10.heap.size ≤ v11.heap.size from ht.size)
  clear hh ht
  have hk3 : ¬ ((1 + 4 * nr.length : Nat) : Int) < 0 := by omega
  obtain ⟨z1, hz1⟩ : ∃ z : Nat, 1 + 4 * nr.length = z := ⟨_, rfl⟩
  have HZ1 := Lib.hid hz1
  rw [hz1] at hk3 ⊢
  have hze : ((z1 : Int) != (z1 : Int)) = false := by simp
  clear hz1
  go_wp2_with fail
  refine (Dep.heldDepS_any g0A nr.length g0c 1 _ (g0.out.lies (by have sz1_ := sz1.out; have sz2_ := sz2.out; have sz3_ := sz3.out; have sz4_ := sz4.out; have sz5_ := sz5.out; have sz6_ := sz6.out; have sz7_ := sz7.out; have sz8_ := sz8.out; have sz9_ := sz9.out; have sz10_ := sz10.out; have sz11_ := sz11.out; omega)) (by omega) (by omega)).mono ?_
  rintro e v12 ⟨rfl, hb⟩
  have bw := Lib.hid (bw.out.trans (hb.mono bw.out.size))
  have w0 := Lib.hid (w0.out.step hb (.inr (Nat.le_refl _)))
  have g0 := Lib.hid (g0.out.step hb (.inr (Nat.le_refl _)))
  have sz12 := Lib.hid (show v11.heap.size ≤ v12.heap.size from hb.size)
  clear hb
  rw [HZ1.out]
  go_wp2_with fail
  refine (toRowS_any A l cap _ ((H.out.below bw.out (Nat.le_refl _)).more bw.out.size) hl0).mono ?_
  rintro e v13 ⟨x2g, rfl, x2hg, x2ho, hb⟩
  have bw := Lib.hid (bw.out.trans (hb.mono bw.out.size))
  have w0 := Lib.hid (w0.out.step hb (.inr (Nat.le_refl _)))
  have g0 := Lib.hid (g0.out.step hb (.inr (Nat.le_refl _)))
  have sz13 := Lib.hid (show v12.heap.size ≤ v13.heap.size from hb.size)
  have x2 := Lib.hid (show Held v13 (some ⟨x2g, 0, none⟩) l v12.heap.size v13.heap.size from Held.of_row x2ho (Nat.le_refl _) x2hg)
  clear hb
  clear x2ho
  go_wp2_with fail
  refine (implDigest_any _ l l.length _ (x2.out.lies (by have sz1_ := sz1.out; have sz2_ := sz2.out; have sz3_ := sz3.out; have sz4_ := sz4.out; have sz5_ := sz5.out; have sz6_ := sz6.out; have sz7_ := sz7.out; have sz8_ := sz8.out; have sz9_ := sz9.out; have sz10_ := sz10.out; have sz11_ := sz11.out; have sz12_ := sz12.out; have sz13_ := sz13.out; omega)) hl0 HK.out).mono ?_
  rintro e v14 hg
  rw [HNR.out] at hg
  obtain ⟨h0A, h0c, rfl, hh, hb⟩ := hg
  have bw := Lib.hid (bw.out.trans (hb.mono bw.out.size))
  have w0 := Lib.hid (w0.out.step hb (.inr (Nat.le_refl _)))
  have g0 := Lib.hid (g0.out.step hb (.inr (Nat.le_refl _)))
  have x2 := Lib.hid (x2.out.step hb (.inr (Nat.le_refl _)))
  have sz14 := Lib.hid (show v13.heap.size ≤ v14.heap.size from hb.size)
  have h0 := Lib.hid (show Dep.Held v14 h0A nr v13.heap.size v14.heap.size from hh)
  clear hb
  clear hh
  unfold Dep.slV
  clear x2
  go_wp2_with fail
  refine (Dep.eqDepS_same h0A w0A nr h0c w0c _ (h0.out.lies (by have sz1_ := sz1.out; have sz2_ := sz2.out; have sz3_ := sz3.out; have sz4_ := sz4.out; have sz5_ := sz5.out; have sz6_ := sz6.out; have sz7_ := sz7.out; have sz8_ := sz8.out; have sz9_ := sz9.out; have sz10_ := sz10.out; have sz11_ := sz11.out; have sz12_ := sz12.out; have sz13_ := sz13.out; have sz14_ := sz14.out; omega)) (w0.out.lies (by have sz1_ := sz1.out; have sz2_ := sz2.out; have sz3_ := sz3.out; have sz4_ := sz4.out; have sz5_ := sz5.out; have sz6_ := sz6.out; have sz7_ := sz7.out; have sz8_ := sz8.out; have sz9_ := sz9.out; have sz10_ := sz10.out; have sz11_ := sz11.out; have sz12_ := sz12.out; have sz13_ := sz13.out; have sz14_ := sz14.out; omega)) (by unfold maxLen; omega)).mono ?_
  rintro e v15 ⟨rfl, hb⟩
  have bw := Lib.hid (bw.out.trans (hb.mono bw.out.size))
  have w0 := Lib.hid (w0.out.step hb (.inr (Nat.le_refl _)))
  have g0 := Lib.hid (g0.out.step hb (.inr (Nat.le_refl _)))
  have h0 := Lib.hid (h0.out.step hb (.inr (Nat.le_refl _)))
  have sz15 := Lib.hid (show v14.heap.size ≤ v15.heap.size from hb.size)
  clear hb
  go_wp2_with fail
  refine (Dep.heldDepS_any g0A nr.length g0c 1 _ (g0.out.lies (by have sz1_ := sz1.out; have sz2_ := sz2.out; have sz3_ := sz3.out; have sz4_ := sz4.out; have sz5_ := sz5.out; have sz6_ := sz6.out; have sz7_ := sz7.out; have sz8_ := sz8.out; have sz9_ := sz9.out; have sz10_ := sz10.out; have sz11_ := sz11.out; have sz12_ := sz12.out; have sz13_ := sz13.out; have sz14_ := sz14.out; have sz15_ := sz15.out; omega)) (by omega) (by omega)).mono ?_
  rintro e v16 ⟨rfl, hb⟩
  have bw := Lib.hid (bw.out.trans (hb.mono bw.out.size))
  have w0 := Lib.hid (w0.out.step hb (.inr (Nat.le_refl _)))
  have g0 := Lib.hid (g0.out.step hb (.inr (Nat.le_refl _)))
  have h0 := Lib.hid (h0.out.step hb (.inr (Nat.le_refl _)))
  have sz16 := Lib.hid (show v15.heap.size ≤ v16.heap.size from hb.size)
  clear hb
  rw [HZ1.out]
  go_wp2_with fail
  go_ret
  exact ⟨rfl, bw.out⟩
end Go.Proofs.Ytlhebgfiljmeiaa.Sto
