/-
  FnExactStoreMerge answers true at every two slices of rows.
-/
import Derived.Test.YtlhebgfiljmeiaaRowMarkOut
import Derived.Test.YtlhebgfiljmeiaaRowIMerge
import Derived.Test.YtlhebgfiljmeiaaRowRightLaw
namespace Go.Proofs.Ytlhebgfiljmeiaa.Sto
open Go.ChangeShapes Go.WideShapes Go.ChangeAt Go.RowKit
open Dep (I D)
set_option linter.unusedVariables false
set_option maxRecDepth 100000
set_option linter.unusedSimpArgs false

set_option maxHeartbeats 4000000 in
set_option maxRecDepth 100000 in
theorem lawMerge_any (A : Option Addr) (l : List R) (cap : Nat) (A' : Option Addr) (l' : List R) (cap' : Nat) (w : World) (h : IsRows w A l cap) (h' : IsRows w A' l' cap') :
    Calls Try.prog 6 #[slV A l cap, slV A' l' cap'] w fun e w' => e = .returned (.bool true) ∧ Below w.heap.size w w' := by
  obtain ⟨hl, hm, h, hs⟩ := h
  obtain ⟨hl', hm', h', hs'⟩ := h'
  have hlm : l.length ≤ maxLen := by omega
  have hk : ∀ d ∈ l, Fits d := fun d hd => (hs d hd).fits
  have hlm' : l'.length ≤ maxLen := by omega
  have hk' : ∀ d ∈ l', Fits d := fun d hd => (hs' d hd).fits
  have H := Lib.hid h
  have HK := Lib.hid hk
  have H' := Lib.hid h'
  have HK' := Lib.hid hk'
  clear h hs hk h' hs' hk'
  go_enter Try.func6, Try.ntmps6
  have bw := Lib.hid (Below.refl w.heap.size w)
  go_wp2_with fail
  refine (szRowS_any A l cap 1048576 w H.out hlm HK.out (by omega) (by omega)).mono ?_
  rintro e v1 ⟨r, rfl, hr, hb⟩
  have bw := Lib.hid (bw.out.trans (hb.mono bw.out.size))
  have sz1 := Lib.hid (show w.heap.size ≤ v1.heap.size from hb.size)
  clear hb
  rcases hr with rfl | ⟨hr0, hr1, hr2, hr3⟩
  · go_wp2_with fail
    go_ret
    exact ⟨rfl, bw.out⟩
  have hl0 : l.length ≤ 1048576 := by omega
  have hr00 : ¬ r < 0 := by omega
  go_wp2_with fail
  refine (szRowS_any A' l' cap' r _ ((H'.out.below bw.out (Nat.le_refl _)).more bw.out.size) hlm' HK'.out hr0 (by omega)).mono ?_
  rintro e v2 ⟨r', rfl, hr', hb⟩
  have bw := Lib.hid (bw.out.trans (hb.mono bw.out.size))
  have sz2 := Lib.hid (show v1.heap.size ≤ v2.heap.size from hb.size)
  clear hb
  rcases hr' with rfl | ⟨hr0', hr1', hr2', hr3'⟩
  · go_wp2_with fail
    go_ret
    exact ⟨rfl, bw.out⟩
  have hl0' : l'.length ≤ 1048576 := by omega
  have hr00' : ¬ r' < 0 := by omega
  go_wp2_with fail
  refine (toRowS_any A l cap _ ((H.out.below bw.out (Nat.le_refl _)).more bw.out.size) hl0).mono ?_
  rintro e v3 ⟨gx0, rfl, hgx0, ho, hb⟩
  have bw := Lib.hid (bw.out.trans (hb.mono bw.out.size))
  have sz3 := Lib.hid (show v2.heap.size ≤ v3.heap.size from hb.size)
  have x0 := Lib.hid (show Held v3 (some ⟨gx0, 0, none⟩) l v2.heap.size v3.heap.size from Held.of_row ho (Nat.le_refl _) hgx0)
  clear hb
  clear ho
  go_wp2_with fail
  refine (toRowS_any A' l' cap' _ ((H'.out.below bw.out (Nat.le_refl _)).more bw.out.size) hl0').mono ?_
  rintro e v4 ⟨gx1, rfl, hgx1, ho, hb⟩
  have bw := Lib.hid (bw.out.trans (hb.mono bw.out.size))
  have x0 := Lib.hid (x0.out.step hb (.inr (Nat.le_refl _)))
  have sz4 := Lib.hid (show v3.heap.size ≤ v4.heap.size from hb.size)
  have x1 := Lib.hid (show Held v4 (some ⟨gx1, 0, none⟩) l' v3.heap.size v4.heap.size from Held.of_row ho (Nat.le_refl _) hgx1)
  clear hb
  clear ho
  go_wp2_with fail
  refine (specMergeOut_any _ _ l l' l.length l'.length _ (x0.out.lies (by have sz1_ := sz1.out; have sz2_ := sz2.out; have sz3_ := sz3.out; have sz4_ := sz4.out; omega)) (x1.out.lies (by have sz1_ := sz1.out; have sz2_ := sz2.out; have sz3_ := sz3.out; have sz4_ := sz4.out; omega)) hlm hlm' HK.out HK'.out).mono ?_
  rintro e v5 hans
  obtain ⟨A0, c0, rfl, hh, hc0, hb⟩ := hans.held
  have bw := Lib.hid (bw.out.trans (hb.mono bw.out.size))
  have x0 := Lib.hid (x0.out.step hb (.inr (Nat.le_refl _)))
  have x1 := Lib.hid (x1.out.step hb (.inr (Nat.le_refl _)))
  have sz5 := Lib.hid (show v4.heap.size ≤ v5.heap.size from hb.size)
  have w0 := Lib.hid (hh)
  clear hb
  clear hh hans
  have HRL := Lib.hid (mergeR_len l l')
  obtain ⟨r, hr⟩ : ∃ r, mergeR l l' = r := ⟨_, rfl⟩
  obtain ⟨jc, hjc⟩ : ∃ jc, mergeC l l' = jc := ⟨_, rfl⟩
  have HR := Lib.hid hr
  have HJ := Lib.hid hjc
  rw [hr] at w0 HRL hc0
  rw [hr, hjc]
  clear hr hjc
  have hrl : r.length ≤ 1048576 := by have := HRL.out; omega
  unfold outV
  clear x0 x1
  go_wp2_with fail
  have bw := Lib.hid (bw.out.alloc bw.out.size (Obj.cells #[Value.slice A0 r.length c0, Value.int IntKind.i64 jc] 35))
  have w0 := Lib.hid (w0.out.step ((Below.refl _ v5).alloc (Nat.le_refl _) (Obj.cells #[Value.slice A0 r.length c0, Value.int IntKind.i64 jc] 35)) (.inr (Nat.le_refl _)))
  have b0 := Lib.hid (SRow.new v5 (.slice A0 r.length c0) jc)
  have sz6 := Lib.hid (show v5.heap.size + 1 = (World.alloc v5 (Obj.cells #[Value.slice A0 r.length c0, Value.int IntKind.i64 jc] 35)).heap.size by simp)
  generalize World.alloc v5 _ = v6 at bw w0 b0 sz6 ⊢
  refine (toRowS_any A l cap _ ((H.out.below bw.out (Nat.le_refl _)).more bw.out.size) hl0).mono ?_
  rintro e v7 ⟨gx0, rfl, hgx0, ho, hb⟩
  have bw := Lib.hid (bw.out.trans (hb.mono bw.out.size))
  have w0 := Lib.hid (w0.out.step hb (.inr (Nat.le_refl _)))
  have b0 := Lib.hid (b0.out.step hb b0.out.lt)
  have sz7 := Lib.hid (show v6.heap.size ≤ v7.heap.size from hb.size)
  have x0 := Lib.hid (show Held v7 (some ⟨gx0, 0, none⟩) l v6.heap.size v7.heap.size from Held.of_row ho (Nat.le_refl _) hgx0)
  clear hb
  clear ho
  go_wp2_with fail
  refine (toRowS_any A' l' cap' _ ((H'.out.below bw.out (Nat.le_refl _)).more bw.out.size) hl0').mono ?_
  rintro e v8 ⟨gx1, rfl, hgx1, ho, hb⟩
  have bw := Lib.hid (bw.out.trans (hb.mono bw.out.size))
  have w0 := Lib.hid (w0.out.step hb (.inr (Nat.le_refl _)))
  have b0 := Lib.hid (b0.out.step hb b0.out.lt)
  have x0 := Lib.hid (x0.out.step hb (.inr (Nat.le_refl _)))
  have sz8 := Lib.hid (show v7.heap.size ≤ v8.heap.size from hb.size)
  have x1 := Lib.hid (show Held v8 (some ⟨gx1, 0, none⟩) l' v7.heap.size v8.heap.size from Held.of_row ho (Nat.le_refl _) hgx1)
  clear hb
  clear ho
  go_wp2_with fail
  refine (implMergeOut_any _ _ l l' l.length l'.length _ (x0.out.lies (by have sz1_ := sz1.out; have sz2_ := sz2.out; have sz3_ := sz3.out; have sz4_ := sz4.out; have sz5_ := sz5.out; have sz6_ := sz6.out; have sz7_ := sz7.out; have sz8_ := sz8.out; omega)) (x1.out.lies (by have sz1_ := sz1.out; have sz2_ := sz2.out; have sz3_ := sz3.out; have sz4_ := sz4.out; have sz5_ := sz5.out; have sz6_ := sz6.out; have sz7_ := sz7.out; have sz8_ := sz8.out; omega)) hl0 hl0' HK.out HK'.out).mono ?_
  rintro e v9 hans
  rw [HR.out, HJ.out] at hans
  obtain ⟨A1, c1, rfl, hh, hc1, hb⟩ := hans.held
  have bw := Lib.hid (bw.out.trans (hb.mono bw.out.size))
  have w0 := Lib.hid (w0.out.step hb (.inr (Nat.le_refl _)))
  have b0 := Lib.hid (b0.out.step hb b0.out.lt)
  have x0 := Lib.hid (x0.out.step hb (.inr (Nat.le_refl _)))
  have x1 := Lib.hid (x1.out.step hb (.inr (Nat.le_refl _)))
  have sz9 := Lib.hid (show v8.heap.size ≤ v9.heap.size from hb.size)
  have w1 := Lib.hid (hh)
  clear hb
  clear hh hans
  unfold outV
  obtain ⟨p0, p1⟩ := (b0.out.alloc (Obj.cells #[Value.slice A1 r.length c1, Value.int IntKind.i64 jc] 35)).cells
  go_wp2_with fail
  clear p0 p1
  have bw := Lib.hid (bw.out.alloc bw.out.size (Obj.cells #[Value.slice A1 r.length c1, Value.int IntKind.i64 jc] 35))
  have w0 := Lib.hid (w0.out.step ((Below.refl _ v9).alloc (Nat.le_refl _) (Obj.cells #[Value.slice A1 r.length c1, Value.int IntKind.i64 jc] 35)) (.inr (Nat.le_refl _)))
  have b0 := Lib.hid (b0.out.alloc (Obj.cells #[Value.slice A1 r.length c1, Value.int IntKind.i64 jc] 35))
  have x0 := Lib.hid (x0.out.step ((Below.refl _ v9).alloc (Nat.le_refl _) (Obj.cells #[Value.slice A1 r.length c1, Value.int IntKind.i64 jc] 35)) (.inr (Nat.le_refl _)))
  have x1 := Lib.hid (x1.out.step ((Below.refl _ v9).alloc (Nat.le_refl _) (Obj.cells #[Value.slice A1 r.length c1, Value.int IntKind.i64 jc] 35)) (.inr (Nat.le_refl _)))
  have w1 := Lib.hid (w1.out.step ((Below.refl _ v9).alloc (Nat.le_refl _) (Obj.cells #[Value.slice A1 r.length c1, Value.int IntKind.i64 jc] 35)) (.inr (Nat.le_refl _)))
  have b1 := Lib.hid (SRow.new v9 (.slice A1 r.length c1) jc)
  have sz10 := Lib.hid (show v9.heap.size + 1 = (World.alloc v9 (Obj.cells #[Value.slice A1 r.length c1, Value.int IntKind.i64 jc] 35)).heap.size by simp)
  generalize World.alloc v9 _ = v10 at bw w0 b0 x0 x1 w1 b1 sz10 ⊢
  refine (eqOut_same A1 A0 r c1 c0 jc _ (w1.out.lies (by have sz1_ := sz1.out; have sz2_ := sz2.out; have sz3_ := sz3.out; have sz4_ := sz4.out; have sz5_ := sz5.out; have sz6_ := sz6.out; have sz7_ := sz7.out; have sz8_ := sz8.out; have sz9_ := sz9.out; have sz10_ := sz10.out; omega)) (w0.out.lies (by have sz1_ := sz1.out; have sz2_ := sz2.out; have sz3_ := sz3.out; have sz4_ := sz4.out; have sz5_ := sz5.out; have sz6_ := sz6.out; have sz7_ := sz7.out; have sz8_ := sz8.out; have sz9_ := sz9.out; have sz10_ := sz10.out; omega)) hrl).mono ?_
  rintro e v11 ⟨rfl, hb⟩
  have bw := Lib.hid (bw.out.trans (hb.mono bw.out.size))
  have w0 := Lib.hid (w0.out.step hb (.inr (Nat.le_refl _)))
  have b0 := Lib.hid (b0.out.step hb b0.out.lt)
  have x0 := Lib.hid (x0.out.step hb (.inr (Nat.le_refl _)))
  have x1 := Lib.hid (x1.out.step hb (.inr (Nat.le_refl _)))
  have w1 := Lib.hid (w1.out.step hb (.inr (Nat.le_refl _)))
  have b1 := Lib.hid (b1.out.step hb b1.out.lt)
  have sz11 := Lib.hid (show v10.heap.size ≤ v11.heap.size from hb.size)
  clear hb
  go_wp2_with fail
  refine (toRowS_any A l cap _ ((H.out.below bw.out (Nat.le_refl _)).more bw.out.size) hl0).mono ?_
  rintro e v12 ⟨gt0, rfl, hgt0, ho, hb⟩
  have bw := Lib.hid (bw.out.trans (hb.mono bw.out.size))
  have w0 := Lib.hid (w0.out.step hb (.inr (Nat.le_refl _)))
  have b0 := Lib.hid (b0.out.step hb b0.out.lt)
  have x0 := Lib.hid (x0.out.step hb (.inr (Nat.le_refl _)))
  have x1 := Lib.hid (x1.out.step hb (.inr (Nat.le_refl _)))
  have w1 := Lib.hid (w1.out.step hb (.inr (Nat.le_refl _)))
  have b1 := Lib.hid (b1.out.step hb b1.out.lt)
  have sz12 := Lib.hid (show v11.heap.size ≤ v12.heap.size from hb.size)
  have t0 := Lib.hid (show Held v12 (some ⟨gt0, 0, none⟩) l v11.heap.size v12.heap.size from Held.of_row ho (Nat.le_refl _) hgt0)
  clear hb
  clear ho
  go_wp2_with fail
  refine (eqRowS_same _ _ l l.length l.length _ (x0.out.lies (by have sz1_ := sz1.out; have sz2_ := sz2.out; have sz3_ := sz3.out; have sz4_ := sz4.out; have sz5_ := sz5.out; have sz6_ := sz6.out; have sz7_ := sz7.out; have sz8_ := sz8.out; have sz9_ := sz9.out; have sz10_ := sz10.out; have sz11_ := sz11.out; have sz12_ := sz12.out; omega)) (t0.out.lies (by have sz1_ := sz1.out; have sz2_ := sz2.out; have sz3_ := sz3.out; have sz4_ := sz4.out; have sz5_ := sz5.out; have sz6_ := sz6.out; have sz7_ := sz7.out; have sz8_ := sz8.out; have sz9_ := sz9.out; have sz10_ := sz10.out; have sz11_ := sz11.out; have sz12_ := sz12.out; omega)) hlm).mono ?_
  rintro e v13 ⟨rfl, hb⟩
  have bw := Lib.hid (bw.out.trans (hb.mono bw.out.size))
  have w0 := Lib.hid (w0.out.step hb (.inr (Nat.le_refl _)))
  have b0 := Lib.hid (b0.out.step hb b0.out.lt)
  have x0 := Lib.hid (x0.out.step hb (.inr (Nat.le_refl _)))
  have x1 := Lib.hid (x1.out.step hb (.inr (Nat.le_refl _)))
  have w1 := Lib.hid (w1.out.step hb (.inr (Nat.le_refl _)))
  have b1 := Lib.hid (b1.out.step hb b1.out.lt)
  have t0 := Lib.hid (t0.out.step hb (.inr (Nat.le_refl _)))
  have sz13 := Lib.hid (show v12.heap.size ≤ v13.heap.size from hb.size)
  clear hb
  clear t0
  go_wp2_with fail
  refine (toRowS_any A' l' cap' _ ((H'.out.below bw.out (Nat.le_refl _)).more bw.out.size) hl0').mono ?_
  rintro e v14 ⟨gt0, rfl, hgt0, ho, hb⟩
  have bw := Lib.hid (bw.out.trans (hb.mono bw.out.size))
  have w0 := Lib.hid (w0.out.step hb (.inr (Nat.le_refl _)))
  have b0 := Lib.hid (b0.out.step hb b0.out.lt)
  have x0 := Lib.hid (x0.out.step hb (.inr (Nat.le_refl _)))
  have x1 := Lib.hid (x1.out.step hb (.inr (Nat.le_refl _)))
  have w1 := Lib.hid (w1.out.step hb (.inr (Nat.le_refl _)))
  have b1 := Lib.hid (b1.out.step hb b1.out.lt)
  have sz14 := Lib.hid (show v13.heap.size ≤ v14.heap.size from hb.size)
  have t0 := Lib.hid (show Held v14 (some ⟨gt0, 0, none⟩) l' v13.heap.size v14.heap.size from Held.of_row ho (Nat.le_refl _) hgt0)
  clear hb
  clear ho
  go_wp2_with fail
  refine (eqRowS_same _ _ l' l'.length l'.length _ (x1.out.lies (by have sz1_ := sz1.out; have sz2_ := sz2.out; have sz3_ := sz3.out; have sz4_ := sz4.out; have sz5_ := sz5.out; have sz6_ := sz6.out; have sz7_ := sz7.out; have sz8_ := sz8.out; have sz9_ := sz9.out; have sz10_ := sz10.out; have sz11_ := sz11.out; have sz12_ := sz12.out; have sz13_ := sz13.out; have sz14_ := sz14.out; omega)) (t0.out.lies (by have sz1_ := sz1.out; have sz2_ := sz2.out; have sz3_ := sz3.out; have sz4_ := sz4.out; have sz5_ := sz5.out; have sz6_ := sz6.out; have sz7_ := sz7.out; have sz8_ := sz8.out; have sz9_ := sz9.out; have sz10_ := sz10.out; have sz11_ := sz11.out; have sz12_ := sz12.out; have sz13_ := sz13.out; have sz14_ := sz14.out; omega)) hlm').mono ?_
  rintro e v15 ⟨rfl, hb⟩
  have bw := Lib.hid (bw.out.trans (hb.mono bw.out.size))
  have w0 := Lib.hid (w0.out.step hb (.inr (Nat.le_refl _)))
  have b0 := Lib.hid (b0.out.step hb b0.out.lt)
  have x0 := Lib.hid (x0.out.step hb (.inr (Nat.le_refl _)))
  have x1 := Lib.hid (x1.out.step hb (.inr (Nat.le_refl _)))
  have w1 := Lib.hid (w1.out.step hb (.inr (Nat.le_refl _)))
  have b1 := Lib.hid (b1.out.step hb b1.out.lt)
  have t0 := Lib.hid (t0.out.step hb (.inr (Nat.le_refl _)))
  have sz15 := Lib.hid (show v14.heap.size ≤ v15.heap.size from hb.size)
  clear hb
  clear t0
  go_wp2_with fail
  refine (mark_any _ l l.length 1 _ _ _ x0.out hl0 (by omega)).mono ?_
  rintro e v16 ⟨rfl, hh, ht⟩
  have bw := Lib.hid (ht.below bw.out (by have sz1_ := sz1.out; have sz2_ := sz2.out; have sz3_ := sz3.out; have sz4_ := sz4.out; have sz5_ := sz5.out; have sz6_ := sz6.out; have sz7_ := sz7.out; have sz8_ := sz8.out; have sz9_ := sz9.out; have sz10_ := sz10.out; have sz11_ := sz11.out; have sz12_ := sz12.out; have sz13_ := sz13.out; have sz14_ := sz14.out; have sz15_ := sz15.out; omega))
  have w0 := Lib.hid (ht.held w0.out (by have sz1_ := sz1.out; have sz2_ := sz2.out; have sz3_ := sz3.out; have sz4_ := sz4.out; have sz5_ := sz5.out; have sz6_ := sz6.out; have sz7_ := sz7.out; have sz8_ := sz8.out; have sz9_ := sz9.out; have sz10_ := sz10.out; have sz11_ := sz11.out; have sz12_ := sz12.out; have sz13_ := sz13.out; have sz14_ := sz14.out; have sz15_ := sz15.out; omega))
  have b0 := Lib.hid (ht.srow b0.out)
  have x0 := Lib.hid hh
  have x1 := Lib.hid (ht.held x1.out (by have sz1_ := sz1.out; have sz2_ := sz2.out; have sz3_ := sz3.out; have sz4_ := sz4.out; have sz5_ := sz5.out; have sz6_ := sz6.out; have sz7_ := sz7.out; have sz8_ := sz8.out; have sz9_ := sz9.out; have sz10_ := sz10.out; have sz11_ := sz11.out; have sz12_ := sz12.out; have sz13_ := sz13.out; have sz14_ := sz14.out; have sz15_ := sz15.out; omega))
  have w1 := Lib.hid (ht.held w1.out (by have sz1_ := sz1.out; have sz2_ := sz2.out; have sz3_ := sz3.out; have sz4_ := sz4.out; have sz5_ := sz5.out; have sz6_ := sz6.out; have sz7_ := sz7.out; have sz8_ := sz8.out; have sz9_ := sz9.out; have sz10_ := sz10.out; have sz11_ := sz11.out; have sz12_ := sz12.out; have sz13_ := sz13.out; have sz14_ := sz14.out; have sz15_ := sz15.out; omega))
  have b1 := Lib.hid (ht.srow b1.out)
  have sz16 := Lib.hid (show v15.heap.size ≤ v16.heap.size from ht.size)
  clear hh ht
  go_wp2_with fail
  refine (mark_any _ l' l'.length (1 + 5 * l.length) _ _ _ x1.out hl0' (by omega)).mono ?_
  rintro e v17 ⟨rfl, hh, ht⟩
  have bw := Lib.hid (ht.below bw.out (by have sz1_ := sz1.out; have sz2_ := sz2.out; have sz3_ := sz3.out; have sz4_ := sz4.out; have sz5_ := sz5.out; have sz6_ := sz6.out; have sz7_ := sz7.out; have sz8_ := sz8.out; have sz9_ := sz9.out; have sz10_ := sz10.out; have sz11_ := sz11.out; have sz12_ := sz12.out; have sz13_ := sz13.out; have sz14_ := sz14.out; have sz15_ := sz15.out; have sz16_ := sz16.out; omega))
  have w0 := Lib.hid (ht.held w0.out (by have sz1_ := sz1.out; have sz2_ := sz2.out; have sz3_ := sz3.out; have sz4_ := sz4.out; have sz5_ := sz5.out; have sz6_ := sz6.out; have sz7_ := sz7.out; have sz8_ := sz8.out; have sz9_ := sz9.out; have sz10_ := sz10.out; have sz11_ := sz11.out; have sz12_ := sz12.out; have sz13_ := sz13.out; have sz14_ := sz14.out; have sz15_ := sz15.out; have sz16_ := sz16.out; omega))
  have b0 := Lib.hid (ht.srow b0.out)
  have x0 := Lib.hid (ht.held x0.out (by have sz1_ := sz1.out; have sz2_ := sz2.out; have sz3_ := sz3.out; have sz4_ := sz4.out; have sz5_ := sz5.out; have sz6_ := sz6.out; have sz7_ := sz7.out; have sz8_ := sz8.out; have sz9_ := sz9.out; have sz10_ := sz10.out; have sz11_ := sz11.out; have sz12_ := sz12.out; have sz13_ := sz13.out; have sz14_ := sz14.out; have sz15_ := sz15.out; have sz16_ := sz16.out; omega))
  have x1 := Lib.hid hh
  have w1 := Lib.hid (ht.held w1.out (by have sz1_ := sz1.out; have sz2_ := sz2.out; have sz3_ := sz3.out; have sz4_ := sz4.out; have sz5_ := sz5.out; have sz6_ := sz6.out; have sz7_ := sz7.out; have sz8_ := sz8.out; have sz9_ := sz9.out; have sz10_ := sz10.out; have sz11_ := sz11.out; have sz12_ := sz12.out; have sz13_ := sz13.out; have sz14_ := sz14.out; have sz15_ := sz15.out; have sz16_ := sz16.out; omega))
  have b1 := Lib.hid (ht.srow b1.out)
  have sz17 := Lib.hid (show v16.heap.size ≤ v17.heap.size from ht.size)
  clear hh ht
  have hk2 : ¬ ((1 + 5 * l.length + 5 * l'.length : Nat) : Int) < 0 := by omega
  obtain ⟨z0, hz0⟩ : ∃ z : Nat, 1 + 5 * l.length + 5 * l'.length = z := ⟨_, rfl⟩
  rw [hz0] at hk2 ⊢
  clear hz0
  obtain ⟨p0, p1⟩ := b1.out.cells
  obtain ⟨q0, q1⟩ := b0.out.cells
  go_wp2_with fail
  clear p0 p1 q0 q1
  refine (eqOut_same A1 A0 r c1 c0 jc _ (w1.out.lies (by have sz1_ := sz1.out; have sz2_ := sz2.out; have sz3_ := sz3.out; have sz4_ := sz4.out; have sz5_ := sz5.out; have sz6_ := sz6.out; have sz7_ := sz7.out; have sz8_ := sz8.out; have sz9_ := sz9.out; have sz10_ := sz10.out; have sz11_ := sz11.out; have sz12_ := sz12.out; have sz13_ := sz13.out; have sz14_ := sz14.out; have sz15_ := sz15.out; have sz16_ := sz16.out; have sz17_ := sz17.out; omega)) (w0.out.lies (by have sz1_ := sz1.out; have sz2_ := sz2.out; have sz3_ := sz3.out; have sz4_ := sz4.out; have sz5_ := sz5.out; have sz6_ := sz6.out; have sz7_ := sz7.out; have sz8_ := sz8.out; have sz9_ := sz9.out; have sz10_ := sz10.out; have sz11_ := sz11.out; have sz12_ := sz12.out; have sz13_ := sz13.out; have sz14_ := sz14.out; have sz15_ := sz15.out; have sz16_ := sz16.out; have sz17_ := sz17.out; omega)) hrl).mono ?_
  rintro e v18 ⟨rfl, hb⟩
  have bw := Lib.hid (bw.out.trans (hb.mono bw.out.size))
  have w0 := Lib.hid (w0.out.step hb (.inr (Nat.le_refl _)))
  have b0 := Lib.hid (b0.out.step hb b0.out.lt)
  have x0 := Lib.hid (x0.out.step hb (.inr (Nat.le_refl _)))
  have x1 := Lib.hid (x1.out.step hb (.inr (Nat.le_refl _)))
  have w1 := Lib.hid (w1.out.step hb (.inr (Nat.le_refl _)))
  have b1 := Lib.hid (b1.out.step hb b1.out.lt)
  have sz18 := Lib.hid (show v17.heap.size ≤ v18.heap.size from hb.size)
  clear hb
  obtain ⟨p0, p1⟩ := b1.out.cells
  obtain ⟨q0, q1⟩ := b0.out.cells
  go_wp2_with fail
  clear p0 p1 q0 q1
  clear x0 x1
  refine (markOut_any A1 r c1 1 _ _ jc _ w1.out (by have sz1_ := sz1.out; have sz2_ := sz2.out; have sz3_ := sz3.out; have sz4_ := sz4.out; have sz5_ := sz5.out; have sz6_ := sz6.out; have sz7_ := sz7.out; have sz8_ := sz8.out; have sz9_ := sz9.out; have sz10_ := sz10.out; have sz11_ := sz11.out; have sz12_ := sz12.out; have sz13_ := sz13.out; have sz14_ := sz14.out; have sz15_ := sz15.out; have sz16_ := sz16.out; have sz17_ := sz17.out; have sz18_ := sz18.out; omega) hrl (by omega)).mono ?_
  rintro e v19 ⟨rfl, hh, ht⟩
  have bw := Lib.hid (ht.below bw.out (by have sz1_ := sz1.out; have sz2_ := sz2.out; have sz3_ := sz3.out; have sz4_ := sz4.out; have sz5_ := sz5.out; have sz6_ := sz6.out; have sz7_ := sz7.out; have sz8_ := sz8.out; have sz9_ := sz9.out; have sz10_ := sz10.out; have sz11_ := sz11.out; have sz12_ := sz12.out; have sz13_ := sz13.out; have sz14_ := sz14.out; have sz15_ := sz15.out; have sz16_ := sz16.out; have sz17_ := sz17.out; have sz18_ := sz18.out; omega))
  have w0 := Lib.hid (ht.held w0.out (by have sz1_ := sz1.out; have sz2_ := sz2.out; have sz3_ := sz3.out; have sz4_ := sz4.out; have sz5_ := sz5.out; have sz6_ := sz6.out; have sz7_ := sz7.out; have sz8_ := sz8.out; have sz9_ := sz9.out; have sz10_ := sz10.out; have sz11_ := sz11.out; have sz12_ := sz12.out; have sz13_ := sz13.out; have sz14_ := sz14.out; have sz15_ := sz15.out; have sz16_ := sz16.out; have sz17_ := sz17.out; have sz18_ := sz18.out; omega))
  have b0 := Lib.hid (ht.srow b0.out)
  have w1 := Lib.hid hh
  have b1 := Lib.hid (ht.srow b1.out)
  have sz19 := Lib.hid (show v18.heap.size ≤ v19.heap.size from ht.size)
  clear hh ht
  have hk3 : ¬ ((1 + 5 * r.length : Nat) : Int) < 0 := by omega
  obtain ⟨z1, hz1⟩ : ∃ z : Nat, 1 + 5 * r.length = z := ⟨_, rfl⟩
  have HZ1 := Lib.hid hz1
  rw [hz1] at hk3 ⊢
  have hze : ((z1 : Int) != (z1 : Int)) = false := by simp
  clear hz1
  obtain ⟨p0, p1⟩ := b1.out.cells
  obtain ⟨q0, q1⟩ := b0.out.cells
  go_wp2_with fail
  clear p0 p1 q0 q1
  refine (heldOut_any A1 r.length c1 1 jc _ (w1.out.lies (by have sz1_ := sz1.out; have sz2_ := sz2.out; have sz3_ := sz3.out; have sz4_ := sz4.out; have sz5_ := sz5.out; have sz6_ := sz6.out; have sz7_ := sz7.out; have sz8_ := sz8.out; have sz9_ := sz9.out; have sz10_ := sz10.out; have sz11_ := sz11.out; have sz12_ := sz12.out; have sz13_ := sz13.out; have sz14_ := sz14.out; have sz15_ := sz15.out; have sz16_ := sz16.out; have sz17_ := sz17.out; have sz18_ := sz18.out; have sz19_ := sz19.out; omega)) hrl (by omega)).mono ?_
  rintro e v20 ⟨rfl, hb⟩
  have bw := Lib.hid (bw.out.trans (hb.mono bw.out.size))
  have w0 := Lib.hid (w0.out.step hb (.inr (Nat.le_refl _)))
  have b0 := Lib.hid (b0.out.step hb b0.out.lt)
  have w1 := Lib.hid (w1.out.step hb (.inr (Nat.le_refl _)))
  have b1 := Lib.hid (b1.out.step hb b1.out.lt)
  have sz20 := Lib.hid (show v19.heap.size ≤ v20.heap.size from hb.size)
  clear hb
  rw [HZ1.out]
  obtain ⟨p0, p1⟩ := b1.out.cells
  obtain ⟨q0, q1⟩ := b0.out.cells
  go_wp2_with fail
  clear p0 p1 q0 q1
  refine (toRowS_any A l cap _ ((H.out.below bw.out (Nat.le_refl _)).more bw.out.size) hl0).mono ?_
  rintro e v21 ⟨gx0, rfl, hgx0, ho, hb⟩
  have bw := Lib.hid (bw.out.trans (hb.mono bw.out.size))
  have w0 := Lib.hid (w0.out.step hb (.inr (Nat.le_refl _)))
  have b0 := Lib.hid (b0.out.step hb b0.out.lt)
  have w1 := Lib.hid (w1.out.step hb (.inr (Nat.le_refl _)))
  have b1 := Lib.hid (b1.out.step hb b1.out.lt)
  have sz21 := Lib.hid (show v20.heap.size ≤ v21.heap.size from hb.size)
  have x0 := Lib.hid (show Held v21 (some ⟨gx0, 0, none⟩) l v20.heap.size v21.heap.size from Held.of_row ho (Nat.le_refl _) hgx0)
  clear hb
  clear ho
  go_wp2_with fail
  refine (toRowS_any A' l' cap' _ ((H'.out.below bw.out (Nat.le_refl _)).more bw.out.size) hl0').mono ?_
  rintro e v22 ⟨gx1, rfl, hgx1, ho, hb⟩
  have bw := Lib.hid (bw.out.trans (hb.mono bw.out.size))
  have w0 := Lib.hid (w0.out.step hb (.inr (Nat.le_refl _)))
  have b0 := Lib.hid (b0.out.step hb b0.out.lt)
  have w1 := Lib.hid (w1.out.step hb (.inr (Nat.le_refl _)))
  have b1 := Lib.hid (b1.out.step hb b1.out.lt)
  have x0 := Lib.hid (x0.out.step hb (.inr (Nat.le_refl _)))
  have sz22 := Lib.hid (show v21.heap.size ≤ v22.heap.size from hb.size)
  have x1 := Lib.hid (show Held v22 (some ⟨gx1, 0, none⟩) l' v21.heap.size v22.heap.size from Held.of_row ho (Nat.le_refl _) hgx1)
  clear hb
  clear ho
  go_wp2_with fail
  refine (implMergeOut_any _ _ l l' l.length l'.length _ (x0.out.lies (by have sz1_ := sz1.out; have sz2_ := sz2.out; have sz3_ := sz3.out; have sz4_ := sz4.out; have sz5_ := sz5.out; have sz6_ := sz6.out; have sz7_ := sz7.out; have sz8_ := sz8.out; have sz9_ := sz9.out; have sz10_ := sz10.out; have sz11_ := sz11.out; have sz12_ := sz12.out; have sz13_ := sz13.out; have sz14_ := sz14.out; have sz15_ := sz15.out; have sz16_ := sz16.out; have sz17_ := sz17.out; have sz18_ := sz18.out; have sz19_ := sz19.out; have sz20_ := sz20.out; have sz21_ := sz21.out; have sz22_ := sz22.out; omega)) (x1.out.lies (by have sz1_ := sz1.out; have sz2_ := sz2.out; have sz3_ := sz3.out; have sz4_ := sz4.out; have sz5_ := sz5.out; have sz6_ := sz6.out; have sz7_ := sz7.out; have sz8_ := sz8.out; have sz9_ := sz9.out; have sz10_ := sz10.out; have sz11_ := sz11.out; have sz12_ := sz12.out; have sz13_ := sz13.out; have sz14_ := sz14.out; have sz15_ := sz15.out; have sz16_ := sz16.out; have sz17_ := sz17.out; have sz18_ := sz18.out; have sz19_ := sz19.out; have sz20_ := sz20.out; have sz21_ := sz21.out; have sz22_ := sz22.out; omega)) hl0 hl0' HK.out HK'.out).mono ?_
  rintro e v23 hans
  rw [HR.out, HJ.out] at hans
  obtain ⟨A2, c2, rfl, hh, hc2, hb⟩ := hans.held
  have bw := Lib.hid (bw.out.trans (hb.mono bw.out.size))
  have w0 := Lib.hid (w0.out.step hb (.inr (Nat.le_refl _)))
  have b0 := Lib.hid (b0.out.step hb b0.out.lt)
  have w1 := Lib.hid (w1.out.step hb (.inr (Nat.le_refl _)))
  have b1 := Lib.hid (b1.out.step hb b1.out.lt)
  have x0 := Lib.hid (x0.out.step hb (.inr (Nat.le_refl _)))
  have x1 := Lib.hid (x1.out.step hb (.inr (Nat.le_refl _)))
  have sz23 := Lib.hid (show v22.heap.size ≤ v23.heap.size from hb.size)
  have w2 := Lib.hid (hh)
  clear hb
  clear hh hans
  unfold outV
  obtain ⟨q0, q1⟩ := (b0.out.alloc (Obj.cells #[Value.slice A2 r.length c2, Value.int IntKind.i64 jc] 35)).cells
  go_wp2_with fail
  clear q0 q1
  have bw := Lib.hid (bw.out.alloc bw.out.size (Obj.cells #[Value.slice A2 r.length c2, Value.int IntKind.i64 jc] 35))
  have w0 := Lib.hid (w0.out.step ((Below.refl _ v23).alloc (Nat.le_refl _) (Obj.cells #[Value.slice A2 r.length c2, Value.int IntKind.i64 jc] 35)) (.inr (Nat.le_refl _)))
  have b0 := Lib.hid (b0.out.alloc (Obj.cells #[Value.slice A2 r.length c2, Value.int IntKind.i64 jc] 35))
  have w1 := Lib.hid (w1.out.step ((Below.refl _ v23).alloc (Nat.le_refl _) (Obj.cells #[Value.slice A2 r.length c2, Value.int IntKind.i64 jc] 35)) (.inr (Nat.le_refl _)))
  have b1 := Lib.hid (b1.out.alloc (Obj.cells #[Value.slice A2 r.length c2, Value.int IntKind.i64 jc] 35))
  have x0 := Lib.hid (x0.out.step ((Below.refl _ v23).alloc (Nat.le_refl _) (Obj.cells #[Value.slice A2 r.length c2, Value.int IntKind.i64 jc] 35)) (.inr (Nat.le_refl _)))
  have x1 := Lib.hid (x1.out.step ((Below.refl _ v23).alloc (Nat.le_refl _) (Obj.cells #[Value.slice A2 r.length c2, Value.int IntKind.i64 jc] 35)) (.inr (Nat.le_refl _)))
  have w2 := Lib.hid (w2.out.step ((Below.refl _ v23).alloc (Nat.le_refl _) (Obj.cells #[Value.slice A2 r.length c2, Value.int IntKind.i64 jc] 35)) (.inr (Nat.le_refl _)))
  have b2 := Lib.hid (SRow.new v23 (.slice A2 r.length c2) jc)
  have sz24 := Lib.hid (show v23.heap.size + 1 = (World.alloc v23 (Obj.cells #[Value.slice A2 r.length c2, Value.int IntKind.i64 jc] 35)).heap.size by simp)
  generalize World.alloc v23 _ = v24 at bw w0 b0 w1 b1 x0 x1 w2 b2 sz24 ⊢
  refine (eqOut_same A2 A0 r c2 c0 jc _ (w2.out.lies (by have sz1_ := sz1.out; have sz2_ := sz2.out; have sz3_ := sz3.out; have sz4_ := sz4.out; have sz5_ := sz5.out; have sz6_ := sz6.out; have sz7_ := sz7.out; have sz8_ := sz8.out; have sz9_ := sz9.out; have sz10_ := sz10.out; have sz11_ := sz11.out; have sz12_ := sz12.out; have sz13_ := sz13.out; have sz14_ := sz14.out; have sz15_ := sz15.out; have sz16_ := sz16.out; have sz17_ := sz17.out; have sz18_ := sz18.out; have sz19_ := sz19.out; have sz20_ := sz20.out; have sz21_ := sz21.out; have sz22_ := sz22.out; have sz23_ := sz23.out; have sz24_ := sz24.out; omega)) (w0.out.lies (by have sz1_ := sz1.out; have sz2_ := sz2.out; have sz3_ := sz3.out; have sz4_ := sz4.out; have sz5_ := sz5.out; have sz6_ := sz6.out; have sz7_ := sz7.out; have sz8_ := sz8.out; have sz9_ := sz9.out; have sz10_ := sz10.out; have sz11_ := sz11.out; have sz12_ := sz12.out; have sz13_ := sz13.out; have sz14_ := sz14.out; have sz15_ := sz15.out; have sz16_ := sz16.out; have sz17_ := sz17.out; have sz18_ := sz18.out; have sz19_ := sz19.out; have sz20_ := sz20.out; have sz21_ := sz21.out; have sz22_ := sz22.out; have sz23_ := sz23.out; have sz24_ := sz24.out; omega)) hrl).mono ?_
  rintro e v25 ⟨rfl, hb⟩
  have bw := Lib.hid (bw.out.trans (hb.mono bw.out.size))
  have w0 := Lib.hid (w0.out.step hb (.inr (Nat.le_refl _)))
  have b0 := Lib.hid (b0.out.step hb b0.out.lt)
  have w1 := Lib.hid (w1.out.step hb (.inr (Nat.le_refl _)))
  have b1 := Lib.hid (b1.out.step hb b1.out.lt)
  have x0 := Lib.hid (x0.out.step hb (.inr (Nat.le_refl _)))
  have x1 := Lib.hid (x1.out.step hb (.inr (Nat.le_refl _)))
  have w2 := Lib.hid (w2.out.step hb (.inr (Nat.le_refl _)))
  have b2 := Lib.hid (b2.out.step hb b2.out.lt)
  have sz25 := Lib.hid (show v24.heap.size ≤ v25.heap.size from hb.size)
  clear hb
  obtain ⟨p0, p1⟩ := b1.out.cells
  obtain ⟨q0, q1⟩ := b0.out.cells
  go_wp2_with fail
  clear p0 p1 q0 q1
  refine (heldOut_any A1 r.length c1 1 jc _ (w1.out.lies (by have sz1_ := sz1.out; have sz2_ := sz2.out; have sz3_ := sz3.out; have sz4_ := sz4.out; have sz5_ := sz5.out; have sz6_ := sz6.out; have sz7_ := sz7.out; have sz8_ := sz8.out; have sz9_ := sz9.out; have sz10_ := sz10.out; have sz11_ := sz11.out; have sz12_ := sz12.out; have sz13_ := sz13.out; have sz14_ := sz14.out; have sz15_ := sz15.out; have sz16_ := sz16.out; have sz17_ := sz17.out; have sz18_ := sz18.out; have sz19_ := sz19.out; have sz20_ := sz20.out; have sz21_ := sz21.out; have sz22_ := sz22.out; have sz23_ := sz23.out; have sz24_ := sz24.out; have sz25_ := sz25.out; omega)) hrl (by omega)).mono ?_
  rintro e v26 ⟨rfl, hb⟩
  have bw := Lib.hid (bw.out.trans (hb.mono bw.out.size))
  have w0 := Lib.hid (w0.out.step hb (.inr (Nat.le_refl _)))
  have b0 := Lib.hid (b0.out.step hb b0.out.lt)
  have w1 := Lib.hid (w1.out.step hb (.inr (Nat.le_refl _)))
  have b1 := Lib.hid (b1.out.step hb b1.out.lt)
  have x0 := Lib.hid (x0.out.step hb (.inr (Nat.le_refl _)))
  have x1 := Lib.hid (x1.out.step hb (.inr (Nat.le_refl _)))
  have w2 := Lib.hid (w2.out.step hb (.inr (Nat.le_refl _)))
  have b2 := Lib.hid (b2.out.step hb b2.out.lt)
  have sz26 := Lib.hid (show v25.heap.size ≤ v26.heap.size from hb.size)
  clear hb
  rw [HZ1.out]
  go_wp2_with fail
  go_ret
  exact ⟨rfl, bw.out⟩
end Go.Proofs.Ytlhebgfiljmeiaa.Sto
