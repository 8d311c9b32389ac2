/-
  FnExactStorePut answers true at every slice of rows and every row.
-/
import Derived.Test.YtlhebgfiljmeiaaRowMarkOut
import Derived.Test.YtlhebgfiljmeiaaRowIMerge
import Derived.Test.YtlhebgfiljmeiaaRowRightLaw
namespace Go.Proofs.Ytlhebgfiljmeiaa.Sto
open Go.ChangeShapes Go.WideShapes Go.ChangeAt Go.RowKit
open Dep (I D row_set grown_set)
set_option linter.unusedVariables false
set_option maxRecDepth 100000
set_option linter.unusedSimpArgs false

theorem Turned.rowrow {W W' : World} {lo hi b t : Nat} {x : R} (h : Turned W W' lo hi) (hh : RowRow W b t x) (ht : t ≠ 39) : RowRow W' b t x := by
  obtain ⟨row, hg, hr⟩ := h
  refine (hg.block b hh.lt (fun e => ?_)).trans hh
  obtain ⟨_, _, cs, hc⟩ := hr b e.symm
  rw [show W.heap[b]? = _ from hh] at hc
  injection hc with hc
  injection hc with _ h2
  exact absurd h2 ht
theorem Held.other {W W' : World} {A : Option Addr} {l : List R} {lo hi g : Nat} (h : Held W A l lo hi) (hg : W.grownBy W' (some g)) (hne : g < lo ∨ hi ≤ g) : Held W' A l lo hi :=
  h.keep fun k h1 h2 h3 => hg.block k h3 (fun e => by cases e; omega)
theorem held_set2 {W : World} {A : Option Addr} {l : List R} {lo hi b : Nat} (h : Held W A l lo hi) (hb : b < lo ∨ hi ≤ b) (u v : Value) : Held ((W.setCell ⟨b, 0, none⟩ u).setCell ⟨b, 1, none⟩ v) A l lo hi :=
  (h.other (grown_set W b 0 u) hb).other (grown_set _ b 1 v) hb
theorem srow_set2 {W : World} {b' : Nat} {s : Value} {c : Int} (h : SRow W b' s c) {b : Nat} (hb : b' ≠ b) (u v : Value) : SRow ((W.setCell ⟨b, 0, none⟩ u).setCell ⟨b, 1, none⟩ v) b' s c :=
  (heap_setCell_other _ ⟨b, 1, none⟩ b' v hb).trans ((heap_setCell_other W ⟨b, 0, none⟩ b' u hb).trans h)
theorem rowrow_set2 {W : World} {b' t : Nat} {x : R} (h : RowRow W b' t x) {b : Nat} (hb : b' ≠ b) (u v : Value) : RowRow ((W.setCell ⟨b, 0, none⟩ u).setCell ⟨b, 1, none⟩ v) b' t x :=
  (heap_setCell_other _ ⟨b, 1, none⟩ b' v hb).trans ((heap_setCell_other W ⟨b, 0, none⟩ b' u hb).trans h)
theorem srow_put {W : World} {b : Nat} {s : Value} {c : Int} (h : SRow W b s c) (s' : Value) (k : Int) : SRow ((W.setCell ⟨b, 0, none⟩ s').setCell ⟨b, 1, none⟩ (.int .i64 k)) b s' k := by
  have h1 := row_set (row_set h 0 s') 1 (.int .i64 k)
  exact h1

set_option maxHeartbeats 8000000 in
set_option maxRecDepth 100000 in
theorem lawPut_any (A : Option Addr) (l : List R) (cap : Nat) (x : R) (w : World) (h : IsRows w A l cap) (hx : Sound x) :
    Calls Try.prog 4 #[slV A l cap, x.val] w fun e w' => e = .returned (.bool true) ∧ Below w.heap.size w w' := by
  obtain ⟨hl, hm, h, hs⟩ := h
  have hlm : l.length ≤ maxLen := by omega
  have hk : ∀ d ∈ l, Fits d := fun d hd => (hs d hd).fits
  have hxf := hx.fits
  have H := Lib.hid h
  have HK := Lib.hid hk
  have HQ := Lib.hid hxf
  have hxk := hxf.1
  have hxb := hxf.2
  clear h hs hk hx hxf
  unfold R.val
  go_enter Try.func4, Try.ntmps4
  have bw := Lib.hid ((Below.refl w.heap.size w).alloc (Nat.le_refl _) (Obj.cells #[Value.string x.k, Value.int IntKind.i64 x.i.c, Value.int IntKind.i64 x.i.s, Value.int IntKind.i64 x.i.e, Value.string x.b] 32))
  have idr := Lib.hid (RowRow.new w 32 x)
  go_wp2_with fail
  generalize World.alloc w _ = v0 at bw idr ⊢
  refine (szRowS_any A l cap 1048576 _ ((H.out.below bw.out (Nat.le_refl _)).more bw.out.size) hlm HK.out (by omega) (by omega)).mono ?_
  rintro e v1 ⟨r0, rfl, hr, hb⟩
  have bw := Lib.hid (bw.out.trans (hb.mono bw.out.size))
  have idr := Lib.hid (RowRow.step idr.out hb (RowRow.lt idr.out))
  have sz1 := Lib.hid (show v0.heap.size ≤ v1.heap.size from hb.size)
  clear hb
  rcases hr with rfl | ⟨hr0, hr1, hr2, hr3⟩
  · go_wp2_with fail
    go_ret
    exact ⟨rfl, bw.out⟩
  have hl0 : l.length ≤ 1048576 := by omega
  have hr00 : ¬ r0 < 0 := by omega
  clear hr3
  obtain ⟨i0, i1, i2, i3, i4⟩ := RowRow.cells idr.out
  go_wp2_with fail
  clear i0 i1 i2 i3 i4
  refine (szRow_any x r0 _ hr0 (by omega) hxk hxb).mono ?_
  rintro e v2 ⟨r1, rfl, hr, hb⟩
  have bw := Lib.hid (bw.out.trans (hb.mono bw.out.size))
  have idr := Lib.hid (RowRow.step idr.out hb (RowRow.lt idr.out))
  have sz2 := Lib.hid (show v1.heap.size ≤ v2.heap.size from hb.size)
  clear hb
  rcases hr with rfl | ⟨hs0, hs1, hs2, hs3⟩
  · go_wp2_with fail
    go_ret
    exact ⟨rfl, bw.out⟩
  have hr01 : ¬ r1 < 0 := by omega
  have HRL := Lib.hid (mergeR_len l [x])
  obtain ⟨r, hr⟩ : ∃ r, putR l x = r := ⟨_, rfl⟩
  obtain ⟨jc, hjc⟩ : ∃ jc, putC l x = jc := ⟨_, rfl⟩
  have HR := Lib.hid hr
  have HJ := Lib.hid hjc
  have HRL : Hid (r.length ≤ 6) := Lib.hid (hr ▸ HRL.out)
  have hrl : r.length ≤ 1048576 := by have := HRL.out; omega
  clear hr hjc hs0 hs1 hs2 hs3
  have hlt0 := RowRow.lt idr.out
  have szw := Lib.hid hlt0
  clear hlt0
  go_upto_region 8 with fail
  go_cut [6] (fun s8 wx => ∃ (b : Nat) (A0 : Option Addr) (c0 lo0 hi0 : Nat), s8 = .pointer (some ⟨b, 0, none⟩) ∧ Hid (SRow wx b (.slice A0 r.length c0) jc) ∧ Hid (Held wx A0 r lo0 hi0) ∧ Hid (hi0 ≤ wx.heap.size ∧ b < wx.heap.size ∧ w.heap.size < wx.heap.size) ∧ Hid (RowRow wx w.heap.size 32 x) ∧ Hid (Below w.heap.size w wx))
  case first =>
    refine wp_region_held_drew (S := fun V => RowRow V w.heap.size 32 x) (by kernel_rfl) ?_ (fun hHeld => ?_)
    · exact idr.out
    have hb := (Below.refl v2.heap.size v2).drew
    have bw := Lib.hid (bw.out.trans (hb.mono bw.out.size))
    have idr := Lib.hid (RowRow.step idr.out hb (RowRow.lt idr.out))
    have sz3 := Lib.hid (show v2.heap.size ≤ (World.drew v2).heap.size from hb.size)
    clear hb
    generalize World.drew v2 = v3 at hHeld bw idr sz3 ⊢
    refine wpAnyH_take (i := 0) (v := ?_) rfl (by kernel_rfl) (by kernel_rfl) (by kernel_rfl) (fun _ _ _ h => h) (Or.inl ⟨by rfl, ?_⟩) hHeld ?_
    rotate_left
    · intro V hSw
      go_simp
      try with_reducible rfl
    try simp only [Act.put, List.setIfInBounds_toArray, List.set_cons_zero, List.set_cons_succ, List.getElem_toArray, List.getElem_cons_succ, List.getElem_cons_zero]
    refine wpAnyH_take (i := 2) (v := ?_) rfl (by kernel_rfl) (by kernel_rfl) (by kernel_rfl) (fun _ _ _ h => h) (Or.inl ⟨by rfl, ?_⟩) hHeld ?_
    rotate_left
    · intro V hSw
      obtain ⟨hs0, hs1, hs2, hs3, hs4⟩ := RowRow.cells hSw
      go_simp
      try with_reducible rfl
    try simp only [Act.put, List.setIfInBounds_toArray, List.set_cons_zero, List.set_cons_succ, List.getElem_toArray, List.getElem_cons_succ, List.getElem_cons_zero]
    refine wpAnyH_ready (rs := [1, 5]) (by kernel_rfl) (by simp) ?_
    refine AllReadyH.cons rfl (fun K hK => ?_) (AllReadyH.cons rfl (fun K hK => ?_) AllReadyH.nil)
    · go_simp
      refine (toRowS_any A l cap _ ((H.out.below bw.out (Nat.le_refl _)).more bw.out.size) hl0).mono ?_
      rintro e v4 ⟨gt0, rfl, hgt0, ho, hb⟩
      have bw := Lib.hid (bw.out.trans (hb.mono bw.out.size))
      have idr := Lib.hid (RowRow.step idr.out hb (RowRow.lt idr.out))
      have sz4 := Lib.hid (show v3.heap.size ≤ v4.heap.size from hb.size)
      have t0 := Lib.hid (show Held v4 (some ⟨gt0, 0, none⟩) l v3.heap.size v4.heap.size from Held.of_row ho (Nat.le_refl _) hgt0)
      clear hb
      clear ho
      refine hK.out _ _ ?_ (fun hHeld => ?_)
      · exact idr.out
      clear hK K
      try simp only [Act.put, List.setIfInBounds_toArray, List.set_cons_zero, List.set_cons_succ, List.getElem_toArray, List.getElem_cons_succ, List.getElem_cons_zero]
      refine wpAnyH_ready (rs := [3, 5]) (by kernel_rfl) (by simp) ?_
      refine AllReadyH.cons rfl (fun K hK => ?_) (AllReadyH.cons rfl (fun K hK => ?_) AllReadyH.nil)
      · go_simp
        refine (toRow_any x _).mono ?_
        rintro e v5 ⟨rfl, hb⟩
        have bw := Lib.hid (bw.out.trans (hb.mono bw.out.size))
        have idr := Lib.hid (RowRow.step idr.out hb (RowRow.lt idr.out))
        have t0 := Lib.hid (t0.out.step hb (.inr (Nat.le_refl _)))
        have sz5 := Lib.hid (show v4.heap.size ≤ v5.heap.size from hb.size)
        clear hb
        unfold R.val
        refine hK.out _ _ ?_ (fun hHeld => ?_)
        · exact idr.out
        clear hK K
        try simp only [Act.put, List.setIfInBounds_toArray, List.set_cons_zero, List.set_cons_succ, List.getElem_toArray, List.getElem_cons_succ, List.getElem_cons_zero]
        refine wpAnyH_ready (rs := [4, 5]) (by kernel_rfl) (by simp) ?_
        refine AllReadyH.cons rfl (fun K hK => ?_) (AllReadyH.cons rfl (fun K hK => ?_) AllReadyH.nil)
        · go_simp
          refine (specPutOut_any _ l l.length x _ (t0.out.lies (by have sz1_ := sz1.out; have sz2_ := sz2.out; have szw_ := szw.out; have sz3_ := sz3.out; have sz4_ := sz4.out; have sz5_ := sz5.out; omega)) hl0 (Nat.le_refl _) hlm HK.out HQ.out).mono ?_
          rintro e v6 hans
          rw [HR.out, HJ.out] at hans
          obtain ⟨A0, c0, rfl, hh, hc0, hb⟩ := hans.held
          have bw := Lib.hid (bw.out.trans (hb.mono bw.out.size))
          have idr := Lib.hid (RowRow.step idr.out hb (RowRow.lt idr.out))
          have t0 := Lib.hid (t0.out.step hb (.inr (Nat.le_refl _)))
          have sz6 := Lib.hid (show v5.heap.size ≤ v6.heap.size from hb.size)
          have w0 := Lib.hid (hh)
          clear hb
          clear hh hans
          unfold outV
          clear t0
          refine hK.out _ _ ?_ (fun hHeld => ?_)
          · exact idr.out
          clear hK K
          try simp only [Act.put, List.setIfInBounds_toArray, List.set_cons_zero, List.set_cons_succ, List.getElem_toArray, List.getElem_cons_succ, List.getElem_cons_zero]
          refine wpAnyH_ready (rs := [5]) (by kernel_rfl) (by simp) ?_
          refine AllReadyH.cons rfl (fun K hK => ?_) AllReadyH.nil
          go_simp
          have bw := Lib.hid (bw.out.alloc bw.out.size (Obj.cells #[Value.slice none 0 0, Value.int IntKind.i64 0] 35))
          have idr := Lib.hid (RowRow.alloc idr.out (Obj.cells #[Value.slice none 0 0, Value.int IntKind.i64 0] 35))
          have w0 := Lib.hid (w0.out.step ((Below.refl _ v6).alloc (Nat.le_refl _) (Obj.cells #[Value.slice none 0 0, Value.int IntKind.i64 0] 35)) (.inr (Nat.le_refl _)))
          have b0 := Lib.hid (SRow.new v6 (.slice none 0 0) 0)
          have sz7 := Lib.hid (show v6.heap.size + 1 = (World.alloc v6 (Obj.cells #[Value.slice none 0 0, Value.int IntKind.i64 0] 35)).heap.size by simp)
          generalize World.alloc v6 _ = v7 at bw idr w0 b0 sz7 ⊢
          refine hK.out _ _ ?_ (fun hHeld => ?_)
          · exact idr.out
          clear hK K
          try simp only [Act.put, List.setIfInBounds_toArray, List.set_cons_zero, List.set_cons_succ, List.getElem_toArray, List.getElem_cons_succ, List.getElem_cons_zero]
          refine wpAnyH_ready (rs := [6]) (by kernel_rfl) (by simp) ?_
          refine AllReadyH.cons rfl (fun K hK => ?_) AllReadyH.nil
          obtain ⟨y0, y1⟩ := b0.out.cells
          have f0 := b0.out.free 0
          have f1 := b0.out.free 1
          go_simp
          have bw := Lib.hid ((bw.out.setCell (p := ⟨v6.heap.size, 0, none⟩) (by have sz1_ := sz1.out; have sz2_ := sz2.out; have szw_ := szw.out; have sz3_ := sz3.out; have sz4_ := sz4.out; have sz5_ := sz5.out; have sz6_ := sz6.out; have sz7_ := sz7.out; show w.heap.size ≤ v6.heap.size; omega) (.slice A0 r.length c0)).setCell (p := ⟨v6.heap.size, 1, none⟩) (by have sz1_ := sz1.out; have sz2_ := sz2.out; have szw_ := szw.out; have sz3_ := sz3.out; have sz4_ := sz4.out; have sz5_ := sz5.out; have sz6_ := sz6.out; have sz7_ := sz7.out; show w.heap.size ≤ v6.heap.size; omega) (.int .i64 jc))
          have idr := Lib.hid (rowrow_set2 idr.out (b := v6.heap.size) (by have sz1_ := sz1.out; have sz2_ := sz2.out; have szw_ := szw.out; have sz3_ := sz3.out; have sz4_ := sz4.out; have sz5_ := sz5.out; have sz6_ := sz6.out; have sz7_ := sz7.out; omega) (.slice A0 r.length c0) (.int .i64 jc))
          have w0 := Lib.hid (held_set2 w0.out (b := v6.heap.size) (by have sz1_ := sz1.out; have sz2_ := sz2.out; have szw_ := szw.out; have sz3_ := sz3.out; have sz4_ := sz4.out; have sz5_ := sz5.out; have sz6_ := sz6.out; have sz7_ := sz7.out; omega) (.slice A0 r.length c0) (.int .i64 jc))
          have b0 := Lib.hid (srow_put b0.out (.slice A0 r.length c0) jc)
          clear y0 y1 f0 f1
          refine hK.out _ _ ?_ (fun hHeld => ?_)
          · exact idr.out
          clear hK K
          try simp only [Act.put, List.setIfInBounds_toArray, List.set_cons_zero, List.set_cons_succ, List.getElem_toArray, List.getElem_cons_succ, List.getElem_cons_zero]
          refine wpAnyH_done (by kernel_rfl) ?_ _
          go_wp2_with fail
          go_meet
          exact ⟨_, _, _, _, _, rfl, b0, w0, Lib.hid ⟨by have sz1_ := sz1.out; have sz2_ := sz2.out; have szw_ := szw.out; have sz3_ := sz3.out; have sz4_ := sz4.out; have sz5_ := sz5.out; have sz6_ := sz6.out; have sz7_ := sz7.out; simp only [World.size_setCell]; omega, b0.out.lt, RowRow.lt idr.out⟩, idr, bw⟩
        · go_simp
          have bw := Lib.hid (bw.out.alloc bw.out.size (Obj.cells #[Value.slice none 0 0, Value.int IntKind.i64 0] 35))
          have idr := Lib.hid (RowRow.alloc idr.out (Obj.cells #[Value.slice none 0 0, Value.int IntKind.i64 0] 35))
          have t0 := Lib.hid (t0.out.step ((Below.refl _ v5).alloc (Nat.le_refl _) (Obj.cells #[Value.slice none 0 0, Value.int IntKind.i64 0] 35)) (.inr (Nat.le_refl _)))
          have b0 := Lib.hid (SRow.new v5 (.slice none 0 0) 0)
          have sz6 := Lib.hid (show v5.heap.size + 1 = (World.alloc v5 (Obj.cells #[Value.slice none 0 0, Value.int IntKind.i64 0] 35)).heap.size by simp)
          generalize World.alloc v5 _ = v6 at bw idr t0 b0 sz6 ⊢
          refine hK.out _ _ ?_ (fun hHeld => ?_)
          · exact idr.out
          clear hK K
          try simp only [Act.put, List.setIfInBounds_toArray, List.set_cons_zero, List.set_cons_succ, List.getElem_toArray, List.getElem_cons_succ, List.getElem_cons_zero]
          refine wpAnyH_ready (rs := [4]) (by kernel_rfl) (by simp) ?_
          refine AllReadyH.cons rfl (fun K hK => ?_) AllReadyH.nil
          go_simp
          refine (specPutOut_any _ l l.length x _ (t0.out.lies (by have sz1_ := sz1.out; have sz2_ := sz2.out; have szw_ := szw.out; have sz3_ := sz3.out; have sz4_ := sz4.out; have sz5_ := sz5.out; have sz6_ := sz6.out; omega)) hl0 (Nat.le_refl _) hlm HK.out HQ.out).mono ?_
          rintro e v7 hans
          rw [HR.out, HJ.out] at hans
          obtain ⟨A0, c0, rfl, hh, hc0, hb⟩ := hans.held
          have bw := Lib.hid (bw.out.trans (hb.mono bw.out.size))
          have idr := Lib.hid (RowRow.step idr.out hb (RowRow.lt idr.out))
          have t0 := Lib.hid (t0.out.step hb (.inr (Nat.le_refl _)))
          have b0 := Lib.hid (b0.out.step hb b0.out.lt)
          have sz7 := Lib.hid (show v6.heap.size ≤ v7.heap.size from hb.size)
          have w0 := Lib.hid (hh)
          clear hb
          clear hh hans
          unfold outV
          clear t0
          refine hK.out _ _ ?_ (fun hHeld => ?_)
          · exact idr.out
          clear hK K
          try simp only [Act.put, List.setIfInBounds_toArray, List.set_cons_zero, List.set_cons_succ, List.getElem_toArray, List.getElem_cons_succ, List.getElem_cons_zero]
          refine wpAnyH_ready (rs := [6]) (by kernel_rfl) (by simp) ?_
          refine AllReadyH.cons rfl (fun K hK => ?_) AllReadyH.nil
          obtain ⟨y0, y1⟩ := b0.out.cells
          have f0 := b0.out.free 0
          have f1 := b0.out.free 1
          go_simp
          have bw := Lib.hid ((bw.out.setCell (p := ⟨v5.heap.size, 0, none⟩) (by have sz1_ := sz1.out; have sz2_ := sz2.out; have szw_ := szw.out; have sz3_ := sz3.out; have sz4_ := sz4.out; have sz5_ := sz5.out; have sz6_ := sz6.out; have sz7_ := sz7.out; show w.heap.size ≤ v5.heap.size; omega) (.slice A0 r.length c0)).setCell (p := ⟨v5.heap.size, 1, none⟩) (by have sz1_ := sz1.out; have sz2_ := sz2.out; have szw_ := szw.out; have sz3_ := sz3.out; have sz4_ := sz4.out; have sz5_ := sz5.out; have sz6_ := sz6.out; have sz7_ := sz7.out; show w.heap.size ≤ v5.heap.size; omega) (.int .i64 jc))
          have idr := Lib.hid (rowrow_set2 idr.out (b := v5.heap.size) (by have sz1_ := sz1.out; have sz2_ := sz2.out; have szw_ := szw.out; have sz3_ := sz3.out; have sz4_ := sz4.out; have sz5_ := sz5.out; have sz6_ := sz6.out; have sz7_ := sz7.out; omega) (.slice A0 r.length c0) (.int .i64 jc))
          have b0 := Lib.hid (srow_put b0.out (.slice A0 r.length c0) jc)
          have w0 := Lib.hid (held_set2 w0.out (b := v5.heap.size) (by have sz1_ := sz1.out; have sz2_ := sz2.out; have szw_ := szw.out; have sz3_ := sz3.out; have sz4_ := sz4.out; have sz5_ := sz5.out; have sz6_ := sz6.out; have sz7_ := sz7.out; omega) (.slice A0 r.length c0) (.int .i64 jc))
          clear y0 y1 f0 f1
          refine hK.out _ _ ?_ (fun hHeld => ?_)
          · exact idr.out
          clear hK K
          try simp only [Act.put, List.setIfInBounds_toArray, List.set_cons_zero, List.set_cons_succ, List.getElem_toArray, List.getElem_cons_succ, List.getElem_cons_zero]
          refine wpAnyH_done (by kernel_rfl) ?_ _
          go_wp2_with fail
          go_meet
          exact ⟨_, _, _, _, _, rfl, b0, w0, Lib.hid ⟨by have sz1_ := sz1.out; have sz2_ := sz2.out; have szw_ := szw.out; have sz3_ := sz3.out; have sz4_ := sz4.out; have sz5_ := sz5.out; have sz6_ := sz6.out; have sz7_ := sz7.out; simp only [World.size_setCell]; omega, b0.out.lt, RowRow.lt idr.out⟩, idr, bw⟩
      · go_simp
        have bw := Lib.hid (bw.out.alloc bw.out.size (Obj.cells #[Value.slice none 0 0, Value.int IntKind.i64 0] 35))
        have idr := Lib.hid (RowRow.alloc idr.out (Obj.cells #[Value.slice none 0 0, Value.int IntKind.i64 0] 35))
        have t0 := Lib.hid (t0.out.step ((Below.refl _ v4).alloc (Nat.le_refl _) (Obj.cells #[Value.slice none 0 0, Value.int IntKind.i64 0] 35)) (.inr (Nat.le_refl _)))
        have b0 := Lib.hid (SRow.new v4 (.slice none 0 0) 0)
        have sz5 := Lib.hid (show v4.heap.size + 1 = (World.alloc v4 (Obj.cells #[Value.slice none 0 0, Value.int IntKind.i64 0] 35)).heap.size by simp)
        generalize World.alloc v4 _ = v5 at bw idr t0 b0 sz5 ⊢
        refine hK.out _ _ ?_ (fun hHeld => ?_)
        · exact idr.out
        clear hK K
        try simp only [Act.put, List.setIfInBounds_toArray, List.set_cons_zero, List.set_cons_succ, List.getElem_toArray, List.getElem_cons_succ, List.getElem_cons_zero]
        refine wpAnyH_ready (rs := [3]) (by kernel_rfl) (by simp) ?_
        refine AllReadyH.cons rfl (fun K hK => ?_) AllReadyH.nil
        go_simp
        refine (toRow_any x _).mono ?_
        rintro e v6 ⟨rfl, hb⟩
        have bw := Lib.hid (bw.out.trans (hb.mono bw.out.size))
        have idr := Lib.hid (RowRow.step idr.out hb (RowRow.lt idr.out))
        have t0 := Lib.hid (t0.out.step hb (.inr (Nat.le_refl _)))
        have b0 := Lib.hid (b0.out.step hb b0.out.lt)
        have sz6 := Lib.hid (show v5.heap.size ≤ v6.heap.size from hb.size)
        clear hb
        unfold R.val
        refine hK.out _ _ ?_ (fun hHeld => ?_)
        · exact idr.out
        clear hK K
        try simp only [Act.put, List.setIfInBounds_toArray, List.set_cons_zero, List.set_cons_succ, List.getElem_toArray, List.getElem_cons_succ, List.getElem_cons_zero]
        refine wpAnyH_ready (rs := [4]) (by kernel_rfl) (by simp) ?_
        refine AllReadyH.cons rfl (fun K hK => ?_) AllReadyH.nil
        go_simp
        refine (specPutOut_any _ l l.length x _ (t0.out.lies (by have sz1_ := sz1.out; have sz2_ := sz2.out; have szw_ := szw.out; have sz3_ := sz3.out; have sz4_ := sz4.out; have sz5_ := sz5.out; have sz6_ := sz6.out; omega)) hl0 (Nat.le_refl _) hlm HK.out HQ.out).mono ?_
        rintro e v7 hans
        rw [HR.out, HJ.out] at hans
        obtain ⟨A0, c0, rfl, hh, hc0, hb⟩ := hans.held
        have bw := Lib.hid (bw.out.trans (hb.mono bw.out.size))
        have idr := Lib.hid (RowRow.step idr.out hb (RowRow.lt idr.out))
        have t0 := Lib.hid (t0.out.step hb (.inr (Nat.le_refl _)))
        have b0 := Lib.hid (b0.out.step hb b0.out.lt)
        have sz7 := Lib.hid (show v6.heap.size ≤ v7.heap.size from hb.size)
        have w0 := Lib.hid (hh)
        clear hb
        clear hh hans
        unfold outV
        clear t0
        refine hK.out _ _ ?_ (fun hHeld => ?_)
        · exact idr.out
        clear hK K
        try simp only [Act.put, List.setIfInBounds_toArray, List.set_cons_zero, List.set_cons_succ, List.getElem_toArray, List.getElem_cons_succ, List.getElem_cons_zero]
        refine wpAnyH_ready (rs := [6]) (by kernel_rfl) (by simp) ?_
        refine AllReadyH.cons rfl (fun K hK => ?_) AllReadyH.nil
        obtain ⟨y0, y1⟩ := b0.out.cells
        have f0 := b0.out.free 0
        have f1 := b0.out.free 1
        go_simp
        have bw := Lib.hid ((bw.out.setCell (p := ⟨v4.heap.size, 0, none⟩) (by have sz1_ := sz1.out; have sz2_ := sz2.out; have szw_ := szw.out; have sz3_ := sz3.out; have sz4_ := sz4.out; have sz5_ := sz5.out; have sz6_ := sz6.out; have sz7_ := sz7.out; show w.heap.size ≤ v4.heap.size; omega) (.slice A0 r.length c0)).setCell (p := ⟨v4.heap.size, 1, none⟩) (by have sz1_ := sz1.out; have sz2_ := sz2.out; have szw_ := szw.out; have sz3_ := sz3.out; have sz4_ := sz4.out; have sz5_ := sz5.out; have sz6_ := sz6.out; have sz7_ := sz7.out; show w.heap.size ≤ v4.heap.size; omega) (.int .i64 jc))
        have idr := Lib.hid (rowrow_set2 idr.out (b := v4.heap.size) (by have sz1_ := sz1.out; have sz2_ := sz2.out; have szw_ := szw.out; have sz3_ := sz3.out; have sz4_ := sz4.out; have sz5_ := sz5.out; have sz6_ := sz6.out; have sz7_ := sz7.out; omega) (.slice A0 r.length c0) (.int .i64 jc))
        have b0 := Lib.hid (srow_put b0.out (.slice A0 r.length c0) jc)
        have w0 := Lib.hid (held_set2 w0.out (b := v4.heap.size) (by have sz1_ := sz1.out; have sz2_ := sz2.out; have szw_ := szw.out; have sz3_ := sz3.out; have sz4_ := sz4.out; have sz5_ := sz5.out; have sz6_ := sz6.out; have sz7_ := sz7.out; omega) (.slice A0 r.length c0) (.int .i64 jc))
        clear y0 y1 f0 f1
        refine hK.out _ _ ?_ (fun hHeld => ?_)
        · exact idr.out
        clear hK K
        try simp only [Act.put, List.setIfInBounds_toArray, List.set_cons_zero, List.set_cons_succ, List.getElem_toArray, List.getElem_cons_succ, List.getElem_cons_zero]
        refine wpAnyH_done (by kernel_rfl) ?_ _
        go_wp2_with fail
        go_meet
        exact ⟨_, _, _, _, _, rfl, b0, w0, Lib.hid ⟨by have sz1_ := sz1.out; have sz2_ := sz2.out; have szw_ := szw.out; have sz3_ := sz3.out; have sz4_ := sz4.out; have sz5_ := sz5.out; have sz6_ := sz6.out; have sz7_ := sz7.out; simp only [World.size_setCell]; omega, b0.out.lt, RowRow.lt idr.out⟩, idr, bw⟩
    · go_simp
      have bw := Lib.hid (bw.out.alloc bw.out.size (Obj.cells #[Value.slice none 0 0, Value.int IntKind.i64 0] 35))
      have idr := Lib.hid (RowRow.alloc idr.out (Obj.cells #[Value.slice none 0 0, Value.int IntKind.i64 0] 35))
      have b0 := Lib.hid (SRow.new v3 (.slice none 0 0) 0)
      have sz4 := Lib.hid (show v3.heap.size + 1 = (World.alloc v3 (Obj.cells #[Value.slice none 0 0, Value.int IntKind.i64 0] 35)).heap.size by simp)
      generalize World.alloc v3 _ = v4 at bw idr b0 sz4 ⊢
      refine hK.out _ _ ?_ (fun hHeld => ?_)
      · exact idr.out
      clear hK K
      try simp only [Act.put, List.setIfInBounds_toArray, List.set_cons_zero, List.set_cons_succ, List.getElem_toArray, List.getElem_cons_succ, List.getElem_cons_zero]
      refine wpAnyH_ready (rs := [1]) (by kernel_rfl) (by simp) ?_
      refine AllReadyH.cons rfl (fun K hK => ?_) AllReadyH.nil
      go_simp
      refine (toRowS_any A l cap _ ((H.out.below bw.out (Nat.le_refl _)).more bw.out.size) hl0).mono ?_
      rintro e v5 ⟨gt0, rfl, hgt0, ho, hb⟩
      have bw := Lib.hid (bw.out.trans (hb.mono bw.out.size))
      have idr := Lib.hid (RowRow.step idr.out hb (RowRow.lt idr.out))
      have b0 := Lib.hid (b0.out.step hb b0.out.lt)
      have sz5 := Lib.hid (show v4.heap.size ≤ v5.heap.size from hb.size)
      have t0 := Lib.hid (show Held v5 (some ⟨gt0, 0, none⟩) l v4.heap.size v5.heap.size from Held.of_row ho (Nat.le_refl _) hgt0)
      clear hb
      clear ho
      refine hK.out _ _ ?_ (fun hHeld => ?_)
      · exact idr.out
      clear hK K
      try simp only [Act.put, List.setIfInBounds_toArray, List.set_cons_zero, List.set_cons_succ, List.getElem_toArray, List.getElem_cons_succ, List.getElem_cons_zero]
      refine wpAnyH_ready (rs := [3]) (by kernel_rfl) (by simp) ?_
      refine AllReadyH.cons rfl (fun K hK => ?_) AllReadyH.nil
      go_simp
      refine (toRow_any x _).mono ?_
      rintro e v6 ⟨rfl, hb⟩
      have bw := Lib.hid (bw.out.trans (hb.mono bw.out.size))
      have idr := Lib.hid (RowRow.step idr.out hb (RowRow.lt idr.out))
      have b0 := Lib.hid (b0.out.step hb b0.out.lt)
      have t0 := Lib.hid (t0.out.step hb (.inr (Nat.le_refl _)))
      have sz6 := Lib.hid (show v5.heap.size ≤ v6.heap.size from hb.size)
      clear hb
      unfold R.val
      refine hK.out _ _ ?_ (fun hHeld => ?_)
      · exact idr.out
      clear hK K
      try simp only [Act.put, List.setIfInBounds_toArray, List.set_cons_zero, List.set_cons_succ, List.getElem_toArray, List.getElem_cons_succ, List.getElem_cons_zero]
      refine wpAnyH_ready (rs := [4]) (by kernel_rfl) (by simp) ?_
      refine AllReadyH.cons rfl (fun K hK => ?_) AllReadyH.nil
      go_simp
      refine (specPutOut_any _ l l.length x _ (t0.out.lies (by have sz1_ := sz1.out; have sz2_ := sz2.out; have szw_ := szw.out; have sz3_ := sz3.out; have sz4_ := sz4.out; have sz5_ := sz5.out; have sz6_ := sz6.out; omega)) hl0 (Nat.le_refl _) hlm HK.out HQ.out).mono ?_
      rintro e v7 hans
      rw [HR.out, HJ.out] at hans
      obtain ⟨A0, c0, rfl, hh, hc0, hb⟩ := hans.held
      have bw := Lib.hid (bw.out.trans (hb.mono bw.out.size))
      have idr := Lib.hid (RowRow.step idr.out hb (RowRow.lt idr.out))
      have b0 := Lib.hid (b0.out.step hb b0.out.lt)
      have t0 := Lib.hid (t0.out.step hb (.inr (Nat.le_refl _)))
      have sz7 := Lib.hid (show v6.heap.size ≤ v7.heap.size from hb.size)
      have w0 := Lib.hid (hh)
      clear hb
      clear hh hans
      unfold outV
      clear t0
      refine hK.out _ _ ?_ (fun hHeld => ?_)
      · exact idr.out
      clear hK K
      try simp only [Act.put, List.setIfInBounds_toArray, List.set_cons_zero, List.set_cons_succ, List.getElem_toArray, List.getElem_cons_succ, List.getElem_cons_zero]
      refine wpAnyH_ready (rs := [6]) (by kernel_rfl) (by simp) ?_
      refine AllReadyH.cons rfl (fun K hK => ?_) AllReadyH.nil
      obtain ⟨y0, y1⟩ := b0.out.cells
      have f0 := b0.out.free 0
      have f1 := b0.out.free 1
      go_simp
      have bw := Lib.hid ((bw.out.setCell (p := ⟨v3.heap.size, 0, none⟩) (by have sz1_ := sz1.out; have sz2_ := sz2.out; have szw_ := szw.out; have sz3_ := sz3.out; have sz4_ := sz4.out; have sz5_ := sz5.out; have sz6_ := sz6.out; have sz7_ := sz7.out; show w.heap.size ≤ v3.heap.size; omega) (.slice A0 r.length c0)).setCell (p := ⟨v3.heap.size, 1, none⟩) (by have sz1_ := sz1.out; have sz2_ := sz2.out; have szw_ := szw.out; have sz3_ := sz3.out; have sz4_ := sz4.out; have sz5_ := sz5.out; have sz6_ := sz6.out; have sz7_ := sz7.out; show w.heap.size ≤ v3.heap.size; omega) (.int .i64 jc))
      have idr := Lib.hid (rowrow_set2 idr.out (b := v3.heap.size) (by have sz1_ := sz1.out; have sz2_ := sz2.out; have szw_ := szw.out; have sz3_ := sz3.out; have sz4_ := sz4.out; have sz5_ := sz5.out; have sz6_ := sz6.out; have sz7_ := sz7.out; omega) (.slice A0 r.length c0) (.int .i64 jc))
      have b0 := Lib.hid (srow_put b0.out (.slice A0 r.length c0) jc)
      have w0 := Lib.hid (held_set2 w0.out (b := v3.heap.size) (by have sz1_ := sz1.out; have sz2_ := sz2.out; have szw_ := szw.out; have sz3_ := sz3.out; have sz4_ := sz4.out; have sz5_ := sz5.out; have sz6_ := sz6.out; have sz7_ := sz7.out; omega) (.slice A0 r.length c0) (.int .i64 jc))
      clear y0 y1 f0 f1
      refine hK.out _ _ ?_ (fun hHeld => ?_)
      · exact idr.out
      clear hK K
      try simp only [Act.put, List.setIfInBounds_toArray, List.set_cons_zero, List.set_cons_succ, List.getElem_toArray, List.getElem_cons_succ, List.getElem_cons_zero]
      refine wpAnyH_done (by kernel_rfl) ?_ _
      go_wp2_with fail
      go_meet
      exact ⟨_, _, _, _, _, rfl, b0, w0, Lib.hid ⟨by have sz1_ := sz1.out; have sz2_ := sz2.out; have szw_ := szw.out; have sz3_ := sz3.out; have sz4_ := sz4.out; have sz5_ := sz5.out; have sz6_ := sz6.out; have sz7_ := sz7.out; simp only [World.size_setCell]; omega, b0.out.lt, RowRow.lt idr.out⟩, idr, bw⟩
  case rest =>
    obtain ⟨b, A0, c0, lo0, hi0, rfl, b0, w0, szc, idr, bw⟩ := hcut
    go_wp2_with fail
    refine (toRowS_any A l cap _ ((H.out.below bw.out (Nat.le_refl _)).more bw.out.size) hl0).mono ?_
    rintro e v101 ⟨gx0, rfl, hgx0, ho, hb⟩
    have b0 := Lib.hid (b0.out.step hb b0.out.lt)
    have w0 := Lib.hid (w0.out.step hb (.inr (Nat.le_refl _)))
    have idr := Lib.hid (RowRow.step idr.out hb (RowRow.lt idr.out))
    have bw := Lib.hid (bw.out.trans (hb.mono bw.out.size))
    have sz101 := Lib.hid (show wc.heap.size ≤ v101.heap.size from hb.size)
    have x0 := Lib.hid (show Held v101 (some ⟨gx0, 0, none⟩) l wc.heap.size v101.heap.size from Held.of_row ho (Nat.le_refl _) hgx0)
    clear hb
    clear ho
    obtain ⟨i0, i1, i2, i3, i4⟩ := RowRow.cells idr.out
    go_wp2_with fail
    clear i0 i1 i2 i3 i4
    refine (toRow_any x _).mono ?_
    rintro e v102 ⟨rfl, hb⟩
    have b0 := Lib.hid (b0.out.step hb b0.out.lt)
    have w0 := Lib.hid (w0.out.step hb (.inr (Nat.le_refl _)))
    have idr := Lib.hid (RowRow.step idr.out hb (RowRow.lt idr.out))
    have bw := Lib.hid (bw.out.trans (hb.mono bw.out.size))
    have x0 := Lib.hid (x0.out.step hb (.inr (Nat.le_refl _)))
    have sz102 := Lib.hid (show v101.heap.size ≤ v102.heap.size from hb.size)
    clear hb
    unfold R.val
    go_wp2_with fail
    refine (implPutOut_any _ l l.length x _ (x0.out.lies (by have szc_ := szc.out; have sz101_ := sz101.out; have sz102_ := sz102.out; omega)) hl0 HK.out HQ.out).mono ?_
    rintro e v103 hans
    rw [HR.out, HJ.out] at hans
    obtain ⟨A1, c1, rfl, hh, hc1, hb⟩ := hans.held
    have b0 := Lib.hid (b0.out.step hb b0.out.lt)
    have w0 := Lib.hid (w0.out.step hb (.inr (Nat.le_refl _)))
    have idr := Lib.hid (RowRow.step idr.out hb (RowRow.lt idr.out))
    have bw := Lib.hid (bw.out.trans (hb.mono bw.out.size))
    have x0 := Lib.hid (x0.out.step hb (.inr (Nat.le_refl _)))
    have sz103 := Lib.hid (show v102.heap.size ≤ v103.heap.size from hb.size)
    have w1 := Lib.hid (hh)
    clear hb
    clear hh hans
    unfold outV
    obtain ⟨p0, p1⟩ := (b0.out.alloc (Obj.cells #[Value.slice A1 r.length c1, Value.int IntKind.i64 jc] 35)).cells
    go_wp2_with fail
    clear p0 p1
    have b0 := Lib.hid (b0.out.alloc (Obj.cells #[Value.slice A1 r.length c1, Value.int IntKind.i64 jc] 35))
    have w0 := Lib.hid (w0.out.step ((Below.refl _ v103).alloc (Nat.le_refl _) (Obj.cells #[Value.slice A1 r.length c1, Value.int IntKind.i64 jc] 35)) (.inr (Nat.le_refl _)))
    have idr := Lib.hid (RowRow.alloc idr.out (Obj.cells #[Value.slice A1 r.length c1, Value.int IntKind.i64 jc] 35))
    have bw := Lib.hid (bw.out.alloc bw.out.size (Obj.cells #[Value.slice A1 r.length c1, Value.int IntKind.i64 jc] 35))
    have x0 := Lib.hid (x0.out.step ((Below.refl _ v103).alloc (Nat.le_refl _) (Obj.cells #[Value.slice A1 r.length c1, Value.int IntKind.i64 jc] 35)) (.inr (Nat.le_refl _)))
    have w1 := Lib.hid (w1.out.step ((Below.refl _ v103).alloc (Nat.le_refl _) (Obj.cells #[Value.slice A1 r.length c1, Value.int IntKind.i64 jc] 35)) (.inr (Nat.le_refl _)))
    have b1 := Lib.hid (SRow.new v103 (.slice A1 r.length c1) jc)
    have sz104 := Lib.hid (show v103.heap.size + 1 = (World.alloc v103 (Obj.cells #[Value.slice A1 r.length c1, Value.int IntKind.i64 jc] 35)).heap.size by simp)
    generalize World.alloc v103 _ = v104 at b0 w0 idr bw x0 w1 b1 sz104 ⊢
    refine (eqOut_same A1 A0 r c1 c0 jc _ (w1.out.lies (by have szc_ := szc.out; have sz101_ := sz101.out; have sz102_ := sz102.out; have sz103_ := sz103.out; have sz104_ := sz104.out; omega)) (w0.out.lies (by have szc_ := szc.out; have sz101_ := sz101.out; have sz102_ := sz102.out; have sz103_ := sz103.out; have sz104_ := sz104.out; omega)) hrl).mono ?_
    rintro e v105 ⟨rfl, hb⟩
    have b0 := Lib.hid (b0.out.step hb b0.out.lt)
    have w0 := Lib.hid (w0.out.step hb (.inr (Nat.le_refl _)))
    have idr := Lib.hid (RowRow.step idr.out hb (RowRow.lt idr.out))
    have bw := Lib.hid (bw.out.trans (hb.mono bw.out.size))
    have x0 := Lib.hid (x0.out.step hb (.inr (Nat.le_refl _)))
    have w1 := Lib.hid (w1.out.step hb (.inr (Nat.le_refl _)))
    have b1 := Lib.hid (b1.out.step hb b1.out.lt)
    have sz105 := Lib.hid (show v104.heap.size ≤ v105.heap.size from hb.size)
    clear hb
    go_wp2_with fail
    refine (toRowS_any A l cap _ ((H.out.below bw.out (Nat.le_refl _)).more bw.out.size) hl0).mono ?_
    rintro e v106 ⟨gt0, rfl, hgt0, ho, hb⟩
    have b0 := Lib.hid (b0.out.step hb b0.out.lt)
    have w0 := Lib.hid (w0.out.step hb (.inr (Nat.le_refl _)))
    have idr := Lib.hid (RowRow.step idr.out hb (RowRow.lt idr.out))
    have bw := Lib.hid (bw.out.trans (hb.mono bw.out.size))
    have x0 := Lib.hid (x0.out.step hb (.inr (Nat.le_refl _)))
    have w1 := Lib.hid (w1.out.step hb (.inr (Nat.le_refl _)))
    have b1 := Lib.hid (b1.out.step hb b1.out.lt)
    have sz106 := Lib.hid (show v105.heap.size ≤ v106.heap.size from hb.size)
    have t0 := Lib.hid (show Held v106 (some ⟨gt0, 0, none⟩) l v105.heap.size v106.heap.size from Held.of_row ho (Nat.le_refl _) hgt0)
    clear hb
    clear ho
    go_wp2_with fail
    refine (eqRowS_same _ _ l l.length l.length _ (x0.out.lies (by have szc_ := szc.out; have sz101_ := sz101.out; have sz102_ := sz102.out; have sz103_ := sz103.out; have sz104_ := sz104.out; have sz105_ := sz105.out; have sz106_ := sz106.out; omega)) (t0.out.lies (by have szc_ := szc.out; have sz101_ := sz101.out; have sz102_ := sz102.out; have sz103_ := sz103.out; have sz104_ := sz104.out; have sz105_ := sz105.out; have sz106_ := sz106.out; omega)) hlm).mono ?_
    rintro e v107 ⟨rfl, hb⟩
    have b0 := Lib.hid (b0.out.step hb b0.out.lt)
    have w0 := Lib.hid (w0.out.step hb (.inr (Nat.le_refl _)))
    have idr := Lib.hid (RowRow.step idr.out hb (RowRow.lt idr.out))
    have bw := Lib.hid (bw.out.trans (hb.mono bw.out.size))
    have x0 := Lib.hid (x0.out.step hb (.inr (Nat.le_refl _)))
    have w1 := Lib.hid (w1.out.step hb (.inr (Nat.le_refl _)))
    have b1 := Lib.hid (b1.out.step hb b1.out.lt)
    have t0 := Lib.hid (t0.out.step hb (.inr (Nat.le_refl _)))
    have sz107 := Lib.hid (show v106.heap.size ≤ v107.heap.size from hb.size)
    clear hb
    clear t0
    go_wp2_with fail
    refine (mark_any _ l l.length 1 _ _ _ x0.out hl0 (by omega)).mono ?_
    rintro e v108 ⟨rfl, hh, ht⟩
    have b0 := Lib.hid (ht.srow b0.out)
    have w0 := Lib.hid (ht.held w0.out (by have szc_ := szc.out; have sz101_ := sz101.out; have sz102_ := sz102.out; have sz103_ := sz103.out; have sz104_ := sz104.out; have sz105_ := sz105.out; have sz106_ := sz106.out; have sz107_ := sz107.out; omega))
    have idr := Lib.hid (ht.rowrow idr.out (by decide))
    have bw := Lib.hid (ht.below bw.out (by have szc_ := szc.out; have sz101_ := sz101.out; have sz102_ := sz102.out; have sz103_ := sz103.out; have sz104_ := sz104.out; have sz105_ := sz105.out; have sz106_ := sz106.out; have sz107_ := sz107.out; omega))
    have x0 := Lib.hid hh
    have w1 := Lib.hid (ht.held w1.out (by have szc_ := szc.out; have sz101_ := sz101.out; have sz102_ := sz102.out; have sz103_ := sz103.out; have sz104_ := sz104.out; have sz105_ := sz105.out; have sz106_ := sz106.out; have sz107_ := sz107.out; omega))
    have b1 := Lib.hid (ht.srow b1.out)
    have sz108 := Lib.hid (show v107.heap.size ≤ v108.heap.size from ht.size)
    clear hh ht
    have hk2 : ¬ ((1 + 5 * l.length : Nat) : Int) < 0 := by omega
    obtain ⟨z0, hz0⟩ : ∃ z : Nat, 1 + 5 * l.length = z := ⟨_, rfl⟩
    rw [hz0] at hk2 ⊢
    clear hz0
    obtain ⟨p0, p1⟩ := b1.out.cells
    obtain ⟨q0, q1⟩ := b0.out.cells
    go_wp2_with fail
    clear p0 p1 q0 q1
    refine (eqOut_same A1 A0 r c1 c0 jc _ (w1.out.lies (by have szc_ := szc.out; have sz101_ := sz101.out; have sz102_ := sz102.out; have sz103_ := sz103.out; have sz104_ := sz104.out; have sz105_ := sz105.out; have sz106_ := sz106.out; have sz107_ := sz107.out; have sz108_ := sz108.out; omega)) (w0.out.lies (by have szc_ := szc.out; have sz101_ := sz101.out; have sz102_ := sz102.out; have sz103_ := sz103.out; have sz104_ := sz104.out; have sz105_ := sz105.out; have sz106_ := sz106.out; have sz107_ := sz107.out; have sz108_ := sz108.out; omega)) hrl).mono ?_
    rintro e v109 ⟨rfl, hb⟩
    have b0 := Lib.hid (b0.out.step hb b0.out.lt)
    have w0 := Lib.hid (w0.out.step hb (.inr (Nat.le_refl _)))
    have idr := Lib.hid (RowRow.step idr.out hb (RowRow.lt idr.out))
    have bw := Lib.hid (bw.out.trans (hb.mono bw.out.size))
    have x0 := Lib.hid (x0.out.step hb (.inr (Nat.le_refl _)))
    have w1 := Lib.hid (w1.out.step hb (.inr (Nat.le_refl _)))
    have b1 := Lib.hid (b1.out.step hb b1.out.lt)
    have sz109 := Lib.hid (show v108.heap.size ≤ v109.heap.size from hb.size)
    clear hb
    obtain ⟨p0, p1⟩ := b1.out.cells
    obtain ⟨q0, q1⟩ := b0.out.cells
    go_wp2_with fail
    clear p0 p1 q0 q1
    clear x0
    refine (markOut_any A1 r c1 1 _ _ jc _ w1.out (by have szc_ := szc.out; have sz101_ := sz101.out; have sz102_ := sz102.out; have sz103_ := sz103.out; have sz104_ := sz104.out; have sz105_ := sz105.out; have sz106_ := sz106.out; have sz107_ := sz107.out; have sz108_ := sz108.out; have sz109_ := sz109.out; omega) hrl (by omega)).mono ?_
    rintro e v110 ⟨rfl, hh, ht⟩
    have b0 := Lib.hid (ht.srow b0.out)
    have w0 := Lib.hid (ht.held w0.out (by have szc_ := szc.out; have sz101_ := sz101.out; have sz102_ := sz102.out; have sz103_ := sz103.out; have sz104_ := sz104.out; have sz105_ := sz105.out; have sz106_ := sz106.out; have sz107_ := sz107.out; have sz108_ := sz108.out; have sz109_ := sz109.out; omega))
    have idr := Lib.hid (ht.rowrow idr.out (by decide))
    have bw := Lib.hid (ht.below bw.out (by have szc_ := szc.out; have sz101_ := sz101.out; have sz102_ := sz102.out; have sz103_ := sz103.out; have sz104_ := sz104.out; have sz105_ := sz105.out; have sz106_ := sz106.out; have sz107_ := sz107.out; have sz108_ := sz108.out; have sz109_ := sz109.out; omega))
    have w1 := Lib.hid hh
    have b1 := Lib.hid (ht.srow b1.out)
    have sz110 := Lib.hid (show v109.heap.size ≤ v110.heap.size from ht.size)
    clear hh ht
    have hk3 : ¬ ((1 + 5 * r.length : Nat) : Int) < 0 := by omega
    obtain ⟨z1, hz1⟩ : ∃ z : Nat, 1 + 5 * r.length = z := ⟨_, rfl⟩
    have HZ1 := Lib.hid hz1
    rw [hz1] at hk3 ⊢
    have hze : ((z1 : Int) != (z1 : Int)) = false := by simp
    clear hz1
    obtain ⟨p0, p1⟩ := b1.out.cells
    obtain ⟨q0, q1⟩ := b0.out.cells
    go_wp2_with fail
    clear p0 p1 q0 q1
    refine (heldOut_any A1 r.length c1 1 jc _ (w1.out.lies (by have szc_ := szc.out; have sz101_ := sz101.out; have sz102_ := sz102.out; have sz103_ := sz103.out; have sz104_ := sz104.out; have sz105_ := sz105.out; have sz106_ := sz106.out; have sz107_ := sz107.out; have sz108_ := sz108.out; have sz109_ := sz109.out; have sz110_ := sz110.out; omega)) hrl (by omega)).mono ?_
    rintro e v111 ⟨rfl, hb⟩
    have b0 := Lib.hid (b0.out.step hb b0.out.lt)
    have w0 := Lib.hid (w0.out.step hb (.inr (Nat.le_refl _)))
    have idr := Lib.hid (RowRow.step idr.out hb (RowRow.lt idr.out))
    have bw := Lib.hid (bw.out.trans (hb.mono bw.out.size))
    have w1 := Lib.hid (w1.out.step hb (.inr (Nat.le_refl _)))
    have b1 := Lib.hid (b1.out.step hb b1.out.lt)
    have sz111 := Lib.hid (show v110.heap.size ≤ v111.heap.size from hb.size)
    clear hb
    rw [HZ1.out]
    go_upto_region 27 with fail
    have hb1x := b1.out
    go_cut [12] (fun s14 wx => ∃ (b' : Nat) (A2 : Option Addr) (c2 lo2 hi2 lo1 hi1 : Nat), s14 = .pointer (some ⟨b', 0, none⟩) ∧ Hid (SRow wx b' (.slice A2 r.length c2) jc) ∧ Hid (Held wx A2 r lo2 hi2) ∧ Hid (hi2 ≤ wx.heap.size ∧ hi0 ≤ wx.heap.size ∧ hi1 ≤ wx.heap.size) ∧ Hid (SRow wx b (.slice A0 r.length c0) jc) ∧ Hid (Held wx A0 r lo0 hi0) ∧ Hid (Held wx A1 (marks 1 r.length) lo1 hi1) ∧ Hid (SRow wx v103.heap.size (.slice A1 r.length c1) jc) ∧ Hid (Below w.heap.size w wx))
    case first =>
      clear hb1x
      refine wp_region_held_drew (S := fun V => RowRow V w.heap.size 32 x) (by kernel_rfl) ?_ (fun hHeld => ?_)
      · exact idr.out
      have hb := (Below.refl v111.heap.size v111).drew
      have b0 := Lib.hid (b0.out.step hb b0.out.lt)
      have w0 := Lib.hid (w0.out.step hb (.inr (Nat.le_refl _)))
      have idr := Lib.hid (RowRow.step idr.out hb (RowRow.lt idr.out))
      have bw := Lib.hid (bw.out.trans (hb.mono bw.out.size))
      have w1 := Lib.hid (w1.out.step hb (.inr (Nat.le_refl _)))
      have b1 := Lib.hid (b1.out.step hb b1.out.lt)
      have sz112 := Lib.hid (show v111.heap.size ≤ (World.drew v111).heap.size from hb.size)
      clear hb
      generalize World.drew v111 = v112 at hHeld b0 w0 idr bw w1 b1 sz112 ⊢
      refine wpAnyH_take (i := 0) (v := ?_) rfl (by kernel_rfl) (by kernel_rfl) (by kernel_rfl) (fun _ _ _ h => h) (Or.inl ⟨by rfl, ?_⟩) hHeld ?_
      rotate_left
      · intro V hSw
        go_simp
        try with_reducible rfl
      try simp only [Act.put, List.setIfInBounds_toArray, List.set_cons_zero, List.set_cons_succ, List.getElem_toArray, List.getElem_cons_succ, List.getElem_cons_zero]
      refine wpAnyH_take (i := 2) (v := ?_) rfl (by kernel_rfl) (by kernel_rfl) (by kernel_rfl) (fun _ _ _ h => h) (Or.inl ⟨by rfl, ?_⟩) hHeld ?_
      rotate_left
      · intro V hSw
        obtain ⟨hs0, hs1, hs2, hs3, hs4⟩ := RowRow.cells hSw
        go_simp
        try with_reducible rfl
      try simp only [Act.put, List.setIfInBounds_toArray, List.set_cons_zero, List.set_cons_succ, List.getElem_toArray, List.getElem_cons_succ, List.getElem_cons_zero]
      refine wpAnyH_ready (rs := [1, 5]) (by kernel_rfl) (by simp) ?_
      refine AllReadyH.cons rfl (fun K hK => ?_) (AllReadyH.cons rfl (fun K hK => ?_) AllReadyH.nil)
      · go_simp
        refine (toRowS_any A l cap _ ((H.out.below bw.out (Nat.le_refl _)).more bw.out.size) hl0).mono ?_
        rintro e v113 ⟨gt0, rfl, hgt0, ho, hb⟩
        have b0 := Lib.hid (b0.out.step hb b0.out.lt)
        have w0 := Lib.hid (w0.out.step hb (.inr (Nat.le_refl _)))
        have idr := Lib.hid (RowRow.step idr.out hb (RowRow.lt idr.out))
        have bw := Lib.hid (bw.out.trans (hb.mono bw.out.size))
        have w1 := Lib.hid (w1.out.step hb (.inr (Nat.le_refl _)))
        have b1 := Lib.hid (b1.out.step hb b1.out.lt)
        have sz113 := Lib.hid (show v112.heap.size ≤ v113.heap.size from hb.size)
        have t0 := Lib.hid (show Held v113 (some ⟨gt0, 0, none⟩) l v112.heap.size v113.heap.size from Held.of_row ho (Nat.le_refl _) hgt0)
        clear hb
        clear ho
        refine hK.out _ _ ?_ (fun hHeld => ?_)
        · exact idr.out
        clear hK K
        try simp only [Act.put, List.setIfInBounds_toArray, List.set_cons_zero, List.set_cons_succ, List.getElem_toArray, List.getElem_cons_succ, List.getElem_cons_zero]
        refine wpAnyH_ready (rs := [3, 5]) (by kernel_rfl) (by simp) ?_
        refine AllReadyH.cons rfl (fun K hK => ?_) (AllReadyH.cons rfl (fun K hK => ?_) AllReadyH.nil)
        · go_simp
          refine (toRow_any x _).mono ?_
          rintro e v114 ⟨rfl, hb⟩
          have b0 := Lib.hid (b0.out.step hb b0.out.lt)
          have w0 := Lib.hid (w0.out.step hb (.inr (Nat.le_refl _)))
          have idr := Lib.hid (RowRow.step idr.out hb (RowRow.lt idr.out))
          have bw := Lib.hid (bw.out.trans (hb.mono bw.out.size))
          have w1 := Lib.hid (w1.out.step hb (.inr (Nat.le_refl _)))
          have b1 := Lib.hid (b1.out.step hb b1.out.lt)
          have t0 := Lib.hid (t0.out.step hb (.inr (Nat.le_refl _)))
          have sz114 := Lib.hid (show v113.heap.size ≤ v114.heap.size from hb.size)
          clear hb
          unfold R.val
          refine hK.out _ _ ?_ (fun hHeld => ?_)
          · exact idr.out
          clear hK K
          try simp only [Act.put, List.setIfInBounds_toArray, List.set_cons_zero, List.set_cons_succ, List.getElem_toArray, List.getElem_cons_succ, List.getElem_cons_zero]
          refine wpAnyH_ready (rs := [4, 5]) (by kernel_rfl) (by simp) ?_
          refine AllReadyH.cons rfl (fun K hK => ?_) (AllReadyH.cons rfl (fun K hK => ?_) AllReadyH.nil)
          · go_simp
            refine (implPutOut_any _ l l.length x _ (t0.out.lies (by have szc_ := szc.out; have sz101_ := sz101.out; have sz102_ := sz102.out; have sz103_ := sz103.out; have sz104_ := sz104.out; have sz105_ := sz105.out; have sz106_ := sz106.out; have sz107_ := sz107.out; have sz108_ := sz108.out; have sz109_ := sz109.out; have sz110_ := sz110.out; have sz111_ := sz111.out; have sz112_ := sz112.out; have sz113_ := sz113.out; have sz114_ := sz114.out; omega)) hl0 HK.out HQ.out).mono ?_
            rintro e v115 hans
            rw [HR.out, HJ.out] at hans
            obtain ⟨A2, c2, rfl, hh, hc2, hb⟩ := hans.held
            have b0 := Lib.hid (b0.out.step hb b0.out.lt)
            have w0 := Lib.hid (w0.out.step hb (.inr (Nat.le_refl _)))
            have idr := Lib.hid (RowRow.step idr.out hb (RowRow.lt idr.out))
            have bw := Lib.hid (bw.out.trans (hb.mono bw.out.size))
            have w1 := Lib.hid (w1.out.step hb (.inr (Nat.le_refl _)))
            have b1 := Lib.hid (b1.out.step hb b1.out.lt)
            have t0 := Lib.hid (t0.out.step hb (.inr (Nat.le_refl _)))
            have sz115 := Lib.hid (show v114.heap.size ≤ v115.heap.size from hb.size)
            have w2 := Lib.hid (hh)
            clear hb
            clear hh hans
            unfold outV
            clear t0
            refine hK.out _ _ ?_ (fun hHeld => ?_)
            · exact idr.out
            clear hK K
            try simp only [Act.put, List.setIfInBounds_toArray, List.set_cons_zero, List.set_cons_succ, List.getElem_toArray, List.getElem_cons_succ, List.getElem_cons_zero]
            refine wpAnyH_ready (rs := [5]) (by kernel_rfl) (by simp) ?_
            refine AllReadyH.cons rfl (fun K hK => ?_) AllReadyH.nil
            go_simp
            have b0 := Lib.hid (b0.out.alloc (Obj.cells #[Value.slice none 0 0, Value.int IntKind.i64 0] 35))
            have w0 := Lib.hid (w0.out.step ((Below.refl _ v115).alloc (Nat.le_refl _) (Obj.cells #[Value.slice none 0 0, Value.int IntKind.i64 0] 35)) (.inr (Nat.le_refl _)))
            have idr := Lib.hid (RowRow.alloc idr.out (Obj.cells #[Value.slice none 0 0, Value.int IntKind.i64 0] 35))
            have bw := Lib.hid (bw.out.alloc bw.out.size (Obj.cells #[Value.slice none 0 0, Value.int IntKind.i64 0] 35))
            have w1 := Lib.hid (w1.out.step ((Below.refl _ v115).alloc (Nat.le_refl _) (Obj.cells #[Value.slice none 0 0, Value.int IntKind.i64 0] 35)) (.inr (Nat.le_refl _)))
            have b1 := Lib.hid (b1.out.alloc (Obj.cells #[Value.slice none 0 0, Value.int IntKind.i64 0] 35))
            have w2 := Lib.hid (w2.out.step ((Below.refl _ v115).alloc (Nat.le_refl _) (Obj.cells #[Value.slice none 0 0, Value.int IntKind.i64 0] 35)) (.inr (Nat.le_refl _)))
            have b2 := Lib.hid (SRow.new v115 (.slice none 0 0) 0)
            have sz116 := Lib.hid (show v115.heap.size + 1 = (World.alloc v115 (Obj.cells #[Value.slice none 0 0, Value.int IntKind.i64 0] 35)).heap.size by simp)
            generalize World.alloc v115 _ = v116 at b0 w0 idr bw w1 b1 w2 b2 sz116 ⊢
            refine hK.out _ _ ?_ (fun hHeld => ?_)
            · exact idr.out
            clear hK K
            try simp only [Act.put, List.setIfInBounds_toArray, List.set_cons_zero, List.set_cons_succ, List.getElem_toArray, List.getElem_cons_succ, List.getElem_cons_zero]
            refine wpAnyH_ready (rs := [6]) (by kernel_rfl) (by simp) ?_
            refine AllReadyH.cons rfl (fun K hK => ?_) AllReadyH.nil
            obtain ⟨y0, y1⟩ := b2.out.cells
            have f0 := b2.out.free 0
            have f1 := b2.out.free 1
            go_simp
            have b0 := Lib.hid (srow_set2 b0.out (b := v115.heap.size) (by have szc_ := szc.out; have sz101_ := sz101.out; have sz102_ := sz102.out; have sz103_ := sz103.out; have sz104_ := sz104.out; have sz105_ := sz105.out; have sz106_ := sz106.out; have sz107_ := sz107.out; have sz108_ := sz108.out; have sz109_ := sz109.out; have sz110_ := sz110.out; have sz111_ := sz111.out; have sz112_ := sz112.out; have sz113_ := sz113.out; have sz114_ := sz114.out; have sz115_ := sz115.out; have sz116_ := sz116.out; omega) (.slice A2 r.length c2) (.int .i64 jc))
            have w0 := Lib.hid (held_set2 w0.out (b := v115.heap.size) (by have szc_ := szc.out; have sz101_ := sz101.out; have sz102_ := sz102.out; have sz103_ := sz103.out; have sz104_ := sz104.out; have sz105_ := sz105.out; have sz106_ := sz106.out; have sz107_ := sz107.out; have sz108_ := sz108.out; have sz109_ := sz109.out; have sz110_ := sz110.out; have sz111_ := sz111.out; have sz112_ := sz112.out; have sz113_ := sz113.out; have sz114_ := sz114.out; have sz115_ := sz115.out; have sz116_ := sz116.out; omega) (.slice A2 r.length c2) (.int .i64 jc))
            have idr := Lib.hid (rowrow_set2 idr.out (b := v115.heap.size) (by have szc_ := szc.out; have sz101_ := sz101.out; have sz102_ := sz102.out; have sz103_ := sz103.out; have sz104_ := sz104.out; have sz105_ := sz105.out; have sz106_ := sz106.out; have sz107_ := sz107.out; have sz108_ := sz108.out; have sz109_ := sz109.out; have sz110_ := sz110.out; have sz111_ := sz111.out; have sz112_ := sz112.out; have sz113_ := sz113.out; have sz114_ := sz114.out; have sz115_ := sz115.out; have sz116_ := sz116.out; omega) (.slice A2 r.length c2) (.int .i64 jc))
            have bw := Lib.hid ((bw.out.setCell (p := ⟨v115.heap.size, 0, none⟩) (by have szc_ := szc.out; have sz101_ := sz101.out; have sz102_ := sz102.out; have sz103_ := sz103.out; have sz104_ := sz104.out; have sz105_ := sz105.out; have sz106_ := sz106.out; have sz107_ := sz107.out; have sz108_ := sz108.out; have sz109_ := sz109.out; have sz110_ := sz110.out; have sz111_ := sz111.out; have sz112_ := sz112.out; have sz113_ := sz113.out; have sz114_ := sz114.out; have sz115_ := sz115.out; have sz116_ := sz116.out; show w.heap.size ≤ v115.heap.size; omega) (.slice A2 r.length c2)).setCell (p := ⟨v115.heap.size, 1, none⟩) (by have szc_ := szc.out; have sz101_ := sz101.out; have sz102_ := sz102.out; have sz103_ := sz103.out; have sz104_ := sz104.out; have sz105_ := sz105.out; have sz106_ := sz106.out; have sz107_ := sz107.out; have sz108_ := sz108.out; have sz109_ := sz109.out; have sz110_ := sz110.out; have sz111_ := sz111.out; have sz112_ := sz112.out; have sz113_ := sz113.out; have sz114_ := sz114.out; have sz115_ := sz115.out; have sz116_ := sz116.out; show w.heap.size ≤ v115.heap.size; omega) (.int .i64 jc))
            have w1 := Lib.hid (held_set2 w1.out (b := v115.heap.size) (by have szc_ := szc.out; have sz101_ := sz101.out; have sz102_ := sz102.out; have sz103_ := sz103.out; have sz104_ := sz104.out; have sz105_ := sz105.out; have sz106_ := sz106.out; have sz107_ := sz107.out; have sz108_ := sz108.out; have sz109_ := sz109.out; have sz110_ := sz110.out; have sz111_ := sz111.out; have sz112_ := sz112.out; have sz113_ := sz113.out; have sz114_ := sz114.out; have sz115_ := sz115.out; have sz116_ := sz116.out; omega) (.slice A2 r.length c2) (.int .i64 jc))
            have b1 := Lib.hid (srow_set2 b1.out (b := v115.heap.size) (by have szc_ := szc.out; have sz101_ := sz101.out; have sz102_ := sz102.out; have sz103_ := sz103.out; have sz104_ := sz104.out; have sz105_ := sz105.out; have sz106_ := sz106.out; have sz107_ := sz107.out; have sz108_ := sz108.out; have sz109_ := sz109.out; have sz110_ := sz110.out; have sz111_ := sz111.out; have sz112_ := sz112.out; have sz113_ := sz113.out; have sz114_ := sz114.out; have sz115_ := sz115.out; have sz116_ := sz116.out; omega) (.slice A2 r.length c2) (.int .i64 jc))
            have w2 := Lib.hid (held_set2 w2.out (b := v115.heap.size) (by have szc_ := szc.out; have sz101_ := sz101.out; have sz102_ := sz102.out; have sz103_ := sz103.out; have sz104_ := sz104.out; have sz105_ := sz105.out; have sz106_ := sz106.out; have sz107_ := sz107.out; have sz108_ := sz108.out; have sz109_ := sz109.out; have sz110_ := sz110.out; have sz111_ := sz111.out; have sz112_ := sz112.out; have sz113_ := sz113.out; have sz114_ := sz114.out; have sz115_ := sz115.out; have sz116_ := sz116.out; omega) (.slice A2 r.length c2) (.int .i64 jc))
            have b2 := Lib.hid (srow_put b2.out (.slice A2 r.length c2) jc)
            clear y0 y1 f0 f1
            refine hK.out _ _ ?_ (fun hHeld => ?_)
            · exact idr.out
            clear hK K
            try simp only [Act.put, List.setIfInBounds_toArray, List.set_cons_zero, List.set_cons_succ, List.getElem_toArray, List.getElem_cons_succ, List.getElem_cons_zero]
            refine wpAnyH_done (by kernel_rfl) ?_ _
            go_wp2_with fail
            go_meet
            exact ⟨_, _, _, _, _, _, _, rfl, b2, w2, Lib.hid (by have szc_ := szc.out; have sz101_ := sz101.out; have sz102_ := sz102.out; have sz103_ := sz103.out; have sz104_ := sz104.out; have sz105_ := sz105.out; have sz106_ := sz106.out; have sz107_ := sz107.out; have sz108_ := sz108.out; have sz109_ := sz109.out; have sz110_ := sz110.out; have sz111_ := sz111.out; have sz112_ := sz112.out; have sz113_ := sz113.out; have sz114_ := sz114.out; have sz115_ := sz115.out; have sz116_ := sz116.out; simp only [World.size_setCell]; omega), b0, w0, w1, b1, bw⟩
          · go_simp
            have b0 := Lib.hid (b0.out.alloc (Obj.cells #[Value.slice none 0 0, Value.int IntKind.i64 0] 35))
            have w0 := Lib.hid (w0.out.step ((Below.refl _ v114).alloc (Nat.le_refl _) (Obj.cells #[Value.slice none 0 0, Value.int IntKind.i64 0] 35)) (.inr (Nat.le_refl _)))
            have idr := Lib.hid (RowRow.alloc idr.out (Obj.cells #[Value.slice none 0 0, Value.int IntKind.i64 0] 35))
            have bw := Lib.hid (bw.out.alloc bw.out.size (Obj.cells #[Value.slice none 0 0, Value.int IntKind.i64 0] 35))
            have w1 := Lib.hid (w1.out.step ((Below.refl _ v114).alloc (Nat.le_refl _) (Obj.cells #[Value.slice none 0 0, Value.int IntKind.i64 0] 35)) (.inr (Nat.le_refl _)))
            have b1 := Lib.hid (b1.out.alloc (Obj.cells #[Value.slice none 0 0, Value.int IntKind.i64 0] 35))
            have t0 := Lib.hid (t0.out.step ((Below.refl _ v114).alloc (Nat.le_refl _) (Obj.cells #[Value.slice none 0 0, Value.int IntKind.i64 0] 35)) (.inr (Nat.le_refl _)))
            have b2 := Lib.hid (SRow.new v114 (.slice none 0 0) 0)
            have sz115 := Lib.hid (show v114.heap.size + 1 = (World.alloc v114 (Obj.cells #[Value.slice none 0 0, Value.int IntKind.i64 0] 35)).heap.size by simp)
            generalize World.alloc v114 _ = v115 at b0 w0 idr bw w1 b1 t0 b2 sz115 ⊢
            refine hK.out _ _ ?_ (fun hHeld => ?_)
            · exact idr.out
            clear hK K
            try simp only [Act.put, List.setIfInBounds_toArray, List.set_cons_zero, List.set_cons_succ, List.getElem_toArray, List.getElem_cons_succ, List.getElem_cons_zero]
            refine wpAnyH_ready (rs := [4]) (by kernel_rfl) (by simp) ?_
            refine AllReadyH.cons rfl (fun K hK => ?_) AllReadyH.nil
            go_simp
            refine (implPutOut_any _ l l.length x _ (t0.out.lies (by have szc_ := szc.out; have sz101_ := sz101.out; have sz102_ := sz102.out; have sz103_ := sz103.out; have sz104_ := sz104.out; have sz105_ := sz105.out; have sz106_ := sz106.out; have sz107_ := sz107.out; have sz108_ := sz108.out; have sz109_ := sz109.out; have sz110_ := sz110.out; have sz111_ := sz111.out; have sz112_ := sz112.out; have sz113_ := sz113.out; have sz114_ := sz114.out; have sz115_ := sz115.out; omega)) hl0 HK.out HQ.out).mono ?_
            rintro e v116 hans
            rw [HR.out, HJ.out] at hans
            obtain ⟨A2, c2, rfl, hh, hc2, hb⟩ := hans.held
            have b0 := Lib.hid (b0.out.step hb b0.out.lt)
            have w0 := Lib.hid (w0.out.step hb (.inr (Nat.le_refl _)))
            have idr := Lib.hid (RowRow.step idr.out hb (RowRow.lt idr.out))
            have bw := Lib.hid (bw.out.trans (hb.mono bw.out.size))
            have w1 := Lib.hid (w1.out.step hb (.inr (Nat.le_refl _)))
            have b1 := Lib.hid (b1.out.step hb b1.out.lt)
            have t0 := Lib.hid (t0.out.step hb (.inr (Nat.le_refl _)))
            have b2 := Lib.hid (b2.out.step hb b2.out.lt)
            have sz116 := Lib.hid (show v115.heap.size ≤ v116.heap.size from hb.size)
            have w2 := Lib.hid (hh)
            clear hb
            clear hh hans
            unfold outV
            clear t0
            refine hK.out _ _ ?_ (fun hHeld => ?_)
            · exact idr.out
            clear hK K
            try simp only [Act.put, List.setIfInBounds_toArray, List.set_cons_zero, List.set_cons_succ, List.getElem_toArray, List.getElem_cons_succ, List.getElem_cons_zero]
            refine wpAnyH_ready (rs := [6]) (by kernel_rfl) (by simp) ?_
            refine AllReadyH.cons rfl (fun K hK => ?_) AllReadyH.nil
            obtain ⟨y0, y1⟩ := b2.out.cells
            have f0 := b2.out.free 0
            have f1 := b2.out.free 1
            go_simp
            have b0 := Lib.hid (srow_set2 b0.out (b := v114.heap.size) (by have szc_ := szc.out; have sz101_ := sz101.out; have sz102_ := sz102.out; have sz103_ := sz103.out; have sz104_ := sz104.out; have sz105_ := sz105.out; have sz106_ := sz106.out; have sz107_ := sz107.out; have sz108_ := sz108.out; have sz109_ := sz109.out; have sz110_ := sz110.out; have sz111_ := sz111.out; have sz112_ := sz112.out; have sz113_ := sz113.out; have sz114_ := sz114.out; have sz115_ := sz115.out; have sz116_ := sz116.out; omega) (.slice A2 r.length c2) (.int .i64 jc))
            have w0 := Lib.hid (held_set2 w0.out (b := v114.heap.size) (by have szc_ := szc.out; have sz101_ := sz101.out; have sz102_ := sz102.out; have sz103_ := sz103.out; have sz104_ := sz104.out; have sz105_ := sz105.out; have sz106_ := sz106.out; have sz107_ := sz107.out; have sz108_ := sz108.out; have sz109_ := sz109.out; have sz110_ := sz110.out; have sz111_ := sz111.out; have sz112_ := sz112.out; have sz113_ := sz113.out; have sz114_ := sz114.out; have sz115_ := sz115.out; have sz116_ := sz116.out; omega) (.slice A2 r.length c2) (.int .i64 jc))
            have idr := Lib.hid (rowrow_set2 idr.out (b := v114.heap.size) (by have szc_ := szc.out; have sz101_ := sz101.out; have sz102_ := sz102.out; have sz103_ := sz103.out; have sz104_ := sz104.out; have sz105_ := sz105.out; have sz106_ := sz106.out; have sz107_ := sz107.out; have sz108_ := sz108.out; have sz109_ := sz109.out; have sz110_ := sz110.out; have sz111_ := sz111.out; have sz112_ := sz112.out; have sz113_ := sz113.out; have sz114_ := sz114.out; have sz115_ := sz115.out; have sz116_ := sz116.out; omega) (.slice A2 r.length c2) (.int .i64 jc))
            have bw := Lib.hid ((bw.out.setCell (p := ⟨v114.heap.size, 0, none⟩) (by have szc_ := szc.out; have sz101_ := sz101.out; have sz102_ := sz102.out; have sz103_ := sz103.out; have sz104_ := sz104.out; have sz105_ := sz105.out; have sz106_ := sz106.out; have sz107_ := sz107.out; have sz108_ := sz108.out; have sz109_ := sz109.out; have sz110_ := sz110.out; have sz111_ := sz111.out; have sz112_ := sz112.out; have sz113_ := sz113.out; have sz114_ := sz114.out; have sz115_ := sz115.out; have sz116_ := sz116.out; show w.heap.size ≤ v114.heap.size; omega) (.slice A2 r.length c2)).setCell (p := ⟨v114.heap.size, 1, none⟩) (by have szc_ := szc.out; have sz101_ := sz101.out; have sz102_ := sz102.out; have sz103_ := sz103.out; have sz104_ := sz104.out; have sz105_ := sz105.out; have sz106_ := sz106.out; have sz107_ := sz107.out; have sz108_ := sz108.out; have sz109_ := sz109.out; have sz110_ := sz110.out; have sz111_ := sz111.out; have sz112_ := sz112.out; have sz113_ := sz113.out; have sz114_ := sz114.out; have sz115_ := sz115.out; have sz116_ := sz116.out; show w.heap.size ≤ v114.heap.size; omega) (.int .i64 jc))
            have w1 := Lib.hid (held_set2 w1.out (b := v114.heap.size) (by have szc_ := szc.out; have sz101_ := sz101.out; have sz102_ := sz102.out; have sz103_ := sz103.out; have sz104_ := sz104.out; have sz105_ := sz105.out; have sz106_ := sz106.out; have sz107_ := sz107.out; have sz108_ := sz108.out; have sz109_ := sz109.out; have sz110_ := sz110.out; have sz111_ := sz111.out; have sz112_ := sz112.out; have sz113_ := sz113.out; have sz114_ := sz114.out; have sz115_ := sz115.out; have sz116_ := sz116.out; omega) (.slice A2 r.length c2) (.int .i64 jc))
            have b1 := Lib.hid (srow_set2 b1.out (b := v114.heap.size) (by have szc_ := szc.out; have sz101_ := sz101.out; have sz102_ := sz102.out; have sz103_ := sz103.out; have sz104_ := sz104.out; have sz105_ := sz105.out; have sz106_ := sz106.out; have sz107_ := sz107.out; have sz108_ := sz108.out; have sz109_ := sz109.out; have sz110_ := sz110.out; have sz111_ := sz111.out; have sz112_ := sz112.out; have sz113_ := sz113.out; have sz114_ := sz114.out; have sz115_ := sz115.out; have sz116_ := sz116.out; omega) (.slice A2 r.length c2) (.int .i64 jc))
            have b2 := Lib.hid (srow_put b2.out (.slice A2 r.length c2) jc)
            have w2 := Lib.hid (held_set2 w2.out (b := v114.heap.size) (by have szc_ := szc.out; have sz101_ := sz101.out; have sz102_ := sz102.out; have sz103_ := sz103.out; have sz104_ := sz104.out; have sz105_ := sz105.out; have sz106_ := sz106.out; have sz107_ := sz107.out; have sz108_ := sz108.out; have sz109_ := sz109.out; have sz110_ := sz110.out; have sz111_ := sz111.out; have sz112_ := sz112.out; have sz113_ := sz113.out; have sz114_ := sz114.out; have sz115_ := sz115.out; have sz116_ := sz116.out; omega) (.slice A2 r.length c2) (.int .i64 jc))
            clear y0 y1 f0 f1
            refine hK.out _ _ ?_ (fun hHeld => ?_)
            · exact idr.out
            clear hK K
            try simp only [Act.put, List.setIfInBounds_toArray, List.set_cons_zero, List.set_cons_succ, List.getElem_toArray, List.getElem_cons_succ, List.getElem_cons_zero]
            refine wpAnyH_done (by kernel_rfl) ?_ _
            go_wp2_with fail
            go_meet
            exact ⟨_, _, _, _, _, _, _, rfl, b2, w2, Lib.hid (by have szc_ := szc.out; have sz101_ := sz101.out; have sz102_ := sz102.out; have sz103_ := sz103.out; have sz104_ := sz104.out; have sz105_ := sz105.out; have sz106_ := sz106.out; have sz107_ := sz107.out; have sz108_ := sz108.out; have sz109_ := sz109.out; have sz110_ := sz110.out; have sz111_ := sz111.out; have sz112_ := sz112.out; have sz113_ := sz113.out; have sz114_ := sz114.out; have sz115_ := sz115.out; have sz116_ := sz116.out; simp only [World.size_setCell]; omega), b0, w0, w1, b1, bw⟩
        · go_simp
          have b0 := Lib.hid (b0.out.alloc (Obj.cells #[Value.slice none 0 0, Value.int IntKind.i64 0] 35))
          have w0 := Lib.hid (w0.out.step ((Below.refl _ v113).alloc (Nat.le_refl _) (Obj.cells #[Value.slice none 0 0, Value.int IntKind.i64 0] 35)) (.inr (Nat.le_refl _)))
          have idr := Lib.hid (RowRow.alloc idr.out (Obj.cells #[Value.slice none 0 0, Value.int IntKind.i64 0] 35))
          have bw := Lib.hid (bw.out.alloc bw.out.size (Obj.cells #[Value.slice none 0 0, Value.int IntKind.i64 0] 35))
          have w1 := Lib.hid (w1.out.step ((Below.refl _ v113).alloc (Nat.le_refl _) (Obj.cells #[Value.slice none 0 0, Value.int IntKind.i64 0] 35)) (.inr (Nat.le_refl _)))
          have b1 := Lib.hid (b1.out.alloc (Obj.cells #[Value.slice none 0 0, Value.int IntKind.i64 0] 35))
          have t0 := Lib.hid (t0.out.step ((Below.refl _ v113).alloc (Nat.le_refl _) (Obj.cells #[Value.slice none 0 0, Value.int IntKind.i64 0] 35)) (.inr (Nat.le_refl _)))
          have b2 := Lib.hid (SRow.new v113 (.slice none 0 0) 0)
          have sz114 := Lib.hid (show v113.heap.size + 1 = (World.alloc v113 (Obj.cells #[Value.slice none 0 0, Value.int IntKind.i64 0] 35)).heap.size by simp)
          generalize World.alloc v113 _ = v114 at b0 w0 idr bw w1 b1 t0 b2 sz114 ⊢
          refine hK.out _ _ ?_ (fun hHeld => ?_)
          · exact idr.out
          clear hK K
          try simp only [Act.put, List.setIfInBounds_toArray, List.set_cons_zero, List.set_cons_succ, List.getElem_toArray, List.getElem_cons_succ, List.getElem_cons_zero]
          refine wpAnyH_ready (rs := [3]) (by kernel_rfl) (by simp) ?_
          refine AllReadyH.cons rfl (fun K hK => ?_) AllReadyH.nil
          go_simp
          refine (toRow_any x _).mono ?_
          rintro e v115 ⟨rfl, hb⟩
          have b0 := Lib.hid (b0.out.step hb b0.out.lt)
          have w0 := Lib.hid (w0.out.step hb (.inr (Nat.le_refl _)))
          have idr := Lib.hid (RowRow.step idr.out hb (RowRow.lt idr.out))
          have bw := Lib.hid (bw.out.trans (hb.mono bw.out.size))
          have w1 := Lib.hid (w1.out.step hb (.inr (Nat.le_refl _)))
          have b1 := Lib.hid (b1.out.step hb b1.out.lt)
          have t0 := Lib.hid (t0.out.step hb (.inr (Nat.le_refl _)))
          have b2 := Lib.hid (b2.out.step hb b2.out.lt)
          have sz115 := Lib.hid (show v114.heap.size ≤ v115.heap.size from hb.size)
          clear hb
          unfold R.val
          refine hK.out _ _ ?_ (fun hHeld => ?_)
          · exact idr.out
          clear hK K
          try simp only [Act.put, List.setIfInBounds_toArray, List.set_cons_zero, List.set_cons_succ, List.getElem_toArray, List.getElem_cons_succ, List.getElem_cons_zero]
          refine wpAnyH_ready (rs := [4]) (by kernel_rfl) (by simp) ?_
          refine AllReadyH.cons rfl (fun K hK => ?_) AllReadyH.nil
          go_simp
          refine (implPutOut_any _ l l.length x _ (t0.out.lies (by have szc_ := szc.out; have sz101_ := sz101.out; have sz102_ := sz102.out; have sz103_ := sz103.out; have sz104_ := sz104.out; have sz105_ := sz105.out; have sz106_ := sz106.out; have sz107_ := sz107.out; have sz108_ := sz108.out; have sz109_ := sz109.out; have sz110_ := sz110.out; have sz111_ := sz111.out; have sz112_ := sz112.out; have sz113_ := sz113.out; have sz114_ := sz114.out; have sz115_ := sz115.out; omega)) hl0 HK.out HQ.out).mono ?_
          rintro e v116 hans
          rw [HR.out, HJ.out] at hans
          obtain ⟨A2, c2, rfl, hh, hc2, hb⟩ := hans.held
          have b0 := Lib.hid (b0.out.step hb b0.out.lt)
          have w0 := Lib.hid (w0.out.step hb (.inr (Nat.le_refl _)))
          have idr := Lib.hid (RowRow.step idr.out hb (RowRow.lt idr.out))
          have bw := Lib.hid (bw.out.trans (hb.mono bw.out.size))
          have w1 := Lib.hid (w1.out.step hb (.inr (Nat.le_refl _)))
          have b1 := Lib.hid (b1.out.step hb b1.out.lt)
          have t0 := Lib.hid (t0.out.step hb (.inr (Nat.le_refl _)))
          have b2 := Lib.hid (b2.out.step hb b2.out.lt)
          have sz116 := Lib.hid (show v115.heap.size ≤ v116.heap.size from hb.size)
          have w2 := Lib.hid (hh)
          clear hb
          clear hh hans
          unfold outV
          clear t0
          refine hK.out _ _ ?_ (fun hHeld => ?_)
          · exact idr.out
          clear hK K
          try simp only [Act.put, List.setIfInBounds_toArray, List.set_cons_zero, List.set_cons_succ, List.getElem_toArray, List.getElem_cons_succ, List.getElem_cons_zero]
          refine wpAnyH_ready (rs := [6]) (by kernel_rfl) (by simp) ?_
          refine AllReadyH.cons rfl (fun K hK => ?_) AllReadyH.nil
          obtain ⟨y0, y1⟩ := b2.out.cells
          have f0 := b2.out.free 0
          have f1 := b2.out.free 1
          go_simp
          have b0 := Lib.hid (srow_set2 b0.out (b := v113.heap.size) (by have szc_ := szc.out; have sz101_ := sz101.out; have sz102_ := sz102.out; have sz103_ := sz103.out; have sz104_ := sz104.out; have sz105_ := sz105.out; have sz106_ := sz106.out; have sz107_ := sz107.out; have sz108_ := sz108.out; have sz109_ := sz109.out; have sz110_ := sz110.out; have sz111_ := sz111.out; have sz112_ := sz112.out; have sz113_ := sz113.out; have sz114_ := sz114.out; have sz115_ := sz115.out; have sz116_ := sz116.out; omega) (.slice A2 r.length c2) (.int .i64 jc))
          have w0 := Lib.hid (held_set2 w0.out (b := v113.heap.size) (by have szc_ := szc.out; have sz101_ := sz101.out; have sz102_ := sz102.out; have sz103_ := sz103.out; have sz104_ := sz104.out; have sz105_ := sz105.out; have sz106_ := sz106.out; have sz107_ := sz107.out; have sz108_ := sz108.out; have sz109_ := sz109.out; have sz110_ := sz110.out; have sz111_ := sz111.out; have sz112_ := sz112.out; have sz113_ := sz113.out; have sz114_ := sz114.out; have sz115_ := sz115.out; have sz116_ := sz116.out; omega) (.slice A2 r.length c2) (.int .i64 jc))
          have idr := Lib.hid (rowrow_set2 idr.out (b := v113.heap.size) (by have szc_ := szc.out; have sz101_ := sz101.out; have sz102_ := sz102.out; have sz103_ := sz103.out; have sz104_ := sz104.out; have sz105_ := sz105.out; have sz106_ := sz106.out; have sz107_ := sz107.out; have sz108_ := sz108.out; have sz109_ := sz109.out; have sz110_ := sz110.out; have sz111_ := sz111.out; have sz112_ := sz112.out; have sz113_ := sz113.out; have sz114_ := sz114.out; have sz115_ := sz115.out; have sz116_ := sz116.out; omega) (.slice A2 r.length c2) (.int .i64 jc))
          have bw := Lib.hid ((bw.out.setCell (p := ⟨v113.heap.size, 0, none⟩) (by have szc_ := szc.out; have sz101_ := sz101.out; have sz102_ := sz102.out; have sz103_ := sz103.out; have sz104_ := sz104.out; have sz105_ := sz105.out; have sz106_ := sz106.out; have sz107_ := sz107.out; have sz108_ := sz108.out; have sz109_ := sz109.out; have sz110_ := sz110.out; have sz111_ := sz111.out; have sz112_ := sz112.out; have sz113_ := sz113.out; have sz114_ := sz114.out; have sz115_ := sz115.out; have sz116_ := sz116.out; show w.heap.size ≤ v113.heap.size; omega) (.slice A2 r.length c2)).setCell (p := ⟨v113.heap.size, 1, none⟩) (by have szc_ := szc.out; have sz101_ := sz101.out; have sz102_ := sz102.out; have sz103_ := sz103.out; have sz104_ := sz104.out; have sz105_ := sz105.out; have sz106_ := sz106.out; have sz107_ := sz107.out; have sz108_ := sz108.out; have sz109_ := sz109.out; have sz110_ := sz110.out; have sz111_ := sz111.out; have sz112_ := sz112.out; have sz113_ := sz113.out; have sz114_ := sz114.out; have sz115_ := sz115.out; have sz116_ := sz116.out; show w.heap.size ≤ v113.heap.size; omega) (.int .i64 jc))
          have w1 := Lib.hid (held_set2 w1.out (b := v113.heap.size) (by have szc_ := szc.out; have sz101_ := sz101.out; have sz102_ := sz102.out; have sz103_ := sz103.out; have sz104_ := sz104.out; have sz105_ := sz105.out; have sz106_ := sz106.out; have sz107_ := sz107.out; have sz108_ := sz108.out; have sz109_ := sz109.out; have sz110_ := sz110.out; have sz111_ := sz111.out; have sz112_ := sz112.out; have sz113_ := sz113.out; have sz114_ := sz114.out; have sz115_ := sz115.out; have sz116_ := sz116.out; omega) (.slice A2 r.length c2) (.int .i64 jc))
          have b1 := Lib.hid (srow_set2 b1.out (b := v113.heap.size) (by have szc_ := szc.out; have sz101_ := sz101.out; have sz102_ := sz102.out; have sz103_ := sz103.out; have sz104_ := sz104.out; have sz105_ := sz105.out; have sz106_ := sz106.out; have sz107_ := sz107.out; have sz108_ := sz108.out; have sz109_ := sz109.out; have sz110_ := sz110.out; have sz111_ := sz111.out; have sz112_ := sz112.out; have sz113_ := sz113.out; have sz114_ := sz114.out; have sz115_ := sz115.out; have sz116_ := sz116.out; omega) (.slice A2 r.length c2) (.int .i64 jc))
          have b2 := Lib.hid (srow_put b2.out (.slice A2 r.length c2) jc)
          have w2 := Lib.hid (held_set2 w2.out (b := v113.heap.size) (by have szc_ := szc.out; have sz101_ := sz101.out; have sz102_ := sz102.out; have sz103_ := sz103.out; have sz104_ := sz104.out; have sz105_ := sz105.out; have sz106_ := sz106.out; have sz107_ := sz107.out; have sz108_ := sz108.out; have sz109_ := sz109.out; have sz110_ := sz110.out; have sz111_ := sz111.out; have sz112_ := sz112.out; have sz113_ := sz113.out; have sz114_ := sz114.out; have sz115_ := sz115.out; have sz116_ := sz116.out; omega) (.slice A2 r.length c2) (.int .i64 jc))
          clear y0 y1 f0 f1
          refine hK.out _ _ ?_ (fun hHeld => ?_)
          · exact idr.out
          clear hK K
          try simp only [Act.put, List.setIfInBounds_toArray, List.set_cons_zero, List.set_cons_succ, List.getElem_toArray, List.getElem_cons_succ, List.getElem_cons_zero]
          refine wpAnyH_done (by kernel_rfl) ?_ _
          go_wp2_with fail
          go_meet
          exact ⟨_, _, _, _, _, _, _, rfl, b2, w2, Lib.hid (by have szc_ := szc.out; have sz101_ := sz101.out; have sz102_ := sz102.out; have sz103_ := sz103.out; have sz104_ := sz104.out; have sz105_ := sz105.out; have sz106_ := sz106.out; have sz107_ := sz107.out; have sz108_ := sz108.out; have sz109_ := sz109.out; have sz110_ := sz110.out; have sz111_ := sz111.out; have sz112_ := sz112.out; have sz113_ := sz113.out; have sz114_ := sz114.out; have sz115_ := sz115.out; have sz116_ := sz116.out; simp only [World.size_setCell]; omega), b0, w0, w1, b1, bw⟩
      · go_simp
        have b0 := Lib.hid (b0.out.alloc (Obj.cells #[Value.slice none 0 0, Value.int IntKind.i64 0] 35))
        have w0 := Lib.hid (w0.out.step ((Below.refl _ v112).alloc (Nat.le_refl _) (Obj.cells #[Value.slice none 0 0, Value.int IntKind.i64 0] 35)) (.inr (Nat.le_refl _)))
        have idr := Lib.hid (RowRow.alloc idr.out (Obj.cells #[Value.slice none 0 0, Value.int IntKind.i64 0] 35))
        have bw := Lib.hid (bw.out.alloc bw.out.size (Obj.cells #[Value.slice none 0 0, Value.int IntKind.i64 0] 35))
        have w1 := Lib.hid (w1.out.step ((Below.refl _ v112).alloc (Nat.le_refl _) (Obj.cells #[Value.slice none 0 0, Value.int IntKind.i64 0] 35)) (.inr (Nat.le_refl _)))
        have b1 := Lib.hid (b1.out.alloc (Obj.cells #[Value.slice none 0 0, Value.int IntKind.i64 0] 35))
        have b2 := Lib.hid (SRow.new v112 (.slice none 0 0) 0)
        have sz113 := Lib.hid (show v112.heap.size + 1 = (World.alloc v112 (Obj.cells #[Value.slice none 0 0, Value.int IntKind.i64 0] 35)).heap.size by simp)
        generalize World.alloc v112 _ = v113 at b0 w0 idr bw w1 b1 b2 sz113 ⊢
        refine hK.out _ _ ?_ (fun hHeld => ?_)
        · exact idr.out
        clear hK K
        try simp only [Act.put, List.setIfInBounds_toArray, List.set_cons_zero, List.set_cons_succ, List.getElem_toArray, List.getElem_cons_succ, List.getElem_cons_zero]
        refine wpAnyH_ready (rs := [1]) (by kernel_rfl) (by simp) ?_
        refine AllReadyH.cons rfl (fun K hK => ?_) AllReadyH.nil
        go_simp
        refine (toRowS_any A l cap _ ((H.out.below bw.out (Nat.le_refl _)).more bw.out.size) hl0).mono ?_
        rintro e v114 ⟨gt0, rfl, hgt0, ho, hb⟩
        have b0 := Lib.hid (b0.out.step hb b0.out.lt)
        have w0 := Lib.hid (w0.out.step hb (.inr (Nat.le_refl _)))
        have idr := Lib.hid (RowRow.step idr.out hb (RowRow.lt idr.out))
        have bw := Lib.hid (bw.out.trans (hb.mono bw.out.size))
        have w1 := Lib.hid (w1.out.step hb (.inr (Nat.le_refl _)))
        have b1 := Lib.hid (b1.out.step hb b1.out.lt)
        have b2 := Lib.hid (b2.out.step hb b2.out.lt)
        have sz114 := Lib.hid (show v113.heap.size ≤ v114.heap.size from hb.size)
        have t0 := Lib.hid (show Held v114 (some ⟨gt0, 0, none⟩) l v113.heap.size v114.heap.size from Held.of_row ho (Nat.le_refl _) hgt0)
        clear hb
        clear ho
        refine hK.out _ _ ?_ (fun hHeld => ?_)
        · exact idr.out
        clear hK K
        try simp only [Act.put, List.setIfInBounds_toArray, List.set_cons_zero, List.set_cons_succ, List.getElem_toArray, List.getElem_cons_succ, List.getElem_cons_zero]
        refine wpAnyH_ready (rs := [3]) (by kernel_rfl) (by simp) ?_
        refine AllReadyH.cons rfl (fun K hK => ?_) AllReadyH.nil
        go_simp
        refine (toRow_any x _).mono ?_
        rintro e v115 ⟨rfl, hb⟩
        have b0 := Lib.hid (b0.out.step hb b0.out.lt)
        have w0 := Lib.hid (w0.out.step hb (.inr (Nat.le_refl _)))
        have idr := Lib.hid (RowRow.step idr.out hb (RowRow.lt idr.out))
        have bw := Lib.hid (bw.out.trans (hb.mono bw.out.size))
        have w1 := Lib.hid (w1.out.step hb (.inr (Nat.le_refl _)))
        have b1 := Lib.hid (b1.out.step hb b1.out.lt)
        have b2 := Lib.hid (b2.out.step hb b2.out.lt)
        have t0 := Lib.hid (t0.out.step hb (.inr (Nat.le_refl _)))
        have sz115 := Lib.hid (show v114.heap.size ≤ v115.heap.size from hb.size)
        clear hb
        unfold R.val
        refine hK.out _ _ ?_ (fun hHeld => ?_)
        · exact idr.out
        clear hK K
        try simp only [Act.put, List.setIfInBounds_toArray, List.set_cons_zero, List.set_cons_succ, List.getElem_toArray, List.getElem_cons_succ, List.getElem_cons_zero]
        refine wpAnyH_ready (rs := [4]) (by kernel_rfl) (by simp) ?_
        refine AllReadyH.cons rfl (fun K hK => ?_) AllReadyH.nil
        go_simp
        refine (implPutOut_any _ l l.length x _ (t0.out.lies (by have szc_ := szc.out; have sz101_ := sz101.out; have sz102_ := sz102.out; have sz103_ := sz103.out; have sz104_ := sz104.out; have sz105_ := sz105.out; have sz106_ := sz106.out; have sz107_ := sz107.out; have sz108_ := sz108.out; have sz109_ := sz109.out; have sz110_ := sz110.out; have sz111_ := sz111.out; have sz112_ := sz112.out; have sz113_ := sz113.out; have sz114_ := sz114.out; have sz115_ := sz115.out; omega)) hl0 HK.out HQ.out).mono ?_
        rintro e v116 hans
        rw [HR.out, HJ.out] at hans
        obtain ⟨A2, c2, rfl, hh, hc2, hb⟩ := hans.held
        have b0 := Lib.hid (b0.out.step hb b0.out.lt)
        have w0 := Lib.hid (w0.out.step hb (.inr (Nat.le_refl _)))
        have idr := Lib.hid (RowRow.step idr.out hb (RowRow.lt idr.out))
        have bw := Lib.hid (bw.out.trans (hb.mono bw.out.size))
        have w1 := Lib.hid (w1.out.step hb (.inr (Nat.le_refl _)))
        have b1 := Lib.hid (b1.out.step hb b1.out.lt)
        have b2 := Lib.hid (b2.out.step hb b2.out.lt)
        have t0 := Lib.hid (t0.out.step hb (.inr (Nat.le_refl _)))
        have sz116 := Lib.hid (show v115.heap.size ≤ v116.heap.size from hb.size)
        have w2 := Lib.hid (hh)
        clear hb
        clear hh hans
        unfold outV
        clear t0
        refine hK.out _ _ ?_ (fun hHeld => ?_)
        · exact idr.out
        clear hK K
        try simp only [Act.put, List.setIfInBounds_toArray, List.set_cons_zero, List.set_cons_succ, List.getElem_toArray, List.getElem_cons_succ, List.getElem_cons_zero]
        refine wpAnyH_ready (rs := [6]) (by kernel_rfl) (by simp) ?_
        refine AllReadyH.cons rfl (fun K hK => ?_) AllReadyH.nil
        obtain ⟨y0, y1⟩ := b2.out.cells
        have f0 := b2.out.free 0
        have f1 := b2.out.free 1
        go_simp
        have b0 := Lib.hid (srow_set2 b0.out (b := v112.heap.size) (by have szc_ := szc.out; have sz101_ := sz101.out; have sz102_ := sz102.out; have sz103_ := sz103.out; have sz104_ := sz104.out; have sz105_ := sz105.out; have sz106_ := sz106.out; have sz107_ := sz107.out; have sz108_ := sz108.out; have sz109_ := sz109.out; have sz110_ := sz110.out; have sz111_ := sz111.out; have sz112_ := sz112.out; have sz113_ := sz113.out; have sz114_ := sz114.out; have sz115_ := sz115.out; have sz116_ := sz116.out; omega) (.slice A2 r.length c2) (.int .i64 jc))
        have w0 := Lib.hid (held_set2 w0.out (b := v112.heap.size) (by have szc_ := szc.out; have sz101_ := sz101.out; have sz102_ := sz102.out; have sz103_ := sz103.out; have sz104_ := sz104.out; have sz105_ := sz105.out; have sz106_ := sz106.out; have sz107_ := sz107.out; have sz108_ := sz108.out; have sz109_ := sz109.out; have sz110_ := sz110.out; have sz111_ := sz111.out; have sz112_ := sz112.out; have sz113_ := sz113.out; have sz114_ := sz114.out; have sz115_ := sz115.out; have sz116_ := sz116.out; omega) (.slice A2 r.length c2) (.int .i64 jc))
        have idr := Lib.hid (rowrow_set2 idr.out (b := v112.heap.size) (by have szc_ := szc.out; have sz101_ := sz101.out; have sz102_ := sz102.out; have sz103_ := sz103.out; have sz104_ := sz104.out; have sz105_ := sz105.out; have sz106_ := sz106.out; have sz107_ := sz107.out; have sz108_ := sz108.out; have sz109_ := sz109.out; have sz110_ := sz110.out; have sz111_ := sz111.out; have sz112_ := sz112.out; have sz113_ := sz113.out; have sz114_ := sz114.out; have sz115_ := sz115.out; have sz116_ := sz116.out; omega) (.slice A2 r.length c2) (.int .i64 jc))
        have bw := Lib.hid ((bw.out.setCell (p := ⟨v112.heap.size, 0, none⟩) (by have szc_ := szc.out; have sz101_ := sz101.out; have sz102_ := sz102.out; have sz103_ := sz103.out; have sz104_ := sz104.out; have sz105_ := sz105.out; have sz106_ := sz106.out; have sz107_ := sz107.out; have sz108_ := sz108.out; have sz109_ := sz109.out; have sz110_ := sz110.out; have sz111_ := sz111.out; have sz112_ := sz112.out; have sz113_ := sz113.out; have sz114_ := sz114.out; have sz115_ := sz115.out; have sz116_ := sz116.out; show w.heap.size ≤ v112.heap.size; omega) (.slice A2 r.length c2)).setCell (p := ⟨v112.heap.size, 1, none⟩) (by have szc_ := szc.out; have sz101_ := sz101.out; have sz102_ := sz102.out; have sz103_ := sz103.out; have sz104_ := sz104.out; have sz105_ := sz105.out; have sz106_ := sz106.out; have sz107_ := sz107.out; have sz108_ := sz108.out; have sz109_ := sz109.out; have sz110_ := sz110.out; have sz111_ := sz111.out; have sz112_ := sz112.out; have sz113_ := sz113.out; have sz114_ := sz114.out; have sz115_ := sz115.out; have sz116_ := sz116.out; show w.heap.size ≤ v112.heap.size; omega) (.int .i64 jc))
        have w1 := Lib.hid (held_set2 w1.out (b := v112.heap.size) (by have szc_ := szc.out; have sz101_ := sz101.out; have sz102_ := sz102.out; have sz103_ := sz103.out; have sz104_ := sz104.out; have sz105_ := sz105.out; have sz106_ := sz106.out; have sz107_ := sz107.out; have sz108_ := sz108.out; have sz109_ := sz109.out; have sz110_ := sz110.out; have sz111_ := sz111.out; have sz112_ := sz112.out; have sz113_ := sz113.out; have sz114_ := sz114.out; have sz115_ := sz115.out; have sz116_ := sz116.out; omega) (.slice A2 r.length c2) (.int .i64 jc))
        have b1 := Lib.hid (srow_set2 b1.out (b := v112.heap.size) (by have szc_ := szc.out; have sz101_ := sz101.out; have sz102_ := sz102.out; have sz103_ := sz103.out; have sz104_ := sz104.out; have sz105_ := sz105.out; have sz106_ := sz106.out; have sz107_ := sz107.out; have sz108_ := sz108.out; have sz109_ := sz109.out; have sz110_ := sz110.out; have sz111_ := sz111.out; have sz112_ := sz112.out; have sz113_ := sz113.out; have sz114_ := sz114.out; have sz115_ := sz115.out; have sz116_ := sz116.out; omega) (.slice A2 r.length c2) (.int .i64 jc))
        have b2 := Lib.hid (srow_put b2.out (.slice A2 r.length c2) jc)
        have w2 := Lib.hid (held_set2 w2.out (b := v112.heap.size) (by have szc_ := szc.out; have sz101_ := sz101.out; have sz102_ := sz102.out; have sz103_ := sz103.out; have sz104_ := sz104.out; have sz105_ := sz105.out; have sz106_ := sz106.out; have sz107_ := sz107.out; have sz108_ := sz108.out; have sz109_ := sz109.out; have sz110_ := sz110.out; have sz111_ := sz111.out; have sz112_ := sz112.out; have sz113_ := sz113.out; have sz114_ := sz114.out; have sz115_ := sz115.out; have sz116_ := sz116.out; omega) (.slice A2 r.length c2) (.int .i64 jc))
        clear y0 y1 f0 f1
        refine hK.out _ _ ?_ (fun hHeld => ?_)
        · exact idr.out
        clear hK K
        try simp only [Act.put, List.setIfInBounds_toArray, List.set_cons_zero, List.set_cons_succ, List.getElem_toArray, List.getElem_cons_succ, List.getElem_cons_zero]
        refine wpAnyH_done (by kernel_rfl) ?_ _
        go_wp2_with fail
        go_meet
        exact ⟨_, _, _, _, _, _, _, rfl, b2, w2, Lib.hid (by have szc_ := szc.out; have sz101_ := sz101.out; have sz102_ := sz102.out; have sz103_ := sz103.out; have sz104_ := sz104.out; have sz105_ := sz105.out; have sz106_ := sz106.out; have sz107_ := sz107.out; have sz108_ := sz108.out; have sz109_ := sz109.out; have sz110_ := sz110.out; have sz111_ := sz111.out; have sz112_ := sz112.out; have sz113_ := sz113.out; have sz114_ := sz114.out; have sz115_ := sz115.out; have sz116_ := sz116.out; simp only [World.size_setCell]; omega), b0, w0, w1, b1, bw⟩
    case rest =>
      obtain ⟨b', A2, c2, lo2, hi2, lo1, hi1, rfl, b2, w2, szd, b0, w0, w1, b1, bw⟩ := hcut
      obtain ⟨p0, p1⟩ := b2.out.cells
      obtain ⟨q0, q1⟩ := b0.out.cells
      go_wp2_with fail
      clear p0 p1 q0 q1
      refine (eqOut_same A2 A0 r c2 c0 jc _ (w2.out.lies (by have szd_ := szd.out; omega)) (w0.out.lies (by have szd_ := szd.out; omega)) hrl).mono ?_
      rintro e v201 ⟨rfl, hb⟩
      have b2 := Lib.hid (b2.out.step hb b2.out.lt)
      have w2 := Lib.hid (w2.out.step hb (.inr (Nat.le_refl _)))
      have b0 := Lib.hid (b0.out.step hb b0.out.lt)
      have w0 := Lib.hid (w0.out.step hb (.inr (Nat.le_refl _)))
      have w1 := Lib.hid (w1.out.step hb (.inr (Nat.le_refl _)))
      have b1 := Lib.hid (b1.out.step hb b1.out.lt)
      have bw := Lib.hid (bw.out.trans (hb.mono bw.out.size))
      have sz201 := Lib.hid (show wc.heap.size ≤ v201.heap.size from hb.size)
      clear hb
      obtain ⟨p0, p1⟩ := b1.out.cells
      go_wp2_with fail
      clear p0 p1
      refine (heldOut_any A1 r.length c1 1 jc _ (w1.out.lies (by have szd_ := szd.out; have sz201_ := sz201.out; omega)) hrl (by omega)).mono ?_
      rintro e v202 ⟨rfl, hb⟩
      have b2 := Lib.hid (b2.out.step hb b2.out.lt)
      have w2 := Lib.hid (w2.out.step hb (.inr (Nat.le_refl _)))
      have b0 := Lib.hid (b0.out.step hb b0.out.lt)
      have w0 := Lib.hid (w0.out.step hb (.inr (Nat.le_refl _)))
      have w1 := Lib.hid (w1.out.step hb (.inr (Nat.le_refl _)))
      have b1 := Lib.hid (b1.out.step hb b1.out.lt)
      have bw := Lib.hid (bw.out.trans (hb.mono bw.out.size))
      have sz202 := Lib.hid (show v201.heap.size ≤ v202.heap.size from hb.size)
      clear hb
      rw [HZ1.out]
      go_wp2_with fail
      go_ret
      exact ⟨rfl, bw.out⟩
end Go.Proofs.Ytlhebgfiljmeiaa.Sto
