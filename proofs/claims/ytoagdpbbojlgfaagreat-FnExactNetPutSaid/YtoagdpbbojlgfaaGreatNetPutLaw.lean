/-
  FnExactNetPut answers true at every net, number and row.
-/
import Derived.Test.YtoagdpbbojlgfaaGreatPackNSP
import Derived.Test.YtoagdpbbojlgfaaGreatNetIPut
import Derived.Test.YtoagdpbbojlgfaaGreatPackNSm
namespace Go.Proofs.YtoagdpbbojlgfaaGreat.Net
open Go.ChangeShapes Go.WideShapes Go.ChangeAt Go.RowKit
open Sto (R Sl)
set_option linter.unusedVariables false
set_option maxRecDepth 100000
set_option linter.unusedSimpArgs false

theorem blk5 {W : World} {b t : Nat} {u0 u1 u2 u3 u4 : Value} (h : Blk W b t #[u0, u1, u2, u3, u4]) : W.cell? ⟨b, 0, none⟩ = some u0 ∧ W.cell? ⟨b, 1, none⟩ = some u1 ∧ W.cell? ⟨b, 2, none⟩ = some u2 ∧ W.cell? ⟨b, 3, none⟩ = some u3 ∧ W.cell? ⟨b, 4, none⟩ = some u4 := ⟨h.cell 0, h.cell 1, h.cell 2, h.cell 3, h.cell 4⟩
theorem heldN_set {w : World} {n : Nt} {a c b t : Nat} {cs : Array Value} (h : HeldN w n a c) (hb : Blk w b t cs) (h1 : t ≠ 42) (h2 : t ≠ 141) (h3 : t ≠ 98) (i : Nat) (u : Value) : HeldN (w.setCell ⟨b, i, none⟩ u) n a c := by
  have key : ∀ (g t' : Nat) (cs' : Array Value), w.heap[g]? = some (Obj.cells cs' t' (0, 0)) → t ≠ t' → (w.setCell ⟨b, i, none⟩ u).heap[g]? = w.heap[g]? := fun g t' cs' hg ht => heap_setCell_other w _ g u fun e => by
    rw [show g = b from e, show w.heap[b]? = _ from hb] at hg
    injection hg with hg
    injection hg with _ h5
    exact ht h5
  exact ⟨h.s0.keep fun g cs' hc _ _ => key g _ cs' hc h3, h.m0.keep fun g cs' hc _ _ => key g _ cs' hc h2, h.r0.types fun g cs' hc => key g _ cs' hc h1⟩
theorem blk_set3 {W : World} {b t : Nat} {x0 x1 x2 u0 u1 u2 : Value} (h : Blk W b t #[x0, x1, x2]) : Blk (((W.setCell ⟨b, 0, none⟩ u0).setCell ⟨b, 1, none⟩ u1).setCell ⟨b, 2, none⟩ u2) b t #[u0, u1, u2] :=
  ((h.set 0 u0 rfl).set 1 u1 rfl).set 2 u2 rfl
theorem heldN_set3 {W : World} {n : Nt} {a c b : Nat} {cs : Array Value} {u0 u1 u2 : Value} (h : HeldN W n a c) (hb : Blk W b 37 cs) : HeldN (((W.setCell ⟨b, 0, none⟩ u0).setCell ⟨b, 1, none⟩ u1).setCell ⟨b, 2, none⟩ u2) n a c :=
  heldN_set (heldN_set (heldN_set h hb (by decide) (by decide) (by decide) 0 u0) (hb.set 0 u0 rfl) (by decide) (by decide) (by decide) 1 u1) ((hb.set 0 u0 rfl).set 1 u1 rfl) (by decide) (by decide) (by decide) 2 u2
theorem below_set3 {w W : World} {b : Nat} {u0 u1 u2 : Value} (h : Below w.heap.size w W) (hb : w.heap.size ≤ b) : Below w.heap.size w (((W.setCell ⟨b, 0, none⟩ u0).setCell ⟨b, 1, none⟩ u1).setCell ⟨b, 2, none⟩ u2) :=
  ((h.setCell (p := ⟨b, 0, none⟩) hb u0).setCell (p := ⟨b, 1, none⟩) hb u1).setCell (p := ⟨b, 2, none⟩) hb u2
theorem blk_off3 {W : World} {b c t : Nat} {cs : Array Value} {u0 u1 u2 : Value} (h : Blk W c t cs) (hne : c ≠ b) : Blk (((W.setCell ⟨b, 0, none⟩ u0).setCell ⟨b, 1, none⟩ u1).setCell ⟨b, 2, none⟩ u2) c t cs :=
  ((h.other (p := ⟨b, 0, none⟩) hne u0).other (p := ⟨b, 1, none⟩) hne u1).other (p := ⟨b, 2, none⟩) hne u2

set_option maxHeartbeats 16000000 in
set_option maxRecDepth 100000 in
theorem lawPut_any (n : Nt) (i : Int) (x : R) {hb1 : Prop} (_ : hb1) (w : World) (h : IsNet w n) (hx : Sto.Sound x) :
    Calls Tryz.prog 3 #[n.val, .int .i64 i, x.val] w fun e w' => e = .returned (.bool true) ∧ Below w.heap.size w w' := by
  have HFI := Lib.hid h.fine
  obtain ⟨hn, hq1, hq2, -⟩ := h
  have HQ := Lib.hid (show Sto.Fits x from ⟨hx.1, hx.2.2.2.2⟩)
  have hxk := HQ.out.1
  have hxb := HQ.out.2
  have H := Lib.hid hn
  have B0 := ((Below.refl w.heap.size w).alloc (Nat.le_refl _) (.cells #[Value.slice n.A n.s.length n.ca, Value.slice n.B n.m.length n.cb] 25)).alloc (by simp) (.cells #[Value.string x.k, Value.int IntKind.i64 x.i.c, Value.int IntKind.i64 x.i.s, Value.int IntKind.i64 x.i.e, Value.string x.b] 29)
  have X0 := (Blk.new w 25 #[Value.slice n.A n.s.length n.ca, Value.slice n.B n.m.length n.cb]).alloc (.cells #[Value.string x.k, Value.int IntKind.i64 x.i.c, Value.int IntKind.i64 x.i.s, Value.int IntKind.i64 x.i.e, Value.string x.b] 29)
  have R0 := Blk.new (w.alloc (.cells #[Value.slice n.A n.s.length n.ca, Value.slice n.B n.m.length n.cb] 25)) 29 #[Value.string x.k, Value.int IntKind.i64 x.i.c, Value.int IntKind.i64 x.i.s, Value.int IntKind.i64 x.i.e, Value.string x.b]
  simp only [World.size_alloc] at R0
  have Z0 : w.heap.size + 2 = (World.alloc (World.alloc w (.cells #[Value.slice n.A n.s.length n.ca, Value.slice n.B n.m.length n.cb] 25)) (.cells #[Value.string x.k, Value.int IntKind.i64 x.i.c, Value.int IntKind.i64 x.i.s, Value.int IntKind.i64 x.i.e, Value.string x.b] 29)).heap.size := by simp
  have bw := Lib.hid B0
  have bx := Lib.hid X0
  have br := Lib.hid R0
  have sz0 := Lib.hid Z0
  clear hn B0 X0 R0 Z0 hx
  unfold Nt.val R.val
  go_enter Tryz.func3, Tryz.ntmps3
  go_wp2_with fail
  generalize World.alloc (World.alloc w _) _ = v0 at bw bx br sz0 ⊢
  refine (szNet_any n _ (H.out.on bw.out) hq1 hq2 HFI.out).mono ?_
  rintro e v1 ⟨m1, rfl, hm1, hb⟩
  have bw := Lib.hid (bw.out.trans (hb.mono bw.out.size))
  have bx := Lib.hid (bx.out.on hb)
  have br := Lib.hid (br.out.on hb)
  have sz1 := Lib.hid (show v0.heap.size ≤ v1.heap.size from hb.size)
  clear hb
  rcases hm1 with rfl | ⟨m10, m11, sm1⟩
  · go_wp2_with fail
    go_ret
    exact ⟨rfl, bw.out⟩
  have m100 : ¬ m1 < 0 := by omega
  have HS := Lib.hid sm1
  have hs1 : n.s.length ≤ 1048576 := by have := sm1.1; omega
  have hs2 : n.m.length ≤ 1048576 := by have := sm1.1; omega
  have HL := Lib.hid (show ∀ x ∈ n.all, x.l.length ≤ 1048576 from fun x hx => by have := tot_mem hx; have := HS.out.1; omega)
  clear sm1
  obtain ⟨brc0, brc1, brc2, brc3, brc4⟩ := blk5 br.out
  go_wp2_with fail
  clear brc0 brc1 brc2 brc3 brc4
  refine (Sto.szRow_any x m1 _ m10 m11 hxk hxb).mono ?_
  rintro e v2 ⟨r1, rfl, hr, hb⟩
  have bw := Lib.hid (bw.out.trans (hb.mono bw.out.size))
  have bx := Lib.hid (bx.out.on hb)
  have br := Lib.hid (br.out.on hb)
  have sz2 := Lib.hid (show v1.heap.size ≤ v2.heap.size from hb.size)
  clear hb
  rcases hr with rfl | ⟨hq0, hq1, hq2, hq3⟩
  · go_wp2_with fail
    go_ret
    exact ⟨rfl, bw.out⟩
  have hr01 : ¬ r1 < 0 := by omega
  clear hq0 hq1 hq2 hq3
  have HSM := Lib.hid (nputP_sm (pl n) i x)
  obtain ⟨jp, hjp⟩ : ∃ jp, nputP (pl n) i x = jp := ⟨_, rfl⟩
  obtain ⟨jc, hjc⟩ : ∃ jc, nputC (pl n) i x = jc := ⟨_, rfl⟩
  have HPF := Lib.hid hjp
  have HCF := Lib.hid hjc
  rw [hjp] at HSM
  clear hjp hjc
  go_upto_region 8 with fail
  go_cut [8] (fun s8 wx => ∃ (b : Nat) (w0n : Nt) (lo0 hi0 : Nat), s8 = .pointer (some ⟨b, 0, none⟩) ∧ Hid (Blk wx b 37 #[Value.slice w0n.A w0n.s.length w0n.ca, Value.slice w0n.B w0n.m.length w0n.cb, Value.int IntKind.i64 jc]) ∧ Hid (HeldN wx w0n lo0 hi0) ∧ Hid (pl w0n = jp) ∧ Hid (hi0 ≤ wx.heap.size ∧ b < wx.heap.size ∧ w.heap.size + 2 ≤ b) ∧ Hid (Blk wx w.heap.size 25 #[Value.slice n.A n.s.length n.ca, Value.slice n.B n.m.length n.cb]) ∧ Hid (Blk wx (w.heap.size + 1) 29 #[Value.string x.k, Value.int IntKind.i64 x.i.c, Value.int IntKind.i64 x.i.s, Value.int IntKind.i64 x.i.e, Value.string x.b]) ∧ Hid (Below w.heap.size w wx))
  case first =>
    refine wp_region_held_drew (S := (fun V => Blk V w.heap.size 25 #[Value.slice n.A n.s.length n.ca, Value.slice n.B n.m.length n.cb] ∧ Blk V (w.heap.size + 1) 29 #[Value.string x.k, Value.int IntKind.i64 x.i.c, Value.int IntKind.i64 x.i.s, Value.int IntKind.i64 x.i.e, Value.string x.b])) (by kernel_rfl) ?_ (fun hHeld => ?_)
    · exact ⟨bx.out, br.out⟩
    have hb := (Below.refl v2.heap.size v2).drew
    have bw := Lib.hid (bw.out.trans (hb.mono bw.out.size))
    have bx := Lib.hid (bx.out.on hb)
    have br := Lib.hid (br.out.on hb)
    have sz3 := Lib.hid (show v2.heap.size ≤ (World.drew v2).heap.size from hb.size)
    clear hb
    generalize World.drew v2 = v3 at hHeld bw bx br sz3 ⊢
    refine wpAnyH_take (i := 0) (v := ?_) rfl (by kernel_rfl) (by kernel_rfl) (by kernel_rfl) (fun _ _ _ h => h) (Or.inl ⟨by rfl, ?_⟩) hHeld ?_
    rotate_left
    · intro V hSw
      obtain ⟨hs0, hs1⟩ := blk2 hSw.1
      go_simp
      try with_reducible rfl
    try simp only [Act.put, List.setIfInBounds_toArray, List.set_cons_zero, List.set_cons_succ, List.getElem_toArray, List.getElem_cons_succ, List.getElem_cons_zero]
    refine wpAnyH_take (i := 2) (v := ?_) rfl (by kernel_rfl) (by kernel_rfl) (by kernel_rfl) (fun _ _ _ h => h) (Or.inl ⟨by rfl, ?_⟩) hHeld ?_
    rotate_left
    · intro V hSw
      go_simp
      try with_reducible rfl
    try simp only [Act.put, List.setIfInBounds_toArray, List.set_cons_zero, List.set_cons_succ, List.getElem_toArray, List.getElem_cons_succ, List.getElem_cons_zero]
    refine wpAnyH_take (i := 3) (v := ?_) rfl (by kernel_rfl) (by kernel_rfl) (by kernel_rfl) (fun _ _ _ h => h) (Or.inl ⟨by rfl, ?_⟩) hHeld ?_
    rotate_left
    · intro V hSw
      obtain ⟨hs0, hs1, hs2, hs3, hs4⟩ := blk5 hSw.2
      go_simp
      try with_reducible rfl
    try simp only [Act.put, List.setIfInBounds_toArray, List.set_cons_zero, List.set_cons_succ, List.getElem_toArray, List.getElem_cons_succ, List.getElem_cons_zero]
    refine wpAnyH_ready (rs := [1, 6]) (by kernel_rfl) (by simp) ?_
    refine AllReadyH.cons rfl (fun K hK => ?_) (AllReadyH.cons rfl (fun K hK => ?_) AllReadyH.nil)
    · go_simp
      refine (toNet_any n _ (H.out.on bw.out) hs1 hs2 HL.out).mono ?_
      rintro e v4 ⟨t0n, rfl, t0p, t0h, hb⟩
      have t0P := Lib.hid t0p
      clear t0p
      unfold Nt.val
      have bw := Lib.hid (bw.out.trans (hb.mono bw.out.size))
      have bx := Lib.hid (bx.out.on hb)
      have br := Lib.hid (br.out.on hb)
      have sz4 := Lib.hid (show v3.heap.size ≤ v4.heap.size from hb.size)
      have t0 := Lib.hid (show HeldN v4 t0n v3.heap.size v4.heap.size from t0h)
      clear hb
      clear t0h
      refine hK.out _ _ ?_ (fun hHeld => ?_)
      · exact ⟨bx.out, br.out⟩
      clear hK K
      try simp only [Act.put, List.setIfInBounds_toArray, List.set_cons_zero, List.set_cons_succ, List.getElem_toArray, List.getElem_cons_succ, List.getElem_cons_zero]
      refine wpAnyH_ready (rs := [4, 6]) (by kernel_rfl) (by simp) ?_
      refine AllReadyH.cons rfl (fun K hK => ?_) (AllReadyH.cons rfl (fun K hK => ?_) AllReadyH.nil)
      · go_simp
        refine (Sto.toRow_any x _).mono ?_
        rintro e v5 ⟨rfl, hb⟩
        have bw := Lib.hid (bw.out.trans (hb.mono bw.out.size))
        have bx := Lib.hid (bx.out.on hb)
        have br := Lib.hid (br.out.on hb)
        have t0 := Lib.hid (t0.out.step hb (.inr (Nat.le_refl _)))
        have sz5 := Lib.hid (show v4.heap.size ≤ v5.heap.size from hb.size)
        clear hb
        unfold R.val
        refine hK.out _ _ ?_ (fun hHeld => ?_)
        · exact ⟨bx.out, br.out⟩
        clear hK K
        try simp only [Act.put, List.setIfInBounds_toArray, List.set_cons_zero, List.set_cons_succ, List.getElem_toArray, List.getElem_cons_succ, List.getElem_cons_zero]
        refine wpAnyH_ready (rs := [5, 6]) (by kernel_rfl) (by simp) ?_
        refine AllReadyH.cons rfl (fun K hK => ?_) (AllReadyH.cons rfl (fun K hK => ?_) AllReadyH.nil)
        · go_simp
          refine (specNetPut_any t0n i x _ (t0.out.lies (by have sz0_ := sz0.out; have sz1_ := sz1.out; have sz2_ := sz2.out; have sz3_ := sz3.out; have sz4_ := sz4.out; have sz5_ := sz5.out; omega)) (little_pl t0P.out HS.out) HQ.out).mono ?_
          rintro e v6 hans
          rw [t0P.out, HCF.out, HPF.out] at hans
          obtain ⟨w0n, rfl, w0p, hh, hb⟩ := hans
          have w0P := Lib.hid w0p
          clear w0p
          unfold Nt.out
          have bw := Lib.hid (bw.out.trans (hb.mono bw.out.size))
          have bx := Lib.hid (bx.out.on hb)
          have br := Lib.hid (br.out.on hb)
          have t0 := Lib.hid (t0.out.step hb (.inr (Nat.le_refl _)))
          have sz6 := Lib.hid (show v5.heap.size ≤ v6.heap.size from hb.size)
          have w0 := Lib.hid (show HeldN v6 w0n v5.heap.size v6.heap.size from hh)
          clear hb
          clear hh
          clear t0
          clear t0P
          refine hK.out _ _ ?_ (fun hHeld => ?_)
          · exact ⟨bx.out, br.out⟩
          clear hK K
          try simp only [Act.put, List.setIfInBounds_toArray, List.set_cons_zero, List.set_cons_succ, List.getElem_toArray, List.getElem_cons_succ, List.getElem_cons_zero]
          refine wpAnyH_ready (rs := [6]) (by kernel_rfl) (by simp) ?_
          refine AllReadyH.cons rfl (fun K hK => ?_) AllReadyH.nil
          go_simp
          have bw := Lib.hid (bw.out.alloc bw.out.size (Obj.cells #[Value.slice none 0 0, Value.slice none 0 0, Value.int IntKind.i64 0] 37))
          have bx := Lib.hid (bx.out.alloc (Obj.cells #[Value.slice none 0 0, Value.slice none 0 0, Value.int IntKind.i64 0] 37))
          have br := Lib.hid (br.out.alloc (Obj.cells #[Value.slice none 0 0, Value.slice none 0 0, Value.int IntKind.i64 0] 37))
          have w0 := Lib.hid (w0.out.step ((Below.refl _ v6).alloc (Nat.le_refl _) (Obj.cells #[Value.slice none 0 0, Value.slice none 0 0, Value.int IntKind.i64 0] 37)) (.inr (Nat.le_refl _)))
          have o0 := Lib.hid (show Blk (World.alloc v6 (Obj.cells #[Value.slice none 0 0, Value.slice none 0 0, Value.int IntKind.i64 0] 37)) v6.heap.size 37 #[Value.slice none 0 0, Value.slice none 0 0, Value.int IntKind.i64 0] from Blk.new v6 37 #[Value.slice none 0 0, Value.slice none 0 0, Value.int IntKind.i64 0])
          have sz7 := Lib.hid (show v6.heap.size + 1 = (World.alloc v6 (Obj.cells #[Value.slice none 0 0, Value.slice none 0 0, Value.int IntKind.i64 0] 37)).heap.size by simp)
          generalize World.alloc v6 _ = v7 at bw bx br w0 o0 sz7 ⊢
          refine hK.out _ _ ?_ (fun hHeld => ?_)
          · exact ⟨bx.out, br.out⟩
          clear hK K
          try simp only [Act.put, List.setIfInBounds_toArray, List.set_cons_zero, List.set_cons_succ, List.getElem_toArray, List.getElem_cons_succ, List.getElem_cons_zero]
          refine wpAnyH_ready (rs := [7]) (by kernel_rfl) (by simp) ?_
          refine AllReadyH.cons rfl (fun K hK => ?_) AllReadyH.nil
          obtain ⟨y0, y1, y2⟩ := blk3 o0.out
          have f0 := o0.out.free 0
          have f1 := o0.out.free 1
          have f2 := o0.out.free 2
          go_simp
          have bw := Lib.hid (below_set3 (b := v6.heap.size) (u0 := .slice w0n.A w0n.s.length w0n.ca) (u1 := .slice w0n.B w0n.m.length w0n.cb) (u2 := .int .i64 jc) bw.out (by have sz0_ := sz0.out; have sz1_ := sz1.out; have sz2_ := sz2.out; have sz3_ := sz3.out; have sz4_ := sz4.out; have sz5_ := sz5.out; have sz6_ := sz6.out; have sz7_ := sz7.out; omega))
          have bx := Lib.hid (blk_off3 (b := v6.heap.size) (u0 := .slice w0n.A w0n.s.length w0n.ca) (u1 := .slice w0n.B w0n.m.length w0n.cb) (u2 := .int .i64 jc) bx.out (by have sz0_ := sz0.out; have sz1_ := sz1.out; have sz2_ := sz2.out; have sz3_ := sz3.out; have sz4_ := sz4.out; have sz5_ := sz5.out; have sz6_ := sz6.out; have sz7_ := sz7.out; omega))
          have br := Lib.hid (blk_off3 (b := v6.heap.size) (u0 := .slice w0n.A w0n.s.length w0n.ca) (u1 := .slice w0n.B w0n.m.length w0n.cb) (u2 := .int .i64 jc) br.out (by have sz0_ := sz0.out; have sz1_ := sz1.out; have sz2_ := sz2.out; have sz3_ := sz3.out; have sz4_ := sz4.out; have sz5_ := sz5.out; have sz6_ := sz6.out; have sz7_ := sz7.out; omega))
          have w0 := Lib.hid (heldN_set3 (u0 := .slice w0n.A w0n.s.length w0n.ca) (u1 := .slice w0n.B w0n.m.length w0n.cb) (u2 := .int .i64 jc) w0.out o0.out)
          have o0 := Lib.hid (blk_set3 (u0 := .slice w0n.A w0n.s.length w0n.ca) (u1 := .slice w0n.B w0n.m.length w0n.cb) (u2 := .int .i64 jc) o0.out)
          clear y0 y1 y2 f0 f1 f2
          refine hK.out _ _ ?_ (fun hHeld => ?_)
          · exact ⟨bx.out, br.out⟩
          clear hK K
          try simp only [Act.put, List.setIfInBounds_toArray, List.set_cons_zero, List.set_cons_succ, List.getElem_toArray, List.getElem_cons_succ, List.getElem_cons_zero]
          refine wpAnyH_done (by kernel_rfl) ?_ _
          go_wp2_with fail
          go_meet
          exact ⟨_, _, _, _, rfl, o0, w0, w0P, Lib.hid ⟨by have sz0_ := sz0.out; have sz1_ := sz1.out; have sz2_ := sz2.out; have sz3_ := sz3.out; have sz4_ := sz4.out; have sz5_ := sz5.out; have sz6_ := sz6.out; have sz7_ := sz7.out; simp only [World.size_setCell]; omega, o0.out.lt, (by have sz0_ := sz0.out; have sz1_ := sz1.out; have sz2_ := sz2.out; have sz3_ := sz3.out; have sz4_ := sz4.out; have sz5_ := sz5.out; have sz6_ := sz6.out; have sz7_ := sz7.out; omega)⟩, bx, br, bw⟩
        · go_simp
          have bw := Lib.hid (bw.out.alloc bw.out.size (Obj.cells #[Value.slice none 0 0, Value.slice none 0 0, Value.int IntKind.i64 0] 37))
          have bx := Lib.hid (bx.out.alloc (Obj.cells #[Value.slice none 0 0, Value.slice none 0 0, Value.int IntKind.i64 0] 37))
          have br := Lib.hid (br.out.alloc (Obj.cells #[Value.slice none 0 0, Value.slice none 0 0, Value.int IntKind.i64 0] 37))
          have t0 := Lib.hid (t0.out.step ((Below.refl _ v5).alloc (Nat.le_refl _) (Obj.cells #[Value.slice none 0 0, Value.slice none 0 0, Value.int IntKind.i64 0] 37)) (.inr (Nat.le_refl _)))
          have o0 := Lib.hid (show Blk (World.alloc v5 (Obj.cells #[Value.slice none 0 0, Value.slice none 0 0, Value.int IntKind.i64 0] 37)) v5.heap.size 37 #[Value.slice none 0 0, Value.slice none 0 0, Value.int IntKind.i64 0] from Blk.new v5 37 #[Value.slice none 0 0, Value.slice none 0 0, Value.int IntKind.i64 0])
          have sz6 := Lib.hid (show v5.heap.size + 1 = (World.alloc v5 (Obj.cells #[Value.slice none 0 0, Value.slice none 0 0, Value.int IntKind.i64 0] 37)).heap.size by simp)
          generalize World.alloc v5 _ = v6 at bw bx br t0 o0 sz6 ⊢
          refine hK.out _ _ ?_ (fun hHeld => ?_)
          · exact ⟨bx.out, br.out⟩
          clear hK K
          try simp only [Act.put, List.setIfInBounds_toArray, List.set_cons_zero, List.set_cons_succ, List.getElem_toArray, List.getElem_cons_succ, List.getElem_cons_zero]
          refine wpAnyH_ready (rs := [5]) (by kernel_rfl) (by simp) ?_
          refine AllReadyH.cons rfl (fun K hK => ?_) AllReadyH.nil
          go_simp
          refine (specNetPut_any t0n i x _ (t0.out.lies (by have sz0_ := sz0.out; have sz1_ := sz1.out; have sz2_ := sz2.out; have sz3_ := sz3.out; have sz4_ := sz4.out; have sz5_ := sz5.out; have sz6_ := sz6.out; omega)) (little_pl t0P.out HS.out) HQ.out).mono ?_
          rintro e v7 hans
          rw [t0P.out, HCF.out, HPF.out] at hans
          obtain ⟨w0n, rfl, w0p, hh, hb⟩ := hans
          have w0P := Lib.hid w0p
          clear w0p
          unfold Nt.out
          have bw := Lib.hid (bw.out.trans (hb.mono bw.out.size))
          have bx := Lib.hid (bx.out.on hb)
          have br := Lib.hid (br.out.on hb)
          have t0 := Lib.hid (t0.out.step hb (.inr (Nat.le_refl _)))
          have o0 := Lib.hid (o0.out.on hb)
          have sz7 := Lib.hid (show v6.heap.size ≤ v7.heap.size from hb.size)
          have w0 := Lib.hid (show HeldN v7 w0n v6.heap.size v7.heap.size from hh)
          clear hb
          clear hh
          clear t0
          clear t0P
          refine hK.out _ _ ?_ (fun hHeld => ?_)
          · exact ⟨bx.out, br.out⟩
          clear hK K
          try simp only [Act.put, List.setIfInBounds_toArray, List.set_cons_zero, List.set_cons_succ, List.getElem_toArray, List.getElem_cons_succ, List.getElem_cons_zero]
          refine wpAnyH_ready (rs := [7]) (by kernel_rfl) (by simp) ?_
          refine AllReadyH.cons rfl (fun K hK => ?_) AllReadyH.nil
          obtain ⟨y0, y1, y2⟩ := blk3 o0.out
          have f0 := o0.out.free 0
          have f1 := o0.out.free 1
          have f2 := o0.out.free 2
          go_simp
          have bw := Lib.hid (below_set3 (b := v5.heap.size) (u0 := .slice w0n.A w0n.s.length w0n.ca) (u1 := .slice w0n.B w0n.m.length w0n.cb) (u2 := .int .i64 jc) bw.out (by have sz0_ := sz0.out; have sz1_ := sz1.out; have sz2_ := sz2.out; have sz3_ := sz3.out; have sz4_ := sz4.out; have sz5_ := sz5.out; have sz6_ := sz6.out; have sz7_ := sz7.out; omega))
          have bx := Lib.hid (blk_off3 (b := v5.heap.size) (u0 := .slice w0n.A w0n.s.length w0n.ca) (u1 := .slice w0n.B w0n.m.length w0n.cb) (u2 := .int .i64 jc) bx.out (by have sz0_ := sz0.out; have sz1_ := sz1.out; have sz2_ := sz2.out; have sz3_ := sz3.out; have sz4_ := sz4.out; have sz5_ := sz5.out; have sz6_ := sz6.out; have sz7_ := sz7.out; omega))
          have br := Lib.hid (blk_off3 (b := v5.heap.size) (u0 := .slice w0n.A w0n.s.length w0n.ca) (u1 := .slice w0n.B w0n.m.length w0n.cb) (u2 := .int .i64 jc) br.out (by have sz0_ := sz0.out; have sz1_ := sz1.out; have sz2_ := sz2.out; have sz3_ := sz3.out; have sz4_ := sz4.out; have sz5_ := sz5.out; have sz6_ := sz6.out; have sz7_ := sz7.out; omega))
          have w0 := Lib.hid (heldN_set3 (u0 := .slice w0n.A w0n.s.length w0n.ca) (u1 := .slice w0n.B w0n.m.length w0n.cb) (u2 := .int .i64 jc) w0.out o0.out)
          have o0 := Lib.hid (blk_set3 (u0 := .slice w0n.A w0n.s.length w0n.ca) (u1 := .slice w0n.B w0n.m.length w0n.cb) (u2 := .int .i64 jc) o0.out)
          clear y0 y1 y2 f0 f1 f2
          refine hK.out _ _ ?_ (fun hHeld => ?_)
          · exact ⟨bx.out, br.out⟩
          clear hK K
          try simp only [Act.put, List.setIfInBounds_toArray, List.set_cons_zero, List.set_cons_succ, List.getElem_toArray, List.getElem_cons_succ, List.getElem_cons_zero]
          refine wpAnyH_done (by kernel_rfl) ?_ _
          go_wp2_with fail
          go_meet
          exact ⟨_, _, _, _, rfl, o0, w0, w0P, Lib.hid ⟨by have sz0_ := sz0.out; have sz1_ := sz1.out; have sz2_ := sz2.out; have sz3_ := sz3.out; have sz4_ := sz4.out; have sz5_ := sz5.out; have sz6_ := sz6.out; have sz7_ := sz7.out; simp only [World.size_setCell]; omega, o0.out.lt, (by have sz0_ := sz0.out; have sz1_ := sz1.out; have sz2_ := sz2.out; have sz3_ := sz3.out; have sz4_ := sz4.out; have sz5_ := sz5.out; have sz6_ := sz6.out; have sz7_ := sz7.out; omega)⟩, bx, br, bw⟩
      · go_simp
        have bw := Lib.hid (bw.out.alloc bw.out.size (Obj.cells #[Value.slice none 0 0, Value.slice none 0 0, Value.int IntKind.i64 0] 37))
        have bx := Lib.hid (bx.out.alloc (Obj.cells #[Value.slice none 0 0, Value.slice none 0 0, Value.int IntKind.i64 0] 37))
        have br := Lib.hid (br.out.alloc (Obj.cells #[Value.slice none 0 0, Value.slice none 0 0, Value.int IntKind.i64 0] 37))
        have t0 := Lib.hid (t0.out.step ((Below.refl _ v4).alloc (Nat.le_refl _) (Obj.cells #[Value.slice none 0 0, Value.slice none 0 0, Value.int IntKind.i64 0] 37)) (.inr (Nat.le_refl _)))
        have o0 := Lib.hid (show Blk (World.alloc v4 (Obj.cells #[Value.slice none 0 0, Value.slice none 0 0, Value.int IntKind.i64 0] 37)) v4.heap.size 37 #[Value.slice none 0 0, Value.slice none 0 0, Value.int IntKind.i64 0] from Blk.new v4 37 #[Value.slice none 0 0, Value.slice none 0 0, Value.int IntKind.i64 0])
        have sz5 := Lib.hid (show v4.heap.size + 1 = (World.alloc v4 (Obj.cells #[Value.slice none 0 0, Value.slice none 0 0, Value.int IntKind.i64 0] 37)).heap.size by simp)
        generalize World.alloc v4 _ = v5 at bw bx br t0 o0 sz5 ⊢
        refine hK.out _ _ ?_ (fun hHeld => ?_)
        · exact ⟨bx.out, br.out⟩
        clear hK K
        try simp only [Act.put, List.setIfInBounds_toArray, List.set_cons_zero, List.set_cons_succ, List.getElem_toArray, List.getElem_cons_succ, List.getElem_cons_zero]
        refine wpAnyH_ready (rs := [4]) (by kernel_rfl) (by simp) ?_
        refine AllReadyH.cons rfl (fun K hK => ?_) AllReadyH.nil
        go_simp
        refine (Sto.toRow_any x _).mono ?_
        rintro e v6 ⟨rfl, hb⟩
        have bw := Lib.hid (bw.out.trans (hb.mono bw.out.size))
        have bx := Lib.hid (bx.out.on hb)
        have br := Lib.hid (br.out.on hb)
        have t0 := Lib.hid (t0.out.step hb (.inr (Nat.le_refl _)))
        have o0 := Lib.hid (o0.out.on hb)
        have sz6 := Lib.hid (show v5.heap.size ≤ v6.heap.size from hb.size)
        clear hb
        unfold R.val
        refine hK.out _ _ ?_ (fun hHeld => ?_)
        · exact ⟨bx.out, br.out⟩
        clear hK K
        try simp only [Act.put, List.setIfInBounds_toArray, List.set_cons_zero, List.set_cons_succ, List.getElem_toArray, List.getElem_cons_succ, List.getElem_cons_zero]
        refine wpAnyH_ready (rs := [5]) (by kernel_rfl) (by simp) ?_
        refine AllReadyH.cons rfl (fun K hK => ?_) AllReadyH.nil
        go_simp
        refine (specNetPut_any t0n i x _ (t0.out.lies (by have sz0_ := sz0.out; have sz1_ := sz1.out; have sz2_ := sz2.out; have sz3_ := sz3.out; have sz4_ := sz4.out; have sz5_ := sz5.out; have sz6_ := sz6.out; omega)) (little_pl t0P.out HS.out) HQ.out).mono ?_
        rintro e v7 hans
        rw [t0P.out, HCF.out, HPF.out] at hans
        obtain ⟨w0n, rfl, w0p, hh, hb⟩ := hans
        have w0P := Lib.hid w0p
        clear w0p
        unfold Nt.out
        have bw := Lib.hid (bw.out.trans (hb.mono bw.out.size))
        have bx := Lib.hid (bx.out.on hb)
        have br := Lib.hid (br.out.on hb)
        have t0 := Lib.hid (t0.out.step hb (.inr (Nat.le_refl _)))
        have o0 := Lib.hid (o0.out.on hb)
        have sz7 := Lib.hid (show v6.heap.size ≤ v7.heap.size from hb.size)
        have w0 := Lib.hid (show HeldN v7 w0n v6.heap.size v7.heap.size from hh)
        clear hb
        clear hh
        clear t0
        clear t0P
        refine hK.out _ _ ?_ (fun hHeld => ?_)
        · exact ⟨bx.out, br.out⟩
        clear hK K
        try simp only [Act.put, List.setIfInBounds_toArray, List.set_cons_zero, List.set_cons_succ, List.getElem_toArray, List.getElem_cons_succ, List.getElem_cons_zero]
        refine wpAnyH_ready (rs := [7]) (by kernel_rfl) (by simp) ?_
        refine AllReadyH.cons rfl (fun K hK => ?_) AllReadyH.nil
        obtain ⟨y0, y1, y2⟩ := blk3 o0.out
        have f0 := o0.out.free 0
        have f1 := o0.out.free 1
        have f2 := o0.out.free 2
        go_simp
        have bw := Lib.hid (below_set3 (b := v4.heap.size) (u0 := .slice w0n.A w0n.s.length w0n.ca) (u1 := .slice w0n.B w0n.m.length w0n.cb) (u2 := .int .i64 jc) bw.out (by have sz0_ := sz0.out; have sz1_ := sz1.out; have sz2_ := sz2.out; have sz3_ := sz3.out; have sz4_ := sz4.out; have sz5_ := sz5.out; have sz6_ := sz6.out; have sz7_ := sz7.out; omega))
        have bx := Lib.hid (blk_off3 (b := v4.heap.size) (u0 := .slice w0n.A w0n.s.length w0n.ca) (u1 := .slice w0n.B w0n.m.length w0n.cb) (u2 := .int .i64 jc) bx.out (by have sz0_ := sz0.out; have sz1_ := sz1.out; have sz2_ := sz2.out; have sz3_ := sz3.out; have sz4_ := sz4.out; have sz5_ := sz5.out; have sz6_ := sz6.out; have sz7_ := sz7.out; omega))
        have br := Lib.hid (blk_off3 (b := v4.heap.size) (u0 := .slice w0n.A w0n.s.length w0n.ca) (u1 := .slice w0n.B w0n.m.length w0n.cb) (u2 := .int .i64 jc) br.out (by have sz0_ := sz0.out; have sz1_ := sz1.out; have sz2_ := sz2.out; have sz3_ := sz3.out; have sz4_ := sz4.out; have sz5_ := sz5.out; have sz6_ := sz6.out; have sz7_ := sz7.out; omega))
        have w0 := Lib.hid (heldN_set3 (u0 := .slice w0n.A w0n.s.length w0n.ca) (u1 := .slice w0n.B w0n.m.length w0n.cb) (u2 := .int .i64 jc) w0.out o0.out)
        have o0 := Lib.hid (blk_set3 (u0 := .slice w0n.A w0n.s.length w0n.ca) (u1 := .slice w0n.B w0n.m.length w0n.cb) (u2 := .int .i64 jc) o0.out)
        clear y0 y1 y2 f0 f1 f2
        refine hK.out _ _ ?_ (fun hHeld => ?_)
        · exact ⟨bx.out, br.out⟩
        clear hK K
        try simp only [Act.put, List.setIfInBounds_toArray, List.set_cons_zero, List.set_cons_succ, List.getElem_toArray, List.getElem_cons_succ, List.getElem_cons_zero]
        refine wpAnyH_done (by kernel_rfl) ?_ _
        go_wp2_with fail
        go_meet
        exact ⟨_, _, _, _, rfl, o0, w0, w0P, Lib.hid ⟨by have sz0_ := sz0.out; have sz1_ := sz1.out; have sz2_ := sz2.out; have sz3_ := sz3.out; have sz4_ := sz4.out; have sz5_ := sz5.out; have sz6_ := sz6.out; have sz7_ := sz7.out; simp only [World.size_setCell]; omega, o0.out.lt, (by have sz0_ := sz0.out; have sz1_ := sz1.out; have sz2_ := sz2.out; have sz3_ := sz3.out; have sz4_ := sz4.out; have sz5_ := sz5.out; have sz6_ := sz6.out; have sz7_ := sz7.out; omega)⟩, bx, br, bw⟩
    · go_simp
      have bw := Lib.hid (bw.out.alloc bw.out.size (Obj.cells #[Value.slice none 0 0, Value.slice none 0 0, Value.int IntKind.i64 0] 37))
      have bx := Lib.hid (bx.out.alloc (Obj.cells #[Value.slice none 0 0, Value.slice none 0 0, Value.int IntKind.i64 0] 37))
      have br := Lib.hid (br.out.alloc (Obj.cells #[Value.slice none 0 0, Value.slice none 0 0, Value.int IntKind.i64 0] 37))
      have o0 := Lib.hid (show Blk (World.alloc v3 (Obj.cells #[Value.slice none 0 0, Value.slice none 0 0, Value.int IntKind.i64 0] 37)) v3.heap.size 37 #[Value.slice none 0 0, Value.slice none 0 0, Value.int IntKind.i64 0] from Blk.new v3 37 #[Value.slice none 0 0, Value.slice none 0 0, Value.int IntKind.i64 0])
      have sz4 := Lib.hid (show v3.heap.size + 1 = (World.alloc v3 (Obj.cells #[Value.slice none 0 0, Value.slice none 0 0, Value.int IntKind.i64 0] 37)).heap.size by simp)
      generalize World.alloc v3 _ = v4 at bw bx br o0 sz4 ⊢
      refine hK.out _ _ ?_ (fun hHeld => ?_)
      · exact ⟨bx.out, br.out⟩
      clear hK K
      try simp only [Act.put, List.setIfInBounds_toArray, List.set_cons_zero, List.set_cons_succ, List.getElem_toArray, List.getElem_cons_succ, List.getElem_cons_zero]
      refine wpAnyH_ready (rs := [1]) (by kernel_rfl) (by simp) ?_
      refine AllReadyH.cons rfl (fun K hK => ?_) AllReadyH.nil
      go_simp
      refine (toNet_any n _ (H.out.on bw.out) hs1 hs2 HL.out).mono ?_
      rintro e v5 ⟨t0n, rfl, t0p, t0h, hb⟩
      have t0P := Lib.hid t0p
      clear t0p
      unfold Nt.val
      have bw := Lib.hid (bw.out.trans (hb.mono bw.out.size))
      have bx := Lib.hid (bx.out.on hb)
      have br := Lib.hid (br.out.on hb)
      have o0 := Lib.hid (o0.out.on hb)
      have sz5 := Lib.hid (show v4.heap.size ≤ v5.heap.size from hb.size)
      have t0 := Lib.hid (show HeldN v5 t0n v4.heap.size v5.heap.size from t0h)
      clear hb
      clear t0h
      refine hK.out _ _ ?_ (fun hHeld => ?_)
      · exact ⟨bx.out, br.out⟩
      clear hK K
      try simp only [Act.put, List.setIfInBounds_toArray, List.set_cons_zero, List.set_cons_succ, List.getElem_toArray, List.getElem_cons_succ, List.getElem_cons_zero]
      refine wpAnyH_ready (rs := [4]) (by kernel_rfl) (by simp) ?_
      refine AllReadyH.cons rfl (fun K hK => ?_) AllReadyH.nil
      go_simp
      refine (Sto.toRow_any x _).mono ?_
      rintro e v6 ⟨rfl, hb⟩
      have bw := Lib.hid (bw.out.trans (hb.mono bw.out.size))
      have bx := Lib.hid (bx.out.on hb)
      have br := Lib.hid (br.out.on hb)
      have o0 := Lib.hid (o0.out.on hb)
      have t0 := Lib.hid (t0.out.step hb (.inr (Nat.le_refl _)))
      have sz6 := Lib.hid (show v5.heap.size ≤ v6.heap.size from hb.size)
      clear hb
      unfold R.val
      refine hK.out _ _ ?_ (fun hHeld => ?_)
      · exact ⟨bx.out, br.out⟩
      clear hK K
      try simp only [Act.put, List.setIfInBounds_toArray, List.set_cons_zero, List.set_cons_succ, List.getElem_toArray, List.getElem_cons_succ, List.getElem_cons_zero]
      refine wpAnyH_ready (rs := [5]) (by kernel_rfl) (by simp) ?_
      refine AllReadyH.cons rfl (fun K hK => ?_) AllReadyH.nil
      go_simp
      refine (specNetPut_any t0n i x _ (t0.out.lies (by have sz0_ := sz0.out; have sz1_ := sz1.out; have sz2_ := sz2.out; have sz3_ := sz3.out; have sz4_ := sz4.out; have sz5_ := sz5.out; have sz6_ := sz6.out; omega)) (little_pl t0P.out HS.out) HQ.out).mono ?_
      rintro e v7 hans
      rw [t0P.out, HCF.out, HPF.out] at hans
      obtain ⟨w0n, rfl, w0p, hh, hb⟩ := hans
      have w0P := Lib.hid w0p
      clear w0p
      unfold Nt.out
      have bw := Lib.hid (bw.out.trans (hb.mono bw.out.size))
      have bx := Lib.hid (bx.out.on hb)
      have br := Lib.hid (br.out.on hb)
      have o0 := Lib.hid (o0.out.on hb)
      have t0 := Lib.hid (t0.out.step hb (.inr (Nat.le_refl _)))
      have sz7 := Lib.hid (show v6.heap.size ≤ v7.heap.size from hb.size)
      have w0 := Lib.hid (show HeldN v7 w0n v6.heap.size v7.heap.size from hh)
      clear hb
      clear hh
      clear t0
      clear t0P
      refine hK.out _ _ ?_ (fun hHeld => ?_)
      · exact ⟨bx.out, br.out⟩
      clear hK K
      try simp only [Act.put, List.setIfInBounds_toArray, List.set_cons_zero, List.set_cons_succ, List.getElem_toArray, List.getElem_cons_succ, List.getElem_cons_zero]
      refine wpAnyH_ready (rs := [7]) (by kernel_rfl) (by simp) ?_
      refine AllReadyH.cons rfl (fun K hK => ?_) AllReadyH.nil
      obtain ⟨y0, y1, y2⟩ := blk3 o0.out
      have f0 := o0.out.free 0
      have f1 := o0.out.free 1
      have f2 := o0.out.free 2
      go_simp
      have bw := Lib.hid (below_set3 (b := v3.heap.size) (u0 := .slice w0n.A w0n.s.length w0n.ca) (u1 := .slice w0n.B w0n.m.length w0n.cb) (u2 := .int .i64 jc) bw.out (by have sz0_ := sz0.out; have sz1_ := sz1.out; have sz2_ := sz2.out; have sz3_ := sz3.out; have sz4_ := sz4.out; have sz5_ := sz5.out; have sz6_ := sz6.out; have sz7_ := sz7.out; omega))
      have bx := Lib.hid (blk_off3 (b := v3.heap.size) (u0 := .slice w0n.A w0n.s.length w0n.ca) (u1 := .slice w0n.B w0n.m.length w0n.cb) (u2 := .int .i64 jc) bx.out (by have sz0_ := sz0.out; have sz1_ := sz1.out; have sz2_ := sz2.out; have sz3_ := sz3.out; have sz4_ := sz4.out; have sz5_ := sz5.out; have sz6_ := sz6.out; have sz7_ := sz7.out; omega))
      have br := Lib.hid (blk_off3 (b := v3.heap.size) (u0 := .slice w0n.A w0n.s.length w0n.ca) (u1 := .slice w0n.B w0n.m.length w0n.cb) (u2 := .int .i64 jc) br.out (by have sz0_ := sz0.out; have sz1_ := sz1.out; have sz2_ := sz2.out; have sz3_ := sz3.out; have sz4_ := sz4.out; have sz5_ := sz5.out; have sz6_ := sz6.out; have sz7_ := sz7.out; omega))
      have w0 := Lib.hid (heldN_set3 (u0 := .slice w0n.A w0n.s.length w0n.ca) (u1 := .slice w0n.B w0n.m.length w0n.cb) (u2 := .int .i64 jc) w0.out o0.out)
      have o0 := Lib.hid (blk_set3 (u0 := .slice w0n.A w0n.s.length w0n.ca) (u1 := .slice w0n.B w0n.m.length w0n.cb) (u2 := .int .i64 jc) o0.out)
      clear y0 y1 y2 f0 f1 f2
      refine hK.out _ _ ?_ (fun hHeld => ?_)
      · exact ⟨bx.out, br.out⟩
      clear hK K
      try simp only [Act.put, List.setIfInBounds_toArray, List.set_cons_zero, List.set_cons_succ, List.getElem_toArray, List.getElem_cons_succ, List.getElem_cons_zero]
      refine wpAnyH_done (by kernel_rfl) ?_ _
      go_wp2_with fail
      go_meet
      exact ⟨_, _, _, _, rfl, o0, w0, w0P, Lib.hid ⟨by have sz0_ := sz0.out; have sz1_ := sz1.out; have sz2_ := sz2.out; have sz3_ := sz3.out; have sz4_ := sz4.out; have sz5_ := sz5.out; have sz6_ := sz6.out; have sz7_ := sz7.out; simp only [World.size_setCell]; omega, o0.out.lt, (by have sz0_ := sz0.out; have sz1_ := sz1.out; have sz2_ := sz2.out; have sz3_ := sz3.out; have sz4_ := sz4.out; have sz5_ := sz5.out; have sz6_ := sz6.out; have sz7_ := sz7.out; omega)⟩, bx, br, bw⟩
  case rest =>
    rename World => wb
    obtain ⟨b, w0n, lo0, hi0, rfl, o0, w0, w0P, szc, bx, br, bw⟩ := hcut
    have w0F := Lib.hid (fewA_of w0P.out HSM.out)
    obtain ⟨bxc0, bxc1⟩ := blk2 bx.out
    go_wp2_with fail
    clear bxc0 bxc1
    refine (toNet_any n _ (H.out.on bw.out) hs1 hs2 HL.out).mono ?_
    rintro e v101 ⟨x0n, rfl, x0p, x0h, hb⟩
    have x0P := Lib.hid x0p
    clear x0p
    unfold Nt.val
    have bw := Lib.hid (bw.out.trans (hb.mono bw.out.size))
    have bx := Lib.hid (bx.out.on hb)
    have br := Lib.hid (br.out.on hb)
    have o0 := Lib.hid (o0.out.on hb)
    have w0 := Lib.hid (w0.out.step hb (.inr (Nat.le_refl _)))
    have sz101 := Lib.hid (show wb.heap.size ≤ v101.heap.size from hb.size)
    have x0 := Lib.hid (show HeldN v101 x0n wb.heap.size v101.heap.size from x0h)
    clear hb
    clear x0h
    have x0F := Lib.hid (few_of x0P.out HS.out)
    go_wp2_with fail
    have bw := Lib.hid (bw.out.alloc bw.out.size (Obj.cells #[Value.slice x0n.A x0n.s.length x0n.ca, Value.slice x0n.B x0n.m.length x0n.cb] 35))
    have bx := Lib.hid (bx.out.alloc (Obj.cells #[Value.slice x0n.A x0n.s.length x0n.ca, Value.slice x0n.B x0n.m.length x0n.cb] 35))
    have br := Lib.hid (br.out.alloc (Obj.cells #[Value.slice x0n.A x0n.s.length x0n.ca, Value.slice x0n.B x0n.m.length x0n.cb] 35))
    have o0 := Lib.hid (o0.out.alloc (Obj.cells #[Value.slice x0n.A x0n.s.length x0n.ca, Value.slice x0n.B x0n.m.length x0n.cb] 35))
    have w0 := Lib.hid (w0.out.step ((Below.refl _ v101).alloc (Nat.le_refl _) (Obj.cells #[Value.slice x0n.A x0n.s.length x0n.ca, Value.slice x0n.B x0n.m.length x0n.cb] 35)) (.inr (Nat.le_refl _)))
    have x0 := Lib.hid (x0.out.step ((Below.refl _ v101).alloc (Nat.le_refl _) (Obj.cells #[Value.slice x0n.A x0n.s.length x0n.ca, Value.slice x0n.B x0n.m.length x0n.cb] 35)) (.inr (Nat.le_refl _)))
    have b0 := Lib.hid (show Blk (World.alloc v101 (Obj.cells #[Value.slice x0n.A x0n.s.length x0n.ca, Value.slice x0n.B x0n.m.length x0n.cb] 35)) v101.heap.size 35 #[Value.slice x0n.A x0n.s.length x0n.ca, Value.slice x0n.B x0n.m.length x0n.cb] from Blk.new v101 35 #[Value.slice x0n.A x0n.s.length x0n.ca, Value.slice x0n.B x0n.m.length x0n.cb])
    have sz102 := Lib.hid (show v101.heap.size + 1 = (World.alloc v101 (Obj.cells #[Value.slice x0n.A x0n.s.length x0n.ca, Value.slice x0n.B x0n.m.length x0n.cb] 35)).heap.size by simp)
    generalize World.alloc v101 _ = v102 at bw bx br o0 w0 x0 b0 sz102 ⊢
    go_upto_region 10 with fail
    go_cut [10] (fun s10 wx => ∃ (b1 : Nat) (w1n : Nt) (lo1 hi1 : Nat), s10 = .pointer (some ⟨b1, 0, none⟩) ∧ Hid (Blk wx b1 37 #[Value.slice w1n.A w1n.s.length w1n.ca, Value.slice w1n.B w1n.m.length w1n.cb, Value.int IntKind.i64 jc]) ∧ Hid (HeldN wx w1n lo1 hi1) ∧ Hid (pl w1n = jp) ∧ Hid (hi1 ≤ wx.heap.size ∧ v101.heap.size ≤ lo1 ∧ b1 < wx.heap.size ∧ v101.heap.size < b1 ∧ v101.heap.size < wx.heap.size) ∧ Hid (Blk wx w.heap.size 25 #[Value.slice n.A n.s.length n.ca, Value.slice n.B n.m.length n.cb]) ∧ Hid (Blk wx (w.heap.size + 1) 29 #[Value.string x.k, Value.int IntKind.i64 x.i.c, Value.int IntKind.i64 x.i.s, Value.int IntKind.i64 x.i.e, Value.string x.b]) ∧ Hid (Below w.heap.size w wx) ∧ Hid (Blk wx v101.heap.size 35 #[Value.slice x0n.A x0n.s.length x0n.ca, Value.slice x0n.B x0n.m.length x0n.cb]) ∧ Hid (HeldN wx x0n wb.heap.size v101.heap.size) ∧ Hid (Blk wx b 37 #[Value.slice w0n.A w0n.s.length w0n.ca, Value.slice w0n.B w0n.m.length w0n.cb, Value.int IntKind.i64 jc]) ∧ Hid (HeldN wx w0n lo0 hi0))
    case first =>
      refine wp_region_held_drew (S := (fun V => (Blk V v101.heap.size 35 #[Value.slice x0n.A x0n.s.length x0n.ca, Value.slice x0n.B x0n.m.length x0n.cb]) ∧ Blk V (w.heap.size + 1) 29 #[Value.string x.k, Value.int IntKind.i64 x.i.c, Value.int IntKind.i64 x.i.s, Value.int IntKind.i64 x.i.e, Value.string x.b])) (by kernel_rfl) ?_ (fun hHeld => ?_)
      · exact ⟨b0.out, br.out⟩
      have hb := (Below.refl v102.heap.size v102).drew
      have bw := Lib.hid (bw.out.trans (hb.mono bw.out.size))
      have bx := Lib.hid (bx.out.on hb)
      have br := Lib.hid (br.out.on hb)
      have o0 := Lib.hid (o0.out.on hb)
      have w0 := Lib.hid (w0.out.step hb (.inr (Nat.le_refl _)))
      have x0 := Lib.hid (x0.out.step hb (.inr (Nat.le_refl _)))
      have b0 := Lib.hid (b0.out.on hb)
      have sz103 := Lib.hid (show v102.heap.size ≤ (World.drew v102).heap.size from hb.size)
      clear hb
      generalize World.drew v102 = v103 at hHeld bw bx br o0 w0 x0 b0 sz103 ⊢
      refine wpAnyH_take (i := 0) (v := ?_) rfl (by kernel_rfl) (by kernel_rfl) (by kernel_rfl) (fun _ _ _ h => h) (Or.inl ⟨by rfl, ?_⟩) hHeld ?_
      rotate_left
      · intro V hSw
        obtain ⟨hs0, hs1⟩ := blk2 hSw.1
        go_simp
        try with_reducible rfl
      try simp only [Act.put, List.setIfInBounds_toArray, List.set_cons_zero, List.set_cons_succ, List.getElem_toArray, List.getElem_cons_succ, List.getElem_cons_zero]
      refine wpAnyH_take (i := 1) (v := ?_) rfl (by kernel_rfl) (by kernel_rfl) (by kernel_rfl) (fun _ _ _ h => h) (Or.inl ⟨by rfl, ?_⟩) hHeld ?_
      rotate_left
      · intro V hSw
        go_simp
        try with_reducible rfl
      try simp only [Act.put, List.setIfInBounds_toArray, List.set_cons_zero, List.set_cons_succ, List.getElem_toArray, List.getElem_cons_succ, List.getElem_cons_zero]
      refine wpAnyH_take (i := 2) (v := ?_) rfl (by kernel_rfl) (by kernel_rfl) (by kernel_rfl) (fun _ _ _ h => h) (Or.inl ⟨by rfl, ?_⟩) hHeld ?_
      rotate_left
      · intro V hSw
        obtain ⟨hs0, hs1, hs2, hs3, hs4⟩ := blk5 hSw.2
        go_simp
        try with_reducible rfl
      try simp only [Act.put, List.setIfInBounds_toArray, List.set_cons_zero, List.set_cons_succ, List.getElem_toArray, List.getElem_cons_succ, List.getElem_cons_zero]
      refine wpAnyH_ready (rs := [3, 5]) (by kernel_rfl) (by simp) ?_
      refine AllReadyH.cons rfl (fun K hK => ?_) (AllReadyH.cons rfl (fun K hK => ?_) AllReadyH.nil)
      · go_simp
        refine (Sto.toRow_any x _).mono ?_
        rintro e v104 ⟨rfl, hb⟩
        have bw := Lib.hid (bw.out.trans (hb.mono bw.out.size))
        have bx := Lib.hid (bx.out.on hb)
        have br := Lib.hid (br.out.on hb)
        have o0 := Lib.hid (o0.out.on hb)
        have w0 := Lib.hid (w0.out.step hb (.inr (Nat.le_refl _)))
        have x0 := Lib.hid (x0.out.step hb (.inr (Nat.le_refl _)))
        have b0 := Lib.hid (b0.out.on hb)
        have sz104 := Lib.hid (show v103.heap.size ≤ v104.heap.size from hb.size)
        clear hb
        unfold R.val
        refine hK.out _ _ ?_ (fun hHeld => ?_)
        · exact ⟨b0.out, br.out⟩
        clear hK K
        try simp only [Act.put, List.setIfInBounds_toArray, List.set_cons_zero, List.set_cons_succ, List.getElem_toArray, List.getElem_cons_succ, List.getElem_cons_zero]
        refine wpAnyH_ready (rs := [4, 5]) (by kernel_rfl) (by simp) ?_
        refine AllReadyH.cons rfl (fun K hK => ?_) (AllReadyH.cons rfl (fun K hK => ?_) AllReadyH.nil)
        · go_simp
          refine (implNetPut_any x0n i x _ (x0.out.lies (by have szc_ := szc.out; have sz101_ := sz101.out; have sz102_ := sz102.out; have sz103_ := sz103.out; have sz104_ := sz104.out; omega)) (little_pl x0P.out HS.out) HQ.out).mono ?_
          rintro e v105 hans
          rw [x0P.out, HCF.out, HPF.out] at hans
          obtain ⟨w1n, rfl, w1p, hh, hb⟩ := hans
          have w1P := Lib.hid w1p
          clear w1p
          unfold Nt.out
          have bw := Lib.hid (bw.out.trans (hb.mono bw.out.size))
          have bx := Lib.hid (bx.out.on hb)
          have br := Lib.hid (br.out.on hb)
          have o0 := Lib.hid (o0.out.on hb)
          have w0 := Lib.hid (w0.out.step hb (.inr (Nat.le_refl _)))
          have x0 := Lib.hid (x0.out.step hb (.inr (Nat.le_refl _)))
          have b0 := Lib.hid (b0.out.on hb)
          have sz105 := Lib.hid (show v104.heap.size ≤ v105.heap.size from hb.size)
          have w1 := Lib.hid (show HeldN v105 w1n v104.heap.size v105.heap.size from hh)
          clear hb
          clear hh
          refine hK.out _ _ ?_ (fun hHeld => ?_)
          · exact ⟨b0.out, br.out⟩
          clear hK K
          try simp only [Act.put, List.setIfInBounds_toArray, List.set_cons_zero, List.set_cons_succ, List.getElem_toArray, List.getElem_cons_succ, List.getElem_cons_zero]
          refine wpAnyH_ready (rs := [5]) (by kernel_rfl) (by simp) ?_
          refine AllReadyH.cons rfl (fun K hK => ?_) AllReadyH.nil
          go_simp
          have bw := Lib.hid (bw.out.alloc bw.out.size (Obj.cells #[Value.slice none 0 0, Value.slice none 0 0, Value.int IntKind.i64 0] 37))
          have bx := Lib.hid (bx.out.alloc (Obj.cells #[Value.slice none 0 0, Value.slice none 0 0, Value.int IntKind.i64 0] 37))
          have br := Lib.hid (br.out.alloc (Obj.cells #[Value.slice none 0 0, Value.slice none 0 0, Value.int IntKind.i64 0] 37))
          have o0 := Lib.hid (o0.out.alloc (Obj.cells #[Value.slice none 0 0, Value.slice none 0 0, Value.int IntKind.i64 0] 37))
          have w0 := Lib.hid (w0.out.step ((Below.refl _ v105).alloc (Nat.le_refl _) (Obj.cells #[Value.slice none 0 0, Value.slice none 0 0, Value.int IntKind.i64 0] 37)) (.inr (Nat.le_refl _)))
          have x0 := Lib.hid (x0.out.step ((Below.refl _ v105).alloc (Nat.le_refl _) (Obj.cells #[Value.slice none 0 0, Value.slice none 0 0, Value.int IntKind.i64 0] 37)) (.inr (Nat.le_refl _)))
          have b0 := Lib.hid (b0.out.alloc (Obj.cells #[Value.slice none 0 0, Value.slice none 0 0, Value.int IntKind.i64 0] 37))
          have w1 := Lib.hid (w1.out.step ((Below.refl _ v105).alloc (Nat.le_refl _) (Obj.cells #[Value.slice none 0 0, Value.slice none 0 0, Value.int IntKind.i64 0] 37)) (.inr (Nat.le_refl _)))
          have o1 := Lib.hid (show Blk (World.alloc v105 (Obj.cells #[Value.slice none 0 0, Value.slice none 0 0, Value.int IntKind.i64 0] 37)) v105.heap.size 37 #[Value.slice none 0 0, Value.slice none 0 0, Value.int IntKind.i64 0] from Blk.new v105 37 #[Value.slice none 0 0, Value.slice none 0 0, Value.int IntKind.i64 0])
          have sz106 := Lib.hid (show v105.heap.size + 1 = (World.alloc v105 (Obj.cells #[Value.slice none 0 0, Value.slice none 0 0, Value.int IntKind.i64 0] 37)).heap.size by simp)
          generalize World.alloc v105 _ = v106 at bw bx br o0 w0 x0 b0 w1 o1 sz106 ⊢
          refine hK.out _ _ ?_ (fun hHeld => ?_)
          · exact ⟨b0.out, br.out⟩
          clear hK K
          try simp only [Act.put, List.setIfInBounds_toArray, List.set_cons_zero, List.set_cons_succ, List.getElem_toArray, List.getElem_cons_succ, List.getElem_cons_zero]
          refine wpAnyH_ready (rs := [6]) (by kernel_rfl) (by simp) ?_
          refine AllReadyH.cons rfl (fun K hK => ?_) AllReadyH.nil
          obtain ⟨y0, y1, y2⟩ := blk3 o1.out
          have f0 := o1.out.free 0
          have f1 := o1.out.free 1
          have f2 := o1.out.free 2
          go_simp
          have bw := Lib.hid (below_set3 (b := v105.heap.size) (u0 := .slice w1n.A w1n.s.length w1n.ca) (u1 := .slice w1n.B w1n.m.length w1n.cb) (u2 := .int .i64 jc) bw.out (by have szc_ := szc.out; have sz101_ := sz101.out; have sz102_ := sz102.out; have sz103_ := sz103.out; have sz104_ := sz104.out; have sz105_ := sz105.out; have sz106_ := sz106.out; omega))
          have bx := Lib.hid (blk_off3 (b := v105.heap.size) (u0 := .slice w1n.A w1n.s.length w1n.ca) (u1 := .slice w1n.B w1n.m.length w1n.cb) (u2 := .int .i64 jc) bx.out (by have szc_ := szc.out; have sz101_ := sz101.out; have sz102_ := sz102.out; have sz103_ := sz103.out; have sz104_ := sz104.out; have sz105_ := sz105.out; have sz106_ := sz106.out; omega))
          have br := Lib.hid (blk_off3 (b := v105.heap.size) (u0 := .slice w1n.A w1n.s.length w1n.ca) (u1 := .slice w1n.B w1n.m.length w1n.cb) (u2 := .int .i64 jc) br.out (by have szc_ := szc.out; have sz101_ := sz101.out; have sz102_ := sz102.out; have sz103_ := sz103.out; have sz104_ := sz104.out; have sz105_ := sz105.out; have sz106_ := sz106.out; omega))
          have o0 := Lib.hid (blk_off3 (b := v105.heap.size) (u0 := .slice w1n.A w1n.s.length w1n.ca) (u1 := .slice w1n.B w1n.m.length w1n.cb) (u2 := .int .i64 jc) o0.out (by have szc_ := szc.out; have sz101_ := sz101.out; have sz102_ := sz102.out; have sz103_ := sz103.out; have sz104_ := sz104.out; have sz105_ := sz105.out; have sz106_ := sz106.out; omega))
          have w0 := Lib.hid (heldN_set3 (u0 := .slice w1n.A w1n.s.length w1n.ca) (u1 := .slice w1n.B w1n.m.length w1n.cb) (u2 := .int .i64 jc) w0.out o1.out)
          have x0 := Lib.hid (heldN_set3 (u0 := .slice w1n.A w1n.s.length w1n.ca) (u1 := .slice w1n.B w1n.m.length w1n.cb) (u2 := .int .i64 jc) x0.out o1.out)
          have b0 := Lib.hid (blk_off3 (b := v105.heap.size) (u0 := .slice w1n.A w1n.s.length w1n.ca) (u1 := .slice w1n.B w1n.m.length w1n.cb) (u2 := .int .i64 jc) b0.out (by have szc_ := szc.out; have sz101_ := sz101.out; have sz102_ := sz102.out; have sz103_ := sz103.out; have sz104_ := sz104.out; have sz105_ := sz105.out; have sz106_ := sz106.out; omega))
          have w1 := Lib.hid (heldN_set3 (u0 := .slice w1n.A w1n.s.length w1n.ca) (u1 := .slice w1n.B w1n.m.length w1n.cb) (u2 := .int .i64 jc) w1.out o1.out)
          have o1 := Lib.hid (blk_set3 (u0 := .slice w1n.A w1n.s.length w1n.ca) (u1 := .slice w1n.B w1n.m.length w1n.cb) (u2 := .int .i64 jc) o1.out)
          clear y0 y1 y2 f0 f1 f2
          refine hK.out _ _ ?_ (fun hHeld => ?_)
          · exact ⟨b0.out, br.out⟩
          clear hK K
          try simp only [Act.put, List.setIfInBounds_toArray, List.set_cons_zero, List.set_cons_succ, List.getElem_toArray, List.getElem_cons_succ, List.getElem_cons_zero]
          refine wpAnyH_done (by kernel_rfl) ?_ _
          go_wp2_with fail
          go_meet
          exact ⟨_, _, _, _, rfl, o1, w1, w1P, Lib.hid (by have szc_ := szc.out; have sz101_ := sz101.out; have sz102_ := sz102.out; have sz103_ := sz103.out; have sz104_ := sz104.out; have sz105_ := sz105.out; have sz106_ := sz106.out; simp only [World.size_setCell]; have := o1.out.lt; simp only [World.size_setCell] at this; omega), bx, br, bw, b0, x0, o0, w0⟩
        · go_simp
          have bw := Lib.hid (bw.out.alloc bw.out.size (Obj.cells #[Value.slice none 0 0, Value.slice none 0 0, Value.int IntKind.i64 0] 37))
          have bx := Lib.hid (bx.out.alloc (Obj.cells #[Value.slice none 0 0, Value.slice none 0 0, Value.int IntKind.i64 0] 37))
          have br := Lib.hid (br.out.alloc (Obj.cells #[Value.slice none 0 0, Value.slice none 0 0, Value.int IntKind.i64 0] 37))
          have o0 := Lib.hid (o0.out.alloc (Obj.cells #[Value.slice none 0 0, Value.slice none 0 0, Value.int IntKind.i64 0] 37))
          have w0 := Lib.hid (w0.out.step ((Below.refl _ v104).alloc (Nat.le_refl _) (Obj.cells #[Value.slice none 0 0, Value.slice none 0 0, Value.int IntKind.i64 0] 37)) (.inr (Nat.le_refl _)))
          have x0 := Lib.hid (x0.out.step ((Below.refl _ v104).alloc (Nat.le_refl _) (Obj.cells #[Value.slice none 0 0, Value.slice none 0 0, Value.int IntKind.i64 0] 37)) (.inr (Nat.le_refl _)))
          have b0 := Lib.hid (b0.out.alloc (Obj.cells #[Value.slice none 0 0, Value.slice none 0 0, Value.int IntKind.i64 0] 37))
          have o1 := Lib.hid (show Blk (World.alloc v104 (Obj.cells #[Value.slice none 0 0, Value.slice none 0 0, Value.int IntKind.i64 0] 37)) v104.heap.size 37 #[Value.slice none 0 0, Value.slice none 0 0, Value.int IntKind.i64 0] from Blk.new v104 37 #[Value.slice none 0 0, Value.slice none 0 0, Value.int IntKind.i64 0])
          have sz105 := Lib.hid (show v104.heap.size + 1 = (World.alloc v104 (Obj.cells #[Value.slice none 0 0, Value.slice none 0 0, Value.int IntKind.i64 0] 37)).heap.size by simp)
          generalize World.alloc v104 _ = v105 at bw bx br o0 w0 x0 b0 o1 sz105 ⊢
          refine hK.out _ _ ?_ (fun hHeld => ?_)
          · exact ⟨b0.out, br.out⟩
          clear hK K
          try simp only [Act.put, List.setIfInBounds_toArray, List.set_cons_zero, List.set_cons_succ, List.getElem_toArray, List.getElem_cons_succ, List.getElem_cons_zero]
          refine wpAnyH_ready (rs := [4]) (by kernel_rfl) (by simp) ?_
          refine AllReadyH.cons rfl (fun K hK => ?_) AllReadyH.nil
          go_simp
          refine (implNetPut_any x0n i x _ (x0.out.lies (by have szc_ := szc.out; have sz101_ := sz101.out; have sz102_ := sz102.out; have sz103_ := sz103.out; have sz104_ := sz104.out; have sz105_ := sz105.out; omega)) (little_pl x0P.out HS.out) HQ.out).mono ?_
          rintro e v106 hans
          rw [x0P.out, HCF.out, HPF.out] at hans
          obtain ⟨w1n, rfl, w1p, hh, hb⟩ := hans
          have w1P := Lib.hid w1p
          clear w1p
          unfold Nt.out
          have bw := Lib.hid (bw.out.trans (hb.mono bw.out.size))
          have bx := Lib.hid (bx.out.on hb)
          have br := Lib.hid (br.out.on hb)
          have o0 := Lib.hid (o0.out.on hb)
          have w0 := Lib.hid (w0.out.step hb (.inr (Nat.le_refl _)))
          have x0 := Lib.hid (x0.out.step hb (.inr (Nat.le_refl _)))
          have b0 := Lib.hid (b0.out.on hb)
          have o1 := Lib.hid (o1.out.on hb)
          have sz106 := Lib.hid (show v105.heap.size ≤ v106.heap.size from hb.size)
          have w1 := Lib.hid (show HeldN v106 w1n v105.heap.size v106.heap.size from hh)
          clear hb
          clear hh
          refine hK.out _ _ ?_ (fun hHeld => ?_)
          · exact ⟨b0.out, br.out⟩
          clear hK K
          try simp only [Act.put, List.setIfInBounds_toArray, List.set_cons_zero, List.set_cons_succ, List.getElem_toArray, List.getElem_cons_succ, List.getElem_cons_zero]
          refine wpAnyH_ready (rs := [6]) (by kernel_rfl) (by simp) ?_
          refine AllReadyH.cons rfl (fun K hK => ?_) AllReadyH.nil
          obtain ⟨y0, y1, y2⟩ := blk3 o1.out
          have f0 := o1.out.free 0
          have f1 := o1.out.free 1
          have f2 := o1.out.free 2
          go_simp
          have bw := Lib.hid (below_set3 (b := v104.heap.size) (u0 := .slice w1n.A w1n.s.length w1n.ca) (u1 := .slice w1n.B w1n.m.length w1n.cb) (u2 := .int .i64 jc) bw.out (by have szc_ := szc.out; have sz101_ := sz101.out; have sz102_ := sz102.out; have sz103_ := sz103.out; have sz104_ := sz104.out; have sz105_ := sz105.out; have sz106_ := sz106.out; omega))
          have bx := Lib.hid (blk_off3 (b := v104.heap.size) (u0 := .slice w1n.A w1n.s.length w1n.ca) (u1 := .slice w1n.B w1n.m.length w1n.cb) (u2 := .int .i64 jc) bx.out (by have szc_ := szc.out; have sz101_ := sz101.out; have sz102_ := sz102.out; have sz103_ := sz103.out; have sz104_ := sz104.out; have sz105_ := sz105.out; have sz106_ := sz106.out; omega))
          have br := Lib.hid (blk_off3 (b := v104.heap.size) (u0 := .slice w1n.A w1n.s.length w1n.ca) (u1 := .slice w1n.B w1n.m.length w1n.cb) (u2 := .int .i64 jc) br.out (by have szc_ := szc.out; have sz101_ := sz101.out; have sz102_ := sz102.out; have sz103_ := sz103.out; have sz104_ := sz104.out; have sz105_ := sz105.out; have sz106_ := sz106.out; omega))
          have o0 := Lib.hid (blk_off3 (b := v104.heap.size) (u0 := .slice w1n.A w1n.s.length w1n.ca) (u1 := .slice w1n.B w1n.m.length w1n.cb) (u2 := .int .i64 jc) o0.out (by have szc_ := szc.out; have sz101_ := sz101.out; have sz102_ := sz102.out; have sz103_ := sz103.out; have sz104_ := sz104.out; have sz105_ := sz105.out; have sz106_ := sz106.out; omega))
          have w0 := Lib.hid (heldN_set3 (u0 := .slice w1n.A w1n.s.length w1n.ca) (u1 := .slice w1n.B w1n.m.length w1n.cb) (u2 := .int .i64 jc) w0.out o1.out)
          have x0 := Lib.hid (heldN_set3 (u0 := .slice w1n.A w1n.s.length w1n.ca) (u1 := .slice w1n.B w1n.m.length w1n.cb) (u2 := .int .i64 jc) x0.out o1.out)
          have b0 := Lib.hid (blk_off3 (b := v104.heap.size) (u0 := .slice w1n.A w1n.s.length w1n.ca) (u1 := .slice w1n.B w1n.m.length w1n.cb) (u2 := .int .i64 jc) b0.out (by have szc_ := szc.out; have sz101_ := sz101.out; have sz102_ := sz102.out; have sz103_ := sz103.out; have sz104_ := sz104.out; have sz105_ := sz105.out; have sz106_ := sz106.out; omega))
          have w1 := Lib.hid (heldN_set3 (u0 := .slice w1n.A w1n.s.length w1n.ca) (u1 := .slice w1n.B w1n.m.length w1n.cb) (u2 := .int .i64 jc) w1.out o1.out)
          have o1 := Lib.hid (blk_set3 (u0 := .slice w1n.A w1n.s.length w1n.ca) (u1 := .slice w1n.B w1n.m.length w1n.cb) (u2 := .int .i64 jc) o1.out)
          clear y0 y1 y2 f0 f1 f2
          refine hK.out _ _ ?_ (fun hHeld => ?_)
          · exact ⟨b0.out, br.out⟩
          clear hK K
          try simp only [Act.put, List.setIfInBounds_toArray, List.set_cons_zero, List.set_cons_succ, List.getElem_toArray, List.getElem_cons_succ, List.getElem_cons_zero]
          refine wpAnyH_done (by kernel_rfl) ?_ _
          go_wp2_with fail
          go_meet
          exact ⟨_, _, _, _, rfl, o1, w1, w1P, Lib.hid (by have szc_ := szc.out; have sz101_ := sz101.out; have sz102_ := sz102.out; have sz103_ := sz103.out; have sz104_ := sz104.out; have sz105_ := sz105.out; have sz106_ := sz106.out; simp only [World.size_setCell]; have := o1.out.lt; simp only [World.size_setCell] at this; omega), bx, br, bw, b0, x0, o0, w0⟩
      · go_simp
        have bw := Lib.hid (bw.out.alloc bw.out.size (Obj.cells #[Value.slice none 0 0, Value.slice none 0 0, Value.int IntKind.i64 0] 37))
        have bx := Lib.hid (bx.out.alloc (Obj.cells #[Value.slice none 0 0, Value.slice none 0 0, Value.int IntKind.i64 0] 37))
        have br := Lib.hid (br.out.alloc (Obj.cells #[Value.slice none 0 0, Value.slice none 0 0, Value.int IntKind.i64 0] 37))
        have o0 := Lib.hid (o0.out.alloc (Obj.cells #[Value.slice none 0 0, Value.slice none 0 0, Value.int IntKind.i64 0] 37))
        have w0 := Lib.hid (w0.out.step ((Below.refl _ v103).alloc (Nat.le_refl _) (Obj.cells #[Value.slice none 0 0, Value.slice none 0 0, Value.int IntKind.i64 0] 37)) (.inr (Nat.le_refl _)))
        have x0 := Lib.hid (x0.out.step ((Below.refl _ v103).alloc (Nat.le_refl _) (Obj.cells #[Value.slice none 0 0, Value.slice none 0 0, Value.int IntKind.i64 0] 37)) (.inr (Nat.le_refl _)))
        have b0 := Lib.hid (b0.out.alloc (Obj.cells #[Value.slice none 0 0, Value.slice none 0 0, Value.int IntKind.i64 0] 37))
        have o1 := Lib.hid (show Blk (World.alloc v103 (Obj.cells #[Value.slice none 0 0, Value.slice none 0 0, Value.int IntKind.i64 0] 37)) v103.heap.size 37 #[Value.slice none 0 0, Value.slice none 0 0, Value.int IntKind.i64 0] from Blk.new v103 37 #[Value.slice none 0 0, Value.slice none 0 0, Value.int IntKind.i64 0])
        have sz104 := Lib.hid (show v103.heap.size + 1 = (World.alloc v103 (Obj.cells #[Value.slice none 0 0, Value.slice none 0 0, Value.int IntKind.i64 0] 37)).heap.size by simp)
        generalize World.alloc v103 _ = v104 at bw bx br o0 w0 x0 b0 o1 sz104 ⊢
        refine hK.out _ _ ?_ (fun hHeld => ?_)
        · exact ⟨b0.out, br.out⟩
        clear hK K
        try simp only [Act.put, List.setIfInBounds_toArray, List.set_cons_zero, List.set_cons_succ, List.getElem_toArray, List.getElem_cons_succ, List.getElem_cons_zero]
        refine wpAnyH_ready (rs := [3]) (by kernel_rfl) (by simp) ?_
        refine AllReadyH.cons rfl (fun K hK => ?_) AllReadyH.nil
        go_simp
        refine (Sto.toRow_any x _).mono ?_
        rintro e v105 ⟨rfl, hb⟩
        have bw := Lib.hid (bw.out.trans (hb.mono bw.out.size))
        have bx := Lib.hid (bx.out.on hb)
        have br := Lib.hid (br.out.on hb)
        have o0 := Lib.hid (o0.out.on hb)
        have w0 := Lib.hid (w0.out.step hb (.inr (Nat.le_refl _)))
        have x0 := Lib.hid (x0.out.step hb (.inr (Nat.le_refl _)))
        have b0 := Lib.hid (b0.out.on hb)
        have o1 := Lib.hid (o1.out.on hb)
        have sz105 := Lib.hid (show v104.heap.size ≤ v105.heap.size from hb.size)
        clear hb
        unfold R.val
        refine hK.out _ _ ?_ (fun hHeld => ?_)
        · exact ⟨b0.out, br.out⟩
        clear hK K
        try simp only [Act.put, List.setIfInBounds_toArray, List.set_cons_zero, List.set_cons_succ, List.getElem_toArray, List.getElem_cons_succ, List.getElem_cons_zero]
        refine wpAnyH_ready (rs := [4]) (by kernel_rfl) (by simp) ?_
        refine AllReadyH.cons rfl (fun K hK => ?_) AllReadyH.nil
        go_simp
        refine (implNetPut_any x0n i x _ (x0.out.lies (by have szc_ := szc.out; have sz101_ := sz101.out; have sz102_ := sz102.out; have sz103_ := sz103.out; have sz104_ := sz104.out; have sz105_ := sz105.out; omega)) (little_pl x0P.out HS.out) HQ.out).mono ?_
        rintro e v106 hans
        rw [x0P.out, HCF.out, HPF.out] at hans
        obtain ⟨w1n, rfl, w1p, hh, hb⟩ := hans
        have w1P := Lib.hid w1p
        clear w1p
        unfold Nt.out
        have bw := Lib.hid (bw.out.trans (hb.mono bw.out.size))
        have bx := Lib.hid (bx.out.on hb)
        have br := Lib.hid (br.out.on hb)
        have o0 := Lib.hid (o0.out.on hb)
        have w0 := Lib.hid (w0.out.step hb (.inr (Nat.le_refl _)))
        have x0 := Lib.hid (x0.out.step hb (.inr (Nat.le_refl _)))
        have b0 := Lib.hid (b0.out.on hb)
        have o1 := Lib.hid (o1.out.on hb)
        have sz106 := Lib.hid (show v105.heap.size ≤ v106.heap.size from hb.size)
        have w1 := Lib.hid (show HeldN v106 w1n v105.heap.size v106.heap.size from hh)
        clear hb
        clear hh
        refine hK.out _ _ ?_ (fun hHeld => ?_)
        · exact ⟨b0.out, br.out⟩
        clear hK K
        try simp only [Act.put, List.setIfInBounds_toArray, List.set_cons_zero, List.set_cons_succ, List.getElem_toArray, List.getElem_cons_succ, List.getElem_cons_zero]
        refine wpAnyH_ready (rs := [6]) (by kernel_rfl) (by simp) ?_
        refine AllReadyH.cons rfl (fun K hK => ?_) AllReadyH.nil
        obtain ⟨y0, y1, y2⟩ := blk3 o1.out
        have f0 := o1.out.free 0
        have f1 := o1.out.free 1
        have f2 := o1.out.free 2
        go_simp
        have bw := Lib.hid (below_set3 (b := v103.heap.size) (u0 := .slice w1n.A w1n.s.length w1n.ca) (u1 := .slice w1n.B w1n.m.length w1n.cb) (u2 := .int .i64 jc) bw.out (by have szc_ := szc.out; have sz101_ := sz101.out; have sz102_ := sz102.out; have sz103_ := sz103.out; have sz104_ := sz104.out; have sz105_ := sz105.out; have sz106_ := sz106.out; omega))
        have bx := Lib.hid (blk_off3 (b := v103.heap.size) (u0 := .slice w1n.A w1n.s.length w1n.ca) (u1 := .slice w1n.B w1n.m.length w1n.cb) (u2 := .int .i64 jc) bx.out (by have szc_ := szc.out; have sz101_ := sz101.out; have sz102_ := sz102.out; have sz103_ := sz103.out; have sz104_ := sz104.out; have sz105_ := sz105.out; have sz106_ := sz106.out; omega))
        have br := Lib.hid (blk_off3 (b := v103.heap.size) (u0 := .slice w1n.A w1n.s.length w1n.ca) (u1 := .slice w1n.B w1n.m.length w1n.cb) (u2 := .int .i64 jc) br.out (by have szc_ := szc.out; have sz101_ := sz101.out; have sz102_ := sz102.out; have sz103_ := sz103.out; have sz104_ := sz104.out; have sz105_ := sz105.out; have sz106_ := sz106.out; omega))
        have o0 := Lib.hid (blk_off3 (b := v103.heap.size) (u0 := .slice w1n.A w1n.s.length w1n.ca) (u1 := .slice w1n.B w1n.m.length w1n.cb) (u2 := .int .i64 jc) o0.out (by have szc_ := szc.out; have sz101_ := sz101.out; have sz102_ := sz102.out; have sz103_ := sz103.out; have sz104_ := sz104.out; have sz105_ := sz105.out; have sz106_ := sz106.out; omega))
        have w0 := Lib.hid (heldN_set3 (u0 := .slice w1n.A w1n.s.length w1n.ca) (u1 := .slice w1n.B w1n.m.length w1n.cb) (u2 := .int .i64 jc) w0.out o1.out)
        have x0 := Lib.hid (heldN_set3 (u0 := .slice w1n.A w1n.s.length w1n.ca) (u1 := .slice w1n.B w1n.m.length w1n.cb) (u2 := .int .i64 jc) x0.out o1.out)
        have b0 := Lib.hid (blk_off3 (b := v103.heap.size) (u0 := .slice w1n.A w1n.s.length w1n.ca) (u1 := .slice w1n.B w1n.m.length w1n.cb) (u2 := .int .i64 jc) b0.out (by have szc_ := szc.out; have sz101_ := sz101.out; have sz102_ := sz102.out; have sz103_ := sz103.out; have sz104_ := sz104.out; have sz105_ := sz105.out; have sz106_ := sz106.out; omega))
        have w1 := Lib.hid (heldN_set3 (u0 := .slice w1n.A w1n.s.length w1n.ca) (u1 := .slice w1n.B w1n.m.length w1n.cb) (u2 := .int .i64 jc) w1.out o1.out)
        have o1 := Lib.hid (blk_set3 (u0 := .slice w1n.A w1n.s.length w1n.ca) (u1 := .slice w1n.B w1n.m.length w1n.cb) (u2 := .int .i64 jc) o1.out)
        clear y0 y1 y2 f0 f1 f2
        refine hK.out _ _ ?_ (fun hHeld => ?_)
        · exact ⟨b0.out, br.out⟩
        clear hK K
        try simp only [Act.put, List.setIfInBounds_toArray, List.set_cons_zero, List.set_cons_succ, List.getElem_toArray, List.getElem_cons_succ, List.getElem_cons_zero]
        refine wpAnyH_done (by kernel_rfl) ?_ _
        go_wp2_with fail
        go_meet
        exact ⟨_, _, _, _, rfl, o1, w1, w1P, Lib.hid (by have szc_ := szc.out; have sz101_ := sz101.out; have sz102_ := sz102.out; have sz103_ := sz103.out; have sz104_ := sz104.out; have sz105_ := sz105.out; have sz106_ := sz106.out; simp only [World.size_setCell]; have := o1.out.lt; simp only [World.size_setCell] at this; omega), bx, br, bw, b0, x0, o0, w0⟩
    case rest =>
      rename World => wd
      obtain ⟨b1, w1n, lo1, hi1, rfl, o1, w1, w1P, szd, bx, br, bw, b0, x0, o0, w0⟩ := hcut
      have w1F := Lib.hid (fewA_of w1P.out HSM.out)
      obtain ⟨o1c0, o1c1, o1c2⟩ := blk3 o1.out
      obtain ⟨o0c0, o0c1, o0c2⟩ := blk3 o0.out
      go_wp2_with fail
      clear o1c0 o1c1 o1c2 o0c0 o0c1 o0c2
      refine (eqNetOut_same w1n w0n jc _ (w1.out.lies (by have szc_ := szc.out; have sz101_ := sz101.out; have sz102_ := sz102.out; have szd_ := szd.out; omega)) (w0.out.lies (by have szc_ := szc.out; have sz101_ := sz101.out; have sz102_ := sz102.out; have szd_ := szd.out; omega)) (w1P.out.trans w0P.out.symm) w1F.out.1).mono ?_
      rintro e v201 ⟨rfl, hb⟩
      have bw := Lib.hid (bw.out.trans (hb.mono bw.out.size))
      have bx := Lib.hid (bx.out.on hb)
      have br := Lib.hid (br.out.on hb)
      have o0 := Lib.hid (o0.out.on hb)
      have w0 := Lib.hid (w0.out.step hb (.inr (Nat.le_refl _)))
      have b0 := Lib.hid (b0.out.on hb)
      have x0 := Lib.hid (x0.out.step hb (.inr (Nat.le_refl _)))
      have o1 := Lib.hid (o1.out.on hb)
      have w1 := Lib.hid (w1.out.step hb (.inr (Nat.le_refl _)))
      have sz201 := Lib.hid (show wd.heap.size ≤ v201.heap.size from hb.size)
      clear hb
      go_wp2_with fail
      refine wp_region_held_drew (S := (fun W => (Below w.heap.size w W) ∧ (Blk W w.heap.size 25 #[Value.slice n.A n.s.length n.ca, Value.slice n.B n.m.length n.cb]) ∧ (Blk W (w.heap.size + 1) 29 #[Value.string x.k, Value.int IntKind.i64 x.i.c, Value.int IntKind.i64 x.i.s, Value.int IntKind.i64 x.i.e, Value.string x.b]) ∧ (Blk W b 37 #[Value.slice w0n.A w0n.s.length w0n.ca, Value.slice w0n.B w0n.m.length w0n.cb, Value.int IntKind.i64 jc]) ∧ (HeldN W w0n lo0 hi0) ∧ (Blk W v101.heap.size 35 #[Value.slice x0n.A x0n.s.length x0n.ca, Value.slice x0n.B x0n.m.length x0n.cb]) ∧ (HeldN W x0n wb.heap.size v101.heap.size) ∧ (Blk W b1 37 #[Value.slice w1n.A w1n.s.length w1n.ca, Value.slice w1n.B w1n.m.length w1n.cb, Value.int IntKind.i64 jc]) ∧ (HeldN W w1n lo1 hi1))) (by kernel_rfl) ?_ (fun hHeld => ?_)
      · exact ⟨bw.out.drew, bx.out, br.out, o0.out, w0.out.drew, b0.out, x0.out.drew, o1.out, w1.out.drew⟩
      refine wpAnyH_take (i := 0) (v := ?_) rfl (by kernel_rfl) (by kernel_rfl) (by kernel_rfl) (fun _ _ _ h => h) (Or.inl ⟨by rfl, ?_⟩) hHeld ?_
      rotate_left
      · intro W hSw
        obtain ⟨q_bw, q_bx, q_br, q_o0, q_w0, q_b0, q_x0, q_o1, q_w1⟩ := hSw
        obtain ⟨hbx0, hbx1⟩ := blk2 q_bx
        obtain ⟨hb00, hb01⟩ := blk2 q_b0
        go_simp
        try with_reducible rfl
      try simp only [Act.put, List.setIfInBounds_toArray, List.set_cons_zero, List.set_cons_succ, List.getElem_toArray, List.getElem_cons_zero]
      refine wpAnyH_take (i := 1) (v := ?_) rfl (by kernel_rfl) (by kernel_rfl) (by kernel_rfl) (fun _ _ _ h => h) (Or.inl ⟨by rfl, ?_⟩) hHeld ?_
      rotate_left
      · intro W hSw
        obtain ⟨q_bw, q_bx, q_br, q_o0, q_w0, q_b0, q_x0, q_o1, q_w1⟩ := hSw
        obtain ⟨hbx0, hbx1⟩ := blk2 q_bx
        obtain ⟨hb00, hb01⟩ := blk2 q_b0
        go_simp
        try with_reducible rfl
      try simp only [Act.put, List.setIfInBounds_toArray, List.set_cons_zero, List.set_cons_succ, List.getElem_toArray, List.getElem_cons_succ, List.getElem_cons_zero]
      refine wpAnyH_ready (rs := [2]) (by kernel_rfl) (by simp) ?_
      refine AllReadyH.cons rfl (fun K hK => ?_) AllReadyH.nil
      go_simp
      refine (toNet_any n _ (H.out.on hHeld.1) hs1 hs2 HL.out).mono ?_
      rintro e v202 ⟨t1n, rfl, t1p, t1h, hb⟩
      have sz202 := Lib.hid (show v201.heap.size ≤ v202.heap.size from hb.size)
      have t1P := Lib.hid t1p
      clear t1p
      unfold Nt.val
      have t1 := Lib.hid (show HeldN v202 t1n v201.heap.size v202.heap.size from t1h)
      clear t1h
      refine hK.out _ _ ?_ (fun hHeld => ?_)
      · first | exact ⟨hHeld.1.trans (hb.mono hHeld.1.size), hHeld.2.1.on hb, hHeld.2.2.1.on hb, hHeld.2.2.2.1.on hb, hHeld.2.2.2.2.1.step hb (.inr (Nat.le_refl _)), hHeld.2.2.2.2.2.1.on hb, hHeld.2.2.2.2.2.2.1.step hb (.inr (Nat.le_refl _)), hHeld.2.2.2.2.2.2.2.1.on hb, hHeld.2.2.2.2.2.2.2.2.step hb (.inr (Nat.le_refl _))⟩ | assumption
      clear hK K
      try simp only [Act.put, List.setIfInBounds_toArray, List.set_cons_zero, List.set_cons_succ, List.getElem_toArray, List.getElem_cons_succ, List.getElem_cons_zero]
      refine wpAnyH_ready (rs := [3]) (by kernel_rfl) (by simp) ?_
      refine AllReadyH.cons rfl (fun K hK => ?_) AllReadyH.nil
      go_simp
      refine (eqNet_same x0n t1n _ (hHeld.2.2.2.2.2.2.1.lies (by have szc_ := szc.out; have sz101_ := sz101.out; have sz102_ := sz102.out; have szd_ := szd.out; have sz201_ := sz201.out; have sz202_ := sz202.out; omega)) (t1.out.lies (by have szc_ := szc.out; have sz101_ := sz101.out; have sz102_ := sz102.out; have szd_ := szd.out; have sz201_ := sz201.out; have sz202_ := sz202.out; omega)) (x0P.out.trans t1P.out.symm) x0F.out.1).mono ?_
      rintro e v203 ⟨rfl, hb⟩
      have sz203 := Lib.hid (show v202.heap.size ≤ v203.heap.size from hb.size)
      have t1 := Lib.hid (t1.out.step hb (.inr (Nat.le_refl _)))
      refine hK.out _ _ ?_ (fun hHeld => ?_)
      · first | exact ⟨hHeld.1.trans (hb.mono hHeld.1.size), hHeld.2.1.on hb, hHeld.2.2.1.on hb, hHeld.2.2.2.1.on hb, hHeld.2.2.2.2.1.step hb (.inr (Nat.le_refl _)), hHeld.2.2.2.2.2.1.on hb, hHeld.2.2.2.2.2.2.1.step hb (.inr (Nat.le_refl _)), hHeld.2.2.2.2.2.2.2.1.on hb, hHeld.2.2.2.2.2.2.2.2.step hb (.inr (Nat.le_refl _))⟩ | assumption
      clear hK K
      try simp only [Act.put, List.setIfInBounds_toArray, List.set_cons_zero, List.set_cons_succ, List.getElem_toArray, List.getElem_cons_succ, List.getElem_cons_zero]
      refine wpAnyH_take (i := 4) (v := ?_) rfl (by kernel_rfl) (by kernel_rfl) (by kernel_rfl) (fun _ _ _ h => h) (Or.inl ⟨by rfl, ?_⟩) hHeld ?_
      rotate_left
      · intro W hSw
        obtain ⟨q_bw, q_bx, q_br, q_o0, q_w0, q_b0, q_x0, q_o1, q_w1⟩ := hSw
        obtain ⟨hbx0, hbx1⟩ := blk2 q_bx
        obtain ⟨hb00, hb01⟩ := blk2 q_b0
        go_simp
        try with_reducible rfl
      try simp only [Act.put, List.setIfInBounds_toArray, List.set_cons_zero, List.set_cons_succ, List.getElem_toArray, List.getElem_cons_succ, List.getElem_cons_zero]
      refine wpAnyH_done (by kernel_rfl) ?_ _
      obtain ⟨bw_, bx_, br_, o0_, w0_, b0_, x0_, o1_, w1_⟩ := hHeld
      have bw := Lib.hid bw_
      have bx := Lib.hid bx_
      have br := Lib.hid br_
      have o0 := Lib.hid o0_
      have w0 := Lib.hid w0_
      have b0 := Lib.hid b0_
      have x0 := Lib.hid x0_
      have o1 := Lib.hid o1_
      have w1 := Lib.hid w1_
      clear bw_ bx_ br_ o0_ w0_ b0_ x0_ o1_ w1_
      clear t1 t1P
      obtain ⟨b0c0, b0c1⟩ := blk2 b0.out
      go_wp2_with fail
      clear b0c0 b0c1
      refine (markNet_any x0n 1 _ _ _ x0.out (by have szc_ := szc.out; have sz101_ := sz101.out; have sz102_ := sz102.out; have szd_ := szd.out; have sz201_ := sz201.out; have sz202_ := sz202.out; have sz203_ := sz203.out; omega) x0F.out.2).mono ?_
      rintro e v204 ⟨rfl, hh, ht⟩
      have bw := Lib.hid (ht.below bw.out (by have szc_ := szc.out; have sz101_ := sz101.out; have sz102_ := sz102.out; have szd_ := szd.out; have sz201_ := sz201.out; have sz202_ := sz202.out; have sz203_ := sz203.out; omega))
      have bx := Lib.hid (ht.blk bx.out (by decide) (by decide))
      have br := Lib.hid (ht.blk br.out (by decide) (by decide))
      have o0 := Lib.hid (ht.blk o0.out (by decide) (by decide))
      have w0 := Lib.hid (ht.heldN w0.out (by have szc_ := szc.out; have sz101_ := sz101.out; have sz102_ := sz102.out; have szd_ := szd.out; have sz201_ := sz201.out; have sz202_ := sz202.out; have sz203_ := sz203.out; omega))
      have b0 := Lib.hid (ht.blk b0.out (by decide) (by decide))
      have x0 := Lib.hid (show HeldN v204 (mkN 1 x0n) wb.heap.size v101.heap.size from hh)
      have o1 := Lib.hid (ht.blk o1.out (by decide) (by decide))
      have w1 := Lib.hid (ht.heldN w1.out (by have szc_ := szc.out; have sz101_ := sz101.out; have sz102_ := sz102.out; have szd_ := szd.out; have sz201_ := sz201.out; have sz202_ := sz202.out; have sz203_ := sz203.out; omega))
      have sz204 := Lib.hid (show v203.heap.size ≤ v204.heap.size from ht.size)
      clear hh ht
      have hkx : ¬ ((kN 1 x0n : Nat) : Int) < 0 := by omega
      obtain ⟨zx, hzx⟩ : ∃ z : Nat, kN 1 x0n = z := ⟨_, rfl⟩
      rw [hzx] at hkx ⊢
      clear hzx
      clear x0
      obtain ⟨o1c0, o1c1, o1c2⟩ := blk3 o1.out
      obtain ⟨o0c0, o0c1, o0c2⟩ := blk3 o0.out
      go_wp2_with fail
      clear o1c0 o1c1 o1c2 o0c0 o0c1 o0c2
      refine (eqNetOut_same w1n w0n jc _ (w1.out.lies (by have szc_ := szc.out; have sz101_ := sz101.out; have sz102_ := sz102.out; have szd_ := szd.out; have sz201_ := sz201.out; have sz202_ := sz202.out; have sz203_ := sz203.out; have sz204_ := sz204.out; omega)) (w0.out.lies (by have szc_ := szc.out; have sz101_ := sz101.out; have sz102_ := sz102.out; have szd_ := szd.out; have sz201_ := sz201.out; have sz202_ := sz202.out; have sz203_ := sz203.out; have sz204_ := sz204.out; omega)) (w1P.out.trans w0P.out.symm) w1F.out.1).mono ?_
      rintro e v205 ⟨rfl, hb⟩
      have bw := Lib.hid (bw.out.trans (hb.mono bw.out.size))
      have bx := Lib.hid (bx.out.on hb)
      have br := Lib.hid (br.out.on hb)
      have o0 := Lib.hid (o0.out.on hb)
      have w0 := Lib.hid (w0.out.step hb (.inr (Nat.le_refl _)))
      have b0 := Lib.hid (b0.out.on hb)
      have o1 := Lib.hid (o1.out.on hb)
      have w1 := Lib.hid (w1.out.step hb (.inr (Nat.le_refl _)))
      have sz205 := Lib.hid (show v204.heap.size ≤ v205.heap.size from hb.size)
      clear hb
      obtain ⟨o1c0, o1c1, o1c2⟩ := blk3 o1.out
      go_wp2_with fail
      clear o1c0 o1c1 o1c2
      refine (markNetOut_any w1n jc 1 _ _ _ w1.out (by have szc_ := szc.out; have sz101_ := sz101.out; have sz102_ := sz102.out; have szd_ := szd.out; have sz201_ := sz201.out; have sz202_ := sz202.out; have sz203_ := sz203.out; have sz204_ := sz204.out; have sz205_ := sz205.out; omega) w1F.out.2).mono ?_
      rintro e v206 ⟨rfl, hh, ht⟩
      have bw := Lib.hid (ht.below bw.out (by have szc_ := szc.out; have sz101_ := sz101.out; have sz102_ := sz102.out; have szd_ := szd.out; have sz201_ := sz201.out; have sz202_ := sz202.out; have sz203_ := sz203.out; have sz204_ := sz204.out; have sz205_ := sz205.out; omega))
      have bx := Lib.hid (ht.blk bx.out (by decide) (by decide))
      have br := Lib.hid (ht.blk br.out (by decide) (by decide))
      have o0 := Lib.hid (ht.blk o0.out (by decide) (by decide))
      have w0 := Lib.hid (ht.heldN w0.out (by have szc_ := szc.out; have sz101_ := sz101.out; have sz102_ := sz102.out; have szd_ := szd.out; have sz201_ := sz201.out; have sz202_ := sz202.out; have sz203_ := sz203.out; have sz204_ := sz204.out; have sz205_ := sz205.out; omega))
      have b0 := Lib.hid (ht.blk b0.out (by decide) (by decide))
      have o1 := Lib.hid (ht.blk o1.out (by decide) (by decide))
      have w1 := Lib.hid (show HeldN v206 (mkN 1 w1n) lo1 hi1 from hh)
      have sz206 := Lib.hid (show v205.heap.size ≤ v206.heap.size from ht.size)
      clear hh ht
      have hk3 : ¬ ((kN 1 w1n : Nat) : Int) < 0 := by omega
      obtain ⟨z1, hz1⟩ : ∃ z : Nat, kN 1 w1n = z := ⟨_, rfl⟩
      have HZ1 := Lib.hid hz1
      rw [hz1] at hk3 ⊢
      have hze : ((z1 : Int) != (z1 : Int)) = false := by simp
      clear hz1
      obtain ⟨o1c0, o1c1, o1c2⟩ := blk3 o1.out
      go_wp2_with fail
      clear o1c0 o1c1 o1c2
      refine (heldNetOut_any w1n jc 1 _ (w1.out.lies (by have szc_ := szc.out; have sz101_ := sz101.out; have sz102_ := sz102.out; have szd_ := szd.out; have sz201_ := sz201.out; have sz202_ := sz202.out; have sz203_ := sz203.out; have sz204_ := sz204.out; have sz205_ := sz205.out; have sz206_ := sz206.out; omega)) w1F.out.2).mono ?_
      rintro e v207 ⟨rfl, hb⟩
      have bw := Lib.hid (bw.out.trans (hb.mono bw.out.size))
      have bx := Lib.hid (bx.out.on hb)
      have br := Lib.hid (br.out.on hb)
      have o0 := Lib.hid (o0.out.on hb)
      have w0 := Lib.hid (w0.out.step hb (.inr (Nat.le_refl _)))
      have b0 := Lib.hid (b0.out.on hb)
      have o1 := Lib.hid (o1.out.on hb)
      have w1 := Lib.hid (w1.out.step hb (.inr (Nat.le_refl _)))
      have sz207 := Lib.hid (show v206.heap.size ≤ v207.heap.size from hb.size)
      clear hb
      rw [HZ1.out]
      go_upto_region 27 with fail
      go_cut [14] (fun s14 wx => ∃ (b2 : Nat) (w2n : Nt) (lo2 hi2 : Nat), s14 = .pointer (some ⟨b2, 0, none⟩) ∧ Hid (Blk wx b2 37 #[Value.slice w2n.A w2n.s.length w2n.ca, Value.slice w2n.B w2n.m.length w2n.cb, Value.int IntKind.i64 jc]) ∧ Hid (HeldN wx w2n lo2 hi2) ∧ Hid (pl w2n = jp) ∧ Hid (hi2 ≤ wx.heap.size ∧ hi0 ≤ wx.heap.size ∧ hi1 ≤ wx.heap.size) ∧ Hid (Below w.heap.size w wx) ∧ Hid (Blk wx b 37 #[Value.slice w0n.A w0n.s.length w0n.ca, Value.slice w0n.B w0n.m.length w0n.cb, Value.int IntKind.i64 jc]) ∧ Hid (HeldN wx w0n lo0 hi0) ∧ Hid (Blk wx b1 37 #[Value.slice w1n.A w1n.s.length w1n.ca, Value.slice w1n.B w1n.m.length w1n.cb, Value.int IntKind.i64 jc]) ∧ Hid (HeldN wx (mkN 1 w1n) lo1 hi1))
      case first =>
        refine wp_region_held_drew (S := (fun V => Blk V w.heap.size 25 #[Value.slice n.A n.s.length n.ca, Value.slice n.B n.m.length n.cb] ∧ Blk V (w.heap.size + 1) 29 #[Value.string x.k, Value.int IntKind.i64 x.i.c, Value.int IntKind.i64 x.i.s, Value.int IntKind.i64 x.i.e, Value.string x.b])) (by kernel_rfl) ?_ (fun hHeld => ?_)
        · exact ⟨bx.out, br.out⟩
        have hb := (Below.refl v207.heap.size v207).drew
        have bw := Lib.hid (bw.out.trans (hb.mono bw.out.size))
        have bx := Lib.hid (bx.out.on hb)
        have br := Lib.hid (br.out.on hb)
        have o0 := Lib.hid (o0.out.on hb)
        have w0 := Lib.hid (w0.out.step hb (.inr (Nat.le_refl _)))
        have b0 := Lib.hid (b0.out.on hb)
        have o1 := Lib.hid (o1.out.on hb)
        have w1 := Lib.hid (w1.out.step hb (.inr (Nat.le_refl _)))
        have sz208 := Lib.hid (show v207.heap.size ≤ (World.drew v207).heap.size from hb.size)
        clear hb
        generalize World.drew v207 = v208 at hHeld bw bx br o0 w0 b0 o1 w1 sz208 ⊢
        refine wpAnyH_take (i := 0) (v := ?_) rfl (by kernel_rfl) (by kernel_rfl) (by kernel_rfl) (fun _ _ _ h => h) (Or.inl ⟨by rfl, ?_⟩) hHeld ?_
        rotate_left
        · intro V hSw
          obtain ⟨hs0, hs1⟩ := blk2 hSw.1
          go_simp
          try with_reducible rfl
        try simp only [Act.put, List.setIfInBounds_toArray, List.set_cons_zero, List.set_cons_succ, List.getElem_toArray, List.getElem_cons_succ, List.getElem_cons_zero]
        refine wpAnyH_take (i := 2) (v := ?_) rfl (by kernel_rfl) (by kernel_rfl) (by kernel_rfl) (fun _ _ _ h => h) (Or.inl ⟨by rfl, ?_⟩) hHeld ?_
        rotate_left
        · intro V hSw
          go_simp
          try with_reducible rfl
        try simp only [Act.put, List.setIfInBounds_toArray, List.set_cons_zero, List.set_cons_succ, List.getElem_toArray, List.getElem_cons_succ, List.getElem_cons_zero]
        refine wpAnyH_take (i := 3) (v := ?_) rfl (by kernel_rfl) (by kernel_rfl) (by kernel_rfl) (fun _ _ _ h => h) (Or.inl ⟨by rfl, ?_⟩) hHeld ?_
        rotate_left
        · intro V hSw
          obtain ⟨hs0, hs1, hs2, hs3, hs4⟩ := blk5 hSw.2
          go_simp
          try with_reducible rfl
        try simp only [Act.put, List.setIfInBounds_toArray, List.set_cons_zero, List.set_cons_succ, List.getElem_toArray, List.getElem_cons_succ, List.getElem_cons_zero]
        refine wpAnyH_ready (rs := [1, 6]) (by kernel_rfl) (by simp) ?_
        refine AllReadyH.cons rfl (fun K hK => ?_) (AllReadyH.cons rfl (fun K hK => ?_) AllReadyH.nil)
        · go_simp
          refine (toNet_any n _ (H.out.on bw.out) hs1 hs2 HL.out).mono ?_
          rintro e v209 ⟨t2n, rfl, t2p, t2h, hb⟩
          have t2P := Lib.hid t2p
          clear t2p
          unfold Nt.val
          have bw := Lib.hid (bw.out.trans (hb.mono bw.out.size))
          have bx := Lib.hid (bx.out.on hb)
          have br := Lib.hid (br.out.on hb)
          have o0 := Lib.hid (o0.out.on hb)
          have w0 := Lib.hid (w0.out.step hb (.inr (Nat.le_refl _)))
          have b0 := Lib.hid (b0.out.on hb)
          have o1 := Lib.hid (o1.out.on hb)
          have w1 := Lib.hid (w1.out.step hb (.inr (Nat.le_refl _)))
          have sz209 := Lib.hid (show v208.heap.size ≤ v209.heap.size from hb.size)
          have t2 := Lib.hid (show HeldN v209 t2n v208.heap.size v209.heap.size from t2h)
          clear hb
          clear t2h
          refine hK.out _ _ ?_ (fun hHeld => ?_)
          · exact ⟨bx.out, br.out⟩
          clear hK K
          try simp only [Act.put, List.setIfInBounds_toArray, List.set_cons_zero, List.set_cons_succ, List.getElem_toArray, List.getElem_cons_succ, List.getElem_cons_zero]
          refine wpAnyH_ready (rs := [4, 6]) (by kernel_rfl) (by simp) ?_
          refine AllReadyH.cons rfl (fun K hK => ?_) (AllReadyH.cons rfl (fun K hK => ?_) AllReadyH.nil)
          · go_simp
            refine (Sto.toRow_any x _).mono ?_
            rintro e v210 ⟨rfl, hb⟩
            have bw := Lib.hid (bw.out.trans (hb.mono bw.out.size))
            have bx := Lib.hid (bx.out.on hb)
            have br := Lib.hid (br.out.on hb)
            have o0 := Lib.hid (o0.out.on hb)
            have w0 := Lib.hid (w0.out.step hb (.inr (Nat.le_refl _)))
            have b0 := Lib.hid (b0.out.on hb)
            have o1 := Lib.hid (o1.out.on hb)
            have w1 := Lib.hid (w1.out.step hb (.inr (Nat.le_refl _)))
            have t2 := Lib.hid (t2.out.step hb (.inr (Nat.le_refl _)))
            have sz210 := Lib.hid (show v209.heap.size ≤ v210.heap.size from hb.size)
            clear hb
            unfold R.val
            refine hK.out _ _ ?_ (fun hHeld => ?_)
            · exact ⟨bx.out, br.out⟩
            clear hK K
            try simp only [Act.put, List.setIfInBounds_toArray, List.set_cons_zero, List.set_cons_succ, List.getElem_toArray, List.getElem_cons_succ, List.getElem_cons_zero]
            refine wpAnyH_ready (rs := [5, 6]) (by kernel_rfl) (by simp) ?_
            refine AllReadyH.cons rfl (fun K hK => ?_) (AllReadyH.cons rfl (fun K hK => ?_) AllReadyH.nil)
            · go_simp
              refine (implNetPut_any t2n i x _ (t2.out.lies (by have szc_ := szc.out; have sz101_ := sz101.out; have sz102_ := sz102.out; have szd_ := szd.out; have sz201_ := sz201.out; have sz202_ := sz202.out; have sz203_ := sz203.out; have sz204_ := sz204.out; have sz205_ := sz205.out; have sz206_ := sz206.out; have sz207_ := sz207.out; have sz208_ := sz208.out; have sz209_ := sz209.out; have sz210_ := sz210.out; omega)) (little_pl t2P.out HS.out) HQ.out).mono ?_
              rintro e v211 hans
              rw [t2P.out, HCF.out, HPF.out] at hans
              obtain ⟨w2n, rfl, w2p, hh, hb⟩ := hans
              have w2P := Lib.hid w2p
              clear w2p
              unfold Nt.out
              have bw := Lib.hid (bw.out.trans (hb.mono bw.out.size))
              have bx := Lib.hid (bx.out.on hb)
              have br := Lib.hid (br.out.on hb)
              have o0 := Lib.hid (o0.out.on hb)
              have w0 := Lib.hid (w0.out.step hb (.inr (Nat.le_refl _)))
              have b0 := Lib.hid (b0.out.on hb)
              have o1 := Lib.hid (o1.out.on hb)
              have w1 := Lib.hid (w1.out.step hb (.inr (Nat.le_refl _)))
              have t2 := Lib.hid (t2.out.step hb (.inr (Nat.le_refl _)))
              have sz211 := Lib.hid (show v210.heap.size ≤ v211.heap.size from hb.size)
              have w2 := Lib.hid (show HeldN v211 w2n v210.heap.size v211.heap.size from hh)
              clear hb
              clear hh
              clear t2
              clear t2P
              refine hK.out _ _ ?_ (fun hHeld => ?_)
              · exact ⟨bx.out, br.out⟩
              clear hK K
              try simp only [Act.put, List.setIfInBounds_toArray, List.set_cons_zero, List.set_cons_succ, List.getElem_toArray, List.getElem_cons_succ, List.getElem_cons_zero]
              refine wpAnyH_ready (rs := [6]) (by kernel_rfl) (by simp) ?_
              refine AllReadyH.cons rfl (fun K hK => ?_) AllReadyH.nil
              go_simp
              have bw := Lib.hid (bw.out.alloc bw.out.size (Obj.cells #[Value.slice none 0 0, Value.slice none 0 0, Value.int IntKind.i64 0] 37))
              have bx := Lib.hid (bx.out.alloc (Obj.cells #[Value.slice none 0 0, Value.slice none 0 0, Value.int IntKind.i64 0] 37))
              have br := Lib.hid (br.out.alloc (Obj.cells #[Value.slice none 0 0, Value.slice none 0 0, Value.int IntKind.i64 0] 37))
              have o0 := Lib.hid (o0.out.alloc (Obj.cells #[Value.slice none 0 0, Value.slice none 0 0, Value.int IntKind.i64 0] 37))
              have w0 := Lib.hid (w0.out.step ((Below.refl _ v211).alloc (Nat.le_refl _) (Obj.cells #[Value.slice none 0 0, Value.slice none 0 0, Value.int IntKind.i64 0] 37)) (.inr (Nat.le_refl _)))
              have b0 := Lib.hid (b0.out.alloc (Obj.cells #[Value.slice none 0 0, Value.slice none 0 0, Value.int IntKind.i64 0] 37))
              have o1 := Lib.hid (o1.out.alloc (Obj.cells #[Value.slice none 0 0, Value.slice none 0 0, Value.int IntKind.i64 0] 37))
              have w1 := Lib.hid (w1.out.step ((Below.refl _ v211).alloc (Nat.le_refl _) (Obj.cells #[Value.slice none 0 0, Value.slice none 0 0, Value.int IntKind.i64 0] 37)) (.inr (Nat.le_refl _)))
              have w2 := Lib.hid (w2.out.step ((Below.refl _ v211).alloc (Nat.le_refl _) (Obj.cells #[Value.slice none 0 0, Value.slice none 0 0, Value.int IntKind.i64 0] 37)) (.inr (Nat.le_refl _)))
              have o2 := Lib.hid (show Blk (World.alloc v211 (Obj.cells #[Value.slice none 0 0, Value.slice none 0 0, Value.int IntKind.i64 0] 37)) v211.heap.size 37 #[Value.slice none 0 0, Value.slice none 0 0, Value.int IntKind.i64 0] from Blk.new v211 37 #[Value.slice none 0 0, Value.slice none 0 0, Value.int IntKind.i64 0])
              have sz212 := Lib.hid (show v211.heap.size + 1 = (World.alloc v211 (Obj.cells #[Value.slice none 0 0, Value.slice none 0 0, Value.int IntKind.i64 0] 37)).heap.size by simp)
              generalize World.alloc v211 _ = v212 at bw bx br o0 w0 b0 o1 w1 w2 o2 sz212 ⊢
              refine hK.out _ _ ?_ (fun hHeld => ?_)
              · exact ⟨bx.out, br.out⟩
              clear hK K
              try simp only [Act.put, List.setIfInBounds_toArray, List.set_cons_zero, List.set_cons_succ, List.getElem_toArray, List.getElem_cons_succ, List.getElem_cons_zero]
              refine wpAnyH_ready (rs := [7]) (by kernel_rfl) (by simp) ?_
              refine AllReadyH.cons rfl (fun K hK => ?_) AllReadyH.nil
              obtain ⟨y0, y1, y2⟩ := blk3 o2.out
              have f0 := o2.out.free 0
              have f1 := o2.out.free 1
              have f2 := o2.out.free 2
              go_simp
              have bw := Lib.hid (below_set3 (b := v211.heap.size) (u0 := .slice w2n.A w2n.s.length w2n.ca) (u1 := .slice w2n.B w2n.m.length w2n.cb) (u2 := .int .i64 jc) bw.out (by have szc_ := szc.out; have sz101_ := sz101.out; have sz102_ := sz102.out; have szd_ := szd.out; have sz201_ := sz201.out; have sz202_ := sz202.out; have sz203_ := sz203.out; have sz204_ := sz204.out; have sz205_ := sz205.out; have sz206_ := sz206.out; have sz207_ := sz207.out; have sz208_ := sz208.out; have sz209_ := sz209.out; have sz210_ := sz210.out; have sz211_ := sz211.out; have sz212_ := sz212.out; omega))
              have bx := Lib.hid (blk_off3 (b := v211.heap.size) (u0 := .slice w2n.A w2n.s.length w2n.ca) (u1 := .slice w2n.B w2n.m.length w2n.cb) (u2 := .int .i64 jc) bx.out (by have szc_ := szc.out; have sz101_ := sz101.out; have sz102_ := sz102.out; have szd_ := szd.out; have sz201_ := sz201.out; have sz202_ := sz202.out; have sz203_ := sz203.out; have sz204_ := sz204.out; have sz205_ := sz205.out; have sz206_ := sz206.out; have sz207_ := sz207.out; have sz208_ := sz208.out; have sz209_ := sz209.out; have sz210_ := sz210.out; have sz211_ := sz211.out; have sz212_ := sz212.out; omega))
              have br := Lib.hid (blk_off3 (b := v211.heap.size) (u0 := .slice w2n.A w2n.s.length w2n.ca) (u1 := .slice w2n.B w2n.m.length w2n.cb) (u2 := .int .i64 jc) br.out (by have szc_ := szc.out; have sz101_ := sz101.out; have sz102_ := sz102.out; have szd_ := szd.out; have sz201_ := sz201.out; have sz202_ := sz202.out; have sz203_ := sz203.out; have sz204_ := sz204.out; have sz205_ := sz205.out; have sz206_ := sz206.out; have sz207_ := sz207.out; have sz208_ := sz208.out; have sz209_ := sz209.out; have sz210_ := sz210.out; have sz211_ := sz211.out; have sz212_ := sz212.out; omega))
              have o0 := Lib.hid (blk_off3 (b := v211.heap.size) (u0 := .slice w2n.A w2n.s.length w2n.ca) (u1 := .slice w2n.B w2n.m.length w2n.cb) (u2 := .int .i64 jc) o0.out (by have szc_ := szc.out; have sz101_ := sz101.out; have sz102_ := sz102.out; have szd_ := szd.out; have sz201_ := sz201.out; have sz202_ := sz202.out; have sz203_ := sz203.out; have sz204_ := sz204.out; have sz205_ := sz205.out; have sz206_ := sz206.out; have sz207_ := sz207.out; have sz208_ := sz208.out; have sz209_ := sz209.out; have sz210_ := sz210.out; have sz211_ := sz211.out; have sz212_ := sz212.out; omega))
              have w0 := Lib.hid (heldN_set3 (u0 := .slice w2n.A w2n.s.length w2n.ca) (u1 := .slice w2n.B w2n.m.length w2n.cb) (u2 := .int .i64 jc) w0.out o2.out)
              have b0 := Lib.hid (blk_off3 (b := v211.heap.size) (u0 := .slice w2n.A w2n.s.length w2n.ca) (u1 := .slice w2n.B w2n.m.length w2n.cb) (u2 := .int .i64 jc) b0.out (by have szc_ := szc.out; have sz101_ := sz101.out; have sz102_ := sz102.out; have szd_ := szd.out; have sz201_ := sz201.out; have sz202_ := sz202.out; have sz203_ := sz203.out; have sz204_ := sz204.out; have sz205_ := sz205.out; have sz206_ := sz206.out; have sz207_ := sz207.out; have sz208_ := sz208.out; have sz209_ := sz209.out; have sz210_ := sz210.out; have sz211_ := sz211.out; have sz212_ := sz212.out; omega))
              have o1 := Lib.hid (blk_off3 (b := v211.heap.size) (u0 := .slice w2n.A w2n.s.length w2n.ca) (u1 := .slice w2n.B w2n.m.length w2n.cb) (u2 := .int .i64 jc) o1.out (by have szc_ := szc.out; have sz101_ := sz101.out; have sz102_ := sz102.out; have szd_ := szd.out; have sz201_ := sz201.out; have sz202_ := sz202.out; have sz203_ := sz203.out; have sz204_ := sz204.out; have sz205_ := sz205.out; have sz206_ := sz206.out; have sz207_ := sz207.out; have sz208_ := sz208.out; have sz209_ := sz209.out; have sz210_ := sz210.out; have sz211_ := sz211.out; have sz212_ := sz212.out; omega))
              have w1 := Lib.hid (heldN_set3 (u0 := .slice w2n.A w2n.s.length w2n.ca) (u1 := .slice w2n.B w2n.m.length w2n.cb) (u2 := .int .i64 jc) w1.out o2.out)
              have w2 := Lib.hid (heldN_set3 (u0 := .slice w2n.A w2n.s.length w2n.ca) (u1 := .slice w2n.B w2n.m.length w2n.cb) (u2 := .int .i64 jc) w2.out o2.out)
              have o2 := Lib.hid (blk_set3 (u0 := .slice w2n.A w2n.s.length w2n.ca) (u1 := .slice w2n.B w2n.m.length w2n.cb) (u2 := .int .i64 jc) o2.out)
              clear y0 y1 y2 f0 f1 f2
              refine hK.out _ _ ?_ (fun hHeld => ?_)
              · exact ⟨bx.out, br.out⟩
              clear hK K
              try simp only [Act.put, List.setIfInBounds_toArray, List.set_cons_zero, List.set_cons_succ, List.getElem_toArray, List.getElem_cons_succ, List.getElem_cons_zero]
              refine wpAnyH_done (by kernel_rfl) ?_ _
              go_wp2_with fail
              go_meet
              exact ⟨_, _, _, _, rfl, o2, w2, w2P, Lib.hid (by have szc_ := szc.out; have sz101_ := sz101.out; have sz102_ := sz102.out; have szd_ := szd.out; have sz201_ := sz201.out; have sz202_ := sz202.out; have sz203_ := sz203.out; have sz204_ := sz204.out; have sz205_ := sz205.out; have sz206_ := sz206.out; have sz207_ := sz207.out; have sz208_ := sz208.out; have sz209_ := sz209.out; have sz210_ := sz210.out; have sz211_ := sz211.out; have sz212_ := sz212.out; simp only [World.size_setCell]; omega), bw, o0, w0, o1, w1⟩
            · go_simp
              have bw := Lib.hid (bw.out.alloc bw.out.size (Obj.cells #[Value.slice none 0 0, Value.slice none 0 0, Value.int IntKind.i64 0] 37))
              have bx := Lib.hid (bx.out.alloc (Obj.cells #[Value.slice none 0 0, Value.slice none 0 0, Value.int IntKind.i64 0] 37))
              have br := Lib.hid (br.out.alloc (Obj.cells #[Value.slice none 0 0, Value.slice none 0 0, Value.int IntKind.i64 0] 37))
              have o0 := Lib.hid (o0.out.alloc (Obj.cells #[Value.slice none 0 0, Value.slice none 0 0, Value.int IntKind.i64 0] 37))
              have w0 := Lib.hid (w0.out.step ((Below.refl _ v210).alloc (Nat.le_refl _) (Obj.cells #[Value.slice none 0 0, Value.slice none 0 0, Value.int IntKind.i64 0] 37)) (.inr (Nat.le_refl _)))
              have b0 := Lib.hid (b0.out.alloc (Obj.cells #[Value.slice none 0 0, Value.slice none 0 0, Value.int IntKind.i64 0] 37))
              have o1 := Lib.hid (o1.out.alloc (Obj.cells #[Value.slice none 0 0, Value.slice none 0 0, Value.int IntKind.i64 0] 37))
              have w1 := Lib.hid (w1.out.step ((Below.refl _ v210).alloc (Nat.le_refl _) (Obj.cells #[Value.slice none 0 0, Value.slice none 0 0, Value.int IntKind.i64 0] 37)) (.inr (Nat.le_refl _)))
              have t2 := Lib.hid (t2.out.step ((Below.refl _ v210).alloc (Nat.le_refl _) (Obj.cells #[Value.slice none 0 0, Value.slice none 0 0, Value.int IntKind.i64 0] 37)) (.inr (Nat.le_refl _)))
              have o2 := Lib.hid (show Blk (World.alloc v210 (Obj.cells #[Value.slice none 0 0, Value.slice none 0 0, Value.int IntKind.i64 0] 37)) v210.heap.size 37 #[Value.slice none 0 0, Value.slice none 0 0, Value.int IntKind.i64 0] from Blk.new v210 37 #[Value.slice none 0 0, Value.slice none 0 0, Value.int IntKind.i64 0])
              have sz211 := Lib.hid (show v210.heap.size + 1 = (World.alloc v210 (Obj.cells #[Value.slice none 0 0, Value.slice none 0 0, Value.int IntKind.i64 0] 37)).heap.size by simp)
              generalize World.alloc v210 _ = v211 at bw bx br o0 w0 b0 o1 w1 t2 o2 sz211 ⊢
              refine hK.out _ _ ?_ (fun hHeld => ?_)
              · exact ⟨bx.out, br.out⟩
              clear hK K
              try simp only [Act.put, List.setIfInBounds_toArray, List.set_cons_zero, List.set_cons_succ, List.getElem_toArray, List.getElem_cons_succ, List.getElem_cons_zero]
              refine wpAnyH_ready (rs := [5]) (by kernel_rfl) (by simp) ?_
              refine AllReadyH.cons rfl (fun K hK => ?_) AllReadyH.nil
              go_simp
              refine (implNetPut_any t2n i x _ (t2.out.lies (by have szc_ := szc.out; have sz101_ := sz101.out; have sz102_ := sz102.out; have szd_ := szd.out; have sz201_ := sz201.out; have sz202_ := sz202.out; have sz203_ := sz203.out; have sz204_ := sz204.out; have sz205_ := sz205.out; have sz206_ := sz206.out; have sz207_ := sz207.out; have sz208_ := sz208.out; have sz209_ := sz209.out; have sz210_ := sz210.out; have sz211_ := sz211.out; omega)) (little_pl t2P.out HS.out) HQ.out).mono ?_
              rintro e v212 hans
              rw [t2P.out, HCF.out, HPF.out] at hans
              obtain ⟨w2n, rfl, w2p, hh, hb⟩ := hans
              have w2P := Lib.hid w2p
              clear w2p
              unfold Nt.out
              have bw := Lib.hid (bw.out.trans (hb.mono bw.out.size))
              have bx := Lib.hid (bx.out.on hb)
              have br := Lib.hid (br.out.on hb)
              have o0 := Lib.hid (o0.out.on hb)
              have w0 := Lib.hid (w0.out.step hb (.inr (Nat.le_refl _)))
              have b0 := Lib.hid (b0.out.on hb)
              have o1 := Lib.hid (o1.out.on hb)
              have w1 := Lib.hid (w1.out.step hb (.inr (Nat.le_refl _)))
              have t2 := Lib.hid (t2.out.step hb (.inr (Nat.le_refl _)))
              have o2 := Lib.hid (o2.out.on hb)
              have sz212 := Lib.hid (show v211.heap.size ≤ v212.heap.size from hb.size)
              have w2 := Lib.hid (show HeldN v212 w2n v211.heap.size v212.heap.size from hh)
              clear hb
              clear hh
              clear t2
              clear t2P
              refine hK.out _ _ ?_ (fun hHeld => ?_)
              · exact ⟨bx.out, br.out⟩
              clear hK K
              try simp only [Act.put, List.setIfInBounds_toArray, List.set_cons_zero, List.set_cons_succ, List.getElem_toArray, List.getElem_cons_succ, List.getElem_cons_zero]
              refine wpAnyH_ready (rs := [7]) (by kernel_rfl) (by simp) ?_
              refine AllReadyH.cons rfl (fun K hK => ?_) AllReadyH.nil
              obtain ⟨y0, y1, y2⟩ := blk3 o2.out
              have f0 := o2.out.free 0
              have f1 := o2.out.free 1
              have f2 := o2.out.free 2
              go_simp
              have bw := Lib.hid (below_set3 (b := v210.heap.size) (u0 := .slice w2n.A w2n.s.length w2n.ca) (u1 := .slice w2n.B w2n.m.length w2n.cb) (u2 := .int .i64 jc) bw.out (by have szc_ := szc.out; have sz101_ := sz101.out; have sz102_ := sz102.out; have szd_ := szd.out; have sz201_ := sz201.out; have sz202_ := sz202.out; have sz203_ := sz203.out; have sz204_ := sz204.out; have sz205_ := sz205.out; have sz206_ := sz206.out; have sz207_ := sz207.out; have sz208_ := sz208.out; have sz209_ := sz209.out; have sz210_ := sz210.out; have sz211_ := sz211.out; have sz212_ := sz212.out; omega))
              have bx := Lib.hid (blk_off3 (b := v210.heap.size) (u0 := .slice w2n.A w2n.s.length w2n.ca) (u1 := .slice w2n.B w2n.m.length w2n.cb) (u2 := .int .i64 jc) bx.out (by have szc_ := szc.out; have sz101_ := sz101.out; have sz102_ := sz102.out; have szd_ := szd.out; have sz201_ := sz201.out; have sz202_ := sz202.out; have sz203_ := sz203.out; have sz204_ := sz204.out; have sz205_ := sz205.out; have sz206_ := sz206.out; have sz207_ := sz207.out; have sz208_ := sz208.out; have sz209_ := sz209.out; have sz210_ := sz210.out; have sz211_ := sz211.out; have sz212_ := sz212.out; omega))
              have br := Lib.hid (blk_off3 (b := v210.heap.size) (u0 := .slice w2n.A w2n.s.length w2n.ca) (u1 := .slice w2n.B w2n.m.length w2n.cb) (u2 := .int .i64 jc) br.out (by have szc_ := szc.out; have sz101_ := sz101.out; have sz102_ := sz102.out; have szd_ := szd.out; have sz201_ := sz201.out; have sz202_ := sz202.out; have sz203_ := sz203.out; have sz204_ := sz204.out; have sz205_ := sz205.out; have sz206_ := sz206.out; have sz207_ := sz207.out; have sz208_ := sz208.out; have sz209_ := sz209.out; have sz210_ := sz210.out; have sz211_ := sz211.out; have sz212_ := sz212.out; omega))
              have o0 := Lib.hid (blk_off3 (b := v210.heap.size) (u0 := .slice w2n.A w2n.s.length w2n.ca) (u1 := .slice w2n.B w2n.m.length w2n.cb) (u2 := .int .i64 jc) o0.out (by have szc_ := szc.out; have sz101_ := sz101.out; have sz102_ := sz102.out; have szd_ := szd.out; have sz201_ := sz201.out; have sz202_ := sz202.out; have sz203_ := sz203.out; have sz204_ := sz204.out; have sz205_ := sz205.out; have sz206_ := sz206.out; have sz207_ := sz207.out; have sz208_ := sz208.out; have sz209_ := sz209.out; have sz210_ := sz210.out; have sz211_ := sz211.out; have sz212_ := sz212.out; omega))
              have w0 := Lib.hid (heldN_set3 (u0 := .slice w2n.A w2n.s.length w2n.ca) (u1 := .slice w2n.B w2n.m.length w2n.cb) (u2 := .int .i64 jc) w0.out o2.out)
              have b0 := Lib.hid (blk_off3 (b := v210.heap.size) (u0 := .slice w2n.A w2n.s.length w2n.ca) (u1 := .slice w2n.B w2n.m.length w2n.cb) (u2 := .int .i64 jc) b0.out (by have szc_ := szc.out; have sz101_ := sz101.out; have sz102_ := sz102.out; have szd_ := szd.out; have sz201_ := sz201.out; have sz202_ := sz202.out; have sz203_ := sz203.out; have sz204_ := sz204.out; have sz205_ := sz205.out; have sz206_ := sz206.out; have sz207_ := sz207.out; have sz208_ := sz208.out; have sz209_ := sz209.out; have sz210_ := sz210.out; have sz211_ := sz211.out; have sz212_ := sz212.out; omega))
              have o1 := Lib.hid (blk_off3 (b := v210.heap.size) (u0 := .slice w2n.A w2n.s.length w2n.ca) (u1 := .slice w2n.B w2n.m.length w2n.cb) (u2 := .int .i64 jc) o1.out (by have szc_ := szc.out; have sz101_ := sz101.out; have sz102_ := sz102.out; have szd_ := szd.out; have sz201_ := sz201.out; have sz202_ := sz202.out; have sz203_ := sz203.out; have sz204_ := sz204.out; have sz205_ := sz205.out; have sz206_ := sz206.out; have sz207_ := sz207.out; have sz208_ := sz208.out; have sz209_ := sz209.out; have sz210_ := sz210.out; have sz211_ := sz211.out; have sz212_ := sz212.out; omega))
              have w1 := Lib.hid (heldN_set3 (u0 := .slice w2n.A w2n.s.length w2n.ca) (u1 := .slice w2n.B w2n.m.length w2n.cb) (u2 := .int .i64 jc) w1.out o2.out)
              have w2 := Lib.hid (heldN_set3 (u0 := .slice w2n.A w2n.s.length w2n.ca) (u1 := .slice w2n.B w2n.m.length w2n.cb) (u2 := .int .i64 jc) w2.out o2.out)
              have o2 := Lib.hid (blk_set3 (u0 := .slice w2n.A w2n.s.length w2n.ca) (u1 := .slice w2n.B w2n.m.length w2n.cb) (u2 := .int .i64 jc) o2.out)
              clear y0 y1 y2 f0 f1 f2
              refine hK.out _ _ ?_ (fun hHeld => ?_)
              · exact ⟨bx.out, br.out⟩
              clear hK K
              try simp only [Act.put, List.setIfInBounds_toArray, List.set_cons_zero, List.set_cons_succ, List.getElem_toArray, List.getElem_cons_succ, List.getElem_cons_zero]
              refine wpAnyH_done (by kernel_rfl) ?_ _
              go_wp2_with fail
              go_meet
              exact ⟨_, _, _, _, rfl, o2, w2, w2P, Lib.hid (by have szc_ := szc.out; have sz101_ := sz101.out; have sz102_ := sz102.out; have szd_ := szd.out; have sz201_ := sz201.out; have sz202_ := sz202.out; have sz203_ := sz203.out; have sz204_ := sz204.out; have sz205_ := sz205.out; have sz206_ := sz206.out; have sz207_ := sz207.out; have sz208_ := sz208.out; have sz209_ := sz209.out; have sz210_ := sz210.out; have sz211_ := sz211.out; have sz212_ := sz212.out; simp only [World.size_setCell]; omega), bw, o0, w0, o1, w1⟩
          · go_simp
            have bw := Lib.hid (bw.out.alloc bw.out.size (Obj.cells #[Value.slice none 0 0, Value.slice none 0 0, Value.int IntKind.i64 0] 37))
            have bx := Lib.hid (bx.out.alloc (Obj.cells #[Value.slice none 0 0, Value.slice none 0 0, Value.int IntKind.i64 0] 37))
            have br := Lib.hid (br.out.alloc (Obj.cells #[Value.slice none 0 0, Value.slice none 0 0, Value.int IntKind.i64 0] 37))
            have o0 := Lib.hid (o0.out.alloc (Obj.cells #[Value.slice none 0 0, Value.slice none 0 0, Value.int IntKind.i64 0] 37))
            have w0 := Lib.hid (w0.out.step ((Below.refl _ v209).alloc (Nat.le_refl _) (Obj.cells #[Value.slice none 0 0, Value.slice none 0 0, Value.int IntKind.i64 0] 37)) (.inr (Nat.le_refl _)))
            have b0 := Lib.hid (b0.out.alloc (Obj.cells #[Value.slice none 0 0, Value.slice none 0 0, Value.int IntKind.i64 0] 37))
            have o1 := Lib.hid (o1.out.alloc (Obj.cells #[Value.slice none 0 0, Value.slice none 0 0, Value.int IntKind.i64 0] 37))
            have w1 := Lib.hid (w1.out.step ((Below.refl _ v209).alloc (Nat.le_refl _) (Obj.cells #[Value.slice none 0 0, Value.slice none 0 0, Value.int IntKind.i64 0] 37)) (.inr (Nat.le_refl _)))
            have t2 := Lib.hid (t2.out.step ((Below.refl _ v209).alloc (Nat.le_refl _) (Obj.cells #[Value.slice none 0 0, Value.slice none 0 0, Value.int IntKind.i64 0] 37)) (.inr (Nat.le_refl _)))
            have o2 := Lib.hid (show Blk (World.alloc v209 (Obj.cells #[Value.slice none 0 0, Value.slice none 0 0, Value.int IntKind.i64 0] 37)) v209.heap.size 37 #[Value.slice none 0 0, Value.slice none 0 0, Value.int IntKind.i64 0] from Blk.new v209 37 #[Value.slice none 0 0, Value.slice none 0 0, Value.int IntKind.i64 0])
            have sz210 := Lib.hid (show v209.heap.size + 1 = (World.alloc v209 (Obj.cells #[Value.slice none 0 0, Value.slice none 0 0, Value.int IntKind.i64 0] 37)).heap.size by simp)
            generalize World.alloc v209 _ = v210 at bw bx br o0 w0 b0 o1 w1 t2 o2 sz210 ⊢
            refine hK.out _ _ ?_ (fun hHeld => ?_)
            · exact ⟨bx.out, br.out⟩
            clear hK K
            try simp only [Act.put, List.setIfInBounds_toArray, List.set_cons_zero, List.set_cons_succ, List.getElem_toArray, List.getElem_cons_succ, List.getElem_cons_zero]
            refine wpAnyH_ready (rs := [4]) (by kernel_rfl) (by simp) ?_
            refine AllReadyH.cons rfl (fun K hK => ?_) AllReadyH.nil
            go_simp
            refine (Sto.toRow_any x _).mono ?_
            rintro e v211 ⟨rfl, hb⟩
            have bw := Lib.hid (bw.out.trans (hb.mono bw.out.size))
            have bx := Lib.hid (bx.out.on hb)
            have br := Lib.hid (br.out.on hb)
            have o0 := Lib.hid (o0.out.on hb)
            have w0 := Lib.hid (w0.out.step hb (.inr (Nat.le_refl _)))
            have b0 := Lib.hid (b0.out.on hb)
            have o1 := Lib.hid (o1.out.on hb)
            have w1 := Lib.hid (w1.out.step hb (.inr (Nat.le_refl _)))
            have t2 := Lib.hid (t2.out.step hb (.inr (Nat.le_refl _)))
            have o2 := Lib.hid (o2.out.on hb)
            have sz211 := Lib.hid (show v210.heap.size ≤ v211.heap.size from hb.size)
            clear hb
            unfold R.val
            refine hK.out _ _ ?_ (fun hHeld => ?_)
            · exact ⟨bx.out, br.out⟩
            clear hK K
            try simp only [Act.put, List.setIfInBounds_toArray, List.set_cons_zero, List.set_cons_succ, List.getElem_toArray, List.getElem_cons_succ, List.getElem_cons_zero]
            refine wpAnyH_ready (rs := [5]) (by kernel_rfl) (by simp) ?_
            refine AllReadyH.cons rfl (fun K hK => ?_) AllReadyH.nil
            go_simp
            refine (implNetPut_any t2n i x _ (t2.out.lies (by have szc_ := szc.out; have sz101_ := sz101.out; have sz102_ := sz102.out; have szd_ := szd.out; have sz201_ := sz201.out; have sz202_ := sz202.out; have sz203_ := sz203.out; have sz204_ := sz204.out; have sz205_ := sz205.out; have sz206_ := sz206.out; have sz207_ := sz207.out; have sz208_ := sz208.out; have sz209_ := sz209.out; have sz210_ := sz210.out; have sz211_ := sz211.out; omega)) (little_pl t2P.out HS.out) HQ.out).mono ?_
            rintro e v212 hans
            rw [t2P.out, HCF.out, HPF.out] at hans
            obtain ⟨w2n, rfl, w2p, hh, hb⟩ := hans
            have w2P := Lib.hid w2p
            clear w2p
            unfold Nt.out
            have bw := Lib.hid (bw.out.trans (hb.mono bw.out.size))
            have bx := Lib.hid (bx.out.on hb)
            have br := Lib.hid (br.out.on hb)
            have o0 := Lib.hid (o0.out.on hb)
            have w0 := Lib.hid (w0.out.step hb (.inr (Nat.le_refl _)))
            have b0 := Lib.hid (b0.out.on hb)
            have o1 := Lib.hid (o1.out.on hb)
            have w1 := Lib.hid (w1.out.step hb (.inr (Nat.le_refl _)))
            have t2 := Lib.hid (t2.out.step hb (.inr (Nat.le_refl _)))
            have o2 := Lib.hid (o2.out.on hb)
            have sz212 := Lib.hid (show v211.heap.size ≤ v212.heap.size from hb.size)
            have w2 := Lib.hid (show HeldN v212 w2n v211.heap.size v212.heap.size from hh)
            clear hb
            clear hh
            clear t2
            clear t2P
            refine hK.out _ _ ?_ (fun hHeld => ?_)
            · exact ⟨bx.out, br.out⟩
            clear hK K
            try simp only [Act.put, List.setIfInBounds_toArray, List.set_cons_zero, List.set_cons_succ, List.getElem_toArray, List.getElem_cons_succ, List.getElem_cons_zero]
            refine wpAnyH_ready (rs := [7]) (by kernel_rfl) (by simp) ?_
            refine AllReadyH.cons rfl (fun K hK => ?_) AllReadyH.nil
            obtain ⟨y0, y1, y2⟩ := blk3 o2.out
            have f0 := o2.out.free 0
            have f1 := o2.out.free 1
            have f2 := o2.out.free 2
            go_simp
            have bw := Lib.hid (below_set3 (b := v209.heap.size) (u0 := .slice w2n.A w2n.s.length w2n.ca) (u1 := .slice w2n.B w2n.m.length w2n.cb) (u2 := .int .i64 jc) bw.out (by have szc_ := szc.out; have sz101_ := sz101.out; have sz102_ := sz102.out; have szd_ := szd.out; have sz201_ := sz201.out; have sz202_ := sz202.out; have sz203_ := sz203.out; have sz204_ := sz204.out; have sz205_ := sz205.out; have sz206_ := sz206.out; have sz207_ := sz207.out; have sz208_ := sz208.out; have sz209_ := sz209.out; have sz210_ := sz210.out; have sz211_ := sz211.out; have sz212_ := sz212.out; omega))
            have bx := Lib.hid (blk_off3 (b := v209.heap.size) (u0 := .slice w2n.A w2n.s.length w2n.ca) (u1 := .slice w2n.B w2n.m.length w2n.cb) (u2 := .int .i64 jc) bx.out (by have szc_ := szc.out; have sz101_ := sz101.out; have sz102_ := sz102.out; have szd_ := szd.out; have sz201_ := sz201.out; have sz202_ := sz202.out; have sz203_ := sz203.out; have sz204_ := sz204.out; have sz205_ := sz205.out; have sz206_ := sz206.out; have sz207_ := sz207.out; have sz208_ := sz208.out; have sz209_ := sz209.out; have sz210_ := sz210.out; have sz211_ := sz211.out; have sz212_ := sz212.out; omega))
            have br := Lib.hid (blk_off3 (b := v209.heap.size) (u0 := .slice w2n.A w2n.s.length w2n.ca) (u1 := .slice w2n.B w2n.m.length w2n.cb) (u2 := .int .i64 jc) br.out (by have szc_ := szc.out; have sz101_ := sz101.out; have sz102_ := sz102.out; have szd_ := szd.out; have sz201_ := sz201.out; have sz202_ := sz202.out; have sz203_ := sz203.out; have sz204_ := sz204.out; have sz205_ := sz205.out; have sz206_ := sz206.out; have sz207_ := sz207.out; have sz208_ := sz208.out; have sz209_ := sz209.out; have sz210_ := sz210.out; have sz211_ := sz211.out; have sz212_ := sz212.out; omega))
            have o0 := Lib.hid (blk_off3 (b := v209.heap.size) (u0 := .slice w2n.A w2n.s.length w2n.ca) (u1 := .slice w2n.B w2n.m.length w2n.cb) (u2 := .int .i64 jc) o0.out (by have szc_ := szc.out; have sz101_ := sz101.out; have sz102_ := sz102.out; have szd_ := szd.out; have sz201_ := sz201.out; have sz202_ := sz202.out; have sz203_ := sz203.out; have sz204_ := sz204.out; have sz205_ := sz205.out; have sz206_ := sz206.out; have sz207_ := sz207.out; have sz208_ := sz208.out; have sz209_ := sz209.out; have sz210_ := sz210.out; have sz211_ := sz211.out; have sz212_ := sz212.out; omega))
            have w0 := Lib.hid (heldN_set3 (u0 := .slice w2n.A w2n.s.length w2n.ca) (u1 := .slice w2n.B w2n.m.length w2n.cb) (u2 := .int .i64 jc) w0.out o2.out)
            have b0 := Lib.hid (blk_off3 (b := v209.heap.size) (u0 := .slice w2n.A w2n.s.length w2n.ca) (u1 := .slice w2n.B w2n.m.length w2n.cb) (u2 := .int .i64 jc) b0.out (by have szc_ := szc.out; have sz101_ := sz101.out; have sz102_ := sz102.out; have szd_ := szd.out; have sz201_ := sz201.out; have sz202_ := sz202.out; have sz203_ := sz203.out; have sz204_ := sz204.out; have sz205_ := sz205.out; have sz206_ := sz206.out; have sz207_ := sz207.out; have sz208_ := sz208.out; have sz209_ := sz209.out; have sz210_ := sz210.out; have sz211_ := sz211.out; have sz212_ := sz212.out; omega))
            have o1 := Lib.hid (blk_off3 (b := v209.heap.size) (u0 := .slice w2n.A w2n.s.length w2n.ca) (u1 := .slice w2n.B w2n.m.length w2n.cb) (u2 := .int .i64 jc) o1.out (by have szc_ := szc.out; have sz101_ := sz101.out; have sz102_ := sz102.out; have szd_ := szd.out; have sz201_ := sz201.out; have sz202_ := sz202.out; have sz203_ := sz203.out; have sz204_ := sz204.out; have sz205_ := sz205.out; have sz206_ := sz206.out; have sz207_ := sz207.out; have sz208_ := sz208.out; have sz209_ := sz209.out; have sz210_ := sz210.out; have sz211_ := sz211.out; have sz212_ := sz212.out; omega))
            have w1 := Lib.hid (heldN_set3 (u0 := .slice w2n.A w2n.s.length w2n.ca) (u1 := .slice w2n.B w2n.m.length w2n.cb) (u2 := .int .i64 jc) w1.out o2.out)
            have w2 := Lib.hid (heldN_set3 (u0 := .slice w2n.A w2n.s.length w2n.ca) (u1 := .slice w2n.B w2n.m.length w2n.cb) (u2 := .int .i64 jc) w2.out o2.out)
            have o2 := Lib.hid (blk_set3 (u0 := .slice w2n.A w2n.s.length w2n.ca) (u1 := .slice w2n.B w2n.m.length w2n.cb) (u2 := .int .i64 jc) o2.out)
            clear y0 y1 y2 f0 f1 f2
            refine hK.out _ _ ?_ (fun hHeld => ?_)
            · exact ⟨bx.out, br.out⟩
            clear hK K
            try simp only [Act.put, List.setIfInBounds_toArray, List.set_cons_zero, List.set_cons_succ, List.getElem_toArray, List.getElem_cons_succ, List.getElem_cons_zero]
            refine wpAnyH_done (by kernel_rfl) ?_ _
            go_wp2_with fail
            go_meet
            exact ⟨_, _, _, _, rfl, o2, w2, w2P, Lib.hid (by have szc_ := szc.out; have sz101_ := sz101.out; have sz102_ := sz102.out; have szd_ := szd.out; have sz201_ := sz201.out; have sz202_ := sz202.out; have sz203_ := sz203.out; have sz204_ := sz204.out; have sz205_ := sz205.out; have sz206_ := sz206.out; have sz207_ := sz207.out; have sz208_ := sz208.out; have sz209_ := sz209.out; have sz210_ := sz210.out; have sz211_ := sz211.out; have sz212_ := sz212.out; simp only [World.size_setCell]; omega), bw, o0, w0, o1, w1⟩
        · go_simp
          have bw := Lib.hid (bw.out.alloc bw.out.size (Obj.cells #[Value.slice none 0 0, Value.slice none 0 0, Value.int IntKind.i64 0] 37))
          have bx := Lib.hid (bx.out.alloc (Obj.cells #[Value.slice none 0 0, Value.slice none 0 0, Value.int IntKind.i64 0] 37))
          have br := Lib.hid (br.out.alloc (Obj.cells #[Value.slice none 0 0, Value.slice none 0 0, Value.int IntKind.i64 0] 37))
          have o0 := Lib.hid (o0.out.alloc (Obj.cells #[Value.slice none 0 0, Value.slice none 0 0, Value.int IntKind.i64 0] 37))
          have w0 := Lib.hid (w0.out.step ((Below.refl _ v208).alloc (Nat.le_refl _) (Obj.cells #[Value.slice none 0 0, Value.slice none 0 0, Value.int IntKind.i64 0] 37)) (.inr (Nat.le_refl _)))
          have b0 := Lib.hid (b0.out.alloc (Obj.cells #[Value.slice none 0 0, Value.slice none 0 0, Value.int IntKind.i64 0] 37))
          have o1 := Lib.hid (o1.out.alloc (Obj.cells #[Value.slice none 0 0, Value.slice none 0 0, Value.int IntKind.i64 0] 37))
          have w1 := Lib.hid (w1.out.step ((Below.refl _ v208).alloc (Nat.le_refl _) (Obj.cells #[Value.slice none 0 0, Value.slice none 0 0, Value.int IntKind.i64 0] 37)) (.inr (Nat.le_refl _)))
          have o2 := Lib.hid (show Blk (World.alloc v208 (Obj.cells #[Value.slice none 0 0, Value.slice none 0 0, Value.int IntKind.i64 0] 37)) v208.heap.size 37 #[Value.slice none 0 0, Value.slice none 0 0, Value.int IntKind.i64 0] from Blk.new v208 37 #[Value.slice none 0 0, Value.slice none 0 0, Value.int IntKind.i64 0])
          have sz209 := Lib.hid (show v208.heap.size + 1 = (World.alloc v208 (Obj.cells #[Value.slice none 0 0, Value.slice none 0 0, Value.int IntKind.i64 0] 37)).heap.size by simp)
          generalize World.alloc v208 _ = v209 at bw bx br o0 w0 b0 o1 w1 o2 sz209 ⊢
          refine hK.out _ _ ?_ (fun hHeld => ?_)
          · exact ⟨bx.out, br.out⟩
          clear hK K
          try simp only [Act.put, List.setIfInBounds_toArray, List.set_cons_zero, List.set_cons_succ, List.getElem_toArray, List.getElem_cons_succ, List.getElem_cons_zero]
          refine wpAnyH_ready (rs := [1]) (by kernel_rfl) (by simp) ?_
          refine AllReadyH.cons rfl (fun K hK => ?_) AllReadyH.nil
          go_simp
          refine (toNet_any n _ (H.out.on bw.out) hs1 hs2 HL.out).mono ?_
          rintro e v210 ⟨t2n, rfl, t2p, t2h, hb⟩
          have t2P := Lib.hid t2p
          clear t2p
          unfold Nt.val
          have bw := Lib.hid (bw.out.trans (hb.mono bw.out.size))
          have bx := Lib.hid (bx.out.on hb)
          have br := Lib.hid (br.out.on hb)
          have o0 := Lib.hid (o0.out.on hb)
          have w0 := Lib.hid (w0.out.step hb (.inr (Nat.le_refl _)))
          have b0 := Lib.hid (b0.out.on hb)
          have o1 := Lib.hid (o1.out.on hb)
          have w1 := Lib.hid (w1.out.step hb (.inr (Nat.le_refl _)))
          have o2 := Lib.hid (o2.out.on hb)
          have sz210 := Lib.hid (show v209.heap.size ≤ v210.heap.size from hb.size)
          have t2 := Lib.hid (show HeldN v210 t2n v209.heap.size v210.heap.size from t2h)
          clear hb
          clear t2h
          refine hK.out _ _ ?_ (fun hHeld => ?_)
          · exact ⟨bx.out, br.out⟩
          clear hK K
          try simp only [Act.put, List.setIfInBounds_toArray, List.set_cons_zero, List.set_cons_succ, List.getElem_toArray, List.getElem_cons_succ, List.getElem_cons_zero]
          refine wpAnyH_ready (rs := [4]) (by kernel_rfl) (by simp) ?_
          refine AllReadyH.cons rfl (fun K hK => ?_) AllReadyH.nil
          go_simp
          refine (Sto.toRow_any x _).mono ?_
          rintro e v211 ⟨rfl, hb⟩
          have bw := Lib.hid (bw.out.trans (hb.mono bw.out.size))
          have bx := Lib.hid (bx.out.on hb)
          have br := Lib.hid (br.out.on hb)
          have o0 := Lib.hid (o0.out.on hb)
          have w0 := Lib.hid (w0.out.step hb (.inr (Nat.le_refl _)))
          have b0 := Lib.hid (b0.out.on hb)
          have o1 := Lib.hid (o1.out.on hb)
          have w1 := Lib.hid (w1.out.step hb (.inr (Nat.le_refl _)))
          have o2 := Lib.hid (o2.out.on hb)
          have t2 := Lib.hid (t2.out.step hb (.inr (Nat.le_refl _)))
          have sz211 := Lib.hid (show v210.heap.size ≤ v211.heap.size from hb.size)
          clear hb
          unfold R.val
          refine hK.out _ _ ?_ (fun hHeld => ?_)
          · exact ⟨bx.out, br.out⟩
          clear hK K
          try simp only [Act.put, List.setIfInBounds_toArray, List.set_cons_zero, List.set_cons_succ, List.getElem_toArray, List.getElem_cons_succ, List.getElem_cons_zero]
          refine wpAnyH_ready (rs := [5]) (by kernel_rfl) (by simp) ?_
          refine AllReadyH.cons rfl (fun K hK => ?_) AllReadyH.nil
          go_simp
          refine (implNetPut_any t2n i x _ (t2.out.lies (by have szc_ := szc.out; have sz101_ := sz101.out; have sz102_ := sz102.out; have szd_ := szd.out; have sz201_ := sz201.out; have sz202_ := sz202.out; have sz203_ := sz203.out; have sz204_ := sz204.out; have sz205_ := sz205.out; have sz206_ := sz206.out; have sz207_ := sz207.out; have sz208_ := sz208.out; have sz209_ := sz209.out; have sz210_ := sz210.out; have sz211_ := sz211.out; omega)) (little_pl t2P.out HS.out) HQ.out).mono ?_
          rintro e v212 hans
          rw [t2P.out, HCF.out, HPF.out] at hans
          obtain ⟨w2n, rfl, w2p, hh, hb⟩ := hans
          have w2P := Lib.hid w2p
          clear w2p
          unfold Nt.out
          have bw := Lib.hid (bw.out.trans (hb.mono bw.out.size))
          have bx := Lib.hid (bx.out.on hb)
          have br := Lib.hid (br.out.on hb)
          have o0 := Lib.hid (o0.out.on hb)
          have w0 := Lib.hid (w0.out.step hb (.inr (Nat.le_refl _)))
          have b0 := Lib.hid (b0.out.on hb)
          have o1 := Lib.hid (o1.out.on hb)
          have w1 := Lib.hid (w1.out.step hb (.inr (Nat.le_refl _)))
          have o2 := Lib.hid (o2.out.on hb)
          have t2 := Lib.hid (t2.out.step hb (.inr (Nat.le_refl _)))
          have sz212 := Lib.hid (show v211.heap.size ≤ v212.heap.size from hb.size)
          have w2 := Lib.hid (show HeldN v212 w2n v211.heap.size v212.heap.size from hh)
          clear hb
          clear hh
          clear t2
          clear t2P
          refine hK.out _ _ ?_ (fun hHeld => ?_)
          · exact ⟨bx.out, br.out⟩
          clear hK K
          try simp only [Act.put, List.setIfInBounds_toArray, List.set_cons_zero, List.set_cons_succ, List.getElem_toArray, List.getElem_cons_succ, List.getElem_cons_zero]
          refine wpAnyH_ready (rs := [7]) (by kernel_rfl) (by simp) ?_
          refine AllReadyH.cons rfl (fun K hK => ?_) AllReadyH.nil
          obtain ⟨y0, y1, y2⟩ := blk3 o2.out
          have f0 := o2.out.free 0
          have f1 := o2.out.free 1
          have f2 := o2.out.free 2
          go_simp
          have bw := Lib.hid (below_set3 (b := v208.heap.size) (u0 := .slice w2n.A w2n.s.length w2n.ca) (u1 := .slice w2n.B w2n.m.length w2n.cb) (u2 := .int .i64 jc) bw.out (by have szc_ := szc.out; have sz101_ := sz101.out; have sz102_ := sz102.out; have szd_ := szd.out; have sz201_ := sz201.out; have sz202_ := sz202.out; have sz203_ := sz203.out; have sz204_ := sz204.out; have sz205_ := sz205.out; have sz206_ := sz206.out; have sz207_ := sz207.out; have sz208_ := sz208.out; have sz209_ := sz209.out; have sz210_ := sz210.out; have sz211_ := sz211.out; have sz212_ := sz212.out; omega))
          have bx := Lib.hid (blk_off3 (b := v208.heap.size) (u0 := .slice w2n.A w2n.s.length w2n.ca) (u1 := .slice w2n.B w2n.m.length w2n.cb) (u2 := .int .i64 jc) bx.out (by have szc_ := szc.out; have sz101_ := sz101.out; have sz102_ := sz102.out; have szd_ := szd.out; have sz201_ := sz201.out; have sz202_ := sz202.out; have sz203_ := sz203.out; have sz204_ := sz204.out; have sz205_ := sz205.out; have sz206_ := sz206.out; have sz207_ := sz207.out; have sz208_ := sz208.out; have sz209_ := sz209.out; have sz210_ := sz210.out; have sz211_ := sz211.out; have sz212_ := sz212.out; omega))
          have br := Lib.hid (blk_off3 (b := v208.heap.size) (u0 := .slice w2n.A w2n.s.length w2n.ca) (u1 := .slice w2n.B w2n.m.length w2n.cb) (u2 := .int .i64 jc) br.out (by have szc_ := szc.out; have sz101_ := sz101.out; have sz102_ := sz102.out; have szd_ := szd.out; have sz201_ := sz201.out; have sz202_ := sz202.out; have sz203_ := sz203.out; have sz204_ := sz204.out; have sz205_ := sz205.out; have sz206_ := sz206.out; have sz207_ := sz207.out; have sz208_ := sz208.out; have sz209_ := sz209.out; have sz210_ := sz210.out; have sz211_ := sz211.out; have sz212_ := sz212.out; omega))
          have o0 := Lib.hid (blk_off3 (b := v208.heap.size) (u0 := .slice w2n.A w2n.s.length w2n.ca) (u1 := .slice w2n.B w2n.m.length w2n.cb) (u2 := .int .i64 jc) o0.out (by have szc_ := szc.out; have sz101_ := sz101.out; have sz102_ := sz102.out; have szd_ := szd.out; have sz201_ := sz201.out; have sz202_ := sz202.out; have sz203_ := sz203.out; have sz204_ := sz204.out; have sz205_ := sz205.out; have sz206_ := sz206.out; have sz207_ := sz207.out; have sz208_ := sz208.out; have sz209_ := sz209.out; have sz210_ := sz210.out; have sz211_ := sz211.out; have sz212_ := sz212.out; omega))
          have w0 := Lib.hid (heldN_set3 (u0 := .slice w2n.A w2n.s.length w2n.ca) (u1 := .slice w2n.B w2n.m.length w2n.cb) (u2 := .int .i64 jc) w0.out o2.out)
          have b0 := Lib.hid (blk_off3 (b := v208.heap.size) (u0 := .slice w2n.A w2n.s.length w2n.ca) (u1 := .slice w2n.B w2n.m.length w2n.cb) (u2 := .int .i64 jc) b0.out (by have szc_ := szc.out; have sz101_ := sz101.out; have sz102_ := sz102.out; have szd_ := szd.out; have sz201_ := sz201.out; have sz202_ := sz202.out; have sz203_ := sz203.out; have sz204_ := sz204.out; have sz205_ := sz205.out; have sz206_ := sz206.out; have sz207_ := sz207.out; have sz208_ := sz208.out; have sz209_ := sz209.out; have sz210_ := sz210.out; have sz211_ := sz211.out; have sz212_ := sz212.out; omega))
          have o1 := Lib.hid (blk_off3 (b := v208.heap.size) (u0 := .slice w2n.A w2n.s.length w2n.ca) (u1 := .slice w2n.B w2n.m.length w2n.cb) (u2 := .int .i64 jc) o1.out (by have szc_ := szc.out; have sz101_ := sz101.out; have sz102_ := sz102.out; have szd_ := szd.out; have sz201_ := sz201.out; have sz202_ := sz202.out; have sz203_ := sz203.out; have sz204_ := sz204.out; have sz205_ := sz205.out; have sz206_ := sz206.out; have sz207_ := sz207.out; have sz208_ := sz208.out; have sz209_ := sz209.out; have sz210_ := sz210.out; have sz211_ := sz211.out; have sz212_ := sz212.out; omega))
          have w1 := Lib.hid (heldN_set3 (u0 := .slice w2n.A w2n.s.length w2n.ca) (u1 := .slice w2n.B w2n.m.length w2n.cb) (u2 := .int .i64 jc) w1.out o2.out)
          have w2 := Lib.hid (heldN_set3 (u0 := .slice w2n.A w2n.s.length w2n.ca) (u1 := .slice w2n.B w2n.m.length w2n.cb) (u2 := .int .i64 jc) w2.out o2.out)
          have o2 := Lib.hid (blk_set3 (u0 := .slice w2n.A w2n.s.length w2n.ca) (u1 := .slice w2n.B w2n.m.length w2n.cb) (u2 := .int .i64 jc) o2.out)
          clear y0 y1 y2 f0 f1 f2
          refine hK.out _ _ ?_ (fun hHeld => ?_)
          · exact ⟨bx.out, br.out⟩
          clear hK K
          try simp only [Act.put, List.setIfInBounds_toArray, List.set_cons_zero, List.set_cons_succ, List.getElem_toArray, List.getElem_cons_succ, List.getElem_cons_zero]
          refine wpAnyH_done (by kernel_rfl) ?_ _
          go_wp2_with fail
          go_meet
          exact ⟨_, _, _, _, rfl, o2, w2, w2P, Lib.hid (by have szc_ := szc.out; have sz101_ := sz101.out; have sz102_ := sz102.out; have szd_ := szd.out; have sz201_ := sz201.out; have sz202_ := sz202.out; have sz203_ := sz203.out; have sz204_ := sz204.out; have sz205_ := sz205.out; have sz206_ := sz206.out; have sz207_ := sz207.out; have sz208_ := sz208.out; have sz209_ := sz209.out; have sz210_ := sz210.out; have sz211_ := sz211.out; have sz212_ := sz212.out; simp only [World.size_setCell]; omega), bw, o0, w0, o1, w1⟩
      case rest =>
        obtain ⟨b2, w2n, lo2, hi2, rfl, o2, w2, w2P, sze, bw, o0, w0, o1, w1⟩ := hcut
        have w2F := Lib.hid (fewA_of w2P.out HSM.out)
        obtain ⟨o2c0, o2c1, o2c2⟩ := blk3 o2.out
        obtain ⟨o0c0, o0c1, o0c2⟩ := blk3 o0.out
        go_wp2_with fail
        clear o2c0 o2c1 o2c2 o0c0 o0c1 o0c2
        refine (eqNetOut_same w2n w0n jc _ (w2.out.lies (by have sze_ := sze.out; omega)) (w0.out.lies (by have sze_ := sze.out; omega)) (w2P.out.trans w0P.out.symm) w2F.out.1).mono ?_
        rintro e v301 ⟨rfl, hb⟩
        have bw := Lib.hid (bw.out.trans (hb.mono bw.out.size))
        have o0 := Lib.hid (o0.out.on hb)
        have w0 := Lib.hid (w0.out.step hb (.inr (Nat.le_refl _)))
        have o1 := Lib.hid (o1.out.on hb)
        have w1 := Lib.hid (w1.out.step hb (.inr (Nat.le_refl _)))
        have o2 := Lib.hid (o2.out.on hb)
        have w2 := Lib.hid (w2.out.step hb (.inr (Nat.le_refl _)))
        have sz301 := Lib.hid (show wc.heap.size ≤ v301.heap.size from hb.size)
        clear hb
        obtain ⟨o1c0, o1c1, o1c2⟩ := blk3 o1.out
        go_wp2_with fail
        clear o1c0 o1c1 o1c2
        refine (heldNetOut_any w1n jc 1 _ (w1.out.lies (by have sze_ := sze.out; have sz301_ := sz301.out; omega)) w1F.out.2).mono ?_
        rintro e v302 ⟨rfl, hb⟩
        have bw := Lib.hid (bw.out.trans (hb.mono bw.out.size))
        have o0 := Lib.hid (o0.out.on hb)
        have w0 := Lib.hid (w0.out.step hb (.inr (Nat.le_refl _)))
        have o1 := Lib.hid (o1.out.on hb)
        have w1 := Lib.hid (w1.out.step hb (.inr (Nat.le_refl _)))
        have o2 := Lib.hid (o2.out.on hb)
        have w2 := Lib.hid (w2.out.step hb (.inr (Nat.le_refl _)))
        have sz302 := Lib.hid (show v301.heap.size ≤ v302.heap.size from hb.size)
        clear hb
        rw [HZ1.out]
        go_wp2_with fail
        go_ret
        exact ⟨rfl, bw.out⟩
end Go.Proofs.YtoagdpbbojlgfaaGreat.Net
