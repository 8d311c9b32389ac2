/-
  spec.Twice.
-/
import Derived.Test.YthagkjofpfafiaaNetSGossip
namespace Go.Proofs.Ythagkjofpfafiaa.Net
open Go.ChangeShapes Go.WideShapes Go.ChangeAt Go.RowKit
open Sto (R Sl flat)
set_option linter.unusedVariables false
set_option maxRecDepth 100000
set_option linter.unusedSimpArgs false

set_option maxHeartbeats 8000000 in
set_option maxRecDepth 100000 in
theorem specTwice_any (n : Nt) (i : Int) (w : World) (h : NLies w w.heap.size n) (hL : Little n) :
    Calls Try.prog 23 #[n.val, .int .i64 i] w fun e w' => AnsN w e w' (twiP (pl n) i) (twiC (pl n) i) := by
  have hsl : n.s.length ≤ 1048576 := by have := hL.1; omega
  have hml : n.m.length ≤ 1048576 := by have := hL.1; omega
  have B0 := ((Below.refl w.heap.size w).alloc (Nat.le_refl _) (Obj.cells #[.slice n.A n.s.length n.ca, .slice n.B n.m.length n.cb] 31)).alloc (by simp) (Obj.cells #[.slice none 0 0, .slice none 0 0, .int .i64 0] 36)
  have p0 := (Blk.new w 31 #[.slice n.A n.s.length n.ca, .slice n.B n.m.length n.cb]).alloc (Obj.cells #[.slice none 0 0, .slice none 0 0, .int .i64 0] 36)
  have p1 := Blk.new (World.alloc w (Obj.cells #[.slice n.A n.s.length n.ca, .slice n.B n.m.length n.cb] 31)) 36 #[.slice none 0 0, .slice none 0 0, .int .i64 0]
  simp only [World.size_alloc] at p1
  have hz : (World.alloc (World.alloc w (Obj.cells #[.slice n.A n.s.length n.ca, .slice n.B n.m.length n.cb] 31)) (Obj.cells #[.slice none 0 0, .slice none 0 0, .int .i64 0] 36)).heap.size = w.heap.size + 2 := by simp
  have HZ := Lib.hid hz
  have HB0 := Lib.hid B0
  have HP0 := Lib.hid p0
  have HP1 := Lib.hid p1
  clear hz B0 p0 p1
  have HP2L := Lib.hid (show (pl n).2.length = n.m.length from pm_len _)
  have HRT := Lib.hid (fun W (hW : Below w.heap.size w W) => specRight_any n W (h.on hW) hL)
  have HI := Lib.hid (fun W => Id.is_any i 0 ((n.m.length : Int) - 1) W)
  cases hr : netB (pl n)
  · have HR := Lib.hid hr
    have hcm : codeM (pl n) i = 1 := by unfold codeM; rw [if_neg (by rw [hr]; decide)]
    have HGC := Lib.hid (show twiC (pl n) i = 1 by unfold twiC; rw [hcm]; rfl)
    have HGP := Lib.hid (show twiP (pl n) i = ([], []) by unfold twiP; rw [hcm]; rfl)
    rw [HGC.out, HGP.out]
    clear hr h hL HGC HGP hcm
    unfold Nt.val at HRT ⊢
    go_enter Try.func23, Try.ntmps23
    go_wp2_with fail
    refine (HRT.out _ HB0.out).mono ?_
    rintro e w1 ⟨rfl, hb⟩
    rw [HR.out]
    have HB0 := Lib.hid (HB0.out.trans (hb.mono HB0.out.size))
    have HP0 := Lib.hid (HP0.out.on hb)
    have HP1 := Lib.hid (HP1.out.on hb)
    have HZ := Lib.hid (show w.heap.size + 2 ≤ w1.heap.size from by have := HZ.out; have := hb.size; omega)
    clear hb
    obtain ⟨b0, b1⟩ := blk2 HP0.out
    go_wp2_with fail
    clear b0 b1
    refine (ill_any 1 _).mono ?_
    rintro e w2 ⟨rfl, hb⟩
    have HB0 := Lib.hid (HB0.out.trans (hb.mono HB0.out.size))
    have HP0 := Lib.hid (HP0.out.on hb)
    have HP1 := Lib.hid (HP1.out.on hb)
    have HZ := Lib.hid (show w.heap.size + 2 ≤ w2.heap.size from by have := HZ.out; have := hb.size; omega)
    clear hb
    obtain ⟨q0, q1, q2⟩ := blk3 HP1.out
    have g0 := HP1.out.free 0
    have g1 := HP1.out.free 1
    have g2 := HP1.out.free 2
    go_wp2_with fail
    refine bodyPost_ret (v := .agg #[.slice none 0 0, .slice none 0 0, .int .i64 1]) (by simp [results, Try.results23, go_sem, q0, q1, q2]) rfl ?_
    exact AnsN.ill (((HB0.out.setCell (p := ⟨w.heap.size + 1, 0, none⟩) (by show w.heap.size ≤ w.heap.size + 1; omega) _).setCell (p := ⟨w.heap.size + 1, 1, none⟩) (by show w.heap.size ≤ w.heap.size + 1; omega) _).setCell (p := ⟨w.heap.size + 1, 2, none⟩) (by show w.heap.size ≤ w.heap.size + 1; omega) _)
  have HR := Lib.hid hr
  have h40 : n.m.length ≤ 40 := by have := (okN_of hr).2.1; rw [HP2L.out] at this; exact this
  cases hq : place n.m.length i
  · have HQ := Lib.hid (show Id.inB i 0 ((n.m.length : Int) - 1) = false from hq)
    have hcm : codeM (pl n) i = 6 := by unfold codeM; rw [if_pos hr, HP2L.out, if_neg (by rw [hq]; decide)]
    have HGC := Lib.hid (show twiC (pl n) i = 6 by unfold twiC; rw [hcm]; rfl)
    have HGP := Lib.hid (show twiP (pl n) i = ([], []) by unfold twiP; rw [hcm]; rfl)
    rw [HGC.out, HGP.out]
    clear hr hq h hL HGC HGP hcm
    unfold Nt.val at HRT ⊢
    go_enter Try.func23, Try.ntmps23
    go_wp2_with fail
    refine (HRT.out _ HB0.out).mono ?_
    rintro e w1 ⟨rfl, hb⟩
    rw [HR.out]
    have HB0 := Lib.hid (HB0.out.trans (hb.mono HB0.out.size))
    have HP0 := Lib.hid (HP0.out.on hb)
    have HP1 := Lib.hid (HP1.out.on hb)
    have HZ := Lib.hid (show w.heap.size + 2 ≤ w1.heap.size from by have := HZ.out; have := hb.size; omega)
    clear hb
    obtain ⟨b0, b1⟩ := blk2 HP0.out
    go_wp2_with fail
    refine (HI.out _).mono ?_
    rintro e w2 ⟨rfl, rfl⟩
    rw [HQ.out]
    go_wp2_with fail
    clear b0 b1
    refine (ill_any 6 _).mono ?_
    rintro e w3 ⟨rfl, hb⟩
    have HB0 := Lib.hid (HB0.out.trans (hb.mono HB0.out.size))
    have HP0 := Lib.hid (HP0.out.on hb)
    have HP1 := Lib.hid (HP1.out.on hb)
    have HZ := Lib.hid (show w.heap.size + 2 ≤ w3.heap.size from by have := HZ.out; have := hb.size; omega)
    clear hb
    obtain ⟨q0, q1, q2⟩ := blk3 HP1.out
    have g0 := HP1.out.free 0
    have g1 := HP1.out.free 1
    have g2 := HP1.out.free 2
    go_wp2_with fail
    refine bodyPost_ret (v := .agg #[.slice none 0 0, .slice none 0 0, .int .i64 6]) (by simp [results, Try.results23, go_sem, q0, q1, q2]) rfl ?_
    exact AnsN.ill (((HB0.out.setCell (p := ⟨w.heap.size + 1, 0, none⟩) (by show w.heap.size ≤ w.heap.size + 1; omega) _).setCell (p := ⟨w.heap.size + 1, 1, none⟩) (by show w.heap.size ≤ w.heap.size + 1; omega) _).setCell (p := ⟨w.heap.size + 1, 2, none⟩) (by show w.heap.size ≤ w.heap.size + 1; omega) _)
  have HQ := Lib.hid (show Id.inB i 0 ((n.m.length : Int) - 1) = true from hq)
  have hcm : codeM (pl n) i = 0 := by unfold codeM; rw [if_pos hr, HP2L.out, if_pos hq]
  by_cases h4 : n.m.length = 40
  · have HGC := Lib.hid (show twiC (pl n) i = 9 by unfold twiC; rw [if_pos hcm, HP2L.out, if_pos h4])
    have HGP := Lib.hid (show twiP (pl n) i = ([], []) by unfold twiP; rw [if_pos hcm, HP2L.out, if_pos h4])
    rw [HGC.out, HGP.out]
    have h4i : ¬ (n.m.length : Int) < 40 := by omega
    have h4j : (40 : Int) ≤ n.m.length := by omega
    clear hr hq h hL HGC HGP h4 h40 hcm
    unfold Nt.val at HRT ⊢
    go_enter Try.func23, Try.ntmps23
    go_wp2_with fail
    refine (HRT.out _ HB0.out).mono ?_
    rintro e w1 ⟨rfl, hb⟩
    rw [HR.out]
    have HB0 := Lib.hid (HB0.out.trans (hb.mono HB0.out.size))
    have HP0 := Lib.hid (HP0.out.on hb)
    have HP1 := Lib.hid (HP1.out.on hb)
    have HZ := Lib.hid (show w.heap.size + 2 ≤ w1.heap.size from by have := HZ.out; have := hb.size; omega)
    clear hb
    obtain ⟨b0, b1⟩ := blk2 HP0.out
    go_wp2_with fail
    refine (HI.out _).mono ?_
    rintro e w2 ⟨rfl, rfl⟩
    rw [HQ.out]
    go_wp2_with fail
    clear b0 b1
    refine (ill_any 9 _).mono ?_
    rintro e w3 ⟨rfl, hb⟩
    have HB0 := Lib.hid (HB0.out.trans (hb.mono HB0.out.size))
    have HP0 := Lib.hid (HP0.out.on hb)
    have HP1 := Lib.hid (HP1.out.on hb)
    have HZ := Lib.hid (show w.heap.size + 2 ≤ w3.heap.size from by have := HZ.out; have := hb.size; omega)
    clear hb
    obtain ⟨q0, q1, q2⟩ := blk3 HP1.out
    have g0 := HP1.out.free 0
    have g1 := HP1.out.free 1
    have g2 := HP1.out.free 2
    go_wp2_with fail
    refine bodyPost_ret (v := .agg #[.slice none 0 0, .slice none 0 0, .int .i64 9]) (by simp [results, Try.results23, go_sem, q0, q1, q2]) rfl ?_
    exact AnsN.ill (((HB0.out.setCell (p := ⟨w.heap.size + 1, 0, none⟩) (by show w.heap.size ≤ w.heap.size + 1; omega) _).setCell (p := ⟨w.heap.size + 1, 1, none⟩) (by show w.heap.size ≤ w.heap.size + 1; omega) _).setCell (p := ⟨w.heap.size + 1, 2, none⟩) (by show w.heap.size ≤ w.heap.size + 1; omega) _)
  have h4i : (n.m.length : Int) < 40 := by omega
  have h4j : ¬ (40 : Int) ≤ n.m.length := by omega
  obtain ⟨k, rfl, hk⟩ := place_nat hq
  have HC0 := Lib.hid (fun W (hW : Below w.heap.size w W) => (h.2.below hW (Nat.le_refl _)).at_ hk)
  have hxl : n.m[k].x.l.length ≤ 1048576 := by have := tot_mem (s := n.all) (show n.m[k].x ∈ n.all from List.mem_append_right n.s (List.mem_map.2 ⟨_, List.getElem_mem hk, rfl⟩)); have := hL.1; omega
  have hgd : (pl n).2.getD k ⟨0, 0, []⟩ = ⟨n.m[k].f, n.m[k].t, n.m[k].x.l⟩ := by
    show (pm n.m).getD k _ = _
    unfold pm; simp [List.getD, hk]
  obtain ⟨ad, hA, _⟩ := HC0.out w (Below.refl _ _)
  have HLX := Lib.hid (show ∀ W, Below w.heap.size w W → Sto.Lies W W.heap.size n.m[k].x.A n.m[k].x.l from fun W hW => by
    obtain ⟨_, _, _, _, hl⟩ := HC0.out W hW
    exact hl.more hW.size)
  have HCELL := Lib.hid (show ∀ W, Below w.heap.size w W → MAt W (ad.add (k * 3)) n.m[k] from fun W hW => by
    obtain ⟨ad', e, _, hc, _⟩ := HC0.out W hW
    rw [hA] at e
    cases e
    exact hc)
  have HCP := Lib.hid (fun W (hW : Below w.heap.size w W) => specCopy_any n W (h.on hW) hL)
  have HJP := Lib.hid (show addP (pl n) ⟨n.m[k].f, n.m[k].t, n.m[k].x.l⟩ = twiP (pl n) k by unfold twiP; rw [if_pos hcm, HP2L.out, if_neg h4, Int.toNat_natCast, hgd])
  have HGC := Lib.hid (show twiC (pl n) k = 0 by unfold twiC; rw [if_pos hcm, HP2L.out, if_neg h4])
  rw [HGC.out]
  have hki : (k : Int) < n.m.length := by omega
  obtain ⟨x, hx⟩ : ∃ x, n.m[k] = x := ⟨_, rfl⟩
  rw [hx] at HCELL HJP HLX hxl
  clear hr hq h hL hgd HC0 HGC hx h4 hcm
  obtain ⟨xf, xt, xA, xl, xc⟩ := x
  have HPLN := Lib.hid hA
  unfold Nt.val at HRT HCP ⊢
  simp only [hA] at HRT HCP HP0 HP1 HB0 HZ ⊢
  simp only at hxl HJP HLX HCELL
  clear hA
  go_enter Try.func23, Try.ntmps23
  go_wp2_with fail
  refine (HRT.out _ HB0.out).mono ?_
  rintro e w1 ⟨rfl, hb⟩
  rw [HR.out]
  have HB0 := Lib.hid (HB0.out.trans (hb.mono HB0.out.size))
  have HP0 := Lib.hid (HP0.out.on hb)
  have HP1 := Lib.hid (HP1.out.on hb)
  have HZ := Lib.hid (show w.heap.size + 2 ≤ w1.heap.size from by have := HZ.out; have := hb.size; omega)
  clear hb
  obtain ⟨b0, b1⟩ := blk2 HP0.out
  go_wp2_with fail
  refine (HI.out _).mono ?_
  rintro e w2 ⟨rfl, rfl⟩
  rw [HQ.out]
  go_wp2_with fail
  clear b0 b1
  refine (HCP.out _ HB0.out).mono ?_
  rintro e v0 ⟨n', rfl, hp, ho, hb⟩
  have HPP := Lib.hid hp
  have HO1 := Lib.hid (ho.less (show w.heap.size + 2 ≤ _ from HZ.out))
  have hnm : n'.m.length = n.m.length := by have := congrArg (fun q => q.2.length) hp; simpa [pl, pm_len] using this
  have hnl : n'.m.length ≤ 1048576 := by omega
  have HB0 := Lib.hid (HB0.out.trans (hb.mono HB0.out.size))
  have HP0 := Lib.hid (HP0.out.on hb)
  have HP1 := Lib.hid (HP1.out.on hb)
  have HZ := Lib.hid (show w.heap.size + 2 ≤ v0.heap.size from by have := HZ.out; have := hb.size; omega)
  clear hp ho hb hnm
  unfold Nt.val
  obtain ⟨c0, c1, c2⟩ := HCELL.out (World.alloc v0 (Obj.cells #[.slice n'.A n'.s.length n'.ca, .slice n'.B n'.m.length n'.cb] 31)) (HB0.out.alloc HB0.out.size _)
  obtain ⟨b0, b1⟩ := blk2 (HP0.out.alloc (Obj.cells #[.slice n'.A n'.s.length n'.ca, .slice n'.B n'.m.length n'.cb] 31))
  go_upto_region 9 with fail
  clear c0 c1 c2 b0 b1
  have XB1 := Lib.hid ((Blk.new v0 31 #[.slice n'.A n'.s.length n'.ca, .slice n'.B n'.m.length n'.cb]).alloc (Obj.cells #[.int .i64 xf, .int .i64 xt, .slice xA xl.length xc] 51))
  have LB1 := Lib.hid (Blk.new (World.alloc v0 (Obj.cells #[.slice n'.A n'.s.length n'.ca, .slice n'.B n'.m.length n'.cb] 31)) 51 #[.int .i64 xf, .int .i64 xt, .slice xA xl.length xc])
  have LZ := Lib.hid (show (World.alloc v0 (Obj.cells #[.slice n'.A n'.s.length n'.ca, .slice n'.B n'.m.length n'.cb] 31)).heap.size = v0.heap.size + 1 by simp)
  have LZ2 := Lib.hid (show (World.alloc (World.alloc v0 (Obj.cells #[.slice n'.A n'.s.length n'.ca, .slice n'.B n'.m.length n'.cb] 31)) (Obj.cells #[.int .i64 xf, .int .i64 xt, .slice xA xl.length xc] 51)).heap.size = v0.heap.size + 2 by simp)
  rw [LZ.out] at LB1
  have N1 := Lib.hid ((HO1.out.alloc (Obj.cells #[.slice n'.A n'.s.length n'.ca, .slice n'.B n'.m.length n'.cb] 31)).alloc (Obj.cells #[.int .i64 xf, .int .i64 xt, .slice xA xl.length xc] 51))
  have BW0 := Lib.hid ((HB0.out.alloc HB0.out.size (Obj.cells #[.slice n'.A n'.s.length n'.ca, .slice n'.B n'.m.length n'.cb] 31)).alloc (by have := HB0.out.size; simp; omega) (Obj.cells #[.int .i64 xf, .int .i64 xt, .slice xA xl.length xc] 51))
  have Z1 := Lib.hid ((HP1.out.alloc (Obj.cells #[.slice n'.A n'.s.length n'.ca, .slice n'.B n'.m.length n'.cb] 31)).alloc (Obj.cells #[.int .i64 xf, .int .i64 xt, .slice xA xl.length xc] 51))
  generalize World.alloc (World.alloc v0 (Obj.cells #[.slice n'.A n'.s.length n'.ca, .slice n'.B n'.m.length n'.cb] 31)) (Obj.cells #[.int .i64 xf, .int .i64 xt, .slice xA xl.length xc] 51) = V at XB1 LB1 LZ2 N1 BW0 Z1 ⊢
  have BW1 := Lib.hid (BW0.out.alloc BW0.out.size (Obj.cells #[] 62))
  obtain ⟨l0, l1, l2⟩ := blk3 (LB1.out.alloc (Obj.cells #[] 62))
  go_upto_region 10 with (at_builtin; refine wpList_app fit_rows rfl rfl rfl (flat xl) rfl rfl (o_none V 62 5) (cl_rows (HLX.out _ BW1.out)) (Sto.flat_length _) (Sto.flat_one _) (by omega) (by simp) ?_; intro v1 u2 ho hg hn; rw [Nat.zero_add, List.nil_append] at ho; obtain ⟨A', c', rfl, -⟩ := o_val ho; have BV2 := Lib.hid (((Below.refl V.heap.size V).alloc (Nat.le_refl _) (Obj.cells #[] 62)).grown hg (by simp) (fun k e => by cases e; exact Nat.le_refl _)); have HX2 := Lib.hid (show HeldX u2 ⟨A', xl, c'⟩ V.heap.size u2.heap.size from HeldX.of (Sto.Held.of_own ho)); have LB2 := Lib.hid (LB1.out.on BV2.out); obtain ⟨l0, l1, l2⟩ := blk3 LB2.out; have lf := LB2.out.free 2; clear ho hg hn)
  clear l0 l1 l2 lf
  have N1b := Lib.hid (N1.out.step BV2.out)
  have N2 := Lib.hid (N1b.out.letter LB2.out (fun k e => by have := (HO1.out.lt k e).2; omega) 2 (.slice A' xl.length c'))
  have XB2 := Lib.hid ((XB1.out.on BV2.out).other (p := ⟨v0.heap.size + 1, 2, none⟩) (by show v0.heap.size ≠ v0.heap.size + 1; omega) (.slice A' xl.length c'))
  have Z2 := Lib.hid ((Z1.out.on BV2.out).other (p := ⟨v0.heap.size + 1, 2, none⟩) (by show w.heap.size + 1 ≠ v0.heap.size + 1; have := HZ.out; omega) (.slice A' xl.length c'))
  have LB3 := Lib.hid (show Blk (u2.setCell ⟨v0.heap.size + 1, 2, none⟩ (.slice A' xl.length c')) (v0.heap.size + 1) 51 #[.int .i64 xf, .int .i64 xt, .slice A' xl.length c'] from LB2.out.set 2 (.slice A' xl.length c') rfl)
  have B2 := Lib.hid ((BW0.out.trans (BV2.out.mono BW0.out.size)).setCell (p := ⟨v0.heap.size + 1, 2, none⟩) (by show w.heap.size ≤ v0.heap.size + 1; have := HZ.out; omega) (.slice A' xl.length c'))
  have R2 := Lib.hid (show HeldL (u2.setCell ⟨v0.heap.size + 1, 2, none⟩ (.slice A' xl.length c')) (n'.all ++ [⟨A', xl, c'⟩]) (w.heap.size + 2) (u2.setCell ⟨v0.heap.size + 1, 2, none⟩ (.slice A' xl.length c')).heap.size from by
    rw [World.size_setCell]
    exact held_box ((N1.out.r0.step BV2.out (.inr (Nat.le_refl _))).snoc HX2.out (by have := HZ.out; have := LZ2.out; omega) (Nat.le_refl _) BV2.out.size) LB2.out (by decide) 2 _)
  have SZ3 := Lib.hid (show v0.heap.size + 2 ≤ (u2.setCell ⟨v0.heap.size + 1, 2, none⟩ (.slice A' xl.length c')).heap.size from by rw [World.size_setCell]; have := BV2.out.size; have := LZ2.out; omega)
  clear N1b HX2 LB2
  generalize u2.setCell ⟨v0.heap.size + 1, 2, none⟩ (.slice A' xl.length c') = w3 at N2 XB2 Z2 LB3 B2 R2 SZ3 ⊢
  obtain ⟨x0, x1⟩ := blk2 XB2.out
  obtain ⟨l0, l1, l2⟩ := blk3 LB3.out
  have hz3 := SZ3.out
  have hz0 := HZ.out
  go_upto_region 11 with (at_builtin; refine wpList_app fit_letters rfl rfl rfl (mv [⟨xf, xt, ⟨A', xl, c'⟩⟩]) rfl rfl (N2.out.alloc (Obj.cells #[.int .i64 xf, .int .i64 xt, .slice A' xl.length c'] 51)).m0 (cl_one_at _ _ #[.int .i64 xf, .int .i64 xt, .slice A' xl.length c'] rfl) rfl (mv_one _) (by omega) (by have := SZ3.out; simp; omega) ?_; intro v2 w2 ho2 hg2 hn2; obtain ⟨A2, c2, rfl, -⟩ := o_val ho2; have N3 := Lib.hid ((N2.out.alloc (Obj.cells #[.int .i64 xf, .int .i64 xt, .slice A' xl.length c'] 51)).addM (y := ⟨xf, xt, ⟨A', xl, c'⟩⟩) ((R2.out.step ((Below.refl _ w3).alloc (Nat.le_refl _) (Obj.cells #[.int .i64 xf, .int .i64 xt, .slice A' xl.length c'] 51)) (.inr (Nat.le_refl _))).wide (Nat.le_refl _) (by simp)) ho2 hg2); have HX3 := Lib.hid (show Blk w2 v0.heap.size 31 #[.slice n'.A n'.s.length n'.ca, .slice n'.B n'.m.length n'.cb] from (hg2.block _ (XB2.out.alloc (Obj.cells #[.int .i64 xf, .int .i64 xt, .slice A' xl.length c'] 51)).lt (fun e => by have := (HO1.out.lt _ e.symm).2; omega)).trans (XB2.out.alloc (Obj.cells #[.int .i64 xf, .int .i64 xt, .slice A' xl.length c'] 51))); have Z3 := Lib.hid (grown_out (N2.out.alloc (Obj.cells #[.int .i64 xf, .int .i64 xt, .slice A' xl.length c'] 51)).m0 hg2 (by omega) (Z2.out.alloc (Obj.cells #[.int .i64 xf, .int .i64 xt, .slice A' xl.length c'] 51))); have B3 := Lib.hid ((B2.out.alloc B2.out.size (Obj.cells #[.int .i64 xf, .int .i64 xt, .slice A' xl.length c'] 51)).grown hg2 (by have := B2.out.size; simp; omega) (fun k e => by have := o_base N2.out.m0 k e; omega)); obtain ⟨z0, z1⟩ := blk2 HX3.out; have zf := HX3.out.free 1; clear ho2 hg2 hn2)
  clear x0 x1 l0 l1 l2 hz3 hz0
  have HXS := Lib.hid (out_set9 HX3.out (Value.slice A2 (n'.m.length + 1) c2))
  have N4 := Lib.hid (N3.out.box HX3.out (by decide) (by decide) (by decide) 1 (Value.slice A2 (n'.m.length + 1) c2))
  have B4 := Lib.hid (B3.out.setCell (p := ⟨v0.heap.size, 1, none⟩) (by show w.heap.size ≤ v0.heap.size; have := HZ.out; omega) (Value.slice A2 (n'.m.length + 1) c2))
  have Z4 := Lib.hid (Z3.out.other (p := ⟨v0.heap.size, 1, none⟩) (by show w.heap.size + 1 ≠ v0.heap.size; have := HZ.out; omega) (Value.slice A2 (n'.m.length + 1) c2))
  generalize w2.setCell ⟨v0.heap.size, 1, none⟩ (Value.slice A2 (n'.m.length + 1) c2) = w4 at HXS N4 B4 Z4 ⊢
  obtain ⟨y0, y1⟩ := blk2 HXS.out
  obtain ⟨q0, q1, q2⟩ := blk3 Z4.out
  have g0 := Z4.out.free 0
  have g1 := Z4.out.free 1
  have g2 := Z4.out.free 2
  clear z0 z1 zf
  go_wp2_with fail
  refine bodyPost_ret (v := Nt.out ⟨n'.A, n'.s, n'.ca, A2, n'.m ++ [⟨xf, xt, ⟨A', xl, c'⟩⟩], c2⟩ 0) (by simp [results, Try.results23, go_sem, Nt.out, q0, q1, q2]) rfl ?_
  refine AnsN.own ?_ ?_ ?_
  · exact (((N4.out.box Z4.out (by decide) (by decide) (by decide) 0 _).box (Z4.out.set 0 _ rfl) (by decide) (by decide) (by decide) 1 _).box ((Z4.out.set 0 _ rfl).set 1 _ rfl) (by decide) (by decide) (by decide) 2 _).less (by omega)
  · rw [← HJP.out, ← HPP.out]; unfold addP pl pm; simp
  · exact ((B4.out.setCell (p := ⟨w.heap.size + 1, 0, none⟩) (by show w.heap.size ≤ w.heap.size + 1; omega) _).setCell (p := ⟨w.heap.size + 1, 1, none⟩) (by show w.heap.size ≤ w.heap.size + 1; omega) _).setCell (p := ⟨w.heap.size + 1, 2, none⟩) (by show w.heap.size ≤ w.heap.size + 1; omega) _
end Go.Proofs.Ythagkjofpfafiaa.Net
