/-
  spec.l06Take, spec.Lose.
-/
import Derived.Test.YthagkjofpfafiaaNetLose
import Derived.Test.YthagkjofpfafiaaNetSTwice
namespace Go.Proofs.Ythagkjofpfafiaa.Net
open Go.ChangeShapes Go.WideShapes Go.ChangeAt Go.RowKit
open Sto (R Sl flat)
set_option linter.unusedVariables false
set_option maxRecDepth 100000
set_option linter.unusedSimpArgs false

/-- A net of which one letter is left out. -/
theorem OwnN.part {V u : World} {n : Nt} {a k : Nat} (h : OwnN V n a) (ha : a ≤ V.heap.size) (hb : Below V.heap.size V u) {A2 : Option Addr} {c2 N : Nat} (hN : N = n.m.length - 1) (ho : u.ownsRow V.heap.size 51 3 (.slice A2 N c2) N (mv (n.m.take k) ++ mv (n.m.drop (k + 1)))) (hk : k < n.m.length) :
    OwnN u ⟨n.A, n.s, n.ca, A2, n.m.eraseIdx k, c2⟩ a := by
  subst hN
  have he : (n.m.eraseIdx k).length = n.m.length - 1 := by rw [List.length_eraseIdx]; simp [hk]
  refine ⟨o_step h.s0 hb (Nat.le_refl _), ?_, ?_⟩
  · simp only [he]
    rw [erase_eq n.m k hk, mv_append]
    exact o_less ho ha
  · have := (h.r0.step hb (.inr (Nat.le_refl _))).wide (Nat.le_refl _) hb.size
    refine held_sub this ?_
    unfold Nt.all
    exact List.Sublist.append (List.Sublist.refl _) ((List.eraseIdx_sublist _ _).map _)

set_option maxHeartbeats 8000000 in
set_option maxRecDepth 100000 in
theorem specTake_any (n : Nt) (k : Nat) (w : World) (h : NLies w w.heap.size n) (hL : Little n) (hk : k < n.m.length) :
    Calls Try.prog 48 #[n.val, .int .i64 k] w fun e w' => AnsO w e w' ((pl n).1, (pl n).2.eraseIdx k) := by
  have hsl : n.s.length ≤ 1048576 := by have := hL.1; omega
  have hml : n.m.length ≤ 1048576 := by have := hL.1; omega
  have B0 := ((Below.refl w.heap.size w).alloc (Nat.le_refl _) (Obj.cells #[.slice n.A n.s.length n.ca, .slice n.B n.m.length n.cb] 31)).alloc (by simp) (Obj.cells #[.slice none 0 0, .slice none 0 0] 31)
  have p0 := (Blk.new w 31 #[.slice n.A n.s.length n.ca, .slice n.B n.m.length n.cb]).alloc (Obj.cells #[.slice none 0 0, .slice none 0 0] 31)
  have p1 := Blk.new (World.alloc w (Obj.cells #[.slice n.A n.s.length n.ca, .slice n.B n.m.length n.cb] 31)) 31 #[.slice none 0 0, .slice none 0 0]
  simp only [World.size_alloc] at p1
  have hz : (World.alloc (World.alloc w (Obj.cells #[.slice n.A n.s.length n.ca, .slice n.B n.m.length n.cb] 31)) (Obj.cells #[.slice none 0 0, .slice none 0 0] 31)).heap.size = w.heap.size + 2 := by simp
  have HZ := Lib.hid hz
  have HB0 := Lib.hid B0
  have HP0 := Lib.hid p0
  have HP1 := Lib.hid p1
  clear hz B0 p0 p1
  have HCP := Lib.hid (fun W (hW : Below w.heap.size w W) => specCopy_any n W (h.on hW) hL)
  clear h hL
  unfold Nt.val at HCP ⊢
  go_enter Try.func48, Try.ntmps48
  obtain ⟨b0, b1⟩ := blk2 HP0.out
  go_wp2_with fail
  clear b0 b1
  have HZ := Lib.hid (Nat.le_of_eq HZ.out.symm)
  refine (HCP.out _ HB0.out).mono ?_
  rintro e v0 ⟨n', rfl, hp, ho, hb⟩
  have HPP := Lib.hid hp
  have HO1 := Lib.hid (ho.less (show w.heap.size + 2 ≤ _ from HZ.out))
  have hnm : n'.m.length = n.m.length := by have := congrArg (fun q => q.2.length) hp; simpa [pl, pm_len] using this
  have hnl : n'.m.length ≤ 1048576 := by omega
  have HB0 := Lib.hid (HB0.out.trans (hb.mono HB0.out.size))
  have HP0 := Lib.hid (HP0.out.on hb)
  have HP1 := Lib.hid (HP1.out.on hb)
  have HZ := Lib.hid (show w.heap.size + 2 ≤ v0.heap.size from by have := HZ.out; have := hb.size; omega)
  have HNM := Lib.hid hnm
  clear hp ho hb hnm
  have hkm : k < n'.m.length := by have := HNM.out; omega
  obtain ⟨g, hgB, hgl, hcb, hcm⟩ := own_some HO1.out (by omega)
  obtain ⟨A1, s1, ca1, B1, m1, cb1⟩ := n'
  unfold Nt.val
  simp only at hgB hkm hnl hgl hcb hcm
  subst hgB
  have XB1 := Lib.hid (Blk.new v0 31 #[.slice A1 s1.length ca1, .slice (some ⟨g, 0, none⟩) m1.length cb1])
  have LZ := Lib.hid (show (World.alloc v0 (Obj.cells #[.slice A1 s1.length ca1, .slice (some ⟨g, 0, none⟩) m1.length cb1] 31)).heap.size = v0.heap.size + 1 by simp)
  have N1 := Lib.hid (HO1.out.alloc (Obj.cells #[.slice A1 s1.length ca1, .slice (some ⟨g, 0, none⟩) m1.length cb1] 31))
  have BW1 := Lib.hid (HB0.out.alloc HB0.out.size (Obj.cells #[.slice A1 s1.length ca1, .slice (some ⟨g, 0, none⟩) m1.length cb1] 31))
  have Z1 := Lib.hid (HP1.out.alloc (Obj.cells #[.slice A1 s1.length ca1, .slice (some ⟨g, 0, none⟩) m1.length cb1] 31))
  have P1 := Lib.hid (HP0.out.alloc (Obj.cells #[.slice A1 s1.length ca1, .slice (some ⟨g, 0, none⟩) m1.length cb1] 31))
  have HM1 := Lib.hid (show mv m1 = mv (m1.take k) ++ mv (m1.drop k) by rw [← mv_append, List.take_append_drop])
  have HM2 := Lib.hid (show mv m1 = mv (m1.take (k + 1)) ++ mv (m1.drop (k + 1)) by rw [← mv_append, List.take_append_drop])
  clear HNM
  go_upto_region 2 with fail
  generalize World.alloc v0 (Obj.cells #[.slice A1 s1.length ca1, .slice (some ⟨g, 0, none⟩) m1.length cb1] 31) = V at XB1 LZ N1 BW1 Z1 P1 ⊢
  have HPRE := Lib.hid (show Cl (V.alloc (Obj.cells #[] 51)) (V.alloc (Obj.cells #[] 51)).heap.size (some ⟨g, 0, none⟩) (mv (m1.take k)) from by
    obtain ⟨_, _, e, _, _, hc, _⟩ := o_val (N1.out.alloc (Obj.cells #[] 51)).m0
    cases e
    rw [show mv m1 = _ from HM1.out] at hc
    exact cl_pre hc)
  obtain ⟨x0, x1⟩ := blk2 (XB1.out.alloc (Obj.cells #[] 51))
  have hkcb : (k : Int) ≤ cb1 := by omega
  go_upto_region 3 with (at_builtin; refine wpList_app fit_letters rfl rfl rfl (mv (m1.take k)) rfl rfl (o_none V 51 3) (HPRE.out) (by rw [mv_len, List.length_take, Nat.min_eq_left (Nat.le_of_lt hkm)]) (mv_one _) (by omega) (by simp) ?_; intro v1 u1 ho hg hn; rw [Nat.zero_add, List.nil_append] at ho; obtain ⟨A', c', rfl, -⟩ := o_val ho; have HO2 := Lib.hid ho; have BV2 := Lib.hid (((Below.refl V.heap.size V).alloc (Nat.le_refl _) (Obj.cells #[] 51)).grown hg (by simp) (fun k e => by cases e; exact Nat.le_refl _)); clear ho hg hn)
  clear x0 x1
  obtain ⟨x0, x1⟩ := blk2 (XB1.out.on BV2.out)
  have HCL := Lib.hid (show Cl u1 u1.heap.size (some ⟨g, 0, none⟩) (mv m1) from by
    obtain ⟨_, _, e, _, _, hc, _⟩ := o_val (N1.out.step BV2.out).m0
    cases e
    exact hc)
  have hki : (k : Int) + 1 ≤ m1.length := by omega
  have hka : (0 : Int) ≤ (k : Int) + 1 := by omega
  by_cases hcap : cb1 = k + 1
  · have HSUF := Lib.hid (show Cl u1 u1.heap.size (some ⟨g, 0, none⟩) (mv (m1.drop (k + 1))) from by
      have e0 : m1.drop (k + 1) = [] := List.drop_eq_nil_of_le (by omega)
      rw [e0]; exact Cl.nil _ _ _)
    subst hcap
    go_upto_region 4 with (at_builtin; refine wpList_app fit_letters rfl rfl rfl (mv (m1.drop (k + 1))) rfl rfl HO2.out (HSUF.out) (by rw [mv_len, List.length_drop] <;> omega) (mv_one _) (by omega) (by have := BV2.out.size; omega) ?_; intro v2 u2 ho2 hg2 hn2; rw [show k + 0 = m1.length - 1 by omega] at ho2; obtain ⟨A2, c2, rfl, -⟩ := o_val ho2; have BV3 := Lib.hid (BV2.out.grown hg2 BV2.out.size (fun j e => o_base HO2.out j e)); have N3 := Lib.hid (OwnN.part N1.out (by have := HZ.out; have := LZ.out; omega) BV3.out rfl ho2 hkm); have HX3 := Lib.hid (XB1.out.on BV3.out); have Z3 := Lib.hid (Z1.out.on BV3.out); have B3 := Lib.hid (BW1.out.trans (BV3.out.mono BW1.out.size)); obtain ⟨z0, z1⟩ := blk2 HX3.out; have zf := HX3.out.free 1; clear ho2 hg2 hn2)
    clear x0 x1
    have HXS := Lib.hid (out_set9 HX3.out (.slice A2 (m1.length - 1) c2))
    have N4 := Lib.hid (N3.out.box HX3.out (by decide) (by decide) (by decide) 1 (.slice A2 (m1.length - 1) c2))
    have B4 := Lib.hid (B3.out.setCell (p := ⟨v0.heap.size, 1, none⟩) (by show w.heap.size ≤ v0.heap.size; have := HZ.out; omega) (.slice A2 (m1.length - 1) c2))
    have Z4 := Lib.hid (Z3.out.other (p := ⟨v0.heap.size, 1, none⟩) (by show w.heap.size + 1 ≠ v0.heap.size; have := HZ.out; omega) (.slice A2 (m1.length - 1) c2))
    generalize u2.setCell ⟨v0.heap.size, 1, none⟩ (.slice A2 (m1.length - 1) c2) = w4 at HXS N4 B4 Z4 ⊢
    obtain ⟨y0, y1⟩ := blk2 HXS.out
    obtain ⟨q0, q1⟩ := blk2 Z4.out
    have g0 := Z4.out.free 0
    have g1 := Z4.out.free 1
    have he : (m1.eraseIdx k).length = m1.length - 1 := by rw [List.length_eraseIdx]; simp [hkm]
    have HE := Lib.hid he
    clear he HX3 z0 z1 zf
    go_wp2_with fail
    refine bodyPost_ret (v := Nt.val ⟨A1, s1, ca1, A2, m1.eraseIdx k, c2⟩) (by simp [results, Try.results48, go_sem, Nt.val, q0, q1, HE.out]) rfl ⟨_, rfl, ?_, ?_, ?_⟩
    · rw [← HPP.out]; show (ps s1, pm (m1.eraseIdx k)) = _; rw [pm_erase m1 k hkm]; rfl
    · exact ((N4.out.box Z4.out (by decide) (by decide) (by decide) 0 _).box (Z4.out.set 0 _ rfl) (by decide) (by decide) (by decide) 1 _).less (by omega)
    · exact (B4.out.setCell (p := ⟨w.heap.size + 1, 0, none⟩) (by show w.heap.size ≤ w.heap.size + 1; omega) _).setCell (p := ⟨w.heap.size + 1, 1, none⟩) (by show w.heap.size ≤ w.heap.size + 1; omega) _
  · have HSUF := Lib.hid (show Cl u1 u1.heap.size (some ⟨g, (k + 1) * 3, none⟩) (mv (m1.drop (k + 1))) from by
      have hc := HCL.out
      rw [HM2.out] at hc
      exact cl_suf hc (by rw [mv_len, List.length_take]; omega))
    go_upto_region 4 with (at_builtin; refine wpList_app fit_letters rfl rfl rfl (mv (m1.drop (k + 1))) rfl rfl HO2.out (HSUF.out) (by rw [mv_len, List.length_drop] <;> omega) (mv_one _) (by omega) (by have := BV2.out.size; omega) ?_; intro v2 u2 ho2 hg2 hn2; rw [show k + (m1.length - (k + 1)) = m1.length - 1 by omega] at ho2; obtain ⟨A2, c2, rfl, -⟩ := o_val ho2; have BV3 := Lib.hid (BV2.out.grown hg2 BV2.out.size (fun j e => o_base HO2.out j e)); have N3 := Lib.hid (OwnN.part N1.out (by have := HZ.out; have := LZ.out; omega) BV3.out rfl ho2 hkm); have HX3 := Lib.hid (XB1.out.on BV3.out); have Z3 := Lib.hid (Z1.out.on BV3.out); have B3 := Lib.hid (BW1.out.trans (BV3.out.mono BW1.out.size)); obtain ⟨z0, z1⟩ := blk2 HX3.out; have zf := HX3.out.free 1; clear ho2 hg2 hn2)
    clear x0 x1
    have HXS := Lib.hid (out_set9 HX3.out (.slice A2 (m1.length - 1) c2))
    have N4 := Lib.hid (N3.out.box HX3.out (by decide) (by decide) (by decide) 1 (.slice A2 (m1.length - 1) c2))
    have B4 := Lib.hid (B3.out.setCell (p := ⟨v0.heap.size, 1, none⟩) (by show w.heap.size ≤ v0.heap.size; have := HZ.out; omega) (.slice A2 (m1.length - 1) c2))
    have Z4 := Lib.hid (Z3.out.other (p := ⟨v0.heap.size, 1, none⟩) (by show w.heap.size + 1 ≠ v0.heap.size; have := HZ.out; omega) (.slice A2 (m1.length - 1) c2))
    generalize u2.setCell ⟨v0.heap.size, 1, none⟩ (.slice A2 (m1.length - 1) c2) = w4 at HXS N4 B4 Z4 ⊢
    obtain ⟨y0, y1⟩ := blk2 HXS.out
    obtain ⟨q0, q1⟩ := blk2 Z4.out
    have g0 := Z4.out.free 0
    have g1 := Z4.out.free 1
    have he : (m1.eraseIdx k).length = m1.length - 1 := by rw [List.length_eraseIdx]; simp [hkm]
    have HE := Lib.hid he
    clear he HX3 z0 z1 zf
    go_wp2_with fail
    refine bodyPost_ret (v := Nt.val ⟨A1, s1, ca1, A2, m1.eraseIdx k, c2⟩) (by simp [results, Try.results48, go_sem, Nt.val, q0, q1, HE.out]) rfl ⟨_, rfl, ?_, ?_, ?_⟩
    · rw [← HPP.out]; show (ps s1, pm (m1.eraseIdx k)) = _; rw [pm_erase m1 k hkm]; rfl
    · exact ((N4.out.box Z4.out (by decide) (by decide) (by decide) 0 _).box (Z4.out.set 0 _ rfl) (by decide) (by decide) (by decide) 1 _).less (by omega)
    · exact (B4.out.setCell (p := ⟨w.heap.size + 1, 0, none⟩) (by show w.heap.size ≤ w.heap.size + 1; omega) _).setCell (p := ⟨w.heap.size + 1, 1, none⟩) (by show w.heap.size ≤ w.heap.size + 1; omega) _

set_option maxHeartbeats 8000000 in
set_option maxRecDepth 100000 in
theorem specLose_any (n : Nt) (i : Int) (w : World) (h : NLies w w.heap.size n) (hL : Little n) :
    Calls Try.prog 21 #[n.val, .int .i64 i] w fun e w' => AnsN w e w' (losP (pl n) i) (codeM (pl n) i) := by
  have hsl : n.s.length ≤ 1048576 := by have := hL.1; omega
  have hml : n.m.length ≤ 1048576 := by have := hL.1; omega
  have B0 := ((Below.refl w.heap.size w).alloc (Nat.le_refl _) (Obj.cells #[.slice n.A n.s.length n.ca, .slice n.B n.m.length n.cb] 31)).alloc (by simp) (Obj.cells #[.slice none 0 0, .slice none 0 0, .int .i64 0] 36)
  have p0 := (Blk.new w 31 #[.slice n.A n.s.length n.ca, .slice n.B n.m.length n.cb]).alloc (Obj.cells #[.slice none 0 0, .slice none 0 0, .int .i64 0] 36)
  have p1 := Blk.new (World.alloc w (Obj.cells #[.slice n.A n.s.length n.ca, .slice n.B n.m.length n.cb] 31)) 36 #[.slice none 0 0, .slice none 0 0, .int .i64 0]
  simp only [World.size_alloc] at p1
  have hz : (World.alloc (World.alloc w (Obj.cells #[.slice n.A n.s.length n.ca, .slice n.B n.m.length n.cb] 31)) (Obj.cells #[.slice none 0 0, .slice none 0 0, .int .i64 0] 36)).heap.size = w.heap.size + 2 := by simp
  have HZ := Lib.hid hz
  have HB0 := Lib.hid B0
  have HP0 := Lib.hid p0
  have HP1 := Lib.hid p1
  clear hz B0 p0 p1
  have HP2L := Lib.hid (show (pl n).2.length = n.m.length from pm_len _)
  have HRT := Lib.hid (fun W (hW : Below w.heap.size w W) => specRight_any n W (h.on hW) hL)
  have HI := Lib.hid (fun W => Id.is_any i 0 ((n.m.length : Int) - 1) W)
  cases hr : netB (pl n)
  · have HR := Lib.hid hr
    have hcm : codeM (pl n) i = 1 := by unfold codeM; rw [if_neg (by rw [hr]; decide)]
    have HGC := Lib.hid hcm
    have HGP := Lib.hid (show losP (pl n) i = ([], []) by unfold losP; rw [hcm]; rfl)
    rw [HGC.out, HGP.out]
    clear hr h hL HGC HGP hcm
    unfold Nt.val at HRT ⊢
    go_enter Try.func21, Try.ntmps21
    go_wp2_with fail
    refine (HRT.out _ HB0.out).mono ?_
    rintro e w1 ⟨rfl, hb⟩
    rw [HR.out]
    have HB0 := Lib.hid (HB0.out.trans (hb.mono HB0.out.size))
    have HP0 := Lib.hid (HP0.out.on hb)
    have HP1 := Lib.hid (HP1.out.on hb)
    have HZ := Lib.hid (show w.heap.size + 2 ≤ w1.heap.size from by have := HZ.out; have := hb.size; omega)
    clear hb
    obtain ⟨b0, b1⟩ := blk2 HP0.out
    go_wp2_with fail
    clear b0 b1
    refine (ill_any 1 _).mono ?_
    rintro e w2 ⟨rfl, hb⟩
    have HB0 := Lib.hid (HB0.out.trans (hb.mono HB0.out.size))
    have HP0 := Lib.hid (HP0.out.on hb)
    have HP1 := Lib.hid (HP1.out.on hb)
    have HZ := Lib.hid (show w.heap.size + 2 ≤ w2.heap.size from by have := HZ.out; have := hb.size; omega)
    clear hb
    obtain ⟨q0, q1, q2⟩ := blk3 HP1.out
    have g0 := HP1.out.free 0
    have g1 := HP1.out.free 1
    have g2 := HP1.out.free 2
    go_wp2_with fail
    refine bodyPost_ret (v := .agg #[.slice none 0 0, .slice none 0 0, .int .i64 1]) (by simp [results, Try.results21, go_sem, q0, q1, q2]) rfl ?_
    exact AnsN.ill (((HB0.out.setCell (p := ⟨w.heap.size + 1, 0, none⟩) (by show w.heap.size ≤ w.heap.size + 1; omega) _).setCell (p := ⟨w.heap.size + 1, 1, none⟩) (by show w.heap.size ≤ w.heap.size + 1; omega) _).setCell (p := ⟨w.heap.size + 1, 2, none⟩) (by show w.heap.size ≤ w.heap.size + 1; omega) _)
  have HR := Lib.hid hr
  cases hq : place n.m.length i
  · have HQ := Lib.hid (show Id.inB i 0 ((n.m.length : Int) - 1) = false from hq)
    have hcm : codeM (pl n) i = 6 := by unfold codeM; rw [if_pos hr, HP2L.out, if_neg (by rw [hq]; decide)]
    have HGC := Lib.hid hcm
    have HGP := Lib.hid (show losP (pl n) i = ([], []) by unfold losP; rw [hcm]; rfl)
    rw [HGC.out, HGP.out]
    clear hr hq h hL HGC HGP hcm
    unfold Nt.val at HRT ⊢
    go_enter Try.func21, Try.ntmps21
    go_wp2_with fail
    refine (HRT.out _ HB0.out).mono ?_
    rintro e w1 ⟨rfl, hb⟩
    rw [HR.out]
    have HB0 := Lib.hid (HB0.out.trans (hb.mono HB0.out.size))
    have HP0 := Lib.hid (HP0.out.on hb)
    have HP1 := Lib.hid (HP1.out.on hb)
    have HZ := Lib.hid (show w.heap.size + 2 ≤ w1.heap.size from by have := HZ.out; have := hb.size; omega)
    clear hb
    obtain ⟨b0, b1⟩ := blk2 HP0.out
    go_wp2_with fail
    refine (HI.out _).mono ?_
    rintro e w2 ⟨rfl, rfl⟩
    rw [HQ.out]
    go_wp2_with fail
    clear b0 b1
    refine (ill_any 6 _).mono ?_
    rintro e w3 ⟨rfl, hb⟩
    have HB0 := Lib.hid (HB0.out.trans (hb.mono HB0.out.size))
    have HP0 := Lib.hid (HP0.out.on hb)
    have HP1 := Lib.hid (HP1.out.on hb)
    have HZ := Lib.hid (show w.heap.size + 2 ≤ w3.heap.size from by have := HZ.out; have := hb.size; omega)
    clear hb
    obtain ⟨q0, q1, q2⟩ := blk3 HP1.out
    have g0 := HP1.out.free 0
    have g1 := HP1.out.free 1
    have g2 := HP1.out.free 2
    go_wp2_with fail
    refine bodyPost_ret (v := .agg #[.slice none 0 0, .slice none 0 0, .int .i64 6]) (by simp [results, Try.results21, go_sem, q0, q1, q2]) rfl ?_
    exact AnsN.ill (((HB0.out.setCell (p := ⟨w.heap.size + 1, 0, none⟩) (by show w.heap.size ≤ w.heap.size + 1; omega) _).setCell (p := ⟨w.heap.size + 1, 1, none⟩) (by show w.heap.size ≤ w.heap.size + 1; omega) _).setCell (p := ⟨w.heap.size + 1, 2, none⟩) (by show w.heap.size ≤ w.heap.size + 1; omega) _)
  have HQ := Lib.hid (show Id.inB i 0 ((n.m.length : Int) - 1) = true from hq)
  have hcm : codeM (pl n) i = 0 := by unfold codeM; rw [if_pos hr, HP2L.out, if_pos hq]
  obtain ⟨k, rfl, hk⟩ := place_nat hq
  have HTK := Lib.hid (fun W (hW : Below w.heap.size w W) => specTake_any n k W (h.on hW) hL hk)
  have HJP := Lib.hid (show ((pl n).1, (pl n).2.eraseIdx k) = losP (pl n) k by unfold losP; rw [if_pos hcm, Int.toNat_natCast])
  rw [hcm]
  have hki : (k : Int) < n.m.length := by omega
  clear hr hq h hL hcm
  unfold Nt.val at HRT HTK ⊢
  go_enter Try.func21, Try.ntmps21
  go_wp2_with fail
  refine (HRT.out _ HB0.out).mono ?_
  rintro e w1 ⟨rfl, hb⟩
  rw [HR.out]
  have HB0 := Lib.hid (HB0.out.trans (hb.mono HB0.out.size))
  have HP0 := Lib.hid (HP0.out.on hb)
  have HP1 := Lib.hid (HP1.out.on hb)
  have HZ := Lib.hid (show w.heap.size + 2 ≤ w1.heap.size from by have := HZ.out; have := hb.size; omega)
  clear hb
  obtain ⟨b0, b1⟩ := blk2 HP0.out
  go_wp2_with fail
  refine (HI.out _).mono ?_
  rintro e w2 ⟨rfl, rfl⟩
  rw [HQ.out]
  go_wp2_with fail
  clear b0 b1
  have HB1 := Lib.hid HB0.out
  refine (HTK.out _ HB0.out).mono ?_
  rintro e v0 ⟨n', rfl, hp, ho, hb⟩
  have HPP := Lib.hid hp
  have HO1 := Lib.hid ho
  have HB0 := Lib.hid (HB0.out.trans (hb.mono HB0.out.size))
  have HP1 := Lib.hid (HP1.out.on hb)
  have HZ := Lib.hid (show w.heap.size + 2 ≤ v0.heap.size from by have := HZ.out; have := hb.size; omega)
  clear hp ho hb
  unfold Nt.val
  obtain ⟨q0, q1, q2⟩ := blk3 HP1.out
  have g0 := HP1.out.free 0
  have g1 := HP1.out.free 1
  have g2 := HP1.out.free 2
  go_wp2_with fail
  refine bodyPost_ret (v := Nt.out n' 0) (by simp [results, Try.results21, go_sem, Nt.out, q0, q1, q2]) rfl ?_
  refine AnsN.own ?_ ?_ ?_
  · exact (((HO1.out.box HP1.out (by decide) (by decide) (by decide) 0 _).box (HP1.out.set 0 _ rfl) (by decide) (by decide) (by decide) 1 _).box ((HP1.out.set 0 _ rfl).set 1 _ rfl) (by decide) (by decide) (by decide) 2 _).less HB1.out.size
  · rw [← HJP.out]; exact HPP.out
  · exact ((HB0.out.setCell (p := ⟨w.heap.size + 1, 0, none⟩) (by show w.heap.size ≤ w.heap.size + 1; omega) _).setCell (p := ⟨w.heap.size + 1, 1, none⟩) (by show w.heap.size ≤ w.heap.size + 1; omega) _).setCell (p := ⟨w.heap.size + 1, 2, none⟩) (by show w.heap.size ≤ w.heap.size + 1; omega) _
end Go.Proofs.Ythagkjofpfafiaa.Net
