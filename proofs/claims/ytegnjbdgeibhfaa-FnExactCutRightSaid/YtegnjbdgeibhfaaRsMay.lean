/-
  impl.mayCome.
-/
import Derived.Test.YtegnjbdgeibhfaaPackRsB
import Derived.Test.YtegnjbdgeibhfaaRsRepl
import Derived.Deep.LoopGhost
namespace Go.Proofs.Ytegnjbdgeibhfaa.Rs
open Go.ChangeShapes Go.WideShapes Go.ChangeAt Go.RowKit
open Rec (R P Sound recV cellsV recB needsR rec_of)
open Net (Cl Bk HeldV)
open Dep (D I depsB coversB covB ofV joinV K4)
set_option linter.unusedVariables false
set_option maxRecDepth 100000

/-- How long a slice is. -/
def lenOf : Value → Nat
  | .slice _ n _ => n
  | _ => 0
theorem pr_erase (l : List Q) (k : Nat) : pr (l.eraseIdx k) = (pr l).eraseIdx k := by
  unfold pr
  induction l generalizing k with
  | nil => simp
  | cons q l ih => cases k with
    | zero => rfl
    | succ k => simp [ih]
theorem seen_ok {rows p : List R} (hr : ListOk rows) (hp : ListOk p) (h : (joinV (mk rows) (mk p)).length ≤ 6) : depsB (joinV (mk rows) (mk p)) = true :=
  Dep.depsB_true ⟨h, ((sg_mk hr).join (sg_mk hp)).2, ((sg_mk hr).join (sg_mk hp)).1⟩
theorem join_sub_len {rows p q : List R} (hr : ListOk rows) (hp : ListOk p) (hq : ListOk q) (hs : q.Sublist p) : (joinV (mk rows) (mk q)).length ≤ (joinV (mk rows) (mk p)).length := by
  have sr := sg_mk hr
  have sp := sg_mk hp
  have sq := sg_mk hq
  refine has_len (sr.join sq).1 fun x hx => ?_
  rw [has_join sr.1 sr.2 sp.1 sp.2]
  rw [has_join sr.1 sr.2 sq.1 sq.2] at hx
  refine hx.imp id fun h => ?_
  obtain ⟨r, hr', e⟩ := has_mk.1 h
  exact has_mk.2 ⟨r, hs.subset hr', e⟩

set_option maxHeartbeats 2500000 in
set_option maxRecDepth 100000 in
theorem mayCome_any (A : Option Addr) (bd : Addr) (rows wait : List Q) (ca cb : Nat) (w : World) (h : LRs w w.heap.size A rows) (hw : LRs w w.heap.size (some bd) wait) (hr : ListOk (pr rows)) (hp : ListOk (pr wait)) (hu : Up (pr rows) (pr wait)) (h6 : (joinV (mk (pr rows)) (mk (pr wait))).length ≤ 6) (hsr : ∀ q ∈ rows, Sound q.r) (hsw : ∀ q ∈ wait, Sound q.r) :
    Calls Try.prog 41 #[.slice A rows.length ca, .slice (some bd) wait.length cb] w fun e w' => ∃ (g c : Nat) (pt : List Q), e = .returned (.slice (some ⟨g, 0, none⟩) pt.length c) ∧ w'.ownsRow w.heap.size 61 8 (.slice (some ⟨g, 0, none⟩) pt.length c) pt.length (rv pt) ∧ pr pt = partR (pr rows) (pr wait).length (pr wait) ∧ pt.Sublist wait ∧ Below w.heap.size w w' := by
  have hwl : wait.length ≤ 6 := by have := hp.1; rwa [pr_len] at this
  have hrl : rows.length ≤ 6 := by have := hr.1; rwa [pr_len] at this
  have HR0 := Lib.hid h
  have HW0 := Lib.hid hw
  have HSW := Lib.hid hsw
  have HCL := Lib.hid (cloneQ_any bd wait cb w hw (by omega))
  have HOKR := Lib.hid hr
  have HOKW := Lib.hid hp
  have HUP := Lib.hid hu
  have H66 := Lib.hid h6
  clear h hw hsr hsw hr hp hu h6
  go_enter Try.func41, Try.ntmps41
  go_wp2_with fail
  go_step3
  go_wp2_with fail
  refine HCL.out.mono ?_
  rintro e w1 ⟨v, rfl, ho, hv, hb⟩
  obtain ⟨g, c, rfl, hc1, hc2, hg1, -⟩ := o_val_ne ho hv
  have HO := Lib.hid ho
  have HB := Lib.hid hb
  clear ho hb hv HCL hc1 hc2 hg1
  go_wp2_with fail
  go_step3
  go_wp2_with fail
  go_loopg [5] wait.length (fun gh o wr => ∃ (g c : Nat) (pt : List Q), o = .slice (some ⟨g, 0, none⟩) pt.length c ∧ pt.length = gh ∧ pt.length ≤ 6 ∧ Hid (wr.ownsRow w.heap.size 61 8 (.slice (some ⟨g, 0, none⟩) pt.length c) pt.length (rv pt) ∧ partR (pr rows) (pr pt).length (pr pt) = partR (pr rows) (pr wait).length (pr wait) ∧ pt.Sublist wait ∧ Below w.heap.size w wr))
  case atStart => exact ⟨g, c, wait, rfl, rfl, hwl, Lib.hid ⟨HO.out, rfl, List.Sublist.refl _, HB.out⟩⟩
  case round =>
    obtain ⟨g, c, pt, rfl, hgh, hpl, HR⟩ := hrel
    have HGH := Lib.hid hgh
    clear hgh
    have hsub := HR.out.2.2.1
    have hprs : (pr pt).Sublist (pr wait) := hsub.map _
    have hok := ok_sub HOKW.out hprs
    have hup := HUP.out.sub hprs
    obtain ⟨ks, hk1, hk2, hk3, hk4⟩ := repl_keys HOKR.out hok hup
    have HJL := Lib.hid (Nat.le_trans (join_sub_len HOKR.out HOKW.out hok hprs) H66.out)
    obtain ⟨_, _, e0, _, _, hcl, -⟩ := o_val HR.out.1
    cases e0
    have HLP := Lib.hid (show LRs wr wr.heap.size (some ⟨g, 0, none⟩) pt from ⟨hcl, fun q hq => ((HW0.out.on HR.out.2.2.2).2 q (hsub.subset hq))⟩)
    have HLR := Lib.hid (HR0.out.on HR.out.2.2.2)
    have HRP := Lib.hid (replaced_any A (some ⟨g, 0, none⟩) rows pt ca c wr HLR.out HLP.out (by rw [List.length_append]; omega) ks hk1 (by have := HJL.out; omega))
    have HKK := Lib.hid hk3
    have HK4 := Lib.hid hk4
    have HKL := Lib.hid (show ks.length ≤ 6 from by have := HJL.out; omega)
    have HDB := Lib.hid (seen_ok HOKR.out hok HJL.out)
    have HOKP := Lib.hid hok
    clear hcl hk1 hk2 hk3 hk4 hsub hprs hok hup
    go_wp2_with fail
    refine HRP.out.mono ?_
    rintro e w2 ⟨v, rfl, ho, hb⟩
    obtain ⟨A2, c2, rfl, -, -, hcl2, -⟩ := o_val ho
    have HB2 := Lib.hid hb
    have HL2 := Lib.hid (show LRs w2 w2.heap.size A2 (ks.map fun k => atQ (pt ++ rows) k.1) from ⟨hcl2, fun q hq => by
      obtain ⟨k, hk, rfl⟩ := List.mem_map.1 hq
      rcases List.mem_append.1 (HK4.out k hk) with h | h
      · exact (HLP.out.on hb).2 _ h
      · exact (HLR.out.on hb).2 _ h⟩)
    have HMA := Lib.hid (recMarks_any A2 (ks.map fun k => atQ (pt ++ rows) k.1) c2 w2 HL2.out (by rw [List.length_map]; have := HKL.out; omega))
    rw [HKK.out, List.length_map] at HMA
    clear ho hb hcl2 HRP
    go_wp2_with fail
    refine HMA.out.mono ?_
    rintro e w3 ⟨A3, cq, rfl, _, hL3, _, hb3⟩
    have HB3 := Lib.hid (HB2.out.trans (hb3.mono HB2.out.size))
    have HL3 := Lib.hid hL3
    obtain ⟨M, hM⟩ : ∃ M, joinV (mk (pr rows)) (mk (pr pt)) = M := ⟨_, rfl⟩
    have HMM := Lib.hid hM
    rw [hM] at HL3 HJL HDB ⊢
    unfold Dep.slV
    clear hL3 hb3 hM HMA HL2 HKK HK4 HKL
    have HL4 := Lib.hid (HLP.out.on HB3.out)
    have HO4 := Lib.hid (o_step HR.out.1 HB3.out (Nat.le_refl _))
    have HW4 := Lib.hid (HR.out.2.2.2.trans (HB3.out.mono HR.out.2.2.2.size))
    have HZ4 := Lib.hid (show w.heap.size ≤ w3.heap.size from HW4.out.size)
    have HMK := Lib.hid (show ∀ d ∈ M, d.k.size ≤ maxLen from fun d hd => by
      have := Key.ok_of ((Dep.ok_of HDB.out).2.1 d hd).1
      have := this.2.1
      unfold maxLen; omega)
    have HML := Lib.hid (show M.length ≤ maxLen from by have := HJL.out; unfold maxLen; omega)
    clear HLP HLR HB2
    go_wp2_with fail
    go_loopg [5, 17] pt.length (fun g2 o i wx => ∃ k : Nat, k + g2 = pt.length ∧ o = .slice (some ⟨g, 0, none⟩) pt.length c ∧ i = .int .i64 k ∧ Hid ((∀ j (hj : j < pt.length), j < k → coversB M (needsR pt[j].r) = true) ∧ Below w3.heap.size w3 wx))
    case atStart => exact ⟨0, by omega, rfl, rfl, Lib.hid ⟨fun j hj hjk => absurd hjk (by omega), Below.refl _ _⟩⟩
    case round =>
      obtain ⟨k, hk, rfl, rfl, HX⟩ := hrel
      by_cases hlt : k < pt.length
      · obtain ⟨_, e0, _, ⟨c0, c1, c2, c3, c4, c5, c6, c7⟩, hL0⟩ := (HL4.out.below HX.out.2 (Nat.le_refl _)).at_ hlt
        cases e0
        have hsd := HSW.out _ (HR.out.2.2.1.subset (List.getElem_mem hlt))
        have hkp : k < (pr pt).length := by rw [pr_len]; exact hlt
        have HND := Lib.hid (needs_depsB (HOKP.out.2.1 _ (List.mem_map.2 ⟨_, List.getElem_mem hlt, rfl⟩)))
        have HKK := Lib.hid (show (pr pt)[k]'hkp = pt[k].r from pr_at hlt)
        have HYY := Lib.hid (show ∀ j (hj : j < pt.length), j = k → pt[j].r = pt[k].r from fun j hj e => by subst e; rfl)
        obtain ⟨y, hy⟩ : ∃ y, pt[k] = y := ⟨_, rfl⟩
        rw [hy] at c0 c1 c2 c3 c4 c5 c6 c7 hL0 HND HKK HYY hsd
        clear hy
        obtain ⟨r, p⟩ := y
        simp only at hL0 HND HKK HYY hsd
        simp only [Net.addr0, Nat.add_assoc, Nat.reduceAdd] at c0 c1 c2 c3 c4 c5 c6 c7
        have HWZ := Lib.hid (show w3.heap.size ≤ wr.heap.size from HX.out.2.size)
        have HBX := Lib.hid ((Below.refl wr.heap.size wr).alloc (Nat.le_refl _) (Obj.cells (cellsV r p) 61))
        have HC := Lib.hid (Rec.implNeeds_any r p _ (hL0.step HBX.out HWZ.out (Nat.le_trans HWZ.out HBX.out.size)) hsd)
        unfold recV at HC
        have HNL := Lib.hid (Rec.needsR_len r)
        clear hL0 hsd
        obtain ⟨nr, hnr⟩ : ∃ n, needsR r = n := ⟨_, rfl⟩
        have HNR := Lib.hid hnr
        rw [hnr] at HC HNL HND
        have HNK := Lib.hid (show ∀ d ∈ nr, d.k.size ≤ maxLen from fun d hd => by
          have := Key.ok_of ((Dep.ok_of HND.out).2.1 d hd).1
          have := this.2.1
          unfold maxLen; omega)
        clear hnr
        go_wp2_with fail
        refine HC.out.mono ?_
        rintro e w4 ⟨A4, c4', rfl, hh4, hb4⟩
        have B4 := Lib.hid (HX.out.2.trans ((HBX.out.trans (hb4.mono HBX.out.size)).mono HX.out.2.size))
        have HCV := Lib.hid (Dep.implCovers_any A3 A4 M nr cq c4' w4 ((HL3.out.below B4.out (Nat.le_refl _)).more B4.out.size) (hh4.lies (Nat.le_refl _)) HML.out (by have := HNL.out; unfold maxLen; omega) HMK.out HNK.out)
        rw [show covB M nr = coversB M nr from by unfold covB; rw [HDB.out, HND.out]; rfl] at HCV
        unfold Dep.slV at HCV
        clear hh4 hb4 c0 c1 c2 c3 c4 c5 c6 c7
        go_wp2_with fail
        refine HCV.out.mono ?_
        rintro e w5 ⟨rfl, hb5⟩
        have B5 := Lib.hid (B4.out.trans (hb5.mono B4.out.size))
        clear hb5
        cases hcv : coversB M nr
        · have HCF := Lib.hid hcv
          clear hcv
          have HDE := Lib.hid (delete_any g c k w.heap.size pt w5 (o_step HO4.out B5.out (Nat.le_refl _)) hlt (by omega))
          go_wp2_with fail
          refine HDE.out.mono ?_
          rintro e w6 ⟨rfl, ho6, hg6⟩
          have HO6 := Lib.hid ho6
          have HB6 := Lib.hid ((HW4.out.trans (B5.out.mono HZ4.out)).grown hg6 (by have := HZ4.out; have := B5.out.size; omega) (o_base (o_step HO4.out B5.out (Nat.le_refl _))))
          have he : (pt.eraseIdx k).length = pt.length - 1 := by rw [List.length_eraseIdx]; simp [hlt]
          have HEL := Lib.hid he
          have HFB := Lib.hid (bad_some (rows := pr rows) (p := pr pt) (i := k) hkp (by rw [HMM.out, HKK.out, HNR.out]; exact HCF.out) (fun j hj hjk => by
            rw [HMM.out, show (pr pt)[j]'hj = (pt[j]'(by rw [pr_len] at hj; exact hj)).r from pr_at (by rw [pr_len] at hj; exact hj)]
            exact HX.out.1 j (by rw [pr_len] at hj; exact hj) hjk))
          have HPS := Lib.hid (part_step hkp HFB.out)
          clear ho6 hg6 he
          go_wp2_with fail
          go_roundg (pt.length - 1)
          case measure => have := HGH.out; omega
          case rel =>
            refine ⟨g, c, pt.eraseIdx k, by rw [HEL.out], HEL.out, by have := HEL.out; omega, Lib.hid ⟨by rw [HEL.out]; exact HO6.out, ?_, (List.eraseIdx_sublist _ _).trans HR.out.2.2.1, HB6.out⟩⟩
            rw [pr_erase, ← HPS.out]
            exact HR.out.2.1
        · have HT := Lib.hid hcv
          clear hcv
          go_wp2_with fail
          go_roundg (pt.length - (k + 1))
          case measure => omega
          case rel =>
            refine ⟨k + 1, by omega, rfl, by go_num, Lib.hid ⟨fun j hj hjk => ?_, B5.out⟩⟩
            by_cases e : j = k
            · rw [HYY.out j hj e, HNR.out]; exact HT.out
            · exact HX.out.1 j hj (by omega)
      · have HFN := Lib.hid (bad_none (rows := pr rows) (p := pr pt) (fun j hj => by
          rw [HMM.out, show (pr pt)[j]'hj = (pt[j]'(by rw [pr_len] at hj; exact hj)).r from pr_at (by rw [pr_len] at hj; exact hj)]
          exact HX.out.1 j (by rw [pr_len] at hj; exact hj) (by rw [pr_len] at hj; omega)))
        go_wp2_with fail
        rw [Exit.noGoto_ret]
        go_ret
        exact ⟨g, c, pt, rfl, o_step HO4.out HX.out.2 (Nat.le_refl _), by rw [← HR.out.2.1, part_done HFN.out], HR.out.2.2.1, HW4.out.trans (HX.out.2.mono HZ4.out)⟩
end Go.Proofs.Ytegnjbdgeibhfaa.Rs
