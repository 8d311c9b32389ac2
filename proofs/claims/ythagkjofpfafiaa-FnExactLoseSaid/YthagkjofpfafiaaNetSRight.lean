/-
  spec.NetRight.
-/
import Derived.Test.YthagkjofpfafiaaNetAll
import Derived.Test.YthagkjofpfafiaaNetFew
import Derived.Test.YthagkjofpfafiaaRowRight
namespace Go.Proofs.Ythagkjofpfafiaa.Net
open Go.ChangeShapes Go.WideShapes Go.ChangeAt Go.RowKit
open Sto (R Sl mergeW flat rowsB Fits)
set_option linter.unusedVariables false
set_option maxRecDepth 100000
set_option linter.unusedSimpArgs false

theorem bad_few {n : Nt} (h : n.s.length < 1) : netB (pl n) = false := netB_false fun hk => by have := hk.1.1; rw [show (pl n).1.length = n.s.length from ps_len _] at this; omega
theorem bad_many {n : Nt} (h : 4 < n.s.length) : netB (pl n) = false := netB_false fun hk => by have := hk.1.2; rw [show (pl n).1.length = n.s.length from ps_len _] at this; omega
theorem bad_mail {n : Nt} (h : 40 < n.m.length) : netB (pl n) = false := netB_false fun hk => by have := hk.2.1; rw [show (pl n).2.length = n.m.length from pm_len _] at this; omega
theorem bad_store {n : Nt} (x : Sl) (hx : x ∈ n.all) (h : rowsB x.l = false) : netB (pl n) = false := netB_false fun hk => by
  have := hk.2.2.2.1 x.l (by rw [← all_pl]; exact List.mem_map.2 ⟨x, hx, rfl⟩)
  rw [h] at this; cases this
theorem bad_way {n : Nt} (y : Ml) (hy : y ∈ n.m) (h : way n.s.length y.f y.t = false) : netB (pl n) = false := netB_false fun hk => by
  have := hk.2.2.1 ⟨y.f, y.t, y.x.l⟩ (List.mem_map.2 ⟨y, hy, rfl⟩)
  rw [show (pl n).1.length = n.s.length from ps_len _, h] at this; cases this
theorem right_iff {n : Nt} (h1 : 1 ≤ n.s.length) (h2 : n.s.length ≤ 4) (h3 : n.m.length ≤ 40) (h4 : ∀ y ∈ n.m, way n.s.length y.f y.t = true) (h5 : ∀ x ∈ n.all, rowsB x.l = true) : netB (pl n) = decide ((mergeAll (allP (pl n))).length ≤ 6) := by
  by_cases h : (mergeAll (allP (pl n))).length ≤ 6
  · rw [decide_eq_true h]
    refine netB_true ⟨?_, ?_, fun y hy => ?_, fun l hl => ?_, h⟩
    · rw [show (pl n).1.length = n.s.length from ps_len _]; exact ⟨h1, h2⟩
    · rw [show (pl n).2.length = n.m.length from pm_len _]; exact h3
    · obtain ⟨z, hz, rfl⟩ := List.mem_map.1 hy
      rw [show (pl n).1.length = n.s.length from ps_len _]
      exact h4 z hz
    · rw [← all_pl] at hl
      obtain ⟨x, hx, rfl⟩ := List.mem_map.1 hl
      exact h5 x hx
  · rw [decide_eq_false h]
    exact netB_false fun hk => h hk.2.2.2.2

theorem Little.fits {n : Nt} (h : Little n) {x : Sl} (hx : x ∈ n.all) : x.l.length ≤ maxLen ∧ ∀ d ∈ x.l, Fits d := by
  refine ⟨?_, fun d hd => ?_⟩
  · have := tot_mem hx; have := h.1; unfold maxLen; omega
  · have := h.2 x hx d hd; exact ⟨by unfold maxLen; omega, by unfold maxLen; omega⟩

set_option maxHeartbeats 4000000 in
set_option maxRecDepth 100000 in
theorem specRight_any (n : Nt) (w : World) (h : NLies w w.heap.size n) (hL : Little n) :
    Calls Try.prog 9 #[n.val] w fun e w' => e = .returned (.bool (netB (pl n))) ∧ Below w.heap.size w w' := by
  have hsl : n.s.length ≤ 1048576 := by have := hL.1; omega
  have hml : n.m.length ≤ 1048576 := by have := hL.1; omega
  have HA := Lib.hid (fun W (hW : Below w.heap.size w W) (h1 : n.s.length ≤ 4) (h2 : n.m.length ≤ 40) (h6 : ∀ l ∈ allP (pl n), l.length ≤ 6) => specAll_any n W (h.on hW) h1 h2 h6)
  have HT := Lib.hid (fun i W => there_any n i W hsl)
  have HS := Lib.hid h.1
  have HM := Lib.hid h.2
  have HFs := Lib.hid (fun (x : Sl) (hx : x ∈ n.s) => hL.fits (List.mem_append_left _ hx))
  have HFm := Lib.hid (fun (y : Ml) (hy : y ∈ n.m) => hL.fits (x := y.x) (List.mem_append_right n.s (List.mem_map.2 ⟨y, hy, rfl⟩)))
  have HV1 := Lib.hid (@bad_few n)
  have HV2 := Lib.hid (@bad_many n)
  have HV3 := Lib.hid (@bad_mail n)
  have HV4 := Lib.hid (@bad_store n)
  have HV5 := Lib.hid (@bad_way n)
  have HV6 := Lib.hid (right_iff (n := n))
  have HAL := Lib.hid (show ∀ x ∈ n.s, x ∈ n.all from fun x hx => List.mem_append_left _ hx)
  have HAM := Lib.hid (show ∀ y ∈ n.m, y.x ∈ n.all from fun y hy => List.mem_append_right _ (List.mem_map.2 ⟨y, hy, rfl⟩))
  have HAA := Lib.hid (show ∀ x ∈ n.all, (x ∈ n.s) ∨ ∃ y ∈ n.m, y.x = x from fun x hx => by
    rcases List.mem_append.1 hx with hx | hx
    · exact .inl hx
    · obtain ⟨y, hy, e⟩ := List.mem_map.1 hx; exact .inr ⟨y, hy, e⟩)
  have HPL := Lib.hid (all_pl n)
  clear h hL
  obtain ⟨pp, hpp⟩ : ∃ pp, pl n = pp := ⟨_, rfl⟩
  rw [hpp] at HA HV1 HV2 HV3 HV4 HV5 HV6 HPL ⊢
  obtain ⟨al, hal⟩ : ∃ al, n.all = al := ⟨_, rfl⟩
  rw [hal] at HV4 HV6 HAL HAM HAA HPL
  clear hpp hal
  obtain ⟨A, s, ca, B, m, cb⟩ := n
  simp only at hsl hml
  unfold Nt.val at HA HT ⊢
  simp only at HA HT HS HM HFs HFm HV1 HV2 HV3 HV4 HV5 HV6 HAL HAM HAA ⊢
  have B0 := (Below.refl w.heap.size w).alloc (Nat.le_refl _) (Obj.cells #[.slice A s.length ca, .slice B m.length cb] 31)
  have p := Blk.new w 31 #[.slice A s.length ca, .slice B m.length cb]
  have HB0 := Lib.hid B0
  have HP0 := Lib.hid p
  clear B0 p
  by_cases h1 : s.length < 1
  · rw [HV1.out h1]
    go_enter Try.func9, Try.ntmps9
    go_wp2_with fail
    go_ret
    exact ⟨rfl, HB0.out⟩
  by_cases h2 : 4 < s.length
  · rw [HV2.out h2]
    go_enter Try.func9, Try.ntmps9
    go_wp2_with fail
    go_ret
    exact ⟨rfl, HB0.out⟩
  by_cases h3 : 40 < m.length
  · rw [HV3.out h3]
    go_enter Try.func9, Try.ntmps9
    go_wp2_with fail
    go_ret
    exact ⟨rfl, HB0.out⟩
  go_enter Try.func9, Try.ntmps9
  go_wp2_with fail
  go_loopw [3] (fun i wr => ∃ k : Nat, k ≤ s.length ∧ i = .int .i64 k ∧ Hid ((∀ j (hj : j < s.length), j < k → rowsB s[j].l = true) ∧ Blk wr w.heap.size 31 #[.slice A s.length ca, .slice B m.length cb] ∧ Below w.heap.size w wr)) (fun i _ => s.length - (intOf i).toNat)
  case atStart => exact ⟨0, by omega, rfl, Lib.hid ⟨fun j hj hjk => absurd hjk (by omega), HP0.out, HB0.out⟩⟩
  case round =>
    obtain ⟨k, hk, rfl, HR⟩ := hrel
    obtain ⟨b0, b1⟩ := blk2 HR.out.2.1
    by_cases hlt : k < s.length
    · obtain ⟨sd, rfl, _, c0, hLx⟩ := (HS.out.below HR.out.2.2 (Nat.le_refl _)).at_ hlt
      have hmem := List.getElem_mem hlt
      have hfx := HFs.out s[k] hmem
      have HMEM := Lib.hid (HAL.out s[k] hmem)
      have HSX := Lib.hid (show ∀ j (hj : j < s.length), j = k → s[j] = s[k] from fun j hj e => by subst e; rfl)
      clear hmem
      obtain ⟨x, hx⟩ : ∃ x, s[k] = x := ⟨_, rfl⟩
      rw [hx] at c0 hLx hfx HMEM HSX
      clear hx
      have HC := Lib.hid (Sto.specStore_any x.A x.l x.c wr (hLx.more HR.out.2.2.size) hfx.1 hfx.2)
      unfold Sto.slV at HC
      clear hLx hfx
      cases hrb : rowsB x.l
      · have HRB := Lib.hid hrb
        rw [hrb] at HC
        clear hrb
        go_wp2_with fail
        refine HC.out.mono ?_
        rintro e w1 ⟨rfl, hb⟩
        have HB1 := Lib.hid (HR.out.2.2.trans (hb.mono HR.out.2.2.size))
        clear hb b0 b1 c0
        go_wp2_with fail
        go_ret
        exact ⟨by rw [HV4.out _ HMEM.out HRB.out]; rfl, HB1.out⟩
      · have HRB := Lib.hid hrb
        rw [hrb] at HC
        clear hrb
        go_wp2_with fail
        refine HC.out.mono ?_
        rintro e w1 ⟨rfl, hb⟩
        have HB1 := Lib.hid (HR.out.2.2.trans (hb.mono HR.out.2.2.size))
        have HP1 := Lib.hid (HR.out.2.1.on hb)
        clear hb b0 b1 c0
        go_wp2_with fail
        go_roundw
        case rel =>
          refine ⟨k + 1, by omega, by go_num, Lib.hid ⟨fun j hj hjk => ?_, HP1.out, HB1.out⟩⟩
          by_cases e : j = k
          · rw [HSX.out j hj e]; exact HRB.out
          · exact HR.out.1 j hj (by omega)
        case measure => simp [intOf]; omega
    · have HGS := Lib.hid (show ∀ x ∈ s, rowsB x.l = true from fun x hx => by
        obtain ⟨j, hj, rfl⟩ := List.getElem_of_mem hx
        exact HR.out.1 j hj (by omega))
      have HPB := Lib.hid HR.out.2
      clear HR
      go_wp2_with fail
      clear b0 b1
      go_loopw [4] (fun i wr => ∃ k : Nat, k ≤ m.length ∧ i = .int .i64 k ∧ Hid ((∀ j (hj : j < m.length), j < k → way s.length m[j].f m[j].t = true ∧ rowsB m[j].x.l = true) ∧ Blk wr w.heap.size 31 #[.slice A s.length ca, .slice B m.length cb] ∧ Below w.heap.size w wr)) (fun i _ => m.length - (intOf i).toNat)
      case atStart => exact ⟨0, by omega, rfl, Lib.hid ⟨fun j hj hjk => absurd hjk (by omega), HPB.out.1, HPB.out.2⟩⟩
      case round =>
        obtain ⟨k, hk, rfl, HR⟩ := hrel
        obtain ⟨b0, b1⟩ := blk2 HR.out.2.1
        by_cases hlt : k < m.length
        · have hmem := List.getElem_mem hlt
          have hLx := HM.out.2 m[k] hmem
          obtain ⟨sd, rfl, _, ⟨c0, c1, c2⟩, -⟩ := (HM.out.below HR.out.2.2 (Nat.le_refl _)).at_ hlt
          have hfx := HFm.out m[k] hmem
          have HMEM := Lib.hid hmem
          have HSX := Lib.hid (show ∀ j (hj : j < m.length), j = k → m[j] = m[k] from fun j hj e => by subst e; rfl)
          clear hmem
          obtain ⟨y, hy⟩ : ∃ y, m[k] = y := ⟨_, rfl⟩
          rw [hy] at c0 c1 c2 hLx hfx HMEM HSX
          clear hy
          obtain ⟨yf, yt, yA, yl, yc⟩ := y
          simp only at c0 c1 c2 hLx hfx
          have BW := Lib.hid (HR.out.2.2.alloc HR.out.2.2.size (Obj.cells #[.int .i64 yf, .int .i64 yt, .slice yA yl.length yc] 51))
          have PB := Lib.hid (HR.out.2.1.alloc (Obj.cells #[.int .i64 yf, .int .i64 yt, .slice yA yl.length yc] 51))
          have LB := Lib.hid (Blk.new wr 51 #[.int .i64 yf, .int .i64 yt, .slice yA yl.length yc])
          have HC := Lib.hid (fun W (hW : Below w.heap.size w W) => Sto.specStore_any yA yl yc W ((hLx.below hW (Nat.le_refl _)).more hW.size) hfx.1 hfx.2)
          unfold Sto.slV at HC
          have HGD := Lib.hid HR.out.1
          clear hLx hfx HR
          cases hf : place s.length yf
          · have HF := Lib.hid hf
            clear hf
            obtain ⟨q0, q1⟩ := blk2 PB.out
            go_wp2_with fail
            clear b0 b1 c0 c1 c2 q0 q1
            refine (HT.out yf _).mono ?_
            rintro e w1 ⟨rfl, hb⟩
            rw [HF.out]
            have BW := Lib.hid (BW.out.trans (hb.mono BW.out.size))
            have PB := Lib.hid (PB.out.on hb)
            have LB := Lib.hid (LB.out.on hb)
            clear hb
            go_wp2_with fail
            go_ret
            exact ⟨by rw [HV5.out _ HMEM.out (by unfold way; simp only; rw [HF.out]; rfl)]; rfl, BW.out⟩
          · have HF := Lib.hid hf
            clear hf
            cases ht : place s.length yt
            · have HTT := Lib.hid ht
              clear ht
              obtain ⟨q0, q1⟩ := blk2 PB.out
              go_wp2_with fail
              clear b0 b1 c0 c1 c2 q0 q1
              refine (HT.out yf _).mono ?_
              rintro e w1 ⟨rfl, hb⟩
              rw [HF.out]
              have BW := Lib.hid (BW.out.trans (hb.mono BW.out.size))
              have PB := Lib.hid (PB.out.on hb)
              have LB := Lib.hid (LB.out.on hb)
              clear hb
              obtain ⟨p0, p1⟩ := blk2 PB.out
              obtain ⟨l0, l1, l2⟩ := blk3 LB.out
              go_wp2_with fail
              clear p0 p1 l0 l1 l2
              refine (HT.out yt _).mono ?_
              rintro e w2 ⟨rfl, hb⟩
              rw [HTT.out]
              have BW := Lib.hid (BW.out.trans (hb.mono BW.out.size))
              have PB := Lib.hid (PB.out.on hb)
              have LB := Lib.hid (LB.out.on hb)
              clear hb
              go_wp2_with fail
              go_ret
              exact ⟨by rw [HV5.out _ HMEM.out (by unfold way; simp only; rw [HF.out, HTT.out]; rfl)]; rfl, BW.out⟩
            · have HTT := Lib.hid ht
              clear ht
              by_cases he : yf = yt
              · have hee : (yf == yt) = true := by simpa using he
                have HW := Lib.hid (show way s.length yf yt = false by unfold way; rw [HF.out, HTT.out, hee]; rfl)
                clear he
                obtain ⟨q0, q1⟩ := blk2 PB.out
                go_wp2_with fail
                clear b0 b1 c0 c1 c2 q0 q1
                refine (HT.out yf _).mono ?_
                rintro e w1 ⟨rfl, hb⟩
                rw [HF.out]
                have BW := Lib.hid (BW.out.trans (hb.mono BW.out.size))
                have PB := Lib.hid (PB.out.on hb)
                have LB := Lib.hid (LB.out.on hb)
                clear hb
                obtain ⟨p0, p1⟩ := blk2 PB.out
                obtain ⟨l0, l1, l2⟩ := blk3 LB.out
                go_wp2_with fail
                clear p0 p1 l0 l1 l2
                refine (HT.out yt _).mono ?_
                rintro e w2 ⟨rfl, hb⟩
                rw [HTT.out]
                have BW := Lib.hid (BW.out.trans (hb.mono BW.out.size))
                have PB := Lib.hid (PB.out.on hb)
                have LB := Lib.hid (LB.out.on hb)
                clear hb
                obtain ⟨p0, p1⟩ := blk2 PB.out
                obtain ⟨l0, l1, l2⟩ := blk3 LB.out
                go_wp2_with fail
                clear p0 p1 l0 l1 l2
                go_ret
                exact ⟨by rw [HV5.out _ HMEM.out HW.out]; rfl, BW.out⟩
              · have hee : (yf == yt) = false := by simpa using he
                have HW := Lib.hid (show way s.length yf yt = true by unfold way; rw [HF.out, HTT.out, hee]; rfl)
                clear he
                cases hrb : rowsB yl
                · have HRB := Lib.hid hrb
                  rw [hrb] at HC
                  clear hrb
                  obtain ⟨q0, q1⟩ := blk2 PB.out
                  go_wp2_with fail
                  clear b0 b1 c0 c1 c2 q0 q1
                  refine (HT.out yf _).mono ?_
                  rintro e w1 ⟨rfl, hb⟩
                  rw [HF.out]
                  have BW := Lib.hid (BW.out.trans (hb.mono BW.out.size))
                  have PB := Lib.hid (PB.out.on hb)
                  have LB := Lib.hid (LB.out.on hb)
                  clear hb
                  obtain ⟨p0, p1⟩ := blk2 PB.out
                  obtain ⟨l0, l1, l2⟩ := blk3 LB.out
                  go_wp2_with fail
                  clear p0 p1 l0 l1 l2
                  refine (HT.out yt _).mono ?_
                  rintro e w2 ⟨rfl, hb⟩
                  rw [HTT.out]
                  have BW := Lib.hid (BW.out.trans (hb.mono BW.out.size))
                  have PB := Lib.hid (PB.out.on hb)
                  have LB := Lib.hid (LB.out.on hb)
                  clear hb
                  obtain ⟨p0, p1⟩ := blk2 PB.out
                  obtain ⟨l0, l1, l2⟩ := blk3 LB.out
                  go_wp2_with fail
                  clear p0 p1 l0 l1 l2
                  refine (HC.out _ BW.out).mono ?_
                  rintro e w3 ⟨rfl, hb⟩
                  have BW := Lib.hid (BW.out.trans (hb.mono BW.out.size))
                  have PB := Lib.hid (PB.out.on hb)
                  clear hb LB
                  go_wp2_with fail
                  go_ret
                  exact ⟨by rw [HV4.out _ (HAM.out _ HMEM.out) HRB.out]; rfl, BW.out⟩
                · have HRB := Lib.hid hrb
                  rw [hrb] at HC
                  clear hrb
                  obtain ⟨q0, q1⟩ := blk2 PB.out
                  go_wp2_with fail
                  clear b0 b1 c0 c1 c2 q0 q1
                  refine (HT.out yf _).mono ?_
                  rintro e w1 ⟨rfl, hb⟩
                  rw [HF.out]
                  have BW := Lib.hid (BW.out.trans (hb.mono BW.out.size))
                  have PB := Lib.hid (PB.out.on hb)
                  have LB := Lib.hid (LB.out.on hb)
                  clear hb
                  obtain ⟨p0, p1⟩ := blk2 PB.out
                  obtain ⟨l0, l1, l2⟩ := blk3 LB.out
                  go_wp2_with fail
                  clear p0 p1 l0 l1 l2
                  refine (HT.out yt _).mono ?_
                  rintro e w2 ⟨rfl, hb⟩
                  rw [HTT.out]
                  have BW := Lib.hid (BW.out.trans (hb.mono BW.out.size))
                  have PB := Lib.hid (PB.out.on hb)
                  have LB := Lib.hid (LB.out.on hb)
                  clear hb
                  obtain ⟨p0, p1⟩ := blk2 PB.out
                  obtain ⟨l0, l1, l2⟩ := blk3 LB.out
                  go_wp2_with fail
                  clear p0 p1 l0 l1 l2
                  refine (HC.out _ BW.out).mono ?_
                  rintro e w3 ⟨rfl, hb⟩
                  have BW := Lib.hid (BW.out.trans (hb.mono BW.out.size))
                  have PB := Lib.hid (PB.out.on hb)
                  clear hb LB
                  go_wp2_with fail
                  go_roundw
                  case rel =>
                    refine ⟨k + 1, by omega, by go_num, Lib.hid ⟨fun j hj hjk => ?_, PB.out, BW.out⟩⟩
                    by_cases e : j = k
                    · rw [HSX.out j hj e]; exact ⟨HW.out, HRB.out⟩
                    · exact HGD.out j hj (by omega)
                  case measure => simp [intOf]; omega
        · have hG : ∀ y ∈ m, way s.length y.f y.t = true ∧ rowsB y.x.l = true := fun y hy => by
            obtain ⟨j, hj, rfl⟩ := List.getElem_of_mem hy
            exact HR.out.1 j hj (by omega)
          have hall : ∀ x ∈ al, rowsB x.l = true := fun x hx => by
            rcases HAA.out x hx with hx | ⟨y, hy, rfl⟩
            · exact HGS.out x hx
            · exact (hG y hy).2
          have HE := Lib.hid (HV6.out (by omega) (by omega) (by omega) (fun y hy => (hG y hy).1) hall)
          have HAC := Lib.hid (HA.out wr HR.out.2.2 (by omega) (by omega) (fun l hl => by
            rw [← HPL.out] at hl
            obtain ⟨x, hx, rfl⟩ := List.mem_map.1 hl
            exact (Sto.ok_of (hall x hx)).1))
          have HB := Lib.hid HR.out.2.2
          clear hG hall HR
          go_wp2_with fail
          clear b0 b1
          refine HAC.out.mono ?_
          rintro e w1 ⟨v, rfl, ho, hn, hb⟩
          obtain ⟨_, ad, c, rfl, hd1, hd2, -⟩ := Sto.own_addr ho hn
          have HB1 := Lib.hid (HB.out.trans (hb.mono HB.out.size))
          clear ho hn hb
          unfold Sto.slV
          by_cases h6 : (mergeAll (allP pp)).length ≤ 6
          · have HD := Lib.hid (show netB pp = true by rw [HE.out]; exact decide_eq_true h6)
            obtain ⟨acc, hacc⟩ : ∃ acc, mergeAll (allP pp) = acc := ⟨_, rfl⟩
            rw [hacc] at hd1 h6 ⊢
            clear hacc HE
            go_wp2_with fail
            go_ret
            exact ⟨(show Ending.returned (Value.bool (decide ((acc.length : Int) ≤ 6))) = _ by rw [decide_eq_true (by omega), HD.out]), HB1.out⟩
          · have HD := Lib.hid (show netB pp = false by rw [HE.out]; exact decide_eq_false h6)
            obtain ⟨acc, hacc⟩ : ∃ acc, mergeAll (allP pp) = acc := ⟨_, rfl⟩
            rw [hacc] at hd1 h6 ⊢
            clear hacc HE
            go_wp2_with fail
            go_ret
            exact ⟨(show Ending.returned (Value.bool (decide ((acc.length : Int) ≤ 6))) = _ by rw [decide_eq_false (by omega), HD.out]), HB1.out⟩
end Go.Proofs.Ythagkjofpfafiaa.Net
