/-
  Several texts in one: NetIWay, NetSRight, NetIRight.
-/
import Derived.Test.YtoagdpbbojlgfaaGreatNetMath
import Derived.Test.YtoagdpbbojlgfaaGreatNetTo
import Derived.Test.YtoagdpbbojlgfaaGreatNetAll
import Derived.Test.YtoagdpbbojlgfaaGreatNetFew
import Derived.Test.YtoagdpbbojlgfaaGreatRowRight
import Derived.Test.YtoagdpbbojlgfaaGreatNetApp
import Derived.Test.YtoagdpbbojlgfaaGreatRowLists
import Derived.Test.YtoagdpbbojlgfaaGreatDepAll
import Derived.Lib.BufferMore
/-
  impl.isPlace, impl.isWay, impl.mailRight.
-/
namespace Go.Proofs.YtoagdpbbojlgfaaGreat.Net
open Go.ChangeShapes Go.WideShapes Go.ChangeAt Go.RowKit
open Sto (R Sl)
set_option linter.unusedVariables false
set_option maxRecDepth 100000
set_option linter.unusedSimpArgs false

theorem placeS_any (A : Option Addr) (k c : Nat) (i : Int) (w : World) (hl : k ≤ 1048576) :
    Calls Tryz.prog 108 #[.slice A k c, .int .i64 i] w fun e w' => e = .returned (.bool (place k i)) ∧ w = w' := by
  unfold place
  go_enter Tryz.func108, Tryz.ntmps108
  go_wp2_with (go_at_call 200; refine (Id.within_any _ _ _ _).mono ?_; rintro e w' ⟨rfl, rfl⟩)
  go_ret
  exact ⟨rfl, rfl⟩
theorem placeM_any (A : Option Addr) (k c : Nat) (i : Int) (w : World) (hl : k ≤ 1048576) :
    Calls Tryz.prog 267 #[.slice A k c, .int .i64 i] w fun e w' => e = .returned (.bool (place k i)) ∧ w = w' := by
  unfold place
  go_enter Tryz.func267, Tryz.ntmps267
  go_wp2_with (go_at_call 200; refine (Id.within_any _ _ _ _).mono ?_; rintro e w' ⟨rfl, rfl⟩)
  go_ret
  exact ⟨rfl, rfl⟩

theorem isWay_any (n : Nt) (f t : Int) (w : World) (hl : n.s.length ≤ 1048576) :
    Calls Tryz.prog 197 #[n.val, .int .i64 f, .int .i64 t] w fun e w' => e = .returned (.bool (way n.s.length f t)) ∧ Below w.heap.size w w' := by
  have HP := Lib.hid (fun (i : Int) W => placeS_any n.A n.s.length n.ca i W hl)
  have HB := Lib.hid ((Below.refl w.heap.size w).alloc (Nat.le_refl _) (Obj.cells #[.slice n.A n.s.length n.ca, .slice n.B n.m.length n.cb] 35))
  unfold Nt.val way
  cases hf : place n.s.length f
  · have HF := Lib.hid hf
    clear hf
    go_enter Tryz.func197, Tryz.ntmps197
    go_wp2_with fail
    refine (HP.out f _).mono ?_
    rintro e w' ⟨rfl, rfl⟩
    rw [HF.out]
    go_wp2_with fail
    go_ret
    exact ⟨rfl, HB.out⟩
  · have HF := Lib.hid hf
    clear hf
    cases ht : place n.s.length t
    · have HT := Lib.hid ht
      clear ht
      go_enter Tryz.func197, Tryz.ntmps197
      go_wp2_with fail
      refine (HP.out f _).mono ?_
      rintro e w' ⟨rfl, rfl⟩
      rw [HF.out]
      go_wp2_with fail
      refine (HP.out t _).mono ?_
      rintro e w' ⟨rfl, rfl⟩
      rw [HT.out]
      go_wp2_with fail
      go_ret
      exact ⟨rfl, HB.out⟩
    · have HT := Lib.hid ht
      clear ht
      go_enter Tryz.func197, Tryz.ntmps197
      go_wp2_with fail
      refine (HP.out f _).mono ?_
      rintro e w' ⟨rfl, rfl⟩
      rw [HF.out]
      go_wp2_with fail
      refine (HP.out t _).mono ?_
      rintro e w' ⟨rfl, rfl⟩
      rw [HT.out]
      go_wp2_with fail
      go_ret
      exact ⟨show Ending.returned (Value.bool (f != t)) = Ending.returned (Value.bool (true && true && !(f == t))) by simp [bne], HB.out⟩

/-- Are the letters few enough, and is each one between two places? -/
def mailOk (k : Nat) (m : List Ml) : Bool := decide (m.length ≤ 40) && m.all fun y => way k y.f y.t

set_option maxHeartbeats 1000000 in
set_option maxRecDepth 100000 in
theorem mailRight_any (n : Nt) (w : World) (h : NLies w w.heap.size n) (hl : n.s.length ≤ 1048576) (hm : n.m.length ≤ 1048576) :
    Calls Tryz.prog 201 #[n.val] w fun e w' => e = .returned (.bool (mailOk n.s.length n.m)) ∧ Below w.heap.size w w' := by
  have HW := Lib.hid (fun (f t : Int) W => isWay_any n f t W hl)
  obtain ⟨A, s, ca, B, m, cb⟩ := n
  have HM := Lib.hid h.2
  clear h
  simp only at hl hm
  unfold Nt.val at HW ⊢
  simp only at HW HM ⊢
  have HB0 := Lib.hid ((Below.refl w.heap.size w).alloc (Nat.le_refl _) (Obj.cells #[.slice A s.length ca, .slice B m.length cb] 35))
  have HP0 := Lib.hid (Blk.new w 35 #[.slice A s.length ca, .slice B m.length cb])
  by_cases h3 : 40 < m.length
  · have HV := Lib.hid (show mailOk s.length m = false by unfold mailOk; rw [decide_eq_false (by omega)]; rfl)
    rw [HV.out]
    go_enter Tryz.func201, Tryz.ntmps201
    go_wp2_with fail
    go_ret
    exact ⟨rfl, HB0.out⟩
  have HV1 := Lib.hid (show ∀ y ∈ m, way s.length y.f y.t = false → mailOk s.length m = false from fun y hy hw => by
    unfold mailOk
    rw [Bool.and_eq_false_iff]; right
    rw [List.all_eq_false]
    exact ⟨y, hy, by rw [hw]; decide⟩)
  have HV2 := Lib.hid (show (∀ y ∈ m, way s.length y.f y.t = true) → mailOk s.length m = true from fun hw => by
    unfold mailOk
    rw [decide_eq_true (by omega), Bool.true_and, List.all_eq_true]
    exact hw)
  go_enter Tryz.func201, Tryz.ntmps201
  go_wp2_with fail
  go_loopw [12] (fun i wr => ∃ k : Nat, k ≤ m.length ∧ i = .int .i64 k ∧ Hid ((∀ j (hj : j < m.length), j < k → way s.length m[j].f m[j].t = true) ∧ Blk wr w.heap.size 35 #[.slice A s.length ca, .slice B m.length cb] ∧ Below w.heap.size w wr)) (fun i _ => m.length - (intOf i).toNat)
  case atStart => exact ⟨0, by omega, rfl, Lib.hid ⟨fun j hj hjk => absurd hjk (by omega), HP0.out, HB0.out⟩⟩
  case round =>
    obtain ⟨k, hk, rfl, HR⟩ := hrel
    by_cases hlt : k < m.length
    · have hmem := List.getElem_mem hlt
      obtain ⟨sd, rfl, _, ⟨c0, c1, c2⟩, -⟩ := (HM.out.below HR.out.2.2 (Nat.le_refl _)).at_ hlt
      have HMEM := Lib.hid hmem
      have HSX := Lib.hid (show ∀ j (hj : j < m.length), j = k → m[j] = m[k] from fun j hj e => by subst e; rfl)
      clear hmem
      obtain ⟨y, hy⟩ : ∃ y, m[k] = y := ⟨_, rfl⟩
      rw [hy] at c0 c1 c2 HMEM HSX
      clear hy
      obtain ⟨yf, yt, yA, yl, yc⟩ := y
      simp only at c0 c1 c2
      have BW := Lib.hid (HR.out.2.2.alloc HR.out.2.2.size (Obj.cells #[.int .i64 yf, .int .i64 yt, .slice yA yl.length yc] 141))
      have PB := Lib.hid (HR.out.2.1.alloc (Obj.cells #[.int .i64 yf, .int .i64 yt, .slice yA yl.length yc] 141))
      have HGD := Lib.hid HR.out.1
      clear HR
      obtain ⟨q0, q1⟩ := blk2 PB.out
      cases hw : way s.length yf yt
      · have HWW := Lib.hid hw
        clear hw
        go_wp2_with fail
        refine (HW.out yf yt _).mono ?_
        rintro e w1 ⟨rfl, hb⟩
        rw [HWW.out]
        have HB1 := Lib.hid (BW.out.trans (hb.mono BW.out.size))
        clear hb q0 q1 c0 c1 c2
        go_wp2_with fail
        go_ret
        exact ⟨by rw [HV1.out _ HMEM.out HWW.out]; rfl, HB1.out⟩
      · have HWW := Lib.hid hw
        clear hw
        go_wp2_with fail
        refine (HW.out yf yt _).mono ?_
        rintro e w1 ⟨rfl, hb⟩
        rw [HWW.out]
        have HB1 := Lib.hid (BW.out.trans (hb.mono BW.out.size))
        have PB1 := Lib.hid (PB.out.on hb)
        clear hb q0 q1 c0 c1 c2
        go_wp2_with fail
        go_roundw
        case rel =>
          refine ⟨k + 1, by omega, by go_num, Lib.hid ⟨fun j hj hjk => ?_, PB1.out, HB1.out⟩⟩
          by_cases e : j = k
          · rw [HSX.out j hj e]; exact HWW.out
          · exact HGD.out j hj (by omega)
        case measure => simp [intOf]; omega
    · have HE := Lib.hid (HV2.out fun y hy => by
        obtain ⟨j, hj, rfl⟩ := List.getElem_of_mem hy
        exact HR.out.1 j hj (by omega))
      go_wp2_with fail
      go_ret
      exact ⟨by rw [HE.out]; rfl, HR.out.2.2⟩
end Go.Proofs.YtoagdpbbojlgfaaGreat.Net

/-
  spec.NetRight.
-/
namespace Go.Proofs.YtoagdpbbojlgfaaGreat.Net
open Go.ChangeShapes Go.WideShapes Go.ChangeAt Go.RowKit
open Sto (R Sl mergeW flat rowsB Fits)
set_option linter.unusedVariables false
set_option maxRecDepth 100000
set_option linter.unusedSimpArgs false

theorem bad_few {n : Nt} (h : n.s.length < 1) : netB (pl n) = false := netB_false fun hk => by have := hk.1.1; rw [show (pl n).1.length = n.s.length from ps_len _] at this; omega
theorem bad_many {n : Nt} (h : 4 < n.s.length) : netB (pl n) = false := netB_false fun hk => by have := hk.1.2; rw [show (pl n).1.length = n.s.length from ps_len _] at this; omega
theorem bad_mail {n : Nt} (h : 40 < n.m.length) : netB (pl n) = false := netB_false fun hk => by have := hk.2.1; rw [show (pl n).2.length = n.m.length from pm_len _] at this; omega
theorem bad_store {n : Nt} (x : Sl) (hx : x ∈ n.all) (h : rowsB x.l = false) : netB (pl n) = false := netB_false fun hk => by
  have := hk.2.2.2.1 x.l (by rw [← all_pl]; exact List.mem_map.2 ⟨x, hx, rfl⟩)
  rw [h] at this; cases this
theorem bad_way {n : Nt} (y : Ml) (hy : y ∈ n.m) (h : way n.s.length y.f y.t = false) : netB (pl n) = false := netB_false fun hk => by
  have := hk.2.2.1 ⟨y.f, y.t, y.x.l⟩ (List.mem_map.2 ⟨y, hy, rfl⟩)
  rw [show (pl n).1.length = n.s.length from ps_len _, h] at this; cases this
theorem right_iff {n : Nt} (h1 : 1 ≤ n.s.length) (h2 : n.s.length ≤ 4) (h3 : n.m.length ≤ 40) (h4 : ∀ y ∈ n.m, way n.s.length y.f y.t = true) (h5 : ∀ x ∈ n.all, rowsB x.l = true) : netB (pl n) = decide ((mergeAll (allP (pl n))).length ≤ 6) := by
  by_cases h : (mergeAll (allP (pl n))).length ≤ 6
  · rw [decide_eq_true h]
    refine netB_true ⟨?_, ?_, fun y hy => ?_, fun l hl => ?_, h⟩
    · rw [show (pl n).1.length = n.s.length from ps_len _]; exact ⟨h1, h2⟩
    · rw [show (pl n).2.length = n.m.length from pm_len _]; exact h3
    · obtain ⟨z, hz, rfl⟩ := List.mem_map.1 hy
      rw [show (pl n).1.length = n.s.length from ps_len _]
      exact h4 z hz
    · rw [← all_pl] at hl
      obtain ⟨x, hx, rfl⟩ := List.mem_map.1 hl
      exact h5 x hx
  · rw [decide_eq_false h]
    exact netB_false fun hk => h hk.2.2.2.2

theorem Little.fits {n : Nt} (h : Little n) {x : Sl} (hx : x ∈ n.all) : x.l.length ≤ maxLen ∧ ∀ d ∈ x.l, Fits d := by
  refine ⟨?_, fun d hd => ?_⟩
  · have := tot_mem hx; have := h.1; unfold maxLen; omega
  · have := h.2 x hx d hd; exact ⟨by unfold maxLen; omega, by unfold maxLen; omega⟩

set_option maxHeartbeats 4000000 in
set_option maxRecDepth 100000 in
theorem specRight_any (n : Nt) (w : World) (h : NLies w w.heap.size n) (hL : Little n) :
    Calls Tryz.prog 98 #[n.val] w fun e w' => e = .returned (.bool (netB (pl n))) ∧ Below w.heap.size w w' := by
  have hsl : n.s.length ≤ 1048576 := by have := hL.1; omega
  have hml : n.m.length ≤ 1048576 := by have := hL.1; omega
  have HA := Lib.hid (fun W (hW : Below w.heap.size w W) (h1 : n.s.length ≤ 4) (h2 : n.m.length ≤ 40) (h6 : ∀ l ∈ allP (pl n), l.length ≤ 6) => specAll_any n W (h.on hW) h1 h2 h6)
  have HT := Lib.hid (fun i W => there_any n i W hsl)
  have HS := Lib.hid h.1
  have HM := Lib.hid h.2
  have HFs := Lib.hid (fun (x : Sl) (hx : x ∈ n.s) => hL.fits (List.mem_append_left _ hx))
  have HFm := Lib.hid (fun (y : Ml) (hy : y ∈ n.m) => hL.fits (x := y.x) (List.mem_append_right n.s (List.mem_map.2 ⟨y, hy, rfl⟩)))
  have HV1 := Lib.hid (@bad_few n)
  have HV2 := Lib.hid (@bad_many n)
  have HV3 := Lib.hid (@bad_mail n)
  have HV4 := Lib.hid (@bad_store n)
  have HV5 := Lib.hid (@bad_way n)
  have HV6 := Lib.hid (right_iff (n := n))
  have HAL := Lib.hid (show ∀ x ∈ n.s, x ∈ n.all from fun x hx => List.mem_append_left _ hx)
  have HAM := Lib.hid (show ∀ y ∈ n.m, y.x ∈ n.all from fun y hy => List.mem_append_right _ (List.mem_map.2 ⟨y, hy, rfl⟩))
  have HAA := Lib.hid (show ∀ x ∈ n.all, (x ∈ n.s) ∨ ∃ y ∈ n.m, y.x = x from fun x hx => by
    rcases List.mem_append.1 hx with hx | hx
    · exact .inl hx
    · obtain ⟨y, hy, e⟩ := List.mem_map.1 hx; exact .inr ⟨y, hy, e⟩)
  have HPL := Lib.hid (all_pl n)
  clear h hL
  obtain ⟨pp, hpp⟩ : ∃ pp, pl n = pp := ⟨_, rfl⟩
  rw [hpp] at HA HV1 HV2 HV3 HV4 HV5 HV6 HPL ⊢
  obtain ⟨al, hal⟩ : ∃ al, n.all = al := ⟨_, rfl⟩
  rw [hal] at HV4 HV6 HAL HAM HAA HPL
  clear hpp hal
  obtain ⟨A, s, ca, B, m, cb⟩ := n
  simp only at hsl hml
  unfold Nt.val at HA HT ⊢
  simp only at HA HT HS HM HFs HFm HV1 HV2 HV3 HV4 HV5 HV6 HAL HAM HAA ⊢
  have B0 := (Below.refl w.heap.size w).alloc (Nat.le_refl _) (Obj.cells #[.slice A s.length ca, .slice B m.length cb] 35)
  have p := Blk.new w 35 #[.slice A s.length ca, .slice B m.length cb]
  have HB0 := Lib.hid B0
  have HP0 := Lib.hid p
  clear B0 p
  by_cases h1 : s.length < 1
  · rw [HV1.out h1]
    go_enter Tryz.func98, Tryz.ntmps98
    go_wp2_with fail
    go_ret
    exact ⟨rfl, HB0.out⟩
  by_cases h2 : 4 < s.length
  · rw [HV2.out h2]
    go_enter Tryz.func98, Tryz.ntmps98
    go_wp2_with fail
    go_ret
    exact ⟨rfl, HB0.out⟩
  by_cases h3 : 40 < m.length
  · rw [HV3.out h3]
    go_enter Tryz.func98, Tryz.ntmps98
    go_wp2_with fail
    go_ret
    exact ⟨rfl, HB0.out⟩
  go_enter Tryz.func98, Tryz.ntmps98
  go_wp2_with fail
  go_loopw [3] (fun i wr => ∃ k : Nat, k ≤ s.length ∧ i = .int .i64 k ∧ Hid ((∀ j (hj : j < s.length), j < k → rowsB s[j].l = true) ∧ Blk wr w.heap.size 35 #[.slice A s.length ca, .slice B m.length cb] ∧ Below w.heap.size w wr)) (fun i _ => s.length - (intOf i).toNat)
  case atStart => exact ⟨0, by omega, rfl, Lib.hid ⟨fun j hj hjk => absurd hjk (by omega), HP0.out, HB0.out⟩⟩
  case round =>
    obtain ⟨k, hk, rfl, HR⟩ := hrel
    obtain ⟨b0, b1⟩ := blk2 HR.out.2.1
    by_cases hlt : k < s.length
    · obtain ⟨sd, rfl, _, c0, hLx⟩ := (HS.out.below HR.out.2.2 (Nat.le_refl _)).at_ hlt
      have hmem := List.getElem_mem hlt
      have hfx := HFs.out s[k] hmem
      have HMEM := Lib.hid (HAL.out s[k] hmem)
      have HSX := Lib.hid (show ∀ j (hj : j < s.length), j = k → s[j] = s[k] from fun j hj e => by subst e; rfl)
      clear hmem
      obtain ⟨x, hx⟩ : ∃ x, s[k] = x := ⟨_, rfl⟩
      rw [hx] at c0 hLx hfx HMEM HSX
      clear hx
      have HC := Lib.hid (Sto.specStore_any x.A x.l x.c wr (hLx.more HR.out.2.2.size) hfx.1 hfx.2)
      unfold Sto.slV at HC
      clear hLx hfx
      cases hrb : rowsB x.l
      · have HRB := Lib.hid hrb
        rw [hrb] at HC
        clear hrb
        go_wp2_with fail
        refine HC.out.mono ?_
        rintro e w1 ⟨rfl, hb⟩
        have HB1 := Lib.hid (HR.out.2.2.trans (hb.mono HR.out.2.2.size))
        clear hb b0 b1 c0
        go_wp2_with fail
        go_ret
        exact ⟨by rw [HV4.out _ HMEM.out HRB.out]; rfl, HB1.out⟩
      · have HRB := Lib.hid hrb
        rw [hrb] at HC
        clear hrb
        go_wp2_with fail
        refine HC.out.mono ?_
        rintro e w1 ⟨rfl, hb⟩
        have HB1 := Lib.hid (HR.out.2.2.trans (hb.mono HR.out.2.2.size))
        have HP1 := Lib.hid (HR.out.2.1.on hb)
        clear hb b0 b1 c0
        go_wp2_with fail
        go_roundw
        case rel =>
          refine ⟨k + 1, by omega, by go_num, Lib.hid ⟨fun j hj hjk => ?_, HP1.out, HB1.out⟩⟩
          by_cases e : j = k
          · rw [HSX.out j hj e]; exact HRB.out
          · exact HR.out.1 j hj (by omega)
        case measure => simp [intOf]; omega
    · have HGS := Lib.hid (show ∀ x ∈ s, rowsB x.l = true from fun x hx => by
        obtain ⟨j, hj, rfl⟩ := List.getElem_of_mem hx
        exact HR.out.1 j hj (by omega))
      have HPB := Lib.hid HR.out.2
      clear HR
      go_wp2_with fail
      clear b0 b1
      go_loopw [4] (fun i wr => ∃ k : Nat, k ≤ m.length ∧ i = .int .i64 k ∧ Hid ((∀ j (hj : j < m.length), j < k → way s.length m[j].f m[j].t = true ∧ rowsB m[j].x.l = true) ∧ Blk wr w.heap.size 35 #[.slice A s.length ca, .slice B m.length cb] ∧ Below w.heap.size w wr)) (fun i _ => m.length - (intOf i).toNat)
      case atStart => exact ⟨0, by omega, rfl, Lib.hid ⟨fun j hj hjk => absurd hjk (by omega), HPB.out.1, HPB.out.2⟩⟩
      case round =>
        obtain ⟨k, hk, rfl, HR⟩ := hrel
        obtain ⟨b0, b1⟩ := blk2 HR.out.2.1
        by_cases hlt : k < m.length
        · have hmem := List.getElem_mem hlt
          have hLx := HM.out.2 m[k] hmem
          obtain ⟨sd, rfl, _, ⟨c0, c1, c2⟩, -⟩ := (HM.out.below HR.out.2.2 (Nat.le_refl _)).at_ hlt
          have hfx := HFm.out m[k] hmem
          have HMEM := Lib.hid hmem
          have HSX := Lib.hid (show ∀ j (hj : j < m.length), j = k → m[j] = m[k] from fun j hj e => by subst e; rfl)
          clear hmem
          obtain ⟨y, hy⟩ : ∃ y, m[k] = y := ⟨_, rfl⟩
          rw [hy] at c0 c1 c2 hLx hfx HMEM HSX
          clear hy
          obtain ⟨yf, yt, yA, yl, yc⟩ := y
          simp only at c0 c1 c2 hLx hfx
          have BW := Lib.hid (HR.out.2.2.alloc HR.out.2.2.size (Obj.cells #[.int .i64 yf, .int .i64 yt, .slice yA yl.length yc] 141))
          have PB := Lib.hid (HR.out.2.1.alloc (Obj.cells #[.int .i64 yf, .int .i64 yt, .slice yA yl.length yc] 141))
          have LB := Lib.hid (Blk.new wr 141 #[.int .i64 yf, .int .i64 yt, .slice yA yl.length yc])
          have HC := Lib.hid (fun W (hW : Below w.heap.size w W) => Sto.specStore_any yA yl yc W ((hLx.below hW (Nat.le_refl _)).more hW.size) hfx.1 hfx.2)
          unfold Sto.slV at HC
          have HGD := Lib.hid HR.out.1
          clear hLx hfx HR
          cases hf : place s.length yf
          · have HF := Lib.hid hf
            clear hf
            obtain ⟨q0, q1⟩ := blk2 PB.out
            go_wp2_with fail
            clear b0 b1 c0 c1 c2 q0 q1
            refine (HT.out yf _).mono ?_
            rintro e w1 ⟨rfl, hb⟩
            rw [HF.out]
            have BW := Lib.hid (BW.out.trans (hb.mono BW.out.size))
            have PB := Lib.hid (PB.out.on hb)
            have LB := Lib.hid (LB.out.on hb)
            clear hb
            go_wp2_with fail
            go_ret
            exact ⟨by rw [HV5.out _ HMEM.out (by unfold way; simp only; rw [HF.out]; rfl)]; rfl, BW.out⟩
          · have HF := Lib.hid hf
            clear hf
            cases ht : place s.length yt
            · have HTT := Lib.hid ht
              clear ht
              obtain ⟨q0, q1⟩ := blk2 PB.out
              go_wp2_with fail
              clear b0 b1 c0 c1 c2 q0 q1
              refine (HT.out yf _).mono ?_
              rintro e w1 ⟨rfl, hb⟩
              rw [HF.out]
              have BW := Lib.hid (BW.out.trans (hb.mono BW.out.size))
              have PB := Lib.hid (PB.out.on hb)
              have LB := Lib.hid (LB.out.on hb)
              clear hb
              obtain ⟨p0, p1⟩ := blk2 PB.out
              obtain ⟨l0, l1, l2⟩ := blk3 LB.out
              go_wp2_with fail
              clear p0 p1 l0 l1 l2
              refine (HT.out yt _).mono ?_
              rintro e w2 ⟨rfl, hb⟩
              rw [HTT.out]
              have BW := Lib.hid (BW.out.trans (hb.mono BW.out.size))
              have PB := Lib.hid (PB.out.on hb)
              have LB := Lib.hid (LB.out.on hb)
              clear hb
              go_wp2_with fail
              go_ret
              exact ⟨by rw [HV5.out _ HMEM.out (by unfold way; simp only; rw [HF.out, HTT.out]; rfl)]; rfl, BW.out⟩
            · have HTT := Lib.hid ht
              clear ht
              by_cases he : yf = yt
              · have hee : (yf == yt) = true := by simpa using he
                have HW := Lib.hid (show way s.length yf yt = false by unfold way; rw [HF.out, HTT.out, hee]; rfl)
                clear he
                obtain ⟨q0, q1⟩ := blk2 PB.out
                go_wp2_with fail
                clear b0 b1 c0 c1 c2 q0 q1
                refine (HT.out yf _).mono ?_
                rintro e w1 ⟨rfl, hb⟩
                rw [HF.out]
                have BW := Lib.hid (BW.out.trans (hb.mono BW.out.size))
                have PB := Lib.hid (PB.out.on hb)
                have LB := Lib.hid (LB.out.on hb)
                clear hb
                obtain ⟨p0, p1⟩ := blk2 PB.out
                obtain ⟨l0, l1, l2⟩ := blk3 LB.out
                go_wp2_with fail
                clear p0 p1 l0 l1 l2
                refine (HT.out yt _).mono ?_
                rintro e w2 ⟨rfl, hb⟩
                rw [HTT.out]
                have BW := Lib.hid (BW.out.trans (hb.mono BW.out.size))
                have PB := Lib.hid (PB.out.on hb)
                have LB := Lib.hid (LB.out.on hb)
                clear hb
                obtain ⟨p0, p1⟩ := blk2 PB.out
                obtain ⟨l0, l1, l2⟩ := blk3 LB.out
                go_wp2_with fail
                clear p0 p1 l0 l1 l2
                go_ret
                exact ⟨by rw [HV5.out _ HMEM.out HW.out]; rfl, BW.out⟩
              · have hee : (yf == yt) = false := by simpa using he
                have HW := Lib.hid (show way s.length yf yt = true by unfold way; rw [HF.out, HTT.out, hee]; rfl)
                clear he
                cases hrb : rowsB yl
                · have HRB := Lib.hid hrb
                  rw [hrb] at HC
                  clear hrb
                  obtain ⟨q0, q1⟩ := blk2 PB.out
                  go_wp2_with fail
                  clear b0 b1 c0 c1 c2 q0 q1
                  refine (HT.out yf _).mono ?_
                  rintro e w1 ⟨rfl, hb⟩
                  rw [HF.out]
                  have BW := Lib.hid (BW.out.trans (hb.mono BW.out.size))
                  have PB := Lib.hid (PB.out.on hb)
                  have LB := Lib.hid (LB.out.on hb)
                  clear hb
                  obtain ⟨p0, p1⟩ := blk2 PB.out
                  obtain ⟨l0, l1, l2⟩ := blk3 LB.out
                  go_wp2_with fail
                  clear p0 p1 l0 l1 l2
                  refine (HT.out yt _).mono ?_
                  rintro e w2 ⟨rfl, hb⟩
                  rw [HTT.out]
                  have BW := Lib.hid (BW.out.trans (hb.mono BW.out.size))
                  have PB := Lib.hid (PB.out.on hb)
                  have LB := Lib.hid (LB.out.on hb)
                  clear hb
                  obtain ⟨p0, p1⟩ := blk2 PB.out
                  obtain ⟨l0, l1, l2⟩ := blk3 LB.out
                  go_wp2_with fail
                  clear p0 p1 l0 l1 l2
                  refine (HC.out _ BW.out).mono ?_
                  rintro e w3 ⟨rfl, hb⟩
                  have BW := Lib.hid (BW.out.trans (hb.mono BW.out.size))
                  have PB := Lib.hid (PB.out.on hb)
                  clear hb LB
                  go_wp2_with fail
                  go_ret
                  exact ⟨by rw [HV4.out _ (HAM.out _ HMEM.out) HRB.out]; rfl, BW.out⟩
                · have HRB := Lib.hid hrb
                  rw [hrb] at HC
                  clear hrb
                  obtain ⟨q0, q1⟩ := blk2 PB.out
                  go_wp2_with fail
                  clear b0 b1 c0 c1 c2 q0 q1
                  refine (HT.out yf _).mono ?_
                  rintro e w1 ⟨rfl, hb⟩
                  rw [HF.out]
                  have BW := Lib.hid (BW.out.trans (hb.mono BW.out.size))
                  have PB := Lib.hid (PB.out.on hb)
                  have LB := Lib.hid (LB.out.on hb)
                  clear hb
                  obtain ⟨p0, p1⟩ := blk2 PB.out
                  obtain ⟨l0, l1, l2⟩ := blk3 LB.out
                  go_wp2_with fail
                  clear p0 p1 l0 l1 l2
                  refine (HT.out yt _).mono ?_
                  rintro e w2 ⟨rfl, hb⟩
                  rw [HTT.out]
                  have BW := Lib.hid (BW.out.trans (hb.mono BW.out.size))
                  have PB := Lib.hid (PB.out.on hb)
                  have LB := Lib.hid (LB.out.on hb)
                  clear hb
                  obtain ⟨p0, p1⟩ := blk2 PB.out
                  obtain ⟨l0, l1, l2⟩ := blk3 LB.out
                  go_wp2_with fail
                  clear p0 p1 l0 l1 l2
                  refine (HC.out _ BW.out).mono ?_
                  rintro e w3 ⟨rfl, hb⟩
                  have BW := Lib.hid (BW.out.trans (hb.mono BW.out.size))
                  have PB := Lib.hid (PB.out.on hb)
                  clear hb LB
                  go_wp2_with fail
                  go_roundw
                  case rel =>
                    refine ⟨k + 1, by omega, by go_num, Lib.hid ⟨fun j hj hjk => ?_, PB.out, BW.out⟩⟩
                    by_cases e : j = k
                    · rw [HSX.out j hj e]; exact ⟨HW.out, HRB.out⟩
                    · exact HGD.out j hj (by omega)
                  case measure => simp [intOf]; omega
        · have hG : ∀ y ∈ m, way s.length y.f y.t = true ∧ rowsB y.x.l = true := fun y hy => by
            obtain ⟨j, hj, rfl⟩ := List.getElem_of_mem hy
            exact HR.out.1 j hj (by omega)
          have hall : ∀ x ∈ al, rowsB x.l = true := fun x hx => by
            rcases HAA.out x hx with hx | ⟨y, hy, rfl⟩
            · exact HGS.out x hx
            · exact (hG y hy).2
          have HE := Lib.hid (HV6.out (by omega) (by omega) (by omega) (fun y hy => (hG y hy).1) hall)
          have HAC := Lib.hid (HA.out wr HR.out.2.2 (by omega) (by omega) (fun l hl => by
            rw [← HPL.out] at hl
            obtain ⟨x, hx, rfl⟩ := List.mem_map.1 hl
            exact (Sto.ok_of (hall x hx)).1))
          have HB := Lib.hid HR.out.2.2
          clear hG hall HR
          go_wp2_with fail
          clear b0 b1
          refine HAC.out.mono ?_
          rintro e w1 ⟨v, rfl, ho, hn, hb⟩
          obtain ⟨_, ad, c, rfl, hd1, hd2, -⟩ := Sto.own_addr ho hn
          have HB1 := Lib.hid (HB.out.trans (hb.mono HB.out.size))
          clear ho hn hb
          unfold Sto.slV
          by_cases h6 : (mergeAll (allP pp)).length ≤ 6
          · have HD := Lib.hid (show netB pp = true by rw [HE.out]; exact decide_eq_true h6)
            obtain ⟨acc, hacc⟩ : ∃ acc, mergeAll (allP pp) = acc := ⟨_, rfl⟩
            rw [hacc] at hd1 h6 ⊢
            clear hacc HE
            go_wp2_with fail
            go_ret
            exact ⟨(show Ending.returned (Value.bool (decide ((acc.length : Int) ≤ 6))) = _ by rw [decide_eq_true (by omega), HD.out]), HB1.out⟩
          · have HD := Lib.hid (show netB pp = false by rw [HE.out]; exact decide_eq_false h6)
            obtain ⟨acc, hacc⟩ : ∃ acc, mergeAll (allP pp) = acc := ⟨_, rfl⟩
            rw [hacc] at hd1 h6 ⊢
            clear hacc HE
            go_wp2_with fail
            go_ret
            exact ⟨(show Ending.returned (Value.bool (decide ((acc.length : Int) ≤ 6))) = _ by rw [decide_eq_false (by omega), HD.out]), HB1.out⟩
end Go.Proofs.YtoagdpbbojlgfaaGreat.Net

/-
  slices.Clone at stores, impl.allStores, impl.keysFit, impl.NetRight.
-/
namespace Go.Proofs.YtoagdpbbojlgfaaGreat.Net
open Go.ChangeShapes Go.WideShapes Go.ChangeAt Go.RowKit
open Sto (R Sl deps rowsB Fits)
set_option linter.unusedVariables false
set_option maxRecDepth 100000
set_option linter.unusedSimpArgs false

theorem cloneSS_any (ad : Addr) (s : List Sl) (c : Nat) (w : World) (h : LSs w w.heap.size (some ad) s) (hl : s.length ≤ 1048576) :
    Calls Tryz.prog 209 #[.slice (some ad) s.length c] w fun e w' => ∃ v, e = .returned v ∧ w'.ownsRow w.heap.size 98 1 v s.length (sv s) ∧ (v = .slice none 0 0 → False) ∧ Below w.heap.size w w' := by
  have B0 := (Below.refl w.heap.size w).alloc (Nat.le_refl _) (Obj.cells #[] 98)
  have HC := Lib.hid ((h.1.below B0 (Nat.le_refl _)))
  have HB0 := Lib.hid B0
  have hbe := fun V : World => Lib.run_eql_slice_some_nil (P := Tryz.prog) V ad s.length c Tryz.underlying32
  clear h B0
  go_enter Tryz.func209, Tryz.ntmps209
  go_wp2_with (at_builtin; refine wpList_app fit_stores rfl rfl rfl (sv s) rfl rfl (o_none w _ _) HC.out (by rw [sv_len, Nat.mul_one]) (sv_one s) (by omega) (by simp) ?_; intro v1 W1 ho1 hg1 hn1; rw [Nat.zero_add, List.nil_append] at ho1; have B1 := Lib.hid (HB0.out.grown hg1 (by simp) (fun j e => by cases e; exact Nat.le_refl _)); have HO1 := Lib.hid ho1; have HN1 := Lib.hid (fun e => by cases (hn1 e).1 : v1 = .slice none 0 0 → False); clear ho1 hg1 hn1)
  go_ret
  exact ⟨v1, rfl, HO1.out, HN1.out, B1.out⟩

theorem map_snoc (m : List Ml) (k : Nat) (h : k < m.length) : (m.take (k + 1)).map (fun y => y.x) = (m.take k).map (fun y => y.x) ++ [m[k].x] := by rw [take_snoc m k h, List.map_append]; rfl
def xs_ (m : List Ml) : List Sl := m.map fun y => y.x
theorem xs_len (m : List Ml) : (xs_ m).length = m.length := by simp [xs_]

set_option maxHeartbeats 1000000 in
set_option maxRecDepth 100000 in
theorem allStores_any (n : Nt) (w : World) (h : NLies w w.heap.size n) (hl : n.s.length ≤ 1048576) (hm : n.m.length ≤ 40) (hne : 0 < n.s.length) :
    Calls Tryz.prog 110 #[n.val] w fun e w' => ∃ v, e = .returned v ∧ w'.ownsRow w.heap.size 98 1 v n.all.length (sv n.all) ∧ (v = .slice none 0 0 → False) ∧ Below w.heap.size w w' := by
  obtain ⟨ad, hA, _, _⟩ := h.1.1 (by rw [sv_len]; exact hne)
  obtain ⟨A, s, ca, B, m, cb⟩ := n
  simp only at hA hl hm hne
  subst hA
  have HC := Lib.hid (fun W (hW : Below w.heap.size w W) => cloneSS_any ad s ca W (h.1.on hW) hl)
  have HM := Lib.hid h.2
  clear h
  have hall : Nt.all ⟨some ad, s, ca, B, m, cb⟩ = s ++ xs_ m := rfl
  rw [hall]
  clear hall
  unfold Nt.val
  simp only at HM ⊢
  have HB0 := Lib.hid ((Below.refl w.heap.size w).alloc (Nat.le_refl _) (Obj.cells #[.slice (some ad) s.length ca, .slice B m.length cb] 35))
  have HP0 := Lib.hid (Blk.new w 35 #[.slice (some ad) s.length ca, .slice B m.length cb])
  go_enter Tryz.func110, Tryz.ntmps110
  go_wp2_with fail
  refine (HC.out _ HB0.out).mono ?_
  rintro e w1 ⟨v0, rfl, ho, hn, hb⟩
  have HO := Lib.hid (o_less ho (base' := w.heap.size) HB0.out.size)
  have HN := Lib.hid hn
  have HB1 := Lib.hid (HB0.out.trans (hb.mono HB0.out.size))
  obtain ⟨q0, q1⟩ := blk2 (HP0.out.on hb)
  clear ho hn hb
  go_wp2_with fail
  clear q0 q1
  go_loopw [3, 12] (fun o i wr => ∃ k : Nat, k ≤ m.length ∧ i = .int .i64 k ∧ Hid (wr.ownsRow w.heap.size 98 1 o (s.length + k) (sv (s ++ xs_ (m.take k))) ∧ (o = .slice none 0 0 → False) ∧ Below w.heap.size w wr)) (fun _ i _ => m.length - (intOf i).toNat)
  case atStart => exact ⟨0, by omega, rfl, Lib.hid ⟨by simpa [xs_] using HO.out, HN.out, HB1.out⟩⟩
  case round =>
    obtain ⟨k, hk, rfl, HR⟩ := hrel
    by_cases hlt : k < m.length
    · obtain ⟨sd, rfl, _, ⟨c0, c1, c2⟩, -⟩ := (HM.out.below HR.out.2.2 (Nat.le_refl _)).at_ hlt
      have HJ := Lib.hid (show s ++ xs_ (m.take (k + 1)) = (s ++ xs_ (m.take k)) ++ [m[k].x] by unfold xs_; rw [map_snoc m k hlt, List.append_assoc])
      obtain ⟨y, hy⟩ : ∃ y, m[k] = y := ⟨_, rfl⟩
      rw [hy] at c0 c1 c2 HJ
      clear hy
      obtain ⟨yf, yt, yA, yl, yc⟩ := y
      simp only at c0 c1 c2 HJ
      have hs1 := HR.out.2.2.size
      go_wp2_with (at_builtin; refine wpList_app fit_stores rfl rfl rfl (sv [⟨yA, yl, yc⟩]) rfl rfl (o_alloc (o_alloc HR.out.1 (Obj.cells #[.int .i64 yf, .int .i64 yt, .slice yA yl.length yc] 141)) (Obj.cells #[.slice yA yl.length yc] 98)) (cl_one_at _ _ #[.slice yA yl.length yc] (by simp)) rfl (sv_one _) (by omega) (by simp; omega) ?_; intro v2 W2 ho2 hg2 hn2; have hBg := ((HR.out.2.2.alloc HR.out.2.2.size (Obj.cells #[.int .i64 yf, .int .i64 yt, .slice yA yl.length yc] 141)).alloc (by simp; omega) (Obj.cells #[.slice yA yl.length yc] 98)).grown hg2 (by simp; omega) (o_base HR.out.1); have B2 := Lib.hid hBg; rw [← sv_append, ← HJ.out] at ho2; have O2 := Lib.hid ho2; have N2 := Lib.hid (fun e => HR.out.2.1 (hn2 e).1 : v2 = .slice none 0 0 → False); clear ho2 hg2 hn2 hBg)
      go_roundw
      case rel => exact ⟨k + 1, by omega, by go_num, Lib.hid ⟨O2.out, N2.out, B2.out⟩⟩
      case measure => simp [intOf]; omega
    · have e : k = m.length := by omega
      have h1 := HR.out.1
      rw [List.take_of_length_le (by omega), e] at h1
      have HF := Lib.hid h1
      clear h1
      go_wp2_with fail
      go_ret
      exact ⟨_, rfl, by rw [List.length_append, xs_len]; exact HF.out, HR.out.2.1, HR.out.2.2⟩

theorem dstore_info : (Tryz.prog.info? 57).map (fun i => (i.zero, i.size, i.bytes)) = some (some (.slice none 0 0), 1, 24) := by kernel_rfl
theorem fit_deps : AppFit 210 57 1 := by
  obtain ⟨i0, hi0, hz0, hz1, hz2⟩ := info_parts dstore_info
  exact ⟨Tryz.underlying210, by omega, i0, _, hi0, hz0, hz1, by rw [hz2]; omega, rfl⟩
def dv (ds : List Dep.Sl) : List Value := ds.map fun d => .slice d.A d.l.length d.c
theorem dv_len (ds : List Dep.Sl) : (dv ds).length = ds.length := by simp [dv]
theorem dv_append (a b : List Dep.Sl) : dv (a ++ b) = dv a ++ dv b := by simp [dv]
theorem dv_one (ds : List Dep.Sl) : ∀ u ∈ dv ds, u.oneCell' = true := by
  intro u hu
  obtain ⟨x, _, rfl⟩ := List.mem_map.1 hu
  rfl
/-- Deps of stores. -/
def Marks (wr : World) (ds : List Dep.Sl) (L : List (List R)) : Prop := ds.map (·.l) = L.map deps ∧ ∀ d ∈ ds, Dep.Lies wr wr.heap.size d.A d.l
theorem Marks.step {wr w' : World} {ds : List Dep.Sl} {L : List (List R)} (h : Marks wr ds L) (hb : Below wr.heap.size wr w') : Marks w' ds L :=
  ⟨h.1, fun d hd => ((h.2 d hd).below hb (Nat.le_refl _)).more hb.size⟩
theorem Marks.grown {wr w' : World} {ds : List Dep.Sl} {L : List (List R)} (h : Marks wr ds L) (hk : ∀ (g : Nat) (cs : Array Value), wr.heap[g]? = some (Obj.cells cs 161 (0, 0)) → w'.heap[g]? = wr.heap[g]?) (hs : wr.heap.size ≤ w'.heap.size) (ht : ∀ d ∈ ds, d.l = [] ∨ ∃ g cs, d.A = some ⟨g, 0, none⟩ ∧ wr.heap[g]? = some (Obj.cells cs 161 (0, 0))) : Marks w' ds L :=
  ⟨h.1, fun d hd => by
    rcases ht d hd with e | ⟨g, cs, e, hc⟩
    · rw [e]; exact fun h0 => absurd h0 (by simp)
    · have hL := h.2 d hd
      intro h0
      obtain ⟨ad, e2, hb, hat⟩ := hL h0
      rw [e] at e2
      cases e2
      exact ⟨_, e, by omega, fun j hj => (hat j hj).keep fun p hp => World.cell?_of_block (by rw [hp, Dep.add_block]; exact hk g cs hc)⟩⟩
/-- Where a slice of deps of one's own lies. -/
theorem deps_block {w : World} {base n c : Nat} {A : Option Addr} {l : List Dep.D} (h : w.ownsRow base 161 4 (Dep.slV A l c) n (Dep.flat l)) : l = [] ∨ ∃ g cs, A = some ⟨g, 0, none⟩ ∧ w.heap[g]? = some (Obj.cells cs 161 (0, 0)) := by
  rcases h.2 with ⟨e, h0⟩ | ⟨g, cap, cur, e, hb, hh, _⟩
  · unfold Dep.slV at e
    injection e with e1 e2 e3
    exact .inl (List.eq_nil_of_length_eq_zero e2)
  · unfold Dep.slV at e
    injection e with e1 e2 e3
    exact .inr ⟨g, cur, e1, hh⟩

set_option maxHeartbeats 2000000 in
set_option maxRecDepth 100000 in
theorem keysFit_any (ad : Addr) (ls : List Sl) (c : Nat) (w : World) (h : LSs w w.heap.size (some ad) ls) (hne : 0 < ls.length) (hl : ls.length ≤ 400) (hr : ∀ x ∈ ls, rowsB x.l = true) :
    Calls Tryz.prog 109 #[.slice (some ad) ls.length c] w fun e w' => e = .returned (.bool (decide ((mergeAll (ps ls)).length ≤ 6))) ∧ Below w.heap.size w w' := by
  have H := Lib.hid h
  have HX := Lib.hid (show ∀ x ∈ ls, x.l.length ≤ 6 from fun x hx => (Sto.ok_of (hr x hx)).1)
  obtain ⟨ks, hks, hkl⟩ := keys_all (ps ls) (fun l hl => by obtain ⟨x, hx, rfl⟩ := List.mem_map.1 hl; exact hr x hx)
  have HKS := Lib.hid hks
  have HKL := Lib.hid hkl
  clear h hr hks hkl
  go_enter Tryz.func109, Tryz.ntmps109
  go_wp2_with fail
  go_loopw [3, 8] (fun o i wr => ∃ k : Nat, k ≤ ls.length ∧ i = .int .i64 k ∧ ∃ ds, Hid (wr.ownsRow w.heap.size 57 1 o k (dv ds) ∧ (ds.length = k ∧ Marks wr ds (ps (ls.take k)) ∧ ∀ d ∈ ds, d.l = [] ∨ ∃ g cs, d.A = some ⟨g, 0, none⟩ ∧ wr.heap[g]? = some (Obj.cells cs 161 (0, 0))) ∧ Below w.heap.size w wr)) (fun _ i _ => ls.length - (intOf i).toNat)
  case atStart => exact ⟨0, by omega, rfl, [], Lib.hid ⟨o_nil _ _ _ _, ⟨rfl, ⟨by simp [ps], fun d hd => absurd hd (by simp)⟩, fun d hd => absurd hd (by simp)⟩, Below.refl _ _⟩⟩
  case round =>
    obtain ⟨k, hk, rfl, ds, HR⟩ := hrel
    by_cases hlt : k < ls.length
    · have hLx := H.out.2 ls[k] (List.getElem_mem hlt)
      obtain ⟨sd, hsd, _, c0, -⟩ := (H.out.below HR.out.2.2 (Nat.le_refl _)).at_ hlt
      cases hsd
      have hx6 := HX.out ls[k] (List.getElem_mem hlt)
      have HJ := Lib.hid (ps_snoc ls k hlt)
      obtain ⟨x, hx⟩ : ∃ x, ls[k] = x := ⟨_, rfl⟩
      rw [hx] at c0 hLx hx6 HJ
      clear hx
      have HC := Lib.hid (Sto.marksOf_any x.A x.l x.c wr ((hLx.below HR.out.2.2 (Nat.le_refl _)).more HR.out.2.2.size) (by omega))
      unfold Sto.slV at HC
      clear hLx
      go_wp2_with fail
      refine HC.out.mono ?_
      rintro e w1 ⟨A', c', rfl, hc', hL', ho', hb⟩
      have hs1 := HR.out.2.2.size
      have hsb := hb.size
      have HMo := Lib.hid (show ∀ d ∈ ds, d.l = [] ∨ ∃ g cs, d.A = some ⟨g, 0, none⟩ ∧ w1.heap[g]? = some (Obj.cells cs 161 (0, 0)) from fun d hd => (HR.out.2.1.2.2 d hd).imp id fun ⟨g, cs, e, hh⟩ => ⟨g, cs, e, (hb.block g (Array.getElem?_eq_some_iff.1 hh).1).trans hh⟩)
      have HDB := Lib.hid (deps_block ho')
      have HMK := Lib.hid (HR.out.2.1.2.1.step hb)
      have HLn := Lib.hid HR.out.2.1.1
      have HLX := Lib.hid hL'
      have HO0 := Lib.hid (o_step HR.out.1 hb (Nat.le_refl _))
      have HB1 := Lib.hid (HR.out.2.2.trans (hb.mono HR.out.2.2.size))
      have HDL := Lib.hid (Sto.deps_len x.l)
      obtain ⟨dx, hdx⟩ : ∃ dx, deps x.l = dx := ⟨_, rfl⟩
      have HDX := Lib.hid hdx
      rw [hdx] at HDB HLX HDL
      rw [hdx]
      clear ho' hL' hb hc' c0 hdx HR
      unfold Dep.slV
      go_wp2_with (at_builtin; refine wpList_app fit_deps rfl rfl rfl (dv [⟨A', dx, c'⟩]) rfl rfl (o_alloc HO0.out (Obj.cells #[.slice A' dx.length c'] 57)) (cl_one_at _ _ #[.slice A' dx.length c'] rfl) rfl (dv_one _) (by omega) (by simp; omega) ?_; intro v2 W2 ho2 hg2 hn2; have hBg := ((HB1.out.alloc HB1.out.size (Obj.cells #[.slice A' dx.length c'] 57))).grown hg2 (by simp; omega) (o_base HO0.out); have B2 := Lib.hid hBg; have hty := fun (g : Nat) (cs : Array Value) => o_types (o_alloc HO0.out (Obj.cells #[.slice A' dx.length c'] 57)) hg2 (t := 161) (by decide) g cs; have TY := Lib.hid hty; have GS := Lib.hid hg2.size; rw [← dv_append] at ho2; have O2 := Lib.hid ho2; clear ho2 hg2 hn2 hBg hty)
      have HTY := Lib.hid (show ∀ (g : Nat) (cs : Array Value), w1.heap[g]? = some (Obj.cells cs 161 (0, 0)) → W2.heap[g]? = w1.heap[g]? from fun g cs hc => by
        have e1 := heap_alloc_old w1 (Obj.cells #[.slice A' dx.length c'] 57) (Array.getElem?_eq_some_iff.1 hc).1
        exact (TY.out g cs (e1.trans hc)).trans e1)
      have HSZ := Lib.hid (show w1.heap.size ≤ W2.heap.size by have := GS.out; rw [World.size_alloc] at this; omega)
      go_roundw
      case rel =>
        refine ⟨k + 1, by omega, by go_num, ds ++ [⟨A', dx, c'⟩], Lib.hid ⟨O2.out, ⟨by rw [List.length_append, HLn.out]; rfl, ?_, ?_⟩, B2.out⟩⟩
        · have hm1 : Marks w1 (ds ++ [⟨A', dx, c'⟩]) (ps (ls.take (k + 1))) := by
            refine ⟨?_, fun d hd => ?_⟩
            · rw [HJ.out, List.map_append, List.map_append, HMK.out.1]
              simp only [List.map_cons, List.map_nil, HDX.out]
            · rcases List.mem_append.1 hd with hd | hd
              · exact HMK.out.2 d hd
              · obtain rfl : d = ⟨A', dx, c'⟩ := by simpa using hd
                exact HLX.out
          refine hm1.grown HTY.out HSZ.out fun d hd => ?_
          rcases List.mem_append.1 hd with hd | hd
          · exact HMo.out d hd
          · obtain rfl : d = ⟨A', dx, c'⟩ := by simpa using hd
            exact HDB.out
        · intro d hd
          have : d.l = [] ∨ ∃ g cs, d.A = some ⟨g, 0, none⟩ ∧ w1.heap[g]? = some (Obj.cells cs 161 (0, 0)) := by
            rcases List.mem_append.1 hd with hd | hd
            · exact HMo.out d hd
            · obtain rfl : d = ⟨A', dx, c'⟩ := by simpa using hd
              exact HDB.out
          exact this.imp id fun ⟨g, cs, e, hh⟩ => ⟨g, cs, e, (HTY.out g cs hh).trans hh⟩
      case measure => simp [intOf]; omega
    · have e : k = ls.length := by omega
      obtain ⟨A2, c2, hv, _, _, hcl, -⟩ := o_val HR.out.1
      rw [List.take_of_length_le (by omega)] at HR
      obtain ⟨ad2, rfl, had, hcell⟩ := hcl (by rw [dv_len, HR.out.2.1.1]; omega)
      subst hv
      have hlist : Dep.Lists wr wr.heap.size ad2 ds := ⟨had, fun j hj => hcell j _ (by simp [dv, hj]), fun j hj => HR.out.2.1.2.1.2 _ (List.getElem_mem hj)⟩
      have hall : Dep.allOf ds = (ps ls).flatMap deps := by
        unfold Dep.allOf
        rw [List.flatMap_def, HR.out.2.1.2.1.1, ← List.flatMap_def]
      have hlen : ∀ j (hj : j < ds.length), ds[j].l.length ≤ maxLen := fun j hj => by
        have h1 : ds[j].l ∈ (ps ls).map deps := by rw [← HR.out.2.1.2.1.1]; exact List.mem_map.2 ⟨_, List.getElem_mem hj, rfl⟩
        obtain ⟨l, hl1, hl2⟩ := List.mem_map.1 h1
        obtain ⟨x, hx, rfl⟩ := List.mem_map.1 hl1
        rw [← hl2, Sto.deps_len]
        have := HX.out x hx
        unfold maxLen; omega
      have HC := Lib.hid (Dep.all_any ad2 ds c2 ks (by rw [hall]; exact HKS.out) (by rw [HR.out.2.1.1]; omega) hlen wr hlist)
      rw [show ds.length = k from HR.out.2.1.1] at HC
      have HB := Lib.hid HR.out.2.2
      have hfd : ∀ (u : Value) (z : Int) (V : World), (Instr.field 157 (.agg #[u, .int .i64 z]) 1).run Tryz.prog V = .ok (.int .i64 z) V := fun u z V => by kernel_rfl
      clear hlist hall hlen hcell had HR e
      go_wp2_with fail
      refine HC.out.mono ?_
      rintro e w1 ⟨h6, h9⟩
      by_cases hk6 : ks.length ≤ 6
      · obtain ⟨A3, c3, rfl, _, _, _, hb⟩ := h6 hk6
        have HB1 := Lib.hid (HB.out.trans (hb.mono HB.out.size))
        have HD := Lib.hid (show decide ((mergeAll (ps ls)).length ≤ 6) = true from decide_eq_true (by have := HKL.out; omega))
        unfold Dep.outV Dep.slV
        clear h6 h9 hb
        go_wp2_with fail
        go_ret
        exact ⟨by rw [HD.out]; rfl, HB1.out⟩
      · obtain ⟨A3, c3, rfl, _, _, _, hb⟩ := h9 (by omega)
        have HB1 := Lib.hid (HB.out.trans (hb.mono HB.out.size))
        have HD := Lib.hid (show decide ((mergeAll (ps ls)).length ≤ 6) = false from decide_eq_false (by have := HKL.out; omega))
        unfold Dep.outV Dep.slV
        clear h6 h9 hb
        go_wp2_with fail
        go_ret
        exact ⟨by rw [HD.out]; rfl, HB1.out⟩

theorem code_zero {L : List (List R)} (h : ∀ l ∈ L, rowsB l = true) : Sto.codeV L = 0 := by
  unfold Sto.codeV
  rw [if_neg (by rintro ⟨l, hl, h4⟩; have := (Sto.ok_of (h l hl)).1; omega), if_pos h]
theorem code_some {L : List (List R)} (h : ¬ ∀ l ∈ L, rowsB l = true) : Sto.codeV L ≠ 0 := by
  unfold Sto.codeV
  split
  · decide
  · first | decide | (rw [if_neg h]; decide)
theorem mailOk_iff (k : Nat) (m : List Ml) : mailOk k m = true ↔ m.length ≤ 40 ∧ ∀ y ∈ m, way k y.f y.t = true := by
  unfold mailOk
  rw [Bool.and_eq_true, decide_eq_true_iff, List.all_eq_true]

set_option maxHeartbeats 2000000 in
set_option maxRecDepth 100000 in
theorem implRight_any (n : Nt) (w : World) (h : NLies w w.heap.size n) (hL : Little n) :
    Calls Tryz.prog 97 #[n.val] w fun e w' => e = .returned (.bool (netB (pl n))) ∧ Below w.heap.size w w' := by
  have hsl : n.s.length ≤ 1048576 := by have := hL.1; omega
  have hml : n.m.length ≤ 1048576 := by have := hL.1; omega
  have HMR := Lib.hid (fun W (hW : Below w.heap.size w W) => mailRight_any n W (h.on hW) hsl hml)
  have HAS := Lib.hid (fun W (hW : Below w.heap.size w W) (h1 : n.m.length ≤ 40) (h2 : 0 < n.s.length) => allStores_any n W (h.on hW) hsl h1 h2)
  have HLX := Lib.hid (show ∀ W, Below w.heap.size w W → ∀ x ∈ n.all, Sto.Lies W W.heap.size x.A x.l from fun W hW x hx => by
    have h' := h.on hW
    rcases List.mem_append.1 hx with hx | hx
    · exact h'.1.2 x hx
    · obtain ⟨y, hy, rfl⟩ := List.mem_map.1 hx; exact h'.2.2 y hy)
  have HF := Lib.hid (fun (x : Sl) (hx : x ∈ n.all) => hL.fits hx)
  have HT := Lib.hid (fun (x : Sl) (hx : x ∈ n.all) => show x.l.length ≤ 1048576 by have := tot_mem hx; have := hL.1; omega)
  have HAN := Lib.hid (show n.all.length = n.s.length + n.m.length by unfold Nt.all; simp)
  have HV1 := Lib.hid (bad_few (n := n))
  have HV2 := Lib.hid (bad_many (n := n))
  have HV3 := Lib.hid (bad_mail (n := n))
  have HV4 := Lib.hid (fun x => bad_store (n := n) x)
  have HV5 := Lib.hid (fun y => bad_way (n := n) y)
  have HV6 := Lib.hid (right_iff (n := n))
  have HPL := Lib.hid (all_pl n)
  have HB0 := Lib.hid ((Below.refl w.heap.size w).alloc (Nat.le_refl _) (Obj.cells #[.slice n.A n.s.length n.ca, .slice n.B n.m.length n.cb] 35))
  have HP0 := Lib.hid (Blk.new w 35 #[.slice n.A n.s.length n.ca, .slice n.B n.m.length n.cb])
  clear h hL
  unfold Nt.val at HMR HAS ⊢
  by_cases hin : 1 ≤ n.s.length ∧ n.s.length ≤ 4
  case neg =>
    have HI := Lib.hid (show Id.inB (n.s.length : Int) 1 4 = false by unfold Id.inB; exact decide_eq_false (by omega))
    have HV := Lib.hid (show netB (pl n) = false by
      by_cases h1 : n.s.length < 1
      · exact HV1.out h1
      · exact HV2.out (by omega))
    rw [HV.out]
    clear hin
    go_enter Tryz.func97, Tryz.ntmps97
    go_wp2_with fail
    refine (Id.within_any _ _ _ _).mono ?_
    rintro e w' ⟨rfl, rfl⟩
    rw [HI.out]
    go_wp2_with fail
    go_ret
    exact ⟨rfl, HB0.out⟩
  have HI := Lib.hid (show Id.inB (n.s.length : Int) 1 4 = true by unfold Id.inB; exact decide_eq_true (by omega))
  cases hmo : mailOk n.s.length n.m
  · have HV := Lib.hid (show netB (pl n) = false by
      by_cases h1 : n.m.length ≤ 40
      · have h2 : ¬ ∀ y ∈ n.m, way n.s.length y.f y.t = true := fun h => by rw [(mailOk_iff _ _).2 ⟨h1, h⟩] at hmo; cases hmo
        obtain ⟨y, hy⟩ := Classical.not_forall.1 h2
        obtain ⟨hy, hw⟩ := Classical.not_imp.1 hy
        exact HV5.out y hy (by simpa using hw)
      · exact HV3.out (by omega))
    rw [hmo] at HMR
    rw [HV.out]
    have HHI := Lib.hid hin
    clear hmo hin
    obtain ⟨q0, q1⟩ := blk2 HP0.out
    go_enter Tryz.func97, Tryz.ntmps97
    go_wp2_with fail
    refine (Id.within_any _ _ _ _).mono ?_
    rintro e w' ⟨rfl, rfl⟩
    rw [HI.out]
    go_wp2_with fail
    refine (HMR.out _ HB0.out).mono ?_
    rintro e w1 ⟨rfl, hb⟩
    have HB1 := Lib.hid (HB0.out.trans (hb.mono HB0.out.size))
    clear hb q0 q1
    go_wp2_with fail
    go_ret
    exact ⟨rfl, HB1.out⟩
  obtain ⟨hm40, hway⟩ := (mailOk_iff _ _).1 hmo
  rw [hmo] at HMR
  have HASS := Lib.hid (fun W (hW : Below w.heap.size w W) => HAS.out W hW hm40 (by omega))
  have HA44 := Lib.hid (show n.all.length ≤ 44 by have := HAN.out; omega)
  have HAPOS := Lib.hid (show 0 < n.all.length by have := HAN.out; omega)
  have HIFF := Lib.hid (HV6.out (by omega) (by omega) hm40 hway)
  clear hmo hin hm40 hway HAS
  have HCODE := Lib.hid (show ∀ (W : World) (g c : Nat), Below w.heap.size w W → Bk W g 98 c (sv n.all) → ∀ cap, Calls Tryz.prog 178 #[.func (.func 81) #[] #[], .slice (some ⟨g, 0, none⟩) n.all.length cap] W fun e w' => e = .returned (.int .i64 (Sto.codeV (ps n.all))) ∧ Below W.heap.size W w' from fun W g c hW hB cap =>
    Sto.lists_any ⟨g, 0, none⟩ n.all cap W ⟨hB.lt, fun j hj => by rw [addr0]; exact hB.at_ (sv_at hj), fun j hj => HLX.out W hW _ (List.getElem_mem hj)⟩ (by have := HA44.out; omega) (fun j hj => HT.out _ (List.getElem_mem hj)) (fun j hj => (HF.out _ (List.getElem_mem hj)).2))
  have HFIT := Lib.hid (show ∀ (W : World) (g c : Nat), Below w.heap.size w W → Bk W g 98 c (sv n.all) → (∀ x ∈ n.all, rowsB x.l = true) → ∀ cap, Calls Tryz.prog 109 #[.slice (some ⟨g, 0, none⟩) n.all.length cap] W fun e w' => e = .returned (.bool (decide ((mergeAll (ps n.all)).length ≤ 6))) ∧ Below W.heap.size W w' from fun W g c hW hB hr cap =>
    keysFit_any ⟨g, 0, none⟩ n.all cap W ⟨hB.cl hB.lt, HLX.out W hW⟩ HAPOS.out (by have := HA44.out; omega) hr)
  obtain ⟨q0, q1⟩ := blk2 HP0.out
  by_cases hall : ∀ x ∈ n.all, rowsB x.l = true
  · have HALL := Lib.hid hall
    have HC0 := Lib.hid (show Sto.codeV (ps n.all) = 0 from code_zero fun l hl => by obtain ⟨x, hx, rfl⟩ := List.mem_map.1 hl; exact hall x hx)
    have HE := Lib.hid (HIFF.out hall)
    clear hall
    go_enter Tryz.func97, Tryz.ntmps97
    go_wp2_with fail
    refine (Id.within_any _ _ _ _).mono ?_
    rintro e w' ⟨rfl, rfl⟩
    rw [HI.out]
    go_wp2_with fail
    refine (HMR.out _ HB0.out).mono ?_
    rintro e w1 ⟨rfl, hb⟩
    have HB1 := Lib.hid (HB0.out.trans (hb.mono HB0.out.size))
    have HP1 := Lib.hid (HP0.out.on hb)
    clear hb q0 q1
    obtain ⟨q0, q1⟩ := blk2 HP1.out
    go_wp2_with fail
    refine (HASS.out _ HB1.out).mono ?_
    rintro e w2 ⟨v, rfl, ho, hn, hb⟩
    obtain ⟨g, c, rfl, _, _, _, hbk⟩ := o_val_ne ho hn
    have HBK := Lib.hid hbk
    have HB2 := Lib.hid (HB1.out.trans (hb.mono HB1.out.size))
    clear ho hn hb hbk q0 q1
    go_wp2_with fail
    refine (HCODE.out _ _ _ HB2.out HBK.out _).mono ?_
    rintro e w3 ⟨rfl, hb⟩
    rw [HC0.out]
    have HB3 := Lib.hid (HB2.out.trans (hb.mono HB2.out.size))
    have HBK3 := Lib.hid (HBK.out.on hb)
    clear hb
    go_wp2_with fail
    refine (HFIT.out _ _ _ HB3.out HBK3.out HALL.out _).mono ?_
    rintro e w4 ⟨rfl, hb⟩
    have HB4 := Lib.hid (HB3.out.trans (hb.mono HB3.out.size))
    clear hb
    go_wp2_with fail
    go_ret
    exact ⟨show Ending.returned (Value.bool (decide ((mergeAll (ps n.all)).length ≤ 6))) = _ by rw [HE.out, HPL.out], HB4.out⟩
  · have HC0 := Lib.hid (show Sto.codeV (ps n.all) ≠ 0 from code_some fun h => hall fun x hx => h x.l (List.mem_map.2 ⟨x, hx, rfl⟩))
    have HV := Lib.hid (show netB (pl n) = false by
      obtain ⟨x, hx⟩ := Classical.not_forall.1 hall
      obtain ⟨hx, hr⟩ := Classical.not_imp.1 hx
      exact HV4.out x hx (by simpa using hr))
    rw [HV.out]
    clear hall
    go_enter Tryz.func97, Tryz.ntmps97
    go_wp2_with fail
    refine (Id.within_any _ _ _ _).mono ?_
    rintro e w' ⟨rfl, rfl⟩
    rw [HI.out]
    go_wp2_with fail
    refine (HMR.out _ HB0.out).mono ?_
    rintro e w1 ⟨rfl, hb⟩
    have HB1 := Lib.hid (HB0.out.trans (hb.mono HB0.out.size))
    have HP1 := Lib.hid (HP0.out.on hb)
    clear hb q0 q1
    obtain ⟨q0, q1⟩ := blk2 HP1.out
    go_wp2_with fail
    refine (HASS.out _ HB1.out).mono ?_
    rintro e w2 ⟨v, rfl, ho, hn, hb⟩
    obtain ⟨g, c, rfl, _, _, _, hbk⟩ := o_val_ne ho hn
    have HBK := Lib.hid hbk
    have HB2 := Lib.hid (HB1.out.trans (hb.mono HB1.out.size))
    clear ho hn hb hbk q0 q1
    go_wp2_with fail
    refine (HCODE.out _ _ _ HB2.out HBK.out _).mono ?_
    rintro e w3 ⟨rfl, hb⟩
    have HB3 := Lib.hid (HB2.out.trans (hb.mono HB2.out.size))
    clear hb
    have hc2 : (Sto.codeV (ps n.all) == 0) = false := beq_eq_false_iff_ne.2 HC0.out
    obtain ⟨cv, hcv⟩ : ∃ cv, Sto.codeV (ps n.all) = cv := ⟨_, rfl⟩
    have hc3 := HC0.out
    rw [hcv] at hc2 hc3 ⊢
    clear hcv
    have hc4 : ¬ cv = 0 := hc3
    go_wp2_with fail
    go_ret
    exact ⟨rfl, HB3.out⟩
end Go.Proofs.YtoagdpbbojlgfaaGreat.Net
