/-
  The law's own heldRecS: marks on records, read back.
-/
import Derived.Test.YtegnjbdgeibhfaaRsMark
namespace Go.Proofs.Ytegnjbdgeibhfaa.Rs
open Go.ChangeShapes Go.WideShapes Go.ChangeAt Go.RowKit
open Rec (R P Sound Small recV cellsV)
open Net (Cl Bk HeldV)
set_option linter.unusedVariables false
set_option maxRecDepth 100000
set_option linter.unusedSimpArgs false

/-- A marked record's cells. -/
abbrev MAt (W : World) (a : Addr) (m : Int) (mv mv4 : ByteArray) (gb : Bool) (A : Option Addr) (nl ca : Nat) (B : Option Addr) (nb cb : Nat) : Prop :=
  W.cell? a = some (.string mv) ∧ W.cell? ⟨a.block, a.off + 1, none⟩ = some (.int .i64 (m + 1)) ∧ W.cell? ⟨a.block, a.off + 1 + 1, none⟩ = some (.int .i64 (m + 2)) ∧ W.cell? ⟨a.block, a.off + 1 + 2, none⟩ = some (.int .i64 (m + 3)) ∧
  W.cell? ⟨a.block, a.off + 4, none⟩ = some (.string mv4) ∧ W.cell? ⟨a.block, a.off + 5, none⟩ = some (.bool gb) ∧ W.cell? ⟨a.block, a.off + 6, none⟩ = some (.slice A nl ca) ∧ W.cell? ⟨a.block, a.off + 7, none⟩ = some (.slice B nb cb)
theorem MAt.step {W W' : World} {a : Addr} {m : Int} {mv mv4 : ByteArray} {gb : Bool} {A : Option Addr} {nl ca : Nat} {B : Option Addr} {nb cb : Nat} (h : MAt W a m mv mv4 gb A nl ca B nb cb) (hb : Below W.heap.size W W') : MAt W' a m mv mv4 gb A nl ca B nb cb :=
  ⟨Lib.Below.cellOf hb h.1 (Nat.le_refl _), Lib.Below.cellOf hb h.2.1 (Nat.le_refl _), Lib.Below.cellOf hb h.2.2.1 (Nat.le_refl _), Lib.Below.cellOf hb h.2.2.2.1 (Nat.le_refl _), Lib.Below.cellOf hb h.2.2.2.2.1 (Nat.le_refl _), Lib.Below.cellOf hb h.2.2.2.2.2.1 (Nat.le_refl _), Lib.Below.cellOf hb h.2.2.2.2.2.2.1 (Nat.le_refl _), Lib.Below.cellOf hb h.2.2.2.2.2.2.2 (Nat.le_refl _)⟩
/-- It stands, and nothing below is written. -/
abbrev OneM (w : World) (a : Addr) (m : Int) (mv mv4 : ByteArray) (gb : Bool) (A : Option Addr) (nl ca : Nat) (B : Option Addr) (nb cb : Nat) (W : World) : Prop := MAt W a m mv mv4 gb A nl ca B nb cb ∧ Below w.heap.size w W
theorem OneM.step {w W W' : World} {a : Addr} {m : Int} {mv mv4 : ByteArray} {gb : Bool} {A : Option Addr} {nl ca : Nat} {B : Option Addr} {nb cb : Nat} (h : OneM w a m mv mv4 gb A nl ca B nb cb W) (hb : Below W.heap.size W W') : OneM w a m mv mv4 gb A nl ca B nb cb W' := ⟨h.1.step hb, h.2.trans (hb.mono h.2.size)⟩
theorem OneM.drew {w W : World} {a : Addr} {m : Int} {mv mv4 : ByteArray} {gb : Bool} {A : Option Addr} {nl ca : Nat} {B : Option Addr} {nb cb : Nat} (h : OneM w a m mv mv4 gb A nl ca B nb cb W) : OneM w a m mv mv4 gb A nl ca B nb cb W.drew := ⟨h.1, h.2.drew⟩
theorem mkRs_at (k : Nat) (l : List Q) {j : Nat} (h : j < l.length) : (mkRs k l)[j]'(by rw [mkRs_len]; exact h) = mkQ (k + kR (l.take j)) l[j] := by
  induction l generalizing k j with
  | nil => simp at h
  | cons q l ih =>
    cases j with
    | zero => simp [mkRs, kR]
    | succ j =>
      simp only [mkRs, List.getElem_cons_succ, List.take_succ_cons]
      rw [ih (k := k + wQ q) (by simpa using h), kR_cons, Nat.add_assoc]

set_option maxHeartbeats 8000000 in
set_option maxRecDepth 100000 in
theorem heldRecS_any (A : Option Addr) (l : List Q) (cap k : Nat) (w : World) (h : LRs w w.heap.size A (mkRs k l)) (hl : l.length ≤ 1048576) (hll : ∀ q ∈ l, q.r.l.length ≤ 1048576 ∧ q.r.b.length ≤ 1048576) (hk : k + kR l ≤ 9000000) :
    Calls Try.prog 30 #[.slice A l.length cap, .int .i64 k] w fun e w' => e = .returned (.int .i64 ((k + kR l : Nat) : Int)) ∧ Below w.heap.size w w' := by
  have H := Lib.hid h
  have HKB := Lib.hid hk
  have HLL := Lib.hid hll
  clear h hk hll
  go_enter Try.func30, Try.ntmps30
  go_wp2_with fail
  go_loopw [1, 5] (fun z i wr => ∃ j : Nat, j ≤ l.length ∧ i = .int .i64 j ∧ ∃ m : Nat, m ≤ 9000000 ∧ z = .int .i64 m ∧ Hid (m = k + kR (l.take j) ∧ Below w.heap.size w wr)) (fun _ i _ => l.length - (intOf i).toNat)
  case atStart => exact ⟨0, by omega, rfl, k, by have := HKB.out; omega, rfl, Lib.hid ⟨by simp [kR], Below.refl _ _⟩⟩
  case round =>
    obtain ⟨j, hj, rfl, m, hm, rfl, HR⟩ := hrel
    by_cases hlt : j < l.length
    · have HKS := Lib.hid (show k + kR (l.take (j + 1)) = m + wQ l[j] from by rw [take_snoc l j hlt, kR_append, HR.out.1]; simp [kR]; omega)
      have hkb : k + kR (l.take (j + 1)) ≤ k + kR l := by
        have := kR_append (l.take (j + 1)) (l.drop (j + 1))
        rw [List.take_append_drop] at this
        omega
      have hwb : m + wQ l[j] ≤ 9000000 := by have := HKS.out; have := HKB.out; omega
      have HXL := Lib.hid (HLL.out l[j] (List.getElem_mem hlt))
      obtain ⟨_, -, -, -, hL⟩ := H.out.at_ (k := j) (by rw [mkRs_len]; exact hlt)
      obtain ⟨ad, rfl, _, hq, _⟩ := (H.out.below HR.out.2 (Nat.le_refl _)).at_ (k := j) (by rw [mkRs_len]; exact hlt)
      rw [mkRs_at k l hlt, ← HR.out.1] at hq hL
      have HWB := Lib.hid hwb
      obtain ⟨x, hx⟩ : ∃ x, l[j] = x := ⟨_, rfl⟩
      rw [hx] at hq hL HKS HWB HXL
      clear hkb hwb hx
      have HN1 := Lib.hid (show x.r.l.length ≤ 1048576 ∧ m + 6 + 4 * x.r.l.length + x.r.b.length ≤ 9000000 from ⟨HXL.out.1, by have := HWB.out; unfold wQ at this; omega⟩)
      have HN2 := Lib.hid HXL.out.2
      have HWX := Lib.hid (show wQ x = 6 + 4 * x.r.l.length + x.r.b.length from rfl)
      have HLD := Lib.hid hL.1
      have HLS := Lib.hid hL.2
      have HZZ := Lib.hid HR.out.2.size
      unfold mkQ at hq HLD HLS
      simp only at HLD HLS
      unfold QAt RPAt at hq
      simp only [dmarks_len, smarks_len] at hq
      obtain ⟨nl, hnl⟩ : ∃ n, x.r.l.length = n := ⟨_, rfl⟩
      obtain ⟨nb, hnb⟩ : ∃ n, x.r.b.length = n := ⟨_, rfl⟩
      rw [hnl] at hq HLD HLS HN1 HWX
      rw [hnb] at hq HLS HN1 HN2 HWX
      obtain ⟨p, hp⟩ : ∃ p, x.p = p := ⟨_, rfl⟩
      rw [hp] at hq HLD HLS
      clear hL hnl hnb hp
      have HC1 := Lib.hid (fun W => Dep.markText_any m W (by omega))
      have hc2 := fun W => Dep.markText_any (m + 4) W (by omega)
      rw [show ((m + 4 : Nat) : Int) = (m : Int) + 1 + 1 + 1 + 1 by omega] at hc2
      obtain ⟨mv, hmv⟩ : ∃ mv, Dep.markV m = mv := ⟨_, rfl⟩
      obtain ⟨mv4, hmv4⟩ : ∃ mv, Dep.markV (m + 4) = mv := ⟨_, rfl⟩
      obtain ⟨gb, hgb⟩ : ∃ gb, ((m + 5) % 3 == 0) = gb := ⟨_, rfl⟩
      rw [hmv] at HC1 hq
      rw [hmv4] at hc2 hq
      rw [hgb] at hq
      have HC2 := Lib.hid hc2
      have hrem : ((m : Int) + 1 + 1 + 1 + 1 + 1).tmod 3 = (((m + 5) % 3 : Nat) : Int) := by rw [Int.tmod_eq_emod_of_nonneg (by omega)]; omega
      have hgz : ((((m + 5) % 3 : Nat) : Int) == 0) = gb := by
        rw [← hgb]
        by_cases e : (m + 5) % 3 = 0
        · rw [e]; rfl
        · have e2 : ¬ (((m + 5) % 3 : Nat) : Int) = 0 := by omega
          rw [beq_eq_false_iff_ne.2 e, beq_eq_false_iff_ne.2 e2]
      have hgg : (gb != gb) = false := by cases gb <;> rfl
      obtain ⟨t5, ht5⟩ : ∃ t : Int, (((m + 5) % 3 : Nat) : Int) = t := ⟨_, rfl⟩
      rw [ht5] at hrem hgz
      clear hmv hmv4 hgb hc2 ht5
      have hst : OneM w (ad.add (j * 8)) m mv mv4 gb p.A nl p.ca p.B nb p.cb wr := ⟨hq, HR.out.2⟩
      have he1 : (mv.toList == mv.toList) = true := beq_self_eq_true _
      have he2 : (mv4.toList == mv4.toList) = true := beq_self_eq_true _
      have HREM := Lib.hid hrem
      have HGZ := Lib.hid hgz
      have HGG := Lib.hid hgg
      clear hq hrem hgz hgg
      go_wp2_with fail
      go_region_held3 (fun W => MAt W (ad.add (j * 8)) m mv mv4 gb p.A nl p.ca p.B nb p.cb ∧ Below w.heap.size w W)
        (first | exact OneM.drew (by assumption) | exact OneM.step (by assumption) hb)
        (first | (go_at_call 53; refine (HC1.out _).mono ?_; rintro x w' ⟨rfl, hb⟩))
      have hend : OneM w (ad.add (j * 8)) m mv mv4 gb p.A nl p.ca p.B nb p.cb w' := by assumption
      have HE1 := Lib.hid hend
      obtain ⟨c0, c1, c2, c3, c4, c5, c6, c7⟩ := hend.1
      clear hend hst
      go_wp2_with fail
      have hst : OneM w (ad.add (j * 8)) m mv mv4 gb p.A nl p.ca p.B nb p.cb w' := HE1.out
      clear c0 c1 c2 c3 c4 c5 c6 c7
      go_region_held3 (fun W => MAt W (ad.add (j * 8)) m mv mv4 gb p.A nl p.ca p.B nb p.cb ∧ Below w.heap.size w W)
        (first | exact OneM.drew (by assumption) | exact OneM.step (by assumption) hb)
        (first | (go_at_call 53; refine (HC2.out _).mono ?_; rintro x w' ⟨rfl, hb⟩))
      have hend : OneM w (ad.add (j * 8)) m mv mv4 gb p.A nl p.ca p.B nb p.cb w' := by assumption
      have HE2 := Lib.hid hend
      obtain ⟨c0, c1, c2, c3, c4, c5, c6, c7⟩ := hend.1
      have hrem := HREM.out
      have hgz := HGZ.out
      have hgg := HGG.out
      clear hend hst
      have HDW := Lib.hid ((HLD.out.below HE2.out.2 (Nat.le_refl _)).more HE2.out.2.size)
      have hd2 := Dep.heldDepS_any p.A nl p.ca (m + 6) w' HDW.out HN1.out.1 (by have := HN1.out.2; omega)
      rw [show ((m + 6 : Nat) : Int) = (m : Int) + 1 + 1 + 1 + 1 + 1 + 1 by omega] at hd2
      obtain ⟨z2, hz2⟩ : ∃ z2 : Nat, m + 6 + 4 * nl = z2 := ⟨_, rfl⟩
      have HZ2 := Lib.hid hz2
      rw [hz2] at hd2 HLS
      have HD2 := Lib.hid hd2
      clear hz2 hd2
      go_wp2_with fail
      refine HD2.out.mono ?_
      rintro e w6 ⟨rfl, hb6⟩
      have HE6 := Lib.hid (HE2.out.step hb6)
      obtain ⟨c0, c1, c2, c3, c4, c5, c6, c7⟩ := HE6.out.1
      have hzn : ¬ (z2 : Int) < 0 := by omega
      have HS2 := Lib.hid (Str.heldStringS_any p.B nb p.cb z2 w6 ((HLS.out.below HE6.out.2 (Nat.le_refl _)).more HE6.out.2.size) HN2.out (by have := HN1.out.2; have := HZ2.out; omega))
      obtain ⟨z4, hz4⟩ : ∃ z4 : Nat, z2 + nb = z4 := ⟨_, rfl⟩
      have HZ4 := Lib.hid hz4
      rw [hz4] at HS2
      clear hb6 hz4
      go_wp2_with fail
      refine HS2.out.mono ?_
      rintro e w7 ⟨rfl, hb7⟩
      have HE7 := Lib.hid (HE6.out.step hb7)
      have hzn4 : ¬ (z4 : Int) < 0 := by omega
      have hz5 : z4 ≤ 9000000 := by have := HZ4.out; have := HZ2.out; have := HN1.out.2; omega
      have HZW := Lib.hid (show z4 = m + wQ x from by have := HZ4.out; have := HZ2.out; have := HWX.out; omega)
      clear hb7
      go_wp2_with fail
      go_roundw
      case rel => exact ⟨j + 1, by omega, by go_num, z4, hz5, rfl, Lib.hid ⟨by rw [HKS.out, HZW.out], HE7.out.2⟩⟩
      case measure => simp [intOf]; omega
    · have HE := Lib.hid (show l.take j = l from List.take_of_length_le (by omega))
      go_wp2_with fail
      go_ret
      have h1 := HR.out.1
      rw [HE.out] at h1
      exact ⟨by rw [h1]; rfl, HR.out.2⟩
end Go.Proofs.Ytegnjbdgeibhfaa.Rs
