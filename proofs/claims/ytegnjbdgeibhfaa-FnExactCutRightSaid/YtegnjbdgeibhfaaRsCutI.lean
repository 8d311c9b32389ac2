/-
  When a shelf is right, as plain mathematics; impl.CutRight.
-/
import Derived.Test.YtegnjbdgeibhfaaRsMay
import Derived.Test.YtegnjbdgeibhfaaRsFits
namespace Go.Proofs.Ytegnjbdgeibhfaa.Rs
open Go.ChangeShapes Go.WideShapes Go.ChangeAt Go.RowKit
open Rec (R P Sound recV cellsV recB needsR rec_of)
open Net (Cl Bk HeldV)
open Dep (D I depsB coversB covB ofV joinV K4)
set_option linter.unusedVariables false
set_option maxRecDepth 100000

def upB (rows wait : List R) : Bool := wait.all fun r => (ofV (mk rows) r.k).less r.i
theorem up_iff {rows wait : List R} : upB rows wait = true ↔ Up rows wait := by
  unfold upB Up
  rw [List.all_eq_true]
/-- A right shelf. -/
noncomputable def cutB (rows wait : List R) : Bool := closedB rows && listB wait && fitsB rows wait && upB rows wait && (partR rows wait.length wait).isEmpty
theorem cut_c {rows wait : List R} (h : closedB rows = false) : cutB rows wait = false := by unfold cutB; rw [h]; rfl
theorem cut_l {rows wait : List R} (h : listB wait = false) : cutB rows wait = false := by unfold cutB; rw [h, Bool.and_false]; rfl
theorem cut_f {rows wait : List R} (h : fitsB rows wait = false) : cutB rows wait = false := by unfold cutB; rw [h, Bool.and_false]; rfl
theorem cut_u {rows wait : List R} (h : upB rows wait = false) : cutB rows wait = false := by unfold cutB; rw [h, Bool.and_false]; rfl
theorem cut_p {rows wait : List R} (h1 : closedB rows = true) (h2 : listB wait = true) (h3 : fitsB rows wait = true) (h4 : upB rows wait = true) : cutB rows wait = (partR rows wait.length wait).isEmpty := by unfold cutB; rw [h1, h2, h3, h4]; rfl
theorem closed_list {rows : List R} (h : closedB rows = true) : ListOk rows := by
  cases e : listB rows
  · rw [closed_no e] at h; cases h
  · exact list_of e
theorem fits_six {rows wait : List R} (hr : ListOk rows) (hw : ListOk wait) (h : fitsB rows wait = true) : (joinV (mk rows) (mk wait)).length ≤ 6 := by
  have h1 : (keysV rows wait).length ≤ 6 := of_decide_eq_true h
  refine Nat.le_trans (has_len ((sg_mk hr).join (sg_mk hw)).1 fun q hq => ?_) h1
  unfold keysV
  rw [has_fold q ((sg_mk hr).join (sg_mk hw)) fun l hl => by
    obtain ⟨r, h1, rfl⟩ := List.mem_map.1 hl
    exact sg_needs (hw.2.1 r h1)]
  exact .inl hq
theorem upper_all {s l : List Q} : (upper (mk (pr s)) l).length < l.length ↔ upB (pr s) (pr l) = false := by
  have e : upB (pr s) (pr l) = l.all fun q => (ofV (mk (pr s)) q.r.k).less q.r.i := by unfold upB pr; rw [List.all_map]; rfl
  rw [e]
  unfold upper
  constructor
  · intro h
    cases hc : (l.all fun q => (ofV (mk (pr s)) q.r.k).less q.r.i)
    · rfl
    · rw [List.all_eq_true] at hc
      rw [List.filter_eq_self.2 hc] at h
      exact absurd h (Nat.lt_irrefl _)
  · intro h
    rcases Nat.lt_or_ge (l.filter fun q => (ofV (mk (pr s)) q.r.k).less q.r.i).length l.length with h1 | h1
    · exact h1
    · have h2 := List.length_filter_eq_length_iff.1 (Nat.le_antisymm (List.length_filter_le _ _) h1)
      rw [List.all_eq_true.2 h2] at h
      cases h
theorem cell2 {W : World} {b t : Nat} {u0 u1 : Value} (h : Blk W b t #[u0, u1]) : W.cell? ⟨b, 0, none⟩ = some u0 ∧ W.cell? ⟨b, 1, none⟩ = some u1 := ⟨h.cell 0, h.cell 1⟩

/-- Two cells stand, and nothing below is written. -/
abbrev CutAt (w : World) (b : Nat) (u v : Value) (W : World) : Prop := (W.cell? ⟨b, 0, none⟩ = some u ∧ W.cell? ⟨b, 1, none⟩ = some v) ∧ Below w.heap.size w W
theorem CutAt.step {w W W' : World} {b : Nat} {u v : Value} (h : CutAt w b u v W) (hb : Below W.heap.size W W') : CutAt w b u v W' :=
  ⟨⟨Lib.Below.cellOf hb h.1.1 (Nat.le_refl _), Lib.Below.cellOf hb h.1.2 (Nat.le_refl _)⟩, h.2.trans (hb.mono h.2.size)⟩
theorem CutAt.drew {w W : World} {b : Nat} {u v : Value} (h : CutAt w b u v W) : CutAt w b u v W.drew := ⟨h.1, h.2.drew⟩
theorem CutAt.below {w W : World} {b : Nat} {u v : Value} (h : CutAt w b u v W) : Below w.heap.size w W := h.2
theorem empty_len {l : List Q} {p : List R} (h : pr l = p) : p.isEmpty = (((l.length : Nat) : Int) == 0) := by
  subst h
  cases l with
  | nil => rfl
  | cons q l =>
    have e : (((q :: l).length : Nat) : Int) ≠ 0 := by simp only [List.length_cons]; omega
    rw [show (pr (q :: l)).isEmpty = false from rfl]
    exact (beq_eq_false_iff_ne.2 e).symm

set_option maxHeartbeats 4000000 in
set_option maxRecDepth 100000 in
theorem implCut_any (A : Option Addr) (bd : Addr) (rows wait : List Q) (ca cb : Nat) (w : World) (h : LRs w w.heap.size A rows) (hw : LRs w w.heap.size (some bd) wait) (hrl : rows.length ≤ 1048576) (hwl : wait.length ≤ 1048576) (hsr : ∀ q ∈ rows, Sound q.r) (hsw : ∀ q ∈ wait, Sound q.r) :
    Calls Try.prog 14 #[.agg #[.slice A rows.length ca, .slice (some bd) wait.length cb]] w fun x w' => x = .returned (.bool (cutB (pr rows) (pr wait))) ∧ Below w.heap.size w w' := by
  have B0 := Lib.hid ((Below.refl w.heap.size w).alloc (Nat.le_refl _) (Obj.cells #[.slice A rows.length ca, .slice (some bd) wait.length cb] 25))
  have X0 := Lib.hid (Blk.new w 25 #[.slice A rows.length ca, .slice (some bd) wait.length cb])
  have HCL := Lib.hid (fun W (hW : Below w.heap.size w W) => implClosed_any A rows ca W (h.on hW) (by omega) hsr)
  have HRR := Lib.hid (fun W (hW : Below w.heap.size w W) => recsRight_any (some bd) wait cb W (hw.on hW) (by omega) hsw)
  have HCF := Lib.hid (fun (h1 : ListOk (pr rows)) (h2 : ListOk (pr wait)) W (hW : Below w.heap.size w W) => cutFits_any A (some bd) rows wait ca cb W (h.on hW) (hw.on hW) h1 (by have := h2.1; rw [pr_len] at this; omega) (fun q hq => h2.2.1 _ (List.mem_map.2 ⟨q, hq, rfl⟩)) (sg_mk h2))
  have HAB := Lib.hid (fun (h2 : ListOk (pr wait)) W (hW : Below w.heap.size w W) => above_any A (some bd) rows wait ca cb W (h.on hW) (hw.on hW) (by omega) (by have := h2.1; rw [pr_len] at this; omega))
  have HMC := Lib.hid (fun (h1 : ListOk (pr rows)) (h2 : ListOk (pr wait)) (h3 : Up (pr rows) (pr wait)) (h4 : (joinV (mk (pr rows)) (mk (pr wait))).length ≤ 6) W (hW : Below w.heap.size w W) => mayCome_any A bd rows wait ca cb W (h.on hW) (hw.on hW) h1 h2 h3 h4 hsr hsw)
  clear h hw hsr hsw
  go_enter Try.func14, Try.ntmps14
  go_wp2_with fail
  refine (HCL.out _ B0.out).mono ?_
  rintro e w1 ⟨rfl, hb⟩
  have B1 := Lib.hid (B0.out.trans (hb.mono B0.out.size))
  have X1 := Lib.hid (X0.out.on hb)
  clear hb HCL
  cases hc : closedB (pr rows)
  · have HN := Lib.hid (cut_c (wait := pr wait) hc)
    clear hc
    go_wp2_with fail
    go_ret
    exact ⟨Key.ret_bool HN.out.symm, B1.out⟩
  have HC := Lib.hid hc
  have HRO := Lib.hid (closed_list hc)
  clear hc
  obtain ⟨x0, x1⟩ := cell2 X1.out
  go_wp2_with fail
  clear x0 x1
  refine (HRR.out _ B1.out).mono ?_
  rintro e w2 ⟨rfl, hb⟩
  have B2 := Lib.hid (B1.out.trans (hb.mono B1.out.size))
  have X2 := Lib.hid (X1.out.on hb)
  clear hb HRR
  cases hl : listB (pr wait)
  · have HN := Lib.hid (cut_l (rows := pr rows) hl)
    clear hl
    go_wp2_with fail
    go_ret
    exact ⟨Key.ret_bool HN.out.symm, B2.out⟩
  have HL := Lib.hid hl
  have HWO := Lib.hid (list_of hl)
  clear hl
  obtain ⟨x0, x1⟩ := cell2 X2.out
  go_wp2_with fail
  clear x0 x1
  refine (HCF.out HRO.out HWO.out _ B2.out).mono ?_
  rintro e w3 ⟨rfl, hb⟩
  have B3 := Lib.hid (B2.out.trans (hb.mono B2.out.size))
  have X3 := Lib.hid (X2.out.on hb)
  clear hb HCF
  cases hf : fitsB (pr rows) (pr wait)
  · have HN := Lib.hid (cut_f hf)
    clear hf
    go_wp2_with fail
    go_ret
    exact ⟨Key.ret_bool HN.out.symm, B3.out⟩
  have HF := Lib.hid hf
  have H66 := Lib.hid (fits_six HRO.out HWO.out hf)
  clear hf
  have hst : CutAt w w.heap.size (.slice A rows.length ca) (.slice (some bd) wait.length cb) w3 := ⟨cell2 X3.out, B3.out⟩
  have HUA := Lib.hid (upper_all (s := rows) (l := wait))
  obtain ⟨n, hn⟩ : ∃ n, (upper (mk (pr rows)) wait).length = n := ⟨_, rfl⟩
  rw [hn] at HUA
  have HAB2 := HAB
  simp only [hn] at HAB2
  have HAB := HAB2
  clear hn HAB2 X3 X2 X1 X0
  cases hu : upB (pr rows) (pr wait)
  · have hlt : (n : Int) < wait.length := by have := HUA.out.2 hu; omega
    have HN := Lib.hid (cut_u hu)
    clear hu
    go_wp2_with fail
    go_region_held3 (fun W => (W.cell? ⟨w.heap.size, 0, none⟩ = some (.slice A rows.length ca) ∧ W.cell? ⟨w.heap.size, 1, none⟩ = some (.slice (some bd) wait.length cb)) ∧ Below w.heap.size w W)
      (first | exact CutAt.drew (by assumption) | exact CutAt.step (by assumption) hb)
      (first | (go_at_call 40; refine (HAB.out HWO.out _ (CutAt.below (by assumption))).mono ?_; rintro x w' ⟨v, rfl, ho, hb⟩; obtain ⟨A5, c5, rfl, -⟩ := o_val ho; clear ho))
    have hend : CutAt w w.heap.size (.slice A rows.length ca) (.slice (some bd) wait.length cb) w' := by assumption
    have B4 := Lib.hid hend.2
    obtain ⟨⟨x0, x1⟩, -⟩ := hend
    clear hst
    clear x0 x1
    go_wp2_with fail
    go_ret
    exact ⟨Key.ret_bool HN.out.symm, B4.out⟩
  have hlt : ¬ (n : Int) < wait.length := fun h => by
    have := HUA.out.1 (by omega)
    rw [hu] at this
    cases this
  have HU := Lib.hid hu
  clear hu
  go_wp2_with fail
  go_region_held3 (fun W => (W.cell? ⟨w.heap.size, 0, none⟩ = some (.slice A rows.length ca) ∧ W.cell? ⟨w.heap.size, 1, none⟩ = some (.slice (some bd) wait.length cb)) ∧ Below w.heap.size w W)
    (first | exact CutAt.drew (by assumption) | exact CutAt.step (by assumption) hb)
    (first | (go_at_call 40; refine (HAB.out HWO.out _ (CutAt.below (by assumption))).mono ?_; rintro x w' ⟨v, rfl, ho, hb⟩; obtain ⟨A5, c5, rfl, -⟩ := o_val ho; clear ho))
  have hend : CutAt w w.heap.size (.slice A rows.length ca) (.slice (some bd) wait.length cb) w' := by assumption
  have B4 := Lib.hid hend.2
  obtain ⟨⟨x0, x1⟩, -⟩ := hend
  clear hst
  go_wp2_with fail
  clear x0 x1
  refine (HMC.out HRO.out HWO.out (up_iff.1 HU.out) H66.out _ B4.out).mono ?_
  rintro e w5 ⟨g, c, pt, rfl, _, hpt, _, hb⟩
  have B5 := Lib.hid (B4.out.trans (hb.mono B4.out.size))
  have HEM := Lib.hid ((cut_p HC.out HL.out HF.out HU.out).trans (empty_len hpt))
  clear hb hpt
  go_wp2_with fail
  go_ret
  exact ⟨Key.ret_bool HEM.out.symm, B5.out⟩
end Go.Proofs.Ytegnjbdgeibhfaa.Rs
