/-
  SeenOf of the model and of the program.
-/
import Derived.Test.YtegnjbdgeibhfaaGreatPackRsC
import Derived.Test.YtegnjbdgeibhfaaGreatRsCt
import Derived.Test.YtegnjbdgeibhfaaGreatPackJoin
namespace Go.Proofs.YtegnjbdgeibhfaaGreat.Rs
open Go.ChangeShapes Go.WideShapes Go.ChangeAt Go.RowKit
open Rec (R P Sound recV cellsV recB needsR rec_of)
open Net (Cl Bk HeldV)
open Dep (D I depsB)
set_option linter.unusedVariables false
set_option maxRecDepth 100000
set_option linter.unusedSimpArgs false

theorem field_deps (A : Option Addr) (n c : Nat) (k : Int) (V : World) : (Instr.field 99 (.agg #[.slice A n c, .int .i64 k]) 0).run Tryz.prog V = .ok (.slice A n c) V := by kernel_rfl
/-- What is seen on a shelf. -/
noncomputable def seenV (rows wait : List R) : List D := if cutB rows wait = true then mk rows else []
theorem cut_list {rows wait : List R} (h : cutB rows wait = true) : ListOk rows := by
  cases e : closedB rows
  · rw [cut_c e] at h; cases h
  · exact closed_list e
theorem seen_no {rows wait : List R} (h : cutB rows wait = false) : seenV rows wait = [] := by unfold seenV; rw [if_neg (by rw [h]; exact Bool.noConfusion)]
theorem seen_yes {rows wait : List R} (h : cutB rows wait = true) : seenV rows wait = mk rows := by unfold seenV; rw [if_pos h]
theorem seenV_len (rows wait : List R) : (seenV rows wait).length ≤ 6 := by
  unfold seenV
  by_cases h : cutB rows wait = true
  · rw [if_pos h, mk_len]; exact (cut_list h).1
  · rw [if_neg h]; simp
theorem held_own {w W : World} {v : Value} {l : List D} (ho : W.ownsRow w.heap.size 103 4 v l.length (Dep.flat l)) : ∃ A c, v = Dep.slV A l c ∧ l.length ≤ c ∧ Dep.Held W A l w.heap.size W.heap.size := by
  obtain ⟨hn, A, c, rfl, hc, hL⟩ := Dep.own_lies ho
  exact ⟨A, c, rfl, hc, Dep.Held.of_own ho⟩
theorem held_empty (w : World) : Dep.Held (w.alloc (Obj.cells #[] 103)) (some ⟨w.heap.size, 0, none⟩) [] w.heap.size (w.heap.size + 1) :=
  .inr ⟨_, rfl, ⟨#[], heap_alloc_new w _, by simp, fun j hj => absurd hj (by simp)⟩, Nat.le_refl _, by omega⟩

set_option maxHeartbeats 2000000 in
theorem specSeen_any (A : Option Addr) (bd : Addr) (rows wait : List Q) (ca cb : Nat) (w : World) (h : LRs w w.heap.size A rows) (hw : LRs w w.heap.size (some bd) wait) (hrl : rows.length ≤ 1048576) (hwl : wait.length ≤ 1048576) (hsr : ∀ q ∈ rows, Sound q.r) (hsw : ∀ q ∈ wait, Sound q.r) :
    Calls Tryz.prog 21 #[.agg #[.slice A rows.length ca, .slice (some bd) wait.length cb]] w fun e w' => ∃ A' c, e = .returned (Dep.slV A' (seenV (pr rows) (pr wait)) c) ∧ Dep.Held w' A' (seenV (pr rows) (pr wait)) w.heap.size w'.heap.size ∧ Below w.heap.size w w' := by
  have B0 := Lib.hid ((Below.refl w.heap.size w).alloc (Nat.le_refl _) (Obj.cells #[.slice A rows.length ca, .slice (some bd) wait.length cb] 35))
  have X0 := Lib.hid (Blk.new w 35 #[.slice A rows.length ca, .slice (some bd) wait.length cb])
  have HC := Lib.hid (fun W (hW : Below w.heap.size w W) => specCut_any A bd rows wait ca cb W (h.on hW) (hw.on hW) hrl hwl hsr hsw)
  have HSE := Lib.hid (fun (h1 : ListOk (pr rows)) W (hW : Below w.heap.size w W) => seen_any A rows ca W (h.on hW) h1)
  clear h hw hsr hsw
  obtain ⟨x0, x1⟩ := cell2 X0.out
  go_enter Tryz.func21, Tryz.ntmps21
  go_wp2_with fail
  clear x0 x1
  refine (HC.out _ B0.out).mono ?_
  rintro e w1 ⟨rfl, hb⟩
  have B1 := Lib.hid (B0.out.trans (hb.mono B0.out.size))
  have X1 := Lib.hid (X0.out.on hb)
  clear hb HC X0
  cases hc : cutB (pr rows) (pr wait)
  · have HN := Lib.hid (seen_no hc)
    clear hc
    go_wp2_with fail
    go_ret
    rw [HN.out]
    refine ⟨some ⟨w1.heap.size, 0, none⟩, 0, rfl, ?_, B1.out.alloc B1.out.size _⟩
    exact (held_empty w1).wide B1.out.size (by simp)
  · have HL := Lib.hid (cut_list hc)
    have HY := Lib.hid (seen_yes hc)
    clear hc
    obtain ⟨x0, x1⟩ := cell2 X1.out
    go_wp2_with fail
    clear x0 x1
    refine (HSE.out HL.out _ B1.out).mono ?_
    rintro e w2 ⟨v, rfl, ho, hv, hb⟩
    have B2 := Lib.hid (B1.out.trans (hb.mono B1.out.size))
    obtain ⟨A', c, rfl, hcc, hh⟩ := held_own ho
    have HH := Lib.hid (hh.wide B1.out.size (Nat.le_refl _))
    clear hb ho hv hcc hh
    go_wp2_with fail
    go_ret
    rw [HY.out]
    exact ⟨A', c, rfl, HH.out, B2.out⟩

set_option maxHeartbeats 2000000 in
theorem implSeen_any (A : Option Addr) (bd : Addr) (rows wait : List Q) (ca cb : Nat) (w : World) (h : LRs w w.heap.size A rows) (hw : LRs w w.heap.size (some bd) wait) (hrl : rows.length ≤ 1048576) (hwl : wait.length ≤ 1048576) (hsr : ∀ q ∈ rows, Sound q.r) (hsw : ∀ q ∈ wait, Sound q.r) :
    Calls Tryz.prog 22 #[.agg #[.slice A rows.length ca, .slice (some bd) wait.length cb]] w fun e w' => ∃ A' c, e = .returned (Dep.slV A' (seenV (pr rows) (pr wait)) c) ∧ Dep.Held w' A' (seenV (pr rows) (pr wait)) w.heap.size w'.heap.size ∧ Below w.heap.size w w' := by
  have B0 := Lib.hid ((Below.refl w.heap.size w).alloc (Nat.le_refl _) (Obj.cells #[.slice A rows.length ca, .slice (some bd) wait.length cb] 35))
  have X0 := Lib.hid (Blk.new w 35 #[.slice A rows.length ca, .slice (some bd) wait.length cb])
  have HC := Lib.hid (fun W (hW : Below w.heap.size w W) => implCut_any A bd rows wait ca cb W (h.on hW) (hw.on hW) hrl hwl hsr hsw)
  have HM := Lib.hid (fun W (hW : Below w.heap.size w W) => recMarks_any A rows ca W (h.on hW) hrl)
  clear h hw hsr hsw
  obtain ⟨x0, x1⟩ := cell2 X0.out
  go_enter Tryz.func22, Tryz.ntmps22
  go_wp2_with fail
  clear x0 x1
  refine (HC.out _ B0.out).mono ?_
  rintro e w1 ⟨rfl, hb⟩
  have B1 := Lib.hid (B0.out.trans (hb.mono B0.out.size))
  have X1 := Lib.hid (X0.out.on hb)
  clear hb HC X0
  cases hc : cutB (pr rows) (pr wait)
  · have HN := Lib.hid (seen_no hc)
    clear hc
    go_wp2_with fail
    go_ret
    rw [HN.out]
    exact ⟨none, 0, rfl, .inl ⟨rfl, rfl⟩, B1.out⟩
  · have HL := Lib.hid (mk_ok (cut_list hc))
    have HY := Lib.hid (seen_yes hc)
    clear hc
    obtain ⟨x0, x1⟩ := cell2 X1.out
    go_wp2_with fail
    clear x0 x1
    refine (HM.out _ B1.out).mono ?_
    rintro e w2 ⟨A', c, rfl, hcc, hL, _, hb⟩
    have B2 := Lib.hid (B1.out.trans (hb.mono B1.out.size))
    have HJ := Lib.hid (Dep.one_any A' (mk (pr rows)) c w2 w2 hL HL.out (Below.refl _ _))
    clear hb hcc hL
    obtain ⟨M, hM⟩ : ∃ M, mk (pr rows) = M := ⟨_, rfl⟩
    rw [hM] at HJ HY ⊢
    clear hM HL HM
    unfold Dep.slV
    go_wp2_with fail
    refine HJ.out.mono ?_
    rintro e w3 hans
    obtain ⟨A3, c3, rfl, hh, hc3, hb⟩ := hans.held
    have hfd := fun n k V => field_deps A3 n c3 k V
    have B3 := Lib.hid ((B2.out.alloc B2.out.size (Dep.oneObj A' M c)).trans (hb.mono (by have := B2.out.size; simp; omega)))
    have HH := Lib.hid (hh.wide (lo' := w.heap.size) (by have := B2.out.size; simp; omega) (Nat.le_refl _))
    clear hb hh hc3 hans
    unfold Dep.outV
    go_wp2_with fail
    go_ret
    rw [HY.out]
    exact ⟨A3, c3, rfl, HH.out, B3.out⟩

noncomputable def seenC (p : List R × List R) : List D := seenV p.1 p.2
theorem seenC_len (p : List R × List R) : (seenC p).length ≤ 6 := seenV_len _ _
theorem specSeenC_any (n : Ct) (w : World) (h : CLies w w.heap.size n) (hf : CFine n) (hc : CCopy n) :
    Calls Tryz.prog 21 #[n.val] w fun e w' => ∃ A' c, e = .returned (Dep.slV A' (seenC (pc n)) c) ∧ Dep.Held w' A' (seenC (pc n)) w.heap.size w'.heap.size ∧ Below w.heap.size w w' := by
  obtain ⟨A, s, ca, B, m, cb⟩ := n
  obtain ⟨bd, hB⟩ := hc
  simp only at hB
  subst hB
  exact specSeen_any A bd s m ca cb w h.1 h.2 hf.s hf.m (fun q hq => hf.k q (List.mem_append_left _ hq)) (fun q hq => hf.k q (List.mem_append_right _ hq))
theorem implSeenC_any (n : Ct) (w : World) (h : CLies w w.heap.size n) (hf : CFine n) (hc : CCopy n) :
    Calls Tryz.prog 22 #[n.val] w fun e w' => ∃ A' c, e = .returned (Dep.slV A' (seenC (pc n)) c) ∧ Dep.Held w' A' (seenC (pc n)) w.heap.size w'.heap.size ∧ Below w.heap.size w w' := by
  obtain ⟨A, s, ca, B, m, cb⟩ := n
  obtain ⟨bd, hB⟩ := hc
  simp only at hB
  subst hB
  exact implSeen_any A bd s m ca cb w h.1 h.2 hf.s hf.m (fun q hq => hf.k q (List.mem_append_left _ hq)) (fun q hq => hf.k q (List.mem_append_right _ hq))
end Go.Proofs.YtegnjbdgeibhfaaGreat.Rs
