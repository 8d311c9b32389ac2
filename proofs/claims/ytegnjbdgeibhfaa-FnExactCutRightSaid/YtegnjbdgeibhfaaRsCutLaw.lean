/-
  FnExactCutRight answers true at every shelf.
-/
import Derived.Test.YtegnjbdgeibhfaaPackRsC
import Derived.Test.YtegnjbdgeibhfaaRsCut
namespace Go.Proofs.Ytegnjbdgeibhfaa.Rs
open Go.ChangeShapes Go.WideShapes Go.ChangeAt Go.RowKit
open Rec (R P Sound Small recV cellsV)
set_option linter.unusedVariables false
set_option maxRecDepth 100000
set_option linter.unusedSimpArgs false

/-- Lists of the same values. -/
theorem alike {s m s' m' : List Q} (es : pr s' = pr s) (em : pr m' = pr m) (hk : ∀ q ∈ s ++ m, Sound q.r) (hl : ∀ q ∈ s ++ m, q.r.l.length ≤ 1048576 ∧ q.r.b.length ≤ 1048576) :
    s'.length = s.length ∧ m'.length = m.length ∧ (∀ q ∈ s', Sound q.r) ∧ (∀ q ∈ m', Sound q.r) ∧ ∀ q ∈ s' ++ m', q.r.l.length ≤ maxLen ∧ q.r.b.length ≤ maxLen := by
  have hm : ∀ {x y : List Q}, pr x = pr y → ∀ q ∈ x, ∃ z ∈ y, q.r = z.r := fun {x y} e q hq => by
    have : q.r ∈ pr x := List.mem_map.2 ⟨q, hq, rfl⟩
    rw [e] at this
    obtain ⟨z, hz, e2⟩ := List.mem_map.1 this
    exact ⟨z, hz, e2.symm⟩
  refine ⟨by have := congrArg List.length es; simpa [pr_len] using this, by have := congrArg List.length em; simpa [pr_len] using this, fun q hq => ?_, fun q hq => ?_, fun q hq => ?_⟩
  · obtain ⟨z, hz, e⟩ := hm es q hq
    rw [e]; exact hk z (List.mem_append_left _ hz)
  · obtain ⟨z, hz, e⟩ := hm em q hq
    rw [e]; exact hk z (List.mem_append_right _ hz)
  · rcases List.mem_append.1 hq with hq | hq
    · obtain ⟨z, hz, e⟩ := hm es q hq
      rw [e]; have := hl z (List.mem_append_left _ hz); unfold maxLen; omega
    · obtain ⟨z, hz, e⟩ := hm em q hq
      rw [e]; have := hl z (List.mem_append_right _ hz); unfold maxLen; omega

set_option maxHeartbeats 8000000 in
set_option maxRecDepth 100000 in
theorem lawCut_any (n : Ct) (w : World) (h : IsCut w n) :
    Calls Try.prog 4 #[n.val] w fun e w' => e = .returned (.bool true) ∧ Below w.heap.size w w' := by
  obtain ⟨A, s, ca, B, m, cb⟩ := n
  obtain ⟨hn, hq1, hq2, hk⟩ := h
  have HK := Lib.hid hk
  have HH := Lib.hid (fun W (hW : Below w.heap.size w W) => hn.on hW)
  have B0 := Lib.hid ((Below.refl w.heap.size w).alloc (Nat.le_refl _) (Obj.cells #[.slice A s.length ca, .slice B m.length cb] 37))
  have X0 := Lib.hid (Blk.new w 37 #[.slice A s.length ca, .slice B m.length cb])
  have HQ := Lib.hid (show s.length ≤ maxLen ∧ m.length ≤ maxLen from ⟨hq1, hq2⟩)
  clear hn hk hq1 hq2
  unfold Ct.val
  go_enter Try.func4, Try.ntmps4
  go_wp2_with fail
  refine (szCut_any ⟨A, s, ca, B, m, cb⟩ 1048576 _ (HH.out _ B0.out) HQ.out.1 HQ.out.2 HK.out (by omega) (by omega)).mono ?_
  rintro e w1 ⟨r, rfl, hr, hb⟩
  have B1 := Lib.hid (B0.out.trans (hb.mono B0.out.size))
  have X1 := Lib.hid (X0.out.on hb)
  clear hb HQ
  rcases hr with rfl | ⟨hr0, hr1, hr2, hr3, hr4⟩
  · go_wp2_with fail
    go_ret
    exact ⟨rfl, B1.out⟩
  have hs0 : s.length ≤ 1048576 := by simp only at hr2; omega
  have hm0 : m.length ≤ 1048576 := by simp only at hr3; omega
  have hr00 : ¬ r < 0 := by omega
  have HLL := Lib.hid (show ∀ q ∈ s ++ m, q.r.l.length ≤ 1048576 ∧ q.r.b.length ≤ 1048576 from fun q hq => by
    have := hr4 q hq
    exact ⟨by have := this.2.2.1; omega, by have := this.2.2.2.2.1; omega⟩)
  clear hr4 hr2 hr3
  have HAL := Lib.hid (fun (s' m' : List Q) (es : pr s' = pr s) (em : pr m' = pr m) => alike es em HK.out HLL.out)
  obtain ⟨x0, x1⟩ := cell2 X1.out
  go_wp2_with fail
  clear x0 x1
  refine (toCut_any ⟨A, s, ca, B, m, cb⟩ _ (HH.out _ B1.out) hs0 hm0 HLL.out).mono ?_
  rintro e w2 ⟨g2, k2, s2, m2, rfl, es2, em2, hs2, hm2, hb⟩
  have B2 := Lib.hid (B1.out.trans (hb.mono B1.out.size))
  have X2 := Lib.hid (X1.out.on hb)
  have LS2 := Lib.hid hs2
  have LM2 := Lib.hid hm2
  have HA2 := Lib.hid (HAL.out s2 m2 es2 em2)
  have ES2 := Lib.hid es2
  have EM2 := Lib.hid em2
  clear hb hs2 hm2 es2 em2
  unfold Ct.val
  go_wp2_with fail
  refine (specCut_any _ _ s2 m2 _ _ _ LS2.out LM2.out (by have := HA2.out.1; omega) (by have := HA2.out.2.1; omega) HA2.out.2.2.1 HA2.out.2.2.2.1).mono ?_
  rintro e w3 ⟨rfl, hb⟩
  have B3 := Lib.hid (B2.out.trans (hb.mono B2.out.size))
  have X3 := Lib.hid (X2.out.on hb)
  clear hb
  rw [ES2.out, EM2.out]
  obtain ⟨bb, hbb⟩ : ∃ bb, cutB (pr s) (pr m) = bb := ⟨_, rfl⟩
  have HBB := Lib.hid hbb
  rw [hbb]
  clear hbb LS2 LM2 HA2 ES2 EM2
  obtain ⟨x0, x1⟩ := cell2 X3.out
  go_wp2_with fail
  clear x0 x1
  refine (toCut_any ⟨A, s, ca, B, m, cb⟩ _ (HH.out _ B3.out) hs0 hm0 HLL.out).mono ?_
  rintro e w4 ⟨g4, k4, s4, m4, rfl, es4, em4, hs4, hm4, hb⟩
  have B4 := Lib.hid (B3.out.trans (hb.mono B3.out.size))
  have X4 := Lib.hid (X3.out.on hb)
  have LS4 := Lib.hid hs4
  have LM4 := Lib.hid hm4
  have HA4 := Lib.hid (HAL.out s4 m4 es4 em4)
  have N4 := Lib.hid (show s4.length ≤ 1048576 ∧ m4.length ≤ 1048576 from by have h1 := HA4.out.1; have h2 := HA4.out.2.1; constructor <;> omega)
  have T4 := Lib.hid HA4.out.2.2.2.2
  have ES4 := Lib.hid es4
  have EM4 := Lib.hid em4
  clear hb hs4 hm4 es4 em4
  unfold Ct.val
  have B5 := Lib.hid (B4.out.alloc B4.out.size (Obj.cells #[.slice (some ⟨g4, 0, none⟩) s4.length s4.length, .slice (some ⟨k4, 0, none⟩) m4.length m4.length] 25))
  have X5 := Lib.hid (X4.out.alloc (Obj.cells #[.slice (some ⟨g4, 0, none⟩) s4.length s4.length, .slice (some ⟨k4, 0, none⟩) m4.length m4.length] 25))
  have Y5 := Lib.hid (Blk.new w4 25 #[.slice (some ⟨g4, 0, none⟩) s4.length s4.length, .slice (some ⟨k4, 0, none⟩) m4.length m4.length])
  have D5 := Lib.hid ((Below.refl w4.heap.size w4).alloc (Nat.le_refl _) (Obj.cells #[.slice (some ⟨g4, 0, none⟩) s4.length s4.length, .slice (some ⟨k4, 0, none⟩) m4.length m4.length] 25))
  have LS5 := Lib.hid (LS4.out.on D5.out)
  have LM5 := Lib.hid (LM4.out.on D5.out)
  obtain ⟨y0, y1⟩ := cell2 Y5.out
  go_wp2_with fail
  clear y0 y1
  generalize World.alloc w4 _ = w5 at B5 X5 Y5 LS5 LM5 ⊢
  generalize w4.heap.size = nb at Y5 ⊢
  clear D5
  refine (implCut_any _ _ s4 m4 _ _ _ LS5.out LM5.out N4.out.1 N4.out.2 HA4.out.2.2.1 HA4.out.2.2.2.1).mono ?_
  rintro e w6 ⟨rfl, hb⟩
  have B6 := Lib.hid (B5.out.trans (hb.mono B5.out.size))
  have X6 := Lib.hid (X5.out.on hb)
  have Y6 := Lib.hid (Y5.out.on hb)
  have LS6 := Lib.hid (LS5.out.on hb)
  have LM6 := Lib.hid (LM5.out.on hb)
  clear hb
  rw [ES4.out, EM4.out, HBB.out]
  have hee : (bb != bb) = false := by cases bb <;> rfl
  have hee2 : (bb == bb) = true := by cases bb <;> rfl
  go_wp2_with fail
  refine wp_region_held_drew (S := (fun W => Below w.heap.size w W ∧ Blk W w.heap.size 37 #[.slice A s.length ca, .slice B m.length cb] ∧ Blk W nb 25 #[.slice (some ⟨g4, 0, none⟩) s4.length s4.length, .slice (some ⟨k4, 0, none⟩) m4.length m4.length] ∧ LRs W W.heap.size (some ⟨g4, 0, none⟩) s4 ∧ LRs W W.heap.size (some ⟨k4, 0, none⟩) m4)) (by kernel_rfl) ?_ (fun hHeld => ?_)
  · exact ⟨B6.out.drew, X6.out.drew, Y6.out.drew, LS6.out.on (Below.refl _ _).drew, LM6.out.on (Below.refl _ _).drew⟩
  refine wpAnyH_take (i := 0) (v := ?_) rfl (by kernel_rfl) (by kernel_rfl) (by kernel_rfl) (fun _ _ _ h => h) (Or.inl ⟨by rfl, ?_⟩) hHeld ?_
  rotate_left
  · intro W hSw
    obtain ⟨hs1, hs2⟩ := cell2 hSw.2.1
    obtain ⟨hs3, hs4⟩ := cell2 hSw.2.2.1
    go_simp
    try with_reducible rfl
  try simp only [Act.put, List.setIfInBounds_toArray, List.set_cons_zero, List.set_cons_succ, List.getElem_toArray, List.getElem_cons_zero]
  refine wpAnyH_take (i := 1) (v := ?_) rfl (by kernel_rfl) (by kernel_rfl) (by kernel_rfl) (fun _ _ _ h => h) (Or.inl ⟨by rfl, ?_⟩) hHeld ?_
  rotate_left
  · intro W hSw
    obtain ⟨hs1, hs2⟩ := cell2 hSw.2.1
    obtain ⟨hs3, hs4⟩ := cell2 hSw.2.2.1
    go_simp
    try with_reducible rfl
  try simp only [Act.put, List.setIfInBounds_toArray, List.set_cons_zero, List.set_cons_succ, List.getElem_toArray, List.getElem_cons_succ, List.getElem_cons_zero]
  refine wpAnyH_ready (rs := [2]) (by kernel_rfl) (by simp) ?_
  refine AllReadyH.cons rfl (fun K hK => ?_) AllReadyH.nil
  go_simp
  refine (toCut_any ⟨A, s, ca, B, m, cb⟩ _ (HH.out _ hHeld.1) hs0 hm0 HLL.out).mono ?_
  rintro e w7 ⟨g7, k7, s7, m7, rfl, es7, em7, hs7, hm7, hb⟩
  have ES7 := Lib.hid es7
  have EM7 := Lib.hid em7
  have LS7 := Lib.hid hs7
  have LM7 := Lib.hid hm7
  clear es7 em7 hs7 hm7
  unfold Ct.val
  refine hK.out _ _ ?_ (fun hHeld => ?_)
  · exact ⟨hHeld.1.trans (hb.mono hHeld.1.size), hHeld.2.1.on hb, hHeld.2.2.1.on hb, hHeld.2.2.2.1.on hb, hHeld.2.2.2.2.on hb⟩
  clear hK K
  try simp only [Act.put, List.setIfInBounds_toArray, List.set_cons_zero, List.set_cons_succ, List.getElem_toArray, List.getElem_cons_succ, List.getElem_cons_zero]
  refine wpAnyH_ready (rs := [3]) (by kernel_rfl) (by simp) ?_
  refine AllReadyH.cons rfl (fun K hK => ?_) AllReadyH.nil
  go_simp
  refine (eqCut_same ⟨some ⟨g4, 0, none⟩, s4, s4.length, some ⟨k4, 0, none⟩, m4, m4.length⟩ ⟨some ⟨g7, 0, none⟩, s7, s7.length, some ⟨k7, 0, none⟩, m7, m7.length⟩ _ ⟨hHeld.2.2.2.1, hHeld.2.2.2.2⟩ ⟨LS7.out, LM7.out⟩ (by unfold pc; simp only; rw [ES4.out, EM4.out, ES7.out, EM7.out]) (by have := N4.out.1; unfold maxLen; simp only; omega) (by have := N4.out.2; unfold maxLen; simp only; omega) T4.out).mono ?_
  rintro e w8 ⟨rfl, hb⟩
  refine hK.out _ _ ?_ (fun hHeld => ?_)
  · exact ⟨hHeld.1.trans (hb.mono hHeld.1.size), hHeld.2.1.on hb, hHeld.2.2.1.on hb, hHeld.2.2.2.1.on hb, hHeld.2.2.2.2.on hb⟩
  clear hK K
  try simp only [Act.put, List.setIfInBounds_toArray, List.set_cons_zero, List.set_cons_succ, List.getElem_toArray, List.getElem_cons_succ, List.getElem_cons_zero]
  refine wpAnyH_take (i := 4) (v := ?_) rfl (by kernel_rfl) (by kernel_rfl) (by kernel_rfl) (fun _ _ _ h => h) (Or.inl ⟨by rfl, ?_⟩) hHeld ?_
  rotate_left
  · intro W hSw
    obtain ⟨hs1, hs2⟩ := cell2 hSw.2.1
    obtain ⟨hs3, hs4⟩ := cell2 hSw.2.2.1
    go_simp
    try with_reducible rfl
  try simp only [Act.put, List.setIfInBounds_toArray, List.set_cons_zero, List.set_cons_succ, List.getElem_toArray, List.getElem_cons_succ, List.getElem_cons_zero]
  refine wpAnyH_done (by kernel_rfl) ?_ _
  have B9 := Lib.hid hHeld.1
  clear hHeld
  go_wp2_with fail
  go_ret
  exact ⟨rfl, B9.out⟩
end Go.Proofs.Ytegnjbdgeibhfaa.Rs
