/-
  The given model's DepsPut.
-/
import Derived.Test.YtkmlnibkdcdegaaDepOut
namespace Go.Proofs.Ytkmlnibkdcdegaa.Dep
open Go.ChangeShapes Go.WideShapes Go.ChangeAt Go.RowKit
set_option linter.unusedVariables false
set_option maxRecDepth 100000

theorem specRightI_any (x : I) (w : World) :
    Calls Try.prog 55 #[x.val] w fun e w' => e = .returned (.bool x.right) ∧ Below w.heap.size w w' := Id.specRight_any x.c x.s x.e w

set_option maxHeartbeats 1000000 in
set_option maxRecDepth 100000 in
theorem specPutOut_any (ad : Addr) (l : List D) (cap : Nat) (q : ByteArray) (x : I) (w : World) (h : Lies w w.heap.size (some ad) l) (hcap : l.length ≤ cap) (hcm : cap ≤ maxLen) (hk : ∀ d ∈ l, d.k.size ≤ maxLen) (hq : q.size ≤ maxLen) :
    Calls Try.prog 15 #[slV (some ad) l cap, .string q, x.val] w fun e w' => Answers w e w' (putR l q x) (putC l q x) := by
  have hl : l.length ≤ maxLen := by omega
  have hl1 := hl
  have hq1 := hq
  have hcm1 := hcm
  unfold maxLen at hl1 hq1 hcm1
  have HA := Lib.hid (fun W (hW : Below w.heap.size w W) => specDeps_any (some ad) l cap W ((h.below hW (Nat.le_refl _)).more hW.size) hl hk)
  have HC := Lib.hid (fun (h1 : l.length ≤ 400) W (hW : Below w.heap.size w W) => specPut_any ad l cap q x W ((h.below hW (Nat.le_refl _)).more hW.size) (by omega) hcap hcm)
  clear h hk
  have B1 := ((Below.refl w.heap.size w).alloc (Nat.le_refl _) (Obj.cells #[Value.int IntKind.i64 x.c, Value.int IntKind.i64 x.s, Value.int IntKind.i64 x.e] 30)).alloc (by simp) (Obj.cells #[Value.slice none 0 0, Value.int IntKind.i64 0] 27)
  have hI := (Id.IdRow.new w 30 x.c x.s x.e).alloc (Obj.cells #[Value.slice none 0 0, Value.int IntKind.i64 0] 27)
  have hR := ORow.new (w.alloc (Obj.cells #[Value.int IntKind.i64 x.c, Value.int IntKind.i64 x.s, Value.int IntKind.i64 x.e] 30)) (.slice none 0 0) 0
  rw [World.size_alloc] at hR
  have hltI := hI.lt
  have hltR := hR.lt
  by_cases h400 : 400 < l.length ∨ 8000 < q.size
  · have HV := Lib.hid (show putC l q x = 2 by unfold putC; rw [if_pos h400])
    have HR := Lib.hid (show putR l q x = [] by unfold putR; rw [HV.out]; rfl)
    rw [HV.out, HR.out]
    unfold slV I.val Id.idV
    clear B1 hI hR
    by_cases h4 : 400 < l.length
    · go_enter Try.func15, Try.ntmps15
      go_wp2_with fail
      refine bodyPost_ret (v := outV (.slice none 0 0) 2) (by simp [results, Try.results15, go_sem, outV]) rfl ?_
      exact Answers.nil (((Below.refl w.heap.size w).alloc (Nat.le_refl _) _).alloc (by simp) _)
    · have h5 : 8000 < q.size := by omega
      go_enter Try.func15, Try.ntmps15
      go_wp2_with fail
      refine bodyPost_ret (v := outV (.slice none 0 0) 2) (by simp [results, Try.results15, go_sem, outV]) rfl ?_
      exact Answers.nil (((Below.refl w.heap.size w).alloc (Nat.le_refl _) _).alloc (by simp) _)
  have h4 : ¬ 400 < l.length := by omega
  have h5 : ¬ 8000 < q.size := by omega
  cases hda : depsB l
  · have HV := Lib.hid (show putC l q x = 1 by unfold putC; rw [if_neg h400, if_neg (by rw [hda]; rintro ⟨h, _⟩; cases h)])
    have HR := Lib.hid (show putR l q x = [] by unfold putR; rw [HV.out]; rfl)
    rw [hda] at HA
    clear hda
    unfold slV I.val Id.idV at *
    go_enter Try.func15, Try.ntmps15
    go_wp2_with fail
    refine (HA.out _ B1).mono ?_
    rintro e w1 ⟨rfl, hb1⟩
    have hR1 := hR.step hb1 hltR
    have hI1 := hI.step hb1 hltI
    have B2 := Lib.hid (B1.trans (hb1.mono B1.size))
    clear hb1 hR hI B1
    obtain ⟨i0, i1, i2⟩ := hI1.cells
    obtain ⟨r0, r1⟩ := hR1.cells
    have f0 := hR1.free 0
    have f1 := hR1.free 1
    clear hR1
    go_wp2_with fail
    refine bodyPost_ret (v := outV (.slice none 0 0) 1) (by simp [results, Try.results15, go_sem, outV, r0, r1]) rfl ?_
    rw [HV.out, HR.out]
    exact Answers.nil ((B2.out.setCell (Nat.le_succ _) _).setCell (Nat.le_succ _) _)
  cases hdk : Key.keyB q
  · have HV := Lib.hid (show putC l q x = 1 by unfold putC; rw [if_neg h400, if_neg (by rw [hdk]; rintro ⟨_, h, _⟩; cases h)])
    have HR := Lib.hid (show putR l q x = [] by unfold putR; rw [HV.out]; rfl)
    rw [hda] at HA
    have HK := Lib.hid hdk
    clear hda hdk
    unfold slV I.val Id.idV at *
    go_enter Try.func15, Try.ntmps15
    go_wp2_with fail
    refine (HA.out _ B1).mono ?_
    rintro e w1 ⟨rfl, hb1⟩
    have hR1 := hR.step hb1 hltR
    have hI1 := hI.step hb1 hltI
    have B2 := Lib.hid (B1.trans (hb1.mono B1.size))
    clear hb1 hR hI B1
    obtain ⟨i0, i1, i2⟩ := hI1.cells
    go_wp2_with fail
    refine (Key.specKey_any q _ hq).mono ?_
    rintro e w1' ⟨rfl, rfl⟩
    rw [HK.out]
    obtain ⟨r0, r1⟩ := hR1.cells
    have f0 := hR1.free 0
    have f1 := hR1.free 1
    clear hR1
    go_wp2_with fail
    refine bodyPost_ret (v := outV (.slice none 0 0) 1) (by simp [results, Try.results15, go_sem, outV, r0, r1]) rfl ?_
    rw [HV.out, HR.out]
    exact Answers.nil ((B2.out.setCell (Nat.le_succ _) _).setCell (Nat.le_succ _) _)
  cases hdx : x.right
  · have HV := Lib.hid (show putC l q x = 1 by unfold putC; rw [if_neg h400, if_neg (by rw [hdx]; rintro ⟨_, _, h⟩; cases h)])
    have HR := Lib.hid (show putR l q x = [] by unfold putR; rw [HV.out]; rfl)
    rw [hda] at HA
    have HK := Lib.hid hdk
    have HX := Lib.hid hdx
    clear hda hdk hdx
    unfold slV I.val Id.idV at *
    go_enter Try.func15, Try.ntmps15
    go_wp2_with fail
    refine (HA.out _ B1).mono ?_
    rintro e w1 ⟨rfl, hb1⟩
    have hR1 := hR.step hb1 hltR
    have hI1 := hI.step hb1 hltI
    have B2 := Lib.hid (B1.trans (hb1.mono B1.size))
    clear hb1 hR hI B1
    obtain ⟨i0, i1, i2⟩ := hI1.cells
    go_wp2_with fail
    refine (Key.specKey_any q _ hq).mono ?_
    rintro e w1' ⟨rfl, rfl⟩
    rw [HK.out]
    go_wp2_with fail
    refine (specRightI_any x _).mono ?_
    rintro e w2 ⟨rfl, hb2⟩
    rw [HX.out]
    have hR2 := hR1.step hb2 hR1.lt
    have hI2 := hI1.step hb2 hI1.lt
    have B3 := Lib.hid (B2.out.trans (hb2.mono B2.out.size))
    clear hb2 hR1 hI1 B2 i0 i1 i2
    obtain ⟨i0, i1, i2⟩ := hI2.cells
    obtain ⟨r0, r1⟩ := hR2.cells
    have f0 := hR2.free 0
    have f1 := hR2.free 1
    clear hR2
    go_wp2_with fail
    refine bodyPost_ret (v := outV (.slice none 0 0) 1) (by simp [results, Try.results15, go_sem, outV, r0, r1]) rfl ?_
    rw [HV.out, HR.out]
    exact Answers.nil ((B3.out.setCell (Nat.le_succ _) _).setCell (Nat.le_succ _) _)
  have HV0 := Lib.hid (show putC l q x = if 6 < (putV l q x).length then 9 else 0 by unfold putC; rw [if_neg h400, if_pos ⟨hda, hdk, hdx⟩])
  have hl9 := length_put l q x
  have hj : (putV l q x).length ≤ maxLen := by unfold maxLen; omega
  unfold maxLen at hj
  rw [hda] at HA
  have HK := Lib.hid hdk
  have HX := Lib.hid hdx
  clear hda hdk hdx
  unfold slV I.val Id.idV at *
  go_enter Try.func15, Try.ntmps15
  go_wp2_with fail
  refine (HA.out _ B1).mono ?_
  rintro e w1 ⟨rfl, hb1⟩
  have hR1 := hR.step hb1 hltR
  have hI1 := hI.step hb1 hltI
  have B2 := Lib.hid (B1.trans (hb1.mono B1.size))
  clear hb1 hR hI B1
  obtain ⟨i0, i1, i2⟩ := hI1.cells
  go_wp2_with fail
  refine (Key.specKey_any q _ hq).mono ?_
  rintro e w1' ⟨rfl, rfl⟩
  rw [HK.out]
  go_wp2_with fail
  refine (specRightI_any x _).mono ?_
  rintro e w2 ⟨rfl, hb2⟩
  rw [HX.out]
  have hR2 := hR1.step hb2 hR1.lt
  have hI2 := hI1.step hb2 hI1.lt
  have B3 := Lib.hid (B2.out.trans (hb2.mono B2.out.size))
  clear hb2 hR1 hI1 B2 i0 i1 i2
  obtain ⟨i0, i1, i2⟩ := hI2.cells
  have hlt2 := hR2.lt
  go_wp2_with fail
  refine (HC.out (by omega) _ B3.out).mono ?_
  rintro e w3 ⟨v, rfl, ho3, hb3⟩
  have hR3 := hR2.step hb3 hlt2
  have B4 := Lib.hid (B3.out.trans (hb3.mono B3.out.size))
  obtain ⟨_, ad2, c, rfl, hc1, hc2, hL⟩ := own_addr ho3 (put_ne ho3)
  have HO := Lib.hid ho3
  clear ho3 hb3 hR2 hL hI2 i0 i1 i2
  obtain ⟨r0, r1⟩ := hR3.cells
  have f0 := hR3.free 0
  have f1 := hR3.free 1
  clear hR3
  unfold slV
  by_cases h6 : 6 < (putV l q x).length
  · have HV := Lib.hid (show putC l q x = 9 by rw [HV0.out, if_pos h6])
    have HR := Lib.hid (show putR l q x = [] by unfold putR; rw [HV.out]; rfl)
    go_wp2_with fail
    refine bodyPost_ret (v := outV (.slice none 0 0) 9) (by simp [results, Try.results15, go_sem, outV, r0, r1]) rfl ?_
    rw [HV.out, HR.out]
    exact Answers.nil ((B4.out.setCell (Nat.le_succ _) _).setCell (Nat.le_succ _) _)
  · have HV := Lib.hid (show putC l q x = 0 by rw [HV0.out, if_neg h6])
    have HR := Lib.hid (show putR l q x = putV l q x by unfold putR; rw [HV.out]; rfl)
    go_wp2_with fail
    refine bodyPost_ret (v := outV (.slice (some ad2) (putV l q x).length c) 0) (by simp [results, Try.results15, go_sem, outV, r0, r1]) rfl ?_
    rw [HV.out, HR.out]
    exact Answers.row (own_less (own_set2 HO.out (b := w.heap.size + 1) hlt2 _ _) B3.out.size) ((B4.out.setCell (Nat.le_succ _) _).setCell (Nat.le_succ _) _)
end Go.Proofs.Ytkmlnibkdcdegaa.Dep
