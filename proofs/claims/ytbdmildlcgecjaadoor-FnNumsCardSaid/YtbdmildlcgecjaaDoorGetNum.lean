/-
  The Go functions impl.GetNum and spec.GetNum answer the same for every string and every place, and the law over them answers true.
  Condition: the variable errors.errorType holds the handle of the type error (the row lists it, the card ties it).
-/
import Derived.Test.YtbdmildlcgecjaaDoorGnSpec
import Derived.Test.YtbdmildlcgecjaaDoorGnRead
import Derived.Test.YtbdmildlcgecjaaDoorAs
namespace Go.Proofs.YtbdmildlcgecjaaDoor.Gn
open Go.ChangeShapes Go.WideShapes Go.ChangeAt Go.RowKit
set_option linter.unusedVariables false

/-- The variable errors.errorType holds the handle of the type error. -/
def Handle (w : World) : Prop := w.cell? ⟨0, 0, none⟩ = some (.iface 74 (.agg #[.pointer (some ⟨1, 45, none⟩)]))
theorem Handle.pos {w : World} (h : Handle w) : 0 < w.heap.size := World.block_lt_of_cell? w ⟨0, 0, none⟩ h
theorem Handle.below {w w' : World} (h : Handle w) (hb : Below w.heap.size w w') : Handle w' := (hb.cell (p := ⟨0, 0, none⟩) h.pos).trans h
theorem Handle.alloc {w : World} (h : Handle w) (o : Obj) : Handle (w.alloc o) := (World.cell?_alloc_lt w o ⟨0, 0, none⟩ h.pos).trans h
theorem bcell {W w1 : World} (hb : Below W.heap.size W w1) : (∀ b o, b < W.heap.size → w1.cell? ⟨b, o, none⟩ = W.cell? ⟨b, o, none⟩) ∧ (∀ b o, b < W.heap.size → w1.frozen? ⟨b, o, none⟩ = W.frozen? ⟨b, o, none⟩) :=
  ⟨fun b o h => hb.cell (p := ⟨b, o, none⟩) h, fun b o h => hb.frozen (p := ⟨b, o, none⟩) h⟩
theorem faultCode_at (c : Int) (w : World) (h : Handle w) : Calls Tryd.prog 22 #[.iface 55 (.agg #[.int .i64 c])] w fun e w' => e = .returned (.int .i64 c) ∧ Below w.heap.size w w' :=
  As.faultCode_of c w h

theorem rd_fault (f : Nat) : ∀ (l : List UInt8) (k : Nat) (u a n e c : Int), rd f l k u a = (n, e, c) → c ≠ 0 → n = 0 ∧ e = 0 := by
  induction f with
  | zero =>
    intro l k u a n e c h hc
    simp only [rd, Prod.mk.injEq] at h
    exact ⟨h.1.symm, h.2.1.symm⟩
  | succ f ih =>
    intro l k u a n e c h hc
    cases l with
    | nil =>
      simp only [rd, Prod.mk.injEq] at h
      exact ⟨h.1.symm, h.2.1.symm⟩
    | cons b l =>
      rw [rd] at h
      split at h
      · simp only [Prod.mk.injEq] at h; exact ⟨h.1.symm, h.2.1.symm⟩
      · split at h
        · split at h
          · simp only [Prod.mk.injEq] at h; exact ⟨h.1.symm, h.2.1.symm⟩
          · simp only [Prod.mk.injEq] at h; exact absurd h.2.2.symm hc
        · exact ih _ _ _ _ _ _ _ h hc

set_option maxHeartbeats 1000000 in
theorem implGetNum_any (s : ByteArray) (a : Int) (w : World) (hs : s.size ≤ maxLen) (ha0 : -9223372036854775808 ≤ a) (ha1 : a ≤ 9223372036854775807) (hw : Handle w) :
    Calls Tryd.prog 9 #[.string s, .int .i64 a] w fun e w' => e = .returned (gnV s a) ∧ Below w.heap.size w w' := by
  unfold maxLen at hs
  have HW := Lib.hid hw
  clear hw
  by_cases h1 : 8000 < s.size
  · have HU := Lib.hid (gn_big (a := a) h1)
    go_enter Tryd.func9, Tryd.ntmps9
    go_wp2_with fail
    exact bodyPost_ret (v := .agg #[.int .i64 0, .int .i64 0, .int .i64 2]) (by simp [results, Tryd.results9, go_sem]) rfl ⟨by rw [HU.out], (Below.refl _ _).alloc (Nat.le_refl _) _⟩
  by_cases h2 : a < 0
  · have HU := Lib.hid (gn_neg h1 h2)
    go_enter Tryd.func9, Tryd.ntmps9
    go_wp2_with fail
    exact bodyPost_ret (v := .agg #[.int .i64 0, .int .i64 0, .int .i64 1]) (by simp [results, Tryd.results9, go_sem]) rfl ⟨by rw [HU.out], (Below.refl _ _).alloc (Nat.le_refl _) _⟩
  obtain ⟨p, rfl⟩ := Int.eq_ofNat_of_zero_le (by omega : 0 ≤ a)
  obtain ⟨n, e, c, hr⟩ : ∃ n e c, rd 10 (s.data.toList.drop p) 0 0 (p : Int) = (n, e, c) := ⟨_, _, _, rfl⟩
  have HG := Lib.hid (gn_rd h1 hr)
  by_cases hc : c = 0
  · subst hc
    have HR := Lib.hid (readNum_any s p · h1 (by omega) n e 0 hr (.tuple #[.int .i64 n, .int .i64 e, .nilIface]) (by rw [if_pos rfl]))
    clear hr
    go_enter Tryd.func9, Tryd.ntmps9
    go_wp2_with (go_at_call 21; refine (HR.out _).mono ?_; rintro ev w' ⟨rfl, rfl⟩)
    refine (As.faultCode_nil _).mono ?_
    rintro ev w1 ⟨rfl, hb1⟩
    obtain ⟨hc, hf⟩ := bcell hb1
    have hz : w.heap.size < w1.heap.size := by have := hb1.size; simp at this; omega
    have hb2 : Below w.heap.size w w1 := ((Below.refl _ _).alloc (Nat.le_refl _) _).trans (hb1.mono (by simp))
    clear hb1
    go_wp2_with fail
    exact bodyPost_ret (v := .agg #[.int .i64 n, .int .i64 e, .int .i64 0]) (by simp [results, Tryd.results9, go_sem, hc]) rfl ⟨by rw [HG.out], ((hb2.setCell (Nat.le_refl _) _).setCell (Nat.le_refl _) _).setCell (Nat.le_refl _) _⟩
  · obtain ⟨rfl, rfl⟩ := rd_fault 10 _ _ _ _ _ _ _ hr hc
    have HR := Lib.hid (readNum_any s p · h1 (by omega) 0 0 c hr (.tuple #[.int .i64 0, .int .i64 0, .iface 55 (.agg #[.int .i64 c])]) (by rw [if_neg hc]))
    clear hr hc
    go_enter Tryd.func9, Tryd.ntmps9
    go_wp2_with (go_at_call 21; refine (HR.out _).mono ?_; rintro ev w' ⟨rfl, rfl⟩)
    refine (faultCode_at _ _ (HW.out.alloc _)).mono ?_
    rintro ev w1 ⟨rfl, hb1⟩
    obtain ⟨hc, hf⟩ := bcell hb1
    have hz : w.heap.size < w1.heap.size := by have := hb1.size; simp at this; omega
    have hb2 : Below w.heap.size w w1 := ((Below.refl _ _).alloc (Nat.le_refl _) _).trans (hb1.mono (by simp))
    clear hb1
    go_wp2_with fail
    exact bodyPost_ret (v := .agg #[.int .i64 0, .int .i64 0, .int .i64 c]) (by simp [results, Tryd.results9, go_sem, hc]) rfl ⟨by rw [HG.out], ((hb2.setCell (Nat.le_refl _) _).setCell (Nat.le_refl _) _).setCell (Nat.le_refl _) _⟩

theorem specGetNum_any (s : ByteArray) (a : Int) (w : World) (hs : s.size ≤ maxLen) (ha0 : -9223372036854775808 ≤ a) (ha1 : a ≤ 9223372036854775807) :
    Calls Tryd.prog 14 #[.string s, .int .i64 a] w fun e w' => e = .returned (gnV s a) ∧ Below w.heap.size w w' := by
  unfold maxLen at hs
  by_cases h1 : 8000 < s.size
  · have HU := Lib.hid (gn_big (a := a) h1)
    go_enter Tryd.func14, Tryd.ntmps14
    go_wp2_with fail
    exact bodyPost_ret (v := .agg #[.int .i64 0, .int .i64 0, .int .i64 2]) (by simp [results, Tryd.results14, go_sem]) rfl ⟨by rw [HU.out], (Below.refl _ _).alloc (Nat.le_refl _) _⟩
  by_cases h2 : a < 0
  · have HU := Lib.hid (gn_neg h1 h2)
    go_enter Tryd.func14, Tryd.ntmps14
    go_wp2_with fail
    exact bodyPost_ret (v := .agg #[.int .i64 0, .int .i64 0, .int .i64 1]) (by simp [results, Tryd.results14, go_sem]) rfl ⟨by rw [HU.out], (Below.refl _ _).alloc (Nat.le_refl _) _⟩
  obtain ⟨p, rfl⟩ := Int.eq_ofNat_of_zero_le (by omega : 0 ≤ a)
  exact specGetNum_at s p w h1 (by omega)

theorem eqNum_same (n a c : Int) (w : World) :
    Calls Tryd.prog 15 #[.agg #[.int .i64 n, .int .i64 a, .int .i64 c], .agg #[.int .i64 n, .int .i64 a, .int .i64 c]] w fun e w' => e = .returned (.bool true) ∧ Below w.heap.size w w' := by
  go_enter Tryd.func15, Tryd.ntmps15
  go_wp2
  go_ret
  exact ⟨rfl, ((Below.refl _ _).alloc (Nat.le_refl _) _).alloc (by simp) _⟩

set_option maxHeartbeats 400000 in
theorem lawGetNum (s : ByteArray) (a : Int) (hs : s.size ≤ maxLen) (wa : (Lit.int .i64 a).wf = true) (w : World) (hw : Handle w) :
    Calls Tryd.prog 4 #[.string s, .int .i64 a] w fun e w' => e = .returned (.bool true) ∧ Below w.heap.size w w' := by
  have hm := hs
  unfold maxLen at hm
  obtain ⟨ha0, ha1⟩ := bounds_i64 wa
  have HW := Lib.hid hw
  clear hw
  by_cases h1 : 1048576 < s.size
  · go_enter Tryd.func4, Tryd.ntmps4
    go_wp2_with fail
    go_ret
    exact ⟨rfl, Below.refl _ _⟩
  · have h2 : ¬ (1048576 : Int) < (s.size : Int) := by omega
    obtain ⟨n, e, c, hv⟩ : ∃ n e c, gnV s a = .agg #[.int .i64 n, .int .i64 e, .int .i64 c] := ⟨_, _, _, rfl⟩
    have HS := Lib.hid (specGetNum_any s a · hs ha0 ha1)
    have HI := Lib.hid (implGetNum_any s a · hs ha0 ha1)
    rw [hv] at HS HI
    clear hv
    go_enter Tryd.func4, Tryd.ntmps4
    go_wp2_with fail
    refine (HS.out _).mono ?_
    rintro ev w1 ⟨rfl, hb1⟩
    have HW1 := Lib.hid ((HW.out.below hb1).alloc (.cells #[.int .i64 n, .int .i64 e, .int .i64 c] 26))
    go_wp2_with fail
    refine (HI.out _ HW1.out).mono ?_
    rintro ev w2 ⟨rfl, hb2⟩
    have hb3 : Below w.heap.size w w2 := (hb1.trans ((Below.refl _ _).alloc hb1.size _)).trans (hb2.mono (by have := hb1.size; simp; omega))
    have hz : w1.heap.size < w2.heap.size := by have := hb2.size; simp at this; omega
    obtain ⟨hc, hf⟩ := bcell hb2
    have hb3s := hb3.size
    clear hb1 hb2
    go_wp2_with fail
    refine (eqNum_same _ _ _ _).mono ?_
    rintro ev w3 ⟨rfl, hb4⟩
    go_wp2_with fail
    go_ret
    exact ⟨rfl, (hb3.trans ((Below.refl _ _).alloc hb3s _)).trans (hb4.mono (by simp; omega))⟩
end Go.Proofs.YtbdmildlcgecjaaDoor.Gn
