/-
  The Go functions impl.GetText and spec.GetText answer the same for every string and every place, and the law over them answers true.
  Condition: the variable errors.errorType holds the handle of the type error (the row lists it, the card ties it).
-/
import Derived.Test.YtbdmildlcgecjaaDoorGetNum
import Derived.Test.YtbdmildlcgecjaaDoorJoin
import Derived.StillTailTactics
import Derived.Deep.QuietTactic
import Derived.BigQuiet
namespace Go.Proofs.YtbdmildlcgecjaaDoor.Gn
open Go.ChangeShapes Go.WideShapes Go.ChangeAt Go.RowKit
set_option linter.unusedVariables false

/-- What GetText answers, of what GetNum answers. -/
def gtOf (s : ByteArray) (n e c : Int) : ByteArray × Int × Int :=
  if c ≠ 0 then (⟨#[]⟩, 0, c) else if n < 0 ∨ 8000 < n then (⟨#[]⟩, 0, 3) else if (s.size : Int) < e + n then (⟨#[]⟩, 0, 4) else (s.extract e.toNat (e + n).toNat, e + n, 0)
def gt (s : ByteArray) (a : Int) : ByteArray × Int × Int := gtOf s (gn s a).1 (gn s a).2.1 (gn s a).2.2
def gtV (s : ByteArray) (a : Int) : Value := .agg #[.string (gt s a).1, .int .i64 (gt s a).2.1, .int .i64 (gt s a).2.2]

theorem gt_code {s : ByteArray} {a n e c : Int} (h : gn s a = (n, e, c)) (hc : c ≠ 0) : gtV s a = .agg #[.string ⟨#[]⟩, .int .i64 0, .int .i64 c] := by
  unfold gtV gt gtOf; rw [h]; simp only [if_pos hc]
theorem gt_syn {s : ByteArray} {a n e : Int} (h : gn s a = (n, e, 0)) (hn : n < 0 ∨ 8000 < n) : gtV s a = .agg #[.string ⟨#[]⟩, .int .i64 0, .int .i64 3] := by
  have h0 : ¬ ((0 : Int) ≠ 0) := by omega
  unfold gtV gt gtOf; rw [h]; simp only [if_neg h0, if_pos hn]
theorem gt_short {s : ByteArray} {a n e : Int} (h : gn s a = (n, e, 0)) (hn : ¬ (n < 0 ∨ 8000 < n)) (hs : (s.size : Int) < e + n) : gtV s a = .agg #[.string ⟨#[]⟩, .int .i64 0, .int .i64 4] := by
  have h0 : ¬ ((0 : Int) ≠ 0) := by omega
  unfold gtV gt gtOf; rw [h]; simp only [if_neg h0, if_neg hn, if_pos hs]
theorem gt_ok {s : ByteArray} {a n e : Int} (h : gn s a = (n, e, 0)) (hn : ¬ (n < 0 ∨ 8000 < n)) (hs : ¬ (s.size : Int) < e + n) : gtV s a = .agg #[.string (s.extract e.toNat (e + n).toNat), .int .i64 (e + n), .int .i64 0] := by
  have h0 : ¬ ((0 : Int) ≠ 0) := by omega
  unfold gtV gt gtOf; rw [h]; simp only [if_neg h0, if_neg hn, if_neg hs]

theorem rd_end (f : Nat) : ∀ (l : List UInt8) (k : Nat) (u a n e c : Int), rd f l k u a = (n, e, c) → c = 0 → a + 1 ≤ e ∧ e ≤ a + l.length := by
  induction f with
  | zero =>
    intro l k u a n e c h hc
    simp only [rd, Prod.mk.injEq] at h
    have := h.2.2; omega
  | succ f ih =>
    intro l k u a n e c h hc
    cases l with
    | nil =>
      simp only [rd, Prod.mk.injEq] at h
      have := h.2.2; omega
    | cons b l =>
      rw [rd] at h
      split at h
      · simp only [Prod.mk.injEq] at h; have := h.2.2; omega
      · split at h
        · split at h
          · simp only [Prod.mk.injEq] at h; have := h.2.2; omega
          · simp only [Prod.mk.injEq] at h; have := h.2.1; simp only [List.length_cons]; omega
        · have := ih _ _ _ _ _ _ _ h hc
          simp only [List.length_cons]; omega
theorem gn_end {s : ByteArray} {a n e : Int} (h : gn s a = (n, e, 0)) : 0 ≤ e ∧ e ≤ s.size ∧ s.size ≤ 8000 := by
  unfold gn at h
  split at h
  · simp only [Prod.mk.injEq] at h; have := h.2.2; omega
  · split at h
    · simp only [Prod.mk.injEq] at h; have := h.2.2; omega
    · have h1 := rd_end _ _ _ _ _ _ _ _ h rfl
      have h2 : (s.data.toList.drop a.toNat).length = s.size - a.toNat := by rw [List.length_drop]; simp
      rw [h2] at h1
      omega
theorem one_cell (b : ByteArray) (w : World) (t : TypeId) : ∀ k (h : k < [b].length), (w.alloc (.cells #[.string b] t)).cell? ⟨w.heap.size, k, none⟩ = some (.string [b][k]) := by
  intro k h
  rw [cell_of_row _ w.heap.size k _ _ (0, 0) (heap_alloc_new w _)]
  match k, h with
  | 0, _ => rfl
theorem flat1 (b : ByteArray) : Join.flat [b] = b.data.toList := by simp [Join.flat]

set_option maxRecDepth 100000 in
set_option maxHeartbeats 2000000 in
theorem implGetText_any (s : ByteArray) (a : Int) (w : World) (hs : s.size ≤ maxLen) (ha0 : -9223372036854775808 ≤ a) (ha1 : a ≤ 9223372036854775807) (hw : Handle w) :
    Calls Tryd.prog 13 #[.string s, .int .i64 a] w fun e w' => e = .returned (gtV s a) ∧ Below w.heap.size w w' := by
  have HW := Lib.hid hw
  clear hw
  obtain ⟨n, e, c, hg⟩ : ∃ n e c, gn s a = (n, e, c) := ⟨_, _, _, rfl⟩
  have hv : gnV s a = .agg #[.int .i64 n, .int .i64 e, .int .i64 c] := by unfold gnV; rw [hg]
  have HN := Lib.hid (implGetNum_any s a · hs ha0 ha1)
  rw [hv] at HN
  clear hv
  unfold maxLen at hs
  by_cases hc : c = 0
  · subst hc
    have he := gn_end hg
    by_cases hn : n < 0 ∨ 8000 < n
    · have HU := Lib.hid (gt_syn hg hn)
      clear hg
      by_cases hn0 : n < 0
      · clear hn
        go_enter Tryd.func13, Tryd.ntmps13
        go_wp2_with fail
        refine (HN.out _ (HW.out.alloc _)).mono ?_
        rintro ev w1 ⟨rfl, hb1⟩
        obtain ⟨hc1, hf1⟩ := bcell hb1
        have hz : w.heap.size < w1.heap.size := by have := hb1.size; simp at this; omega
        have hb2 : Below w.heap.size w w1 := ((Below.refl _ _).alloc (Nat.le_refl _) _).trans (hb1.mono (by simp))
        have hb2s := hb2.size
        clear hb1
        go_wp2_with fail
        exact bodyPost_ret (v := .agg #[.string ⟨#[]⟩, .int .i64 (0), .int .i64 3]) (by simp [results, Tryd.results13, go_sem, hc1, hz]) rfl ⟨by rw [HU.out], (((hb2.setCell (Nat.le_refl _) _).setCell (Nat.le_refl _) _).setCell (Nat.le_refl _) _).alloc (by simpa [World.setCell] using hb2s) _⟩
      · have hn8 : 8000 < n := by omega
        clear hn
        go_enter Tryd.func13, Tryd.ntmps13
        go_wp2_with fail
        refine (HN.out _ (HW.out.alloc _)).mono ?_
        rintro ev w1 ⟨rfl, hb1⟩
        obtain ⟨hc1, hf1⟩ := bcell hb1
        have hz : w.heap.size < w1.heap.size := by have := hb1.size; simp at this; omega
        have hb2 : Below w.heap.size w w1 := ((Below.refl _ _).alloc (Nat.le_refl _) _).trans (hb1.mono (by simp))
        have hb2s := hb2.size
        clear hb1
        go_wp2_with fail
        exact bodyPost_ret (v := .agg #[.string ⟨#[]⟩, .int .i64 (0), .int .i64 3]) (by simp [results, Tryd.results13, go_sem, hc1, hz]) rfl ⟨by rw [HU.out], (((hb2.setCell (Nat.le_refl _) _).setCell (Nat.le_refl _) _).setCell (Nat.le_refl _) _).alloc (by simpa [World.setCell] using hb2s) _⟩
    · have hn0 : 0 ≤ n := by omega
      have hn8 : n ≤ 8000 := by omega
      by_cases hl : (s.size : Int) < e + n
      · have HU := Lib.hid (gt_short hg hn hl)
        obtain ⟨he0, he1, he2⟩ := he
        have hl2 : (s.size : Int) - n < e := by omega
        clear hg hn
        go_enter Tryd.func13, Tryd.ntmps13
        go_wp2_with fail
        refine (HN.out _ (HW.out.alloc _)).mono ?_
        rintro ev w1 ⟨rfl, hb1⟩
        obtain ⟨hc1, hf1⟩ := bcell hb1
        have hz : w.heap.size < w1.heap.size := by have := hb1.size; simp at this; omega
        have hb2 : Below w.heap.size w w1 := ((Below.refl _ _).alloc (Nat.le_refl _) _).trans (hb1.mono (by simp))
        have hb2s := hb2.size
        clear hb1
        go_wp2_with fail
        exact bodyPost_ret (v := .agg #[.string ⟨#[]⟩, .int .i64 (0), .int .i64 4]) (by simp [results, Tryd.results13, go_sem, hc1, hz]) rfl ⟨by rw [HU.out], (((hb2.setCell (Nat.le_refl _) _).setCell (Nat.le_refl _) _).setCell (Nat.le_refl _) _).alloc (by simpa [World.setCell] using hb2s) _⟩
      · have HU := Lib.hid (gt_ok hg hn hl)
        obtain ⟨he0, he1, he2⟩ := he
        obtain ⟨e', rfl⟩ := Int.eq_ofNat_of_zero_le he0
        obtain ⟨n', rfl⟩ := Int.eq_ofNat_of_zero_le hn0
        have hl2 : ¬ (s.size : Int) - n' < e' := by omega
        clear hg hn
        go_enter Tryd.func13, Tryd.ntmps13
        go_wp2_with fail
        refine (HN.out _ (HW.out.alloc _)).mono ?_
        rintro ev w1 ⟨rfl, hb1⟩
        obtain ⟨hc1, hf1⟩ := bcell hb1
        have hz : w.heap.size < w1.heap.size := by have := hb1.size; simp at this; omega
        have hb2 : Below w.heap.size w w1 := ((Below.refl _ _).alloc (Nat.le_refl _) _).trans (hb1.mono (by simp))
        have hb2s := hb2.size
        clear hb1
        have hsl : ∀ W, (Instr.slice 9 (.string s) (some (.int .i64 (e' : Int))) (some (.int .i64 ((e' : Int) + n'))) none).run Tryd.prog W = .ok (.string (s.extract e' (e' + n'))) W := fun W => by
          rw [run_slice_string W 9 s .i64 .i64 e' ((e' : Int) + n') Tryd.underlying9 (by omega) (by omega) (by omega)]
          rw [show ((e' : Int) + n').toNat = e' + n' by omega, Int.toNat_natCast]
        have HU2 : Hid (gtV s a = .agg #[.string (s.extract e' (e' + n')), .int .i64 ((e' : Int) + n'), .int .i64 0]) := by
          refine Lib.hid ?_
          rw [HU.out, show ((e' : Int) + n').toNat = e' + n' by omega, Int.toNat_natCast]
        go_wp2_with fail
        have hcell := one_cell (s.extract e' (e' + n')) (w1.alloc (.cells #[.int .i64 n', .int .i64 e', .int .i64 0] 26)) 9
        rw [show (w1.alloc (.cells #[.int .i64 n', .int .i64 e', .int .i64 0] 26)).heap.size = w1.heap.size + 1 by simp] at hcell
        have HZ : Hid ((s.extract e' (e' + n')).size ≤ 8000) := by exact Lib.hid (by rw [ByteArray.size_extract]; omega)
        generalize s.extract e' (e' + n') = x at *
        refine (Join.joined_any [x] (w1.heap.size + 1) _ (by simp) (by simp) (by rw [flat1, Join.size_len]; have := HZ.out; omega) hcell).mono ?_
        rintro ev w2 ⟨rfl, hb3⟩
        have HE : Hid ((⟨(Join.flat [x]).toArray⟩ : ByteArray) = x) := by exact Lib.hid (by rw [flat1])
        rw [HE.out]
        have hb4 : Below w.heap.size w w2 := ((hb2.alloc hb2s _).alloc (by simp; omega) _).trans (hb3.mono (by simp; omega))
        have hz2 : w.heap.size < w2.heap.size := by have := hb3.size; simp at this; omega
        have hc2 : ∀ o, w2.cell? ⟨w.heap.size, o, none⟩ = w1.cell? ⟨w.heap.size, o, none⟩ := by
          intro o
          rw [hb3.cell (p := ⟨w.heap.size, o, none⟩) (by simp; omega), World.cell?_alloc_lt _ _ ⟨w.heap.size, o, none⟩ (by simp; omega), World.cell?_alloc_lt _ _ ⟨w.heap.size, o, none⟩ (by simp; omega)]
        have hf2 : ∀ o, w2.frozen? ⟨w.heap.size, o, none⟩ = w1.frozen? ⟨w.heap.size, o, none⟩ := by
          intro o
          rw [hb3.frozen (p := ⟨w.heap.size, o, none⟩) (by simp; omega), World.frozen?_alloc_old _ _ ⟨w.heap.size, o, none⟩ (by simp; omega), World.frozen?_alloc_old _ _ ⟨w.heap.size, o, none⟩ (by simp; omega)]
        clear hb3 hcell hsl
        go_wp2_with fail
        exact bodyPost_ret (v := .agg #[.string x, .int .i64 ((e' : Int) + n'), .int .i64 0]) (by simp [results, Tryd.results13, go_sem, hc2, hc1]) rfl ⟨by rw [HU2.out], ((hb4.setCell (Nat.le_refl _) _).setCell (Nat.le_refl _) _).setCell (Nat.le_refl _) _⟩
  · have HU := Lib.hid (gt_code hg hc)
    have hcb1 : (c == 0) = false := by rw [beq_eq_false_iff_ne]; exact hc
    have hcb2 : (c != 0) = true := by rw [bne_iff_ne]; exact hc
    have HC := Lib.hid hc
    clear hg hc
    go_enter Tryd.func13, Tryd.ntmps13
    go_wp2_with fail
    refine (HN.out _ (HW.out.alloc _)).mono ?_
    rintro ev w1 ⟨rfl, hb1⟩
    obtain ⟨hc1, hf1⟩ := bcell hb1
    have hz : w.heap.size < w1.heap.size := by have := hb1.size; simp at this; omega
    have hb2 : Below w.heap.size w w1 := ((Below.refl _ _).alloc (Nat.le_refl _) _).trans (hb1.mono (by simp))
    have hb2s := hb2.size
    clear hb1
    go_wp2_with fail
    exact bodyPost_ret (v := .agg #[.string ⟨#[]⟩, .int .i64 (0), .int .i64 c]) (by simp [results, Tryd.results13, go_sem, hc1, hz]) rfl ⟨by rw [HU.out], (((hb2.setCell (Nat.le_refl _) _).setCell (Nat.le_refl _) _).setCell (Nat.le_refl _) _).alloc (by simpa [World.setCell] using hb2s) _⟩

set_option maxRecDepth 100000 in
set_option maxHeartbeats 2000000 in
theorem specGetText_any (s : ByteArray) (a : Int) (w : World) (hs : s.size ≤ maxLen) (ha0 : -9223372036854775808 ≤ a) (ha1 : a ≤ 9223372036854775807) :
    Calls Tryd.prog 16 #[.string s, .int .i64 a] w fun e w' => e = .returned (gtV s a) ∧ Below w.heap.size w w' := by
  obtain ⟨n, e, c, hg⟩ : ∃ n e c, gn s a = (n, e, c) := ⟨_, _, _, rfl⟩
  have hv : gnV s a = .agg #[.int .i64 n, .int .i64 e, .int .i64 c] := by unfold gnV; rw [hg]
  have HN := Lib.hid (specGetNum_any s a · hs ha0 ha1)
  rw [hv] at HN
  clear hv
  unfold maxLen at hs
  by_cases hc : c = 0
  · subst hc
    have he := gn_end hg
    by_cases hn : n < 0 ∨ 8000 < n
    · have HU := Lib.hid (gt_syn hg hn)
      clear hg
      by_cases hn0 : n < 0
      · clear hn
        go_enter Tryd.func16, Tryd.ntmps16
        go_wp2_with fail
        refine (HN.out _).mono ?_
        rintro ev w1 ⟨rfl, hb1⟩
        obtain ⟨hc1, hf1⟩ := bcell hb1
        have hz : w.heap.size < w1.heap.size := by have := hb1.size; simp at this; omega
        have hb2 : Below w.heap.size w w1 := ((Below.refl _ _).alloc (Nat.le_refl _) _).trans (hb1.mono (by simp))
        have hb2s := hb2.size
        clear hb1
        go_wp2_with fail
        exact bodyPost_ret (v := .agg #[.string ⟨#[]⟩, .int .i64 (0), .int .i64 3]) (by simp [results, Tryd.results16, go_sem, hc1, hz]) rfl ⟨by rw [HU.out], (((hb2.setCell (Nat.le_refl _) _).setCell (Nat.le_refl _) _).setCell (Nat.le_refl _) _).alloc (by simpa [World.setCell] using hb2s) _⟩
      · have hn8 : 8000 < n := by omega
        clear hn
        go_enter Tryd.func16, Tryd.ntmps16
        go_wp2_with fail
        refine (HN.out _).mono ?_
        rintro ev w1 ⟨rfl, hb1⟩
        obtain ⟨hc1, hf1⟩ := bcell hb1
        have hz : w.heap.size < w1.heap.size := by have := hb1.size; simp at this; omega
        have hb2 : Below w.heap.size w w1 := ((Below.refl _ _).alloc (Nat.le_refl _) _).trans (hb1.mono (by simp))
        have hb2s := hb2.size
        clear hb1
        go_wp2_with fail
        exact bodyPost_ret (v := .agg #[.string ⟨#[]⟩, .int .i64 (0), .int .i64 3]) (by simp [results, Tryd.results16, go_sem, hc1, hz]) rfl ⟨by rw [HU.out], (((hb2.setCell (Nat.le_refl _) _).setCell (Nat.le_refl _) _).setCell (Nat.le_refl _) _).alloc (by simpa [World.setCell] using hb2s) _⟩
    · have hn0 : 0 ≤ n := by omega
      have hn8 : n ≤ 8000 := by omega
      by_cases hl : (s.size : Int) < e + n
      · have HU := Lib.hid (gt_short hg hn hl)
        obtain ⟨he0, he1, he2⟩ := he
        have hl2 : (s.size : Int) - n < e := by omega
        clear hg hn
        go_enter Tryd.func16, Tryd.ntmps16
        go_wp2_with fail
        refine (HN.out _).mono ?_
        rintro ev w1 ⟨rfl, hb1⟩
        obtain ⟨hc1, hf1⟩ := bcell hb1
        have hz : w.heap.size < w1.heap.size := by have := hb1.size; simp at this; omega
        have hb2 : Below w.heap.size w w1 := ((Below.refl _ _).alloc (Nat.le_refl _) _).trans (hb1.mono (by simp))
        have hb2s := hb2.size
        clear hb1
        go_wp2_with fail
        exact bodyPost_ret (v := .agg #[.string ⟨#[]⟩, .int .i64 (0), .int .i64 4]) (by simp [results, Tryd.results16, go_sem, hc1, hz]) rfl ⟨by rw [HU.out], (((hb2.setCell (Nat.le_refl _) _).setCell (Nat.le_refl _) _).setCell (Nat.le_refl _) _).alloc (by simpa [World.setCell] using hb2s) _⟩
      · have HU := Lib.hid (gt_ok hg hn hl)
        obtain ⟨he0, he1, he2⟩ := he
        obtain ⟨e', rfl⟩ := Int.eq_ofNat_of_zero_le he0
        obtain ⟨n', rfl⟩ := Int.eq_ofNat_of_zero_le hn0
        have hl2 : ¬ (s.size : Int) - n' < e' := by omega
        clear hg hn
        go_enter Tryd.func16, Tryd.ntmps16
        go_wp2_with fail
        refine (HN.out _).mono ?_
        rintro ev w1 ⟨rfl, hb1⟩
        obtain ⟨hc1, hf1⟩ := bcell hb1
        have hz : w.heap.size < w1.heap.size := by have := hb1.size; simp at this; omega
        have hb2 : Below w.heap.size w w1 := ((Below.refl _ _).alloc (Nat.le_refl _) _).trans (hb1.mono (by simp))
        have hb2s := hb2.size
        clear hb1
        have hw4 : IntKind.i64.wrap ((e' : Int) + n') = (e' : Int) + n' := IntWalk.i64_in _ (by omega)
        have hw5 : (0 : Int) ≤ (e' : Int) + n' := by omega
        have hw6 : ((e' : Int) + n').toNat = e' + n' := by omega
        have hw7 : (e' : Int) ≤ (e' : Int) + n' := by omega
        have hw8 : (e' : Int) + n' ≤ s.size := by omega
        go_wp2_with fail
        refine wp_region_still_tail 15 (by kernel_rfl) (by kernel_rfl) ?_
        change wpStill _ _ (World.drew _) (fun a' => wpList _ _ _ _ a' (World.drew _)) _ _
        simp only [List.take_succ_cons, List.take_zero, List.drop_succ_cons, List.drop_zero]
        repeat still_step
        refine wpStill_nil ?_
        have HU2 : Hid (gtV s a = .agg #[.string (s.extract e' (e' + n')), .int .i64 ((e' : Int) + n'), .int .i64 0]) := by
          refine Lib.hid ?_
          rw [HU.out, hw6, Int.toNat_natCast]
        clear hw4 hw5 hw6 hw7 hw8
        go_wp2
        exact bodyPost_ret (v := .agg #[.string (s.extract e' (e' + n')), .int .i64 ((e' : Int) + n'), .int .i64 0]) (by simp [results, Tryd.results16, go_sem, hc1, hz]) rfl ⟨by rw [HU2.out], ((((hb2.setCell (Nat.le_refl _) _).setCell (Nat.le_refl _) _).setCell (Nat.le_refl _) _).alloc (by simpa [World.setCell] using hb2s) _).drew⟩
  · have HU := Lib.hid (gt_code hg hc)
    have hcb1 : (c == 0) = false := by rw [beq_eq_false_iff_ne]; exact hc
    have hcb2 : (c != 0) = true := by rw [bne_iff_ne]; exact hc
    have HC := Lib.hid hc
    clear hg hc
    go_enter Tryd.func16, Tryd.ntmps16
    go_wp2_with fail
    refine (HN.out _).mono ?_
    rintro ev w1 ⟨rfl, hb1⟩
    obtain ⟨hc1, hf1⟩ := bcell hb1
    have hz : w.heap.size < w1.heap.size := by have := hb1.size; simp at this; omega
    have hb2 : Below w.heap.size w w1 := ((Below.refl _ _).alloc (Nat.le_refl _) _).trans (hb1.mono (by simp))
    have hb2s := hb2.size
    clear hb1
    go_wp2_with fail
    exact bodyPost_ret (v := .agg #[.string ⟨#[]⟩, .int .i64 (0), .int .i64 c]) (by simp [results, Tryd.results16, go_sem, hc1, hz]) rfl ⟨by rw [HU.out], (((hb2.setCell (Nat.le_refl _) _).setCell (Nat.le_refl _) _).setCell (Nat.le_refl _) _).alloc (by simpa [World.setCell] using hb2s) _⟩

theorem eqText_same (t : ByteArray) (a c : Int) (w : World) :
    Calls Tryd.prog 17 #[.agg #[.string t, .int .i64 a, .int .i64 c], .agg #[.string t, .int .i64 a, .int .i64 c]] w fun e w' => e = .returned (.bool true) ∧ Below w.heap.size w w' := by
  go_enter Tryd.func17, Tryd.ntmps17
  go_wp2
  go_ret
  exact ⟨rfl, ((Below.refl _ _).alloc (Nat.le_refl _) _).alloc (by simp) _⟩

set_option maxHeartbeats 400000 in
theorem lawGetText (s : ByteArray) (a : Int) (hs : s.size ≤ maxLen) (wa : (Lit.int .i64 a).wf = true) (w : World) (hw : Handle w) :
    Calls Tryd.prog 5 #[.string s, .int .i64 a] w fun e w' => e = .returned (.bool true) ∧ Below w.heap.size w w' := by
  have hm := hs
  unfold maxLen at hm
  obtain ⟨ha0, ha1⟩ := bounds_i64 wa
  have HW := Lib.hid hw
  clear hw
  by_cases h1 : 1048576 < s.size
  · go_enter Tryd.func5, Tryd.ntmps5
    go_wp2_with fail
    go_ret
    exact ⟨rfl, Below.refl _ _⟩
  · have h2 : ¬ (1048576 : Int) < (s.size : Int) := by omega
    obtain ⟨n, e, c, hv⟩ : ∃ n e c, gtV s a = .agg #[.string n, .int .i64 e, .int .i64 c] := ⟨_, _, _, rfl⟩
    have HS := Lib.hid (specGetText_any s a · hs ha0 ha1)
    have HI := Lib.hid (implGetText_any s a · hs ha0 ha1)
    rw [hv] at HS HI
    clear hv
    go_enter Tryd.func5, Tryd.ntmps5
    go_wp2_with fail
    refine (HS.out _).mono ?_
    rintro ev w1 ⟨rfl, hb1⟩
    have HW1 := Lib.hid ((HW.out.below hb1).alloc (.cells #[.string n, .int .i64 e, .int .i64 c] 31))
    go_wp2_with fail
    refine (HI.out _ HW1.out).mono ?_
    rintro ev w2 ⟨rfl, hb2⟩
    have hb3 : Below w.heap.size w w2 := (hb1.trans ((Below.refl _ _).alloc hb1.size _)).trans (hb2.mono (by have := hb1.size; simp; omega))
    have hz : w1.heap.size < w2.heap.size := by have := hb2.size; simp at this; omega
    obtain ⟨hc, hf⟩ := bcell hb2
    have hb3s := hb3.size
    clear hb1 hb2
    go_wp2_with fail
    refine (eqText_same _ _ _ _).mono ?_
    rintro ev w3 ⟨rfl, hb4⟩
    go_wp2_with fail
    go_ret
    exact ⟨rfl, (hb3.trans ((Below.refl _ _).alloc hb3s _)).trans (hb4.mono (by simp; omega))⟩
end Go.Proofs.YtbdmildlcgecjaaDoor.Gn
