/-
  The Go functions impl.Unseal and spec.Unseal answer the same for every string, and the law over them answers true.
  No condition beside the form's own bound on a string's length.
-/
import Derived.Test.YtbdmildlcgecjaaSeal
import Derived.Deep.RegionWith
import Derived.Lib.IndexBytes
namespace Go.Proofs.Ytbdmildlcgecjaa.Seal
open Go.ChangeShapes Go.WideShapes Go.ChangeAt Go.RowKit
set_option linter.unusedVariables false

theorem bcell {W w1 : World} (hb : Below W.heap.size W w1) : (∀ b o, b < W.heap.size → w1.cell? ⟨b, o, none⟩ = W.cell? ⟨b, o, none⟩) ∧ (∀ b o, b < W.heap.size → w1.frozen? ⟨b, o, none⟩ = W.frozen? ⟨b, o, none⟩) :=
  ⟨fun b o h => hb.cell (p := ⟨b, o, none⟩) h, fun b o h => hb.frozen (p := ⟨b, o, none⟩) h⟩

/-- All but the last four bytes; the last four. -/
def bodyOf (s : ByteArray) : ByteArray := s.extract 0 (s.size - 4)
def tailOf (s : ByteArray) : ByteArray := s.extract (s.size - 4) s.size
theorem bodyOf_size (s : ByteArray) : (bodyOf s).size = s.size - 4 := by unfold bodyOf; rw [ByteArray.size_extract]; omega
theorem body_tail (s : ByteArray) : (bodyOf s).data.toList ++ (tailOf s).data.toList = s.data.toList := by
  unfold bodyOf tailOf
  rw [Lib.extract_to_end]
  simp
theorem seal_iff (s : ByteArray) (h : s.size ≤ 8000) : sealS (bodyOf s) = s ↔ four (Crc.crcOn 0 (bodyOf s).data.toList) = tailOf s := by
  unfold sealS
  rw [if_pos (by rw [bodyOf_size]; omega)]
  constructor
  · intro e
    have e1 : (bodyOf s).data.toList ++ (four (Crc.crcOn 0 (bodyOf s).data.toList)).data.toList = (bodyOf s).data.toList ++ (tailOf s).data.toList := by
      rw [body_tail]
      have := congrArg (fun t : ByteArray => t.data.toList) e
      simpa using this
    have e2 := List.append_cancel_left e1
    apply ByteArray.ext
    apply Array.toList_inj.1
    exact e2
  · intro e
    rw [e, body_tail]
/-- What Unseal answers: the text, and the code. -/
def unT (s : ByteArray) : ByteArray := if s.size ≤ 8000 ∧ 4 ≤ s.size ∧ sealS (bodyOf s) = s then bodyOf s else ⟨#[]⟩
def unC (s : ByteArray) : Int := if 8000 < s.size then 2 else if s.size < 4 then 4 else if sealS (bodyOf s) = s then 0 else 5
def unV (s : ByteArray) : Value := .agg #[.string (unT s), .int .i64 0, .int .i64 (unC s)]
theorem ret_agg {a b : ByteArray} {x y : Int} (h : a = b) (g : x = y) : Ending.returned (.agg #[.string a, .int .i64 0, .int .i64 x]) = .returned (.agg #[.string b, .int .i64 0, .int .i64 y]) := by rw [h, g]
theorem un_big {s : ByteArray} (h : 8000 < s.size) : unV s = .agg #[.string ⟨#[]⟩, .int .i64 0, .int .i64 2] := by
  unfold unV unT unC; rw [if_neg (by omega), if_pos h]
theorem un_small {s : ByteArray} (h : s.size < 4) : unV s = .agg #[.string ⟨#[]⟩, .int .i64 0, .int .i64 4] := by
  unfold unV unT unC; rw [if_neg (by omega), if_neg (by omega), if_pos h]
theorem un_ok {s : ByteArray} (h1 : s.size ≤ 8000) (h2 : 4 ≤ s.size) (h : sealS (bodyOf s) = s) : unV s = .agg #[.string (bodyOf s), .int .i64 0, .int .i64 0] := by
  unfold unV unT unC; rw [if_pos ⟨h1, h2, h⟩, if_neg (by omega), if_neg (by omega), if_pos h]
theorem un_sum {s : ByteArray} (h1 : s.size ≤ 8000) (h2 : 4 ≤ s.size) (h : ¬ sealS (bodyOf s) = s) : unV s = .agg #[.string ⟨#[]⟩, .int .i64 0, .int .i64 5] := by
  unfold unV unT unC; rw [if_neg (fun x => h x.2.2), if_neg (by omega), if_neg (by omega), if_neg h]

theorem str_ne {a b : ByteArray} (h : ¬ a = b) : (a.toList == b.toList) = false := by
  refine beq_eq_false_iff_ne.2 fun e => h ?_
  rw [ByteArray.toList_eq, ByteArray.toList_eq] at e
  apply ByteArray.ext
  exact Array.toList_inj.1 e

set_option maxHeartbeats 400000 in
theorem implUnseal_any (s : ByteArray) (w : World) (hs : s.size ≤ maxLen) :
    Calls Try.prog 15 #[.string s] w fun e w' => e = .returned (unV s) ∧ Below w.heap.size w w' := by
  have hm := hs
  unfold maxLen at hm
  by_cases h1 : 8000 < s.size
  · have HU := Lib.hid (un_big h1)
    go_enter Try.func15, Try.ntmps15
    go_wp2_with fail
    exact bodyPost_ret (v := .agg #[.string ⟨#[]⟩, .int .i64 0, .int .i64 2]) (by simp [results, Try.results15, go_sem]) rfl ⟨by rw [HU.out], (Below.refl _ _).alloc (Nat.le_refl _) _⟩
  by_cases h2 : s.size < 4
  · have HU := Lib.hid (un_small h2)
    go_enter Try.func15, Try.ntmps15
    go_wp2_with fail
    exact bodyPost_ret (v := .agg #[.string ⟨#[]⟩, .int .i64 0, .int .i64 4]) (by simp [results, Try.results15, go_sem]) rfl ⟨by rw [HU.out], (Below.refl _ _).alloc (Nat.le_refl _) _⟩
  have hbs := bodyOf_size s
  have HB : Hid (s.extract 0 (s.size - 4) = bodyOf s) := by exact Lib.hid rfl
  have h3 : s.size ≤ 8000 := by omega
  have h4 : 4 ≤ s.size := by omega
  clear h1 h2
  have HBS := Lib.hid hbs
  clear hbs
  go_enter Try.func15, Try.ntmps15
  go_wp2_with fail
  rw [HB.out]
  refine (implSeal_any _ _ (by rw [HBS.out]; unfold maxLen; omega)).mono ?_
  rintro e w1 ⟨rfl, hb1⟩
  obtain ⟨hc, hf⟩ := bcell hb1
  have hz : w.heap.size < w1.heap.size := by have := hb1.size; simp at this; omega
  have hb0 : Below w.heap.size w w1 := ((Below.refl _ _).alloc (Nat.le_refl _) _).trans (hb1.mono (by simp))
  by_cases he : sealS (bodyOf s) = s
  · have HU := Lib.hid (un_ok h3 h4 he)
    generalize bodyOf s = b at *
    generalize sealS b = z at *
    have he1 : (z.toList == s.toList) = true := by rw [he]; exact beq_self_eq_true _
    clear he
    go_wp2_with fail
    have hb2 : Below w1.heap.size w1 (w1.alloc (.cells #[.string b] 9)) := (Below.refl _ _).alloc (Nat.le_refl _) _
    refine (Join.joined_any [b] w1.heap.size _ (by simp) (by simp) (by rw [Text.flat1, Join.size_len, HBS.out]; omega) (Text.one_cell _ _ _)).mono ?_
    rintro e w2 ⟨rfl, hb3⟩
    have HE : Hid ((⟨(Join.flat [b]).toArray⟩ : ByteArray) = b) := by exact Lib.hid (by rw [Text.flat1])
    rw [HE.out]
    have hb4 : Below w.heap.size w w2 := (hb0.trans (hb2.mono (by omega))).trans (hb3.mono (by simp; omega))
    have hz2 : w.heap.size < w2.heap.size := by have := hb3.size; simp at this; omega
    have hc2 : ∀ o, w2.cell? ⟨w.heap.size, o, none⟩ = (w.alloc (Obj.cells #[Value.string { data := #[] }, Value.int IntKind.i64 0, Value.int IntKind.i64 0] 27)).cell? ⟨w.heap.size, o, none⟩ := by
      intro o
      rw [hb3.cell (p := ⟨w.heap.size, o, none⟩) (by simp; omega), hb2.cell (p := ⟨w.heap.size, o, none⟩) hz]
      exact hc _ _ (by simp)
    have hf2 : ∀ o, w2.frozen? ⟨w.heap.size, o, none⟩ = (w.alloc (Obj.cells #[Value.string { data := #[] }, Value.int IntKind.i64 0, Value.int IntKind.i64 0] 27)).frozen? ⟨w.heap.size, o, none⟩ := by
      intro o
      rw [hb3.frozen (p := ⟨w.heap.size, o, none⟩) (by simp; omega), hb2.frozen (p := ⟨w.heap.size, o, none⟩) hz]
      exact hf _ _ (by simp)
    clear hc hf
    go_wp2_with fail
    exact bodyPost_ret (v := .agg #[.string b, .int .i64 0, .int .i64 0]) (by simp [results, Try.results15, go_sem, hc2]) rfl ⟨by rw [HU.out], ((hb4.setCell (Nat.le_refl _) _).setCell (Nat.le_refl _) _).setCell (Nat.le_refl _) _⟩
  · have HU := Lib.hid (un_sum h3 h4 he)
    generalize bodyOf s = b at *
    generalize sealS b = z at *
    have he1 : (z.toList == s.toList) = false := str_ne he
    clear he
    go_wp2_with fail
    exact bodyPost_ret (v := .agg #[.string ⟨#[]⟩, .int .i64 0, .int .i64 5]) (by simp [results, Try.results15, go_sem, hc]) rfl ⟨by rw [HU.out], ((hb0.setCell (Nat.le_refl _) _).setCell (Nat.le_refl _) _).setCell (Nat.le_refl _) _⟩

theorem below_over (W : World) {w1 : World} (h : Below W.drew.heap.size W.drew w1) : Below W.heap.size W w1 := (Below.drew (Below.refl _ _)).trans h

set_option maxHeartbeats 1600000 in
theorem specUnseal_any (s : ByteArray) (w : World) (hs : s.size ≤ maxLen) :
    Calls Try.prog 27 #[.string s] w fun e w' => e = .returned (unV s) ∧ Below w.heap.size w w' := by
  have hm := hs
  unfold maxLen at hm
  by_cases h1 : 8000 < s.size
  · have HU := Lib.hid (un_big h1)
    go_enter Try.func27, Try.ntmps27
    go_wp2_with fail
    exact bodyPost_ret (v := .agg #[.string ⟨#[]⟩, .int .i64 0, .int .i64 2]) (by simp [results, Try.results27, go_sem]) rfl ⟨by rw [HU.out], (Below.refl _ _).alloc (Nat.le_refl _) _⟩
  by_cases h2 : s.size < 4
  · have HU := Lib.hid (un_small h2)
    go_enter Try.func27, Try.ntmps27
    go_wp2_with fail
    exact bodyPost_ret (v := .agg #[.string ⟨#[]⟩, .int .i64 0, .int .i64 4]) (by simp [results, Try.results27, go_sem]) rfl ⟨by rw [HU.out], (Below.refl _ _).alloc (Nat.le_refl _) _⟩
  have HBS := Lib.hid (bodyOf_size s)
  have hbl : (bodyOf s).size ≤ maxLen := by rw [HBS.out]; unfold maxLen; omega
  have HB : Hid (s.extract 0 (s.size - 4) = bodyOf s) := by exact Lib.hid rfl
  have h3 : s.size ≤ 8000 := by omega
  have h4 : 4 ≤ s.size := by omega
  have HI := Lib.hid (seal_iff s h3)
  have HUo := Lib.hid (un_ok h3 h4)
  have HUs := Lib.hid (un_sum h3 h4)
  have hr := Crc.crcOn_range 0 (bodyOf s).data.toList
  have hr0 := hr.1
  have hr1 := hr.2
  clear h1 h2 hr
  go_enter Try.func27, Try.ntmps27
  go_wp2_with fail
  rw [HB.out]
  have HT : Hid (s.extract (s.size - 4) s.size = tailOf s) := by exact Lib.hid rfl
  have HL := Lib.hid (Crc.l01Crc_any 0 (bodyOf s) · hbl (by omega) (by omega))
  have HF := Lib.hid (four_any (Crc.crcOn 0 (bodyOf s).data.toList) · hr0 hr1)
  generalize Crc.crcOn 0 (bodyOf s).data.toList = c at *
  generalize four c = f at *
  generalize bodyOf s = b at *
  by_cases he : f = tailOf s
  · have HU := Lib.hid (HUo.out (HI.out.2 he))
    have he1 : (f.toList == (s.extract (s.size - 4) s.size).toList) = true := by rw [HT.out, he]; exact beq_self_eq_true _
    clear he
    have hw4 : IntKind.i64.wrap ((s.size : Int) - 4) = (s.size : Int) - 4 := IntWalk.i64_in _ (by omega)
    have hw5 : (0 : Int) ≤ (s.size : Int) - 4 := by omega
    have hw6 : ((s.size : Int) - 4).toNat = s.size - 4 := by omega
    go_region_with (first | (go_at_call 36; refine (HL.out _).mono ?_; rintro e w' ⟨rfl, rfl⟩) | (go_at_call 35; refine (HF.out _).mono ?_; rintro e w1 ⟨rfl, hb1⟩))
    all_goals
      clear hw4 hw5 hw6
      have hb0 := below_over _ hb1
      obtain ⟨hc, hf⟩ := bcell hb0
      have hz : w.heap.size < w1.heap.size := by have := hb0.size; simp at this; omega
      have hb2 : Below w.heap.size w w1 := ((Below.refl _ _).alloc (Nat.le_refl _) _).trans (hb0.mono (by simp))
      clear hb0 hb1
      go_wp2_with fail
      exact bodyPost_ret (v := .agg #[.string b, .int .i64 0, .int .i64 0]) (by simp [results, Try.results27, go_sem, hc]) rfl ⟨by rw [HU.out], ((hb2.setCell (Nat.le_refl _) _).setCell (Nat.le_refl _) _).setCell (Nat.le_refl _) _⟩
  · have HU := Lib.hid (HUs.out (fun x => he (HI.out.1 x)))
    have he1 : (f.toList == (s.extract (s.size - 4) s.size).toList) = false := by rw [HT.out]; exact str_ne he
    clear he
    have hw4 : IntKind.i64.wrap ((s.size : Int) - 4) = (s.size : Int) - 4 := IntWalk.i64_in _ (by omega)
    have hw5 : (0 : Int) ≤ (s.size : Int) - 4 := by omega
    have hw6 : ((s.size : Int) - 4).toNat = s.size - 4 := by omega
    go_region_with (first | (go_at_call 36; refine (HL.out _).mono ?_; rintro e w' ⟨rfl, rfl⟩) | (go_at_call 35; refine (HF.out _).mono ?_; rintro e w1 ⟨rfl, hb1⟩))
    all_goals
      clear hw4 hw5 hw6
      have hb0 := below_over _ hb1
      obtain ⟨hc, hf⟩ := bcell hb0
      have hz : w.heap.size < w1.heap.size := by have := hb0.size; simp at this; omega
      have hb2 : Below w.heap.size w w1 := ((Below.refl _ _).alloc (Nat.le_refl _) _).trans (hb0.mono (by simp))
      clear hb0 hb1
      go_wp2_with fail
      exact bodyPost_ret (v := .agg #[.string ⟨#[]⟩, .int .i64 0, .int .i64 5]) (by simp [results, Try.results27, go_sem, hc]) rfl ⟨by rw [HU.out], ((hb2.setCell (Nat.le_refl _) _).setCell (Nat.le_refl _) _).setCell (Nat.le_refl _) _⟩

theorem implUnseal_at (s t : ByteArray) (c : Int) (hv : unV s = .agg #[.string t, .int .i64 0, .int .i64 c]) (w : World) (hs : s.size ≤ maxLen) :
    Calls Try.prog 15 #[.string s] w fun e w' => e = .returned (.agg #[.string t, .int .i64 0, .int .i64 c]) ∧ Below w.heap.size w w' := by
  rw [← hv]; exact implUnseal_any s w hs
theorem specUnseal_at (s t : ByteArray) (c : Int) (hv : unV s = .agg #[.string t, .int .i64 0, .int .i64 c]) (w : World) (hs : s.size ≤ maxLen) :
    Calls Try.prog 27 #[.string s] w fun e w' => e = .returned (.agg #[.string t, .int .i64 0, .int .i64 c]) ∧ Below w.heap.size w w' := by
  rw [← hv]; exact specUnseal_any s w hs

theorem eqText_same (t : ByteArray) (a c : Int) (w : World) :
    Calls Try.prog 28 #[.agg #[.string t, .int .i64 a, .int .i64 c], .agg #[.string t, .int .i64 a, .int .i64 c]] w fun e w' => e = .returned (.bool true) ∧ Below w.heap.size w w' := by
  go_enter Try.func28, Try.ntmps28
  go_wp2
  go_ret
  exact ⟨rfl, ((Below.refl _ _).alloc (Nat.le_refl _) _).alloc (by simp) _⟩

set_option maxHeartbeats 400000 in
theorem lawUnseal (s : ByteArray) (hs : s.size ≤ maxLen) (w : World) :
    Calls Try.prog 10 #[.string s] w fun e w' => e = .returned (.bool true) ∧ Below w.heap.size w w' := by
  have hm := hs
  unfold maxLen at hm
  by_cases h1 : 1048576 < s.size
  · go_enter Try.func10, Try.ntmps10
    go_wp2_with fail
    go_ret
    exact ⟨rfl, Below.refl _ _⟩
  · have h2 : ¬ (1048576 : Int) < (s.size : Int) := by omega
    obtain ⟨t, c, hv⟩ : ∃ t c, unV s = .agg #[.string t, .int .i64 0, .int .i64 c] := ⟨_, _, rfl⟩
    have HS := Lib.hid (specUnseal_at s t c hv · hs)
    have HI := Lib.hid (implUnseal_at s t c hv · hs)
    clear hv
    go_enter Try.func10, Try.ntmps10
    go_wp2_with fail
    refine (HS.out _).mono ?_
    rintro e w1 ⟨rfl, hb1⟩
    go_wp2_with fail
    refine (HI.out _).mono ?_
    rintro e w2 ⟨rfl, hb2⟩
    have hb3 : Below w.heap.size w w2 := (hb1.trans ((Below.refl _ _).alloc hb1.size _)).trans (hb2.mono (by have := hb1.size; simp; omega))
    have hz : w1.heap.size < w2.heap.size := by have := hb2.size; simp at this; omega
    obtain ⟨hc, hf⟩ := bcell hb2
    have hb3s := hb3.size
    clear hb1 hb2
    go_wp2_with fail
    refine (eqText_same _ _ _ _).mono ?_
    rintro e w3 ⟨rfl, hb4⟩
    go_wp2_with fail
    go_ret
    exact ⟨rfl, (hb3.trans ((Below.refl _ _).alloc hb3s _)).trans (hb4.mono (by simp; omega))⟩
end Go.Proofs.Ytbdmildlcgecjaa.Seal
