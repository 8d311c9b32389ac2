/-
  The Go functions impl.PutText and spec.PutText answer the same bytes for every string, and the law over them answers true.
  No condition beside the form's own bound on a string's length.
-/
import Derived.Test.YtkmlnibkdcdegaaNum
import Derived.Test.YtkmlnibkdcdegaaJoin
namespace Go.Proofs.Ytkmlnibkdcdegaa.Text
open Go.ChangeShapes Go.WideShapes Go.ChangeAt Go.RowKit
set_option linter.unusedVariables false
set_option maxRecDepth 100000

/-- What PutText answers. -/
def putT (s : ByteArray) : ByteArray := if s.size ≤ 8000 then ⟨(Num.putB s.size ++ s.data.toList).toArray⟩ else ⟨#[]⟩
theorem ret_str {a b : ByteArray} (h : a = b) : Ending.returned (.string a) = .returned (.string b) := by rw [h]
theorem flat2 (a b : ByteArray) : Join.flat [a, b] = a.data.toList ++ b.data.toList := by simp [Join.flat]
theorem flat1 (a : ByteArray) : Join.flat [a] = a.data.toList := by simp [Join.flat]
theorem put_cells (a b : ByteArray) (w : World) (t : TypeId) : ∀ k (h : k < [a, b].length), (w.alloc (.cells #[.string a, .string b] t)).cell? ⟨w.heap.size, k, none⟩ = some (.string [a, b][k]) := by
  intro k h
  rw [cell_of_row _ w.heap.size k _ _ (0, 0) (heap_alloc_new w _)]
  match k, h with
  | 0, _ => rfl
  | 1, _ => rfl
theorem one_cell (a : ByteArray) (w : World) (t : TypeId) : ∀ k (h : k < [a].length), (w.alloc (.cells #[.string a] t)).cell? ⟨w.heap.size, k, none⟩ = some (.string [a][k]) := by
  intro k h
  rw [cell_of_row _ w.heap.size k _ _ (0, 0) (heap_alloc_new w _)]
  match k, h with
  | 0, _ => rfl

set_option maxHeartbeats 400000 in
theorem implPutText_any (s : ByteArray) (w : World) (hs : s.size ≤ maxLen) :
    Calls Try.prog 87 #[.string s] w fun e w' => e = .returned (.string (putT s)) ∧ Below w.heap.size w w' := by
  have hm := hs
  unfold maxLen at hm
  by_cases h : s.size ≤ 8000
  · have HT : Hid (putT s = ⟨(Join.flat [Num.putS s.size, s]).toArray⟩) := by
      refine Lib.hid ?_
      unfold putT
      rw [if_pos h, flat2]; simp [Num.putS]
    have hz := Num.putS_size s.size
    go_enter Try.func87, Try.ntmps87
    go_wp2_with (go_at_call 86; refine (Num.implPutNum_any _ _ (by omega) (by omega)).mono ?_; rintro e w1 ⟨rfl, hb1⟩)
    have hb2 : Below w.heap.size w (w1.alloc (.cells #[.string (Num.putS s.size), .string s] 9)) := hb1.alloc hb1.size _
    refine (Join.joined_any [Num.putS s.size, s] w1.heap.size _ (by simp) (by simp) (by rw [flat2, List.length_append, Join.size_len, Join.size_len]; omega) (put_cells _ _ _ _)).mono ?_
    rintro e w2 ⟨rfl, hb3⟩
    go_wp2_with fail
    go_ret
    exact ⟨ret_str HT.out.symm, hb2.trans (hb3.mono (by have := hb1.size; simp; omega))⟩
  · have HT : Hid (putT s = ⟨#[]⟩) := by exact Lib.hid (by unfold putT; rw [if_neg h])
    go_enter Try.func87, Try.ntmps87
    go_wp2_with fail
    go_ret
    exact ⟨ret_str HT.out.symm, Below.refl _ _⟩

set_option maxHeartbeats 400000 in
theorem specPutText_any (s : ByteArray) (w : World) (hs : s.size ≤ maxLen) :
    Calls Try.prog 81 #[.string s] w fun e w' => e = .returned (.string (putT s)) ∧ Below w.heap.size w w' := by
  have hm := hs
  unfold maxLen at hm
  by_cases h : s.size ≤ 8000
  · have HT : Hid (putT s = Num.putS s.size ++ s) := by
      refine Lib.hid ?_
      unfold putT
      rw [if_pos h]
      apply ByteArray.ext
      apply Array.toList_inj.1
      simp [Num.putS]
    go_enter Try.func81, Try.ntmps81
    go_wp2_with fail
    refine (Num.specPutNum_any _ _ (by omega) (by omega)).mono ?_
    rintro e w1 ⟨rfl, hb1⟩
    have hz := Num.putS_size s.size
    generalize Num.putS s.size = p at *
    have hz2 := hz.2
    clear hz
    go_wp2_with fail
    go_ret
    exact ⟨ret_str HT.out.symm, hb1⟩
  · have HT : Hid (putT s = ⟨#[]⟩) := by exact Lib.hid (by unfold putT; rw [if_neg h])
    go_enter Try.func81, Try.ntmps81
    go_wp2_with fail
    go_ret
    exact ⟨ret_str HT.out.symm, Below.refl _ _⟩
end Go.Proofs.Ytkmlnibkdcdegaa.Text
