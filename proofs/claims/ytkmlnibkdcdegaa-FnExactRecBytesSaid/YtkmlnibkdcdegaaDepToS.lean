/-
  The law's own toDepS: a new row with what a slice reads as.
-/
import Derived.Test.YtkmlnibkdcdegaaDepTo
namespace Go.Proofs.Ytkmlnibkdcdegaa.Dep
open Go.ChangeShapes Go.WideShapes Go.ChangeAt Go.RowKit
set_option linter.unusedVariables false
set_option maxRecDepth 100000

/-- Block g is a row of n deps, the first of which are l. -/
def Own (w : World) (g n : Nat) (l : List D) : Prop :=
  ∃ cs : Array Value, w.heap[g]? = some (.cells cs 66 (0, 0)) ∧ cs.size = n * 4 ∧
    ∀ j (h : j < l.length), cs[j * 4]? = some (.string l[j].k) ∧ cs[j * 4 + 1]? = some (.int .i64 l[j].i.c) ∧ cs[j * 4 + 2]? = some (.int .i64 l[j].i.s) ∧ cs[j * 4 + 3]? = some (.int .i64 l[j].i.e)

theorem Own.new (w : World) (z : Array Value) (n : Nat) : Own (w.alloc (.cells (madeCells z (n * 4)) 66)) w.heap.size n [] :=
  ⟨_, heap_alloc_new w _, size_madeCells _ _, fun j h => absurd h (by simp)⟩
theorem Own.lt {w : World} {g n : Nat} {l : List D} (h : Own w g n l) : g < w.heap.size := by
  obtain ⟨cs, h, _⟩ := h
  exact (Array.getElem?_eq_some_iff.1 h).1
theorem Own.step {w w1 : World} {g n N : Nat} {l : List D} (h : Own w g n l) (hb : Below N w w1) (hlt : g < N) : Own w1 g n l := by
  obtain ⟨cs, h, h2⟩ := h
  exact ⟨cs, (hb.block g hlt).trans h, h2⟩
theorem Own.free {w : World} {g n : Nat} {l : List D} (h : Own w g n l) (j : Nat) : w.frozen? ⟨g, j, none⟩ = false := by
  obtain ⟨cs, h, h2⟩ := h
  simp [World.frozen?, h]
theorem Own.cell {w : World} {g n : Nat} {l : List D} (h : Own w g n l) {j : Nat} (hj : j < n * 4) : ∃ u, w.cell? ⟨g, j, none⟩ = some u := by
  obtain ⟨cs, h, h2, _⟩ := h
  rw [cell_of_row w g j cs _ (0, 0) h]
  exact ⟨cs[j]'(by omega), Array.getElem?_eq_getElem (by omega)⟩

theorem row_set {w : World} {g t : Nat} {cs : Array Value} (h : w.heap[g]? = some (.cells cs t (0, 0))) (i : Nat) (u : Value) : (w.setCell ⟨g, i, none⟩ u).heap[g]? = some (.cells (cs.setIfInBounds i u) t (0, 0)) := by
  simp [World.setCell, Array.getElem?_modify, h]
theorem get_ne {cs : Array Value} {i j : Nat} (u : Value) (h : i ≠ j) : (cs.setIfInBounds i u)[j]? = cs[j]? := Array.getElem?_setIfInBounds_ne h
theorem get_eq {cs : Array Value} {i : Nat} (u : Value) (h : i < cs.size) : (cs.setIfInBounds i u)[i]? = some u := by
  rw [Array.getElem?_setIfInBounds_self]; simp [h]
/-- One dep more. -/
theorem Own.put {w : World} {g n : Nat} {l : List D} (h : Own w g n l) (d : D) (hn : l.length < n) {k : Nat} (hk : l.length = k) :
    Own ((((w.setCell ⟨g, k * 4, none⟩ (.string d.k)).setCell ⟨g, k * 4 + 1, none⟩ (.int .i64 d.i.c)).setCell ⟨g, k * 4 + 2, none⟩ (.int .i64 d.i.s)).setCell ⟨g, k * 4 + 3, none⟩ (.int .i64 d.i.e)) g n (l ++ [d]) := by
  obtain ⟨cs, h1, h2, h3⟩ := h
  refine ⟨_, row_set (row_set (row_set (row_set h1 _ _) _ _) _ _) _ _, by simp [h2], fun j hj => ?_⟩
  rw [List.length_append, List.length_singleton] at hj
  by_cases e : j = k
  · subst e
    have e1 : (l ++ [d])[j] = d := by simp [← hk]
    rw [e1]
    refine ⟨?_, ?_, ?_, ?_⟩
    · rw [get_ne _ (by omega), get_ne _ (by omega), get_ne _ (by omega), get_eq _ (by omega)]
    · rw [get_ne _ (by omega), get_ne _ (by omega), get_eq _ (by simp; omega)]
    · rw [get_ne _ (by omega), get_eq _ (by simp; omega)]
    · rw [get_eq _ (by simp; omega)]
  · have hjl : j < l.length := by omega
    rw [List.getElem_append_left hjl]
    obtain ⟨a0, a1, a2, a3⟩ := h3 j hjl
    refine ⟨?_, ?_, ?_, ?_⟩
    · rw [get_ne _ (by omega), get_ne _ (by omega), get_ne _ (by omega), get_ne _ (by omega)]; exact a0
    · rw [get_ne _ (by omega), get_ne _ (by omega), get_ne _ (by omega), get_ne _ (by omega)]; exact a1
    · rw [get_ne _ (by omega), get_ne _ (by omega), get_ne _ (by omega), get_ne _ (by omega)]; exact a2
    · rw [get_ne _ (by omega), get_ne _ (by omega), get_ne _ (by omega), get_ne _ (by omega)]; exact a3
/-- A row of one's own reads as what it holds. -/
theorem Own.lies {w : World} {g n B : Nat} {l : List D} (h : Own w g n l) (hB : g < B) : Lies w B (some ⟨g, 0, none⟩) l := by
  intro h0
  obtain ⟨cs, h1, h2, h3⟩ := h
  refine ⟨_, rfl, hB, fun j hj => ?_⟩
  obtain ⟨a0, a1, a2, a3⟩ := h3 j hj
  have e : (Addr.add ⟨g, 0, none⟩ (j * 4)) = ⟨g, j * 4, none⟩ := by
    unfold Addr.add
    split
    · rename_i h; rw [h]
    · simp
  rw [e]
  exact ⟨(cell_of_row w g _ cs _ (0, 0) h1).trans a0, (cell_of_row w g _ cs _ (0, 0) h1).trans a1, (cell_of_row w g _ cs _ (0, 0) h1).trans a2, (cell_of_row w g _ cs _ (0, 0) h1).trans a3⟩

theorem dep_info : (Try.prog.info? 66).map (fun i => (i.zero, i.size, i.bytes)) = some (some (.agg #[.string ⟨#[]⟩, .int .i64 0, .int .i64 0, .int .i64 0]), 4, 40) := by kernel_rfl

theorem toDepS_any (A : Option Addr) (l : List D) (cap : Nat) (w : World) (h : Lies w w.heap.size A l) (hl : l.length ≤ 1048576) :
    Calls Try.prog 26 #[slV A l cap] w fun x w' => ∃ g, x = .returned (.slice (some ⟨g, 0, none⟩) l.length l.length) ∧ w.heap.size ≤ g ∧ Own w' g l.length l ∧ Below w.heap.size w w' := by
  unfold slV
  have H := Lib.hid h
  clear h
  obtain ⟨i0, hi0, hz0, hz1, hz2⟩ := info_parts dep_info
  have hmk := run_make (P := Try.prog) w 23 66 i0 _ Try.underlying23 hi0 hz0 .i64 .i64 l.length l.length (by omega) (Int.le_refl _) (by rw [hz2]; omega) (by omega)
  rw [hz1] at hmk
  clear hi0 hz0 hz1 hz2
  go_enter Try.func26, Try.ntmps26
  go_wp2_with fail
  rw [Int.toNat_natCast] at hmk
  have HO := Lib.hid (Own.new w (D.val ⟨⟨#[]⟩, zero⟩).cells l.length)
  generalize hg : w.heap.size = g at *
  go_loopw [4] (fun i wr => ∃ k : Nat, k ≤ l.length ∧ i = .int .i64 k ∧ Hid (Own wr g l.length (l.take k) ∧ Below g w wr)) (fun i _ => l.length - (intOf i).toNat)
  case atStart => exact ⟨0, by omega, rfl, Lib.hid ⟨HO.out, (Below.refl _ _).alloc (by omega) _⟩⟩
  case round =>
    obtain ⟨k, hk, rfl, HR⟩ := hrel
    by_cases hlt : k < l.length
    · obtain ⟨ad, rfl, hb, c0, c1, c2, c3⟩ := (H.out.below HR.out.2 (Nat.le_refl _)).at_ hlt
      go_wp2_with fail
      have HB := Lib.hid HR.out.2.size
      refine (toDep_any l[k] _).mono ?_
      rintro x w1 ⟨rfl, hb1⟩
      unfold D.val
      have hlg := HR.out.1.lt
      have ho := HR.out.1.step hb1 hlg
      have HO1 := Lib.hid ho
      have HB1 := Lib.hid (HR.out.2.trans (hb1.mono (by have := HR.out.2.size; omega)))
      obtain ⟨u0, e0⟩ := ho.cell (j := k * 4) (by omega)
      obtain ⟨u1, e1⟩ := ho.cell (j := k * 4 + 1) (by omega)
      obtain ⟨u2, e2⟩ := ho.cell (j := k * 4 + 2) (by omega)
      obtain ⟨u3, e3⟩ := ho.cell (j := k * 4 + 3) (by omega)
      have f0 := ho.free (k * 4)
      have f1 := ho.free (k * 4 + 1)
      have f2 := ho.free (k * 4 + 2)
      have f3 := ho.free (k * 4 + 3)
      clear ho hb1 c0 c1 c2 c3
      go_wp2_with fail
      go_roundw
      case rel =>
        refine ⟨k + 1, by omega, by go_num, Lib.hid ⟨?_, ?_⟩⟩
        · rw [show l.take (k + 1) = l.take k ++ [l[k]] by simp]
          exact HO1.out.put l[k] (by rw [List.length_take]; omega) (by rw [List.length_take]; omega)
        · exact (((HB1.out.setCell (Nat.le_refl _) _).setCell (Nat.le_refl _) _).setCell (Nat.le_refl _) _).setCell (Nat.le_refl _) _
      case measure => simp [intOf]; omega
    · go_wp2_with fail
      go_ret
      refine ⟨g, rfl, by omega, ?_, hg ▸ HR.out.2⟩
      have := HR.out.1
      rwa [List.take_of_length_le (by omega)] at this
end Go.Proofs.Ytkmlnibkdcdegaa.Dep
