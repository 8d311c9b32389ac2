/-
  The reader of a record's text: an id.
-/
import Derived.Test.YtkmlnibkdcdegaaGreatDoorRecNext
namespace Go.Proofs.YtkmlnibkdcdegaaGreatDoor.Rec
open Go.ChangeShapes Go.WideShapes Go.ChangeAt Go.RowKit
open Dep (D I)
set_option linter.unusedVariables false
set_option maxRecDepth 100000
set_option linter.unusedSimpArgs false

theorem blk_grown {W W' : World} {b c t : Nat} {cs : Array Value} (hg : W.grownBy W' (some b)) (h : Blk W c t cs) (hne : c ≠ b) : Blk W' c t cs :=
  (hg.block c h.lt (by simpa using hne)).trans h
theorem handle_grown {W W' : World} {b : Nat} (h : Gn.Handle W) (hg : W.grownBy W' (some b)) (hb : 0 < b) : Gn.Handle W' := by
  have hp := h.pos
  have hB : Below 1 W W' := ⟨hg.os, hg.tape, hg.output, hg.size, fun k hk => hg.block k (by omega) (by simp; omega)⟩
  exact (hB.cell (p := ⟨0, 0, none⟩) (by decide)).trans h
/-- What was there ahead of a new block has grown too. -/
theorem grown_of_alloc {w W : World} {b : Nat} {o : Obj} (h : (w.alloc o).grownBy W (some b)) : w.grownBy W (some b) :=
  ⟨h.os, h.tape, h.output, Nat.le_trans (by simp) h.size, fun k hk hne => (h.block k (by simp; omega) hne).trans (heap_alloc_old w o hk)⟩
theorem grown_set_new {w W : World} {b c i : Nat} {v : Value} (h : w.grownBy W (some b)) (hc : w.heap.size ≤ c) : w.grownBy (W.setCell ⟨c, i, none⟩ v) (some b) :=
  ⟨h.os, h.tape, h.output, by rw [World.size_setCell]; exact h.size, fun k hk hne => (heap_setCell_other W ⟨c, i, none⟩ k v (by simp; omega)).trans (h.block k hk hne)⟩

set_option maxHeartbeats 4000000 in
theorem nextId_any (b : Nat) (s : ByteArray) (a : Int) (w : World) (h : Rdr w b s a) (hs : s.size ≤ maxLen) (ha0 : -9223372036854775808 ≤ a) (ha1 : a ≤ 9223372036854775807) (hw : Gn.Handle w) (hb0 : 0 < b) :
    Calls Tryz.prog 32 #[.pointer (some ⟨b, 0, none⟩)] w fun e w' => e = .returned (.agg #[.int .i64 (rI s a).1.c, .int .i64 (rI s a).1.s, .int .i64 (rI s a).1.e]) ∧ Rdr w' b s (rI s a).2 ∧ w.grownBy w' (some b) := by
  have hl := h.lt
  have HX0 := Lib.hid (show Rdr (w.alloc (.cells #[.int .i64 0, .int .i64 0, .int .i64 0] 23)) b s a from h.alloc _)
  have HW0 := Lib.hid (hw.alloc (.cells #[.int .i64 0, .int .i64 0, .int .i64 0] 23))
  have HC0 := Lib.hid (Blk.new w 23 #[.int .i64 0, .int .i64 0, .int .i64 0])
  have hrb : w.heap.size ≠ b := by omega
  have p1 := gn_place s a
  have p2 := gn_place s (rN s a).2
  unfold rI
  change 0 ≤ (rN s a).2 ∧ (rN s a).2 ≤ 8000 at p1
  change 0 ≤ (rN s (rN s a).2).2 ∧ (rN s (rN s a).2).2 ≤ 8000 at p2
  clear h hw
  go_enter Tryz.func32, Tryz.ntmps32
  go_wp2_with fail
  refine (nextNum_any b s a _ HX0.out hs (by omega) (by omega) HW0.out).mono ?_
  rintro e w1 ⟨rfl, hr, hg⟩
  have HX1 := Lib.hid hr
  have HC1 := Lib.hid (blk_grown hg HC0.out hrb)
  have HG1 := Lib.hid (hg)
  have HW1 := Lib.hid (handle_grown HW0.out hg hb0)
  clear hr hg
  go_wp2_with fail
  refine (nextNum_any b s _ _ HX1.out hs (by omega) (by omega) HW1.out).mono ?_
  rintro e w2 ⟨rfl, hr, hg⟩
  have HX2 := Lib.hid hr
  have HC2 := Lib.hid (blk_grown hg HC1.out hrb)
  have HG2 := Lib.hid (Src.grown_trans HG1.out hg)
  have HW2 := Lib.hid (handle_grown HW1.out hg hb0)
  clear hr hg
  go_wp2_with fail
  refine (nextNum_any b s _ _ HX2.out hs (by omega) (by omega) HW2.out).mono ?_
  rintro e w3 ⟨rfl, hr, hg⟩
  have HX3 := Lib.hid hr
  have HC3 := Lib.hid (blk_grown hg HC2.out hrb)
  have HG3 := Lib.hid (Src.grown_trans HG2.out hg)
  have HW3 := Lib.hid (handle_grown HW2.out hg hb0)
  clear hr hg
  skip
  have hc0 : w3.cell? ⟨w.heap.size, 0, none⟩ = some (.int .i64 0) := HC3.out.cell 0
  have hc1 : w3.cell? ⟨w.heap.size, 1, none⟩ = some (.int .i64 0) := HC3.out.cell 1
  have hc2 : w3.cell? ⟨w.heap.size, 2, none⟩ = some (.int .i64 0) := HC3.out.cell 2
  have hcf := HC3.out.free
  have hcl := HC3.out.lt
  go_wp2_with fail
  exact bodyPost_ret (v := .agg #[.int .i64 (rN s a).1, .int .i64 (rN s (rN s a).2).1, .int .i64 (rN s (rN s (rN s a).2).2).1]) (by simp [results, Tryz.results32, go_sem, hc0, hc1, hc2, hcl]) rfl ⟨rfl, other3 HX3.out (fun e => hrb e.symm), grown_set_new (grown_set_new (grown_set_new (grown_of_alloc HG3.out) (Nat.le_refl _)) (Nat.le_refl _)) (Nat.le_refl _)⟩
end Go.Proofs.YtkmlnibkdcdegaaGreatDoor.Rec
