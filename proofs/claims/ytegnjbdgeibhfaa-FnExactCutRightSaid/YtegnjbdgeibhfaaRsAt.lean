/-
  impl.recAt.
-/
import Derived.Test.YtegnjbdgeibhfaaRsAbove
import Derived.Test.YtegnjbdgeibhfaaRsOpen
import Derived.Test.YtegnjbdgeibhfaaPackStr
namespace Go.Proofs.Ytegnjbdgeibhfaa.Rs
open Go.ChangeShapes Go.WideShapes Go.ChangeAt Go.RowKit
open Rec (R P Sound Small recV cellsV zeroV)
open Net (Cl Bk HeldV)
set_option linter.unusedVariables false
set_option maxRecDepth 100000

open Classical in
/-- The first record of a key, or the zero one. -/
noncomputable def atQ (l : List Q) (key : ByteArray) : Q := (l.find? fun q => decide (q.r.k = key)).getD default
theorem at_hit {l : List Q} {key : ByteArray} {k : Nat} (hk : k < l.length) (hn : ∀ j (hj : j < l.length), j < k → ¬ l[j].r.k = key) (h : l[k].r.k = key) : atQ l key = l[k] := by
  unfold atQ
  rw [List.find?_eq_some_iff_getElem.2 ⟨by simpa using h, k, hk, rfl, fun j hj => by simpa using hn j (by omega) hj⟩]
  rfl
theorem at_none {l : List Q} {key : ByteArray} (hn : ∀ j (hj : j < l.length), ¬ l[j].r.k = key) : atQ l key = default := by
  unfold atQ
  rw [List.find?_eq_none.2 fun q hq => by
    obtain ⟨j, hj, rfl⟩ := List.getElem_of_mem hq
    simpa using hn j hj]
  rfl
theorem zero_val : recV (default : Q).r (default : Q).p = .agg zeroV := rfl

set_option maxHeartbeats 4000000 in
set_option maxRecDepth 100000 in
theorem recAt_any (A : Option Addr) (l : List Q) (cap : Nat) (key : ByteArray) (w : World) (h : LRs w w.heap.size A l) (hl : l.length ≤ 1048576) :
    Calls Try.prog 94 #[.slice A l.length cap, .string key] w fun e w' => e = .returned (recV (atQ l key).r (atQ l key).p) ∧ Below w.heap.size w w' := by
  have H := Lib.hid h
  have HB0 := Lib.hid ((Below.refl w.heap.size w).alloc (Nat.le_refl _) (Obj.cells zeroV 61))
  have HX0 := Lib.hid (Blk.new w 61 zeroV)
  clear h
  go_enter Try.func94, Try.ntmps94
  go_wp2_with fail
  go_loopw [9] (fun i wr => ∃ k : Nat, k ≤ l.length ∧ i = .int .i64 k ∧ Hid ((∀ j (hj : j < l.length), j < k → ¬ l[j].r.k = key) ∧ Blk wr w.heap.size 61 zeroV ∧ Below w.heap.size w wr)) (fun i _ => l.length - (intOf i).toNat)
  case atStart => exact ⟨0, by omega, rfl, Lib.hid ⟨fun j hj hjk => absurd hjk (by omega), HX0.out, HB0.out⟩⟩
  case round =>
    obtain ⟨k, hk, rfl, HR⟩ := hrel
    by_cases hlt : k < l.length
    · obtain ⟨ad, rfl, _, ⟨c0, c1, c2, c3, c4, c5, c6, c7⟩, -⟩ := (H.out.below HR.out.2.2 (Nat.le_refl _)).at_ hlt
      have HHIT := Lib.hid (fun h1 => at_hit (key := key) hlt HR.out.1 h1)
      obtain ⟨y, hy⟩ : ∃ y, l[k] = y := ⟨_, rfl⟩
      have HY := Lib.hid hy
      rw [hy] at c0 c1 c2 c3 c4 c5 c6 c7 HHIT
      clear hy
      obtain ⟨r, p⟩ := y
      simp only at c0 c1 c2 c3 c4 c5 c6 c7 HHIT
      have HBL := Lib.hid (HR.out.2.2.alloc HR.out.2.2.size (Obj.cells (cellsV r p) 61))
      have HXL := Lib.hid (HR.out.2.1.alloc (Obj.cells (cellsV r p) 61))
      by_cases he : r.k = key
      · have HE := Lib.hid (HHIT.out he)
        have e0 := Str.str_eq he
        clear he
        obtain ⟨q0, q1, q2, q3, q4, q5, q6, q7⟩ := Rec.cells8 (Blk.new wr 61 (cellsV r p))
        have z0 := HXL.out.cell 0
        have z1 := HXL.out.cell 1
        have z2 := HXL.out.cell 2
        have z3 := HXL.out.cell 3
        have z4 := HXL.out.cell 4
        have z5 := HXL.out.cell 5
        have z6 := HXL.out.cell 6
        have z7 := HXL.out.cell 7
        have f0 := HXL.out.free 0
        have f1 := HXL.out.free 1
        have f2 := HXL.out.free 2
        have f3 := HXL.out.free 3
        have f4 := HXL.out.free 4
        have f5 := HXL.out.free 5
        have f6 := HXL.out.free 6
        have f7 := HXL.out.free 7
        go_wp2_with fail
        have HF := Lib.hid ((((((((HXL.out.set 0 (.string r.k) rfl).set 1 (.int .i64 r.i.c) rfl).set 2 (.int .i64 r.i.s) rfl).set 3 (.int .i64 r.i.e) rfl).set 4 (.string r.d) rfl).set 5 (.bool r.g) rfl).set 6 (.slice p.A r.l.length p.ca) rfl).set 7 (.slice p.B r.b.length p.cb) rfl)
        have HG := Lib.hid ((((((((HBL.out.setCell (p := ⟨w.heap.size, 0, none⟩) (Nat.le_refl _) (.string r.k)).setCell (p := ⟨w.heap.size, 1, none⟩) (Nat.le_refl _) (.int .i64 r.i.c)).setCell (p := ⟨w.heap.size, 2, none⟩) (Nat.le_refl _) (.int .i64 r.i.s)).setCell (p := ⟨w.heap.size, 3, none⟩) (Nat.le_refl _) (.int .i64 r.i.e)).setCell (p := ⟨w.heap.size, 4, none⟩) (Nat.le_refl _) (.string r.d)).setCell (p := ⟨w.heap.size, 5, none⟩) (Nat.le_refl _) (.bool r.g)).setCell (p := ⟨w.heap.size, 6, none⟩) (Nat.le_refl _) (.slice p.A r.l.length p.ca)).setCell (p := ⟨w.heap.size, 7, none⟩) (Nat.le_refl _) (.slice p.B r.b.length p.cb))
        obtain ⟨y0, y1, y2, y3, y4, y5, y6, y7⟩ := Rec.cells8 (r := r) (p := p) HF.out
        refine bodyPost_ret (v := recV r p) (by simp only [results, Try.results94]; simp [go_sem, recV, y0, y1, y2, y3, y4, y5, y6, y7]) rfl ⟨by rw [HE.out], HG.out⟩
      · have HN := Lib.hid (show ∀ j (hj : j < l.length), j < k + 1 → ¬ l[j].r.k = key from fun j hj hjk => by
          by_cases e : j = k
          · subst e; rw [HY.out]; exact he
          · exact HR.out.1 j hj (by omega))
        have e0 := Str.str_ne he
        clear he
        go_wp2_with fail
        go_roundw
        case rel => exact ⟨k + 1, by omega, by go_num, Lib.hid ⟨HN.out, HXL.out, HBL.out⟩⟩
        case measure => simp [intOf]; omega
    · have HE := Lib.hid (at_none (l := l) (key := key) fun j hj => HR.out.1 j hj (by omega))
      have z0 := HR.out.2.1.cell 0
      have z1 := HR.out.2.1.cell 1
      have z2 := HR.out.2.1.cell 2
      have z3 := HR.out.2.1.cell 3
      have z4 := HR.out.2.1.cell 4
      have z5 := HR.out.2.1.cell 5
      have z6 := HR.out.2.1.cell 6
      have z7 := HR.out.2.1.cell 7
      have f0 := HR.out.2.1.free 0
      have f1 := HR.out.2.1.free 1
      have f2 := HR.out.2.1.free 2
      have f3 := HR.out.2.1.free 3
      have f4 := HR.out.2.1.free 4
      have f5 := HR.out.2.1.free 5
      have f6 := HR.out.2.1.free 6
      have f7 := HR.out.2.1.free 7
      go_wp2_with fail
      have HF := Lib.hid ((((((((HR.out.2.1.set 0 (.string ⟨#[]⟩) rfl).set 1 (.int .i64 0) rfl).set 2 (.int .i64 0) rfl).set 3 (.int .i64 0) rfl).set 4 (.string ⟨#[]⟩) rfl).set 5 (.bool false) rfl).set 6 (.slice none 0 0) rfl).set 7 (.slice none 0 0) rfl)
      have HG := Lib.hid ((((((((HR.out.2.2.setCell (p := ⟨w.heap.size, 0, none⟩) (Nat.le_refl _) (.string ⟨#[]⟩)).setCell (p := ⟨w.heap.size, 1, none⟩) (Nat.le_refl _) (.int .i64 0)).setCell (p := ⟨w.heap.size, 2, none⟩) (Nat.le_refl _) (.int .i64 0)).setCell (p := ⟨w.heap.size, 3, none⟩) (Nat.le_refl _) (.int .i64 0)).setCell (p := ⟨w.heap.size, 4, none⟩) (Nat.le_refl _) (.string ⟨#[]⟩)).setCell (p := ⟨w.heap.size, 5, none⟩) (Nat.le_refl _) (.bool false)).setCell (p := ⟨w.heap.size, 6, none⟩) (Nat.le_refl _) (.slice none 0 0)).setCell (p := ⟨w.heap.size, 7, none⟩) (Nat.le_refl _) (.slice none 0 0))
      obtain ⟨y0, y1, y2, y3, y4, y5, y6, y7⟩ := Rec.cells8 (r := (default : Q).r) (p := (default : Q).p) HF.out
      refine bodyPost_ret (v := recV (default : Q).r (default : Q).p) (by simp only [results, Try.results94]; simp [go_sem, recV, y0, y1, y2, y3, y4, y5, y6, y7]) rfl ⟨by rw [HE.out], HG.out⟩
end Go.Proofs.Ytegnjbdgeibhfaa.Rs
