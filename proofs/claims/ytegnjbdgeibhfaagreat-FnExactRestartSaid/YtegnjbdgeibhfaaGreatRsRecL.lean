/-
  The law's own marks on a record by value: markRec, heldRec.
-/
import Derived.Test.YtegnjbdgeibhfaaGreatRsMark
namespace Go.Proofs.YtegnjbdgeibhfaaGreat.Rs
open Go.ChangeShapes Go.WideShapes Go.ChangeAt Go.RowKit
open Rec (R P Sound Small recV cellsV)
open Net (Cl Bk HeldV)
set_option linter.unusedVariables false
set_option maxRecDepth 100000
set_option linter.unusedSimpArgs false

theorem Tch.blk2 {ts : List Nat} {W W' : World} {lo hi b t : Nat} {cs : Array Value} (h : Tch ts W W' lo hi) (hh : Blk W b t cs) (hd : b < lo ∨ hi ≤ b) : Blk W' b t cs := (h.block b hh.lt (by omega)).trans hh
/-- A record's lists, marked. -/
def mkL (k : Nat) (r : R) : R := ⟨r.k, r.i, r.d, r.g, Dep.marks k r.l.length, Str.marks (k + 4 * r.l.length) r.b.length⟩
def kL (r : R) : Nat := 4 * r.l.length + r.b.length

theorem markRec1_any (r : R) (p : P) (k lo hi : Nat) (w : World) (h : Rec.Held w r p lo hi) (hl : r.l.length ≤ 1048576) (hb : r.b.length ≤ 1048576) (hk : k + kL r ≤ 9000000) :
    Calls Tryz.prog 19 #[recV r p, .int .i64 k] w fun e w' => e = .returned (.int .i64 ((k + kL r : Nat) : Int)) ∧ Rec.Held w' (mkL k r) p lo hi ∧ Tch tsR w w' lo hi := by
  have B0 := (Below.refl w.heap.size w).alloc (Nat.le_refl _) (Obj.cells (cellsV r p) 31)
  have M0 := Lib.hid (show Tch tsR w (w.alloc (Obj.cells (cellsV r p) 31)) lo hi from Tch.ofBelow B0)
  have X0 := Lib.hid (Blk.new w 31 (cellsV r p))
  have hk2 : k + 4 * r.l.length + r.b.length ≤ 9000000 := by unfold kL at hk; omega
  have HM := Lib.hid (Dep.mark_any p.A r.l p.ca k lo hi (w.alloc (.cells (cellsV r p) 31)) (h.1.step B0 (.inr (Nat.le_refl _))) hl (by omega))
  have HS := Lib.hid (h.2.step B0 (.inr (Nat.le_refl _)))
  have HKL := Lib.hid (show kL r = 4 * r.l.length + r.b.length from rfl)
  clear h B0 hk
  unfold recV
  go_enter Tryz.func19, Tryz.ntmps19
  go_wp2_with fail
  refine HM.out.mono ?_
  rintro e w1 ⟨rfl, hh, ht⟩
  have M1 := Lib.hid (M0.out.trans (Tch.ofDeps ht (by decide)))
  have X1 := Lib.hid ((show Tch [103] _ w1 lo hi from Tch.ofDeps ht (by decide)).blk X0.out (by decide))
  have HD := Lib.hid hh
  have HS1 := Lib.hid (HS.out.turned ht)
  obtain ⟨z, hz⟩ : ∃ z : Nat, k + 4 * r.l.length = z := ⟨_, rfl⟩
  have HZ := Lib.hid hz
  have hz2 : z ≤ 10000000 := by omega
  rw [hz]
  clear hh ht hz
  obtain ⟨x0, x1, x2, x3, x4, x5, x6, x7⟩ := Rec.cells8 X1.out
  go_wp2_with fail
  refine (Str.mark_any p.B r.b p.cb z lo hi w1 HS1.out hb hz2).mono ?_
  rintro e w2 ⟨rfl, hh, ht⟩
  have M2 := Lib.hid (M1.out.trans (Tch.ofStrs ht (by decide)))
  have HD2 := Lib.hid (ht.deps HD.out)
  have HS2 := Lib.hid hh
  obtain ⟨z2, hz2⟩ : ∃ z2 : Nat, z + r.b.length = z2 := ⟨_, rfl⟩
  have HZ2 := Lib.hid hz2
  rw [hz2]
  clear hh ht hz2 x0 x1 x2 x3 x4 x5 x6 x7
  go_wp2_with fail
  go_ret
  exact ⟨Str.ret_i64 (by have := HZ2.out; have := HZ.out; have := HKL.out; omega), ⟨HD2.out, by unfold mkL; simp only; rw [HZ.out]; exact HS2.out⟩, M2.out⟩

set_option maxHeartbeats 2000000 in
theorem heldRec1_any (r : R) (p : P) (k : Nat) (w : World) (h : Rec.Lies w w.heap.size (mkL k r) p) (hl : r.l.length ≤ 1048576) (hb : r.b.length ≤ 1048576) (hk : k + kL r ≤ 9000000) :
    Calls Tryz.prog 20 #[recV r p, .int .i64 k] w fun e w' => e = .returned (.int .i64 ((k + kL r : Nat) : Int)) ∧ Below w.heap.size w w' := by
  have hk2 : k + 4 * r.l.length + r.b.length ≤ 9000000 := by unfold kL at hk; omega
  have hd : Dep.Lies w w.heap.size p.A (Dep.marks k r.l.length) := h.1
  have hs : Str.Lies w w.heap.size p.B (Str.marks (k + 4 * r.l.length) r.b.length) := h.2
  have HKL := Lib.hid (show kL r = 4 * r.l.length + r.b.length from rfl)
  have B0 := Lib.hid ((Below.refl w.heap.size w).alloc (Nat.le_refl _) (.cells (cellsV r p) 31))
  have X0 := Lib.hid (Blk.new w 31 (cellsV r p))
  obtain ⟨z, hz⟩ : ∃ z : Nat, k + 4 * r.l.length = z := ⟨_, rfl⟩
  obtain ⟨z2, hz2⟩ : ∃ z2 : Nat, z + r.b.length = z2 := ⟨_, rfl⟩
  have hz3 : z ≤ 10000000 := by omega
  have HZ := Lib.hid hz
  have HZ2 := Lib.hid hz2
  have HD := Lib.hid (fun W (hW : Below w.heap.size w W) => Dep.heldDepS_any p.A r.l.length p.ca k W ((hd.below hW (Nat.le_refl _)).more hW.size) hl (by omega))
  rw [hz] at hs HD
  have HS := Lib.hid (fun W (hW : Below w.heap.size w W) => Str.heldStringS_any p.B r.b.length p.cb z W ((hs.below hW (Nat.le_refl _)).more hW.size) hb hz3)
  rw [hz2] at HS
  have hn1 : ¬ ((z : Nat) : Int) < 0 := by omega
  have hn2 : ¬ ((z2 : Nat) : Int) < 0 := by omega
  clear hd hs hz hz2 h hk
  unfold recV
  go_enter Tryz.func20, Tryz.ntmps20
  go_wp2_with fail
  refine (HD.out _ B0.out).mono ?_
  rintro e w1 ⟨rfl, hb1⟩
  have B1 := Lib.hid (B0.out.trans (hb1.mono B0.out.size))
  have X1 := Lib.hid (X0.out.on hb1)
  clear hb1 B0 X0
  obtain ⟨x0, x1, x2, x3, x4, x5, x6, x7⟩ := Rec.cells8 X1.out
  go_wp2_with fail
  refine (HS.out _ B1.out).mono ?_
  rintro e w2 ⟨rfl, hb2⟩
  have B2 := Lib.hid (B1.out.trans (hb2.mono B1.out.size))
  clear hb2 B1 X1 x0 x1 x2 x3 x4 x5 x6 x7
  go_wp2_with fail
  go_ret
  exact ⟨Str.ret_i64 (by have := HZ2.out; have := HZ.out; have := HKL.out; omega), B2.out⟩
end Go.Proofs.YtegnjbdgeibhfaaGreat.Rs
