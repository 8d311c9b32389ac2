/-
  impl.bundled: all that was written together; (record).right; joinAll of two lists.
-/
import Derived.Test.YtegnjbdgeibhfaaRecSame
import Derived.Test.YtegnjbdgeibhfaaRecRight
import Derived.Test.YtegnjbdgeibhfaaPackJoin
import Derived.Test.YtegnjbdgeibhfaaPackCov
namespace Go.Proofs.Ytegnjbdgeibhfaa.Rec
open Go.ChangeShapes Go.WideShapes Go.ChangeAt Go.RowKit
open Dep (D I putV flat joinV depsB clockV)
set_option linter.unusedVariables false
set_option maxRecDepth 100000
set_option linter.unusedSimpArgs false

theorem bun_step (b : List ByteArray) (i : I) (k : Nat) (h : k < b.length) : bun (b.take (k + 1)) i = bun (b.take k) i ++ [⟨b[k], i⟩] := by
  unfold bun
  rw [show b.take (k + 1) = b.take k ++ [b[k]] by simp, List.map_append]
  rfl

theorem blk_not_row {W : World} {b t : Nat} {cs : Array Value} {base n : Nat} {v : Value} {xs : List Value} (h : Blk W b t cs) (ht : t ≠ 80) (ho : W.ownsRow base 80 4 v n xs) : some b ≠ v.ownBlock := by
  rcases ho.2 with ⟨rfl, _⟩ | ⟨g, cap, cur, rfl, _, hg, _⟩
  · intro e; cases e
  · intro e
    cases e
    rw [show W.heap[g]? = _ from h] at hg
    injection hg with hg
    injection hg with _ h2
    exact ht h2

set_option maxHeartbeats 2000000 in
theorem bundled_any (r : R) (p : P) (w : World) (h : Lies w w.heap.size r p) (hb : r.b.length ≤ 1000000) :
    Calls Try.prog 62 #[recV r p] w fun e w' => ∃ A c, e = .returned (Dep.slV A (bun r.b r.i) c) ∧ (bun r.b r.i).length ≤ c ∧ w'.ownsRow w.heap.size 80 4 (Dep.slV A (bun r.b r.i) c) (bun r.b r.i).length (flat (bun r.b r.i)) ∧ Dep.Lies w' w'.heap.size A (bun r.b r.i) ∧ Below w.heap.size w w' := by
  have X0 := Lib.hid (Blk.new w 61 (cellsV r p))
  have B0 := Lib.hid ((Below.refl w.heap.size w).alloc (Nat.le_refl _) (.cells (cellsV r p) 61))
  obtain ⟨pA, pca, pB, pcb⟩ := p
  have HS : Hid (Str.Lies w w.heap.size pB r.b) := Lib.hid h.2
  have HBL := Lib.hid (bun_length r.b r.i)
  clear h
  unfold recV
  go_enter Try.func62, Try.ntmps62
  go_wp2_with fail
  go_loopw [3, 9] (fun o i wr => ∃ k : Nat, k ≤ r.b.length ∧ i = .int .i64 k ∧ Hid (wr.ownsRow w.heap.size 80 4 o k (flat (bun (r.b.take k) r.i)) ∧ Below w.heap.size w wr ∧ Blk wr w.heap.size 61 (cellsV r ⟨pA, pca, pB, pcb⟩))) (fun _ i _ => r.b.length - (intOf i).toNat)
  case atStart => exact ⟨0, by omega, rfl, Lib.hid ⟨Dep.own_nil _ _, B0.out, X0.out⟩⟩
  case round =>
    obtain ⟨k, hk, rfl, HR⟩ := hrel
    obtain ⟨x0, x1, x2, x3, x4, x5, x6, x7⟩ := cells8 HR.out.2.2
    by_cases hlt : k < r.b.length
    · obtain ⟨bd, rfl, _, c0⟩ := (HS.out.below HR.out.2.1 (Nat.le_refl _)).at_ hlt
      have HST := Lib.hid (bun_step r.b r.i k hlt)
      obtain ⟨y, hy⟩ : ∃ y, r.b[k] = y := ⟨_, rfl⟩
      rw [hy] at c0 HST
      clear hy
      go_wp2_with (at_builtin; refine Dep.wpList_append_deps rfl rfl rfl [⟨y, r.i⟩] rfl rfl rfl (Dep.own_alloc HR.out.1 (Dep.D.obj ⟨y, r.i⟩)) (Dep.one_lies _ ⟨y, r.i⟩) (by simp; omega) (by have := HR.out.2.1.size; simp; omega) ?_; intro v2 W2 ho2 hg2; have hBg := (HR.out.2.1.alloc HR.out.2.1.size (Dep.D.obj ⟨y, r.i⟩)).grown hg2 (by have := HR.out.2.1.size; simp; omega) (Dep.ownBlock_base HR.out.1); have B2 := Lib.hid hBg; have X2 := Lib.hid (show Blk W2 w.heap.size 61 (cellsV r ⟨pA, pca, some bd, pcb⟩) from (hg2.block _ (by have := HR.out.2.2.lt; simp; omega) (blk_not_row HR.out.2.2 (by decide) HR.out.1)).trans (HR.out.2.2.alloc _)); rw [← HST.out] at ho2; have O2 := Lib.hid ho2; clear ho2 hg2 hBg)
      go_roundw
      case rel => exact ⟨k + 1, by omega, by go_num, Lib.hid ⟨O2.out, B2.out, X2.out⟩⟩
      case measure => simp [intOf]; omega
    · have e : k = r.b.length := by omega
      go_wp2_with fail
      go_ret
      have h1 := HR.out.1
      rw [List.take_of_length_le (by omega), e] at h1
      rw [← HBL.out] at h1
      obtain ⟨_, A, c, ev, hc, hL⟩ := Dep.own_lies h1
      rw [ev] at h1
      refine ⟨A, c, ?_, hc, h1, hL, HR.out.2.1⟩
      rw [← ev]
      rfl
end Go.Proofs.Ytegnjbdgeibhfaa.Rec
