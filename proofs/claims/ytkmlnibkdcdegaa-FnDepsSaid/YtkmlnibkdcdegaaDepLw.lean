/-
  The laws' own lwDeps, lwDepsOut of two answers that read alike.
-/
import Derived.Test.YtkmlnibkdcdegaaDepHeld
import Derived.Test.YtkmlnibkdcdegaaDepRight
import Derived.BigQuiet
namespace Go.Proofs.Ytkmlnibkdcdegaa.Dep
open Go.ChangeShapes Go.WideShapes Go.ChangeAt Go.RowKit
set_option linter.unusedVariables false
set_option maxRecDepth 100000

theorem drewN_below {w W : World} {n : Nat} (h : Below n w W) (k : Nat) : Below n w (W.drewN k) :=
  ⟨h.os, h.tape, h.output, h.size, h.block⟩

set_option maxHeartbeats 1000000 in
theorem lwDeps_same (A B : Option Addr) (l : List D) (ca cb : Nat) (w : World) (ha : Lies w w.heap.size A l) (hb : Lies w w.heap.size B l) (hl : l.length ≤ maxLen) :
    Calls Try.prog 52 #[slV A l ca, slV B l cb] w fun x w' => x = .returned (.bool true) ∧ Below w.heap.size w w' := by
  have hl2 := hl
  unfold maxLen at hl2
  unfold slV
  have HA := Lib.hid ha
  have HB := Lib.hid hb
  clear ha hb
  have hne : ((l.length : Int) != (l.length : Int)) = false := by simp
  go_enter Try.func52, Try.ntmps52
  go_wp2_with fail
  go_loopw [5] (fun i wr => ∃ k : Nat, k ≤ l.length ∧ i = .int .i64 k ∧ Hid (Below w.heap.size w wr)) (fun i _ => l.length - (intOf i).toNat)
  case atStart => exact ⟨0, by omega, rfl, Lib.hid (Below.refl _ _)⟩
  case round =>
    obtain ⟨k, hk, rfl, HR⟩ := hrel
    by_cases hlt : k < l.length
    · obtain ⟨a1, rfl, hb1, c0, c1, c2, c3⟩ := (HA.out.below HR.out (Nat.le_refl _)).at_ hlt
      obtain ⟨a2, rfl, hb2, d0, d1, d2, d3⟩ := (HB.out.below HR.out (Nat.le_refl _)).at_ hlt
      generalize l[k] = d at c0 c1 c2 c3 d0 d1 d2 d3 ⊢
      have e0 : (d.k.toList == d.k.toList) = true := beq_self_eq_true _
      have e1 : (d.i.c == d.i.c) = true := beq_self_eq_true _
      have e2 : (d.i.s == d.i.s) = true := beq_self_eq_true _
      have e3 : (d.i.e == d.i.e) = true := beq_self_eq_true _
      go_wp2_with fail
      go_quiet (fail)
      go_wp2_with fail
      go_roundw
      case rel => exact ⟨k + 1, by omega, by go_num, Lib.hid (drewN_below HR.out _)⟩
      case measure => simp [intOf]; omega
    · go_wp2_with fail
      go_ret
      exact ⟨rfl, HR.out⟩

set_option maxHeartbeats 1000000 in
theorem lwOut_same (A B : Option Addr) (l : List D) (ca cb : Nat) (c : Int) (w : World) (ha : Lies w w.heap.size A l) (hb : Lies w w.heap.size B l) (hl : l.length ≤ 1048576) (hk : ∀ d ∈ l, d.k.size ≤ maxLen) (hr : c = 0 → depsB l = true) :
    Calls Try.prog 13 #[outV (.slice A l.length ca) c, outV (.slice B l.length cb) c] w fun e w' => e = .returned (.bool true) ∧ Below w.heap.size w w' := by
  have hcc : (c == c) = true := beq_self_eq_true c
  have B1 := ((Below.refl w.heap.size w).alloc (Nat.le_refl _) (Obj.cells #[Value.slice A l.length ca, Value.int IntKind.i64 c] 27)).alloc (by simp) (Obj.cells #[Value.slice B l.length cb, Value.int IntKind.i64 c] 27)
  have hR := (ORow.new w (.slice A l.length ca) c).alloc (Obj.cells #[Value.slice B l.length cb, Value.int IntKind.i64 c] 27)
  have hltR := hR.lt
  have HE := Lib.hid (fun W (hW : Below w.heap.size w W) => lwDeps_same A B l ca cb W ((ha.below hW (Nat.le_refl _)).more hW.size) ((hb.below hW (Nat.le_refl _)).more hW.size) (by unfold maxLen; omega))
  have HD := Lib.hid (fun W (hW : Below w.heap.size w W) => specDeps_any A l ca W ((ha.below hW (Nat.le_refl _)).more hW.size) (by unfold maxLen; omega) hk)
  unfold slV at HE HD
  clear ha hb hk
  unfold outV
  by_cases hc : c = 0
  · have hd := hr hc
    subst hc
    rw [hd] at HD
    clear hr hd hcc
    go_enter Try.func13, Try.ntmps13
    go_wp2_with fail
    refine (HE.out _ B1).mono ?_
    rintro e w1 ⟨rfl, hb1⟩
    have B2 := Lib.hid (B1.trans (hb1.mono B1.size))
    obtain ⟨r0, r1⟩ := (hR.step hb1 hltR).cells
    clear hb1 hR B1
    go_wp2_with fail
    refine (HD.out _ B2.out).mono ?_
    rintro e w2 ⟨rfl, hb2⟩
    have B3 := Lib.hid (B2.out.trans (hb2.mono B2.out.size))
    clear hb2
    go_wp2_with fail
    go_ret
    exact ⟨rfl, B3.out⟩
  · have hcn : (c != 0) = true := bne_iff_ne.2 hc
    clear hr hc
    go_enter Try.func13, Try.ntmps13
    go_wp2_with fail
    refine (HE.out _ B1).mono ?_
    rintro e w1 ⟨rfl, hb1⟩
    have B2 := Lib.hid (B1.trans (hb1.mono B1.size))
    obtain ⟨r0, r1⟩ := (hR.step hb1 hltR).cells
    clear hb1 hR B1
    go_wp2_with fail
    go_ret
    exact ⟨rfl, B2.out⟩
end Go.Proofs.Ytkmlnibkdcdegaa.Dep
