/-
  A store's answer: eqStoreOut, and the law's own marks on it: markStoreOut, heldStoreOut.
-/
import Derived.Test.YtlhebgfiljmeiaaRowMark
import Derived.Test.YtlhebgfiljmeiaaRowOut
namespace Go.Proofs.Ytlhebgfiljmeiaa.Sto
open Go.ChangeShapes Go.WideShapes Go.ChangeAt Go.RowKit
open Dep (grown_trans grown_of_below)
set_option linter.unusedVariables false
set_option maxRecDepth 100000

/-- What a call answered, in its own terms. -/
theorem Answers.held {w w' : World} {e : Ending} {r : List R} {c : Int} (h : Answers w e w' r c) : ∃ A cap, e = .returned (outV (.slice A r.length cap) c) ∧ Held w' A r w.heap.size w'.heap.size ∧ r.length ≤ cap ∧ Below w.heap.size w w' := by
  obtain ⟨A, cap, rfl, ho, hc, hL, hb⟩ := h
  exact ⟨A, cap, rfl, Held.of_own ho, hc, hb⟩

theorem eqOut_same (A B : Option Addr) (l : List R) (ca cb : Nat) (c : Int) (w : World) (ha : Lies w w.heap.size A l) (hb : Lies w w.heap.size B l) (hl : l.length ≤ 1048576) :
    Calls Try.prog 18 #[outV (.slice A l.length ca) c, outV (.slice B l.length cb) c] w fun e w' => e = .returned (.bool true) ∧ Below w.heap.size w w' := by
  have hcc : (c == c) = true := beq_self_eq_true c
  have hcn : (c != c) = false := by simp
  have B1 := ((Below.refl w.heap.size w).alloc (Nat.le_refl _) (Obj.cells #[Value.slice A l.length ca, Value.int IntKind.i64 c] 35)).alloc (by simp) (Obj.cells #[Value.slice B l.length cb, Value.int IntKind.i64 c] 35)
  have hR := (SRow.new w (.slice A l.length ca) c).alloc (Obj.cells #[Value.slice B l.length cb, Value.int IntKind.i64 c] 35)
  have hS := SRow.new (w.alloc (Obj.cells #[Value.slice A l.length ca, Value.int IntKind.i64 c] 35)) (.slice B l.length cb) c
  rw [World.size_alloc] at hS
  have hltR := hR.lt
  have hltS := hS.lt
  have HE := Lib.hid (fun W (hW : Below w.heap.size w W) => eqRowS_same A B l ca cb W ((ha.below hW (Nat.le_refl _)).more hW.size) ((hb.below hW (Nat.le_refl _)).more hW.size) (by unfold maxLen; omega))
  unfold slV at HE
  clear ha hb
  unfold outV
  go_enter Try.func18, Try.ntmps18
  go_wp2_with fail
  refine (HE.out _ B1).mono ?_
  rintro e w1 ⟨rfl, hb1⟩
  have B2 := Lib.hid (B1.trans (hb1.mono B1.size))
  obtain ⟨r0, r1⟩ := (hR.step hb1 hltR).cells
  obtain ⟨s0, s1⟩ := (hS.step hb1 hltS).cells
  clear hb1 hR hS B1
  go_wp2_with fail
  go_ret
  exact ⟨rfl, B2.out⟩

theorem Turned.srow {W W' : World} {lo hi b : Nat} {s : Value} {c : Int} (h : Turned W W' lo hi) (hh : SRow W b s c) : SRow W' b s c := by
  obtain ⟨row, hg, hr⟩ := h
  refine (hg.block b hh.lt (fun e => ?_)).trans hh
  obtain ⟨_, _, cs, hc⟩ := hr b e.symm
  rw [show W.heap[b]? = _ from hh] at hc
  cases hc
theorem turned_pre {W W1 W' : World} {lo hi : Nat} (hb : Below W.heap.size W W1) (hhi : hi ≤ W.heap.size) (h : Turned W1 W' lo hi) : Turned W W' lo hi := by
  obtain ⟨row, hg, hr⟩ := h
  refine ⟨row, grown_trans (grown_of_below row hb) hg, fun g e => ?_⟩
  obtain ⟨h1, h2, cs, hc⟩ := hr g e
  exact ⟨h1, h2, cs, by rw [← hb.block g (by omega)]; exact hc⟩

theorem markOut_any (A : Option Addr) (l : List R) (cap k lo hi : Nat) (c : Int) (w : World) (h : Held w A l lo hi) (hhi : hi ≤ w.heap.size) (hl : l.length ≤ 1048576) (hk : k ≤ 10000000) :
    Calls Try.prog 20 #[outV (.slice A l.length cap) c, .int .i64 k] w fun e w' => e = .returned (.int .i64 ((k + 5 * l.length : Nat) : Int)) ∧ Held w' A (marks k l.length) lo hi ∧ Turned w w' lo hi := by
  have B1 := Lib.hid ((Below.refl w.heap.size w).alloc (Nat.le_refl _) (Obj.cells #[Value.slice A l.length cap, Value.int IntKind.i64 c] 35))
  have HM := Lib.hid (mark_any A l cap k lo hi _ (h.step B1.out (.inl hhi)) hl hk)
  clear h
  have hkn : k + 5 * l.length ≤ 100000000 := by omega
  unfold outV
  go_enter Try.func20, Try.ntmps20
  go_wp2_with fail
  refine HM.out.mono ?_
  rintro e w1 ⟨rfl, hh, ht⟩
  have HH := Lib.hid hh
  have HT := Lib.hid ht
  clear hh ht
  go_wp2_with fail
  go_ret
  exact ⟨rfl, HH.out, turned_pre B1.out hhi HT.out⟩

theorem heldOut_any (A : Option Addr) (n cap k : Nat) (c : Int) (w : World) (h : Lies w w.heap.size A (marks k n)) (hl : n ≤ 1048576) (hk : k ≤ 10000000) :
    Calls Try.prog 21 #[outV (.slice A n cap) c, .int .i64 k] w fun e w' => e = .returned (.int .i64 ((k + 5 * n : Nat) : Int)) ∧ Below w.heap.size w w' := by
  have B1 := Lib.hid ((Below.refl w.heap.size w).alloc (Nat.le_refl _) (Obj.cells #[Value.slice A n cap, Value.int IntKind.i64 c] 35))
  have HM := Lib.hid (heldRowS_any A n cap k _ ((h.below B1.out (Nat.le_refl _)).more B1.out.size) hl hk)
  clear h
  have hkn : k + 5 * n ≤ 100000000 := by omega
  have hk0 : ¬ ((k + 5 * n : Nat) : Int) < 0 := by omega
  unfold outV
  go_enter Try.func21, Try.ntmps21
  go_wp2_with fail
  refine HM.out.mono ?_
  rintro e w1 ⟨rfl, hb⟩
  have HB := Lib.hid (B1.out.trans (hb.mono B1.out.size))
  clear hb
  obtain ⟨z, hz⟩ : ∃ z, k + 5 * n = z := ⟨_, rfl⟩
  have HZ := Lib.hid hz
  rw [hz] at hk0 ⊢
  clear hz
  go_wp2_with fail
  go_ret
  exact ⟨by rw [HZ.out]; rfl, HB.out⟩
theorem mergeR_len (a b : List R) : (mergeR a b).length ≤ 6 := by
  unfold mergeR
  by_cases h : mergeC a b = 0
  · rw [if_pos h]
    unfold mergeC at h
    by_cases h1 : 400 < a.length ∨ 400 < b.length
    · rw [if_pos h1] at h; omega
    · rw [if_neg h1] at h
      by_cases h2 : rowsB a = true ∧ rowsB b = true
      · rw [if_pos h2] at h
        by_cases h3 : 6 < (mergeW a b).length
        · rw [if_pos h3] at h; omega
        · omega
      · rw [if_neg h2] at h; omega
  · rw [if_neg h]; simp
end Go.Proofs.Ytlhebgfiljmeiaa.Sto
