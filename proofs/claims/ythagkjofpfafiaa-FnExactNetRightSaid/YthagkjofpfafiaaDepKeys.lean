/-
  impl.keysOf: what it hands back, ranged over, hands out each key of some lists, rising.
-/
import Derived.Test.YthagkjofpfafiaaDepAbove
import Derived.RangeFuncNested
import Derived.RangeFuncBound
import Derived.RangeFuncCalls
import Derived.RangeFuncLeaves
import Derived.RangeFuncBox
import Derived.Shelf.Abstract
import Derived.Shelf.RegionOpen
import Derived.WalkKit
import Derived.OwnWalkIn
import Derived.TacticsInMore
import Derived.LoopNIn
import Derived.LoopIn
namespace Go.Proofs.Ythagkjofpfafiaa.Dep
open Go.ChangeShapes Go.WideShapes Go.ChangeAt Go.RowKit Go.Shelf
set_option linter.unusedVariables false
set_option maxRecDepth 100000

attribute [local go_sem] Oper.semAt_some

/-- These are the keys of some deps, one above the other. -/
def Chain (L : List D) (ks : List ByteArray) : Prop :=
  (∀ i, i ≤ ks.length → aboveV (if i = 0 then ⟨#[]⟩ else ks.getD (i - 1) ⟨#[]⟩) L = ks.getD i ⟨#[]⟩) ∧ (∀ k ∈ ks, k ≠ ⟨#[]⟩) ∧ ks.Nodup

theorem cell_lt' {w : World} {a : Addr} {v : Value} (h : w.cell? a = some v) : a.block < w.heap.size := by
  rcases Nat.lt_or_ge a.block w.heap.size with h' | h'
  · exact h'
  · simp [World.cell?, Array.getElem?_eq_none h'] at h
theorem Chain.next {L : List D} {pre rest : List ByteArray} (h : Chain L (pre ++ rest)) : aboveV (if pre = [] then ⟨#[]⟩ else pre.getLastD ⟨#[]⟩) L = rest.head?.getD ⟨#[]⟩ := by
  have := h.1 pre.length (by simp)
  rw [show (pre ++ rest).getD pre.length ⟨#[]⟩ = rest.head?.getD ⟨#[]⟩ by cases rest <;> simp [List.getD]] at this
  rw [← this]
  congr 1
  cases hp : pre with
  | nil => simp
  | cons a l =>
    rw [if_neg (by simp), if_neg (by simp)]
    have hl : (a :: l).length - 1 < (a :: l).length := by simp
    rw [List.getD, List.getElem?_append_left hl, List.getLastD_eq_getLast?, List.getLast?_eq_getElem?]
open Classical in
/-- How many are still to come, read off the key. -/
noncomputable def leftOf (ks : List ByteArray) : Value → Nat
  | .string k => (ks.dropWhile fun x => decide (x ≠ k)).length
  | _ => 0
theorem left_none {ks : List ByteArray} (h : ∀ k ∈ ks, k ≠ ⟨#[]⟩) : leftOf ks (.string ⟨#[]⟩) = 0 := by
  unfold leftOf
  have : ks.dropWhile (fun x => decide (x ≠ (⟨#[]⟩ : ByteArray))) = [] := by
    induction ks with
    | nil => rfl
    | cons a l ih =>
      rw [List.dropWhile_cons_of_pos (by simpa using h a (by simp))]
      exact ih fun k hk => h k (by simp [hk])
  simp only [this]; rfl
theorem left_some {pre rest : List ByteArray} {x : ByteArray} (h : (pre ++ x :: rest).Nodup) : leftOf (pre ++ x :: rest) (.string x) = rest.length + 1 := by
  unfold leftOf
  have hx : ∀ y ∈ pre, y ≠ x := by
    intro y hy e
    subst e
    have := (List.nodup_append.1 h).2.2 y hy y (by simp)
    exact this rfl
  have : (pre ++ x :: rest).dropWhile (fun y => decide (y ≠ x)) = x :: rest := by
    clear h
    induction pre with
    | nil => simp
    | cons a l ih =>
      rw [List.cons_append, List.dropWhile_cons_of_pos (by simpa using hx a (by simp))]
      exact ih fun y hy => hx y (by simp [hy])
  simp only [this]; rfl

/-- A key that is handed out: it is short. -/
abbrev K4 := { k : ByteArray // k.size ≤ 4 }
/-- What a round of the caller's keeps: what lies below n₀, and the iterator's own box. -/
def KeepsBox (n₀ Bn : Nat) (W W' : World) : Prop := Below n₀ W W' ∧ W'.heap[Bn]? = W.heap[Bn]?
theorem KeepsBox.trans {n₀ Bn : Nat} {A B C : World} (h1 : KeepsBox n₀ Bn A B) (h2 : KeepsBox n₀ Bn B C) : KeepsBox n₀ Bn A C := ⟨h1.1.trans h2.1, h2.2.trans h1.2⟩
theorem cell_same {W W' : World} {b : Nat} (h : W'.heap[b]? = W.heap[b]?) (j : Nat) : W'.cell? ⟨b, j, none⟩ = W.cell? ⟨b, j, none⟩ := World.cell?_of_block (w := W) h

theorem keys_in (n : Nat) (hn : 1 ≤ n) (l Bn n₀ : Nat) (ad : Addr) (ls : List Sl) (cap : Nat) (ks : List K4) (hc : Chain (allOf ls) (ks.map (·.1))) (hl : ls.length ≤ 400) (hll : ∀ j (h : j < ls.length), ls[j].l.length ≤ maxLen) (J Jx : List K4 → World → Prop)
    (hY : ∀ pre x W, J pre W → pre.length < ks.length → YieldAt Fence.wide (n - 1) Try.prog l #[.string x.1] W fun e W' =>
      (e = .returned (.bool true) ∧ J (pre ++ [x]) W' ∧ KeepsBox n₀ Bn W W') ∨ (e = .returned (.bool false) ∧ Jx (pre ++ [x]) W'))
    (W : World) (hJb : ∀ pre A B, J pre A → Below A.heap.size A B → J pre B) (hBn : W.cell? ⟨Bn, 0, none⟩ = some (.slice (some ad) ls.length cap)) (hL : Lists W n₀ ad ls) (hn₀ : n₀ ≤ W.heap.size) (h0 : J [] W) :
    CallsIn Fence.wide n Try.prog 92 #[.func (.yield l) #[] #[], .pointer (some ⟨Bn, 0, none⟩)] W fun e W' => (∃ v, e = .returned v) ∧
      ((∃ ys, ys = ks ∧ J ys W') ∨ (∃ pre, pre <+: ks ∧ Jx pre W')) := by
  have HC := Lib.hid hc
  clear hc
  refine callsIn_of_wp Try.func92 rfl trivial ?_ rfl
  simp only [Try.ntmps92, List.size_toArray, List.length_cons, List.length_nil, Nat.reduceAdd, Nat.reduceSub, Array.replicate_succ, Array.replicate_zero, List.push_toArray, List.append_toArray, List.nil_append, List.cons_append]
  gi_wp2_with (refine ⟨trivial, ?_⟩; gi_at_call 93; refine (callsIn_wide.2 (above_any ⟨#[]⟩ ad ls cap W (hL.more hn₀) hl hll)).mono ?_; rintro e w' ⟨rfl, hb⟩)
  have hJ0 := hJb [] W w' h0 hb
  have B0 := hb.mono hn₀
  have hBn' := (hb.cell (p := ⟨Bn, 0, none⟩) (cell_lt' hBn)).trans hBn
  have hfirst := HC.out.next (pre := []) (rest := ks.map (·.1))
  rw [if_pos rfl] at hfirst
  rw [hfirst]
  obtain ⟨k0, hk0⟩ : ∃ k0, (ks.map (·.1)).head?.getD ⟨#[]⟩ = k0 := ⟨_, rfl⟩
  rw [hk0]
  have HK0 := Lib.hid hk0
  clear hb h0 hk0 hfirst
  gi_loopw [3] (fun p wr => ∃ (pre rest : List K4), Hid (ks = pre ++ rest) ∧ p = .string ((rest.map (·.1)).head?.getD ⟨#[]⟩) ∧ J pre wr ∧ Hid (Below n₀ W wr ∧ wr.cell? ⟨Bn, 0, none⟩ = some (.slice (some ad) ls.length cap)))
    (fun p _ => leftOf (ks.map (·.1)) p)
  case atStart => exact ⟨[], ks, Lib.hid rfl, by rw [HK0.out], hJ0, Lib.hid ⟨B0, hBn'⟩⟩
  case round =>
    obtain ⟨pre, rest, HX, rfl, hJs, HB⟩ := hrel
    cases rest with
    | nil =>
      have hee : (ByteArray.toList ⟨#[]⟩ == ByteArray.toList ⟨#[]⟩) = true := beq_self_eq_true _
      simp only [List.map_nil, List.head?_nil, Option.getD_none]
      gi_wp2
      go_end0
      exact ⟨⟨_, rfl⟩, .inl ⟨pre, by simp [HX.out], hJs⟩⟩
    | cons x rest =>
      have hxm : x.1 ∈ ks.map (·.1) := by rw [HX.out]; simp
      have hne : ¬ x.1.toList = ByteArray.toList ⟨#[]⟩ := fun e => HC.out.2.1 x.1 hxm (list_eq (by rw [← ByteArray.toList_eq, ← ByteArray.toList_eq]; exact e))
      have hee : (x.1.toList == ByteArray.toList ⟨#[]⟩) = false := beq_eq_false_iff_ne.2 hne
      have hee2 : (x.1.toList == []) = false := by rw [← toList_empty]; exact hee
      obtain ⟨fn, tmps, assign, body, hy, hR⟩ := hY pre x wr hJs (by rw [HX.out]; simp)
      simp only [List.map_cons, List.head?_cons, Option.getD_some]
      clear hne
      gi_wp2
      refine hR.mono ?_
      rintro e W3 (⟨rfl, hJ3, hk3⟩ | ⟨rfl, hJx3⟩)
      · have B3 := HB.out.1.trans hk3.1
        have hB3 : W3.cell? ⟨Bn, 0, none⟩ = some (.slice (some ad) ls.length cap) := (cell_same hk3.2 0).trans HB.out.2
        have hL3 := (hL.below B3 (Nat.le_refl _)).more (B' := W3.heap.size) (by have := B3.size; omega)
        have hnx := (show Chain (allOf ls) ((pre.map (·.1) ++ [x.1]) ++ rest.map (·.1)) by have := HC.out; rw [HX.out] at this; simpa using this).next
        rw [if_neg (by simp)] at hnx
        simp only [List.getLastD_concat] at hnx
        gi_wp2_with (refine ⟨trivial, ?_⟩; gi_at_call 93; refine (callsIn_wide.2 (above_any x.1 ad ls cap W3 hL3 hl hll)).mono ?_; rintro e w4 ⟨rfl, hb4⟩)
        go_roundw
        case rel => exact ⟨pre ++ [x], rest, Lib.hid (by rw [HX.out]; simp), by simp, hJb _ _ _ hJ3 hb4, Lib.hid ⟨B3.trans (hb4.mono (by have := B3.size; omega)), (hb4.cell (p := ⟨Bn, 0, none⟩) (cell_lt' hB3)).trans hB3⟩⟩
        case measure =>
          have hnd := HC.out.2.2
          have hks : ks.map (·.1) = pre.map (·.1) ++ x.1 :: rest.map (·.1) := by rw [HX.out]; simp
          rw [hks] at hnd
          have e1 := left_some hnd
          rw [← hks] at e1
          have e2 : leftOf (ks.map (·.1)) (.string ((rest.map (·.1)).head?.getD ⟨#[]⟩)) = (rest.map (·.1)).length := by
            cases rest with
            | nil =>
              simpa using left_none (ks := ks.map (·.1)) HC.out.2.1
            | cons y rest =>
              have := left_some (pre := pre.map (·.1) ++ [x.1]) (x := y.1) (rest := rest.map (·.1)) (by simpa using hnd)
              rw [List.append_assoc, List.singleton_append, show x.1 :: y.1 :: rest.map (·.1) = x.1 :: (y :: rest).map (·.1) from rfl, ← hks] at this
              simpa using this
          show leftOf (ks.map (·.1)) (.string ((rest.map (·.1)).head?.getD ⟨#[]⟩)) < leftOf (ks.map (·.1)) (.string x.1)
          omega
      · gi_wp2
        refine bodyPost_ret (results_none rfl _ _ _) rfl ?_
        exact ⟨⟨_, rfl⟩, .inr ⟨pre ++ [x], ⟨rest, by simp [HX.out]⟩, hJx3⟩⟩

theorem keys_stops (n : Nat) (hn : 1 ≤ n) (Bn n₀ : Nat) (ad : Addr) (ls : List Sl) (cap : Nat) (ks : List K4) (hc : Chain (allOf ls) (ks.map (·.1))) (hl : ls.length ≤ 400) (hll : ∀ j (h : j < ls.length), ls[j].l.length ≤ maxLen)
    (w : World) (hn₀ : n₀ ≤ w.heap.size) (hBn : w.cell? ⟨Bn, 0, none⟩ = some (.slice (some ad) ls.length cap)) (hL : Lists w n₀ ad ls) :
    SeqStopsK Fence.wide n Try.prog 92 #[.pointer (some ⟨Bn, 0, none⟩)] (fun x : K4 => #[Value.string x.1]) (KeepsBox n₀ Bn) (fun ys => ys = ks) (fun pre => pre <+: ks) ks.length w := fun l J Jx W hW hJ _ hY h0 =>
  keys_in n hn l Bn n₀ ad ls cap ks hc hl hll J Jx hY W (fun pre A B hj hb => hJ pre A B none hj ⟨hb.os, hb.tape, hb.output, hb.size, fun k hk _ => hb.block k hk⟩ (fun r e => by cases e))
    ((hW.cell (p := ⟨Bn, 0, none⟩) (cell_lt' hBn)).trans hBn) (hL.below (hW.mono hn₀) (Nat.le_refl _)) (Nat.le_trans hn₀ hW.size) h0

theorem keysOf_in (n : Nat) (ad : Option Addr) (len cap : Nat) (w : World) :
    CallsIn Fence.wide n Try.prog 81 #[.slice ad len cap] w fun e w' => e = .returned (.func (.func 92) #[] #[.pointer (some ⟨w.heap.size, 0, none⟩)]) ∧ w' = w.alloc (.cells #[.slice ad len cap] 88) := by
  refine callsIn_of_wp Try.func81 rfl trivial ?_ rfl
  simp only [Try.ntmps81, List.size_toArray, List.length_cons, List.length_nil, Nat.reduceAdd, Nat.reduceSub, Array.replicate_succ, Array.replicate_zero, List.push_toArray, List.append_toArray, List.nil_append, List.cons_append]
  gi_wp2
  go_ret
  exact ⟨rfl, rfl⟩
end Go.Proofs.Ythagkjofpfafiaa.Dep
