/-
  impl.keysOf where a round of the caller's keeps the lists, whatever else it writes.
-/
import Derived.Test.YtoagdpbbojlgfaaPackAll
namespace Go.Proofs.Ytoagdpbbojlgfaa.Dep
open Go.ChangeShapes Go.WideShapes Go.ChangeAt Go.RowKit Go.Shelf
set_option linter.unusedVariables false
set_option maxRecDepth 100000

attribute [local go_sem] Oper.semAt_some

theorem keysK_in (n : Nat) (hn : 1 ≤ n) (l Bn : Nat) (Kp : World → World → Prop) (ad : Addr) (ls : List Sl) (cap : Nat) (ks : List K4) (hc : Chain (allOf ls) (ks.map (·.1))) (hl : ls.length ≤ 400) (hll : ∀ j (h : j < ls.length), ls[j].l.length ≤ maxLen) (J Jx : List K4 → World → Prop)
    (hY : ∀ pre x W, J pre W → pre.length < ks.length → YieldAt Fence.wide (n - 1) Try.prog l #[.string x.1] W fun e W' =>
      (e = .returned (.bool true) ∧ J (pre ++ [x]) W' ∧ Kp W W') ∨ (e = .returned (.bool false) ∧ Jx (pre ++ [x]) W'))
    (hKL : ∀ A B, Kp A B → Lists A A.heap.size ad ls → Lists B B.heap.size ad ls) (hKB : ∀ A B, Kp A B → A.cell? ⟨Bn, 0, none⟩ = some (.slice (some ad) ls.length cap) → B.cell? ⟨Bn, 0, none⟩ = some (.slice (some ad) ls.length cap))
    (W : World) (hJb : ∀ pre A B, J pre A → Below A.heap.size A B → J pre B) (hBn : W.cell? ⟨Bn, 0, none⟩ = some (.slice (some ad) ls.length cap)) (hL : Lists W W.heap.size ad ls) (h0 : J [] W) :
    CallsIn Fence.wide n Try.prog 85 #[.func (.yield l) #[] #[], .pointer (some ⟨Bn, 0, none⟩)] W fun e W' => (∃ v, e = .returned v) ∧
      ((∃ ys, ys = ks ∧ J ys W') ∨ (∃ pre, pre <+: ks ∧ Jx pre W')) := by
  have HC := Lib.hid hc
  clear hc
  refine callsIn_of_wp Try.func85 rfl trivial ?_ rfl
  simp only [Try.ntmps85, List.size_toArray, List.length_cons, List.length_nil, Nat.reduceAdd, Nat.reduceSub, Array.replicate_succ, Array.replicate_zero, List.push_toArray, List.append_toArray, List.nil_append, List.cons_append]
  gi_wp2_with (refine ⟨trivial, ?_⟩; gi_at_call 86; refine (callsIn_wide.2 (above_any ⟨#[]⟩ ad ls cap W hL hl hll)).mono ?_; rintro e w' ⟨rfl, hb⟩)
  have hJ0 := hJb [] W w' h0 hb
  have L0 := (hL.below hb (Nat.le_refl _)).more hb.size
  have hBn' := (hb.cell (p := ⟨Bn, 0, none⟩) (cell_lt' hBn)).trans hBn
  have hfirst := HC.out.next (pre := []) (rest := ks.map (·.1))
  rw [if_pos rfl] at hfirst
  rw [hfirst]
  obtain ⟨k0, hk0⟩ : ∃ k0, (ks.map (·.1)).head?.getD ⟨#[]⟩ = k0 := ⟨_, rfl⟩
  rw [hk0]
  have HK0 := Lib.hid hk0
  clear hb h0 hk0 hfirst
  gi_loopw [3] (fun p wr => ∃ (pre rest : List K4), Hid (ks = pre ++ rest) ∧ p = .string ((rest.map (·.1)).head?.getD ⟨#[]⟩) ∧ J pre wr ∧ Hid (Lists wr wr.heap.size ad ls ∧ wr.cell? ⟨Bn, 0, none⟩ = some (.slice (some ad) ls.length cap)))
    (fun p _ => leftOf (ks.map (·.1)) p)
  case atStart => exact ⟨[], ks, Lib.hid rfl, by rw [HK0.out], hJ0, Lib.hid ⟨L0, hBn'⟩⟩
  case round =>
    obtain ⟨pre, rest, HX, rfl, hJs, HB⟩ := hrel
    cases rest with
    | nil =>
      have hee : (ByteArray.toList ⟨#[]⟩ == ByteArray.toList ⟨#[]⟩) = true := beq_self_eq_true _
      simp only [List.map_nil, List.head?_nil, Option.getD_none]
      gi_wp2
      go_end0
      exact ⟨⟨_, rfl⟩, .inl ⟨pre, by simp [HX.out], hJs⟩⟩
    | cons x rest =>
      have hxm : x.1 ∈ ks.map (·.1) := by rw [HX.out]; simp
      have hne : ¬ x.1.toList = ByteArray.toList ⟨#[]⟩ := fun e => HC.out.2.1 x.1 hxm (list_eq (by rw [← ByteArray.toList_eq, ← ByteArray.toList_eq]; exact e))
      have hee : (x.1.toList == ByteArray.toList ⟨#[]⟩) = false := beq_eq_false_iff_ne.2 hne
      have hee2 : (x.1.toList == []) = false := by rw [← toList_empty]; exact hee
      obtain ⟨fn, tmps, assign, body, hy, hR⟩ := hY pre x wr hJs (by rw [HX.out]; simp)
      simp only [List.map_cons, List.head?_cons, Option.getD_some]
      clear hne
      gi_wp2
      refine hR.mono ?_
      rintro e W3 (⟨rfl, hJ3, hk3⟩ | ⟨rfl, hJx3⟩)
      · have hB3 : W3.cell? ⟨Bn, 0, none⟩ = some (.slice (some ad) ls.length cap) := hKB _ _ hk3 HB.out.2
        have hL3 := hKL _ _ hk3 HB.out.1
        have hnx := (show Chain (allOf ls) ((pre.map (·.1) ++ [x.1]) ++ rest.map (·.1)) by have := HC.out; rw [HX.out] at this; simpa using this).next
        rw [if_neg (by simp)] at hnx
        simp only [List.getLastD_concat] at hnx
        gi_wp2_with (refine ⟨trivial, ?_⟩; gi_at_call 86; refine (callsIn_wide.2 (above_any x.1 ad ls cap W3 hL3 hl hll)).mono ?_; rintro e w4 ⟨rfl, hb4⟩)
        go_roundw
        case rel => exact ⟨pre ++ [x], rest, Lib.hid (by rw [HX.out]; simp), by simp, hJb _ _ _ hJ3 hb4, Lib.hid ⟨(hL3.below hb4 (Nat.le_refl _)).more hb4.size, (hb4.cell (p := ⟨Bn, 0, none⟩) (cell_lt' hB3)).trans hB3⟩⟩
        case measure =>
          have hnd := HC.out.2.2
          have hks : ks.map (·.1) = pre.map (·.1) ++ x.1 :: rest.map (·.1) := by rw [HX.out]; simp
          rw [hks] at hnd
          have e1 := left_some hnd
          rw [← hks] at e1
          have e2 : leftOf (ks.map (·.1)) (.string ((rest.map (·.1)).head?.getD ⟨#[]⟩)) = (rest.map (·.1)).length := by
            cases rest with
            | nil =>
              simpa using left_none (ks := ks.map (·.1)) HC.out.2.1
            | cons y rest =>
              have := left_some (pre := pre.map (·.1) ++ [x.1]) (x := y.1) (rest := rest.map (·.1)) (by simpa using hnd)
              rw [List.append_assoc, List.singleton_append, show x.1 :: y.1 :: rest.map (·.1) = x.1 :: (y :: rest).map (·.1) from rfl, ← hks] at this
              simpa using this
          show leftOf (ks.map (·.1)) (.string ((rest.map (·.1)).head?.getD ⟨#[]⟩)) < leftOf (ks.map (·.1)) (.string x.1)
          omega
      · gi_wp2
        refine bodyPost_ret (results_none rfl _ _ _) rfl ?_
        exact ⟨⟨_, rfl⟩, .inr ⟨pre ++ [x], ⟨rest, by simp [HX.out]⟩, hJx3⟩⟩

theorem keysK_stops (n : Nat) (hn : 1 ≤ n) (Bn : Nat) (Kp : World → World → Prop) (ad : Addr) (ls : List Sl) (cap : Nat) (ks : List K4) (hc : Chain (allOf ls) (ks.map (·.1))) (hl : ls.length ≤ 400) (hll : ∀ j (h : j < ls.length), ls[j].l.length ≤ maxLen)
    (hKL : ∀ A B, Kp A B → Lists A A.heap.size ad ls → Lists B B.heap.size ad ls) (hKB : ∀ A B, Kp A B → A.cell? ⟨Bn, 0, none⟩ = some (.slice (some ad) ls.length cap) → B.cell? ⟨Bn, 0, none⟩ = some (.slice (some ad) ls.length cap))
    (w : World) (hBn : w.cell? ⟨Bn, 0, none⟩ = some (.slice (some ad) ls.length cap)) (hL : Lists w w.heap.size ad ls) :
    SeqStopsK Fence.wide n Try.prog 85 #[.pointer (some ⟨Bn, 0, none⟩)] (fun x : K4 => #[Value.string x.1]) Kp (fun ys => ys = ks) (fun pre => pre <+: ks) ks.length w := fun l J Jx W hW hJ _ hY h0 =>
  keysK_in n hn l Bn Kp ad ls cap ks hc hl hll J Jx hY hKL hKB W (fun pre A B hj hb => hJ pre A B none hj ⟨hb.os, hb.tape, hb.output, hb.size, fun k hk _ => hb.block k hk⟩ (fun r e => by cases e))
    ((hW.cell (p := ⟨Bn, 0, none⟩) (cell_lt' hBn)).trans hBn) ((hL.below hW (Nat.le_refl _)).more hW.size) h0
end Go.Proofs.Ytoagdpbbojlgfaa.Dep
