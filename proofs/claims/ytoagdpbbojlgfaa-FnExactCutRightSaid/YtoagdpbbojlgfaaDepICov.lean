/-
  impl.Covers of any deps.
-/
import Derived.Test.YtoagdpbbojlgfaaDepIOf2
namespace Go.Proofs.Ytoagdpbbojlgfaa.Dep
open Go.ChangeShapes Go.WideShapes Go.ChangeAt Go.RowKit
set_option linter.unusedVariables false
set_option maxRecDepth 100000

theorem cell_lt' {w : World} {a : Addr} {v : Value} (h : w.cell? a = some v) : a.block < w.heap.size := by
  rcases Nat.lt_or_ge a.block w.heap.size with h' | h'
  · exact h'
  · simp [World.cell?, Array.getElem?_eq_none h'] at h
/-- A dep stands in a block of its own, and nothing below is written. -/
abbrev Four (w : World) (n : Nat) (d : D) (W : World) : Prop :=
  (W.cell? ⟨n, 0, none⟩ = some (.string d.k) ∧ W.cell? ⟨n, 1, none⟩ = some (.int .i64 d.i.c) ∧ W.cell? ⟨n, 2, none⟩ = some (.int .i64 d.i.s) ∧ W.cell? ⟨n, 3, none⟩ = some (.int .i64 d.i.e)) ∧ Below w.heap.size w W
theorem Four.step {w W W' : World} {n : Nat} {d : D} (h : Four w n d W) (hb : Below W.heap.size W W') : Four w n d W' := by
  have hn : n < W.heap.size := cell_lt' h.1.1
  exact ⟨⟨(hb.cell (p := ⟨n, 0, none⟩) hn).trans h.1.1, (hb.cell (p := ⟨n, 1, none⟩) hn).trans h.1.2.1, (hb.cell (p := ⟨n, 2, none⟩) hn).trans h.1.2.2.1, (hb.cell (p := ⟨n, 3, none⟩) hn).trans h.1.2.2.2⟩, h.2.trans (hb.mono h.2.size)⟩
theorem Four.drew {w W : World} {n : Nat} {d : D} (h : Four w n d W) : Four w n d W.drew := ⟨h.1, h.2.drew⟩

theorem implLessI_any (x y : I) (w : World) :
    Calls Try.prog 41 #[x.val, y.val] w fun e w' => e = .returned (.bool (x.less y)) ∧ Below w.heap.size w w' := Id.implLess_any x.c x.s x.e y.c y.s y.e w

set_option maxRecDepth 100000 in
theorem implCovers_any (A B : Option Addr) (a b : List D) (ca cb : Nat) (w : World) (ha : Lies w w.heap.size A a) (hb : Lies w w.heap.size B b) (hla : a.length ≤ maxLen) (hlb : b.length ≤ maxLen)
    (ka : ∀ d ∈ a, d.k.size ≤ maxLen) (kb : ∀ d ∈ b, d.k.size ≤ maxLen) :
    Calls Try.prog 30 #[slV A a ca, slV B b cb] w fun x w' => x = .returned (.bool (covB a b)) ∧ Below w.heap.size w w' := by
  have hl2 := hlb
  unfold maxLen at hl2
  have HA := Lib.hid (fun W (hW : Below w.heap.size w W) => implDeps_any A a ca W ((ha.below hW (Nat.le_refl _)).more hW.size) hla ka)
  have HB := Lib.hid (fun W (hW : Below w.heap.size w W) => implDeps_any B b cb W ((hb.below hW (Nat.le_refl _)).more hW.size) hlb kb)
  have HC := Lib.hid (fun (q : ByteArray) (W : World) (hW : Below w.heap.size w W) => implAt_any A a ca q W ((ha.below hW (Nat.le_refl _)).more hW.size) hla)
  have H := Lib.hid hb
  clear ha hb ka kb
  cases hda : depsB a
  · have HV : Hid (covB a b = false) := by exact Lib.hid (by unfold covB; rw [hda]; rfl)
    rw [hda] at HA
    clear hda
    unfold slV at HA ⊢
    go_enter Try.func30, Try.ntmps30
    go_wp2_with fail
    refine (HA.out _ (Below.refl _ _)).mono ?_
    rintro x w1 ⟨rfl, hb⟩
    have H1 := Lib.hid hb
    clear hb
    go_wp2_with fail
    go_ret
    exact ⟨by rw [HV.out]; rfl, H1.out⟩
  cases hdb : depsB b
  · have HV : Hid (covB a b = false) := by exact Lib.hid (by unfold covB; rw [hda, hdb]; rfl)
    rw [hda] at HA
    rw [hdb] at HB
    clear hda hdb
    unfold slV at HA HB ⊢
    go_enter Try.func30, Try.ntmps30
    go_wp2_with fail
    refine (HA.out _ (Below.refl _ _)).mono ?_
    rintro x w1 ⟨rfl, hb⟩
    have H1 := Lib.hid hb
    clear hb
    go_wp2_with fail
    refine (HB.out _ H1.out).mono ?_
    rintro x w2 ⟨rfl, hb⟩
    have H2 := Lib.hid (H1.out.trans (hb.mono H1.out.size))
    clear hb
    go_wp2_with fail
    go_ret
    exact ⟨by rw [HV.out]; rfl, H2.out⟩
  have HV : Hid (covB a b = coversB a b) := by exact Lib.hid (by unfold covB; rw [hda, hdb]; rfl)
  rw [hda] at HA
  rw [hdb] at HB
  clear hda hdb
  unfold slV at HA HB HC ⊢
  go_enter Try.func30, Try.ntmps30
  go_wp2_with fail
  refine (HA.out _ (Below.refl _ _)).mono ?_
  rintro x w1 ⟨rfl, hb⟩
  have H1 := Lib.hid hb
  clear hb
  go_wp2_with fail
  refine (HB.out _ H1.out).mono ?_
  rintro x w2 ⟨rfl, hb⟩
  have H2 := Lib.hid (H1.out.trans (hb.mono H1.out.size))
  clear hb HA HB
  go_wp2_with fail
  go_loopw [17] (fun i wr => ∃ k : Nat, k ≤ b.length ∧ i = .int .i64 k ∧ Hid ((∀ j (hj : j < b.length), j < k → (ofV a b[j].k).less b[j].i = false) ∧ Below w.heap.size w wr)) (fun i _ => b.length - (intOf i).toNat)
  case atStart => exact ⟨0, by omega, rfl, Lib.hid ⟨fun j hj hjk => absurd hjk (by omega), H2.out⟩⟩
  case round =>
    obtain ⟨k, hk, rfl, HR⟩ := hrel
    by_cases hlt : k < b.length
    · obtain ⟨ad, rfl, _, c0, c1, c2, c3⟩ := (H.out.below HR.out.2 (Nat.le_refl _)).at_ hlt
      obtain ⟨y, hy⟩ : ∃ y, b[k] = y := ⟨_, rfl⟩
      have HY := Lib.hid hy
      rw [hy] at c0 c1 c2 c3
      clear hy
      obtain ⟨t, ht⟩ : ∃ t, (ofV a y.k).less y.i = t := ⟨_, rfl⟩
      have HT := Lib.hid ht
      clear ht
      have hst : Four w wr.heap.size y (wr.alloc y.obj) := ⟨(DepRow.new wr 63 y.k y.i.c y.i.s y.i.e).cells, HR.out.2.alloc HR.out.2.size _⟩
      go_wp2_with fail
      generalize World.alloc wr _ = W1 at hst ⊢
      generalize wr.heap.size = n at hst ⊢
      go_region_held3 (fun W => (W.cell? ⟨n, 0, none⟩ = some (.string y.k) ∧ W.cell? ⟨n, 1, none⟩ = some (.int .i64 y.i.c) ∧ W.cell? ⟨n, 2, none⟩ = some (.int .i64 y.i.s) ∧ W.cell? ⟨n, 3, none⟩ = some (.int .i64 y.i.e)) ∧ Below w.heap.size w W)
        (first | exact Four.drew (by assumption) | exact Four.step (by assumption) hb)
        (first | (go_at_call 42; refine (HC.out y.k _ (And.right (by assumption))).mono ?_; rintro x w' ⟨rfl, hb⟩) | (go_at_call 41; refine (implLessI_any (ofV a y.k) y.i _).mono ?_; rintro x w' ⟨rfl, hb⟩; rw [HT.out]))
      have hend : Four w n y w' := by assumption
      have HE := Lib.hid hend.2
      clear hend hst c0 c1 c2 c3
      cases t
      · go_wp2_with fail
        go_roundw
        case rel =>
          refine ⟨k + 1, by omega, by go_num, Lib.hid ⟨fun j hj hjk => ?_, HE.out⟩⟩
          by_cases e : j = k
          · subst e; rw [HY.out]; exact HT.out
          · exact HR.out.1 j hj (by omega)
        case measure => simp [intOf]; omega
      · go_wp2_with fail
        go_ret
        rw [HV.out]
        refine ⟨Key.ret_bool ?_, HE.out⟩
        cases hc : coversB a b
        · rfl
        · exact absurd (by rw [HY.out]; exact HT.out) ((covers_iff a b).1 hc b[k] (List.getElem_mem hlt))
    · go_wp2_with fail
      go_ret
      rw [HV.out]
      refine ⟨Key.ret_bool ?_, HR.out.2⟩
      refine ((covers_iff a b).2 fun d hd => ?_).symm
      obtain ⟨j, hj, rfl⟩ := List.getElem_of_mem hd
      rw [HR.out.1 j hj (by omega)]
      exact Bool.false_ne_true
end Go.Proofs.Ytoagdpbbojlgfaa.Dep
