/-
  spec.l03Covers, spec.Covers, spec.DepOf at right deps and others.
-/
import Derived.Test.YtoagdpbbojlgfaaDepRight
namespace Go.Proofs.Ytoagdpbbojlgfaa.Dep
open Go.ChangeShapes Go.WideShapes Go.ChangeAt Go.RowKit
set_option linter.unusedVariables false
set_option maxRecDepth 100000

theorem specLessI_any (x y : I) (w : World) :
    Calls Try.prog 18 #[x.val, y.val] w fun e w' => e = .returned (.bool (x.less y)) ∧ Below w.heap.size w w' := Id.specLess_any x.c x.s x.e y.c y.s y.e w

theorem specCov_any (A B : Option Addr) (a b : List D) (ca cb : Nat) (w : World) (ha : Lies w w.heap.size A a) (hb : Lies w w.heap.size B b) (hla : a.length ≤ maxLen) (hlb : b.length ≤ maxLen) :
    Calls Try.prog 26 #[slV A a ca, slV B b cb] w fun x w' => x = .returned (.bool (coversB a b)) ∧ Below w.heap.size w w' := by
  have hl2 := hlb
  unfold maxLen at hl2
  have HC := Lib.hid (fun (q : ByteArray) (p : Addr) (d : D) (W : World) (hW : One w p d W) => specOf_any A a ca q W ((ha.below hW.2 (Nat.le_refl _)).more hW.2.size) hla)
  have HB := Lib.hid hb
  clear ha hb
  unfold slV at HC ⊢
  go_enter Try.func26, Try.ntmps26
  go_wp2_with fail
  go_loopw [5] (fun i wr => ∃ k : Nat, k ≤ b.length ∧ i = .int .i64 k ∧ Hid ((∀ j (hj : j < b.length), j < k → (ofV a b[j].k).less b[j].i = false) ∧ Below w.heap.size w wr)) (fun i _ => b.length - (intOf i).toNat)
  case atStart => exact ⟨0, by omega, rfl, Lib.hid ⟨fun j hj hjk => absurd hjk (by omega), Below.refl _ _⟩⟩
  case round =>
    obtain ⟨k, hk, rfl, HR⟩ := hrel
    by_cases hlt : k < b.length
    · obtain ⟨ad, rfl, _, hat⟩ := (HB.out.below HR.out.2 (Nat.le_refl _)).at_ hlt
      have hst : One w (ad.add (k * 4)) b[k] wr := ⟨hat, HR.out.2⟩
      clear hat
      obtain ⟨y, hy⟩ : ∃ y, b[k] = y := ⟨_, rfl⟩
      have HY := Lib.hid hy
      rw [hy] at hst
      clear hy
      obtain ⟨t, ht⟩ : ∃ t, (ofV a y.k).less y.i = t := ⟨_, rfl⟩
      have HT := Lib.hid ht
      clear ht
      go_wp2_with fail
      go_region_held3 (fun W => At W (ad.add (k * 4)) y ∧ Below w.heap.size w W)
        (first | exact One.drew (by assumption) | exact One.step (by assumption) hb)
        (first | (go_at_call 19; refine (HC.out y.k (ad.add (k * 4)) y _ (by assumption)).mono ?_; rintro x w' ⟨rfl, hb⟩) | (go_at_call 18; refine (specLessI_any (ofV a y.k) y.i _).mono ?_; rintro x w' ⟨rfl, hb⟩; rw [HT.out]))
      have hend : One w (ad.add (k * 4)) y w' := by assumption
      have HE := Lib.hid hend.2
      clear hend hst
      cases t
      · go_wp2_with fail
        go_roundw
        case rel =>
          refine ⟨k + 1, by omega, by go_num, Lib.hid ⟨fun j hj hjk => ?_, HE.out⟩⟩
          by_cases e : j = k
          · subst e; rw [HY.out]; exact HT.out
          · exact HR.out.1 j hj (by omega)
        case measure => simp [intOf]; omega
      · go_wp2_with fail
        go_ret
        refine ⟨Key.ret_bool ?_, HE.out⟩
        cases hc : coversB a b
        · rfl
        · exact absurd (by rw [HY.out]; exact HT.out) ((covers_iff a b).1 hc b[k] (List.getElem_mem hlt))
    · go_wp2_with fail
      go_ret
      refine ⟨Key.ret_bool ?_, HR.out.2⟩
      refine ((covers_iff a b).2 fun d hd => ?_).symm
      obtain ⟨j, hj, rfl⟩ := List.getElem_of_mem hd
      rw [HR.out.1 j hj (by omega)]
      exact Bool.false_ne_true
end Go.Proofs.Ytoagdpbbojlgfaa.Dep
