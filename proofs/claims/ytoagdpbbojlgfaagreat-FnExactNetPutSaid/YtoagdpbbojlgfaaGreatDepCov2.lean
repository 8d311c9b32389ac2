/-
  spec.Covers and spec.DepOf of any deps.
-/
import Derived.Test.YtoagdpbbojlgfaaGreatDepCov
namespace Go.Proofs.YtoagdpbbojlgfaaGreat.Dep
open Go.ChangeShapes Go.WideShapes Go.ChangeAt Go.RowKit
set_option linter.unusedVariables false
set_option maxRecDepth 100000

noncomputable def covB (a b : List D) : Bool := depsB a && depsB b && coversB a b
noncomputable def depOf (l : List D) (q : ByteArray) : I := if depsB l = true then ofV l q else zero

theorem specCovers_any (A B : Option Addr) (a b : List D) (ca cb : Nat) (w : World) (ha : Lies w w.heap.size A a) (hb : Lies w w.heap.size B b) (hla : a.length ≤ maxLen) (hlb : b.length ≤ maxLen)
    (ka : ∀ d ∈ a, d.k.size ≤ maxLen) (kb : ∀ d ∈ b, d.k.size ≤ maxLen) :
    Calls Tryz.prog 62 #[slV A a ca, slV B b cb] w fun x w' => x = .returned (.bool (covB a b)) ∧ Below w.heap.size w w' := by
  have HA := Lib.hid (fun W (hW : Below w.heap.size w W) => specDeps_any A a ca W ((ha.below hW (Nat.le_refl _)).more hW.size) hla ka)
  have HB := Lib.hid (fun W (hW : Below w.heap.size w W) => specDeps_any B b cb W ((hb.below hW (Nat.le_refl _)).more hW.size) hlb kb)
  have HC := Lib.hid (fun W (hW : Below w.heap.size w W) => specCov_any A B a b ca cb W ((ha.below hW (Nat.le_refl _)).more hW.size) ((hb.below hW (Nat.le_refl _)).more hW.size) hla hlb)
  clear ha hb ka kb
  unfold covB
  generalize depsB a = x at HA ⊢
  generalize depsB b = y at HB ⊢
  generalize coversB a b = z at HC ⊢
  unfold slV at HA HB HC ⊢
  cases x
  · go_enter Tryz.func62, Tryz.ntmps62
    go_wp2_with fail
    refine (HA.out _ (Below.refl _ _)).mono ?_
    rintro x w1 ⟨rfl, hb⟩
    have H1 := Lib.hid hb
    clear hb
    go_wp2_with fail
    go_ret
    exact ⟨rfl, H1.out⟩
  · cases y
    · go_enter Tryz.func62, Tryz.ntmps62
      go_wp2_with fail
      refine (HA.out _ (Below.refl _ _)).mono ?_
      rintro x w1 ⟨rfl, hb⟩
      have H1 := Lib.hid hb
      clear hb
      go_wp2_with fail
      refine (HB.out _ H1.out).mono ?_
      rintro x w2 ⟨rfl, hb⟩
      have H2 := Lib.hid (H1.out.trans (hb.mono H1.out.size))
      clear hb
      go_wp2_with fail
      go_ret
      exact ⟨rfl, H2.out⟩
    · go_enter Tryz.func62, Tryz.ntmps62
      go_wp2_with fail
      refine (HA.out _ (Below.refl _ _)).mono ?_
      rintro x w1 ⟨rfl, hb⟩
      have H1 := Lib.hid hb
      clear hb
      go_wp2_with fail
      refine (HB.out _ H1.out).mono ?_
      rintro x w2 ⟨rfl, hb⟩
      have H2 := Lib.hid (H1.out.trans (hb.mono H1.out.size))
      clear hb
      go_wp2_with fail
      refine (HC.out _ H2.out).mono ?_
      rintro x w3 ⟨rfl, hb⟩
      have H3 := Lib.hid (H2.out.trans (hb.mono H2.out.size))
      clear hb
      go_wp2_with fail
      go_ret
      exact ⟨rfl, H3.out⟩

end Go.Proofs.YtoagdpbbojlgfaaGreat.Dep
