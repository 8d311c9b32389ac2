/-
  spec.Covers and spec.DepOf of any deps.
-/
import Derived.Test.YtkmlnibkdcdegaaDepCov
namespace Go.Proofs.Ytkmlnibkdcdegaa.Dep
open Go.ChangeShapes Go.WideShapes Go.ChangeAt Go.RowKit
set_option linter.unusedVariables false
set_option maxRecDepth 100000

noncomputable def covB (a b : List D) : Bool := depsB a && depsB b && coversB a b
noncomputable def depOf (l : List D) (q : ByteArray) : I := if depsB l = true then ofV l q else zero

theorem specCovers_any (A B : Option Addr) (a b : List D) (ca cb : Nat) (w : World) (ha : Lies w w.heap.size A a) (hb : Lies w w.heap.size B b) (hla : a.length ≤ maxLen) (hlb : b.length ≤ maxLen)
    (ka : ∀ d ∈ a, d.k.size ≤ maxLen) (kb : ∀ d ∈ b, d.k.size ≤ maxLen) :
    Calls Try.prog 17 #[slV A a ca, slV B b cb] w fun x w' => x = .returned (.bool (covB a b)) ∧ Below w.heap.size w w' := by
  have HA := Lib.hid (fun W (hW : Below w.heap.size w W) => specDeps_any A a ca W ((ha.below hW (Nat.le_refl _)).more hW.size) hla ka)
  have HB := Lib.hid (fun W (hW : Below w.heap.size w W) => specDeps_any B b cb W ((hb.below hW (Nat.le_refl _)).more hW.size) hlb kb)
  have HC := Lib.hid (fun W (hW : Below w.heap.size w W) => specCov_any A B a b ca cb W ((ha.below hW (Nat.le_refl _)).more hW.size) ((hb.below hW (Nat.le_refl _)).more hW.size) hla hlb)
  clear ha hb ka kb
  unfold covB
  generalize depsB a = x at HA ⊢
  generalize depsB b = y at HB ⊢
  generalize coversB a b = z at HC ⊢
  unfold slV at HA HB HC ⊢
  cases x
  · go_enter Try.func17, Try.ntmps17
    go_wp2_with fail
    refine (HA.out _ (Below.refl _ _)).mono ?_
    rintro x w1 ⟨rfl, hb⟩
    have H1 := Lib.hid hb
    clear hb
    go_wp2_with fail
    go_ret
    exact ⟨rfl, H1.out⟩
  · cases y
    · go_enter Try.func17, Try.ntmps17
      go_wp2_with fail
      refine (HA.out _ (Below.refl _ _)).mono ?_
      rintro x w1 ⟨rfl, hb⟩
      have H1 := Lib.hid hb
      clear hb
      go_wp2_with fail
      refine (HB.out _ H1.out).mono ?_
      rintro x w2 ⟨rfl, hb⟩
      have H2 := Lib.hid (H1.out.trans (hb.mono H1.out.size))
      clear hb
      go_wp2_with fail
      go_ret
      exact ⟨rfl, H2.out⟩
    · go_enter Try.func17, Try.ntmps17
      go_wp2_with fail
      refine (HA.out _ (Below.refl _ _)).mono ?_
      rintro x w1 ⟨rfl, hb⟩
      have H1 := Lib.hid hb
      clear hb
      go_wp2_with fail
      refine (HB.out _ H1.out).mono ?_
      rintro x w2 ⟨rfl, hb⟩
      have H2 := Lib.hid (H1.out.trans (hb.mono H1.out.size))
      clear hb
      go_wp2_with fail
      refine (HC.out _ H2.out).mono ?_
      rintro x w3 ⟨rfl, hb⟩
      have H3 := Lib.hid (H2.out.trans (hb.mono H2.out.size))
      clear hb
      go_wp2_with fail
      go_ret
      exact ⟨rfl, H3.out⟩

theorem specDepOf_any (A : Option Addr) (l : List D) (cap : Nat) (q : ByteArray) (w : World) (h : Lies w w.heap.size A l) (hl : l.length ≤ maxLen) (hk : ∀ d ∈ l, d.k.size ≤ maxLen) :
    Calls Try.prog 19 #[slV A l cap, .string q] w fun e w' => e = .returned (depOf l q).val ∧ Below w.heap.size w w' := by
  have HA := Lib.hid (fun W (hW : Below w.heap.size w W) => specDeps_any A l cap W ((h.below hW (Nat.le_refl _)).more hW.size) hl hk)
  have HO := Lib.hid (fun W (hW : Below w.heap.size w W) => specOf_any A l cap q W ((h.below hW (Nat.le_refl _)).more hW.size) hl)
  clear h hk
  unfold depOf
  generalize depsB l = x at HA ⊢
  generalize ofV l q = v at HO ⊢
  unfold slV at HA HO ⊢
  cases x
  all_goals
    go_enter Try.func19, Try.ntmps19
    go_wp2_with fail
    have B1 := (Below.refl w.heap.size w).alloc (Nat.le_refl _) (Obj.cells #[Value.int IntKind.i64 0, Value.int IntKind.i64 0, Value.int IntKind.i64 0] 30)
    have r := Id.IdRow.new w 30 0 0 0
    generalize hb : w.heap.size = b at *
    generalize World.alloc w _ = W at *
    refine (HA.out _ B1).mono ?_
    rintro x w1 ⟨rfl, hb1⟩
    have r1 := r.step hb1 r.lt
    have H1 := Lib.hid (B1.trans (hb1.mono (by have := B1.size; omega)))
    have R1 := Lib.hid r1
    clear hb1 r B1
    obtain ⟨c0, c1, c2⟩ := r1.cells
    have f0 := Id.id_free (Below.refl _ _) r1.lt r1 0
    have f1 := Id.id_free (Below.refl _ _) r1.lt r1 1
    have f2 := Id.id_free (Below.refl _ _) r1.lt r1 2
    clear r1
    go_wp2_with fail
  · refine bodyPost_ret (v := Id.idV 0 0 0) (by simp [results, Try.results19, go_sem, c0, c1, c2, Id.idV]) rfl ⟨rfl, ?_⟩
    exact ((H1.out.setCell (Nat.le_refl _) _).setCell (Nat.le_refl _) _).setCell (Nat.le_refl _) _
  · refine (HO.out _ H1.out).mono ?_
    rintro x w2 ⟨rfl, hb2⟩
    have r2 := R1.out.step hb2 R1.out.lt
    have H2 := Lib.hid (H1.out.trans (hb2.mono (by have := H1.out.size; omega)))
    clear hb2 c0 c1 c2 f0 f1 f2
    obtain ⟨c0, c1, c2⟩ := r2.cells
    have f0 := Id.id_free (Below.refl _ _) r2.lt r2 0
    have f1 := Id.id_free (Below.refl _ _) r2.lt r2 1
    have f2 := Id.id_free (Below.refl _ _) r2.lt r2 2
    clear r2
    unfold I.val Id.idV
    go_wp2_with fail
    refine bodyPost_ret (v := Id.idV v.c v.s v.e) (by simp [results, Try.results19, go_sem, c0, c1, c2, Id.idV]) rfl ⟨rfl, ?_⟩
    exact ((H2.out.setCell (Nat.le_refl _) _).setCell (Nat.le_refl _) _).setCell (Nat.le_refl _) _
end Go.Proofs.Ytkmlnibkdcdegaa.Dep
