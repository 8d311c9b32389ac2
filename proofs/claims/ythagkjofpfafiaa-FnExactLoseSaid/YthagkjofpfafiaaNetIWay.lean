/-
  impl.isPlace, impl.isWay, impl.mailRight.
-/
import Derived.Test.YthagkjofpfafiaaNetMath
import Derived.Test.YthagkjofpfafiaaNetTo
namespace Go.Proofs.Ythagkjofpfafiaa.Net
open Go.ChangeShapes Go.WideShapes Go.ChangeAt Go.RowKit
open Sto (R Sl)
set_option linter.unusedVariables false
set_option maxRecDepth 100000
set_option linter.unusedSimpArgs false

theorem placeS_any (A : Option Addr) (k c : Nat) (i : Int) (w : World) (hl : k ≤ 1048576) :
    Calls Try.prog 68 #[.slice A k c, .int .i64 i] w fun e w' => e = .returned (.bool (place k i)) ∧ w = w' := by
  unfold place
  go_enter Try.func68, Try.ntmps68
  go_wp2_with (go_at_call 32; refine (Id.within_any _ _ _ _).mono ?_; rintro e w' ⟨rfl, rfl⟩)
  go_ret
  exact ⟨rfl, rfl⟩
theorem placeM_any (A : Option Addr) (k c : Nat) (i : Int) (w : World) (hl : k ≤ 1048576) :
    Calls Try.prog 71 #[.slice A k c, .int .i64 i] w fun e w' => e = .returned (.bool (place k i)) ∧ w = w' := by
  unfold place
  go_enter Try.func71, Try.ntmps71
  go_wp2_with (go_at_call 32; refine (Id.within_any _ _ _ _).mono ?_; rintro e w' ⟨rfl, rfl⟩)
  go_ret
  exact ⟨rfl, rfl⟩

theorem isWay_any (n : Nt) (f t : Int) (w : World) (hl : n.s.length ≤ 1048576) :
    Calls Try.prog 44 #[n.val, .int .i64 f, .int .i64 t] w fun e w' => e = .returned (.bool (way n.s.length f t)) ∧ Below w.heap.size w w' := by
  have HP := Lib.hid (fun (i : Int) W => placeS_any n.A n.s.length n.ca i W hl)
  have HB := Lib.hid ((Below.refl w.heap.size w).alloc (Nat.le_refl _) (Obj.cells #[.slice n.A n.s.length n.ca, .slice n.B n.m.length n.cb] 31))
  unfold Nt.val way
  cases hf : place n.s.length f
  · have HF := Lib.hid hf
    clear hf
    go_enter Try.func44, Try.ntmps44
    go_wp2_with fail
    refine (HP.out f _).mono ?_
    rintro e w' ⟨rfl, rfl⟩
    rw [HF.out]
    go_wp2_with fail
    go_ret
    exact ⟨rfl, HB.out⟩
  · have HF := Lib.hid hf
    clear hf
    cases ht : place n.s.length t
    · have HT := Lib.hid ht
      clear ht
      go_enter Try.func44, Try.ntmps44
      go_wp2_with fail
      refine (HP.out f _).mono ?_
      rintro e w' ⟨rfl, rfl⟩
      rw [HF.out]
      go_wp2_with fail
      refine (HP.out t _).mono ?_
      rintro e w' ⟨rfl, rfl⟩
      rw [HT.out]
      go_wp2_with fail
      go_ret
      exact ⟨rfl, HB.out⟩
    · have HT := Lib.hid ht
      clear ht
      go_enter Try.func44, Try.ntmps44
      go_wp2_with fail
      refine (HP.out f _).mono ?_
      rintro e w' ⟨rfl, rfl⟩
      rw [HF.out]
      go_wp2_with fail
      refine (HP.out t _).mono ?_
      rintro e w' ⟨rfl, rfl⟩
      rw [HT.out]
      go_wp2_with fail
      go_ret
      exact ⟨show Ending.returned (Value.bool (f != t)) = Ending.returned (Value.bool (true && true && !(f == t))) by simp [bne], HB.out⟩

/-- Are the letters few enough, and is each one between two places? -/
def mailOk (k : Nat) (m : List Ml) : Bool := decide (m.length ≤ 40) && m.all fun y => way k y.f y.t

set_option maxHeartbeats 1000000 in
set_option maxRecDepth 100000 in
theorem mailRight_any (n : Nt) (w : World) (h : NLies w w.heap.size n) (hl : n.s.length ≤ 1048576) (hm : n.m.length ≤ 1048576) :
    Calls Try.prog 33 #[n.val] w fun e w' => e = .returned (.bool (mailOk n.s.length n.m)) ∧ Below w.heap.size w w' := by
  have HW := Lib.hid (fun (f t : Int) W => isWay_any n f t W hl)
  obtain ⟨A, s, ca, B, m, cb⟩ := n
  have HM := Lib.hid h.2
  clear h
  simp only at hl hm
  unfold Nt.val at HW ⊢
  simp only at HW HM ⊢
  have HB0 := Lib.hid ((Below.refl w.heap.size w).alloc (Nat.le_refl _) (Obj.cells #[.slice A s.length ca, .slice B m.length cb] 31))
  have HP0 := Lib.hid (Blk.new w 31 #[.slice A s.length ca, .slice B m.length cb])
  by_cases h3 : 40 < m.length
  · have HV := Lib.hid (show mailOk s.length m = false by unfold mailOk; rw [decide_eq_false (by omega)]; rfl)
    rw [HV.out]
    go_enter Try.func33, Try.ntmps33
    go_wp2_with fail
    go_ret
    exact ⟨rfl, HB0.out⟩
  have HV1 := Lib.hid (show ∀ y ∈ m, way s.length y.f y.t = false → mailOk s.length m = false from fun y hy hw => by
    unfold mailOk
    rw [Bool.and_eq_false_iff]; right
    rw [List.all_eq_false]
    exact ⟨y, hy, by rw [hw]; decide⟩)
  have HV2 := Lib.hid (show (∀ y ∈ m, way s.length y.f y.t = true) → mailOk s.length m = true from fun hw => by
    unfold mailOk
    rw [decide_eq_true (by omega), Bool.true_and, List.all_eq_true]
    exact hw)
  go_enter Try.func33, Try.ntmps33
  go_wp2_with fail
  go_loopw [12] (fun i wr => ∃ k : Nat, k ≤ m.length ∧ i = .int .i64 k ∧ Hid ((∀ j (hj : j < m.length), j < k → way s.length m[j].f m[j].t = true) ∧ Blk wr w.heap.size 31 #[.slice A s.length ca, .slice B m.length cb] ∧ Below w.heap.size w wr)) (fun i _ => m.length - (intOf i).toNat)
  case atStart => exact ⟨0, by omega, rfl, Lib.hid ⟨fun j hj hjk => absurd hjk (by omega), HP0.out, HB0.out⟩⟩
  case round =>
    obtain ⟨k, hk, rfl, HR⟩ := hrel
    by_cases hlt : k < m.length
    · have hmem := List.getElem_mem hlt
      obtain ⟨sd, rfl, _, ⟨c0, c1, c2⟩, -⟩ := (HM.out.below HR.out.2.2 (Nat.le_refl _)).at_ hlt
      have HMEM := Lib.hid hmem
      have HSX := Lib.hid (show ∀ j (hj : j < m.length), j = k → m[j] = m[k] from fun j hj e => by subst e; rfl)
      clear hmem
      obtain ⟨y, hy⟩ : ∃ y, m[k] = y := ⟨_, rfl⟩
      rw [hy] at c0 c1 c2 HMEM HSX
      clear hy
      obtain ⟨yf, yt, yA, yl, yc⟩ := y
      simp only at c0 c1 c2
      have BW := Lib.hid (HR.out.2.2.alloc HR.out.2.2.size (Obj.cells #[.int .i64 yf, .int .i64 yt, .slice yA yl.length yc] 51))
      have PB := Lib.hid (HR.out.2.1.alloc (Obj.cells #[.int .i64 yf, .int .i64 yt, .slice yA yl.length yc] 51))
      have HGD := Lib.hid HR.out.1
      clear HR
      obtain ⟨q0, q1⟩ := blk2 PB.out
      cases hw : way s.length yf yt
      · have HWW := Lib.hid hw
        clear hw
        go_wp2_with fail
        refine (HW.out yf yt _).mono ?_
        rintro e w1 ⟨rfl, hb⟩
        rw [HWW.out]
        have HB1 := Lib.hid (BW.out.trans (hb.mono BW.out.size))
        clear hb q0 q1 c0 c1 c2
        go_wp2_with fail
        go_ret
        exact ⟨by rw [HV1.out _ HMEM.out HWW.out]; rfl, HB1.out⟩
      · have HWW := Lib.hid hw
        clear hw
        go_wp2_with fail
        refine (HW.out yf yt _).mono ?_
        rintro e w1 ⟨rfl, hb⟩
        rw [HWW.out]
        have HB1 := Lib.hid (BW.out.trans (hb.mono BW.out.size))
        have PB1 := Lib.hid (PB.out.on hb)
        clear hb q0 q1 c0 c1 c2
        go_wp2_with fail
        go_roundw
        case rel =>
          refine ⟨k + 1, by omega, by go_num, Lib.hid ⟨fun j hj hjk => ?_, PB1.out, HB1.out⟩⟩
          by_cases e : j = k
          · rw [HSX.out j hj e]; exact HWW.out
          · exact HGD.out j hj (by omega)
        case measure => simp [intOf]; omega
    · have HE := Lib.hid (HV2.out fun y hy => by
        obtain ⟨j, hj, rfl⟩ := List.getElem_of_mem hy
        exact HR.out.1 j hj (by omega))
      go_wp2_with fail
      go_ret
      exact ⟨by rw [HE.out]; rfl, HR.out.2.2⟩
end Go.Proofs.Ythagkjofpfafiaa.Net
