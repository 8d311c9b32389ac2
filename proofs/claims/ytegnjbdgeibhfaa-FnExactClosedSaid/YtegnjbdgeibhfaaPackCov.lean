/-
  Several texts in one: DepIRight, DepClock, DepCov, DepCov2, DepIOf2, DepICov.
-/
import Derived.Test.YtegnjbdgeibhfaaPackDep
import Derived.Test.YtegnjbdgeibhfaaDepRight
/-
  impl.DepsRight answers whether a slice reads as right deps.
-/
namespace Go.Proofs.Ytegnjbdgeibhfaa.Dep
open Go.ChangeShapes Go.WideShapes Go.ChangeAt Go.RowKit
set_option linter.unusedVariables false
set_option maxRecDepth 100000

theorem binOp_string_leq_dep (t : TypeId) (a b : ByteArray) : binOp .leq t (.string a) (.string b) = pure (.bool !(Op.bytesLess b.toList a.toList)) := by
  have h : (Op.bytesLess a.toList b.toList || a.toList == b.toList) = !(Op.bytesLess b.toList a.toList) := by
    rw [bytesLess_eq, bytesLess_eq, ByteArray.toList_eq, ByteArray.toList_eq]
    by_cases h1 : a.data.toList < b.data.toList
    · have h2 : ¬ b.data.toList < a.data.toList := fun h2 => List.lt_irrefl _ (List.lt_trans h1 h2)
      simp [h1, h2]
    · by_cases h2 : b.data.toList < a.data.toList
      · have h3 : (a.data.toList == b.data.toList) = false := beq_eq_false_iff_ne.2 fun e => by rw [e] at h2; exact List.lt_irrefl _ h2
        rw [h3]
        simp [h1, h2]
      · have h3 : (a.data.toList == b.data.toList) = true := beq_iff_eq.2 (List.le_antisymm h2 h1)
        rw [h3]
        simp [h2]
  simp [binOp, Op.stringOp, h]
attribute [local go_sem] binOp_string_leq_dep

theorem kl_empty {x : ByteArray} (h : Key.keyB x = true) : kl ⟨#[]⟩ x = true := by
  have h1 := (Key.ok_of h).1
  rw [kl_iff]
  cases hx : x.data.toList with
  | nil =>
    have : x.size = 0 := by rw [← ByteArray.size_data, ← Array.length_toList, hx]; rfl
    omega
  | cons a l => exact List.nil_lt_cons _ _
/-- The key ahead. -/
def Ahead (l : List D) (k : Nat) (q : ByteArray) : Prop := (k = 0 → q = ⟨#[]⟩) ∧ ∀ j (hj : j < l.length), k = j + 1 → q = l[j].k
theorem Ahead.not_ok {l : List D} {k : Nat} {q : ByteArray} (h : Ahead l k q) (hk : k < l.length) (hl : kl q l[k].k = false) : depsB l = false := by
  rcases Nat.eq_zero_or_pos k with e | e
  · subst e
    rw [h.1 rfl] at hl
    cases hq : Key.keyB l[0].k
    · exact not_ok_key hk hq
    · rw [kl_empty hq] at hl; cases hl
  · obtain ⟨j, rfl⟩ : ∃ j, k = j + 1 := ⟨k - 1, by omega⟩
    rw [h.2 j (by omega) rfl] at hl
    exact not_ok_less hk hl
theorem SoFar.one {l : List D} {k : Nat} {q : ByteArray} (h : SoFar l k) (hq : Ahead l k q) (hk : k < l.length) (h1 : Key.keyB l[k].k = true) (h2 : l[k].i.right = true) (h3 : kl q l[k].k = true) : SoFar l (k + 1) := by
  rcases Nat.eq_zero_or_pos k with e | e
  · subst e; exact h.first hk h1 h2
  · obtain ⟨j, rfl⟩ : ∃ j, k = j + 1 := ⟨k - 1, by omega⟩
    rw [hq.2 j (by omega) rfl] at h3
    exact h.next hk h1 h2 h3

set_option maxRecDepth 100000 in
theorem implDeps_any (A : Option Addr) (l : List D) (cap : Nat) (w : World) (h : Lies w w.heap.size A l) (hl : l.length ≤ maxLen) (hk : ∀ d ∈ l, d.k.size ≤ maxLen) :
    Calls Try.prog 59 #[slV A l cap] w fun x w' => x = .returned (.bool (depsB l)) ∧ Below w.heap.size w w' := by
  have hl2 := hl
  unfold maxLen at hl2
  unfold slV
  by_cases h6 : 6 < l.length
  · go_enter Try.func59, Try.ntmps59
    go_wp2_with fail
    go_ret
    exact ⟨Key.ret_bool (depsB_false fun ho => by have := ho.1; omega).symm, Below.refl _ _⟩
  have H := Lib.hid h
  have HK := Lib.hid hk
  clear h hk
  go_enter Try.func59, Try.ntmps59
  go_wp2_with fail
  go_loopw [3, 11] (fun q i wr => ∃ k : Nat, k ≤ l.length ∧ i = .int .i64 k ∧ ∃ p : ByteArray, q = .string p ∧ Hid (Ahead l k p ∧ SoFar l k ∧ Below w.heap.size w wr)) (fun _ i _ => l.length - (intOf i).toNat)
  case atStart => exact ⟨0, by omega, rfl, _, rfl, Lib.hid ⟨⟨fun _ => rfl, fun j hj e => absurd e (by omega)⟩, ⟨fun j hj hjk => absurd hjk (by omega), fun j hj hjk => absurd hjk (by omega)⟩, Below.refl _ _⟩⟩
  case round =>
    obtain ⟨k, hk, rfl, p, rfl, HR⟩ := hrel
    by_cases hlt : k < l.length
    · obtain ⟨ad, rfl, hb, c0, c1, c2, c3⟩ := (H.out.below HR.out.2.2 (Nat.le_refl _)).at_ hlt
      have hky := HK.out l[k] (List.getElem_mem hlt)
      obtain ⟨y, hy⟩ : ∃ y, l[k] = y := ⟨_, rfl⟩
      have HY := Lib.hid hy
      rw [hy] at c0 c1 c2 c3 hky
      clear hy hb
      have HB0 := Lib.hid (HR.out.2.2.alloc HR.out.2.2.size y.obj)
      cases hkk : Op.bytesLess p.toList y.k.toList
      · have HK1 := Lib.hid hkk
        go_wp2_with fail
        go_ret
        exact ⟨Key.ret_bool (HR.out.1.not_ok hlt (by rw [HY.out]; exact HK1.out)).symm, HB0.out⟩
      · have HK1 := Lib.hid hkk
        go_wp2_with fail
        refine (Key.implKey_any y.k _ hky).mono ?_
        rintro e w' ⟨rfl, rfl⟩
        cases hk2 : Key.keyB y.k
        · have HK2 := Lib.hid hk2
          clear hk2
          go_wp2_with fail
          go_ret
          exact ⟨Key.ret_bool (not_ok_key hlt (by rw [HY.out]; exact HK2.out)).symm, HB0.out⟩
        · have HK2 := Lib.hid hk2
          clear hk2
          go_wp2_with fail
          refine (Id.implRight_any y.i.c y.i.s y.i.e _).mono ?_
          rintro e w' ⟨rfl, hb1⟩
          have HB1 := Lib.hid (HB0.out.trans (hb1.mono HB0.out.size))
          have hD := (DepRow.new wr 80 y.k y.i.c y.i.s y.i.e).step hb1 (by simp)
          obtain ⟨d0, d1, d2, d3⟩ := hD.cells
          clear hD hb1 c0 c1 c2 c3
          cases hk3 : Id.rightB y.i.c y.i.s y.i.e
          · have HK3 := Lib.hid hk3
            clear hk3
            go_wp2_with fail
            go_ret
            exact ⟨Key.ret_bool (not_ok_id hlt (by rw [HY.out]; exact HK3.out)).symm, HB1.out⟩
          · have HK3 := Lib.hid hk3
            clear hk3
            go_wp2_with fail
            go_roundw
            case rel =>
              refine ⟨k + 1, by omega, by go_num, y.k, rfl, Lib.hid ⟨⟨fun e => absurd e (by omega), fun j hj e => ?_⟩, ?_, HB1.out⟩⟩
              · obtain rfl : j = k := by omega
                rw [HY.out]
              · exact HR.out.2.1.one HR.out.1 hlt (by rw [HY.out]; exact HK2.out) (by rw [HY.out]; exact HK3.out) (by rw [HY.out]; exact HK1.out)
            case measure => simp [intOf]; omega
    · go_wp2_with fail
      go_ret
      exact ⟨Key.ret_bool (HR.out.2.1.all (by omega) (by omega)).symm, HR.out.2.2⟩
end Go.Proofs.Ytegnjbdgeibhfaa.Dep

/-
  spec.ClockOf: the greatest clock of right deps, else 0.
-/
namespace Go.Proofs.Ytegnjbdgeibhfaa.Dep
open Go.ChangeShapes Go.WideShapes Go.ChangeAt Go.RowKit
set_option linter.unusedVariables false
set_option maxRecDepth 100000

def max2 (a b : Int) : Int := if a > b then a else b
noncomputable def clockB (l : List D) : Int := if depsB l = true then clockV l else 0
theorem clock_step (l : List D) (k : Nat) (h : k < l.length) : clockV (l.take (k + 1)) = max2 (clockV (l.take k)) l[k].i.c := by
  unfold clockV max2
  rw [show l.take (k + 1) = l.take k ++ [l[k]] by simp, List.foldl_append]
  rfl

theorem specMax_any (a b : Int) (w : World) : Calls Try.prog 102 #[.int .i64 a, .int .i64 b] w fun x w' => x = .returned (.int .i64 (max2 a b)) ∧ w = w' := by
  by_cases h : b < a
  · have e : max2 a b = a := if_pos h
    rw [e]
    go_enter Try.func102, Try.ntmps102
    go_wp2
    go_ret
    exact ⟨rfl, rfl⟩
  · have e : max2 a b = b := if_neg h
    rw [e]
    go_enter Try.func102, Try.ntmps102
    go_wp2
    go_ret
    exact ⟨rfl, rfl⟩

theorem specClock_any (A : Option Addr) (l : List D) (cap : Nat) (w : World) (h : Lies w w.heap.size A l) (hl : l.length ≤ maxLen) (hk : ∀ d ∈ l, d.k.size ≤ maxLen) :
    Calls Try.prog 84 #[slV A l cap] w fun x w' => x = .returned (.int .i64 (clockB l)) ∧ Below w.heap.size w w' := by
  have hl2 := hl
  unfold maxLen at hl2
  cases hd : depsB l
  · have HV : Hid (clockB l = 0) := by exact Lib.hid (by unfold clockB; rw [hd]; rfl)
    have HC := Lib.hid (fun W (hW : Lies W W.heap.size A l) => specDeps_any A l cap W hW hl hk)
    rw [hd] at HC
    clear hd
    unfold slV
    have H := Lib.hid h
    clear h
    unfold slV at HC
    by_cases h0 : 0 < l.length
    · go_enter Try.func84, Try.ntmps84
      go_wp2_with fail
      go_loopw [3, 4] (fun n i wr => n = .int .i64 0 ∧ i = .int .i64 0 ∧ Hid (Below w.heap.size w wr)) (fun _ _ _ => 0)
      case atStart => exact ⟨rfl, rfl, Lib.hid (Below.refl _ _)⟩
      case round =>
        obtain ⟨rfl, rfl, HR⟩ := hrel
        have h00 : (0 : Int) < l.length := by omega
        go_wp2_with fail
        refine (HC.out _ ((H.out.below HR.out (Nat.le_refl _)).more HR.out.size)).mono ?_
        rintro x w1 ⟨rfl, hb⟩
        have HB := Lib.hid (HR.out.trans (hb.mono HR.out.size))
        clear hb
        go_wp2_with fail
        go_ret
        exact ⟨by rw [HV.out]; rfl, HB.out⟩
    · have h00 : l.length = 0 := by omega
      have h000 : ¬ (0 : Int) < l.length := by omega
      go_enter Try.func84, Try.ntmps84
      go_wp2_with fail
      go_loopw [3, 4] (fun n i wr => n = .int .i64 0 ∧ i = .int .i64 0 ∧ Hid (Below w.heap.size w wr)) (fun _ _ _ => 0)
      case atStart => exact ⟨rfl, rfl, Lib.hid (Below.refl _ _)⟩
      case round =>
        obtain ⟨rfl, rfl, HR⟩ := hrel
        go_wp2_with fail
        go_ret
        exact ⟨by rw [HV.out]; rfl, HR.out⟩
  · have HV : Hid (clockB l = clockV l) := by exact Lib.hid (by unfold clockB; rw [hd]; rfl)
    have HC := Lib.hid (fun W (hW : Lies W W.heap.size A l) => specDeps_any A l cap W hW hl hk)
    rw [hd] at HC
    clear hd
    unfold slV
    have H := Lib.hid h
    clear h
    unfold slV at HC
    go_enter Try.func84, Try.ntmps84
    go_wp2_with fail
    go_loopw [3, 4] (fun n i wr => ∃ k : Nat, k ≤ l.length ∧ i = .int .i64 k ∧ ∃ v : Int, n = .int .i64 v ∧ Hid (v = clockV (l.take k) ∧ Below w.heap.size w wr)) (fun _ i _ => l.length - (intOf i).toNat)
    case atStart => exact ⟨0, by omega, rfl, 0, rfl, Lib.hid ⟨rfl, Below.refl _ _⟩⟩
    case round =>
      obtain ⟨k, hk, rfl, v, rfl, HR⟩ := hrel
      by_cases hlt : k < l.length
      · go_wp2_with fail
        refine (HC.out _ ((H.out.below HR.out.2 (Nat.le_refl _)).more HR.out.2.size)).mono ?_
        rintro x w1 ⟨rfl, hb⟩
        have HB := Lib.hid (HR.out.2.trans (hb.mono HR.out.2.size))
        clear hb
        obtain ⟨ad, rfl, _, c0, c1, c2, c3⟩ := (H.out.below HB.out (Nat.le_refl _)).at_ hlt
        go_wp2_with fail
        refine (specMax_any v l[k].i.c _).mono ?_
        rintro x w2 ⟨rfl, rfl⟩
        go_wp2_with fail
        go_roundw
        case rel => exact ⟨k + 1, by omega, by go_num, max2 v l[k].i.c, rfl, Lib.hid ⟨by rw [clock_step l k hlt, ← HR.out.1], HB.out⟩⟩
        case measure => simp [intOf]; omega
      · go_wp2_with fail
        go_ret
        have e : v = clockV l := by have := HR.out.1; rwa [List.take_of_length_le (by omega)] at this
        exact ⟨by rw [HV.out, ← e]; rfl, HR.out.2⟩
end Go.Proofs.Ytegnjbdgeibhfaa.Dep

/-
  spec.l03Covers, spec.Covers, spec.DepOf at right deps and others.
-/
namespace Go.Proofs.Ytegnjbdgeibhfaa.Dep
open Go.ChangeShapes Go.WideShapes Go.ChangeAt Go.RowKit
set_option linter.unusedVariables false
set_option maxRecDepth 100000

theorem specLessI_any (x y : I) (w : World) :
    Calls Try.prog 35 #[x.val, y.val] w fun e w' => e = .returned (.bool (x.less y)) ∧ Below w.heap.size w w' := Id.specLess_any x.c x.s x.e y.c y.s y.e w

theorem specCov_any (A B : Option Addr) (a b : List D) (ca cb : Nat) (w : World) (ha : Lies w w.heap.size A a) (hb : Lies w w.heap.size B b) (hla : a.length ≤ maxLen) (hlb : b.length ≤ maxLen) :
    Calls Try.prog 43 #[slV A a ca, slV B b cb] w fun x w' => x = .returned (.bool (coversB a b)) ∧ Below w.heap.size w w' := by
  have hl2 := hlb
  unfold maxLen at hl2
  have HC := Lib.hid (fun (q : ByteArray) (p : Addr) (d : D) (W : World) (hW : One w p d W) => specOf_any A a ca q W ((ha.below hW.2 (Nat.le_refl _)).more hW.2.size) hla)
  have HB := Lib.hid hb
  clear ha hb
  unfold slV at HC ⊢
  go_enter Try.func43, Try.ntmps43
  go_wp2_with fail
  go_loopw [5] (fun i wr => ∃ k : Nat, k ≤ b.length ∧ i = .int .i64 k ∧ Hid ((∀ j (hj : j < b.length), j < k → (ofV a b[j].k).less b[j].i = false) ∧ Below w.heap.size w wr)) (fun i _ => b.length - (intOf i).toNat)
  case atStart => exact ⟨0, by omega, rfl, Lib.hid ⟨fun j hj hjk => absurd hjk (by omega), Below.refl _ _⟩⟩
  case round =>
    obtain ⟨k, hk, rfl, HR⟩ := hrel
    by_cases hlt : k < b.length
    · obtain ⟨ad, rfl, _, hat⟩ := (HB.out.below HR.out.2 (Nat.le_refl _)).at_ hlt
      have hst : One w (ad.add (k * 4)) b[k] wr := ⟨hat, HR.out.2⟩
      clear hat
      obtain ⟨y, hy⟩ : ∃ y, b[k] = y := ⟨_, rfl⟩
      have HY := Lib.hid hy
      rw [hy] at hst
      clear hy
      obtain ⟨t, ht⟩ : ∃ t, (ofV a y.k).less y.i = t := ⟨_, rfl⟩
      have HT := Lib.hid ht
      clear ht
      go_wp2_with fail
      go_region_held3 (fun W => At W (ad.add (k * 4)) y ∧ Below w.heap.size w W)
        (first | exact One.drew (by assumption) | exact One.step (by assumption) hb)
        (first | (go_at_call 36; refine (HC.out y.k (ad.add (k * 4)) y _ (by assumption)).mono ?_; rintro x w' ⟨rfl, hb⟩) | (go_at_call 35; refine (specLessI_any (ofV a y.k) y.i _).mono ?_; rintro x w' ⟨rfl, hb⟩; rw [HT.out]))
      have hend : One w (ad.add (k * 4)) y w' := by assumption
      have HE := Lib.hid hend.2
      clear hend hst
      cases t
      · go_wp2_with fail
        go_roundw
        case rel =>
          refine ⟨k + 1, by omega, by go_num, Lib.hid ⟨fun j hj hjk => ?_, HE.out⟩⟩
          by_cases e : j = k
          · subst e; rw [HY.out]; exact HT.out
          · exact HR.out.1 j hj (by omega)
        case measure => simp [intOf]; omega
      · go_wp2_with fail
        go_ret
        refine ⟨Key.ret_bool ?_, HE.out⟩
        cases hc : coversB a b
        · rfl
        · exact absurd (by rw [HY.out]; exact HT.out) ((covers_iff a b).1 hc b[k] (List.getElem_mem hlt))
    · go_wp2_with fail
      go_ret
      refine ⟨Key.ret_bool ?_, HR.out.2⟩
      refine ((covers_iff a b).2 fun d hd => ?_).symm
      obtain ⟨j, hj, rfl⟩ := List.getElem_of_mem hd
      rw [HR.out.1 j hj (by omega)]
      exact Bool.false_ne_true
end Go.Proofs.Ytegnjbdgeibhfaa.Dep

/-
  spec.Covers and spec.DepOf of any deps.
-/
namespace Go.Proofs.Ytegnjbdgeibhfaa.Dep
open Go.ChangeShapes Go.WideShapes Go.ChangeAt Go.RowKit
set_option linter.unusedVariables false
set_option maxRecDepth 100000

noncomputable def covB (a b : List D) : Bool := depsB a && depsB b && coversB a b
noncomputable def depOf (l : List D) (q : ByteArray) : I := if depsB l = true then ofV l q else zero

end Go.Proofs.Ytegnjbdgeibhfaa.Dep

/-
  impl.DepOf, impl.Covers, impl.ClockOf.
-/
namespace Go.Proofs.Ytegnjbdgeibhfaa.Dep
open Go.ChangeShapes Go.WideShapes Go.ChangeAt Go.RowKit
set_option linter.unusedVariables false
set_option maxRecDepth 100000

theorem max2_max (a b : Int) : max2 a b = max a b := by unfold max2; split <;> omega

theorem implClock_any (A : Option Addr) (l : List D) (cap : Nat) (w : World) (h : Lies w w.heap.size A l) (hl : l.length ≤ maxLen) (hk : ∀ d ∈ l, d.k.size ≤ maxLen) :
    Calls Try.prog 111 #[slV A l cap] w fun x w' => x = .returned (.int .i64 (clockB l)) ∧ Below w.heap.size w w' := by
  have hl2 := hl
  unfold maxLen at hl2
  have HC := Lib.hid (implDeps_any A l cap w h hl hk)
  have H := Lib.hid h
  clear h
  unfold slV at HC ⊢
  cases hd : depsB l
  · have HV : Hid (clockB l = 0) := by exact Lib.hid (by unfold clockB; rw [hd]; rfl)
    rw [hd] at HC
    clear hd
    go_enter Try.func111, Try.ntmps111
    go_wp2_with fail
    refine HC.out.mono ?_
    rintro x w1 ⟨rfl, hb⟩
    have HB := Lib.hid hb
    clear hb
    go_wp2_with fail
    go_ret
    exact ⟨by rw [HV.out]; rfl, HB.out⟩
  · have HV : Hid (clockB l = clockV l) := by exact Lib.hid (by unfold clockB; rw [hd]; rfl)
    rw [hd] at HC
    clear hd
    go_enter Try.func111, Try.ntmps111
    go_wp2_with fail
    refine HC.out.mono ?_
    rintro x w1 ⟨rfl, hb⟩
    have HB := Lib.hid hb
    clear hb
    go_wp2_with fail
    go_loopw [3, 11] (fun n i wr => ∃ k : Nat, k ≤ l.length ∧ i = .int .i64 k ∧ ∃ v : Int, n = .int .i64 v ∧ Hid (v = clockV (l.take k) ∧ Below w.heap.size w wr)) (fun _ i _ => l.length - (intOf i).toNat)
    case atStart => exact ⟨0, by omega, rfl, 0, rfl, Lib.hid ⟨rfl, HB.out⟩⟩
    case round =>
      obtain ⟨k, hk, rfl, v, rfl, HR⟩ := hrel
      by_cases hlt : k < l.length
      · obtain ⟨ad, rfl, _, c0, c1, c2, c3⟩ := (H.out.below HR.out.2 (Nat.le_refl _)).at_ hlt
        have HB1 := Lib.hid (HR.out.2.alloc HR.out.2.size l[k].obj)
        have HN := Lib.hid (clock_step l k hlt)
        go_wp2_with fail
        go_roundw
        case rel => exact ⟨k + 1, by omega, by go_num, max v l[k].i.c, rfl, Lib.hid ⟨by rw [HN.out, ← HR.out.1, max2_max], HB1.out⟩⟩
        case measure => simp [intOf]; omega
      · go_wp2_with fail
        go_ret
        have e : v = clockV l := by have := HR.out.1; rwa [List.take_of_length_le (by omega)] at this
        exact ⟨by rw [HV.out, ← e]; rfl, HR.out.2⟩
end Go.Proofs.Ytegnjbdgeibhfaa.Dep

/-
  impl.Covers of any deps.
-/
namespace Go.Proofs.Ytegnjbdgeibhfaa.Dep
open Go.ChangeShapes Go.WideShapes Go.ChangeAt Go.RowKit
set_option linter.unusedVariables false
set_option maxRecDepth 100000

theorem cell_lt' {w : World} {a : Addr} {v : Value} (h : w.cell? a = some v) : a.block < w.heap.size := by
  rcases Nat.lt_or_ge a.block w.heap.size with h' | h'
  · exact h'
  · simp [World.cell?, Array.getElem?_eq_none h'] at h
/-- A dep stands in a block of its own, and nothing below is written. -/
abbrev Four (w : World) (n : Nat) (d : D) (W : World) : Prop :=
  (W.cell? ⟨n, 0, none⟩ = some (.string d.k) ∧ W.cell? ⟨n, 1, none⟩ = some (.int .i64 d.i.c) ∧ W.cell? ⟨n, 2, none⟩ = some (.int .i64 d.i.s) ∧ W.cell? ⟨n, 3, none⟩ = some (.int .i64 d.i.e)) ∧ Below w.heap.size w W
theorem Four.step {w W W' : World} {n : Nat} {d : D} (h : Four w n d W) (hb : Below W.heap.size W W') : Four w n d W' := by
  have hn : n < W.heap.size := cell_lt' h.1.1
  exact ⟨⟨(hb.cell (p := ⟨n, 0, none⟩) hn).trans h.1.1, (hb.cell (p := ⟨n, 1, none⟩) hn).trans h.1.2.1, (hb.cell (p := ⟨n, 2, none⟩) hn).trans h.1.2.2.1, (hb.cell (p := ⟨n, 3, none⟩) hn).trans h.1.2.2.2⟩, h.2.trans (hb.mono h.2.size)⟩
theorem Four.drew {w W : World} {n : Nat} {d : D} (h : Four w n d W) : Four w n d W.drew := ⟨h.1, h.2.drew⟩

theorem implLessI_any (x y : I) (w : World) :
    Calls Try.prog 64 #[x.val, y.val] w fun e w' => e = .returned (.bool (x.less y)) ∧ Below w.heap.size w w' := Id.implLess_any x.c x.s x.e y.c y.s y.e w

set_option maxRecDepth 100000 in
theorem implCovers_any (A B : Option Addr) (a b : List D) (ca cb : Nat) (w : World) (ha : Lies w w.heap.size A a) (hb : Lies w w.heap.size B b) (hla : a.length ≤ maxLen) (hlb : b.length ≤ maxLen)
    (ka : ∀ d ∈ a, d.k.size ≤ maxLen) (kb : ∀ d ∈ b, d.k.size ≤ maxLen) :
    Calls Try.prog 47 #[slV A a ca, slV B b cb] w fun x w' => x = .returned (.bool (covB a b)) ∧ Below w.heap.size w w' := by
  have hl2 := hlb
  unfold maxLen at hl2
  have HA := Lib.hid (fun W (hW : Below w.heap.size w W) => implDeps_any A a ca W ((ha.below hW (Nat.le_refl _)).more hW.size) hla ka)
  have HB := Lib.hid (fun W (hW : Below w.heap.size w W) => implDeps_any B b cb W ((hb.below hW (Nat.le_refl _)).more hW.size) hlb kb)
  have HC := Lib.hid (fun (q : ByteArray) (W : World) (hW : Below w.heap.size w W) => implAt_any A a ca q W ((ha.below hW (Nat.le_refl _)).more hW.size) hla)
  have H := Lib.hid hb
  clear ha hb ka kb
  cases hda : depsB a
  · have HV : Hid (covB a b = false) := by exact Lib.hid (by unfold covB; rw [hda]; rfl)
    rw [hda] at HA
    clear hda
    unfold slV at HA ⊢
    go_enter Try.func47, Try.ntmps47
    go_wp2_with fail
    refine (HA.out _ (Below.refl _ _)).mono ?_
    rintro x w1 ⟨rfl, hb⟩
    have H1 := Lib.hid hb
    clear hb
    go_wp2_with fail
    go_ret
    exact ⟨by rw [HV.out]; rfl, H1.out⟩
  cases hdb : depsB b
  · have HV : Hid (covB a b = false) := by exact Lib.hid (by unfold covB; rw [hda, hdb]; rfl)
    rw [hda] at HA
    rw [hdb] at HB
    clear hda hdb
    unfold slV at HA HB ⊢
    go_enter Try.func47, Try.ntmps47
    go_wp2_with fail
    refine (HA.out _ (Below.refl _ _)).mono ?_
    rintro x w1 ⟨rfl, hb⟩
    have H1 := Lib.hid hb
    clear hb
    go_wp2_with fail
    refine (HB.out _ H1.out).mono ?_
    rintro x w2 ⟨rfl, hb⟩
    have H2 := Lib.hid (H1.out.trans (hb.mono H1.out.size))
    clear hb
    go_wp2_with fail
    go_ret
    exact ⟨by rw [HV.out]; rfl, H2.out⟩
  have HV : Hid (covB a b = coversB a b) := by exact Lib.hid (by unfold covB; rw [hda, hdb]; rfl)
  rw [hda] at HA
  rw [hdb] at HB
  clear hda hdb
  unfold slV at HA HB HC ⊢
  go_enter Try.func47, Try.ntmps47
  go_wp2_with fail
  refine (HA.out _ (Below.refl _ _)).mono ?_
  rintro x w1 ⟨rfl, hb⟩
  have H1 := Lib.hid hb
  clear hb
  go_wp2_with fail
  refine (HB.out _ H1.out).mono ?_
  rintro x w2 ⟨rfl, hb⟩
  have H2 := Lib.hid (H1.out.trans (hb.mono H1.out.size))
  clear hb HA HB
  go_wp2_with fail
  go_loopw [17] (fun i wr => ∃ k : Nat, k ≤ b.length ∧ i = .int .i64 k ∧ Hid ((∀ j (hj : j < b.length), j < k → (ofV a b[j].k).less b[j].i = false) ∧ Below w.heap.size w wr)) (fun i _ => b.length - (intOf i).toNat)
  case atStart => exact ⟨0, by omega, rfl, Lib.hid ⟨fun j hj hjk => absurd hjk (by omega), H2.out⟩⟩
  case round =>
    obtain ⟨k, hk, rfl, HR⟩ := hrel
    by_cases hlt : k < b.length
    · obtain ⟨ad, rfl, _, c0, c1, c2, c3⟩ := (H.out.below HR.out.2 (Nat.le_refl _)).at_ hlt
      obtain ⟨y, hy⟩ : ∃ y, b[k] = y := ⟨_, rfl⟩
      have HY := Lib.hid hy
      rw [hy] at c0 c1 c2 c3
      clear hy
      obtain ⟨t, ht⟩ : ∃ t, (ofV a y.k).less y.i = t := ⟨_, rfl⟩
      have HT := Lib.hid ht
      clear ht
      have hst : Four w wr.heap.size y (wr.alloc y.obj) := ⟨(DepRow.new wr 80 y.k y.i.c y.i.s y.i.e).cells, HR.out.2.alloc HR.out.2.size _⟩
      go_wp2_with fail
      generalize World.alloc wr _ = W1 at hst ⊢
      generalize wr.heap.size = n at hst ⊢
      go_region_held3 (fun W => (W.cell? ⟨n, 0, none⟩ = some (.string y.k) ∧ W.cell? ⟨n, 1, none⟩ = some (.int .i64 y.i.c) ∧ W.cell? ⟨n, 2, none⟩ = some (.int .i64 y.i.s) ∧ W.cell? ⟨n, 3, none⟩ = some (.int .i64 y.i.e)) ∧ Below w.heap.size w W)
        (first | exact Four.drew (by assumption) | exact Four.step (by assumption) hb)
        (first | (go_at_call 65; refine (HC.out y.k _ (And.right (by assumption))).mono ?_; rintro x w' ⟨rfl, hb⟩) | (go_at_call 64; refine (implLessI_any (ofV a y.k) y.i _).mono ?_; rintro x w' ⟨rfl, hb⟩; rw [HT.out]))
      have hend : Four w n y w' := by assumption
      have HE := Lib.hid hend.2
      clear hend hst c0 c1 c2 c3
      cases t
      · go_wp2_with fail
        go_roundw
        case rel =>
          refine ⟨k + 1, by omega, by go_num, Lib.hid ⟨fun j hj hjk => ?_, HE.out⟩⟩
          by_cases e : j = k
          · subst e; rw [HY.out]; exact HT.out
          · exact HR.out.1 j hj (by omega)
        case measure => simp [intOf]; omega
      · go_wp2_with fail
        go_ret
        rw [HV.out]
        refine ⟨Key.ret_bool ?_, HE.out⟩
        cases hc : coversB a b
        · rfl
        · exact absurd (by rw [HY.out]; exact HT.out) ((covers_iff a b).1 hc b[k] (List.getElem_mem hlt))
    · go_wp2_with fail
      go_ret
      rw [HV.out]
      refine ⟨Key.ret_bool ?_, HR.out.2⟩
      refine ((covers_iff a b).2 fun d hd => ?_).symm
      obtain ⟨j, hj, rfl⟩ := List.getElem_of_mem hd
      rw [HR.out.1 j hj (by omega)]
      exact Bool.false_ne_true
end Go.Proofs.Ytegnjbdgeibhfaa.Dep
