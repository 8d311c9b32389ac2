/-
  impl.DepsRight answers whether a slice reads as right deps.
-/
import Derived.Test.YtoagdpbbojlgfaaPackDep
import Derived.Test.YtoagdpbbojlgfaaDepRight
namespace Go.Proofs.Ytoagdpbbojlgfaa.Dep
open Go.ChangeShapes Go.WideShapes Go.ChangeAt Go.RowKit
set_option linter.unusedVariables false
set_option maxRecDepth 100000

theorem binOp_string_leq_dep (t : TypeId) (a b : ByteArray) : binOp .leq t (.string a) (.string b) = pure (.bool !(Op.bytesLess b.toList a.toList)) := by
  have h : (Op.bytesLess a.toList b.toList || a.toList == b.toList) = !(Op.bytesLess b.toList a.toList) := by
    rw [bytesLess_eq, bytesLess_eq, ByteArray.toList_eq, ByteArray.toList_eq]
    by_cases h1 : a.data.toList < b.data.toList
    · have h2 : ¬ b.data.toList < a.data.toList := fun h2 => List.lt_irrefl _ (List.lt_trans h1 h2)
      simp [h1, h2]
    · by_cases h2 : b.data.toList < a.data.toList
      · have h3 : (a.data.toList == b.data.toList) = false := beq_eq_false_iff_ne.2 fun e => by rw [e] at h2; exact List.lt_irrefl _ h2
        rw [h3]
        simp [h1, h2]
      · have h3 : (a.data.toList == b.data.toList) = true := beq_iff_eq.2 (List.le_antisymm h2 h1)
        rw [h3]
        simp [h2]
  simp [binOp, Op.stringOp, h]
attribute [local go_sem] binOp_string_leq_dep

theorem kl_empty {x : ByteArray} (h : Key.keyB x = true) : kl ⟨#[]⟩ x = true := by
  have h1 := (Key.ok_of h).1
  rw [kl_iff]
  cases hx : x.data.toList with
  | nil =>
    have : x.size = 0 := by rw [← ByteArray.size_data, ← Array.length_toList, hx]; rfl
    omega
  | cons a l => exact List.nil_lt_cons _ _
/-- The key ahead. -/
def Ahead (l : List D) (k : Nat) (q : ByteArray) : Prop := (k = 0 → q = ⟨#[]⟩) ∧ ∀ j (hj : j < l.length), k = j + 1 → q = l[j].k
theorem Ahead.not_ok {l : List D} {k : Nat} {q : ByteArray} (h : Ahead l k q) (hk : k < l.length) (hl : kl q l[k].k = false) : depsB l = false := by
  rcases Nat.eq_zero_or_pos k with e | e
  · subst e
    rw [h.1 rfl] at hl
    cases hq : Key.keyB l[0].k
    · exact not_ok_key hk hq
    · rw [kl_empty hq] at hl; cases hl
  · obtain ⟨j, rfl⟩ : ∃ j, k = j + 1 := ⟨k - 1, by omega⟩
    rw [h.2 j (by omega) rfl] at hl
    exact not_ok_less hk hl
theorem SoFar.one {l : List D} {k : Nat} {q : ByteArray} (h : SoFar l k) (hq : Ahead l k q) (hk : k < l.length) (h1 : Key.keyB l[k].k = true) (h2 : l[k].i.right = true) (h3 : kl q l[k].k = true) : SoFar l (k + 1) := by
  rcases Nat.eq_zero_or_pos k with e | e
  · subst e; exact h.first hk h1 h2
  · obtain ⟨j, rfl⟩ : ∃ j, k = j + 1 := ⟨k - 1, by omega⟩
    rw [hq.2 j (by omega) rfl] at h3
    exact h.next hk h1 h2 h3

set_option maxRecDepth 100000 in
theorem implDeps_any (A : Option Addr) (l : List D) (cap : Nat) (w : World) (h : Lies w w.heap.size A l) (hl : l.length ≤ maxLen) (hk : ∀ d ∈ l, d.k.size ≤ maxLen) :
    Calls Try.prog 36 #[slV A l cap] w fun x w' => x = .returned (.bool (depsB l)) ∧ Below w.heap.size w w' := by
  have hl2 := hl
  unfold maxLen at hl2
  unfold slV
  by_cases h6 : 6 < l.length
  · go_enter Try.func36, Try.ntmps36
    go_wp2_with fail
    go_ret
    exact ⟨Key.ret_bool (depsB_false fun ho => by have := ho.1; omega).symm, Below.refl _ _⟩
  have H := Lib.hid h
  have HK := Lib.hid hk
  clear h hk
  go_enter Try.func36, Try.ntmps36
  go_wp2_with fail
  go_loopw [3, 11] (fun q i wr => ∃ k : Nat, k ≤ l.length ∧ i = .int .i64 k ∧ ∃ p : ByteArray, q = .string p ∧ Hid (Ahead l k p ∧ SoFar l k ∧ Below w.heap.size w wr)) (fun _ i _ => l.length - (intOf i).toNat)
  case atStart => exact ⟨0, by omega, rfl, _, rfl, Lib.hid ⟨⟨fun _ => rfl, fun j hj e => absurd e (by omega)⟩, ⟨fun j hj hjk => absurd hjk (by omega), fun j hj hjk => absurd hjk (by omega)⟩, Below.refl _ _⟩⟩
  case round =>
    obtain ⟨k, hk, rfl, p, rfl, HR⟩ := hrel
    by_cases hlt : k < l.length
    · obtain ⟨ad, rfl, hb, c0, c1, c2, c3⟩ := (H.out.below HR.out.2.2 (Nat.le_refl _)).at_ hlt
      have hky := HK.out l[k] (List.getElem_mem hlt)
      obtain ⟨y, hy⟩ : ∃ y, l[k] = y := ⟨_, rfl⟩
      have HY := Lib.hid hy
      rw [hy] at c0 c1 c2 c3 hky
      clear hy hb
      have HB0 := Lib.hid (HR.out.2.2.alloc HR.out.2.2.size y.obj)
      cases hkk : Op.bytesLess p.toList y.k.toList
      · have HK1 := Lib.hid hkk
        go_wp2_with fail
        go_ret
        exact ⟨Key.ret_bool (HR.out.1.not_ok hlt (by rw [HY.out]; exact HK1.out)).symm, HB0.out⟩
      · have HK1 := Lib.hid hkk
        go_wp2_with fail
        refine (Key.implKey_any y.k _ hky).mono ?_
        rintro e w' ⟨rfl, rfl⟩
        cases hk2 : Key.keyB y.k
        · have HK2 := Lib.hid hk2
          clear hk2
          go_wp2_with fail
          go_ret
          exact ⟨Key.ret_bool (not_ok_key hlt (by rw [HY.out]; exact HK2.out)).symm, HB0.out⟩
        · have HK2 := Lib.hid hk2
          clear hk2
          go_wp2_with fail
          refine (Id.implRight_any y.i.c y.i.s y.i.e _).mono ?_
          rintro e w' ⟨rfl, hb1⟩
          have HB1 := Lib.hid (HB0.out.trans (hb1.mono HB0.out.size))
          have hD := (DepRow.new wr 63 y.k y.i.c y.i.s y.i.e).step hb1 (by simp)
          obtain ⟨d0, d1, d2, d3⟩ := hD.cells
          clear hD hb1 c0 c1 c2 c3
          cases hk3 : Id.rightB y.i.c y.i.s y.i.e
          · have HK3 := Lib.hid hk3
            clear hk3
            go_wp2_with fail
            go_ret
            exact ⟨Key.ret_bool (not_ok_id hlt (by rw [HY.out]; exact HK3.out)).symm, HB1.out⟩
          · have HK3 := Lib.hid hk3
            clear hk3
            go_wp2_with fail
            go_roundw
            case rel =>
              refine ⟨k + 1, by omega, by go_num, y.k, rfl, Lib.hid ⟨⟨fun e => absurd e (by omega), fun j hj e => ?_⟩, ?_, HB1.out⟩⟩
              · obtain rfl : j = k := by omega
                rw [HY.out]
              · exact HR.out.2.1.one HR.out.1 hlt (by rw [HY.out]; exact HK2.out) (by rw [HY.out]; exact HK3.out) (by rw [HY.out]; exact HK1.out)
            case measure => simp [intOf]; omega
    · go_wp2_with fail
      go_ret
      exact ⟨Key.ret_bool (HR.out.2.1.all (by omega) (by omega)).symm, HR.out.2.2⟩
end Go.Proofs.Ytoagdpbbojlgfaa.Dep
