/-
  Several texts in one: RecNeeds, RecDat, RecKeys.
-/
import Derived.Test.YtegnjbdgeibhfaaRecBox
import Derived.Test.YtegnjbdgeibhfaaPackPut
import Derived.BigQuiet
import Derived.StillTailTactics
import Derived.Test.YtegnjbdgeibhfaaRecMath
import Derived.Test.YtegnjbdgeibhfaaPackDep
import Derived.Test.YtegnjbdgeibhfaaPackStr
import Derived.Test.YtegnjbdgeibhfaaPackCov
import Derived.Deep.RegionHeld3
/-
  What a record asks of the others: spec.l04Needs.
-/
namespace Go.Proofs.Ytegnjbdgeibhfaa.Rec
open Go.ChangeShapes Go.WideShapes Go.ChangeAt Go.RowKit
open Dep (D I putV flat)
set_option linter.unusedVariables false
set_option maxRecDepth 100000
set_option linter.unusedSimpArgs false

/-- The deps gathered so far, in a row of one's own. -/
def Gath (w : World) (ad : Addr) (c : Nat) (l : List D) (wr : World) : Prop :=
  wr.ownsRow w.heap.size 80 4 (Dep.slV (some ad) l c) l.length (flat l) ∧ (l.length ≤ c ∧ c ≤ maxLen ∧ Dep.Lies wr wr.heap.size (some ad) l)
theorem Gath.drewN {w wr : World} {ad : Addr} {c : Nat} {l : List D} (h : Gath w ad c l wr) (n : Nat) : Gath w ad c l (wr.drewN n) := h
theorem blk_drewN {W : World} {b t : Nat} {cs : Array Value} (h : Blk W b t cs) (n : Nat) : Blk (W.drewN n) b t cs := h

set_option maxHeartbeats 2000000 in
theorem specNeeds0_any (r : R) (p : P) (w : World) (h : Lies w w.heap.size r p) (hl : r.l.length ≤ 400) (hb : r.b.length ≤ 400) :
    Calls Try.prog 44 #[recV r p] w fun e w' => ∃ v, e = .returned v ∧ w'.ownsRow w.heap.size 80 4 v (needs r.l r.b r.k r.i).length (flat (needs r.l r.b r.k r.i)) ∧ (v = .slice none 0 0 → False) ∧ Below w.heap.size w w' := by
  have B0 := ((Below.refl w.heap.size w).alloc (Nat.le_refl _) (.cells (cellsV r p) 61)).alloc (by simp) (Obj.cells #[] 80)
  have HA := Lib.hid ((h.1.below B0 (Nat.le_refl _)).more B0.size)
  have X0 := Lib.hid ((Blk.new w 61 (cellsV r p)).alloc (Obj.cells #[] 80))
  have HB0 := Lib.hid B0
  have HS := Lib.hid h.2
  clear h B0
  unfold recV
  go_enter Try.func44, Try.ntmps44
  have ON := Dep.own_none (w.alloc (.cells (cellsV r p) 61))
  simp only [World.size_alloc] at ON
  have HON := Lib.hid ON
  clear ON
  go_wp2_with (at_builtin; refine Dep.wpList_append_deps2 rfl rfl rfl r.l rfl rfl rfl HON.out HA.out (by omega) (by simp) ?_; intro v1 W1 ho1 hg1 hn1; rw [Nat.zero_add, List.nil_append] at ho1; have B1 := Lib.hid (HB0.out.grown hg1 HB0.out.size (fun j e => by cases e; exact Nat.le_succ _)); have X1 := Lib.hid (show Blk W1 w.heap.size 61 (cellsV r p) from (hg1.block _ X0.out.lt (fun e => by have e2 : w.heap.size = w.heap.size + 1 := Option.some.inj e; omega)).trans X0.out); have HO1 := Lib.hid (Dep.own_less ho1 (base' := w.heap.size) (Nat.le_succ _)); have HN1 := Lib.hid (fun e => by cases hn1 e : v1 = .slice none 0 0 → False); clear ho1 hg1 hn1)
  obtain ⟨_, ad, c, rfl, hc1, hc2, hL⟩ := Dep.own_addr HO1.out HN1.out
  unfold Dep.slV
  go_loopw [3, 4] (fun o i wr => ∃ k : Nat, k ≤ r.b.length ∧ i = .int .i64 k ∧ ∃ ad c, o = .slice (some ad) (needs r.l (r.b.take k) r.k r.i).length c ∧ Hid (Gath w ad c (needs r.l (r.b.take k) r.k r.i) wr ∧ Below w.heap.size w wr ∧ Blk wr w.heap.size 61 (cellsV r p))) (fun _ i _ => r.b.length - (intOf i).toNat)
  case atStart => exact ⟨0, by omega, rfl, ad, c, rfl, Lib.hid ⟨⟨HO1.out, ⟨hc1, hc2, hL⟩⟩, B1.out, X1.out⟩⟩
  case round =>
    obtain ⟨k, hk, rfl, ad2, cc, rfl, HR⟩ := hrel
    obtain ⟨x0, x1, x2, x3, x4, x5, x6, x7⟩ := cells8 HR.out.2.2
    by_cases hlt : k < r.b.length
    · obtain ⟨bd, hbd, _, c0⟩ := (HS.out.below HR.out.2.1 (Nat.le_refl _)).at_ hlt
      rw [hbd] at x7
      have x7eq := hbd
      obtain ⟨y, hy⟩ : ∃ y, r.b[k] = y := ⟨_, rfl⟩
      have HY := Lib.hid hy
      rw [hy] at c0
      clear hy
      have X7 := Lib.hid hbd
      clear hbd x7eq
      by_cases he : y = r.k
      · have e0 := Str.str_eq he
        have HE := Lib.hid (needs_skip (l := r.l) (q := r.k) (i := r.i) hlt (by rw [HY.out]; exact he))
        clear he
        go_upto_region 5 with fail
        go_quiet (fail)
        go_wp2_with fail
        go_roundw
        case rel => exact ⟨k + 1, by omega, by go_num, ad2, cc, by rw [HE.out], Lib.hid ⟨by rw [HE.out]; exact HR.out.1.drewN _, Str.drewN_below HR.out.2.1 _, blk_drewN HR.out.2.2 _⟩⟩
        case measure => simp [intOf]; omega
      · have e0 := Str.str_ne he
        have HE := Lib.hid (needs_put (l := r.l) (q := r.k) (i := r.i) hlt (by rw [HY.out]; exact he))
        clear he
        go_upto_region 5 with fail
        go_quiet (fail)
        rename_i nq
        have hg2 := HR.out.1.drewN nq
        have HB2 := Str.drewN_below HR.out.2.1 nq
        have HX2 := blk_drewN HR.out.2.2 nq
        have c02 : (wr.drewN nq).cell? (bd.add k) = some (.string y) := c0
        generalize World.drewN wr nq = wq at hg2 HB2 HX2 c02 ⊢
        have HG2 := Lib.hid hg2
        have HBQ := Lib.hid HB2
        have HXQ := Lib.hid HX2
        clear hg2 HB2
        obtain ⟨z0, z1, z2, z3, z4, z5, z6, z7⟩ := cells8 HX2
        rw [X7.out] at z7
        clear HX2
        go_upto_region 6 with fail
        refine wp_region_still_tail 8 (by kernel_rfl) (by kernel_rfl) ?_
        change wpStill _ _ (World.drew _) (fun a' => wpList _ _ _ _ a' (World.drew _)) _ _
        simp only [List.take_succ_cons, List.take_zero, List.drop_succ_cons, List.drop_zero]
        repeat still_step
        refine wpStill_nil ?_
        go_wp2_with fail
        have hlen := needs_length r.l (r.b.take k) r.k r.i
        rw [List.length_take] at hlen
        refine (Dep.specPut_any ad2 (needs r.l (r.b.take k) r.k r.i) cc y r.i wq.drew HG2.out.2.2.2.drew (by omega) HG2.out.2.1 HG2.out.2.2.1).mono ?_
        rintro e w2 ⟨v, rfl, ho2, hb2⟩
        obtain ⟨_, ad3, c4, rfl, hd1, hd2, hL3⟩ := Dep.own_addr ho2 (Dep.put_ne ho2)
        rw [HY.out] at HE
        have HO := Lib.hid (Dep.own_less ho2 (base' := w.heap.size) HBQ.out.size)
        have HB2 := Lib.hid ((HBQ.out.drew).trans (hb2.mono HBQ.out.size))
        have HX2 := Lib.hid ((show Blk wq.drew w.heap.size 61 (cellsV r p) from HXQ.out).on hb2)
        have HG := Lib.hid (show Gath w ad3 c4 (needs r.l (r.b.take (k + 1)) r.k r.i) w2 from by rw [HE.out]; exact ⟨HO.out, hd1, hd2, hL3⟩)
        rw [← HE.out]
        clear ho2 hb2 hL3 hd1 hd2
        unfold Dep.slV
        go_wp2_with fail
        go_roundw
        case rel => exact ⟨k + 1, by omega, by go_num, ad3, c4, rfl, Lib.hid ⟨HG.out, HB2.out, HX2.out⟩⟩
        case measure => simp [intOf]; omega
    · have e : k = r.b.length := by omega
      go_wp2_with fail
      go_ret
      have h1 := HR.out.1.1
      rw [List.take_of_length_le (by omega)] at h1
      exact ⟨_, rfl, h1, (fun e => by cases e), HR.out.2.1⟩
end Go.Proofs.Ytegnjbdgeibhfaa.Rec

/-
  Right data: spec.DataRight, impl.DataRight answer whether a string has at most eight bytes, each a small letter or a digit.
-/
namespace Go.Proofs.Ytegnjbdgeibhfaa.Rec
open Go.ChangeShapes Go.WideShapes Go.ChangeAt Go.RowKit
set_option linter.unusedVariables false
set_option maxRecDepth 100000
set_option linter.unusedSimpArgs false

theorem dat_yes {c : Int} (h : (97 ≤ c ∧ c ≤ 122) ∨ (48 ≤ c ∧ c ≤ 57)) : datC c = true := by unfold datC; exact decide_eq_true h
theorem dat_no {c : Int} (h : ¬ ((97 ≤ c ∧ c ≤ 122) ∨ (48 ≤ c ∧ c ≤ 57))) : datC c = false := by unfold datC; exact decide_eq_false h
theorem dat_bad {s : ByteArray} {k : Nat} (hk : k < s.size) (h : datC s[k].toNat = false) : datB s = false := datB_false fun ho => by have := ho.2 k hk; rw [h] at this; cases this

theorem isDigit_any (c : Int) (w : World) (h0 : 0 ≤ c) (h1 : c ≤ 255) :
    Calls Try.prog 117 #[.int .u8 c] w fun e w' => e = .returned (.bool (decide (48 ≤ c ∧ c ≤ 57))) ∧ w = w' := by
  by_cases a : 48 ≤ c
  · by_cases b : c ≤ 57
    · go_enter Try.func117, Try.ntmps117
      go_wp2
      go_ret
      exact ⟨by simp [a, b], rfl⟩
    · go_enter Try.func117, Try.ntmps117
      go_wp2
      go_ret
      exact ⟨by simp [a, b], rfl⟩
  · go_enter Try.func117, Try.ntmps117
    go_wp2
    go_ret
    exact ⟨by simp; omega, rfl⟩

theorem specData_any (s : ByteArray) (w : World) (hs : s.size ≤ maxLen) :
    Calls Try.prog 81 #[.string s] w fun e w' => e = .returned (.bool (datB s)) ∧ w = w' := by
  unfold maxLen at hs
  go_enter Try.func81, Try.ntmps81
  go_wp2_with fail
  go_loop [3] (fun i => ∃ k : Nat, k ≤ s.size ∧ i = .int .i64 k ∧ Hid (∀ j (h : j < s.size), j < k → datC s[j].toNat = true)) (fun i => s.size - (intOf i).toNat)
  case atStart => exact ⟨0, by omega, rfl, Lib.hid fun j h hj => absurd hj (by omega)⟩
  case round =>
    obtain ⟨k, hk, rfl, HJ⟩ := hrel
    by_cases hlt : k < s.size
    · have hbk := Key.byte_le s[k]
      have hgo : datC s[k].toNat = true → Hid (∀ j (h : j < s.size), j < k + 1 → datC s[j].toNat = true) := fun hd => Lib.hid fun j h hj => by
        by_cases e : j = k
        · subst e; exact hd
        · exact HJ.out j h (by omega)
      have HGO := Lib.hid hgo
      clear hgo
      by_cases a1 : (s[k].toNat : Int) < 97
      · by_cases a2 : (s[k].toNat : Int) < 48
        · have HL := Lib.hid (dat_bad hlt (dat_no (by omega)))
          go_wp2
          go_ret
          exact ⟨Key.ret_bool HL.out.symm, rfl⟩
        · by_cases a3 : 57 < (s[k].toNat : Int)
          · have HL := Lib.hid (dat_bad hlt (dat_no (by omega)))
            go_wp2
            go_ret
            exact ⟨Key.ret_bool HL.out.symm, rfl⟩
          · have HL := HGO.out (dat_yes (by omega))
            go_wp2
            go_round
            case rel => exact ⟨k + 1, by omega, by go_num, HL⟩
            case measure => simp [intOf]; omega
      · by_cases a2 : 122 < (s[k].toNat : Int)
        · have a3 : ¬ (s[k].toNat : Int) < 48 := by omega
          have a4 : 57 < (s[k].toNat : Int) := by omega
          have HL := Lib.hid (dat_bad hlt (dat_no (by omega)))
          go_wp2
          go_ret
          exact ⟨Key.ret_bool HL.out.symm, rfl⟩
        · have HL := HGO.out (dat_yes (by omega))
          go_wp2
          go_round
          case rel => exact ⟨k + 1, by omega, by go_num, HL⟩
          case measure => simp [intOf]; omega
    · by_cases b2 : s.size ≤ 8
      · have HL := Lib.hid (datB_true ⟨b2, fun j h => HJ.out j h (by omega)⟩)
        go_wp2
        go_ret
        refine ⟨Key.ret_bool (Eq.trans ?_ HL.out.symm), rfl⟩
        exact decide_eq_true (by omega)
      · have HL := Lib.hid (datB_false (s := s) fun h => b2 h.1)
        go_wp2
        go_ret
        refine ⟨Key.ret_bool (Eq.trans ?_ HL.out.symm), rfl⟩
        exact decide_eq_false (by omega)

theorem isDataByte_any (c : Int) (w : World) (h0 : 0 ≤ c) (h1 : c ≤ 255) :
    Calls Try.prog 116 #[.int .u8 c] w fun e w' => e = .returned (.bool (datC c)) ∧ w = w' := by
  cases hl : Key.letB c
  · have HL := Lib.hid hl
    clear hl
    go_enter Try.func116, Try.ntmps116
    go_wp2_with fail
    refine (Key.isLetter_any _ _ h0 h1).mono ?_
    rintro e w' ⟨rfl, rfl⟩
    rw [HL.out]
    go_wp2_with fail
    refine (isDigit_any _ _ h0 h1).mono ?_
    rintro e w' ⟨rfl, rfl⟩
    have hv : decide (48 ≤ c ∧ c ≤ 57) = datC c := by
      have a := HL.out
      simp only [Key.letB, decide_eq_false_iff_not] at a
      unfold datC
      exact decide_eq_decide.2 ⟨fun h => .inr h, fun h => h.resolve_left a⟩
    rw [hv]
    clear hv
    obtain ⟨t, ht⟩ : ∃ t, datC c = t := ⟨_, rfl⟩
    have HT := Lib.hid ht
    rw [ht]
    clear ht
    go_wp2_with fail
    go_ret
    exact ⟨Key.ret_bool HT.out.symm, rfl⟩
  · have HL := Lib.hid hl
    clear hl
    go_enter Try.func116, Try.ntmps116
    go_wp2_with fail
    refine (Key.isLetter_any _ _ h0 h1).mono ?_
    rintro e w' ⟨rfl, rfl⟩
    rw [HL.out]
    go_wp2_with fail
    go_ret
    exact ⟨Key.ret_bool (dat_yes (.inl (by have a := HL.out; simpa only [Key.letB, decide_eq_true_eq] using a))).symm, rfl⟩

theorem implData_any (s : ByteArray) (w : World) (hs : s.size ≤ maxLen) :
    Calls Try.prog 114 #[.string s] w fun e w' => e = .returned (.bool (datB s)) ∧ w = w' := by
  unfold maxLen at hs
  by_cases b2 : 8 < s.size
  · go_enter Try.func114, Try.ntmps114
    go_wp2_with fail
    go_ret
    exact ⟨Key.ret_bool (datB_false fun h => by have := h.1; omega).symm, rfl⟩
  go_enter Try.func114, Try.ntmps114
  go_wp2_with fail
  go_loop [3] (fun i => ∃ k : Nat, k ≤ s.size ∧ i = .int .i64 k ∧ Hid (∀ j (h : j < s.size), j < k → datC s[j].toNat = true)) (fun i => s.size - (intOf i).toNat)
  case atStart => exact ⟨0, by omega, rfl, Lib.hid fun j h hj => absurd hj (by omega)⟩
  case round =>
    obtain ⟨k, hk, rfl, HJ⟩ := hrel
    by_cases hlt : k < s.size
    · have hbk := Key.byte_le s[k]
      have hgo : datC s[k].toNat = true → Hid (∀ j (h : j < s.size), j < k + 1 → datC s[j].toNat = true) := fun hd => Lib.hid fun j h hj => by
        by_cases e : j = k
        · subst e; exact hd
        · exact HJ.out j h (by omega)
      have HGO := Lib.hid hgo
      clear hgo
      cases h1 : datC s[k].toNat
      · have HL := Lib.hid (dat_bad hlt h1)
        have H1 := Lib.hid h1
        clear h1
        go_wp2_with fail
        refine (isDataByte_any _ _ (by omega) hbk).mono ?_
        rintro e w' ⟨rfl, rfl⟩
        rw [H1.out]
        go_wp2_with fail
        go_ret
        exact ⟨Key.ret_bool HL.out.symm, rfl⟩
      · have HL := HGO.out h1
        have H1 := Lib.hid h1
        clear h1
        go_wp2_with fail
        refine (isDataByte_any _ _ (by omega) hbk).mono ?_
        rintro e w' ⟨rfl, rfl⟩
        rw [H1.out]
        go_wp2_with fail
        go_round
        case rel => exact ⟨k + 1, by omega, by go_num, HL⟩
        case measure => simp [intOf]; omega
    · go_wp2_with fail
      go_ret
      exact ⟨Key.ret_bool (datB_true ⟨by omega, fun j h => HJ.out j h (by omega)⟩).symm, rfl⟩

end Go.Proofs.Ytegnjbdgeibhfaa.Rec

/-
  Keys that are right, rising, and one of them is a key: spec.l04Keys; slices.Index, slices.Contains at strings.
-/
namespace Go.Proofs.Ytegnjbdgeibhfaa.Rec
open Go.ChangeShapes Go.WideShapes Go.ChangeAt Go.RowKit
open Dep (kl)
set_option linter.unusedVariables false
set_option maxRecDepth 100000
set_option linter.unusedSimpArgs false

attribute [local go_sem] Dep.binOp_string_geq_dep

/-- What is found out so far. -/
def SoFar (b : List ByteArray) (k : Nat) : Prop := (∀ j (hj : j < b.length), j < k → Key.keyB b[j] = true) ∧ ∀ j (hj : j + 1 < b.length), j + 1 < k → kl b[j] b[j + 1] = true
theorem rising_of {b : List ByteArray} (h : ∀ j (hj : j + 1 < b.length), kl b[j] b[j + 1] = true) : b.Pairwise fun x y => kl x y = true := by
  rw [List.pairwise_iff_getElem]
  have key : ∀ d i (hi : i + (d + 1) < b.length), kl (b[i]'(by omega)) (b[i + (d + 1)]'hi) = true := by
    intro d
    induction d with
    | zero => exact fun i hi => h i hi
    | succ d ih => exact fun i hi => Dep.kl_trans (ih i (by omega)) (h (i + (d + 1)) hi)
  intro i j hi hj hij
  have := key (j - i - 1) i (by omega)
  simpa [show i + (j - i - 1 + 1) = j by omega] using this
noncomputable def inB (b : List ByteArray) (k : Nat) (q : ByteArray) : Bool := @decide (q ∈ b.take k) (Classical.propDecidable _)
theorem in_true {b : List ByteArray} {k : Nat} {q : ByteArray} : inB b k q = true ↔ q ∈ b.take k := by simp [inB]
theorem in_step {b : List ByteArray} {k : Nat} {q : ByteArray} (h : k < b.length) : inB b (k + 1) q = (inB b k q || (b[k].toList == q.toList)) := by
  have e : b.take (k + 1) = b.take k ++ [b[k]] := by simp
  rw [Bool.eq_iff_iff, Bool.or_eq_true, in_true, in_true, e, List.mem_append, List.mem_singleton]
  constructor
  · rintro (h1 | h1)
    · exact .inl h1
    · exact .inr (Str.str_eq h1.symm)
  · rintro (h1 | h1)
    · exact .inl h1
    · refine .inr (Classical.byContradiction fun hne => ?_)
      rw [Str.str_ne (fun e => hne e.symm)] at h1
      cases h1
theorem not_key {b : List ByteArray} {q : ByteArray} {k : Nat} (hk : k < b.length) (h : Key.keyB b[k] = false) : keysB b q = false := keysB_false fun ho => by
  have := ho.2.1 b[k] (List.getElem_mem hk); rw [h] at this; cases this
theorem not_less {b : List ByteArray} {q : ByteArray} {j : Nat} (hj : j + 1 < b.length) (h : kl b[j] b[j + 1] = false) : keysB b q = false := keysB_false fun ho => by
  have := List.pairwise_iff_getElem.1 ho.2.2.1 j (j + 1) (by omega) hj (by omega); rw [h] at this; cases this
theorem SoFar.keys {b : List ByteArray} {k : Nat} {q : ByteArray} (h : SoFar b k) (hk : b.length ≤ k) : keysB b q = (inB b k q && decide (b.length ≤ 4)) := by
  have e : b.take k = b := List.take_of_length_le hk
  cases hi : inB b k q
  · rw [Bool.false_and]
    refine keysB_false fun ho => ?_
    have : inB b k q = true := in_true.2 (by rw [e]; exact ho.2.2.2)
    rw [hi] at this; cases this
  · rw [Bool.true_and]
    have hq : q ∈ b := by have := in_true.1 hi; rwa [e] at this
    by_cases h4 : b.length ≤ 4
    · rw [decide_eq_true h4]
      exact keysB_true ⟨h4, fun x hx => by obtain ⟨j, hj, rfl⟩ := List.getElem_of_mem hx; exact h.1 j hj (by omega), rising_of fun j hj => h.2 j hj (by omega), hq⟩
    · rw [decide_eq_false h4]
      exact keysB_false fun ho => h4 ho.1
theorem SoFar.first {b : List ByteArray} (h : SoFar b 0) (hk : 0 < b.length) (h1 : Key.keyB b[0] = true) : SoFar b 1 :=
  ⟨fun j hj hjk => by have : j = 0 := by omega
                      subst this; exact h1, fun j hj hjk => absurd hjk (by omega)⟩
theorem SoFar.next {b : List ByteArray} {k : Nat} (h : SoFar b (k + 1)) (hk : k + 1 < b.length) (h1 : Key.keyB b[k + 1] = true) (h3 : kl b[k] b[k + 1] = true) : SoFar b (k + 1 + 1) :=
  ⟨fun j hj hjk => by
    by_cases e : j = k + 1
    · subst e; exact h1
    · exact h.1 j hj (by omega), fun j hj hjk => by
    by_cases e : j = k
    · subst e; exact h3
    · exact h.2 j hj (by omega)⟩

set_option maxHeartbeats 4000000 in
theorem specKeys_any (A : Option Addr) (b : List ByteArray) (cap : Nat) (q : ByteArray) (w : World) (h : Str.Lies w w.heap.size A b) (hl : b.length ≤ maxLen) (hk : ∀ x ∈ b, x.size ≤ maxLen) :
    Calls Try.prog 83 #[Str.slV A b cap, .string q] w fun x w' => x = .returned (.bool (keysB b q)) ∧ Below w.heap.size w w' := by
  have hl2 := hl
  unfold maxLen at hl2
  unfold Str.slV
  have H := Lib.hid h
  have HK := Lib.hid hk
  clear h hk
  go_enter Try.func83, Try.ntmps83
  go_wp2_with fail
  go_loopw [5, 6] (fun u i wr => ∃ k : Nat, k ≤ b.length ∧ i = .int .i64 k ∧ ∃ h : Bool, u = .bool h ∧ Hid (h = inB b k q ∧ SoFar b k ∧ Below w.heap.size w wr)) (fun _ i _ => b.length - (intOf i).toNat)
  case atStart => exact ⟨0, by omega, rfl, false, rfl, Lib.hid ⟨by simp [inB], ⟨fun j hj hjk => absurd hjk (by omega), fun j hj hjk => absurd hjk (by omega)⟩, Below.refl _ _⟩⟩
  case round =>
    obtain ⟨k, hk, rfl, h, rfl, HR⟩ := hrel
    by_cases hlt : k < b.length
    · obtain ⟨ad, rfl, _, hat⟩ := (H.out.below HR.out.2.2 (Nat.le_refl _)).at_ hlt
      have hky := HK.out b[k] (List.getElem_mem hlt)
      obtain ⟨y, hy⟩ : ∃ y, b[k] = y := ⟨_, rfl⟩
      have HY := Lib.hid hy
      rw [hy] at hat hky
      clear hy
      have hst : wr.cell? (ad.add k) = some (.string y) ∧ Below w.heap.size w wr := ⟨hat, HR.out.2.2⟩
      clear hat
      cases hkk : Key.keyB y
      · have HK1 := Lib.hid hkk
        clear hkk
        go_wp2_with fail
        refine wp_region_held_drew (S := (fun W => W.cell? (ad.add k) = some (.string y) ∧ Below w.heap.size w W)) (by kernel_rfl) ?_ (fun hHeld => ?_)
        · exact ⟨hst.1, hst.2.drew⟩
        refine wpAnyH_take (i := 0) (v := ?_) rfl (by kernel_rfl) (by kernel_rfl) (by kernel_rfl) (fun _ _ _ h => h) (Or.inl ⟨by rfl, ?_⟩) hHeld ?_
        rotate_left
        · intro W hSw
          obtain ⟨hs1, _⟩ := hSw
          go_simp
          try with_reducible rfl
        try simp only [Act.put, List.setIfInBounds_toArray, List.set_cons_zero, List.set_cons_succ, List.getElem_toArray, List.getElem_cons_zero]
        refine wpAnyH_take (i := 1) (v := ?_) rfl (by kernel_rfl) (by kernel_rfl) (by kernel_rfl) (fun _ _ _ h => h) (Or.inl ⟨by rfl, ?_⟩) hHeld ?_
        rotate_left
        · intro W hSw
          obtain ⟨hs1, _⟩ := hSw
          go_simp
          try with_reducible rfl
        try simp only [Act.put, List.setIfInBounds_toArray, List.set_cons_zero, List.set_cons_succ, List.getElem_toArray, List.getElem_cons_succ, List.getElem_cons_zero]
        refine wpAnyH_take (i := 2) (v := ?_) rfl (by kernel_rfl) (by kernel_rfl) (by kernel_rfl) (fun _ _ _ h => h) (Or.inl ⟨by rfl, ?_⟩) hHeld ?_
        rotate_left
        · intro W hSw
          obtain ⟨hs1, _⟩ := hSw
          go_simp
          try with_reducible rfl
        try simp only [Act.put, List.setIfInBounds_toArray, List.set_cons_zero, List.set_cons_succ, List.getElem_toArray, List.getElem_cons_succ, List.getElem_cons_zero]
        refine wpAnyH_take (i := 3) (v := ?_) rfl (by kernel_rfl) (by kernel_rfl) (by kernel_rfl) (fun _ _ _ h => h) (Or.inl ⟨by rfl, ?_⟩) hHeld ?_
        rotate_left
        · intro W hSw
          obtain ⟨hs1, _⟩ := hSw
          go_simp
          try with_reducible rfl
        try simp only [Act.put, List.setIfInBounds_toArray, List.set_cons_zero, List.set_cons_succ, List.getElem_toArray, List.getElem_cons_succ, List.getElem_cons_zero]
        refine wpAnyH_ready (rs := [4]) (by kernel_rfl) (by simp) ?_
        refine AllReadyH.cons rfl (fun K hK => ?_) AllReadyH.nil
        go_simp
        refine (Key.specKey_any y _ hky).mono ?_
        rintro e w' ⟨rfl, rfl⟩
        rw [HK1.out]
        refine hK.out _ _ ?_ (fun hHeld => ?_)
        · assumption
        clear hK K
        try simp only [Act.put, List.setIfInBounds_toArray, List.set_cons_zero, List.set_cons_succ, List.getElem_toArray, List.getElem_cons_succ, List.getElem_cons_zero]
        refine wpAnyH_take (i := 5) (v := ?_) rfl (by kernel_rfl) (by kernel_rfl) (by kernel_rfl) (fun _ _ _ h => h) (Or.inl ⟨by rfl, ?_⟩) hHeld ?_
        rotate_left
        · intro W hSw
          obtain ⟨hs1, _⟩ := hSw
          go_simp
          try with_reducible rfl
        try simp only [Act.put, List.setIfInBounds_toArray, List.set_cons_zero, List.set_cons_succ, List.getElem_toArray, List.getElem_cons_succ, List.getElem_cons_zero]
        refine wpAnyH_take (i := 6) (v := ?_) rfl (by kernel_rfl) (by kernel_rfl) (by kernel_rfl) (fun _ _ _ h => h) (Or.inl ⟨by rfl, ?_⟩) hHeld ?_
        rotate_left
        · intro W hSw
          obtain ⟨hs1, _⟩ := hSw
          go_simp
          try with_reducible rfl
        try simp only [Act.put, List.setIfInBounds_toArray, List.set_cons_zero, List.set_cons_succ, List.getElem_toArray, List.getElem_cons_succ, List.getElem_cons_zero]
        refine wpAnyH_take (i := 7) (v := undef) rfl (by kernel_rfl) (by kernel_rfl) (by kernel_rfl) (fun _ _ _ h => h) (Or.inr ⟨by rfl, rfl⟩) hHeld ?_
        try simp only [Act.put, List.setIfInBounds_toArray, List.set_cons_zero, List.set_cons_succ, List.getElem_toArray, List.getElem_cons_succ, List.getElem_cons_zero]
        refine wpAnyH_take (i := 8) (v := undef) rfl (by kernel_rfl) (by kernel_rfl) (by kernel_rfl) (fun _ _ _ h => h) (Or.inr ⟨by rfl, rfl⟩) hHeld ?_
        try simp only [Act.put, List.setIfInBounds_toArray, List.set_cons_zero, List.set_cons_succ, List.getElem_toArray, List.getElem_cons_succ, List.getElem_cons_zero]
        refine wpAnyH_take (i := 9) (v := undef) rfl (by kernel_rfl) (by kernel_rfl) (by kernel_rfl) (fun _ _ _ h => h) (Or.inr ⟨by rfl, rfl⟩) hHeld ?_
        try simp only [Act.put, List.setIfInBounds_toArray, List.set_cons_zero, List.set_cons_succ, List.getElem_toArray, List.getElem_cons_succ, List.getElem_cons_zero]
        refine wpAnyH_take (i := 10) (v := undef) rfl (by kernel_rfl) (by kernel_rfl) (by kernel_rfl) (fun _ _ _ h => h) (Or.inr ⟨by rfl, rfl⟩) hHeld ?_
        try simp only [Act.put, List.setIfInBounds_toArray, List.set_cons_zero, List.set_cons_succ, List.getElem_toArray, List.getElem_cons_succ, List.getElem_cons_zero]
        refine wpAnyH_take (i := 11) (v := undef) rfl (by kernel_rfl) (by kernel_rfl) (by kernel_rfl) (fun _ _ _ h => h) (Or.inr ⟨by rfl, rfl⟩) hHeld ?_
        try simp only [Act.put, List.setIfInBounds_toArray, List.set_cons_zero, List.set_cons_succ, List.getElem_toArray, List.getElem_cons_succ, List.getElem_cons_zero]
        refine wpAnyH_take (i := 12) (v := undef) rfl (by kernel_rfl) (by kernel_rfl) (by kernel_rfl) (fun _ _ _ h => h) (Or.inr ⟨by rfl, rfl⟩) hHeld ?_
        try simp only [Act.put, List.setIfInBounds_toArray, List.set_cons_zero, List.set_cons_succ, List.getElem_toArray, List.getElem_cons_succ, List.getElem_cons_zero]
        refine wpAnyH_take (i := 13) (v := undef) rfl (by kernel_rfl) (by kernel_rfl) (by kernel_rfl) (fun _ _ _ h => h) (Or.inr ⟨by rfl, rfl⟩) hHeld ?_
        try simp only [Act.put, List.setIfInBounds_toArray, List.set_cons_zero, List.set_cons_succ, List.getElem_toArray, List.getElem_cons_succ, List.getElem_cons_zero]
        refine wpAnyH_take (i := 14) (v := undef) rfl (by kernel_rfl) (by kernel_rfl) (by kernel_rfl) (fun _ _ _ h => h) (Or.inr ⟨by rfl, rfl⟩) hHeld ?_
        try simp only [Act.put, List.setIfInBounds_toArray, List.set_cons_zero, List.set_cons_succ, List.getElem_toArray, List.getElem_cons_succ, List.getElem_cons_zero]
        refine wpAnyH_take (i := 15) (v := undef) rfl (by kernel_rfl) (by kernel_rfl) (by kernel_rfl) (fun _ _ _ h => h) (Or.inr ⟨by rfl, rfl⟩) hHeld ?_
        try simp only [Act.put, List.setIfInBounds_toArray, List.set_cons_zero, List.set_cons_succ, List.getElem_toArray, List.getElem_cons_succ, List.getElem_cons_zero]
        refine wpAnyH_take (i := 16) (v := undef) rfl (by kernel_rfl) (by kernel_rfl) (by kernel_rfl) (fun _ _ _ h => h) (Or.inr ⟨by rfl, rfl⟩) hHeld ?_
        try simp only [Act.put, List.setIfInBounds_toArray, List.set_cons_zero, List.set_cons_succ, List.getElem_toArray, List.getElem_cons_succ, List.getElem_cons_zero]
        refine wpAnyH_take (i := 17) (v := undef) rfl (by kernel_rfl) (by kernel_rfl) (by kernel_rfl) (fun _ _ _ h => h) (Or.inr ⟨by rfl, rfl⟩) hHeld ?_
        try simp only [Act.put, List.setIfInBounds_toArray, List.set_cons_zero, List.set_cons_succ, List.getElem_toArray, List.getElem_cons_succ, List.getElem_cons_zero]
        refine wpAnyH_take (i := 18) (v := undef) rfl (by kernel_rfl) (by kernel_rfl) (by kernel_rfl) (fun _ _ _ h => h) (Or.inr ⟨by rfl, rfl⟩) hHeld ?_
        try simp only [Act.put, List.setIfInBounds_toArray, List.set_cons_zero, List.set_cons_succ, List.getElem_toArray, List.getElem_cons_succ, List.getElem_cons_zero]
        refine wpAnyH_take (i := 19) (v := undef) rfl (by kernel_rfl) (by kernel_rfl) (by kernel_rfl) (fun _ _ _ h => h) (Or.inr ⟨by rfl, rfl⟩) hHeld ?_
        try simp only [Act.put, List.setIfInBounds_toArray, List.set_cons_zero, List.set_cons_succ, List.getElem_toArray, List.getElem_cons_succ, List.getElem_cons_zero]
        refine wpAnyH_take (i := 20) (v := undef) rfl (by kernel_rfl) (by kernel_rfl) (by kernel_rfl) (fun _ _ _ h => h) (Or.inr ⟨by rfl, rfl⟩) hHeld ?_
        try simp only [Act.put, List.setIfInBounds_toArray, List.set_cons_zero, List.set_cons_succ, List.getElem_toArray, List.getElem_cons_succ, List.getElem_cons_zero]
        refine wpAnyH_take (i := 21) (v := ?_) rfl (by kernel_rfl) (by kernel_rfl) (by kernel_rfl) (fun _ _ _ h => h) (Or.inl ⟨by rfl, ?_⟩) hHeld ?_
        rotate_left
        · intro W hSw
          obtain ⟨hs1, _⟩ := hSw
          go_simp
          try with_reducible rfl
        try simp only [Act.put, List.setIfInBounds_toArray, List.set_cons_zero, List.set_cons_succ, List.getElem_toArray, List.getElem_cons_succ, List.getElem_cons_zero]
        refine wpAnyH_done (by kernel_rfl) ?_ _
        go_wp2_with fail
        go_ret
        exact ⟨Key.ret_bool (not_key hlt (by rw [HY.out]; exact HK1.out)).symm, HR.out.2.2.drew⟩
      have HK1 := Lib.hid hkk
      clear hkk
      by_cases hk0 : 0 < k
      · obtain ⟨m, hm⟩ : ∃ m, k = m + 1 := ⟨k - 1, by omega⟩
        have hml : m < b.length := by omega
        have hw : IntKind.i64.wrap ((k : Int) - 1) = (m : Int) := by rw [IntKind.wrap_i64]; omega
        have HM := Lib.hid hm
        clear hm
        obtain ⟨x, hx⟩ : ∃ x, b[m]'(by omega) = x := ⟨_, rfl⟩
        have hst2 : wr.cell? (ad.add m) = some (.string x) ∧ wr.cell? (ad.add k) = some (.string y) ∧ Below w.heap.size w wr := by
          obtain ⟨ad', e, _, hat⟩ := (H.out.below HR.out.2.2 (Nat.le_refl _)).at_ (k := m) (by omega)
          cases e
          rw [hx] at hat
          exact ⟨hat, hst⟩
        have HX := Lib.hid hx
        clear hx hst
        have hst := hst2
        clear hst2
        cases hll : Op.bytesLess x.toList y.toList
        · have HL := Lib.hid hll
          have hk1 : (0 : Int) < k := by omega
          go_wp2_with fail
          refine wp_region_held_drew (S := (fun W => W.cell? (ad.add m) = some (.string x) ∧ W.cell? (ad.add k) = some (.string y) ∧ Below w.heap.size w W)) (by kernel_rfl) ?_ (fun hHeld => ?_)
          · exact ⟨hst.1, hst.2.1, hst.2.2.drew⟩
          refine wpAnyH_take (i := 0) (v := ?_) rfl (by kernel_rfl) (by kernel_rfl) (by kernel_rfl) (fun _ _ _ h => h) (Or.inl ⟨by rfl, ?_⟩) hHeld ?_
          rotate_left
          · intro W hSw
            obtain ⟨hs1, hs2, _⟩ := hSw
            go_simp
            try with_reducible rfl
          try simp only [Act.put, List.setIfInBounds_toArray, List.set_cons_zero, List.set_cons_succ, List.getElem_toArray, List.getElem_cons_zero]
          refine wpAnyH_take (i := 1) (v := ?_) rfl (by kernel_rfl) (by kernel_rfl) (by kernel_rfl) (fun _ _ _ h => h) (Or.inl ⟨by rfl, ?_⟩) hHeld ?_
          rotate_left
          · intro W hSw
            obtain ⟨hs1, hs2, _⟩ := hSw
            go_simp
            try with_reducible rfl
          try simp only [Act.put, List.setIfInBounds_toArray, List.set_cons_zero, List.set_cons_succ, List.getElem_toArray, List.getElem_cons_succ, List.getElem_cons_zero]
          refine wpAnyH_take (i := 2) (v := ?_) rfl (by kernel_rfl) (by kernel_rfl) (by kernel_rfl) (fun _ _ _ h => h) (Or.inl ⟨by rfl, ?_⟩) hHeld ?_
          rotate_left
          · intro W hSw
            obtain ⟨hs1, hs2, _⟩ := hSw
            go_simp
            try with_reducible rfl
          try simp only [Act.put, List.setIfInBounds_toArray, List.set_cons_zero, List.set_cons_succ, List.getElem_toArray, List.getElem_cons_succ, List.getElem_cons_zero]
          refine wpAnyH_take (i := 3) (v := ?_) rfl (by kernel_rfl) (by kernel_rfl) (by kernel_rfl) (fun _ _ _ h => h) (Or.inl ⟨by rfl, ?_⟩) hHeld ?_
          rotate_left
          · intro W hSw
            obtain ⟨hs1, hs2, _⟩ := hSw
            go_simp
            try with_reducible rfl
          try simp only [Act.put, List.setIfInBounds_toArray, List.set_cons_zero, List.set_cons_succ, List.getElem_toArray, List.getElem_cons_succ, List.getElem_cons_zero]
          refine wpAnyH_ready (rs := [4]) (by kernel_rfl) (by simp) ?_
          refine AllReadyH.cons rfl (fun K hK => ?_) AllReadyH.nil
          go_simp
          refine (Key.specKey_any y _ hky).mono ?_
          rintro e w' ⟨rfl, rfl⟩
          rw [HK1.out]
          refine hK.out _ _ ?_ (fun hHeld => ?_)
          · assumption
          clear hK K
          try simp only [Act.put, List.setIfInBounds_toArray, List.set_cons_zero, List.set_cons_succ, List.getElem_toArray, List.getElem_cons_succ, List.getElem_cons_zero]
          refine wpAnyH_take (i := 5) (v := ?_) rfl (by kernel_rfl) (by kernel_rfl) (by kernel_rfl) (fun _ _ _ h => h) (Or.inl ⟨by rfl, ?_⟩) hHeld ?_
          rotate_left
          · intro W hSw
            obtain ⟨hs1, hs2, _⟩ := hSw
            go_simp
            try with_reducible rfl
          try simp only [Act.put, List.setIfInBounds_toArray, List.set_cons_zero, List.set_cons_succ, List.getElem_toArray, List.getElem_cons_succ, List.getElem_cons_zero]
          refine wpAnyH_take (i := 6) (v := ?_) rfl (by kernel_rfl) (by kernel_rfl) (by kernel_rfl) (fun _ _ _ h => h) (Or.inl ⟨by rfl, ?_⟩) hHeld ?_
          rotate_left
          · intro W hSw
            obtain ⟨hs1, hs2, _⟩ := hSw
            go_simp
            try with_reducible rfl
          try simp only [Act.put, List.setIfInBounds_toArray, List.set_cons_zero, List.set_cons_succ, List.getElem_toArray, List.getElem_cons_succ, List.getElem_cons_zero]
          refine wpAnyH_take (i := 7) (v := ?_) rfl (by kernel_rfl) (by kernel_rfl) (by kernel_rfl) (fun _ _ _ h => h) (Or.inl ⟨by rfl, ?_⟩) hHeld ?_
          rotate_left
          · intro W hSw
            obtain ⟨hs1, hs2, _⟩ := hSw
            go_simp
            try with_reducible rfl
          try simp only [Act.put, List.setIfInBounds_toArray, List.set_cons_zero, List.set_cons_succ, List.getElem_toArray, List.getElem_cons_succ, List.getElem_cons_zero]
          refine wpAnyH_take (i := 8) (v := ?_) rfl (by kernel_rfl) (by kernel_rfl) (by kernel_rfl) (fun _ _ _ h => h) (Or.inl ⟨by rfl, ?_⟩) hHeld ?_
          rotate_left
          · intro W hSw
            obtain ⟨hs1, hs2, _⟩ := hSw
            go_simp
            try with_reducible rfl
          try simp only [Act.put, List.setIfInBounds_toArray, List.set_cons_zero, List.set_cons_succ, List.getElem_toArray, List.getElem_cons_succ, List.getElem_cons_zero]
          refine wpAnyH_take (i := 9) (v := ?_) rfl (by kernel_rfl) (by kernel_rfl) (by kernel_rfl) (fun _ _ _ h => h) (Or.inl ⟨by rfl, ?_⟩) hHeld ?_
          rotate_left
          · intro W hSw
            obtain ⟨hs1, hs2, _⟩ := hSw
            go_simp
            try with_reducible rfl
          try simp only [Act.put, List.setIfInBounds_toArray, List.set_cons_zero, List.set_cons_succ, List.getElem_toArray, List.getElem_cons_succ, List.getElem_cons_zero]
          refine wpAnyH_take (i := 10) (v := ?_) rfl (by kernel_rfl) (by kernel_rfl) (by kernel_rfl) (fun _ _ _ h => h) (Or.inl ⟨by rfl, ?_⟩) hHeld ?_
          rotate_left
          · intro W hSw
            obtain ⟨hs1, hs2, _⟩ := hSw
            go_simp
            try with_reducible rfl
          try simp only [Act.put, List.setIfInBounds_toArray, List.set_cons_zero, List.set_cons_succ, List.getElem_toArray, List.getElem_cons_succ, List.getElem_cons_zero]
          refine wpAnyH_take (i := 11) (v := ?_) rfl (by kernel_rfl) (by kernel_rfl) (by kernel_rfl) (fun _ _ _ h => h) (Or.inl ⟨by rfl, ?_⟩) hHeld ?_
          rotate_left
          · intro W hSw
            obtain ⟨hs1, hs2, _⟩ := hSw
            go_simp
            try with_reducible rfl
          try simp only [Act.put, List.setIfInBounds_toArray, List.set_cons_zero, List.set_cons_succ, List.getElem_toArray, List.getElem_cons_succ, List.getElem_cons_zero]
          refine wpAnyH_take (i := 12) (v := ?_) rfl (by kernel_rfl) (by kernel_rfl) (by kernel_rfl) (fun _ _ _ h => h) (Or.inl ⟨by rfl, ?_⟩) hHeld ?_
          rotate_left
          · intro W hSw
            obtain ⟨hs1, hs2, _⟩ := hSw
            go_simp
            try with_reducible rfl
          try simp only [Act.put, List.setIfInBounds_toArray, List.set_cons_zero, List.set_cons_succ, List.getElem_toArray, List.getElem_cons_succ, List.getElem_cons_zero]
          refine wpAnyH_take (i := 13) (v := ?_) rfl (by kernel_rfl) (by kernel_rfl) (by kernel_rfl) (fun _ _ _ h => h) (Or.inl ⟨by rfl, ?_⟩) hHeld ?_
          rotate_left
          · intro W hSw
            obtain ⟨hs1, hs2, _⟩ := hSw
            go_simp
            try with_reducible rfl
          try simp only [Act.put, List.setIfInBounds_toArray, List.set_cons_zero, List.set_cons_succ, List.getElem_toArray, List.getElem_cons_succ, List.getElem_cons_zero]
          refine wpAnyH_take (i := 14) (v := ?_) rfl (by kernel_rfl) (by kernel_rfl) (by kernel_rfl) (fun _ _ _ h => h) (Or.inl ⟨by rfl, ?_⟩) hHeld ?_
          rotate_left
          · intro W hSw
            obtain ⟨hs1, hs2, _⟩ := hSw
            go_simp
            try with_reducible rfl
          try simp only [Act.put, List.setIfInBounds_toArray, List.set_cons_zero, List.set_cons_succ, List.getElem_toArray, List.getElem_cons_succ, List.getElem_cons_zero]
          refine wpAnyH_take (i := 15) (v := ?_) rfl (by kernel_rfl) (by kernel_rfl) (by kernel_rfl) (fun _ _ _ h => h) (Or.inl ⟨by rfl, ?_⟩) hHeld ?_
          rotate_left
          · intro W hSw
            obtain ⟨hs1, hs2, _⟩ := hSw
            go_simp
            try with_reducible rfl
          try simp only [Act.put, List.setIfInBounds_toArray, List.set_cons_zero, List.set_cons_succ, List.getElem_toArray, List.getElem_cons_succ, List.getElem_cons_zero]
          refine wpAnyH_take (i := 16) (v := ?_) rfl (by kernel_rfl) (by kernel_rfl) (by kernel_rfl) (fun _ _ _ h => h) (Or.inl ⟨by rfl, ?_⟩) hHeld ?_
          rotate_left
          · intro W hSw
            obtain ⟨hs1, hs2, _⟩ := hSw
            go_simp
            try with_reducible rfl
          try simp only [Act.put, List.setIfInBounds_toArray, List.set_cons_zero, List.set_cons_succ, List.getElem_toArray, List.getElem_cons_succ, List.getElem_cons_zero]
          refine wpAnyH_take (i := 17) (v := ?_) rfl (by kernel_rfl) (by kernel_rfl) (by kernel_rfl) (fun _ _ _ h => h) (Or.inl ⟨by rfl, ?_⟩) hHeld ?_
          rotate_left
          · intro W hSw
            obtain ⟨hs1, hs2, _⟩ := hSw
            go_simp
            try with_reducible rfl
          try simp only [Act.put, List.setIfInBounds_toArray, List.set_cons_zero, List.set_cons_succ, List.getElem_toArray, List.getElem_cons_succ, List.getElem_cons_zero]
          refine wpAnyH_take (i := 18) (v := ?_) rfl (by kernel_rfl) (by kernel_rfl) (by kernel_rfl) (fun _ _ _ h => h) (Or.inl ⟨by rfl, ?_⟩) hHeld ?_
          rotate_left
          · intro W hSw
            obtain ⟨hs1, hs2, _⟩ := hSw
            go_simp
            try with_reducible rfl
          try simp only [Act.put, List.setIfInBounds_toArray, List.set_cons_zero, List.set_cons_succ, List.getElem_toArray, List.getElem_cons_succ, List.getElem_cons_zero]
          refine wpAnyH_take (i := 19) (v := ?_) rfl (by kernel_rfl) (by kernel_rfl) (by kernel_rfl) (fun _ _ _ h => h) (Or.inl ⟨by rfl, ?_⟩) hHeld ?_
          rotate_left
          · intro W hSw
            obtain ⟨hs1, hs2, _⟩ := hSw
            go_simp
            try with_reducible rfl
          try simp only [Act.put, List.setIfInBounds_toArray, List.set_cons_zero, List.set_cons_succ, List.getElem_toArray, List.getElem_cons_succ, List.getElem_cons_zero]
          refine wpAnyH_take (i := 20) (v := ?_) rfl (by kernel_rfl) (by kernel_rfl) (by kernel_rfl) (fun _ _ _ h => h) (Or.inl ⟨by rfl, ?_⟩) hHeld ?_
          rotate_left
          · intro W hSw
            obtain ⟨hs1, hs2, _⟩ := hSw
            go_simp
            try with_reducible rfl
          try simp only [Act.put, List.setIfInBounds_toArray, List.set_cons_zero, List.set_cons_succ, List.getElem_toArray, List.getElem_cons_succ, List.getElem_cons_zero]
          refine wpAnyH_take (i := 21) (v := ?_) rfl (by kernel_rfl) (by kernel_rfl) (by kernel_rfl) (fun _ _ _ h => h) (Or.inl ⟨by rfl, ?_⟩) hHeld ?_
          rotate_left
          · intro W hSw
            obtain ⟨hs1, hs2, _⟩ := hSw
            go_simp
            try with_reducible rfl
          try simp only [Act.put, List.setIfInBounds_toArray, List.set_cons_zero, List.set_cons_succ, List.getElem_toArray, List.getElem_cons_succ, List.getElem_cons_zero]
          refine wpAnyH_done (by kernel_rfl) ?_ _
          go_wp2_with fail
          go_ret
          refine ⟨Key.ret_bool ?_, HR.out.2.2.drew⟩
          have e := HM.out
          subst e
          exact (not_less hlt (by rw [HX.out, HY.out]; exact HL.out)).symm
        · have HL := Lib.hid hll
          have hk1 : (0 : Int) < k := by omega
          have HS2 : Hid (SoFar b (k + 1)) := by
            refine Lib.hid ?_
            have e := HM.out
            subst e
            exact HR.out.2.1.next hlt (by rw [HY.out]; exact HK1.out) (by rw [HX.out, HY.out]; exact HL.out)
          go_wp2_with fail
          refine wp_region_held_drew (S := (fun W => W.cell? (ad.add m) = some (.string x) ∧ W.cell? (ad.add k) = some (.string y) ∧ Below w.heap.size w W)) (by kernel_rfl) ?_ (fun hHeld => ?_)
          · exact ⟨hst.1, hst.2.1, hst.2.2.drew⟩
          refine wpAnyH_take (i := 0) (v := ?_) rfl (by kernel_rfl) (by kernel_rfl) (by kernel_rfl) (fun _ _ _ h => h) (Or.inl ⟨by rfl, ?_⟩) hHeld ?_
          rotate_left
          · intro W hSw
            obtain ⟨hs1, hs2, _⟩ := hSw
            go_simp
            try with_reducible rfl
          try simp only [Act.put, List.setIfInBounds_toArray, List.set_cons_zero, List.set_cons_succ, List.getElem_toArray, List.getElem_cons_zero]
          refine wpAnyH_take (i := 1) (v := ?_) rfl (by kernel_rfl) (by kernel_rfl) (by kernel_rfl) (fun _ _ _ h => h) (Or.inl ⟨by rfl, ?_⟩) hHeld ?_
          rotate_left
          · intro W hSw
            obtain ⟨hs1, hs2, _⟩ := hSw
            go_simp
            try with_reducible rfl
          try simp only [Act.put, List.setIfInBounds_toArray, List.set_cons_zero, List.set_cons_succ, List.getElem_toArray, List.getElem_cons_succ, List.getElem_cons_zero]
          refine wpAnyH_take (i := 2) (v := ?_) rfl (by kernel_rfl) (by kernel_rfl) (by kernel_rfl) (fun _ _ _ h => h) (Or.inl ⟨by rfl, ?_⟩) hHeld ?_
          rotate_left
          · intro W hSw
            obtain ⟨hs1, hs2, _⟩ := hSw
            go_simp
            try with_reducible rfl
          try simp only [Act.put, List.setIfInBounds_toArray, List.set_cons_zero, List.set_cons_succ, List.getElem_toArray, List.getElem_cons_succ, List.getElem_cons_zero]
          refine wpAnyH_take (i := 3) (v := ?_) rfl (by kernel_rfl) (by kernel_rfl) (by kernel_rfl) (fun _ _ _ h => h) (Or.inl ⟨by rfl, ?_⟩) hHeld ?_
          rotate_left
          · intro W hSw
            obtain ⟨hs1, hs2, _⟩ := hSw
            go_simp
            try with_reducible rfl
          try simp only [Act.put, List.setIfInBounds_toArray, List.set_cons_zero, List.set_cons_succ, List.getElem_toArray, List.getElem_cons_succ, List.getElem_cons_zero]
          refine wpAnyH_ready (rs := [4]) (by kernel_rfl) (by simp) ?_
          refine AllReadyH.cons rfl (fun K hK => ?_) AllReadyH.nil
          go_simp
          refine (Key.specKey_any y _ hky).mono ?_
          rintro e w' ⟨rfl, rfl⟩
          rw [HK1.out]
          refine hK.out _ _ ?_ (fun hHeld => ?_)
          · assumption
          clear hK K
          try simp only [Act.put, List.setIfInBounds_toArray, List.set_cons_zero, List.set_cons_succ, List.getElem_toArray, List.getElem_cons_succ, List.getElem_cons_zero]
          refine wpAnyH_take (i := 5) (v := ?_) rfl (by kernel_rfl) (by kernel_rfl) (by kernel_rfl) (fun _ _ _ h => h) (Or.inl ⟨by rfl, ?_⟩) hHeld ?_
          rotate_left
          · intro W hSw
            obtain ⟨hs1, hs2, _⟩ := hSw
            go_simp
            try with_reducible rfl
          try simp only [Act.put, List.setIfInBounds_toArray, List.set_cons_zero, List.set_cons_succ, List.getElem_toArray, List.getElem_cons_succ, List.getElem_cons_zero]
          refine wpAnyH_take (i := 6) (v := ?_) rfl (by kernel_rfl) (by kernel_rfl) (by kernel_rfl) (fun _ _ _ h => h) (Or.inl ⟨by rfl, ?_⟩) hHeld ?_
          rotate_left
          · intro W hSw
            obtain ⟨hs1, hs2, _⟩ := hSw
            go_simp
            try with_reducible rfl
          try simp only [Act.put, List.setIfInBounds_toArray, List.set_cons_zero, List.set_cons_succ, List.getElem_toArray, List.getElem_cons_succ, List.getElem_cons_zero]
          refine wpAnyH_take (i := 7) (v := ?_) rfl (by kernel_rfl) (by kernel_rfl) (by kernel_rfl) (fun _ _ _ h => h) (Or.inl ⟨by rfl, ?_⟩) hHeld ?_
          rotate_left
          · intro W hSw
            obtain ⟨hs1, hs2, _⟩ := hSw
            go_simp
            try with_reducible rfl
          try simp only [Act.put, List.setIfInBounds_toArray, List.set_cons_zero, List.set_cons_succ, List.getElem_toArray, List.getElem_cons_succ, List.getElem_cons_zero]
          refine wpAnyH_take (i := 8) (v := ?_) rfl (by kernel_rfl) (by kernel_rfl) (by kernel_rfl) (fun _ _ _ h => h) (Or.inl ⟨by rfl, ?_⟩) hHeld ?_
          rotate_left
          · intro W hSw
            obtain ⟨hs1, hs2, _⟩ := hSw
            go_simp
            try with_reducible rfl
          try simp only [Act.put, List.setIfInBounds_toArray, List.set_cons_zero, List.set_cons_succ, List.getElem_toArray, List.getElem_cons_succ, List.getElem_cons_zero]
          refine wpAnyH_take (i := 9) (v := ?_) rfl (by kernel_rfl) (by kernel_rfl) (by kernel_rfl) (fun _ _ _ h => h) (Or.inl ⟨by rfl, ?_⟩) hHeld ?_
          rotate_left
          · intro W hSw
            obtain ⟨hs1, hs2, _⟩ := hSw
            go_simp
            try with_reducible rfl
          try simp only [Act.put, List.setIfInBounds_toArray, List.set_cons_zero, List.set_cons_succ, List.getElem_toArray, List.getElem_cons_succ, List.getElem_cons_zero]
          refine wpAnyH_take (i := 10) (v := ?_) rfl (by kernel_rfl) (by kernel_rfl) (by kernel_rfl) (fun _ _ _ h => h) (Or.inl ⟨by rfl, ?_⟩) hHeld ?_
          rotate_left
          · intro W hSw
            obtain ⟨hs1, hs2, _⟩ := hSw
            go_simp
            try with_reducible rfl
          try simp only [Act.put, List.setIfInBounds_toArray, List.set_cons_zero, List.set_cons_succ, List.getElem_toArray, List.getElem_cons_succ, List.getElem_cons_zero]
          refine wpAnyH_take (i := 11) (v := ?_) rfl (by kernel_rfl) (by kernel_rfl) (by kernel_rfl) (fun _ _ _ h => h) (Or.inl ⟨by rfl, ?_⟩) hHeld ?_
          rotate_left
          · intro W hSw
            obtain ⟨hs1, hs2, _⟩ := hSw
            go_simp
            try with_reducible rfl
          try simp only [Act.put, List.setIfInBounds_toArray, List.set_cons_zero, List.set_cons_succ, List.getElem_toArray, List.getElem_cons_succ, List.getElem_cons_zero]
          refine wpAnyH_take (i := 12) (v := ?_) rfl (by kernel_rfl) (by kernel_rfl) (by kernel_rfl) (fun _ _ _ h => h) (Or.inl ⟨by rfl, ?_⟩) hHeld ?_
          rotate_left
          · intro W hSw
            obtain ⟨hs1, hs2, _⟩ := hSw
            go_simp
            try with_reducible rfl
          try simp only [Act.put, List.setIfInBounds_toArray, List.set_cons_zero, List.set_cons_succ, List.getElem_toArray, List.getElem_cons_succ, List.getElem_cons_zero]
          refine wpAnyH_take (i := 13) (v := ?_) rfl (by kernel_rfl) (by kernel_rfl) (by kernel_rfl) (fun _ _ _ h => h) (Or.inl ⟨by rfl, ?_⟩) hHeld ?_
          rotate_left
          · intro W hSw
            obtain ⟨hs1, hs2, _⟩ := hSw
            go_simp
            try with_reducible rfl
          try simp only [Act.put, List.setIfInBounds_toArray, List.set_cons_zero, List.set_cons_succ, List.getElem_toArray, List.getElem_cons_succ, List.getElem_cons_zero]
          refine wpAnyH_take (i := 14) (v := ?_) rfl (by kernel_rfl) (by kernel_rfl) (by kernel_rfl) (fun _ _ _ h => h) (Or.inl ⟨by rfl, ?_⟩) hHeld ?_
          rotate_left
          · intro W hSw
            obtain ⟨hs1, hs2, _⟩ := hSw
            go_simp
            try with_reducible rfl
          try simp only [Act.put, List.setIfInBounds_toArray, List.set_cons_zero, List.set_cons_succ, List.getElem_toArray, List.getElem_cons_succ, List.getElem_cons_zero]
          refine wpAnyH_take (i := 15) (v := ?_) rfl (by kernel_rfl) (by kernel_rfl) (by kernel_rfl) (fun _ _ _ h => h) (Or.inl ⟨by rfl, ?_⟩) hHeld ?_
          rotate_left
          · intro W hSw
            obtain ⟨hs1, hs2, _⟩ := hSw
            go_simp
            try with_reducible rfl
          try simp only [Act.put, List.setIfInBounds_toArray, List.set_cons_zero, List.set_cons_succ, List.getElem_toArray, List.getElem_cons_succ, List.getElem_cons_zero]
          refine wpAnyH_take (i := 16) (v := ?_) rfl (by kernel_rfl) (by kernel_rfl) (by kernel_rfl) (fun _ _ _ h => h) (Or.inl ⟨by rfl, ?_⟩) hHeld ?_
          rotate_left
          · intro W hSw
            obtain ⟨hs1, hs2, _⟩ := hSw
            go_simp
            try with_reducible rfl
          try simp only [Act.put, List.setIfInBounds_toArray, List.set_cons_zero, List.set_cons_succ, List.getElem_toArray, List.getElem_cons_succ, List.getElem_cons_zero]
          refine wpAnyH_take (i := 17) (v := ?_) rfl (by kernel_rfl) (by kernel_rfl) (by kernel_rfl) (fun _ _ _ h => h) (Or.inl ⟨by rfl, ?_⟩) hHeld ?_
          rotate_left
          · intro W hSw
            obtain ⟨hs1, hs2, _⟩ := hSw
            go_simp
            try with_reducible rfl
          try simp only [Act.put, List.setIfInBounds_toArray, List.set_cons_zero, List.set_cons_succ, List.getElem_toArray, List.getElem_cons_succ, List.getElem_cons_zero]
          refine wpAnyH_take (i := 18) (v := ?_) rfl (by kernel_rfl) (by kernel_rfl) (by kernel_rfl) (fun _ _ _ h => h) (Or.inl ⟨by rfl, ?_⟩) hHeld ?_
          rotate_left
          · intro W hSw
            obtain ⟨hs1, hs2, _⟩ := hSw
            go_simp
            try with_reducible rfl
          try simp only [Act.put, List.setIfInBounds_toArray, List.set_cons_zero, List.set_cons_succ, List.getElem_toArray, List.getElem_cons_succ, List.getElem_cons_zero]
          refine wpAnyH_take (i := 19) (v := ?_) rfl (by kernel_rfl) (by kernel_rfl) (by kernel_rfl) (fun _ _ _ h => h) (Or.inl ⟨by rfl, ?_⟩) hHeld ?_
          rotate_left
          · intro W hSw
            obtain ⟨hs1, hs2, _⟩ := hSw
            go_simp
            try with_reducible rfl
          try simp only [Act.put, List.setIfInBounds_toArray, List.set_cons_zero, List.set_cons_succ, List.getElem_toArray, List.getElem_cons_succ, List.getElem_cons_zero]
          refine wpAnyH_take (i := 20) (v := ?_) rfl (by kernel_rfl) (by kernel_rfl) (by kernel_rfl) (fun _ _ _ h => h) (Or.inl ⟨by rfl, ?_⟩) hHeld ?_
          rotate_left
          · intro W hSw
            obtain ⟨hs1, hs2, _⟩ := hSw
            go_simp
            try with_reducible rfl
          try simp only [Act.put, List.setIfInBounds_toArray, List.set_cons_zero, List.set_cons_succ, List.getElem_toArray, List.getElem_cons_succ, List.getElem_cons_zero]
          refine wpAnyH_take (i := 21) (v := ?_) rfl (by kernel_rfl) (by kernel_rfl) (by kernel_rfl) (fun _ _ _ h => h) (Or.inl ⟨by rfl, ?_⟩) hHeld ?_
          rotate_left
          · intro W hSw
            obtain ⟨hs1, hs2, _⟩ := hSw
            go_simp
            try with_reducible rfl
          try simp only [Act.put, List.setIfInBounds_toArray, List.set_cons_zero, List.set_cons_succ, List.getElem_toArray, List.getElem_cons_succ, List.getElem_cons_zero]
          refine wpAnyH_done (by kernel_rfl) ?_ _
          have hc0 : (World.drew wr).cell? (ad.add k) = some (.string y) := hst.2.1
          have HE := Lib.hid (show Below w.heap.size w (World.drew wr) from hst.2.2.drew)
          clear hst
          have HIN := Lib.hid (in_step (q := q) hlt)
          generalize World.drew wr = wd at hc0 HE ⊢
          cases h
          · obtain ⟨t, ht⟩ : ∃ t, (y.toList == q.toList) = t := ⟨_, rfl⟩
            have HT := Lib.hid ht
            go_wp2_with fail
            go_roundw
            case rel => exact ⟨k + 1, by omega, by go_num, t, rfl, Lib.hid ⟨by rw [HIN.out, ← HR.out.1, HY.out, HT.out, Bool.false_or], HS2.out, HE.out⟩⟩
            case measure => simp [intOf]; omega
          · clear hc0
            go_wp2_with fail
            go_roundw
            case rel => exact ⟨k + 1, by omega, by go_num, true, rfl, Lib.hid ⟨by rw [HIN.out, ← HR.out.1, Bool.true_or], HS2.out, HE.out⟩⟩
            case measure => simp [intOf]; omega
      · have hk1 : ¬ (0 : Int) < k := by omega
        have HS2 : Hid (SoFar b (k + 1)) := by
          refine Lib.hid ?_
          obtain rfl : k = 0 := by omega
          exact HR.out.2.1.first hlt (by rw [HY.out]; exact HK1.out)
        go_wp2_with fail
        refine wp_region_held_drew (S := (fun W => W.cell? (ad.add k) = some (.string y) ∧ Below w.heap.size w W)) (by kernel_rfl) ?_ (fun hHeld => ?_)
        · exact ⟨hst.1, hst.2.drew⟩
        refine wpAnyH_take (i := 0) (v := ?_) rfl (by kernel_rfl) (by kernel_rfl) (by kernel_rfl) (fun _ _ _ h => h) (Or.inl ⟨by rfl, ?_⟩) hHeld ?_
        rotate_left
        · intro W hSw
          obtain ⟨hs1, _⟩ := hSw
          go_simp
          try with_reducible rfl
        try simp only [Act.put, List.setIfInBounds_toArray, List.set_cons_zero, List.set_cons_succ, List.getElem_toArray, List.getElem_cons_zero]
        refine wpAnyH_take (i := 1) (v := ?_) rfl (by kernel_rfl) (by kernel_rfl) (by kernel_rfl) (fun _ _ _ h => h) (Or.inl ⟨by rfl, ?_⟩) hHeld ?_
        rotate_left
        · intro W hSw
          obtain ⟨hs1, _⟩ := hSw
          go_simp
          try with_reducible rfl
        try simp only [Act.put, List.setIfInBounds_toArray, List.set_cons_zero, List.set_cons_succ, List.getElem_toArray, List.getElem_cons_succ, List.getElem_cons_zero]
        refine wpAnyH_take (i := 2) (v := ?_) rfl (by kernel_rfl) (by kernel_rfl) (by kernel_rfl) (fun _ _ _ h => h) (Or.inl ⟨by rfl, ?_⟩) hHeld ?_
        rotate_left
        · intro W hSw
          obtain ⟨hs1, _⟩ := hSw
          go_simp
          try with_reducible rfl
        try simp only [Act.put, List.setIfInBounds_toArray, List.set_cons_zero, List.set_cons_succ, List.getElem_toArray, List.getElem_cons_succ, List.getElem_cons_zero]
        refine wpAnyH_take (i := 3) (v := ?_) rfl (by kernel_rfl) (by kernel_rfl) (by kernel_rfl) (fun _ _ _ h => h) (Or.inl ⟨by rfl, ?_⟩) hHeld ?_
        rotate_left
        · intro W hSw
          obtain ⟨hs1, _⟩ := hSw
          go_simp
          try with_reducible rfl
        try simp only [Act.put, List.setIfInBounds_toArray, List.set_cons_zero, List.set_cons_succ, List.getElem_toArray, List.getElem_cons_succ, List.getElem_cons_zero]
        refine wpAnyH_ready (rs := [4]) (by kernel_rfl) (by simp) ?_
        refine AllReadyH.cons rfl (fun K hK => ?_) AllReadyH.nil
        go_simp
        refine (Key.specKey_any y _ hky).mono ?_
        rintro e w' ⟨rfl, rfl⟩
        rw [HK1.out]
        refine hK.out _ _ ?_ (fun hHeld => ?_)
        · assumption
        clear hK K
        try simp only [Act.put, List.setIfInBounds_toArray, List.set_cons_zero, List.set_cons_succ, List.getElem_toArray, List.getElem_cons_succ, List.getElem_cons_zero]
        refine wpAnyH_take (i := 5) (v := ?_) rfl (by kernel_rfl) (by kernel_rfl) (by kernel_rfl) (fun _ _ _ h => h) (Or.inl ⟨by rfl, ?_⟩) hHeld ?_
        rotate_left
        · intro W hSw
          obtain ⟨hs1, _⟩ := hSw
          go_simp
          try with_reducible rfl
        try simp only [Act.put, List.setIfInBounds_toArray, List.set_cons_zero, List.set_cons_succ, List.getElem_toArray, List.getElem_cons_succ, List.getElem_cons_zero]
        refine wpAnyH_take (i := 6) (v := ?_) rfl (by kernel_rfl) (by kernel_rfl) (by kernel_rfl) (fun _ _ _ h => h) (Or.inl ⟨by rfl, ?_⟩) hHeld ?_
        rotate_left
        · intro W hSw
          obtain ⟨hs1, _⟩ := hSw
          go_simp
          try with_reducible rfl
        try simp only [Act.put, List.setIfInBounds_toArray, List.set_cons_zero, List.set_cons_succ, List.getElem_toArray, List.getElem_cons_succ, List.getElem_cons_zero]
        refine wpAnyH_take (i := 7) (v := ?_) rfl (by kernel_rfl) (by kernel_rfl) (by kernel_rfl) (fun _ _ _ h => h) (Or.inl ⟨by rfl, ?_⟩) hHeld ?_
        rotate_left
        · intro W hSw
          obtain ⟨hs1, _⟩ := hSw
          go_simp
          try with_reducible rfl
        try simp only [Act.put, List.setIfInBounds_toArray, List.set_cons_zero, List.set_cons_succ, List.getElem_toArray, List.getElem_cons_succ, List.getElem_cons_zero]
        refine wpAnyH_take (i := 8) (v := ?_) rfl (by kernel_rfl) (by kernel_rfl) (by kernel_rfl) (fun _ _ _ h => h) (Or.inl ⟨by rfl, ?_⟩) hHeld ?_
        rotate_left
        · intro W hSw
          obtain ⟨hs1, _⟩ := hSw
          go_simp
          try with_reducible rfl
        try simp only [Act.put, List.setIfInBounds_toArray, List.set_cons_zero, List.set_cons_succ, List.getElem_toArray, List.getElem_cons_succ, List.getElem_cons_zero]
        refine wpAnyH_take (i := 9) (v := ?_) rfl (by kernel_rfl) (by kernel_rfl) (by kernel_rfl) (fun _ _ _ h => h) (Or.inl ⟨by rfl, ?_⟩) hHeld ?_
        rotate_left
        · intro W hSw
          obtain ⟨hs1, _⟩ := hSw
          go_simp
          try with_reducible rfl
        try simp only [Act.put, List.setIfInBounds_toArray, List.set_cons_zero, List.set_cons_succ, List.getElem_toArray, List.getElem_cons_succ, List.getElem_cons_zero]
        refine wpAnyH_take (i := 10) (v := undef) rfl (by kernel_rfl) (by kernel_rfl) (by kernel_rfl) (fun _ _ _ h => h) (Or.inr ⟨by rfl, rfl⟩) hHeld ?_
        try simp only [Act.put, List.setIfInBounds_toArray, List.set_cons_zero, List.set_cons_succ, List.getElem_toArray, List.getElem_cons_succ, List.getElem_cons_zero]
        refine wpAnyH_take (i := 11) (v := undef) rfl (by kernel_rfl) (by kernel_rfl) (by kernel_rfl) (fun _ _ _ h => h) (Or.inr ⟨by rfl, rfl⟩) hHeld ?_
        try simp only [Act.put, List.setIfInBounds_toArray, List.set_cons_zero, List.set_cons_succ, List.getElem_toArray, List.getElem_cons_succ, List.getElem_cons_zero]
        refine wpAnyH_take (i := 12) (v := undef) rfl (by kernel_rfl) (by kernel_rfl) (by kernel_rfl) (fun _ _ _ h => h) (Or.inr ⟨by rfl, rfl⟩) hHeld ?_
        try simp only [Act.put, List.setIfInBounds_toArray, List.set_cons_zero, List.set_cons_succ, List.getElem_toArray, List.getElem_cons_succ, List.getElem_cons_zero]
        refine wpAnyH_take (i := 13) (v := undef) rfl (by kernel_rfl) (by kernel_rfl) (by kernel_rfl) (fun _ _ _ h => h) (Or.inr ⟨by rfl, rfl⟩) hHeld ?_
        try simp only [Act.put, List.setIfInBounds_toArray, List.set_cons_zero, List.set_cons_succ, List.getElem_toArray, List.getElem_cons_succ, List.getElem_cons_zero]
        refine wpAnyH_take (i := 14) (v := undef) rfl (by kernel_rfl) (by kernel_rfl) (by kernel_rfl) (fun _ _ _ h => h) (Or.inr ⟨by rfl, rfl⟩) hHeld ?_
        try simp only [Act.put, List.setIfInBounds_toArray, List.set_cons_zero, List.set_cons_succ, List.getElem_toArray, List.getElem_cons_succ, List.getElem_cons_zero]
        refine wpAnyH_take (i := 15) (v := undef) rfl (by kernel_rfl) (by kernel_rfl) (by kernel_rfl) (fun _ _ _ h => h) (Or.inr ⟨by rfl, rfl⟩) hHeld ?_
        try simp only [Act.put, List.setIfInBounds_toArray, List.set_cons_zero, List.set_cons_succ, List.getElem_toArray, List.getElem_cons_succ, List.getElem_cons_zero]
        refine wpAnyH_take (i := 16) (v := undef) rfl (by kernel_rfl) (by kernel_rfl) (by kernel_rfl) (fun _ _ _ h => h) (Or.inr ⟨by rfl, rfl⟩) hHeld ?_
        try simp only [Act.put, List.setIfInBounds_toArray, List.set_cons_zero, List.set_cons_succ, List.getElem_toArray, List.getElem_cons_succ, List.getElem_cons_zero]
        refine wpAnyH_take (i := 17) (v := undef) rfl (by kernel_rfl) (by kernel_rfl) (by kernel_rfl) (fun _ _ _ h => h) (Or.inr ⟨by rfl, rfl⟩) hHeld ?_
        try simp only [Act.put, List.setIfInBounds_toArray, List.set_cons_zero, List.set_cons_succ, List.getElem_toArray, List.getElem_cons_succ, List.getElem_cons_zero]
        refine wpAnyH_take (i := 18) (v := undef) rfl (by kernel_rfl) (by kernel_rfl) (by kernel_rfl) (fun _ _ _ h => h) (Or.inr ⟨by rfl, rfl⟩) hHeld ?_
        try simp only [Act.put, List.setIfInBounds_toArray, List.set_cons_zero, List.set_cons_succ, List.getElem_toArray, List.getElem_cons_succ, List.getElem_cons_zero]
        refine wpAnyH_take (i := 19) (v := undef) rfl (by kernel_rfl) (by kernel_rfl) (by kernel_rfl) (fun _ _ _ h => h) (Or.inr ⟨by rfl, rfl⟩) hHeld ?_
        try simp only [Act.put, List.setIfInBounds_toArray, List.set_cons_zero, List.set_cons_succ, List.getElem_toArray, List.getElem_cons_succ, List.getElem_cons_zero]
        refine wpAnyH_take (i := 20) (v := ?_) rfl (by kernel_rfl) (by kernel_rfl) (by kernel_rfl) (fun _ _ _ h => h) (Or.inl ⟨by rfl, ?_⟩) hHeld ?_
        rotate_left
        · intro W hSw
          obtain ⟨hs1, _⟩ := hSw
          go_simp
          try with_reducible rfl
        try simp only [Act.put, List.setIfInBounds_toArray, List.set_cons_zero, List.set_cons_succ, List.getElem_toArray, List.getElem_cons_succ, List.getElem_cons_zero]
        refine wpAnyH_take (i := 21) (v := ?_) rfl (by kernel_rfl) (by kernel_rfl) (by kernel_rfl) (fun _ _ _ h => h) (Or.inl ⟨by rfl, ?_⟩) hHeld ?_
        rotate_left
        · intro W hSw
          obtain ⟨hs1, _⟩ := hSw
          go_simp
          try with_reducible rfl
        try simp only [Act.put, List.setIfInBounds_toArray, List.set_cons_zero, List.set_cons_succ, List.getElem_toArray, List.getElem_cons_succ, List.getElem_cons_zero]
        refine wpAnyH_done (by kernel_rfl) ?_ _
        have hc0 : (World.drew wr).cell? (ad.add k) = some (.string y) := hst.1
        have HE := Lib.hid (show Below w.heap.size w (World.drew wr) from hst.2.drew)
        clear hst
        have HIN := Lib.hid (in_step (q := q) hlt)
        generalize World.drew wr = wd at hc0 HE ⊢
        cases h
        · obtain ⟨t, ht⟩ : ∃ t, (y.toList == q.toList) = t := ⟨_, rfl⟩
          have HT := Lib.hid ht
          go_wp2_with fail
          go_roundw
          case rel => exact ⟨k + 1, by omega, by go_num, t, rfl, Lib.hid ⟨by rw [HIN.out, ← HR.out.1, HY.out, HT.out, Bool.false_or], HS2.out, HE.out⟩⟩
          case measure => simp [intOf]; omega
        · clear hc0
          go_wp2_with fail
          go_roundw
          case rel => exact ⟨k + 1, by omega, by go_num, true, rfl, Lib.hid ⟨by rw [HIN.out, ← HR.out.1, Bool.true_or], HS2.out, HE.out⟩⟩
          case measure => simp [intOf]; omega
    · have HF := Lib.hid (HR.out.2.1.keys (q := q) (by omega))
      have HH := HR.out.1
      have HHH := Lib.hid HH
      clear HH
      by_cases h4 : b.length ≤ 4
      · have h4' : (b.length : Int) ≤ 4 := by omega
        have HE4 := Lib.hid h4
        cases h
        · go_wp2_with fail
          go_ret
          exact ⟨Key.ret_bool (by rw [HF.out, ← HHH.out, Bool.false_and]), HR.out.2.2⟩
        · go_wp2_with fail
          go_ret
          exact ⟨Key.ret_bool (by rw [HF.out, ← HHH.out, decide_eq_true HE4.out, Bool.true_and]), HR.out.2.2⟩
      · have h4' : ¬ (b.length : Int) ≤ 4 := by omega
        have HE4 := Lib.hid h4
        cases h
        · go_wp2_with fail
          go_ret
          exact ⟨Key.ret_bool (by rw [HF.out, ← HHH.out, Bool.false_and]), HR.out.2.2⟩
        · go_wp2_with fail
          go_ret
          exact ⟨Key.ret_bool (by rw [HF.out, ← HHH.out, decide_eq_false HE4.out, Bool.true_and]), HR.out.2.2⟩

theorem index_any (A : Option Addr) (b : List ByteArray) (cap : Nat) (q : ByteArray) (w : World) (h : Str.Lies w w.heap.size A b) (hl : b.length ≤ maxLen) :
    Calls Try.prog 115 #[Str.slV A b cap, .string q] w fun x w' => (∃ n : Int, x = .returned (.int .i64 n) ∧ ((q ∈ b ∧ 0 ≤ n ∧ n < 9223372036854775807) ∨ (¬ q ∈ b ∧ n = -1))) ∧ w = w' := by
  have hl2 := hl
  unfold maxLen at hl2
  unfold Str.slV
  have H := Lib.hid h
  clear h
  go_enter Try.func115, Try.ntmps115
  go_wp2_with fail
  go_loop [8] (fun i => ∃ k : Nat, k ≤ b.length ∧ i = .int .i64 k ∧ Hid (∀ j (hj : j < b.length), j < k → ¬ b[j] = q)) (fun i => b.length - (intOf i).toNat)
  case atStart => exact ⟨0, by omega, rfl, Lib.hid fun j hj hjk => absurd hjk (by omega)⟩
  case round =>
    obtain ⟨k, hk, rfl, HR⟩ := hrel
    by_cases hlt : k < b.length
    · obtain ⟨ad, rfl, _, hat⟩ := H.out.at_ hlt
      obtain ⟨y, hy⟩ : ∃ y, b[k] = y := ⟨_, rfl⟩
      have HY := Lib.hid hy
      rw [hy] at hat
      clear hy
      by_cases he : q = y
      · have HE := Lib.hid he
        have e0 := Str.str_eq he
        clear he
        have HQ := Lib.hid (show q ∈ b by rw [HE.out, ← HY.out]; exact List.getElem_mem hlt)
        go_wp2_with fail
        go_ret
        exact ⟨⟨k, rfl, .inl ⟨HQ.out, by omega, by omega⟩⟩, rfl⟩
      · have HE := Lib.hid he
        have e0 := Str.str_ne he
        clear he
        go_wp2_with fail
        go_round
        case rel =>
          refine ⟨k + 1, by omega, by go_num, Lib.hid fun j hj hjk => ?_⟩
          by_cases e : j = k
          · subst e; rw [HY.out]; exact fun e => HE.out e.symm
          · exact HR.out j hj (by omega)
        case measure => simp [intOf]; omega
    · have HQ := Lib.hid (show ¬ q ∈ b from fun hq => by
        obtain ⟨j, hj, e⟩ := List.getElem_of_mem hq
        exact HR.out j hj (by omega) e)
      go_wp2_with fail
      go_ret
      exact ⟨⟨-1, rfl, .inr ⟨HQ.out, rfl⟩⟩, rfl⟩

theorem contains_any (A : Option Addr) (b : List ByteArray) (cap : Nat) (q : ByteArray) (w : World) (h : Str.Lies w w.heap.size A b) (hl : b.length ≤ maxLen) :
    Calls Try.prog 112 #[Str.slV A b cap, .string q] w fun x w' => x = .returned (.bool (inB b b.length q)) ∧ w = w' := by
  have hI := index_any A b cap q w h hl
  have HI := Lib.hid hI
  clear h hI
  unfold Str.slV at HI
  unfold Str.slV
  go_enter Try.func112, Try.ntmps112
  go_wp2_with fail
  refine HI.out.mono ?_
  rintro e w' ⟨⟨n, rfl, hn⟩, rfl⟩
  rcases hn with ⟨hq, h0, h1⟩ | ⟨hq, rfl⟩
  · have HQ := Lib.hid (show inB b b.length q = true from in_true.2 (by rw [List.take_length]; exact hq))
    clear hq
    go_wp2_with fail
    go_ret
    exact ⟨Key.ret_bool (by rw [HQ.out]), rfl⟩
  · have HQ := Lib.hid (show inB b b.length q = false from by
      cases e : inB b b.length q
      · rfl
      · exact absurd (by have := in_true.1 e; rwa [List.take_length] at this) hq)
    clear hq
    go_wp2_with fail
    go_ret
    exact ⟨Key.ret_bool (by rw [HQ.out]), rfl⟩
end Go.Proofs.Ytegnjbdgeibhfaa.Rec
