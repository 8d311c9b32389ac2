/-
  slices.Clone, slices.Grow of nothing, slices.Concat at records.
-/
import Derived.Test.YtoagdpbbojlgfaaRsApp
import Derived.Lib.AppendZeros
import Derived.Lib.BufferMore
namespace Go.Proofs.Ytoagdpbbojlgfaa.Rs
open Go.ChangeShapes Go.WideShapes Go.ChangeAt Go.RowKit
open Net (Cl Bk HeldV)
open Rec (R P)
set_option linter.unusedVariables false
set_option maxRecDepth 100000
set_option linter.unusedSimpArgs false

theorem cloneQ_any (ad : Addr) (s : List Q) (c : Nat) (w : World) (h : LRs w w.heap.size (some ad) s) (hl : s.length ≤ 1000000) :
    Calls Try.prog 43 #[.slice (some ad) s.length c] w fun e w' => ∃ v, e = .returned v ∧ w'.ownsRow w.heap.size 47 8 v s.length (rv s) ∧ (v = .slice none 0 0 → False) ∧ Below w.heap.size w w' := by
  have B0 := (Below.refl w.heap.size w).alloc (Nat.le_refl _) (Obj.cells #[] 47)
  have HC := Lib.hid ((h.1.below B0 (Nat.le_refl _)))
  have HB0 := Lib.hid B0
  have hbe := fun V : World => Lib.run_eql_slice_some_nil (P := Try.prog) V ad s.length c Try.underlying27
  clear h B0
  go_enter Try.func43, Try.ntmps43
  go_wp2_with (at_builtin; refine wpList_app fit_recs rfl rfl rfl (rv s) rfl rfl (o_none w _ _) HC.out (by rw [rv_len]) (rv_one s) (by omega) (by simp) ?_; intro v1 W1 ho1 hg1 hn1; rw [Nat.zero_add, List.nil_append] at ho1; have B1 := Lib.hid (HB0.out.grown hg1 (by simp) (fun j e => by cases e; exact Nat.le_refl _)); have HO1 := Lib.hid ho1; have HN1 := Lib.hid (fun e => by cases (hn1 e).1 : v1 = .slice none 0 0 → False); clear ho1 hg1 hn1)
  go_ret
  exact ⟨v1, rfl, HO1.out, HN1.out, B1.out⟩

theorem growNil_any (n : Nat) (w : World) (hn : n ≤ 1000000) :
    Calls Try.prog 90 #[.slice none 0 0, .int .i64 n] w fun e w' => ∃ v, e = .returned v ∧ w'.ownsRow w.heap.size 47 8 v 0 [] ∧ Below w.heap.size w w' := by
  have h1 : ¬ ((n : Int) < 0) := by omega
  by_cases h0 : n = 0
  · subst h0
    go_enter Try.func90, Try.ntmps90
    go_wp2_with fail
    go_ret
    exact ⟨_, rfl, o_nil _ _ _ _, Below.refl _ _⟩
  · obtain ⟨i0, hi0, hz0, hz1, hz2⟩ := info_parts rec_info
    have h4 : (0 : Int) < n := by omega
    have hrz : ∀ ty, (Builtin.append_ #[27, 3] ty #[.slice none 0 0, .int .i64 n]).run Try.prog w = _ := fun ty =>
      Lib.run_append_nil_zeros (P := Try.prog) w 27 3 ty 47 i0 _ .i64 .i64 Try.underlying27 Try.underlying3 hi0 hz0 n (by omega) (by rw [hz1]; omega) (by omega) (by rw [hz2]; omega)
    have hG1 := grownCap_ge w n 0 47
    have hG2 := grownCap_le_maxLen w n 0 47 (by unfold maxLen; omega)
    obtain ⟨G, hG⟩ : ∃ G, grownCap w n 0 47 = G := ⟨_, rfl⟩
    rw [hG] at hrz hG1 hG2
    clear hG hi0 hz0 hz1 hz2
    have hG3 := hG2
    unfold maxLen at hG3
    go_enter Try.func90, Try.ntmps90
    go_wp2_with (at_builtin; refine Lib.wpList_append_run _ rfl _ _ _ _ rfl _ _ rfl rfl _ _ (hrz _) ?_)
    go_ret
    refine ⟨_, rfl, ⟨by simp, .inr ⟨w.heap.size, G, _, rfl, Nat.le_refl _, (show (w.alloc _).heap[w.heap.size]? = _ from heap_alloc_new w _), Nat.zero_le _, hG2, ?_, by simp⟩⟩, ((Below.refl _ _).alloc (Nat.le_refl _) _).drew⟩
    rw [Array.size_append, size_zeroCells, size_zeroCells, ← Nat.add_mul]
    show (n + (G - n)) * 8 = G * 8
    omega

/-- A slice of records with its header. -/
structure Ql where
  A : Option Addr
  l : List Q
  c : Nat
def flatQ (ds : List Ql) : List Q := ds.flatMap (·.l)
theorem flat_snoc (ds : List Ql) (k : Nat) (h : k < ds.length) : flatQ (ds.take (k + 1)) = flatQ (ds.take k) ++ ds[k].l := by
  unfold flatQ; rw [take_snoc ds k h, List.flatMap_append]; simp
theorem flat_le (ds : List Ql) (k : Nat) : (flatQ (ds.take k)).length ≤ (flatQ ds).length := by
  have e : flatQ ds = flatQ (ds.take k) ++ flatQ (ds.drop k) := by unfold flatQ; rw [← List.flatMap_append, List.take_append_drop]
  rw [e, List.length_append]; omega

set_option maxHeartbeats 4000000 in
set_option maxRecDepth 100000 in
theorem concat_any (ad : Addr) (ds : List Ql) (cap : Nat) (w : World) (had : ad.block < w.heap.size) (hc : ∀ k (h : k < ds.length), w.cell? (ad.add k) = some (.slice ds[k].A ds[k].l.length ds[k].c)) (hL : ∀ k (h : k < ds.length), LRs w w.heap.size ds[k].A ds[k].l) (hn : ds.length ≤ 400) (hl : (flatQ ds).length ≤ 1000000) :
    Calls Try.prog 71 #[.slice (some ad) ds.length cap] w fun e w' => ∃ v, e = .returned v ∧ w'.ownsRow w.heap.size 47 8 v (flatQ ds).length (rv (flatQ ds)) ∧ Below w.heap.size w w' := by
  have HC := Lib.hid hc
  have HL := Lib.hid hL
  have HLL := Lib.hid hl
  have HFL := Lib.hid (flat_le ds)
  have HAD := Lib.hid had
  have HGR := Lib.hid (fun (n : Nat) (W : World) (h : n ≤ 1000000) => growNil_any n W h)
  clear hc hL hl had
  go_enter Try.func71, Try.ntmps71
  go_wp2_with fail
  go_loopw [3, 11] (fun z i wr => ∃ k : Nat, k ≤ ds.length ∧ i = .int .i64 k ∧ ∃ m : Nat, z = .int .i64 m ∧ m ≤ 1000000 ∧ Hid (m = (flatQ (ds.take k)).length ∧ Below w.heap.size w wr)) (fun _ i _ => ds.length - (intOf i).toNat)
  case atStart => exact ⟨0, by omega, rfl, 0, rfl, by omega, Lib.hid ⟨rfl, Below.refl _ _⟩⟩
  case round =>
    obtain ⟨k, hk, rfl, m, rfl, hm, HR⟩ := hrel
    by_cases hlt : k < ds.length
    · have c0 := (HR.out.2.cell (p := ad.add k) (by rw [Dep.add_block]; exact HAD.out)).trans (HC.out k hlt)
      have HS := Lib.hid (flat_snoc ds k hlt)
      have hle : m + ds[k].l.length ≤ 1000000 := by
        have h1 := HFL.out (k + 1)
        rw [HS.out, List.length_append, ← HR.out.1] at h1
        have := HLL.out
        omega
      obtain ⟨x, hx⟩ : ∃ x, ds[k] = x := ⟨_, rfl⟩
      rw [hx] at c0 HS hle
      clear hx
      obtain ⟨xA, xl, xc⟩ := x
      simp only at c0 HS hle
      obtain ⟨n, hn⟩ : ∃ n, xl.length = n := ⟨_, rfl⟩
      have HN := Lib.hid hn
      rw [hn] at c0 hle
      clear hn
      have hneg : ¬ ((m : Int) + (n : Int) < 0) := by omega
      go_wp2_with fail
      go_roundw
      case rel => exact ⟨k + 1, by omega, by go_num, m + n, by simp, by omega, Lib.hid ⟨by rw [HS.out, List.length_append, ← HR.out.1, HN.out], HR.out.2⟩⟩
      case measure => simp [intOf]; omega
    · have HM := Lib.hid (show m = (flatQ ds).length by rw [HR.out.1, List.take_of_length_le (by omega)])
      have HB := Lib.hid HR.out.2
      clear HR
      go_wp2_with fail
      refine (HGR.out m _ hm).mono ?_
      rintro e w1 ⟨v, rfl, ho, hb⟩
      have HO := Lib.hid (o_less ho HB.out.size)
      have HB1 := Lib.hid (HB.out.trans (hb.mono HB.out.size))
      clear ho hb
      go_wp2_with fail
      go_loopw [6, 27] (fun o i wr => ∃ k : Nat, k ≤ ds.length ∧ i = .int .i64 k ∧ Hid (wr.ownsRow w.heap.size 47 8 o (flatQ (ds.take k)).length (rv (flatQ (ds.take k))) ∧ Below w.heap.size w wr)) (fun _ i _ => ds.length - (intOf i).toNat)
      case atStart => exact ⟨0, by omega, rfl, Lib.hid ⟨HO.out, HB1.out⟩⟩
      case round =>
        obtain ⟨k, hk, rfl, HR⟩ := hrel
        by_cases hlt : k < ds.length
        · have c0 := (HR.out.2.cell (p := ad.add k) (by rw [Dep.add_block]; exact HAD.out)).trans (HC.out k hlt)
          have HS := Lib.hid (flat_snoc ds k hlt)
          have HLX := Lib.hid ((HL.out k hlt).1.below HR.out.2 (Nat.le_refl _))
          have hle : (flatQ (ds.take k)).length + ds[k].l.length ≤ 1000000 := by
            have h1 := HFL.out (k + 1)
            rw [HS.out, List.length_append] at h1
            have := HLL.out
            omega
          have HLE := Lib.hid hle
          obtain ⟨x, hx⟩ : ∃ x, ds[k] = x := ⟨_, rfl⟩
          rw [hx] at c0 HS HLE HLX
          clear hx hle
          obtain ⟨xA, xl, xc⟩ := x
          simp only at c0 HS HLE HLX
          go_wp2_with (at_builtin; refine wpList_app fit_recs rfl rfl rfl (rv xl) rfl rfl HR.out.1 HLX.out (by rw [rv_len]) (rv_one _) (by have := HLE.out; omega) (by have := HR.out.2.size; omega) ?_; intro v2 W2 ho2 hg2 hn2; have B2 := Lib.hid (HR.out.2.grown hg2 HR.out.2.size (o_base HR.out.1)); rw [← rv_append, ← HS.out] at ho2; have O2 := Lib.hid ho2; clear ho2 hg2 hn2)
          go_roundw
          case rel => exact ⟨k + 1, by omega, by go_num, Lib.hid ⟨by rw [show (flatQ (ds.take (k + 1))).length = (flatQ (ds.take k)).length + xl.length by rw [HS.out, List.length_append]]; exact O2.out, B2.out⟩⟩
          case measure => simp [intOf]; omega
        · have e3 : ds.take k = ds := List.take_of_length_le (by omega)
          rw [e3] at HR
          clear e3
          go_wp2_with fail
          go_ret
          exact ⟨_, rfl, HR.out.1, HR.out.2⟩
end Go.Proofs.Ytoagdpbbojlgfaa.Rs
