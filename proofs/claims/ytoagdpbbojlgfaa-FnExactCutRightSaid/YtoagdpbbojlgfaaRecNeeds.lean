/-
  What a record asks of the others: spec.l04Needs.
-/
import Derived.Test.YtoagdpbbojlgfaaRecBox
import Derived.Test.YtoagdpbbojlgfaaPackPut
import Derived.BigQuiet
import Derived.StillTailTactics
namespace Go.Proofs.Ytoagdpbbojlgfaa.Rec
open Go.ChangeShapes Go.WideShapes Go.ChangeAt Go.RowKit
open Dep (D I putV flat)
set_option linter.unusedVariables false
set_option maxRecDepth 100000
set_option linter.unusedSimpArgs false

/-- The deps gathered so far, in a row of one's own. -/
def Gath (w : World) (ad : Addr) (c : Nat) (l : List D) (wr : World) : Prop :=
  wr.ownsRow w.heap.size 63 4 (Dep.slV (some ad) l c) l.length (flat l) ∧ (l.length ≤ c ∧ c ≤ maxLen ∧ Dep.Lies wr wr.heap.size (some ad) l)
theorem Gath.drewN {w wr : World} {ad : Addr} {c : Nat} {l : List D} (h : Gath w ad c l wr) (n : Nat) : Gath w ad c l (wr.drewN n) := h
theorem blk_drewN {W : World} {b t : Nat} {cs : Array Value} (h : Blk W b t cs) (n : Nat) : Blk (W.drewN n) b t cs := h

set_option maxHeartbeats 2000000 in
theorem specNeeds0_any (r : R) (p : P) (w : World) (h : Lies w w.heap.size r p) (hl : r.l.length ≤ 400) (hb : r.b.length ≤ 400) :
    Calls Try.prog 27 #[recV r p] w fun e w' => ∃ v, e = .returned v ∧ w'.ownsRow w.heap.size 63 4 v (needs r.l r.b r.k r.i).length (flat (needs r.l r.b r.k r.i)) ∧ (v = .slice none 0 0 → False) ∧ Below w.heap.size w w' := by
  have B0 := ((Below.refl w.heap.size w).alloc (Nat.le_refl _) (.cells (cellsV r p) 47)).alloc (by simp) (Obj.cells #[] 63)
  have HA := Lib.hid ((h.1.below B0 (Nat.le_refl _)).more B0.size)
  have X0 := Lib.hid ((Blk.new w 47 (cellsV r p)).alloc (Obj.cells #[] 63))
  have HB0 := Lib.hid B0
  have HS := Lib.hid h.2
  clear h B0
  unfold recV
  go_enter Try.func27, Try.ntmps27
  have ON := Dep.own_none (w.alloc (.cells (cellsV r p) 47))
  simp only [World.size_alloc] at ON
  have HON := Lib.hid ON
  clear ON
  go_wp2_with (at_builtin; refine Dep.wpList_append_deps2 rfl rfl rfl r.l rfl rfl rfl HON.out HA.out (by omega) (by simp) ?_; intro v1 W1 ho1 hg1 hn1; rw [Nat.zero_add, List.nil_append] at ho1; have B1 := Lib.hid (HB0.out.grown hg1 HB0.out.size (fun j e => by cases e; exact Nat.le_succ _)); have X1 := Lib.hid (show Blk W1 w.heap.size 47 (cellsV r p) from (hg1.block _ X0.out.lt (fun e => by have e2 : w.heap.size = w.heap.size + 1 := Option.some.inj e; omega)).trans X0.out); have HO1 := Lib.hid (Dep.own_less ho1 (base' := w.heap.size) (Nat.le_succ _)); have HN1 := Lib.hid (fun e => by cases hn1 e : v1 = .slice none 0 0 → False); clear ho1 hg1 hn1)
  obtain ⟨_, ad, c, rfl, hc1, hc2, hL⟩ := Dep.own_addr HO1.out HN1.out
  unfold Dep.slV
  go_loopw [3, 4] (fun o i wr => ∃ k : Nat, k ≤ r.b.length ∧ i = .int .i64 k ∧ ∃ ad c, o = .slice (some ad) (needs r.l (r.b.take k) r.k r.i).length c ∧ Hid (Gath w ad c (needs r.l (r.b.take k) r.k r.i) wr ∧ Below w.heap.size w wr ∧ Blk wr w.heap.size 47 (cellsV r p))) (fun _ i _ => r.b.length - (intOf i).toNat)
  case atStart => exact ⟨0, by omega, rfl, ad, c, rfl, Lib.hid ⟨⟨HO1.out, ⟨hc1, hc2, hL⟩⟩, B1.out, X1.out⟩⟩
  case round =>
    obtain ⟨k, hk, rfl, ad2, cc, rfl, HR⟩ := hrel
    obtain ⟨x0, x1, x2, x3, x4, x5, x6, x7⟩ := cells8 HR.out.2.2
    by_cases hlt : k < r.b.length
    · obtain ⟨bd, hbd, _, c0⟩ := (HS.out.below HR.out.2.1 (Nat.le_refl _)).at_ hlt
      rw [hbd] at x7
      have x7eq := hbd
      obtain ⟨y, hy⟩ : ∃ y, r.b[k] = y := ⟨_, rfl⟩
      have HY := Lib.hid hy
      rw [hy] at c0
      clear hy
      have X7 := Lib.hid hbd
      clear hbd x7eq
      by_cases he : y = r.k
      · have e0 := Str.str_eq he
        have HE := Lib.hid (needs_skip (l := r.l) (q := r.k) (i := r.i) hlt (by rw [HY.out]; exact he))
        clear he
        go_upto_region 5 with fail
        go_quiet (fail)
        go_wp2_with fail
        go_roundw
        case rel => exact ⟨k + 1, by omega, by go_num, ad2, cc, by rw [HE.out], Lib.hid ⟨by rw [HE.out]; exact HR.out.1.drewN _, Str.drewN_below HR.out.2.1 _, blk_drewN HR.out.2.2 _⟩⟩
        case measure => simp [intOf]; omega
      · have e0 := Str.str_ne he
        have HE := Lib.hid (needs_put (l := r.l) (q := r.k) (i := r.i) hlt (by rw [HY.out]; exact he))
        clear he
        go_upto_region 5 with fail
        go_quiet (fail)
        rename_i nq
        have hg2 := HR.out.1.drewN nq
        have HB2 := Str.drewN_below HR.out.2.1 nq
        have HX2 := blk_drewN HR.out.2.2 nq
        have c02 : (wr.drewN nq).cell? (bd.add k) = some (.string y) := c0
        generalize World.drewN wr nq = wq at hg2 HB2 HX2 c02 ⊢
        have HG2 := Lib.hid hg2
        have HBQ := Lib.hid HB2
        have HXQ := Lib.hid HX2
        clear hg2 HB2
        obtain ⟨z0, z1, z2, z3, z4, z5, z6, z7⟩ := cells8 HX2
        rw [X7.out] at z7
        clear HX2
        go_upto_region 6 with fail
        refine wp_region_still_tail 8 (by kernel_rfl) (by kernel_rfl) ?_
        change wpStill _ _ (World.drew _) (fun a' => wpList _ _ _ _ a' (World.drew _)) _ _
        simp only [List.take_succ_cons, List.take_zero, List.drop_succ_cons, List.drop_zero]
        repeat still_step
        refine wpStill_nil ?_
        go_wp2_with fail
        have hlen := needs_length r.l (r.b.take k) r.k r.i
        rw [List.length_take] at hlen
        refine (Dep.specPut_any ad2 (needs r.l (r.b.take k) r.k r.i) cc y r.i wq.drew HG2.out.2.2.2.drew (by omega) HG2.out.2.1 HG2.out.2.2.1).mono ?_
        rintro e w2 ⟨v, rfl, ho2, hb2⟩
        obtain ⟨_, ad3, c4, rfl, hd1, hd2, hL3⟩ := Dep.own_addr ho2 (Dep.put_ne ho2)
        rw [HY.out] at HE
        have HO := Lib.hid (Dep.own_less ho2 (base' := w.heap.size) HBQ.out.size)
        have HB2 := Lib.hid ((HBQ.out.drew).trans (hb2.mono HBQ.out.size))
        have HX2 := Lib.hid ((show Blk wq.drew w.heap.size 47 (cellsV r p) from HXQ.out).on hb2)
        have HG := Lib.hid (show Gath w ad3 c4 (needs r.l (r.b.take (k + 1)) r.k r.i) w2 from by rw [HE.out]; exact ⟨HO.out, hd1, hd2, hL3⟩)
        rw [← HE.out]
        clear ho2 hb2 hL3 hd1 hd2
        unfold Dep.slV
        go_wp2_with fail
        go_roundw
        case rel => exact ⟨k + 1, by omega, by go_num, ad3, c4, rfl, Lib.hid ⟨HG.out, HB2.out, HX2.out⟩⟩
        case measure => simp [intOf]; omega
    · have e : k = r.b.length := by omega
      go_wp2_with fail
      go_ret
      have h1 := HR.out.1.1
      rw [List.take_of_length_le (by omega)] at h1
      exact ⟨_, rfl, h1, (fun e => by cases e), HR.out.2.1⟩
end Go.Proofs.Ytoagdpbbojlgfaa.Rec
