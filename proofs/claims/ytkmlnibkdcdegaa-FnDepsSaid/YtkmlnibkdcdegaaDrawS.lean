/-
  The draws of the given package spec, on: a new source, a yes or no. What each answers lies in its range; of what was there nothing is written but the source.
-/
import Derived.Test.YtkmlnibkdcdegaaSrc
namespace Go.Proofs.Ytkmlnibkdcdegaa.Src
open Go.ChangeShapes Go.WideShapes Go.ChangeAt Go.RowKit
set_option linter.unusedVariables false
set_option maxRecDepth 100000

theorem below_of_grown {B b : Nat} {w w' : World} (hg : w.grownBy w' (some b)) (hB : B ≤ b) (hb : b < w.heap.size) : Below B w w' :=
  (Below.refl _ _).grown hg (by omega) (fun k hk => by cases hk; exact hB)
theorem grown_refl (w : World) (r : Option Nat) : w.grownBy w r := ⟨rfl, rfl, rfl, Nat.le_refl _, fun _ _ _ => rfl⟩
theorem grown_trans {w w1 w2 : World} {r : Option Nat} (h1 : w.grownBy w1 r) (h2 : w1.grownBy w2 r) : w.grownBy w2 r :=
  ⟨h2.os.trans h1.os, h2.tape.trans h1.tape, h2.output.trans h1.output, Nat.le_trans h1.size h2.size, fun k hk hn => (h2.block k (Nat.lt_of_lt_of_le hk h1.size) hn).trans (h1.block k hk hn)⟩
/-- Whatever is written above w's end. -/
theorem grown_above {w w1 w2 : World} {r : Option Nat} (h1 : w.grownBy w1 r) (h2 : Below w.heap.size w1 w2) : w.grownBy w2 r :=
  ⟨h2.os.trans h1.os, h2.tape.trans h1.tape, h2.output.trans h1.output, Nat.le_trans h1.size h2.size, fun k hk hn => (h2.block k hk).trans (h1.block k hk hn)⟩

/-- Block b is a source over bytes that came in below B. -/
def St (B b : Nat) (a : Option Addr) (len cap : Nat) (w : World) : Prop := B ≤ b ∧ b < w.heap.size ∧ Bytes B w a len cap ∧ IsSrc w b a len cap
theorem St.grown {B b : Nat} {a : Option Addr} {len cap : Nat} {w w' : World} (h : St B b a len cap w) (hg : w.grownBy w' (some b)) (hs : IsSrc w' b a len cap) : St B b a len cap w' :=
  ⟨h.1, Nat.lt_of_lt_of_le h.2.1 hg.size, h.2.2.1.below (below_of_grown hg h.1 h.2.1), hs⟩
/-- Behind what is written above b alone. -/
theorem St.above {B b : Nat} {a : Option Addr} {len cap : Nat} {w w' : World} (h : St B b a len cap w) (hb : Below (b + 1) w w') : St B b a len cap w' := by
  refine ⟨h.1, Nat.lt_of_lt_of_le h.2.1 hb.size, h.2.2.1.below (hb.mono (by have := h.1; omega)), ?_⟩
  obtain ⟨q, mix, size, h1, h2, h3, h4, h5, h6⟩ := h.2.2.2
  exact ⟨q, mix, size, h1, h2, h3, h4, h5, (hb.block b (by omega)).trans h6⟩

theorem n_st (B b len cap : Nat) (a : Option Addr) (m : Int) (w : World) (hm2 : m ≤ 4611686018427387904) (h : St B b a len cap w) :
    Calls Try.prog 51 #[.pointer (some ⟨b, 0, none⟩), .int .i64 m] w fun e w' => ∃ r : Int, e = .returned (.int .i64 r) ∧ 0 ≤ r ∧ (r < m ∨ (m ≤ 1 ∧ r = 0)) ∧ St B b a len cap w' ∧ w.grownBy w' (some b) :=
  (n_any B b len cap a m w hm2 h.1 h.2.2.1 h.2.2.2).mono fun e w' ⟨r, h1, h2, h3, h4, h5⟩ => ⟨r, h1, h2, h3, h.grown h5 h4, h5⟩

theorem one_st (B b len cap : Nat) (a : Option Addr) (m : Int) (w : World) (hm2 : m ≤ 4611686018427387904) (h : St B b a len cap w) :
    Calls Try.prog 48 #[.pointer (some ⟨b, 0, none⟩), .int .i64 m] w fun e w' => ∃ t : Bool, e = .returned (.bool t) ∧ St B b a len cap w' ∧ w.grownBy w' (some b) := by
  have HN := Lib.hid (n_st B b len cap a m w hm2 h)
  clear h
  go_enter Try.func48, Try.ntmps48
  go_wp2_with fail
  refine HN.out.mono ?_
  rintro e w1 ⟨r, rfl, h1, h2, h3, h4⟩
  have H3 := Lib.hid h3
  have H4 := Lib.hid h4
  clear h3 h4 h2
  go_wp2_with fail
  go_ret
  exact ⟨_, rfl, H3.out, H4.out⟩

theorem below_new {w W : World} {o : Obj} (h : (w.alloc o).grownBy W (some w.heap.size)) : Below w.heap.size w W :=
  ⟨h.os, h.tape, h.output, by have := h.size; simp at this; omega, fun k hk => (h.block k (by simp; omega) (fun e => by cases e; omega)).trans (heap_alloc_old w o hk)⟩
theorem src_end {B len cap : Nat} {a : Option Addr} {w W : World} {o : Obj} {mix size : Int} (hB : B ≤ w.heap.size) (hc : Bytes B w a len cap) (h0 : 0 ≤ mix) (h1 : mix < 18446744073709551616) (h2 : 0 ≤ size) (h3 : size ≤ 12)
    (h : Inv (w.alloc o) w.heap.size (.slice a len cap) (.int .i64 0) (.int .u64 mix) (.int .i64 size) W) : St B w.heap.size a len cap W :=
  ⟨hB, by have := h.2.size; simp at this; omega, hc.below ((below_new h.2).mono hB), ⟨0, mix, size, Nat.zero_le _, h0, h1, h2, h3, h.1⟩⟩

set_option maxRecDepth 100000 in
set_option maxHeartbeats 4000000 in
theorem source_any (B : Nat) (a : Option Addr) (len cap : Nat) (w : World) (hB : B ≤ w.heap.size) (hc : Bytes B w a len cap) :
    Calls Try.prog 43 #[.slice a len cap] w fun e w' => e = .returned (.pointer (some ⟨w.heap.size, 0, none⟩)) ∧ St B w.heap.size a len cap w' ∧ Below w.heap.size w w' := by
  have hlen := hc.1
  have HC := Lib.hid hc
  clear hc
  go_enter Try.func43, Try.ntmps43
  go_wp2
  go_loopw [4] (fun i wr => ∃ k : Nat, k ≤ len ∧ k ≤ 64 ∧ i = .int .i64 k ∧ ∃ mix : Int, 0 ≤ mix ∧ mix < 18446744073709551616 ∧
      Hid (Inv (w.alloc (.cells #[.slice a len cap, .int .i64 0, .int .u64 88172645463325252, .int .i64 0] 101)) w.heap.size (.slice a len cap) (.int .i64 0) (.int .u64 mix) (.int .i64 0) wr)) (fun i _ => 65 - (intOf i).toNat)
  case atStart => exact ⟨0, by omega, by omega, rfl, 88172645463325252, by omega, by omega, Lib.hid (Inv.refl (heap_alloc_new w _))⟩
  case round =>
    obtain ⟨k, hk, hk64, rfl, mix, hm0, hm1, HI⟩ := hrel
    have hb2 := HI.out.c2
    have hf2 := HI.out.fr 2
    have hb3 := HI.out.c3
    have hf3 := HI.out.fr 3
    have HIB := Lib.hid (below_new HI.out.2)
    by_cases h1 : k < len
    · by_cases h2 : k < 64
      · obtain ⟨cb, co, rfl, hcb, hcz⟩ := HC.out.2 (by omega)
        obtain ⟨z, hz0, hz1, hcz⟩ := hcz k h1
        have hcz2 : wr.cell? ⟨cb, co + k, none⟩ = some (.int .u8 z) := (HIB.out.cell (p := ⟨cb, co + k, none⟩) (by show cb < w.heap.size; omega)).trans hcz
        clear hcz hb3 hf3
        have hk0 : (0 : Int) ≤ (k : Int) := by omega
        have hk1 : (k : Int) < (len : Int) := by omega
        go_wp2
        refine wp_region_still_tail 14 (by kernel_rfl) (by kernel_rfl) ?_
        change wpStill _ _ (World.drew _) (fun a' => wpList _ _ _ _ a' (World.drew _)) _ _
        simp only [List.take_succ_cons, List.take_zero, List.drop_succ_cons, List.drop_zero]
        repeat still_step
        refine wpStill_nil ?_
        go_wp2
        go_roundw
        case rel => exact ⟨k + 1, by omega, by omega, by go_num, IntKind.u64.wrap (bits BinOp.xor IntKind.u64 mix z * 1099511628211), (bounds_u64 (wf_wrap .u64 _)).1, by have := (bounds_u64 (wf_wrap .u64 (bits BinOp.xor IntKind.u64 mix z * 1099511628211))).2; omega, Lib.hid ((HI.out.set2 _).drew)⟩
        case measure => simp [intOf]; omega
      · have h3 : ¬ (k : Int) < 64 := by omega
        by_cases h4 : 12 < (len : Int) / 20
        · go_wp2
          go_ret
          exact ⟨rfl, src_end hB HC.out hm0 hm1 (by omega) (by omega) ((HI.out.set3 _).set3 _), below_new ((HI.out.set3 _).set3 _).2⟩
        · go_wp2
          go_ret
          exact ⟨rfl, src_end hB HC.out hm0 hm1 (by omega) (by omega) (HI.out.set3 _), below_new (HI.out.set3 _).2⟩
    · have h3 : ¬ (k : Int) < (len : Int) := by omega
      have h4 : ¬ 12 < (len : Int) / 20 := by omega
      go_wp2
      go_ret
      exact ⟨rfl, src_end hB HC.out hm0 hm1 (by omega) (by omega) (HI.out.set3 _), below_new (HI.out.set3 _).2⟩

end Go.Proofs.Ytkmlnibkdcdegaa.Src
