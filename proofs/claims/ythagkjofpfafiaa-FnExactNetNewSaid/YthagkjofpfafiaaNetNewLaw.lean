/-
  FnExactNetNew answers true at every number.
-/
import Derived.Test.YthagkjofpfafiaaNetFew
namespace Go.Proofs.Ythagkjofpfafiaa.Net
open Go.ChangeShapes Go.WideShapes Go.ChangeAt Go.RowKit
open Sto (R Sl)
set_option linter.unusedVariables false
set_option maxRecDepth 100000
set_option linter.unusedSimpArgs false

set_option maxHeartbeats 8000000 in
set_option maxRecDepth 100000 in
theorem lawNew_any (k : Int)  {hb : Prop} (_ : hb) (w : World) :
    Calls Try.prog 4 #[.int .i64 k] w fun e w' => e = .returned (.bool true) ∧ Below w.heap.size w w' := by
  have bw := Lib.hid (Below.refl w.heap.size w)
  go_enter Try.func4, Try.ntmps4
  have HSM := Lib.hid (newP_sm k)
  obtain ⟨jp, hjp⟩ : ∃ jp, newP k = jp := ⟨_, rfl⟩
  obtain ⟨jc, hjc⟩ : ∃ jc, newC k = jc := ⟨_, rfl⟩
  have HPF := Lib.hid hjp
  have HCF := Lib.hid hjc
  rw [hjp] at HSM
  clear hjp hjc
  go_wp2_with fail
  refine (specNew_any k _).mono ?_
  rintro e v1 hans
  rw [HCF.out, HPF.out] at hans
  obtain ⟨w0n, rfl, w0p, hh, hb⟩ := hans
  have w0P := Lib.hid w0p
  clear w0p
  unfold Nt.out
  have bw := Lib.hid (bw.out.trans (hb.mono bw.out.size))
  have sz1 := Lib.hid (show w.heap.size ≤ v1.heap.size from hb.size)
  have w0 := Lib.hid (show HeldN v1 w0n w.heap.size v1.heap.size from hh)
  clear hb
  clear hh
  have w0F := Lib.hid (fewA_of w0P.out HSM.out)
  go_wp2_with fail
  have bw := Lib.hid (bw.out.alloc bw.out.size (Obj.cells #[Value.slice w0n.A w0n.s.length w0n.ca, Value.slice w0n.B w0n.m.length w0n.cb, Value.int IntKind.i64 jc] 36))
  have w0 := Lib.hid (w0.out.step ((Below.refl _ v1).alloc (Nat.le_refl _) (Obj.cells #[Value.slice w0n.A w0n.s.length w0n.ca, Value.slice w0n.B w0n.m.length w0n.cb, Value.int IntKind.i64 jc] 36)) (.inr (Nat.le_refl _)))
  have o0 := Lib.hid (show Blk (World.alloc v1 (Obj.cells #[Value.slice w0n.A w0n.s.length w0n.ca, Value.slice w0n.B w0n.m.length w0n.cb, Value.int IntKind.i64 jc] 36)) v1.heap.size 36 #[Value.slice w0n.A w0n.s.length w0n.ca, Value.slice w0n.B w0n.m.length w0n.cb, Value.int IntKind.i64 jc] from Blk.new v1 36 #[Value.slice w0n.A w0n.s.length w0n.ca, Value.slice w0n.B w0n.m.length w0n.cb, Value.int IntKind.i64 jc])
  have sz2 := Lib.hid (show v1.heap.size + 1 = (World.alloc v1 (Obj.cells #[Value.slice w0n.A w0n.s.length w0n.ca, Value.slice w0n.B w0n.m.length w0n.cb, Value.int IntKind.i64 jc] 36)).heap.size by simp)
  generalize World.alloc v1 _ = v2 at bw w0 o0 sz2 ⊢
  refine (implNew_any k _).mono ?_
  rintro e v3 hans
  rw [HCF.out, HPF.out] at hans
  obtain ⟨w1n, rfl, w1p, hh, hb⟩ := hans
  have w1P := Lib.hid w1p
  clear w1p
  unfold Nt.out
  have bw := Lib.hid (bw.out.trans (hb.mono bw.out.size))
  have w0 := Lib.hid (w0.out.step hb (.inr (Nat.le_refl _)))
  have o0 := Lib.hid (o0.out.on hb)
  have sz3 := Lib.hid (show v2.heap.size ≤ v3.heap.size from hb.size)
  have w1 := Lib.hid (show HeldN v3 w1n v2.heap.size v3.heap.size from hh)
  clear hb
  clear hh
  have w1F := Lib.hid (fewA_of w1P.out HSM.out)
  obtain ⟨o0c0, o0c1, o0c2⟩ := blk3 (o0.out.alloc (Obj.cells #[Value.slice w1n.A w1n.s.length w1n.ca, Value.slice w1n.B w1n.m.length w1n.cb, Value.int IntKind.i64 jc] 36))
  go_wp2_with fail
  clear o0c0 o0c1 o0c2
  have bw := Lib.hid (bw.out.alloc bw.out.size (Obj.cells #[Value.slice w1n.A w1n.s.length w1n.ca, Value.slice w1n.B w1n.m.length w1n.cb, Value.int IntKind.i64 jc] 36))
  have w0 := Lib.hid (w0.out.step ((Below.refl _ v3).alloc (Nat.le_refl _) (Obj.cells #[Value.slice w1n.A w1n.s.length w1n.ca, Value.slice w1n.B w1n.m.length w1n.cb, Value.int IntKind.i64 jc] 36)) (.inr (Nat.le_refl _)))
  have o0 := Lib.hid (o0.out.alloc (Obj.cells #[Value.slice w1n.A w1n.s.length w1n.ca, Value.slice w1n.B w1n.m.length w1n.cb, Value.int IntKind.i64 jc] 36))
  have w1 := Lib.hid (w1.out.step ((Below.refl _ v3).alloc (Nat.le_refl _) (Obj.cells #[Value.slice w1n.A w1n.s.length w1n.ca, Value.slice w1n.B w1n.m.length w1n.cb, Value.int IntKind.i64 jc] 36)) (.inr (Nat.le_refl _)))
  have o1 := Lib.hid (show Blk (World.alloc v3 (Obj.cells #[Value.slice w1n.A w1n.s.length w1n.ca, Value.slice w1n.B w1n.m.length w1n.cb, Value.int IntKind.i64 jc] 36)) v3.heap.size 36 #[Value.slice w1n.A w1n.s.length w1n.ca, Value.slice w1n.B w1n.m.length w1n.cb, Value.int IntKind.i64 jc] from Blk.new v3 36 #[Value.slice w1n.A w1n.s.length w1n.ca, Value.slice w1n.B w1n.m.length w1n.cb, Value.int IntKind.i64 jc])
  have sz4 := Lib.hid (show v3.heap.size + 1 = (World.alloc v3 (Obj.cells #[Value.slice w1n.A w1n.s.length w1n.ca, Value.slice w1n.B w1n.m.length w1n.cb, Value.int IntKind.i64 jc] 36)).heap.size by simp)
  generalize World.alloc v3 _ = v4 at bw w0 o0 w1 o1 sz4 ⊢
  refine (eqNetOut_same w1n w0n jc _ (w1.out.lies (by have sz1_ := sz1.out; have sz2_ := sz2.out; have sz3_ := sz3.out; have sz4_ := sz4.out; omega)) (w0.out.lies (by have sz1_ := sz1.out; have sz2_ := sz2.out; have sz3_ := sz3.out; have sz4_ := sz4.out; omega)) (w1P.out.trans w0P.out.symm) w1F.out.1).mono ?_
  rintro e v5 ⟨rfl, hb⟩
  have bw := Lib.hid (bw.out.trans (hb.mono bw.out.size))
  have w0 := Lib.hid (w0.out.step hb (.inr (Nat.le_refl _)))
  have o0 := Lib.hid (o0.out.on hb)
  have w1 := Lib.hid (w1.out.step hb (.inr (Nat.le_refl _)))
  have o1 := Lib.hid (o1.out.on hb)
  have sz5 := Lib.hid (show v4.heap.size ≤ v5.heap.size from hb.size)
  clear hb
  obtain ⟨o1c0, o1c1, o1c2⟩ := blk3 o1.out
  go_wp2_with fail
  clear o1c0 o1c1 o1c2
  refine (markNetOut_any w1n jc 1 _ _ _ w1.out (by have sz1_ := sz1.out; have sz2_ := sz2.out; have sz3_ := sz3.out; have sz4_ := sz4.out; have sz5_ := sz5.out; omega) w1F.out.2).mono ?_
  rintro e v6 ⟨rfl, hh, ht⟩
  have bw := Lib.hid (ht.below bw.out (by have sz1_ := sz1.out; have sz2_ := sz2.out; have sz3_ := sz3.out; have sz4_ := sz4.out; have sz5_ := sz5.out; omega))
  have w0 := Lib.hid (ht.heldN w0.out (by have sz1_ := sz1.out; have sz2_ := sz2.out; have sz3_ := sz3.out; have sz4_ := sz4.out; have sz5_ := sz5.out; omega))
  have o0 := Lib.hid (ht.blk o0.out (by decide) (by decide))
  have w1 := Lib.hid (show HeldN v6 (mkN 1 w1n) v2.heap.size v3.heap.size from hh)
  have o1 := Lib.hid (ht.blk o1.out (by decide) (by decide))
  have sz6 := Lib.hid (show v5.heap.size ≤ v6.heap.size from ht.size)
  clear hh ht
  have hk3 : ¬ ((kN 1 w1n : Nat) : Int) < 0 := by omega
  obtain ⟨z1, hz1⟩ : ∃ z : Nat, kN 1 w1n = z := ⟨_, rfl⟩
  have HZ1 := Lib.hid hz1
  rw [hz1] at hk3 ⊢
  have hze : ((z1 : Int) != (z1 : Int)) = false := by simp
  clear hz1
  obtain ⟨o1c0, o1c1, o1c2⟩ := blk3 o1.out
  go_wp2_with fail
  clear o1c0 o1c1 o1c2
  refine (heldNetOut_any w1n jc 1 _ (w1.out.lies (by have sz1_ := sz1.out; have sz2_ := sz2.out; have sz3_ := sz3.out; have sz4_ := sz4.out; have sz5_ := sz5.out; have sz6_ := sz6.out; omega)) w1F.out.2).mono ?_
  rintro e v7 ⟨rfl, hb⟩
  have bw := Lib.hid (bw.out.trans (hb.mono bw.out.size))
  have w0 := Lib.hid (w0.out.step hb (.inr (Nat.le_refl _)))
  have o0 := Lib.hid (o0.out.on hb)
  have w1 := Lib.hid (w1.out.step hb (.inr (Nat.le_refl _)))
  have o1 := Lib.hid (o1.out.on hb)
  have sz7 := Lib.hid (show v6.heap.size ≤ v7.heap.size from hb.size)
  clear hb
  rw [HZ1.out]
  go_wp2_with fail
  refine (implNew_any k _).mono ?_
  rintro e v8 hans
  rw [HCF.out, HPF.out] at hans
  obtain ⟨w2n, rfl, w2p, hh, hb⟩ := hans
  have w2P := Lib.hid w2p
  clear w2p
  unfold Nt.out
  have bw := Lib.hid (bw.out.trans (hb.mono bw.out.size))
  have w0 := Lib.hid (w0.out.step hb (.inr (Nat.le_refl _)))
  have o0 := Lib.hid (o0.out.on hb)
  have w1 := Lib.hid (w1.out.step hb (.inr (Nat.le_refl _)))
  have o1 := Lib.hid (o1.out.on hb)
  have sz8 := Lib.hid (show v7.heap.size ≤ v8.heap.size from hb.size)
  have w2 := Lib.hid (show HeldN v8 w2n v7.heap.size v8.heap.size from hh)
  clear hb
  clear hh
  have w2F := Lib.hid (fewA_of w2P.out HSM.out)
  obtain ⟨o0c0, o0c1, o0c2⟩ := blk3 (o0.out.alloc (Obj.cells #[Value.slice w2n.A w2n.s.length w2n.ca, Value.slice w2n.B w2n.m.length w2n.cb, Value.int IntKind.i64 jc] 36))
  go_wp2_with fail
  clear o0c0 o0c1 o0c2
  have bw := Lib.hid (bw.out.alloc bw.out.size (Obj.cells #[Value.slice w2n.A w2n.s.length w2n.ca, Value.slice w2n.B w2n.m.length w2n.cb, Value.int IntKind.i64 jc] 36))
  have w0 := Lib.hid (w0.out.step ((Below.refl _ v8).alloc (Nat.le_refl _) (Obj.cells #[Value.slice w2n.A w2n.s.length w2n.ca, Value.slice w2n.B w2n.m.length w2n.cb, Value.int IntKind.i64 jc] 36)) (.inr (Nat.le_refl _)))
  have o0 := Lib.hid (o0.out.alloc (Obj.cells #[Value.slice w2n.A w2n.s.length w2n.ca, Value.slice w2n.B w2n.m.length w2n.cb, Value.int IntKind.i64 jc] 36))
  have w1 := Lib.hid (w1.out.step ((Below.refl _ v8).alloc (Nat.le_refl _) (Obj.cells #[Value.slice w2n.A w2n.s.length w2n.ca, Value.slice w2n.B w2n.m.length w2n.cb, Value.int IntKind.i64 jc] 36)) (.inr (Nat.le_refl _)))
  have o1 := Lib.hid (o1.out.alloc (Obj.cells #[Value.slice w2n.A w2n.s.length w2n.ca, Value.slice w2n.B w2n.m.length w2n.cb, Value.int IntKind.i64 jc] 36))
  have w2 := Lib.hid (w2.out.step ((Below.refl _ v8).alloc (Nat.le_refl _) (Obj.cells #[Value.slice w2n.A w2n.s.length w2n.ca, Value.slice w2n.B w2n.m.length w2n.cb, Value.int IntKind.i64 jc] 36)) (.inr (Nat.le_refl _)))
  have o2 := Lib.hid (show Blk (World.alloc v8 (Obj.cells #[Value.slice w2n.A w2n.s.length w2n.ca, Value.slice w2n.B w2n.m.length w2n.cb, Value.int IntKind.i64 jc] 36)) v8.heap.size 36 #[Value.slice w2n.A w2n.s.length w2n.ca, Value.slice w2n.B w2n.m.length w2n.cb, Value.int IntKind.i64 jc] from Blk.new v8 36 #[Value.slice w2n.A w2n.s.length w2n.ca, Value.slice w2n.B w2n.m.length w2n.cb, Value.int IntKind.i64 jc])
  have sz9 := Lib.hid (show v8.heap.size + 1 = (World.alloc v8 (Obj.cells #[Value.slice w2n.A w2n.s.length w2n.ca, Value.slice w2n.B w2n.m.length w2n.cb, Value.int IntKind.i64 jc] 36)).heap.size by simp)
  generalize World.alloc v8 _ = v9 at bw w0 o0 w1 o1 w2 o2 sz9 ⊢
  refine (eqNetOut_same w2n w0n jc _ (w2.out.lies (by have sz1_ := sz1.out; have sz2_ := sz2.out; have sz3_ := sz3.out; have sz4_ := sz4.out; have sz5_ := sz5.out; have sz6_ := sz6.out; have sz7_ := sz7.out; have sz8_ := sz8.out; have sz9_ := sz9.out; omega)) (w0.out.lies (by have sz1_ := sz1.out; have sz2_ := sz2.out; have sz3_ := sz3.out; have sz4_ := sz4.out; have sz5_ := sz5.out; have sz6_ := sz6.out; have sz7_ := sz7.out; have sz8_ := sz8.out; have sz9_ := sz9.out; omega)) (w2P.out.trans w0P.out.symm) w2F.out.1).mono ?_
  rintro e v10 ⟨rfl, hb⟩
  have bw := Lib.hid (bw.out.trans (hb.mono bw.out.size))
  have w0 := Lib.hid (w0.out.step hb (.inr (Nat.le_refl _)))
  have o0 := Lib.hid (o0.out.on hb)
  have w1 := Lib.hid (w1.out.step hb (.inr (Nat.le_refl _)))
  have o1 := Lib.hid (o1.out.on hb)
  have w2 := Lib.hid (w2.out.step hb (.inr (Nat.le_refl _)))
  have o2 := Lib.hid (o2.out.on hb)
  have sz10 := Lib.hid (show v9.heap.size ≤ v10.heap.size from hb.size)
  clear hb
  obtain ⟨o1c0, o1c1, o1c2⟩ := blk3 o1.out
  go_wp2_with fail
  clear o1c0 o1c1 o1c2
  refine (heldNetOut_any w1n jc 1 _ (w1.out.lies (by have sz1_ := sz1.out; have sz2_ := sz2.out; have sz3_ := sz3.out; have sz4_ := sz4.out; have sz5_ := sz5.out; have sz6_ := sz6.out; have sz7_ := sz7.out; have sz8_ := sz8.out; have sz9_ := sz9.out; have sz10_ := sz10.out; omega)) w1F.out.2).mono ?_
  rintro e v11 ⟨rfl, hb⟩
  have bw := Lib.hid (bw.out.trans (hb.mono bw.out.size))
  have w0 := Lib.hid (w0.out.step hb (.inr (Nat.le_refl _)))
  have o0 := Lib.hid (o0.out.on hb)
  have w1 := Lib.hid (w1.out.step hb (.inr (Nat.le_refl _)))
  have o1 := Lib.hid (o1.out.on hb)
  have w2 := Lib.hid (w2.out.step hb (.inr (Nat.le_refl _)))
  have o2 := Lib.hid (o2.out.on hb)
  have sz11 := Lib.hid (show v10.heap.size ≤ v11.heap.size from hb.size)
  clear hb
  rw [HZ1.out]
  go_wp2_with fail
  go_ret
  exact ⟨rfl, bw.out⟩
end Go.Proofs.Ythagkjofpfafiaa.Net
