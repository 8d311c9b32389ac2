/-
  FnExactRecRead answers true at every string.
-/
import Derived.Test.YtkmlnibkdcdegaaGreatDoorRecSRead
import Derived.Test.YtkmlnibkdcdegaaGreatDoorRecReadOut
namespace Go.Proofs.YtkmlnibkdcdegaaGreatDoor.Rec
open Go.ChangeShapes Go.WideShapes Go.ChangeAt Go.RowKit
open Dep (D I)
set_option linter.unusedVariables false
set_option maxRecDepth 100000
set_option linter.unusedSimpArgs false

set_option maxHeartbeats 8000000 in
theorem lawRead_any (s : ByteArray) (hs : s.size ≤ maxLen) (w : World) (hw : Gn.Handle w) :
    Calls Tryz.prog 3 #[.string s] w fun e w' => e = .returned (.bool true) ∧ Below w.heap.size w w' := by
  have hm := hs
  unfold maxLen at hm
  have hln := rdR_len s
  have CS := Lib.hid (fun W => specRead_any s W hs)
  have CI := Lib.hid (fun W (hW : Gn.Handle W) => implRead_any s W hs hW)
  have HW := Lib.hid hw
  clear hw
  generalize rdR s = r at *
  generalize rdC s = c at *
  obtain ⟨hln1, hln2⟩ := hln
  have hl1 : r.l.length ≤ 1048576 := by omega
  have hl2 : r.b.length ≤ 1048576 := by omega
  have hl3 : r.l.length ≤ maxLen := by unfold maxLen; omega
  have hl4 : r.b.length ≤ maxLen := by unfold maxLen; omega
  have bw := Lib.hid (Below.refl w.heap.size w)
  clear hs
  by_cases h1 : 1048576 < s.size
  · go_enter Tryz.func3, Tryz.ntmps3
    go_wp2_with fail
    go_ret
    exact ⟨rfl, bw.out⟩
  go_enter Tryz.func3, Tryz.ntmps3
  go_wp2_with fail
  refine (CS.out _).mono ?_
  rintro e v1 ⟨p0, rfl, hh, hca0, hcb0, hb⟩
  have bw := Lib.hid (bw.out.trans (hb.mono bw.out.size))
  have sz1 := Lib.hid (show w.heap.size ≤ v1.heap.size from hb.size)
  have w0 := Lib.hid (show Held v1 r p0 w.heap.size v1.heap.size from hh)
  clear hb
  clear hh hca0 hcb0
  unfold outR
  go_wp2_with fail
  have bw := Lib.hid (bw.out.alloc bw.out.size (Obj.cells (outC r p0 c) 29))
  have w0 := Lib.hid (w0.out.step ((Below.refl _ v1).alloc (Nat.le_refl _) (Obj.cells (outC r p0 c) 29)) (.inr (Nat.le_refl _)))
  have b0 := Lib.hid (show Blk (World.alloc v1 (Obj.cells (outC r p0 c) 29)) v1.heap.size 29 (outC r p0 c) from Blk.new v1 29 (outC r p0 c))
  have sz2 := Lib.hid (show v1.heap.size + 1 = (World.alloc v1 (Obj.cells (outC r p0 c) 29)).heap.size by simp)
  generalize World.alloc v1 _ = v2 at bw w0 b0 sz2 ⊢
  refine (CI.out _ (HW.out.below bw.out)).mono ?_
  rintro e v3 ⟨p1, rfl, hh, hca1, hcb1, hb⟩
  have bw := Lib.hid (bw.out.trans (hb.mono bw.out.size))
  have w0 := Lib.hid (w0.out.step hb (.inr (Nat.le_refl _)))
  have b0 := Lib.hid (b0.out.on hb)
  have sz3 := Lib.hid (show v2.heap.size ≤ v3.heap.size from hb.size)
  have w1 := Lib.hid (show Held v3 r p1 v2.heap.size v3.heap.size from hh)
  clear hb
  clear hh hca1 hcb1
  unfold outR
  obtain ⟨b0c0, b0c1, b0c2, b0c3, b0c4, b0c5, b0c6, b0c7, b0c8⟩ := cells9 (b0.out.alloc (Obj.cells (outC r p1 c) 29))
  go_wp2_with fail
  clear b0c0 b0c1 b0c2 b0c3 b0c4 b0c5 b0c6 b0c7 b0c8
  have bw := Lib.hid (bw.out.alloc bw.out.size (Obj.cells (outC r p1 c) 29))
  have w0 := Lib.hid (w0.out.step ((Below.refl _ v3).alloc (Nat.le_refl _) (Obj.cells (outC r p1 c) 29)) (.inr (Nat.le_refl _)))
  have b0 := Lib.hid (b0.out.alloc (Obj.cells (outC r p1 c) 29))
  have w1 := Lib.hid (w1.out.step ((Below.refl _ v3).alloc (Nat.le_refl _) (Obj.cells (outC r p1 c) 29)) (.inr (Nat.le_refl _)))
  have b1 := Lib.hid (show Blk (World.alloc v3 (Obj.cells (outC r p1 c) 29)) v3.heap.size 29 (outC r p1 c) from Blk.new v3 29 (outC r p1 c))
  have sz4 := Lib.hid (show v3.heap.size + 1 = (World.alloc v3 (Obj.cells (outC r p1 c) 29)).heap.size by simp)
  generalize World.alloc v3 _ = v4 at bw w0 b0 w1 b1 sz4 ⊢
  refine (eqRecOut_same r p1 p0 c _ (w1.out.lies (by have sz1_ := sz1.out; have sz2_ := sz2.out; have sz3_ := sz3.out; have sz4_ := sz4.out; omega)) (w0.out.lies (by have sz1_ := sz1.out; have sz2_ := sz2.out; have sz3_ := sz3.out; have sz4_ := sz4.out; omega)) hl3 hl4).mono ?_
  rintro e v5 ⟨rfl, hb⟩
  have bw := Lib.hid (bw.out.trans (hb.mono bw.out.size))
  have w0 := Lib.hid (w0.out.step hb (.inr (Nat.le_refl _)))
  have b0 := Lib.hid (b0.out.on hb)
  have w1 := Lib.hid (w1.out.step hb (.inr (Nat.le_refl _)))
  have b1 := Lib.hid (b1.out.on hb)
  have sz5 := Lib.hid (show v4.heap.size ≤ v5.heap.size from hb.size)
  clear hb
  obtain ⟨b1c0, b1c1, b1c2, b1c3, b1c4, b1c5, b1c6, b1c7, b1c8⟩ := cells9 b1.out
  go_wp2_with fail
  clear b1c0 b1c1 b1c2 b1c3 b1c4 b1c5 b1c6 b1c7 b1c8
  refine (markRecOut_any r p1 1 _ _ c _ w1.out (by have sz1_ := sz1.out; have sz2_ := sz2.out; have sz3_ := sz3.out; have sz4_ := sz4.out; have sz5_ := sz5.out; omega) hl1 hl2 (by omega)).mono ?_
  rintro e v6 ⟨rfl, hd, hs2, ht⟩
  have bw := Lib.hid (ht.below w bw.out (by have sz1_ := sz1.out; have sz2_ := sz2.out; have sz3_ := sz3.out; have sz4_ := sz4.out; have sz5_ := sz5.out; omega))
  have w0 := Lib.hid (show Held v6 r p0 w.heap.size v1.heap.size from ⟨ht.deps _ _ _ _ w0.out.1 (by have sz1_ := sz1.out; have sz2_ := sz2.out; have sz3_ := sz3.out; have sz4_ := sz4.out; have sz5_ := sz5.out; omega), ht.strs _ _ _ _ w0.out.2 (by have sz1_ := sz1.out; have sz2_ := sz2.out; have sz3_ := sz3.out; have sz4_ := sz4.out; have sz5_ := sz5.out; omega)⟩)
  have b0 := Lib.hid (ht.blk _ _ _ b0.out (by decide) (by decide))
  have b1 := Lib.hid (ht.blk _ _ _ b1.out (by decide) (by decide))
  have sz6 := Lib.hid (show v5.heap.size ≤ v6.heap.size from ht.size)
  have d1 := Lib.hid (show Dep.Held v6 p1.A (Dep.marks 1 r.l.length) v2.heap.size v3.heap.size from hd)
  have s1 := Lib.hid (show Str.Held v6 p1.B (Str.marks (1 + 4 * r.l.length) r.b.length) v2.heap.size v3.heap.size from hs2)
  clear hd hs2 ht w1
  obtain ⟨z1, hz1⟩ : ∃ z : Nat, 1 + 4 * r.l.length + r.b.length = z := ⟨_, rfl⟩
  have hk3 : ¬ ((z1 : Nat) : Int) < 0 := by omega
  have HZ1 := Lib.hid hz1
  rw [hz1]
  have hze : ((z1 : Int) != (z1 : Int)) = false := by simp
  clear hz1
  obtain ⟨b1c0, b1c1, b1c2, b1c3, b1c4, b1c5, b1c6, b1c7, b1c8⟩ := cells9 b1.out
  go_wp2_with fail
  clear b1c0 b1c1 b1c2 b1c3 b1c4 b1c5 b1c6 b1c7 b1c8
  refine (heldRecOut_any r p1 1 c _ (d1.out.lies (by have sz1_ := sz1.out; have sz2_ := sz2.out; have sz3_ := sz3.out; have sz4_ := sz4.out; have sz5_ := sz5.out; have sz6_ := sz6.out; omega)) (s1.out.lies (by have sz1_ := sz1.out; have sz2_ := sz2.out; have sz3_ := sz3.out; have sz4_ := sz4.out; have sz5_ := sz5.out; have sz6_ := sz6.out; omega)) hl1 hl2 (by omega)).mono ?_
  rintro e v7 ⟨rfl, hb⟩
  have bw := Lib.hid (bw.out.trans (hb.mono bw.out.size))
  have w0 := Lib.hid (w0.out.step hb (.inr (Nat.le_refl _)))
  have b0 := Lib.hid (b0.out.on hb)
  have b1 := Lib.hid (b1.out.on hb)
  have d1 := Lib.hid (d1.out.step hb (.inr (Nat.le_refl _)))
  have s1 := Lib.hid (s1.out.step hb (.inr (Nat.le_refl _)))
  have sz7 := Lib.hid (show v6.heap.size ≤ v7.heap.size from hb.size)
  clear hb
  rw [HZ1.out]
  go_wp2_with fail
  refine (CI.out _ (HW.out.below bw.out)).mono ?_
  rintro e v8 ⟨p2, rfl, hh, hca2, hcb2, hb⟩
  have bw := Lib.hid (bw.out.trans (hb.mono bw.out.size))
  have w0 := Lib.hid (w0.out.step hb (.inr (Nat.le_refl _)))
  have b0 := Lib.hid (b0.out.on hb)
  have b1 := Lib.hid (b1.out.on hb)
  have d1 := Lib.hid (d1.out.step hb (.inr (Nat.le_refl _)))
  have s1 := Lib.hid (s1.out.step hb (.inr (Nat.le_refl _)))
  have sz8 := Lib.hid (show v7.heap.size ≤ v8.heap.size from hb.size)
  have w2 := Lib.hid (show Held v8 r p2 v7.heap.size v8.heap.size from hh)
  clear hb
  clear hh hca2 hcb2
  unfold outR
  obtain ⟨b0c0, b0c1, b0c2, b0c3, b0c4, b0c5, b0c6, b0c7, b0c8⟩ := cells9 (b0.out.alloc (Obj.cells (outC r p2 c) 29))
  go_wp2_with fail
  clear b0c0 b0c1 b0c2 b0c3 b0c4 b0c5 b0c6 b0c7 b0c8
  have bw := Lib.hid (bw.out.alloc bw.out.size (Obj.cells (outC r p2 c) 29))
  have w0 := Lib.hid (w0.out.step ((Below.refl _ v8).alloc (Nat.le_refl _) (Obj.cells (outC r p2 c) 29)) (.inr (Nat.le_refl _)))
  have b0 := Lib.hid (b0.out.alloc (Obj.cells (outC r p2 c) 29))
  have b1 := Lib.hid (b1.out.alloc (Obj.cells (outC r p2 c) 29))
  have d1 := Lib.hid (d1.out.step ((Below.refl _ v8).alloc (Nat.le_refl _) (Obj.cells (outC r p2 c) 29)) (.inr (Nat.le_refl _)))
  have s1 := Lib.hid (s1.out.step ((Below.refl _ v8).alloc (Nat.le_refl _) (Obj.cells (outC r p2 c) 29)) (.inr (Nat.le_refl _)))
  have w2 := Lib.hid (w2.out.step ((Below.refl _ v8).alloc (Nat.le_refl _) (Obj.cells (outC r p2 c) 29)) (.inr (Nat.le_refl _)))
  have b2 := Lib.hid (show Blk (World.alloc v8 (Obj.cells (outC r p2 c) 29)) v8.heap.size 29 (outC r p2 c) from Blk.new v8 29 (outC r p2 c))
  have sz9 := Lib.hid (show v8.heap.size + 1 = (World.alloc v8 (Obj.cells (outC r p2 c) 29)).heap.size by simp)
  generalize World.alloc v8 _ = v9 at bw w0 b0 b1 d1 s1 w2 b2 sz9 ⊢
  refine (eqRecOut_same r p2 p0 c _ (w2.out.lies (by have sz1_ := sz1.out; have sz2_ := sz2.out; have sz3_ := sz3.out; have sz4_ := sz4.out; have sz5_ := sz5.out; have sz6_ := sz6.out; have sz7_ := sz7.out; have sz8_ := sz8.out; have sz9_ := sz9.out; omega)) (w0.out.lies (by have sz1_ := sz1.out; have sz2_ := sz2.out; have sz3_ := sz3.out; have sz4_ := sz4.out; have sz5_ := sz5.out; have sz6_ := sz6.out; have sz7_ := sz7.out; have sz8_ := sz8.out; have sz9_ := sz9.out; omega)) hl3 hl4).mono ?_
  rintro e v10 ⟨rfl, hb⟩
  have bw := Lib.hid (bw.out.trans (hb.mono bw.out.size))
  have w0 := Lib.hid (w0.out.step hb (.inr (Nat.le_refl _)))
  have b0 := Lib.hid (b0.out.on hb)
  have b1 := Lib.hid (b1.out.on hb)
  have d1 := Lib.hid (d1.out.step hb (.inr (Nat.le_refl _)))
  have s1 := Lib.hid (s1.out.step hb (.inr (Nat.le_refl _)))
  have w2 := Lib.hid (w2.out.step hb (.inr (Nat.le_refl _)))
  have b2 := Lib.hid (b2.out.on hb)
  have sz10 := Lib.hid (show v9.heap.size ≤ v10.heap.size from hb.size)
  clear hb
  obtain ⟨b1c0, b1c1, b1c2, b1c3, b1c4, b1c5, b1c6, b1c7, b1c8⟩ := cells9 b1.out
  go_wp2_with fail
  clear b1c0 b1c1 b1c2 b1c3 b1c4 b1c5 b1c6 b1c7 b1c8
  refine (heldRecOut_any r p1 1 c _ (d1.out.lies (by have sz1_ := sz1.out; have sz2_ := sz2.out; have sz3_ := sz3.out; have sz4_ := sz4.out; have sz5_ := sz5.out; have sz6_ := sz6.out; have sz7_ := sz7.out; have sz8_ := sz8.out; have sz9_ := sz9.out; have sz10_ := sz10.out; omega)) (s1.out.lies (by have sz1_ := sz1.out; have sz2_ := sz2.out; have sz3_ := sz3.out; have sz4_ := sz4.out; have sz5_ := sz5.out; have sz6_ := sz6.out; have sz7_ := sz7.out; have sz8_ := sz8.out; have sz9_ := sz9.out; have sz10_ := sz10.out; omega)) hl1 hl2 (by omega)).mono ?_
  rintro e v11 ⟨rfl, hb⟩
  have bw := Lib.hid (bw.out.trans (hb.mono bw.out.size))
  have w0 := Lib.hid (w0.out.step hb (.inr (Nat.le_refl _)))
  have b0 := Lib.hid (b0.out.on hb)
  have b1 := Lib.hid (b1.out.on hb)
  have d1 := Lib.hid (d1.out.step hb (.inr (Nat.le_refl _)))
  have s1 := Lib.hid (s1.out.step hb (.inr (Nat.le_refl _)))
  have w2 := Lib.hid (w2.out.step hb (.inr (Nat.le_refl _)))
  have b2 := Lib.hid (b2.out.on hb)
  have sz11 := Lib.hid (show v10.heap.size ≤ v11.heap.size from hb.size)
  clear hb
  rw [HZ1.out]
  go_wp2_with fail
  go_ret
  exact ⟨rfl, bw.out⟩
end Go.Proofs.YtkmlnibkdcdegaaGreatDoor.Rec
