/-
  FnExactShimNew answers true at every number.
-/
import Derived.Test.YtegnjbdgeibhfaaRsMkSo
namespace Go.Proofs.Ytegnjbdgeibhfaa.Rs
open Go.ChangeShapes Go.WideShapes Go.ChangeAt Go.RowKit
open Rec (R P Sound Small recV cellsV)
open Dep (D I)
set_option linter.unusedVariables false
set_option maxRecDepth 100000
set_option linter.unusedSimpArgs false

set_option maxHeartbeats 8000000 in
set_option maxRecDepth 100000 in
theorem lawShimNew_any (me : Int) {hb : Prop} (_ : hb) (w : World) :
    Calls Try.prog 3 #[.int .i64 me] w fun e w' => e = .returned (.bool true) ∧ Below w.heap.size w w' := by
  have bw := Lib.hid (Below.refl w.heap.size w)
  go_enter Try.func3, Try.ntmps3
  obtain ⟨jme, jep, jcd, hjp⟩ := newP_cases me
  have HJP := Lib.hid hjp
  clear hjp
  obtain ⟨jo, hjo⟩ : ∃ o, newP me = o := ⟨_, rfl⟩
  have HNR := Lib.hid hjo
  clear hjo
  go_wp2_with fail
  refine (specNew_any me _).mono ?_
  rintro e v1 hg
  rw [HNR.out] at hg
  obtain ⟨w0n, rfl, w0p, hh, hb⟩ := hg
  have w0P := Lib.hid w0p
  have w0F := Lib.hid (po_fine (w0p.trans (HNR.out.symm.trans HJP.out)))
  clear w0p
  unfold So.val
  have bw := Lib.hid (bw.out.trans (hb.mono bw.out.size))
  have sz1 := Lib.hid (show w.heap.size ≤ v1.heap.size from hb.size)
  have w0 := Lib.hid (show HeldO v1 w0n w.heap.size v1.heap.size from hh)
  clear hb
  clear hh
  go_wp2_with fail
  have bw := Lib.hid (bw.out.alloc bw.out.size (Obj.cells #[Value.int IntKind.i64 w0n.s.me, Value.int IntKind.i64 w0n.s.ep, Value.int IntKind.i64 w0n.s.ck, Value.slice w0n.s.A w0n.s.l.length w0n.s.c, Value.slice w0n.s.n.A w0n.s.n.s.length w0n.s.n.ca, Value.slice w0n.s.n.B w0n.s.n.m.length w0n.s.n.cb, Value.slice w0n.RA w0n.rs.length w0n.rc, Value.slice w0n.FA w0n.fr.length w0n.fc, Value.int IntKind.i64 w0n.code] 30))
  have w0 := Lib.hid (w0.out.step ((Below.refl _ v1).alloc (Nat.le_refl _) (Obj.cells #[Value.int IntKind.i64 w0n.s.me, Value.int IntKind.i64 w0n.s.ep, Value.int IntKind.i64 w0n.s.ck, Value.slice w0n.s.A w0n.s.l.length w0n.s.c, Value.slice w0n.s.n.A w0n.s.n.s.length w0n.s.n.ca, Value.slice w0n.s.n.B w0n.s.n.m.length w0n.s.n.cb, Value.slice w0n.RA w0n.rs.length w0n.rc, Value.slice w0n.FA w0n.fr.length w0n.fc, Value.int IntKind.i64 w0n.code] 30)) (.inr (Nat.le_refl _)))
  have o0 := Lib.hid (show Blk (World.alloc v1 (Obj.cells #[Value.int IntKind.i64 w0n.s.me, Value.int IntKind.i64 w0n.s.ep, Value.int IntKind.i64 w0n.s.ck, Value.slice w0n.s.A w0n.s.l.length w0n.s.c, Value.slice w0n.s.n.A w0n.s.n.s.length w0n.s.n.ca, Value.slice w0n.s.n.B w0n.s.n.m.length w0n.s.n.cb, Value.slice w0n.RA w0n.rs.length w0n.rc, Value.slice w0n.FA w0n.fr.length w0n.fc, Value.int IntKind.i64 w0n.code] 30)) v1.heap.size 30 #[Value.int IntKind.i64 w0n.s.me, Value.int IntKind.i64 w0n.s.ep, Value.int IntKind.i64 w0n.s.ck, Value.slice w0n.s.A w0n.s.l.length w0n.s.c, Value.slice w0n.s.n.A w0n.s.n.s.length w0n.s.n.ca, Value.slice w0n.s.n.B w0n.s.n.m.length w0n.s.n.cb, Value.slice w0n.RA w0n.rs.length w0n.rc, Value.slice w0n.FA w0n.fr.length w0n.fc, Value.int IntKind.i64 w0n.code] from Blk.new v1 30 #[Value.int IntKind.i64 w0n.s.me, Value.int IntKind.i64 w0n.s.ep, Value.int IntKind.i64 w0n.s.ck, Value.slice w0n.s.A w0n.s.l.length w0n.s.c, Value.slice w0n.s.n.A w0n.s.n.s.length w0n.s.n.ca, Value.slice w0n.s.n.B w0n.s.n.m.length w0n.s.n.cb, Value.slice w0n.RA w0n.rs.length w0n.rc, Value.slice w0n.FA w0n.fr.length w0n.fc, Value.int IntKind.i64 w0n.code])
  have sz2 := Lib.hid (show v1.heap.size + 1 = (World.alloc v1 (Obj.cells #[Value.int IntKind.i64 w0n.s.me, Value.int IntKind.i64 w0n.s.ep, Value.int IntKind.i64 w0n.s.ck, Value.slice w0n.s.A w0n.s.l.length w0n.s.c, Value.slice w0n.s.n.A w0n.s.n.s.length w0n.s.n.ca, Value.slice w0n.s.n.B w0n.s.n.m.length w0n.s.n.cb, Value.slice w0n.RA w0n.rs.length w0n.rc, Value.slice w0n.FA w0n.fr.length w0n.fc, Value.int IntKind.i64 w0n.code] 30)).heap.size by simp)
  generalize World.alloc v1 _ = v2 at bw w0 o0 sz2 ⊢
  refine (implNew_any me _).mono ?_
  rintro e v3 hg
  rw [HNR.out] at hg
  obtain ⟨g0n, rfl, g0p, hh, hb⟩ := hg
  have g0P := Lib.hid g0p
  have g0F := Lib.hid (po_fine (g0p.trans (HNR.out.symm.trans HJP.out)))
  clear g0p
  unfold So.val
  have bw := Lib.hid (bw.out.trans (hb.mono bw.out.size))
  have w0 := Lib.hid (w0.out.step hb (.inr (Nat.le_refl _)))
  have o0 := Lib.hid (o0.out.on hb)
  have sz3 := Lib.hid (show v2.heap.size ≤ v3.heap.size from hb.size)
  have g0 := Lib.hid (show HeldO v3 g0n v2.heap.size v3.heap.size from hh)
  clear hb
  clear hh
  obtain ⟨o0c0, o0c1, o0c2, o0c3, o0c4, o0c5, o0c6, o0c7, o0c8⟩ := cell9 (o0.out.alloc (Obj.cells #[Value.int IntKind.i64 g0n.s.me, Value.int IntKind.i64 g0n.s.ep, Value.int IntKind.i64 g0n.s.ck, Value.slice g0n.s.A g0n.s.l.length g0n.s.c, Value.slice g0n.s.n.A g0n.s.n.s.length g0n.s.n.ca, Value.slice g0n.s.n.B g0n.s.n.m.length g0n.s.n.cb, Value.slice g0n.RA g0n.rs.length g0n.rc, Value.slice g0n.FA g0n.fr.length g0n.fc, Value.int IntKind.i64 g0n.code] 30))
  go_wp2_with fail
  clear o0c0 o0c1 o0c2 o0c3 o0c4 o0c5 o0c6 o0c7 o0c8
  have bw := Lib.hid (bw.out.alloc bw.out.size (Obj.cells #[Value.int IntKind.i64 g0n.s.me, Value.int IntKind.i64 g0n.s.ep, Value.int IntKind.i64 g0n.s.ck, Value.slice g0n.s.A g0n.s.l.length g0n.s.c, Value.slice g0n.s.n.A g0n.s.n.s.length g0n.s.n.ca, Value.slice g0n.s.n.B g0n.s.n.m.length g0n.s.n.cb, Value.slice g0n.RA g0n.rs.length g0n.rc, Value.slice g0n.FA g0n.fr.length g0n.fc, Value.int IntKind.i64 g0n.code] 30))
  have w0 := Lib.hid (w0.out.step ((Below.refl _ v3).alloc (Nat.le_refl _) (Obj.cells #[Value.int IntKind.i64 g0n.s.me, Value.int IntKind.i64 g0n.s.ep, Value.int IntKind.i64 g0n.s.ck, Value.slice g0n.s.A g0n.s.l.length g0n.s.c, Value.slice g0n.s.n.A g0n.s.n.s.length g0n.s.n.ca, Value.slice g0n.s.n.B g0n.s.n.m.length g0n.s.n.cb, Value.slice g0n.RA g0n.rs.length g0n.rc, Value.slice g0n.FA g0n.fr.length g0n.fc, Value.int IntKind.i64 g0n.code] 30)) (.inr (Nat.le_refl _)))
  have o0 := Lib.hid (o0.out.alloc (Obj.cells #[Value.int IntKind.i64 g0n.s.me, Value.int IntKind.i64 g0n.s.ep, Value.int IntKind.i64 g0n.s.ck, Value.slice g0n.s.A g0n.s.l.length g0n.s.c, Value.slice g0n.s.n.A g0n.s.n.s.length g0n.s.n.ca, Value.slice g0n.s.n.B g0n.s.n.m.length g0n.s.n.cb, Value.slice g0n.RA g0n.rs.length g0n.rc, Value.slice g0n.FA g0n.fr.length g0n.fc, Value.int IntKind.i64 g0n.code] 30))
  have g0 := Lib.hid (g0.out.step ((Below.refl _ v3).alloc (Nat.le_refl _) (Obj.cells #[Value.int IntKind.i64 g0n.s.me, Value.int IntKind.i64 g0n.s.ep, Value.int IntKind.i64 g0n.s.ck, Value.slice g0n.s.A g0n.s.l.length g0n.s.c, Value.slice g0n.s.n.A g0n.s.n.s.length g0n.s.n.ca, Value.slice g0n.s.n.B g0n.s.n.m.length g0n.s.n.cb, Value.slice g0n.RA g0n.rs.length g0n.rc, Value.slice g0n.FA g0n.fr.length g0n.fc, Value.int IntKind.i64 g0n.code] 30)) (.inr (Nat.le_refl _)))
  have o1 := Lib.hid (show Blk (World.alloc v3 (Obj.cells #[Value.int IntKind.i64 g0n.s.me, Value.int IntKind.i64 g0n.s.ep, Value.int IntKind.i64 g0n.s.ck, Value.slice g0n.s.A g0n.s.l.length g0n.s.c, Value.slice g0n.s.n.A g0n.s.n.s.length g0n.s.n.ca, Value.slice g0n.s.n.B g0n.s.n.m.length g0n.s.n.cb, Value.slice g0n.RA g0n.rs.length g0n.rc, Value.slice g0n.FA g0n.fr.length g0n.fc, Value.int IntKind.i64 g0n.code] 30)) v3.heap.size 30 #[Value.int IntKind.i64 g0n.s.me, Value.int IntKind.i64 g0n.s.ep, Value.int IntKind.i64 g0n.s.ck, Value.slice g0n.s.A g0n.s.l.length g0n.s.c, Value.slice g0n.s.n.A g0n.s.n.s.length g0n.s.n.ca, Value.slice g0n.s.n.B g0n.s.n.m.length g0n.s.n.cb, Value.slice g0n.RA g0n.rs.length g0n.rc, Value.slice g0n.FA g0n.fr.length g0n.fc, Value.int IntKind.i64 g0n.code] from Blk.new v3 30 #[Value.int IntKind.i64 g0n.s.me, Value.int IntKind.i64 g0n.s.ep, Value.int IntKind.i64 g0n.s.ck, Value.slice g0n.s.A g0n.s.l.length g0n.s.c, Value.slice g0n.s.n.A g0n.s.n.s.length g0n.s.n.ca, Value.slice g0n.s.n.B g0n.s.n.m.length g0n.s.n.cb, Value.slice g0n.RA g0n.rs.length g0n.rc, Value.slice g0n.FA g0n.fr.length g0n.fc, Value.int IntKind.i64 g0n.code])
  have sz4 := Lib.hid (show v3.heap.size + 1 = (World.alloc v3 (Obj.cells #[Value.int IntKind.i64 g0n.s.me, Value.int IntKind.i64 g0n.s.ep, Value.int IntKind.i64 g0n.s.ck, Value.slice g0n.s.A g0n.s.l.length g0n.s.c, Value.slice g0n.s.n.A g0n.s.n.s.length g0n.s.n.ca, Value.slice g0n.s.n.B g0n.s.n.m.length g0n.s.n.cb, Value.slice g0n.RA g0n.rs.length g0n.rc, Value.slice g0n.FA g0n.fr.length g0n.fc, Value.int IntKind.i64 g0n.code] 30)).heap.size by simp)
  generalize World.alloc v3 _ = v4 at bw w0 o0 g0 o1 sz4 ⊢
  refine (eqSo_same g0n w0n _ (g0.out.lies (by have sz1_ := sz1.out; have sz2_ := sz2.out; have sz3_ := sz3.out; have sz4_ := sz4.out; omega)) (w0.out.lies (by have sz1_ := sz1.out; have sz2_ := sz2.out; have sz3_ := sz3.out; have sz4_ := sz4.out; omega)) (g0P.out.trans w0P.out.symm) g0F.out).mono ?_
  rintro e v5 ⟨rfl, hb⟩
  have bw := Lib.hid (bw.out.trans (hb.mono bw.out.size))
  have w0 := Lib.hid (w0.out.step hb (.inr (Nat.le_refl _)))
  have o0 := Lib.hid (o0.out.on hb)
  have g0 := Lib.hid (g0.out.step hb (.inr (Nat.le_refl _)))
  have o1 := Lib.hid (o1.out.on hb)
  have sz5 := Lib.hid (show v4.heap.size ≤ v5.heap.size from hb.size)
  clear hb
  obtain ⟨o1c0, o1c1, o1c2, o1c3, o1c4, o1c5, o1c6, o1c7, o1c8⟩ := cell9 o1.out
  go_wp2_with fail
  clear o1c0 o1c1 o1c2 o1c3 o1c4 o1c5 o1c6 o1c7 o1c8
  have hko := g0F.out.kO_le
  refine (markSo_any g0n 1 _ _ _ g0.out g0F.out (by omega)).mono ?_
  rintro e v6 ⟨rfl, hh, ht⟩
  have bw := Lib.hid (ht.below bw.out (by have sz1_ := sz1.out; have sz2_ := sz2.out; have sz3_ := sz3.out; have sz4_ := sz4.out; have sz5_ := sz5.out; omega))
  have w0 := Lib.hid (ht.heldO w0.out (by have sz1_ := sz1.out; have sz2_ := sz2.out; have sz3_ := sz3.out; have sz4_ := sz4.out; have sz5_ := sz5.out; omega))
  have o0 := Lib.hid (ht.blk o0.out (by decide))
  have g0 := Lib.hid (show HeldO v6 (mkO 1 g0n) v2.heap.size v3.heap.size from hh)
  have o1 := Lib.hid (ht.blk o1.out (by decide))
  have sz6 := Lib.hid (show v5.heap.size ≤ v6.heap.size from ht.size)
  clear hh ht
  have hk3 : ¬ ((1 + kO g0n : Nat) : Int) < 0 := by omega
  obtain ⟨z1, hz1⟩ : ∃ z : Nat, 1 + kO g0n = z := ⟨_, rfl⟩
  have Hz1 := Lib.hid hz1
  rw [hz1] at hk3 ⊢
  clear hz1
  clear hko
  have hze : ((z1 : Int) != (z1 : Int)) = false := by simp
  obtain ⟨o1c0, o1c1, o1c2, o1c3, o1c4, o1c5, o1c6, o1c7, o1c8⟩ := cell9 o1.out
  go_wp2_with fail
  clear o1c0 o1c1 o1c2 o1c3 o1c4 o1c5 o1c6 o1c7 o1c8
  refine (heldSo_any g0n 1 _ (g0.out.lies (by have sz1_ := sz1.out; have sz2_ := sz2.out; have sz3_ := sz3.out; have sz4_ := sz4.out; have sz5_ := sz5.out; have sz6_ := sz6.out; omega)) g0F.out (by have := g0F.out.kO_le; omega)).mono ?_
  rintro e v7 ⟨rfl, hb⟩
  have bw := Lib.hid (bw.out.trans (hb.mono bw.out.size))
  have w0 := Lib.hid (w0.out.step hb (.inr (Nat.le_refl _)))
  have o0 := Lib.hid (o0.out.on hb)
  have g0 := Lib.hid (g0.out.step hb (.inr (Nat.le_refl _)))
  have o1 := Lib.hid (o1.out.on hb)
  have sz7 := Lib.hid (show v6.heap.size ≤ v7.heap.size from hb.size)
  clear hb
  rw [Hz1.out]
  go_wp2_with fail
  refine (implNew_any me _).mono ?_
  rintro e v8 hg
  rw [HNR.out] at hg
  obtain ⟨h0n, rfl, h0p, hh, hb⟩ := hg
  have h0P := Lib.hid h0p
  have h0F := Lib.hid (po_fine (h0p.trans (HNR.out.symm.trans HJP.out)))
  clear h0p
  unfold So.val
  have bw := Lib.hid (bw.out.trans (hb.mono bw.out.size))
  have w0 := Lib.hid (w0.out.step hb (.inr (Nat.le_refl _)))
  have o0 := Lib.hid (o0.out.on hb)
  have g0 := Lib.hid (g0.out.step hb (.inr (Nat.le_refl _)))
  have o1 := Lib.hid (o1.out.on hb)
  have sz8 := Lib.hid (show v7.heap.size ≤ v8.heap.size from hb.size)
  have h0 := Lib.hid (show HeldO v8 h0n v7.heap.size v8.heap.size from hh)
  clear hb
  clear hh
  obtain ⟨o0c0, o0c1, o0c2, o0c3, o0c4, o0c5, o0c6, o0c7, o0c8⟩ := cell9 (o0.out.alloc (Obj.cells #[Value.int IntKind.i64 h0n.s.me, Value.int IntKind.i64 h0n.s.ep, Value.int IntKind.i64 h0n.s.ck, Value.slice h0n.s.A h0n.s.l.length h0n.s.c, Value.slice h0n.s.n.A h0n.s.n.s.length h0n.s.n.ca, Value.slice h0n.s.n.B h0n.s.n.m.length h0n.s.n.cb, Value.slice h0n.RA h0n.rs.length h0n.rc, Value.slice h0n.FA h0n.fr.length h0n.fc, Value.int IntKind.i64 h0n.code] 30))
  go_wp2_with fail
  clear o0c0 o0c1 o0c2 o0c3 o0c4 o0c5 o0c6 o0c7 o0c8
  have bw := Lib.hid (bw.out.alloc bw.out.size (Obj.cells #[Value.int IntKind.i64 h0n.s.me, Value.int IntKind.i64 h0n.s.ep, Value.int IntKind.i64 h0n.s.ck, Value.slice h0n.s.A h0n.s.l.length h0n.s.c, Value.slice h0n.s.n.A h0n.s.n.s.length h0n.s.n.ca, Value.slice h0n.s.n.B h0n.s.n.m.length h0n.s.n.cb, Value.slice h0n.RA h0n.rs.length h0n.rc, Value.slice h0n.FA h0n.fr.length h0n.fc, Value.int IntKind.i64 h0n.code] 30))
  have w0 := Lib.hid (w0.out.step ((Below.refl _ v8).alloc (Nat.le_refl _) (Obj.cells #[Value.int IntKind.i64 h0n.s.me, Value.int IntKind.i64 h0n.s.ep, Value.int IntKind.i64 h0n.s.ck, Value.slice h0n.s.A h0n.s.l.length h0n.s.c, Value.slice h0n.s.n.A h0n.s.n.s.length h0n.s.n.ca, Value.slice h0n.s.n.B h0n.s.n.m.length h0n.s.n.cb, Value.slice h0n.RA h0n.rs.length h0n.rc, Value.slice h0n.FA h0n.fr.length h0n.fc, Value.int IntKind.i64 h0n.code] 30)) (.inr (Nat.le_refl _)))
  have o0 := Lib.hid (o0.out.alloc (Obj.cells #[Value.int IntKind.i64 h0n.s.me, Value.int IntKind.i64 h0n.s.ep, Value.int IntKind.i64 h0n.s.ck, Value.slice h0n.s.A h0n.s.l.length h0n.s.c, Value.slice h0n.s.n.A h0n.s.n.s.length h0n.s.n.ca, Value.slice h0n.s.n.B h0n.s.n.m.length h0n.s.n.cb, Value.slice h0n.RA h0n.rs.length h0n.rc, Value.slice h0n.FA h0n.fr.length h0n.fc, Value.int IntKind.i64 h0n.code] 30))
  have g0 := Lib.hid (g0.out.step ((Below.refl _ v8).alloc (Nat.le_refl _) (Obj.cells #[Value.int IntKind.i64 h0n.s.me, Value.int IntKind.i64 h0n.s.ep, Value.int IntKind.i64 h0n.s.ck, Value.slice h0n.s.A h0n.s.l.length h0n.s.c, Value.slice h0n.s.n.A h0n.s.n.s.length h0n.s.n.ca, Value.slice h0n.s.n.B h0n.s.n.m.length h0n.s.n.cb, Value.slice h0n.RA h0n.rs.length h0n.rc, Value.slice h0n.FA h0n.fr.length h0n.fc, Value.int IntKind.i64 h0n.code] 30)) (.inr (Nat.le_refl _)))
  have o1 := Lib.hid (o1.out.alloc (Obj.cells #[Value.int IntKind.i64 h0n.s.me, Value.int IntKind.i64 h0n.s.ep, Value.int IntKind.i64 h0n.s.ck, Value.slice h0n.s.A h0n.s.l.length h0n.s.c, Value.slice h0n.s.n.A h0n.s.n.s.length h0n.s.n.ca, Value.slice h0n.s.n.B h0n.s.n.m.length h0n.s.n.cb, Value.slice h0n.RA h0n.rs.length h0n.rc, Value.slice h0n.FA h0n.fr.length h0n.fc, Value.int IntKind.i64 h0n.code] 30))
  have h0 := Lib.hid (h0.out.step ((Below.refl _ v8).alloc (Nat.le_refl _) (Obj.cells #[Value.int IntKind.i64 h0n.s.me, Value.int IntKind.i64 h0n.s.ep, Value.int IntKind.i64 h0n.s.ck, Value.slice h0n.s.A h0n.s.l.length h0n.s.c, Value.slice h0n.s.n.A h0n.s.n.s.length h0n.s.n.ca, Value.slice h0n.s.n.B h0n.s.n.m.length h0n.s.n.cb, Value.slice h0n.RA h0n.rs.length h0n.rc, Value.slice h0n.FA h0n.fr.length h0n.fc, Value.int IntKind.i64 h0n.code] 30)) (.inr (Nat.le_refl _)))
  have o2 := Lib.hid (show Blk (World.alloc v8 (Obj.cells #[Value.int IntKind.i64 h0n.s.me, Value.int IntKind.i64 h0n.s.ep, Value.int IntKind.i64 h0n.s.ck, Value.slice h0n.s.A h0n.s.l.length h0n.s.c, Value.slice h0n.s.n.A h0n.s.n.s.length h0n.s.n.ca, Value.slice h0n.s.n.B h0n.s.n.m.length h0n.s.n.cb, Value.slice h0n.RA h0n.rs.length h0n.rc, Value.slice h0n.FA h0n.fr.length h0n.fc, Value.int IntKind.i64 h0n.code] 30)) v8.heap.size 30 #[Value.int IntKind.i64 h0n.s.me, Value.int IntKind.i64 h0n.s.ep, Value.int IntKind.i64 h0n.s.ck, Value.slice h0n.s.A h0n.s.l.length h0n.s.c, Value.slice h0n.s.n.A h0n.s.n.s.length h0n.s.n.ca, Value.slice h0n.s.n.B h0n.s.n.m.length h0n.s.n.cb, Value.slice h0n.RA h0n.rs.length h0n.rc, Value.slice h0n.FA h0n.fr.length h0n.fc, Value.int IntKind.i64 h0n.code] from Blk.new v8 30 #[Value.int IntKind.i64 h0n.s.me, Value.int IntKind.i64 h0n.s.ep, Value.int IntKind.i64 h0n.s.ck, Value.slice h0n.s.A h0n.s.l.length h0n.s.c, Value.slice h0n.s.n.A h0n.s.n.s.length h0n.s.n.ca, Value.slice h0n.s.n.B h0n.s.n.m.length h0n.s.n.cb, Value.slice h0n.RA h0n.rs.length h0n.rc, Value.slice h0n.FA h0n.fr.length h0n.fc, Value.int IntKind.i64 h0n.code])
  have sz9 := Lib.hid (show v8.heap.size + 1 = (World.alloc v8 (Obj.cells #[Value.int IntKind.i64 h0n.s.me, Value.int IntKind.i64 h0n.s.ep, Value.int IntKind.i64 h0n.s.ck, Value.slice h0n.s.A h0n.s.l.length h0n.s.c, Value.slice h0n.s.n.A h0n.s.n.s.length h0n.s.n.ca, Value.slice h0n.s.n.B h0n.s.n.m.length h0n.s.n.cb, Value.slice h0n.RA h0n.rs.length h0n.rc, Value.slice h0n.FA h0n.fr.length h0n.fc, Value.int IntKind.i64 h0n.code] 30)).heap.size by simp)
  generalize World.alloc v8 _ = v9 at bw w0 o0 g0 o1 h0 o2 sz9 ⊢
  refine (eqSo_same h0n w0n _ (h0.out.lies (by have sz1_ := sz1.out; have sz2_ := sz2.out; have sz3_ := sz3.out; have sz4_ := sz4.out; have sz5_ := sz5.out; have sz6_ := sz6.out; have sz7_ := sz7.out; have sz8_ := sz8.out; have sz9_ := sz9.out; omega)) (w0.out.lies (by have sz1_ := sz1.out; have sz2_ := sz2.out; have sz3_ := sz3.out; have sz4_ := sz4.out; have sz5_ := sz5.out; have sz6_ := sz6.out; have sz7_ := sz7.out; have sz8_ := sz8.out; have sz9_ := sz9.out; omega)) (h0P.out.trans w0P.out.symm) h0F.out).mono ?_
  rintro e v10 ⟨rfl, hb⟩
  have bw := Lib.hid (bw.out.trans (hb.mono bw.out.size))
  have w0 := Lib.hid (w0.out.step hb (.inr (Nat.le_refl _)))
  have o0 := Lib.hid (o0.out.on hb)
  have g0 := Lib.hid (g0.out.step hb (.inr (Nat.le_refl _)))
  have o1 := Lib.hid (o1.out.on hb)
  have h0 := Lib.hid (h0.out.step hb (.inr (Nat.le_refl _)))
  have o2 := Lib.hid (o2.out.on hb)
  have sz10 := Lib.hid (show v9.heap.size ≤ v10.heap.size from hb.size)
  clear hb
  obtain ⟨o1c0, o1c1, o1c2, o1c3, o1c4, o1c5, o1c6, o1c7, o1c8⟩ := cell9 o1.out
  go_wp2_with fail
  clear o1c0 o1c1 o1c2 o1c3 o1c4 o1c5 o1c6 o1c7 o1c8
  refine (heldSo_any g0n 1 _ (g0.out.lies (by have sz1_ := sz1.out; have sz2_ := sz2.out; have sz3_ := sz3.out; have sz4_ := sz4.out; have sz5_ := sz5.out; have sz6_ := sz6.out; have sz7_ := sz7.out; have sz8_ := sz8.out; have sz9_ := sz9.out; have sz10_ := sz10.out; omega)) g0F.out (by have := g0F.out.kO_le; omega)).mono ?_
  rintro e v11 ⟨rfl, hb⟩
  have bw := Lib.hid (bw.out.trans (hb.mono bw.out.size))
  have w0 := Lib.hid (w0.out.step hb (.inr (Nat.le_refl _)))
  have o0 := Lib.hid (o0.out.on hb)
  have g0 := Lib.hid (g0.out.step hb (.inr (Nat.le_refl _)))
  have o1 := Lib.hid (o1.out.on hb)
  have h0 := Lib.hid (h0.out.step hb (.inr (Nat.le_refl _)))
  have o2 := Lib.hid (o2.out.on hb)
  have sz11 := Lib.hid (show v10.heap.size ≤ v11.heap.size from hb.size)
  clear hb
  rw [Hz1.out]
  go_wp2_with fail
  go_ret
  exact ⟨rfl, bw.out⟩
end Go.Proofs.Ytegnjbdgeibhfaa.Rs
