/-
  FnExactRestart answers true at every shim.
-/
import Derived.Test.YtegnjbdgeibhfaaGreatRsRest
namespace Go.Proofs.YtegnjbdgeibhfaaGreat.Rs
open Go.ChangeShapes Go.WideShapes Go.ChangeAt Go.RowKit
open Rec (R P Sound Small recV cellsV)
open Dep (D I)
set_option linter.unusedVariables false
set_option maxRecDepth 100000
set_option linter.unusedSimpArgs false

set_option maxHeartbeats 8000000 in
set_option maxRecDepth 100000 in
theorem lawRestart_any (s : Sh) (w : World) (hs : IsSh w s) :
    Calls Tryz.prog 10 #[s.val] w fun e w' => e = .returned (.bool true) ∧ Below w.heap.size w w' := by
  obtain ⟨s0, s1, s2, s3, s4, s5⟩ := hs
  have Hs := Lib.hid s0
  have Ks := Lib.hid s2
  have Qs := Lib.hid s5
  clear s0 s2 s5
  have bw := Lib.hid ((Below.refl w.heap.size w).alloc (Nat.le_refl _) (Obj.cells #[Value.int IntKind.i64 s.me, Value.int IntKind.i64 s.ep, Value.int IntKind.i64 s.ck, Value.slice s.A s.l.length s.c, Value.slice s.n.A s.n.s.length s.n.ca, Value.slice s.n.B s.n.m.length s.n.cb] 60))
  have bx := Lib.hid (Blk.new w 60 #[Value.int IntKind.i64 s.me, Value.int IntKind.i64 s.ep, Value.int IntKind.i64 s.ck, Value.slice s.A s.l.length s.c, Value.slice s.n.A s.n.s.length s.n.ca, Value.slice s.n.B s.n.m.length s.n.cb])
  unfold Sh.val
  go_enter Tryz.func10, Tryz.ntmps10
  go_wp2_with fail
  generalize World.alloc w _ = v0 at bw bx ⊢
  have sz0 := Lib.hid (show w.heap.size ≤ v0.heap.size from bw.out.size)
  refine (szSh_any s 1048576 _ (Hs.out.on bw.out) s1 Ks.out s3 s4 Qs.out (by omega) (by omega)).mono ?_
  rintro e v1 ⟨m1, rfl, hm1, hb⟩
  have bw := Lib.hid (bw.out.trans (hb.mono bw.out.size))
  have bx := Lib.hid (bx.out.on hb)
  have sz1 := Lib.hid (show v0.heap.size ≤ v1.heap.size from hb.size)
  clear hb
  rcases hm1 with rfl | ⟨m10, sm1, m1t⟩
  · go_wp2_with fail
    go_ret
    exact ⟨rfl, bw.out⟩
  have Fs := Lib.hid sm1
  have m100 : ¬ m1 < 0 := by omega
  have m1k : m1 ≤ 1048576 := by omega
  clear sm1
  obtain ⟨jme, jep, jcd, hjp⟩ := resP_cases (ps s)
  have HJP := Lib.hid hjp
  clear hjp
  obtain ⟨jo, hjo⟩ : ∃ o, resP (ps s) = o := ⟨_, rfl⟩
  have HNR := Lib.hid hjo
  clear hjo
  obtain ⟨bxc0, bxc1, bxc2, bxc3, bxc4, bxc5⟩ := cell6 bx.out
  go_wp2_with fail
  clear bxc0 bxc1 bxc2 bxc3 bxc4 bxc5
  refine (toSh_any s _ (Hs.out.on bw.out) Fs.out).mono ?_
  rintro e v2 ⟨t0n, rfl, t0p, t0c, t0h, hb⟩
  have t0P := Lib.hid t0p
  have t0F := Lib.hid (Fs.out.same t0p)
  have t0C := Lib.hid t0c
  clear t0p t0c
  unfold Sh.val
  have bw := Lib.hid (bw.out.trans (hb.mono bw.out.size))
  have bx := Lib.hid (bx.out.on hb)
  have sz2 := Lib.hid (show v1.heap.size ≤ v2.heap.size from hb.size)
  have t0 := Lib.hid (show HeldS v2 t0n v1.heap.size v2.heap.size from t0h)
  clear hb
  clear t0h
  go_wp2_with fail
  refine (specRest_any t0n _ (t0.out.lies (by have sz0_ := sz0.out; have sz1_ := sz1.out; have sz2_ := sz2.out; omega)) t0F.out t0C.out).mono ?_
  rintro e v3 hg
  rw [t0P.out, HNR.out] at hg
  obtain ⟨w0n, rfl, w0p, hh, hb⟩ := hg
  have w0P := Lib.hid w0p
  have w0F := Lib.hid (po_fine (w0p.trans (HNR.out.symm.trans HJP.out)))
  clear w0p
  unfold So.val
  have bw := Lib.hid (bw.out.trans (hb.mono bw.out.size))
  have bx := Lib.hid (bx.out.on hb)
  have t0 := Lib.hid (t0.out.step hb (.inr (Nat.le_refl _)))
  have sz3 := Lib.hid (show v2.heap.size ≤ v3.heap.size from hb.size)
  have w0 := Lib.hid (show HeldO v3 w0n v2.heap.size v3.heap.size from hh)
  clear hb
  clear hh
  clear t0
  obtain ⟨bxc0, bxc1, bxc2, bxc3, bxc4, bxc5⟩ := cell6 (bx.out.alloc (Obj.cells #[Value.int IntKind.i64 w0n.s.me, Value.int IntKind.i64 w0n.s.ep, Value.int IntKind.i64 w0n.s.ck, Value.slice w0n.s.A w0n.s.l.length w0n.s.c, Value.slice w0n.s.n.A w0n.s.n.s.length w0n.s.n.ca, Value.slice w0n.s.n.B w0n.s.n.m.length w0n.s.n.cb, Value.slice w0n.RA w0n.rs.length w0n.rc, Value.slice w0n.FA w0n.fr.length w0n.fc, Value.int IntKind.i64 w0n.code] 70))
  go_wp2_with fail
  clear bxc0 bxc1 bxc2 bxc3 bxc4 bxc5
  have bw := Lib.hid (bw.out.alloc bw.out.size (Obj.cells #[Value.int IntKind.i64 w0n.s.me, Value.int IntKind.i64 w0n.s.ep, Value.int IntKind.i64 w0n.s.ck, Value.slice w0n.s.A w0n.s.l.length w0n.s.c, Value.slice w0n.s.n.A w0n.s.n.s.length w0n.s.n.ca, Value.slice w0n.s.n.B w0n.s.n.m.length w0n.s.n.cb, Value.slice w0n.RA w0n.rs.length w0n.rc, Value.slice w0n.FA w0n.fr.length w0n.fc, Value.int IntKind.i64 w0n.code] 70))
  have bx := Lib.hid (bx.out.alloc (Obj.cells #[Value.int IntKind.i64 w0n.s.me, Value.int IntKind.i64 w0n.s.ep, Value.int IntKind.i64 w0n.s.ck, Value.slice w0n.s.A w0n.s.l.length w0n.s.c, Value.slice w0n.s.n.A w0n.s.n.s.length w0n.s.n.ca, Value.slice w0n.s.n.B w0n.s.n.m.length w0n.s.n.cb, Value.slice w0n.RA w0n.rs.length w0n.rc, Value.slice w0n.FA w0n.fr.length w0n.fc, Value.int IntKind.i64 w0n.code] 70))
  have w0 := Lib.hid (w0.out.step ((Below.refl _ v3).alloc (Nat.le_refl _) (Obj.cells #[Value.int IntKind.i64 w0n.s.me, Value.int IntKind.i64 w0n.s.ep, Value.int IntKind.i64 w0n.s.ck, Value.slice w0n.s.A w0n.s.l.length w0n.s.c, Value.slice w0n.s.n.A w0n.s.n.s.length w0n.s.n.ca, Value.slice w0n.s.n.B w0n.s.n.m.length w0n.s.n.cb, Value.slice w0n.RA w0n.rs.length w0n.rc, Value.slice w0n.FA w0n.fr.length w0n.fc, Value.int IntKind.i64 w0n.code] 70)) (.inr (Nat.le_refl _)))
  have o0 := Lib.hid (show Blk (World.alloc v3 (Obj.cells #[Value.int IntKind.i64 w0n.s.me, Value.int IntKind.i64 w0n.s.ep, Value.int IntKind.i64 w0n.s.ck, Value.slice w0n.s.A w0n.s.l.length w0n.s.c, Value.slice w0n.s.n.A w0n.s.n.s.length w0n.s.n.ca, Value.slice w0n.s.n.B w0n.s.n.m.length w0n.s.n.cb, Value.slice w0n.RA w0n.rs.length w0n.rc, Value.slice w0n.FA w0n.fr.length w0n.fc, Value.int IntKind.i64 w0n.code] 70)) v3.heap.size 70 #[Value.int IntKind.i64 w0n.s.me, Value.int IntKind.i64 w0n.s.ep, Value.int IntKind.i64 w0n.s.ck, Value.slice w0n.s.A w0n.s.l.length w0n.s.c, Value.slice w0n.s.n.A w0n.s.n.s.length w0n.s.n.ca, Value.slice w0n.s.n.B w0n.s.n.m.length w0n.s.n.cb, Value.slice w0n.RA w0n.rs.length w0n.rc, Value.slice w0n.FA w0n.fr.length w0n.fc, Value.int IntKind.i64 w0n.code] from Blk.new v3 70 #[Value.int IntKind.i64 w0n.s.me, Value.int IntKind.i64 w0n.s.ep, Value.int IntKind.i64 w0n.s.ck, Value.slice w0n.s.A w0n.s.l.length w0n.s.c, Value.slice w0n.s.n.A w0n.s.n.s.length w0n.s.n.ca, Value.slice w0n.s.n.B w0n.s.n.m.length w0n.s.n.cb, Value.slice w0n.RA w0n.rs.length w0n.rc, Value.slice w0n.FA w0n.fr.length w0n.fc, Value.int IntKind.i64 w0n.code])
  have sz4 := Lib.hid (show v3.heap.size + 1 = (World.alloc v3 (Obj.cells #[Value.int IntKind.i64 w0n.s.me, Value.int IntKind.i64 w0n.s.ep, Value.int IntKind.i64 w0n.s.ck, Value.slice w0n.s.A w0n.s.l.length w0n.s.c, Value.slice w0n.s.n.A w0n.s.n.s.length w0n.s.n.ca, Value.slice w0n.s.n.B w0n.s.n.m.length w0n.s.n.cb, Value.slice w0n.RA w0n.rs.length w0n.rc, Value.slice w0n.FA w0n.fr.length w0n.fc, Value.int IntKind.i64 w0n.code] 70)).heap.size by simp)
  generalize World.alloc v3 _ = v4 at bw bx w0 o0 sz4 ⊢
  refine (toSh_any s _ (Hs.out.on bw.out) Fs.out).mono ?_
  rintro e v5 ⟨x0n, rfl, x0p, x0c, x0h, hb⟩
  have x0P := Lib.hid x0p
  have x0F := Lib.hid (Fs.out.same x0p)
  have x0C := Lib.hid x0c
  clear x0p x0c
  unfold Sh.val
  have bw := Lib.hid (bw.out.trans (hb.mono bw.out.size))
  have bx := Lib.hid (bx.out.on hb)
  have w0 := Lib.hid (w0.out.step hb (.inr (Nat.le_refl _)))
  have o0 := Lib.hid (o0.out.on hb)
  have sz5 := Lib.hid (show v4.heap.size ≤ v5.heap.size from hb.size)
  have x0 := Lib.hid (show HeldS v5 x0n v4.heap.size v5.heap.size from x0h)
  clear hb
  clear x0h
  go_wp2_with fail
  have bw := Lib.hid (bw.out.alloc bw.out.size (Obj.cells #[Value.int IntKind.i64 x0n.me, Value.int IntKind.i64 x0n.ep, Value.int IntKind.i64 x0n.ck, Value.slice x0n.A x0n.l.length x0n.c, Value.slice x0n.n.A x0n.n.s.length x0n.n.ca, Value.slice x0n.n.B x0n.n.m.length x0n.n.cb] 64))
  have bx := Lib.hid (bx.out.alloc (Obj.cells #[Value.int IntKind.i64 x0n.me, Value.int IntKind.i64 x0n.ep, Value.int IntKind.i64 x0n.ck, Value.slice x0n.A x0n.l.length x0n.c, Value.slice x0n.n.A x0n.n.s.length x0n.n.ca, Value.slice x0n.n.B x0n.n.m.length x0n.n.cb] 64))
  have w0 := Lib.hid (w0.out.step ((Below.refl _ v5).alloc (Nat.le_refl _) (Obj.cells #[Value.int IntKind.i64 x0n.me, Value.int IntKind.i64 x0n.ep, Value.int IntKind.i64 x0n.ck, Value.slice x0n.A x0n.l.length x0n.c, Value.slice x0n.n.A x0n.n.s.length x0n.n.ca, Value.slice x0n.n.B x0n.n.m.length x0n.n.cb] 64)) (.inr (Nat.le_refl _)))
  have o0 := Lib.hid (o0.out.alloc (Obj.cells #[Value.int IntKind.i64 x0n.me, Value.int IntKind.i64 x0n.ep, Value.int IntKind.i64 x0n.ck, Value.slice x0n.A x0n.l.length x0n.c, Value.slice x0n.n.A x0n.n.s.length x0n.n.ca, Value.slice x0n.n.B x0n.n.m.length x0n.n.cb] 64))
  have x0 := Lib.hid (x0.out.step ((Below.refl _ v5).alloc (Nat.le_refl _) (Obj.cells #[Value.int IntKind.i64 x0n.me, Value.int IntKind.i64 x0n.ep, Value.int IntKind.i64 x0n.ck, Value.slice x0n.A x0n.l.length x0n.c, Value.slice x0n.n.A x0n.n.s.length x0n.n.ca, Value.slice x0n.n.B x0n.n.m.length x0n.n.cb] 64)) (.inr (Nat.le_refl _)))
  have y0 := Lib.hid (show Blk (World.alloc v5 (Obj.cells #[Value.int IntKind.i64 x0n.me, Value.int IntKind.i64 x0n.ep, Value.int IntKind.i64 x0n.ck, Value.slice x0n.A x0n.l.length x0n.c, Value.slice x0n.n.A x0n.n.s.length x0n.n.ca, Value.slice x0n.n.B x0n.n.m.length x0n.n.cb] 64)) v5.heap.size 64 #[Value.int IntKind.i64 x0n.me, Value.int IntKind.i64 x0n.ep, Value.int IntKind.i64 x0n.ck, Value.slice x0n.A x0n.l.length x0n.c, Value.slice x0n.n.A x0n.n.s.length x0n.n.ca, Value.slice x0n.n.B x0n.n.m.length x0n.n.cb] from Blk.new v5 64 #[Value.int IntKind.i64 x0n.me, Value.int IntKind.i64 x0n.ep, Value.int IntKind.i64 x0n.ck, Value.slice x0n.A x0n.l.length x0n.c, Value.slice x0n.n.A x0n.n.s.length x0n.n.ca, Value.slice x0n.n.B x0n.n.m.length x0n.n.cb])
  have sz6 := Lib.hid (show v5.heap.size + 1 = (World.alloc v5 (Obj.cells #[Value.int IntKind.i64 x0n.me, Value.int IntKind.i64 x0n.ep, Value.int IntKind.i64 x0n.ck, Value.slice x0n.A x0n.l.length x0n.c, Value.slice x0n.n.A x0n.n.s.length x0n.n.ca, Value.slice x0n.n.B x0n.n.m.length x0n.n.cb] 64)).heap.size by simp)
  generalize World.alloc v5 _ = v6 at bw bx w0 o0 x0 y0 sz6 ⊢
  refine (implRest_any x0n _ (x0.out.lies (by have sz0_ := sz0.out; have sz1_ := sz1.out; have sz2_ := sz2.out; have sz3_ := sz3.out; have sz4_ := sz4.out; have sz5_ := sz5.out; have sz6_ := sz6.out; omega)) x0F.out x0C.out).mono ?_
  rintro e v7 hg
  rw [x0P.out, HNR.out] at hg
  obtain ⟨g0n, rfl, g0p, hh, hb⟩ := hg
  have g0P := Lib.hid g0p
  have g0F := Lib.hid (po_fine (g0p.trans (HNR.out.symm.trans HJP.out)))
  clear g0p
  unfold So.val
  have bw := Lib.hid (bw.out.trans (hb.mono bw.out.size))
  have bx := Lib.hid (bx.out.on hb)
  have w0 := Lib.hid (w0.out.step hb (.inr (Nat.le_refl _)))
  have o0 := Lib.hid (o0.out.on hb)
  have x0 := Lib.hid (x0.out.step hb (.inr (Nat.le_refl _)))
  have y0 := Lib.hid (y0.out.on hb)
  have sz7 := Lib.hid (show v6.heap.size ≤ v7.heap.size from hb.size)
  have g0 := Lib.hid (show HeldO v7 g0n v6.heap.size v7.heap.size from hh)
  clear hb
  clear hh
  obtain ⟨o0c0, o0c1, o0c2, o0c3, o0c4, o0c5, o0c6, o0c7, o0c8⟩ := cell9 (o0.out.alloc (Obj.cells #[Value.int IntKind.i64 g0n.s.me, Value.int IntKind.i64 g0n.s.ep, Value.int IntKind.i64 g0n.s.ck, Value.slice g0n.s.A g0n.s.l.length g0n.s.c, Value.slice g0n.s.n.A g0n.s.n.s.length g0n.s.n.ca, Value.slice g0n.s.n.B g0n.s.n.m.length g0n.s.n.cb, Value.slice g0n.RA g0n.rs.length g0n.rc, Value.slice g0n.FA g0n.fr.length g0n.fc, Value.int IntKind.i64 g0n.code] 70))
  go_wp2_with fail
  clear o0c0 o0c1 o0c2 o0c3 o0c4 o0c5 o0c6 o0c7 o0c8
  have bw := Lib.hid (bw.out.alloc bw.out.size (Obj.cells #[Value.int IntKind.i64 g0n.s.me, Value.int IntKind.i64 g0n.s.ep, Value.int IntKind.i64 g0n.s.ck, Value.slice g0n.s.A g0n.s.l.length g0n.s.c, Value.slice g0n.s.n.A g0n.s.n.s.length g0n.s.n.ca, Value.slice g0n.s.n.B g0n.s.n.m.length g0n.s.n.cb, Value.slice g0n.RA g0n.rs.length g0n.rc, Value.slice g0n.FA g0n.fr.length g0n.fc, Value.int IntKind.i64 g0n.code] 70))
  have bx := Lib.hid (bx.out.alloc (Obj.cells #[Value.int IntKind.i64 g0n.s.me, Value.int IntKind.i64 g0n.s.ep, Value.int IntKind.i64 g0n.s.ck, Value.slice g0n.s.A g0n.s.l.length g0n.s.c, Value.slice g0n.s.n.A g0n.s.n.s.length g0n.s.n.ca, Value.slice g0n.s.n.B g0n.s.n.m.length g0n.s.n.cb, Value.slice g0n.RA g0n.rs.length g0n.rc, Value.slice g0n.FA g0n.fr.length g0n.fc, Value.int IntKind.i64 g0n.code] 70))
  have w0 := Lib.hid (w0.out.step ((Below.refl _ v7).alloc (Nat.le_refl _) (Obj.cells #[Value.int IntKind.i64 g0n.s.me, Value.int IntKind.i64 g0n.s.ep, Value.int IntKind.i64 g0n.s.ck, Value.slice g0n.s.A g0n.s.l.length g0n.s.c, Value.slice g0n.s.n.A g0n.s.n.s.length g0n.s.n.ca, Value.slice g0n.s.n.B g0n.s.n.m.length g0n.s.n.cb, Value.slice g0n.RA g0n.rs.length g0n.rc, Value.slice g0n.FA g0n.fr.length g0n.fc, Value.int IntKind.i64 g0n.code] 70)) (.inr (Nat.le_refl _)))
  have o0 := Lib.hid (o0.out.alloc (Obj.cells #[Value.int IntKind.i64 g0n.s.me, Value.int IntKind.i64 g0n.s.ep, Value.int IntKind.i64 g0n.s.ck, Value.slice g0n.s.A g0n.s.l.length g0n.s.c, Value.slice g0n.s.n.A g0n.s.n.s.length g0n.s.n.ca, Value.slice g0n.s.n.B g0n.s.n.m.length g0n.s.n.cb, Value.slice g0n.RA g0n.rs.length g0n.rc, Value.slice g0n.FA g0n.fr.length g0n.fc, Value.int IntKind.i64 g0n.code] 70))
  have x0 := Lib.hid (x0.out.step ((Below.refl _ v7).alloc (Nat.le_refl _) (Obj.cells #[Value.int IntKind.i64 g0n.s.me, Value.int IntKind.i64 g0n.s.ep, Value.int IntKind.i64 g0n.s.ck, Value.slice g0n.s.A g0n.s.l.length g0n.s.c, Value.slice g0n.s.n.A g0n.s.n.s.length g0n.s.n.ca, Value.slice g0n.s.n.B g0n.s.n.m.length g0n.s.n.cb, Value.slice g0n.RA g0n.rs.length g0n.rc, Value.slice g0n.FA g0n.fr.length g0n.fc, Value.int IntKind.i64 g0n.code] 70)) (.inr (Nat.le_refl _)))
  have y0 := Lib.hid (y0.out.alloc (Obj.cells #[Value.int IntKind.i64 g0n.s.me, Value.int IntKind.i64 g0n.s.ep, Value.int IntKind.i64 g0n.s.ck, Value.slice g0n.s.A g0n.s.l.length g0n.s.c, Value.slice g0n.s.n.A g0n.s.n.s.length g0n.s.n.ca, Value.slice g0n.s.n.B g0n.s.n.m.length g0n.s.n.cb, Value.slice g0n.RA g0n.rs.length g0n.rc, Value.slice g0n.FA g0n.fr.length g0n.fc, Value.int IntKind.i64 g0n.code] 70))
  have g0 := Lib.hid (g0.out.step ((Below.refl _ v7).alloc (Nat.le_refl _) (Obj.cells #[Value.int IntKind.i64 g0n.s.me, Value.int IntKind.i64 g0n.s.ep, Value.int IntKind.i64 g0n.s.ck, Value.slice g0n.s.A g0n.s.l.length g0n.s.c, Value.slice g0n.s.n.A g0n.s.n.s.length g0n.s.n.ca, Value.slice g0n.s.n.B g0n.s.n.m.length g0n.s.n.cb, Value.slice g0n.RA g0n.rs.length g0n.rc, Value.slice g0n.FA g0n.fr.length g0n.fc, Value.int IntKind.i64 g0n.code] 70)) (.inr (Nat.le_refl _)))
  have o1 := Lib.hid (show Blk (World.alloc v7 (Obj.cells #[Value.int IntKind.i64 g0n.s.me, Value.int IntKind.i64 g0n.s.ep, Value.int IntKind.i64 g0n.s.ck, Value.slice g0n.s.A g0n.s.l.length g0n.s.c, Value.slice g0n.s.n.A g0n.s.n.s.length g0n.s.n.ca, Value.slice g0n.s.n.B g0n.s.n.m.length g0n.s.n.cb, Value.slice g0n.RA g0n.rs.length g0n.rc, Value.slice g0n.FA g0n.fr.length g0n.fc, Value.int IntKind.i64 g0n.code] 70)) v7.heap.size 70 #[Value.int IntKind.i64 g0n.s.me, Value.int IntKind.i64 g0n.s.ep, Value.int IntKind.i64 g0n.s.ck, Value.slice g0n.s.A g0n.s.l.length g0n.s.c, Value.slice g0n.s.n.A g0n.s.n.s.length g0n.s.n.ca, Value.slice g0n.s.n.B g0n.s.n.m.length g0n.s.n.cb, Value.slice g0n.RA g0n.rs.length g0n.rc, Value.slice g0n.FA g0n.fr.length g0n.fc, Value.int IntKind.i64 g0n.code] from Blk.new v7 70 #[Value.int IntKind.i64 g0n.s.me, Value.int IntKind.i64 g0n.s.ep, Value.int IntKind.i64 g0n.s.ck, Value.slice g0n.s.A g0n.s.l.length g0n.s.c, Value.slice g0n.s.n.A g0n.s.n.s.length g0n.s.n.ca, Value.slice g0n.s.n.B g0n.s.n.m.length g0n.s.n.cb, Value.slice g0n.RA g0n.rs.length g0n.rc, Value.slice g0n.FA g0n.fr.length g0n.fc, Value.int IntKind.i64 g0n.code])
  have sz8 := Lib.hid (show v7.heap.size + 1 = (World.alloc v7 (Obj.cells #[Value.int IntKind.i64 g0n.s.me, Value.int IntKind.i64 g0n.s.ep, Value.int IntKind.i64 g0n.s.ck, Value.slice g0n.s.A g0n.s.l.length g0n.s.c, Value.slice g0n.s.n.A g0n.s.n.s.length g0n.s.n.ca, Value.slice g0n.s.n.B g0n.s.n.m.length g0n.s.n.cb, Value.slice g0n.RA g0n.rs.length g0n.rc, Value.slice g0n.FA g0n.fr.length g0n.fc, Value.int IntKind.i64 g0n.code] 70)).heap.size by simp)
  generalize World.alloc v7 _ = v8 at bw bx w0 o0 x0 y0 g0 o1 sz8 ⊢
  refine (eqSo_same g0n w0n _ (g0.out.lies (by have sz0_ := sz0.out; have sz1_ := sz1.out; have sz2_ := sz2.out; have sz3_ := sz3.out; have sz4_ := sz4.out; have sz5_ := sz5.out; have sz6_ := sz6.out; have sz7_ := sz7.out; have sz8_ := sz8.out; omega)) (w0.out.lies (by have sz0_ := sz0.out; have sz1_ := sz1.out; have sz2_ := sz2.out; have sz3_ := sz3.out; have sz4_ := sz4.out; have sz5_ := sz5.out; have sz6_ := sz6.out; have sz7_ := sz7.out; have sz8_ := sz8.out; omega)) (g0P.out.trans w0P.out.symm) g0F.out).mono ?_
  rintro e v9 ⟨rfl, hb⟩
  have bw := Lib.hid (bw.out.trans (hb.mono bw.out.size))
  have bx := Lib.hid (bx.out.on hb)
  have w0 := Lib.hid (w0.out.step hb (.inr (Nat.le_refl _)))
  have o0 := Lib.hid (o0.out.on hb)
  have x0 := Lib.hid (x0.out.step hb (.inr (Nat.le_refl _)))
  have y0 := Lib.hid (y0.out.on hb)
  have g0 := Lib.hid (g0.out.step hb (.inr (Nat.le_refl _)))
  have o1 := Lib.hid (o1.out.on hb)
  have sz9 := Lib.hid (show v8.heap.size ≤ v9.heap.size from hb.size)
  clear hb
  go_wp2_with fail
  refine wp_region_held_drew (S := (fun W => (Below w.heap.size w W) ∧ (Blk W w.heap.size 60 #[Value.int IntKind.i64 s.me, Value.int IntKind.i64 s.ep, Value.int IntKind.i64 s.ck, Value.slice s.A s.l.length s.c, Value.slice s.n.A s.n.s.length s.n.ca, Value.slice s.n.B s.n.m.length s.n.cb]) ∧ (HeldO W w0n v2.heap.size v3.heap.size) ∧ (Blk W v3.heap.size 70 #[Value.int IntKind.i64 w0n.s.me, Value.int IntKind.i64 w0n.s.ep, Value.int IntKind.i64 w0n.s.ck, Value.slice w0n.s.A w0n.s.l.length w0n.s.c, Value.slice w0n.s.n.A w0n.s.n.s.length w0n.s.n.ca, Value.slice w0n.s.n.B w0n.s.n.m.length w0n.s.n.cb, Value.slice w0n.RA w0n.rs.length w0n.rc, Value.slice w0n.FA w0n.fr.length w0n.fc, Value.int IntKind.i64 w0n.code]) ∧ (HeldS W x0n v4.heap.size v5.heap.size) ∧ (Blk W v5.heap.size 64 #[Value.int IntKind.i64 x0n.me, Value.int IntKind.i64 x0n.ep, Value.int IntKind.i64 x0n.ck, Value.slice x0n.A x0n.l.length x0n.c, Value.slice x0n.n.A x0n.n.s.length x0n.n.ca, Value.slice x0n.n.B x0n.n.m.length x0n.n.cb]) ∧ (HeldO W g0n v6.heap.size v7.heap.size) ∧ (Blk W v7.heap.size 70 #[Value.int IntKind.i64 g0n.s.me, Value.int IntKind.i64 g0n.s.ep, Value.int IntKind.i64 g0n.s.ck, Value.slice g0n.s.A g0n.s.l.length g0n.s.c, Value.slice g0n.s.n.A g0n.s.n.s.length g0n.s.n.ca, Value.slice g0n.s.n.B g0n.s.n.m.length g0n.s.n.cb, Value.slice g0n.RA g0n.rs.length g0n.rc, Value.slice g0n.FA g0n.fr.length g0n.fc, Value.int IntKind.i64 g0n.code]))) (by kernel_rfl) ?_ (fun hHeld => ?_)
  · exact ⟨bw.out.drew, bx.out, w0.out.drew, o0.out, x0.out.drew, y0.out, g0.out.drew, o1.out⟩
  refine wpAnyH_take (i := 0) (v := ?_) rfl (by kernel_rfl) (by kernel_rfl) (by kernel_rfl) (fun _ _ _ h => h) (Or.inl ⟨by rfl, ?_⟩) hHeld ?_
  rotate_left
  · intro W hSw
    obtain ⟨q_bw, q_bx, q_w0, q_o0, q_x0, q_y0, q_g0, q_o1⟩ := hSw
    obtain ⟨hbx0, hbx1, hbx2, hbx3, hbx4, hbx5⟩ := cell6 q_bx
    obtain ⟨hy00, hy01, hy02, hy03, hy04, hy05⟩ := cell6 q_y0
    go_simp
    try with_reducible rfl
  try simp only [Act.put, List.setIfInBounds_toArray, List.set_cons_zero, List.set_cons_succ, List.getElem_toArray, List.getElem_cons_zero]
  refine wpAnyH_take (i := 1) (v := ?_) rfl (by kernel_rfl) (by kernel_rfl) (by kernel_rfl) (fun _ _ _ h => h) (Or.inl ⟨by rfl, ?_⟩) hHeld ?_
  rotate_left
  · intro W hSw
    obtain ⟨q_bw, q_bx, q_w0, q_o0, q_x0, q_y0, q_g0, q_o1⟩ := hSw
    obtain ⟨hbx0, hbx1, hbx2, hbx3, hbx4, hbx5⟩ := cell6 q_bx
    obtain ⟨hy00, hy01, hy02, hy03, hy04, hy05⟩ := cell6 q_y0
    go_simp
    try with_reducible rfl
  try simp only [Act.put, List.setIfInBounds_toArray, List.set_cons_zero, List.set_cons_succ, List.getElem_toArray, List.getElem_cons_succ, List.getElem_cons_zero]
  refine wpAnyH_ready (rs := [2]) (by kernel_rfl) (by simp) ?_
  refine AllReadyH.cons rfl (fun K hK => ?_) AllReadyH.nil
  go_simp
  refine (toSh_any s _ (Hs.out.on hHeld.1) Fs.out).mono ?_
  rintro e v10 ⟨t1n, rfl, t1p, t1c, t1h, hb⟩
  have sz10 := Lib.hid (show v9.heap.size ≤ v10.heap.size from hb.size)
  have t1P := Lib.hid t1p
  have t1F := Lib.hid (Fs.out.same t1p)
  have t1C := Lib.hid t1c
  clear t1p t1c
  unfold Sh.val
  have t1 := Lib.hid (show HeldS v10 t1n v9.heap.size v10.heap.size from t1h)
  clear t1h
  refine hK.out _ _ ?_ (fun hHeld => ?_)
  · first | exact ⟨hHeld.1.trans (hb.mono hHeld.1.size), hHeld.2.1.on hb, hHeld.2.2.1.step hb (.inr (Nat.le_refl _)), hHeld.2.2.2.1.on hb, hHeld.2.2.2.2.1.step hb (.inr (Nat.le_refl _)), hHeld.2.2.2.2.2.1.on hb, hHeld.2.2.2.2.2.2.1.step hb (.inr (Nat.le_refl _)), hHeld.2.2.2.2.2.2.2.on hb⟩ | assumption
  clear hK K
  try simp only [Act.put, List.setIfInBounds_toArray, List.set_cons_zero, List.set_cons_succ, List.getElem_toArray, List.getElem_cons_succ, List.getElem_cons_zero]
  refine wpAnyH_ready (rs := [3]) (by kernel_rfl) (by simp) ?_
  refine AllReadyH.cons rfl (fun K hK => ?_) AllReadyH.nil
  go_simp
  try clear hb
  refine (eqSh_same x0n t1n _ (hHeld.2.2.2.2.1.lies (by have sz0_ := sz0.out; have sz1_ := sz1.out; have sz2_ := sz2.out; have sz3_ := sz3.out; have sz4_ := sz4.out; have sz5_ := sz5.out; have sz6_ := sz6.out; have sz7_ := sz7.out; have sz8_ := sz8.out; have sz9_ := sz9.out; have sz10_ := sz10.out; omega)) (t1.out.lies (by have sz0_ := sz0.out; have sz1_ := sz1.out; have sz2_ := sz2.out; have sz3_ := sz3.out; have sz4_ := sz4.out; have sz5_ := sz5.out; have sz6_ := sz6.out; have sz7_ := sz7.out; have sz8_ := sz8.out; have sz9_ := sz9.out; have sz10_ := sz10.out; omega)) (x0P.out.trans t1P.out.symm) x0F.out).mono ?_
  rintro e v11 ⟨rfl, hb⟩
  have sz11 := Lib.hid (show v10.heap.size ≤ v11.heap.size from hb.size)
  have t1 := Lib.hid (t1.out.step hb (.inr (Nat.le_refl _)))
  refine hK.out _ _ ?_ (fun hHeld => ?_)
  · first | exact ⟨hHeld.1.trans (hb.mono hHeld.1.size), hHeld.2.1.on hb, hHeld.2.2.1.step hb (.inr (Nat.le_refl _)), hHeld.2.2.2.1.on hb, hHeld.2.2.2.2.1.step hb (.inr (Nat.le_refl _)), hHeld.2.2.2.2.2.1.on hb, hHeld.2.2.2.2.2.2.1.step hb (.inr (Nat.le_refl _)), hHeld.2.2.2.2.2.2.2.on hb⟩ | assumption
  clear hK K
  try simp only [Act.put, List.setIfInBounds_toArray, List.set_cons_zero, List.set_cons_succ, List.getElem_toArray, List.getElem_cons_succ, List.getElem_cons_zero]
  refine wpAnyH_take (i := 4) (v := ?_) rfl (by kernel_rfl) (by kernel_rfl) (by kernel_rfl) (fun _ _ _ h => h) (Or.inl ⟨by rfl, ?_⟩) hHeld ?_
  rotate_left
  · intro W hSw
    obtain ⟨q_bw, q_bx, q_w0, q_o0, q_x0, q_y0, q_g0, q_o1⟩ := hSw
    obtain ⟨hbx0, hbx1, hbx2, hbx3, hbx4, hbx5⟩ := cell6 q_bx
    obtain ⟨hy00, hy01, hy02, hy03, hy04, hy05⟩ := cell6 q_y0
    go_simp
    try with_reducible rfl
  try simp only [Act.put, List.setIfInBounds_toArray, List.set_cons_zero, List.set_cons_succ, List.getElem_toArray, List.getElem_cons_succ, List.getElem_cons_zero]
  refine wpAnyH_done (by kernel_rfl) ?_ _
  obtain ⟨bw_, bx_, w0_, o0_, x0_, y0_, g0_, o1_⟩ := hHeld
  have bw := Lib.hid bw_
  have bx := Lib.hid bx_
  have w0 := Lib.hid w0_
  have o0 := Lib.hid o0_
  have x0 := Lib.hid x0_
  have y0 := Lib.hid y0_
  have g0 := Lib.hid g0_
  have o1 := Lib.hid o1_
  clear bw_ bx_ w0_ o0_ x0_ y0_ g0_ o1_
  clear t1 t1P t1F t1C
  obtain ⟨y0c0, y0c1, y0c2, y0c3, y0c4, y0c5⟩ := cell6 y0.out
  go_wp2_with fail
  clear y0c0 y0c1 y0c2 y0c3 y0c4 y0c5
  have := x0F.out.kS_le
  refine (markSh_any x0n 1 _ _ _ x0.out x0F.out (by have := x0F.out.kS_le; omega)).mono ?_
  rintro e v12 ⟨rfl, hh, ht⟩
  have bw := Lib.hid (ht.below bw.out (by have sz0_ := sz0.out; have sz1_ := sz1.out; have sz2_ := sz2.out; have sz3_ := sz3.out; have sz4_ := sz4.out; have sz5_ := sz5.out; have sz6_ := sz6.out; have sz7_ := sz7.out; have sz8_ := sz8.out; have sz9_ := sz9.out; have sz10_ := sz10.out; have sz11_ := sz11.out; omega))
  have bx := Lib.hid (ht.blk bx.out (by decide))
  have w0 := Lib.hid (ht.heldO w0.out (by have sz0_ := sz0.out; have sz1_ := sz1.out; have sz2_ := sz2.out; have sz3_ := sz3.out; have sz4_ := sz4.out; have sz5_ := sz5.out; have sz6_ := sz6.out; have sz7_ := sz7.out; have sz8_ := sz8.out; have sz9_ := sz9.out; have sz10_ := sz10.out; have sz11_ := sz11.out; omega))
  have o0 := Lib.hid (ht.blk o0.out (by decide))
  have x0 := Lib.hid (show HeldS v12 (mkSh 1 x0n) v4.heap.size v5.heap.size from hh)
  have y0 := Lib.hid (ht.blk y0.out (by decide))
  have g0 := Lib.hid (ht.heldO g0.out (by have sz0_ := sz0.out; have sz1_ := sz1.out; have sz2_ := sz2.out; have sz3_ := sz3.out; have sz4_ := sz4.out; have sz5_ := sz5.out; have sz6_ := sz6.out; have sz7_ := sz7.out; have sz8_ := sz8.out; have sz9_ := sz9.out; have sz10_ := sz10.out; have sz11_ := sz11.out; omega))
  have o1 := Lib.hid (ht.blk o1.out (by decide))
  have sz12 := Lib.hid (show v11.heap.size ≤ v12.heap.size from ht.size)
  clear hh ht
  have hkx : ¬ ((1 + kS x0n : Nat) : Int) < 0 := by omega
  obtain ⟨zx, hzx⟩ : ∃ z : Nat, 1 + kS x0n = z := ⟨_, rfl⟩
  have Hzx := Lib.hid hzx
  rw [hzx] at hkx ⊢
  clear hzx
  clear x0
  obtain ⟨o1c0, o1c1, o1c2, o1c3, o1c4, o1c5, o1c6, o1c7, o1c8⟩ := cell9 o1.out
  obtain ⟨o0c0, o0c1, o0c2, o0c3, o0c4, o0c5, o0c6, o0c7, o0c8⟩ := cell9 o0.out
  go_wp2_with fail
  clear o1c0 o1c1 o1c2 o1c3 o1c4 o1c5 o1c6 o1c7 o1c8 o0c0 o0c1 o0c2 o0c3 o0c4 o0c5 o0c6 o0c7 o0c8
  refine (eqSo_same g0n w0n _ (g0.out.lies (by have sz0_ := sz0.out; have sz1_ := sz1.out; have sz2_ := sz2.out; have sz3_ := sz3.out; have sz4_ := sz4.out; have sz5_ := sz5.out; have sz6_ := sz6.out; have sz7_ := sz7.out; have sz8_ := sz8.out; have sz9_ := sz9.out; have sz10_ := sz10.out; have sz11_ := sz11.out; have sz12_ := sz12.out; omega)) (w0.out.lies (by have sz0_ := sz0.out; have sz1_ := sz1.out; have sz2_ := sz2.out; have sz3_ := sz3.out; have sz4_ := sz4.out; have sz5_ := sz5.out; have sz6_ := sz6.out; have sz7_ := sz7.out; have sz8_ := sz8.out; have sz9_ := sz9.out; have sz10_ := sz10.out; have sz11_ := sz11.out; have sz12_ := sz12.out; omega)) (g0P.out.trans w0P.out.symm) g0F.out).mono ?_
  rintro e v13 ⟨rfl, hb⟩
  have bw := Lib.hid (bw.out.trans (hb.mono bw.out.size))
  have bx := Lib.hid (bx.out.on hb)
  have w0 := Lib.hid (w0.out.step hb (.inr (Nat.le_refl _)))
  have o0 := Lib.hid (o0.out.on hb)
  have y0 := Lib.hid (y0.out.on hb)
  have g0 := Lib.hid (g0.out.step hb (.inr (Nat.le_refl _)))
  have o1 := Lib.hid (o1.out.on hb)
  have sz13 := Lib.hid (show v12.heap.size ≤ v13.heap.size from hb.size)
  clear hb
  obtain ⟨o1c0, o1c1, o1c2, o1c3, o1c4, o1c5, o1c6, o1c7, o1c8⟩ := cell9 o1.out
  go_wp2_with fail
  clear o1c0 o1c1 o1c2 o1c3 o1c4 o1c5 o1c6 o1c7 o1c8
  have hko := g0F.out.kO_le
  refine (markSo_any g0n 1 _ _ _ g0.out g0F.out (by omega)).mono ?_
  rintro e v14 ⟨rfl, hh, ht⟩
  have bw := Lib.hid (ht.below bw.out (by have sz0_ := sz0.out; have sz1_ := sz1.out; have sz2_ := sz2.out; have sz3_ := sz3.out; have sz4_ := sz4.out; have sz5_ := sz5.out; have sz6_ := sz6.out; have sz7_ := sz7.out; have sz8_ := sz8.out; have sz9_ := sz9.out; have sz10_ := sz10.out; have sz11_ := sz11.out; have sz12_ := sz12.out; have sz13_ := sz13.out; omega))
  have bx := Lib.hid (ht.blk bx.out (by decide))
  have w0 := Lib.hid (ht.heldO w0.out (by have sz0_ := sz0.out; have sz1_ := sz1.out; have sz2_ := sz2.out; have sz3_ := sz3.out; have sz4_ := sz4.out; have sz5_ := sz5.out; have sz6_ := sz6.out; have sz7_ := sz7.out; have sz8_ := sz8.out; have sz9_ := sz9.out; have sz10_ := sz10.out; have sz11_ := sz11.out; have sz12_ := sz12.out; have sz13_ := sz13.out; omega))
  have o0 := Lib.hid (ht.blk o0.out (by decide))
  have y0 := Lib.hid (ht.blk y0.out (by decide))
  have g0 := Lib.hid (show HeldO v14 (mkO 1 g0n) v6.heap.size v7.heap.size from hh)
  have o1 := Lib.hid (ht.blk o1.out (by decide))
  have sz14 := Lib.hid (show v13.heap.size ≤ v14.heap.size from ht.size)
  clear hh ht
  have hk3 : ¬ ((1 + kO g0n : Nat) : Int) < 0 := by omega
  obtain ⟨z1, hz1⟩ : ∃ z : Nat, 1 + kO g0n = z := ⟨_, rfl⟩
  have Hz1 := Lib.hid hz1
  rw [hz1] at hk3 ⊢
  clear hz1
  clear hko
  have hze : ((z1 : Int) != (z1 : Int)) = false := by simp
  obtain ⟨o1c0, o1c1, o1c2, o1c3, o1c4, o1c5, o1c6, o1c7, o1c8⟩ := cell9 o1.out
  go_wp2_with fail
  clear o1c0 o1c1 o1c2 o1c3 o1c4 o1c5 o1c6 o1c7 o1c8
  refine (heldSo_any g0n 1 _ (g0.out.lies (by have sz0_ := sz0.out; have sz1_ := sz1.out; have sz2_ := sz2.out; have sz3_ := sz3.out; have sz4_ := sz4.out; have sz5_ := sz5.out; have sz6_ := sz6.out; have sz7_ := sz7.out; have sz8_ := sz8.out; have sz9_ := sz9.out; have sz10_ := sz10.out; have sz11_ := sz11.out; have sz12_ := sz12.out; have sz13_ := sz13.out; have sz14_ := sz14.out; omega)) g0F.out (by have := g0F.out.kO_le; omega)).mono ?_
  rintro e v15 ⟨rfl, hb⟩
  have bw := Lib.hid (bw.out.trans (hb.mono bw.out.size))
  have bx := Lib.hid (bx.out.on hb)
  have w0 := Lib.hid (w0.out.step hb (.inr (Nat.le_refl _)))
  have o0 := Lib.hid (o0.out.on hb)
  have y0 := Lib.hid (y0.out.on hb)
  have g0 := Lib.hid (g0.out.step hb (.inr (Nat.le_refl _)))
  have o1 := Lib.hid (o1.out.on hb)
  have sz15 := Lib.hid (show v14.heap.size ≤ v15.heap.size from hb.size)
  clear hb
  rw [Hz1.out]
  obtain ⟨bxc0, bxc1, bxc2, bxc3, bxc4, bxc5⟩ := cell6 bx.out
  go_wp2_with fail
  clear bxc0 bxc1 bxc2 bxc3 bxc4 bxc5
  refine (toSh_any s _ (Hs.out.on bw.out) Fs.out).mono ?_
  rintro e v16 ⟨x2n, rfl, x2p, x2c, x2h, hb⟩
  have x2P := Lib.hid x2p
  have x2F := Lib.hid (Fs.out.same x2p)
  have x2C := Lib.hid x2c
  clear x2p x2c
  unfold Sh.val
  have bw := Lib.hid (bw.out.trans (hb.mono bw.out.size))
  have bx := Lib.hid (bx.out.on hb)
  have w0 := Lib.hid (w0.out.step hb (.inr (Nat.le_refl _)))
  have o0 := Lib.hid (o0.out.on hb)
  have y0 := Lib.hid (y0.out.on hb)
  have g0 := Lib.hid (g0.out.step hb (.inr (Nat.le_refl _)))
  have o1 := Lib.hid (o1.out.on hb)
  have sz16 := Lib.hid (show v15.heap.size ≤ v16.heap.size from hb.size)
  have x2 := Lib.hid (show HeldS v16 x2n v15.heap.size v16.heap.size from x2h)
  clear hb
  clear x2h
  go_wp2_with fail
  refine (implRest_any x2n _ (x2.out.lies (by have sz0_ := sz0.out; have sz1_ := sz1.out; have sz2_ := sz2.out; have sz3_ := sz3.out; have sz4_ := sz4.out; have sz5_ := sz5.out; have sz6_ := sz6.out; have sz7_ := sz7.out; have sz8_ := sz8.out; have sz9_ := sz9.out; have sz10_ := sz10.out; have sz11_ := sz11.out; have sz12_ := sz12.out; have sz13_ := sz13.out; have sz14_ := sz14.out; have sz15_ := sz15.out; have sz16_ := sz16.out; omega)) x2F.out x2C.out).mono ?_
  rintro e v17 hg
  rw [x2P.out, HNR.out] at hg
  obtain ⟨h0n, rfl, h0p, hh, hb⟩ := hg
  have h0P := Lib.hid h0p
  have h0F := Lib.hid (po_fine (h0p.trans (HNR.out.symm.trans HJP.out)))
  clear h0p
  unfold So.val
  have bw := Lib.hid (bw.out.trans (hb.mono bw.out.size))
  have bx := Lib.hid (bx.out.on hb)
  have w0 := Lib.hid (w0.out.step hb (.inr (Nat.le_refl _)))
  have o0 := Lib.hid (o0.out.on hb)
  have y0 := Lib.hid (y0.out.on hb)
  have g0 := Lib.hid (g0.out.step hb (.inr (Nat.le_refl _)))
  have o1 := Lib.hid (o1.out.on hb)
  have x2 := Lib.hid (x2.out.step hb (.inr (Nat.le_refl _)))
  have sz17 := Lib.hid (show v16.heap.size ≤ v17.heap.size from hb.size)
  have h0 := Lib.hid (show HeldO v17 h0n v16.heap.size v17.heap.size from hh)
  clear hb
  clear hh
  clear x2
  obtain ⟨o0c0, o0c1, o0c2, o0c3, o0c4, o0c5, o0c6, o0c7, o0c8⟩ := cell9 (o0.out.alloc (Obj.cells #[Value.int IntKind.i64 h0n.s.me, Value.int IntKind.i64 h0n.s.ep, Value.int IntKind.i64 h0n.s.ck, Value.slice h0n.s.A h0n.s.l.length h0n.s.c, Value.slice h0n.s.n.A h0n.s.n.s.length h0n.s.n.ca, Value.slice h0n.s.n.B h0n.s.n.m.length h0n.s.n.cb, Value.slice h0n.RA h0n.rs.length h0n.rc, Value.slice h0n.FA h0n.fr.length h0n.fc, Value.int IntKind.i64 h0n.code] 70))
  go_wp2_with fail
  clear o0c0 o0c1 o0c2 o0c3 o0c4 o0c5 o0c6 o0c7 o0c8
  have bw := Lib.hid (bw.out.alloc bw.out.size (Obj.cells #[Value.int IntKind.i64 h0n.s.me, Value.int IntKind.i64 h0n.s.ep, Value.int IntKind.i64 h0n.s.ck, Value.slice h0n.s.A h0n.s.l.length h0n.s.c, Value.slice h0n.s.n.A h0n.s.n.s.length h0n.s.n.ca, Value.slice h0n.s.n.B h0n.s.n.m.length h0n.s.n.cb, Value.slice h0n.RA h0n.rs.length h0n.rc, Value.slice h0n.FA h0n.fr.length h0n.fc, Value.int IntKind.i64 h0n.code] 70))
  have bx := Lib.hid (bx.out.alloc (Obj.cells #[Value.int IntKind.i64 h0n.s.me, Value.int IntKind.i64 h0n.s.ep, Value.int IntKind.i64 h0n.s.ck, Value.slice h0n.s.A h0n.s.l.length h0n.s.c, Value.slice h0n.s.n.A h0n.s.n.s.length h0n.s.n.ca, Value.slice h0n.s.n.B h0n.s.n.m.length h0n.s.n.cb, Value.slice h0n.RA h0n.rs.length h0n.rc, Value.slice h0n.FA h0n.fr.length h0n.fc, Value.int IntKind.i64 h0n.code] 70))
  have w0 := Lib.hid (w0.out.step ((Below.refl _ v17).alloc (Nat.le_refl _) (Obj.cells #[Value.int IntKind.i64 h0n.s.me, Value.int IntKind.i64 h0n.s.ep, Value.int IntKind.i64 h0n.s.ck, Value.slice h0n.s.A h0n.s.l.length h0n.s.c, Value.slice h0n.s.n.A h0n.s.n.s.length h0n.s.n.ca, Value.slice h0n.s.n.B h0n.s.n.m.length h0n.s.n.cb, Value.slice h0n.RA h0n.rs.length h0n.rc, Value.slice h0n.FA h0n.fr.length h0n.fc, Value.int IntKind.i64 h0n.code] 70)) (.inr (Nat.le_refl _)))
  have o0 := Lib.hid (o0.out.alloc (Obj.cells #[Value.int IntKind.i64 h0n.s.me, Value.int IntKind.i64 h0n.s.ep, Value.int IntKind.i64 h0n.s.ck, Value.slice h0n.s.A h0n.s.l.length h0n.s.c, Value.slice h0n.s.n.A h0n.s.n.s.length h0n.s.n.ca, Value.slice h0n.s.n.B h0n.s.n.m.length h0n.s.n.cb, Value.slice h0n.RA h0n.rs.length h0n.rc, Value.slice h0n.FA h0n.fr.length h0n.fc, Value.int IntKind.i64 h0n.code] 70))
  have y0 := Lib.hid (y0.out.alloc (Obj.cells #[Value.int IntKind.i64 h0n.s.me, Value.int IntKind.i64 h0n.s.ep, Value.int IntKind.i64 h0n.s.ck, Value.slice h0n.s.A h0n.s.l.length h0n.s.c, Value.slice h0n.s.n.A h0n.s.n.s.length h0n.s.n.ca, Value.slice h0n.s.n.B h0n.s.n.m.length h0n.s.n.cb, Value.slice h0n.RA h0n.rs.length h0n.rc, Value.slice h0n.FA h0n.fr.length h0n.fc, Value.int IntKind.i64 h0n.code] 70))
  have g0 := Lib.hid (g0.out.step ((Below.refl _ v17).alloc (Nat.le_refl _) (Obj.cells #[Value.int IntKind.i64 h0n.s.me, Value.int IntKind.i64 h0n.s.ep, Value.int IntKind.i64 h0n.s.ck, Value.slice h0n.s.A h0n.s.l.length h0n.s.c, Value.slice h0n.s.n.A h0n.s.n.s.length h0n.s.n.ca, Value.slice h0n.s.n.B h0n.s.n.m.length h0n.s.n.cb, Value.slice h0n.RA h0n.rs.length h0n.rc, Value.slice h0n.FA h0n.fr.length h0n.fc, Value.int IntKind.i64 h0n.code] 70)) (.inr (Nat.le_refl _)))
  have o1 := Lib.hid (o1.out.alloc (Obj.cells #[Value.int IntKind.i64 h0n.s.me, Value.int IntKind.i64 h0n.s.ep, Value.int IntKind.i64 h0n.s.ck, Value.slice h0n.s.A h0n.s.l.length h0n.s.c, Value.slice h0n.s.n.A h0n.s.n.s.length h0n.s.n.ca, Value.slice h0n.s.n.B h0n.s.n.m.length h0n.s.n.cb, Value.slice h0n.RA h0n.rs.length h0n.rc, Value.slice h0n.FA h0n.fr.length h0n.fc, Value.int IntKind.i64 h0n.code] 70))
  have h0 := Lib.hid (h0.out.step ((Below.refl _ v17).alloc (Nat.le_refl _) (Obj.cells #[Value.int IntKind.i64 h0n.s.me, Value.int IntKind.i64 h0n.s.ep, Value.int IntKind.i64 h0n.s.ck, Value.slice h0n.s.A h0n.s.l.length h0n.s.c, Value.slice h0n.s.n.A h0n.s.n.s.length h0n.s.n.ca, Value.slice h0n.s.n.B h0n.s.n.m.length h0n.s.n.cb, Value.slice h0n.RA h0n.rs.length h0n.rc, Value.slice h0n.FA h0n.fr.length h0n.fc, Value.int IntKind.i64 h0n.code] 70)) (.inr (Nat.le_refl _)))
  have o2 := Lib.hid (show Blk (World.alloc v17 (Obj.cells #[Value.int IntKind.i64 h0n.s.me, Value.int IntKind.i64 h0n.s.ep, Value.int IntKind.i64 h0n.s.ck, Value.slice h0n.s.A h0n.s.l.length h0n.s.c, Value.slice h0n.s.n.A h0n.s.n.s.length h0n.s.n.ca, Value.slice h0n.s.n.B h0n.s.n.m.length h0n.s.n.cb, Value.slice h0n.RA h0n.rs.length h0n.rc, Value.slice h0n.FA h0n.fr.length h0n.fc, Value.int IntKind.i64 h0n.code] 70)) v17.heap.size 70 #[Value.int IntKind.i64 h0n.s.me, Value.int IntKind.i64 h0n.s.ep, Value.int IntKind.i64 h0n.s.ck, Value.slice h0n.s.A h0n.s.l.length h0n.s.c, Value.slice h0n.s.n.A h0n.s.n.s.length h0n.s.n.ca, Value.slice h0n.s.n.B h0n.s.n.m.length h0n.s.n.cb, Value.slice h0n.RA h0n.rs.length h0n.rc, Value.slice h0n.FA h0n.fr.length h0n.fc, Value.int IntKind.i64 h0n.code] from Blk.new v17 70 #[Value.int IntKind.i64 h0n.s.me, Value.int IntKind.i64 h0n.s.ep, Value.int IntKind.i64 h0n.s.ck, Value.slice h0n.s.A h0n.s.l.length h0n.s.c, Value.slice h0n.s.n.A h0n.s.n.s.length h0n.s.n.ca, Value.slice h0n.s.n.B h0n.s.n.m.length h0n.s.n.cb, Value.slice h0n.RA h0n.rs.length h0n.rc, Value.slice h0n.FA h0n.fr.length h0n.fc, Value.int IntKind.i64 h0n.code])
  have sz18 := Lib.hid (show v17.heap.size + 1 = (World.alloc v17 (Obj.cells #[Value.int IntKind.i64 h0n.s.me, Value.int IntKind.i64 h0n.s.ep, Value.int IntKind.i64 h0n.s.ck, Value.slice h0n.s.A h0n.s.l.length h0n.s.c, Value.slice h0n.s.n.A h0n.s.n.s.length h0n.s.n.ca, Value.slice h0n.s.n.B h0n.s.n.m.length h0n.s.n.cb, Value.slice h0n.RA h0n.rs.length h0n.rc, Value.slice h0n.FA h0n.fr.length h0n.fc, Value.int IntKind.i64 h0n.code] 70)).heap.size by simp)
  generalize World.alloc v17 _ = v18 at bw bx w0 o0 y0 g0 o1 h0 o2 sz18 ⊢
  refine (eqSo_same h0n w0n _ (h0.out.lies (by have sz0_ := sz0.out; have sz1_ := sz1.out; have sz2_ := sz2.out; have sz3_ := sz3.out; have sz4_ := sz4.out; have sz5_ := sz5.out; have sz6_ := sz6.out; have sz7_ := sz7.out; have sz8_ := sz8.out; have sz9_ := sz9.out; have sz10_ := sz10.out; have sz11_ := sz11.out; have sz12_ := sz12.out; have sz13_ := sz13.out; have sz14_ := sz14.out; have sz15_ := sz15.out; have sz16_ := sz16.out; have sz17_ := sz17.out; have sz18_ := sz18.out; omega)) (w0.out.lies (by have sz0_ := sz0.out; have sz1_ := sz1.out; have sz2_ := sz2.out; have sz3_ := sz3.out; have sz4_ := sz4.out; have sz5_ := sz5.out; have sz6_ := sz6.out; have sz7_ := sz7.out; have sz8_ := sz8.out; have sz9_ := sz9.out; have sz10_ := sz10.out; have sz11_ := sz11.out; have sz12_ := sz12.out; have sz13_ := sz13.out; have sz14_ := sz14.out; have sz15_ := sz15.out; have sz16_ := sz16.out; have sz17_ := sz17.out; have sz18_ := sz18.out; omega)) (h0P.out.trans w0P.out.symm) h0F.out).mono ?_
  rintro e v19 ⟨rfl, hb⟩
  have bw := Lib.hid (bw.out.trans (hb.mono bw.out.size))
  have bx := Lib.hid (bx.out.on hb)
  have w0 := Lib.hid (w0.out.step hb (.inr (Nat.le_refl _)))
  have o0 := Lib.hid (o0.out.on hb)
  have y0 := Lib.hid (y0.out.on hb)
  have g0 := Lib.hid (g0.out.step hb (.inr (Nat.le_refl _)))
  have o1 := Lib.hid (o1.out.on hb)
  have h0 := Lib.hid (h0.out.step hb (.inr (Nat.le_refl _)))
  have o2 := Lib.hid (o2.out.on hb)
  have sz19 := Lib.hid (show v18.heap.size ≤ v19.heap.size from hb.size)
  clear hb
  obtain ⟨o1c0, o1c1, o1c2, o1c3, o1c4, o1c5, o1c6, o1c7, o1c8⟩ := cell9 o1.out
  go_wp2_with fail
  clear o1c0 o1c1 o1c2 o1c3 o1c4 o1c5 o1c6 o1c7 o1c8
  refine (heldSo_any g0n 1 _ (g0.out.lies (by have sz0_ := sz0.out; have sz1_ := sz1.out; have sz2_ := sz2.out; have sz3_ := sz3.out; have sz4_ := sz4.out; have sz5_ := sz5.out; have sz6_ := sz6.out; have sz7_ := sz7.out; have sz8_ := sz8.out; have sz9_ := sz9.out; have sz10_ := sz10.out; have sz11_ := sz11.out; have sz12_ := sz12.out; have sz13_ := sz13.out; have sz14_ := sz14.out; have sz15_ := sz15.out; have sz16_ := sz16.out; have sz17_ := sz17.out; have sz18_ := sz18.out; have sz19_ := sz19.out; omega)) g0F.out (by have := g0F.out.kO_le; omega)).mono ?_
  rintro e v20 ⟨rfl, hb⟩
  have bw := Lib.hid (bw.out.trans (hb.mono bw.out.size))
  have bx := Lib.hid (bx.out.on hb)
  have w0 := Lib.hid (w0.out.step hb (.inr (Nat.le_refl _)))
  have o0 := Lib.hid (o0.out.on hb)
  have y0 := Lib.hid (y0.out.on hb)
  have g0 := Lib.hid (g0.out.step hb (.inr (Nat.le_refl _)))
  have o1 := Lib.hid (o1.out.on hb)
  have h0 := Lib.hid (h0.out.step hb (.inr (Nat.le_refl _)))
  have o2 := Lib.hid (o2.out.on hb)
  have sz20 := Lib.hid (show v19.heap.size ≤ v20.heap.size from hb.size)
  clear hb
  rw [Hz1.out]
  go_wp2_with fail
  go_ret
  exact ⟨rfl, bw.out⟩
end Go.Proofs.YtegnjbdgeibhfaaGreat.Rs
