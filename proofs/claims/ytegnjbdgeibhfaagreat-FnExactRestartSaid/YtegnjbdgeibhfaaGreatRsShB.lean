/-
  The law's own szShim, eqShim, markShim, heldShim; a parameter that is a shim, opened.
-/
import Derived.Test.YtegnjbdgeibhfaaGreatRsSh
namespace Go.Proofs.YtegnjbdgeibhfaaGreat.Rs
open Go.ChangeShapes Go.WideShapes Go.ChangeAt Go.RowKit
open Rec (R P Sound Small recV cellsV)
open Net (Cl Bk HeldV)
open Dep (D I)
set_option linter.unusedVariables false
set_option maxRecDepth 100000
set_option linter.unusedSimpArgs false

theorem cell6 {W : World} {b t : Nat} {u0 u1 u2 u3 u4 u5 : Value} (h : Blk W b t #[u0, u1, u2, u3, u4, u5]) : W.cell? ⟨b, 0, none⟩ = some u0 ∧ W.cell? ⟨b, 1, none⟩ = some u1 ∧ W.cell? ⟨b, 2, none⟩ = some u2 ∧ W.cell? ⟨b, 3, none⟩ = some u3 ∧ W.cell? ⟨b, 4, none⟩ = some u4 ∧ W.cell? ⟨b, 5, none⟩ = some u5 := ⟨h.cell 0, h.cell 1, h.cell 2, h.cell 3, h.cell 4, h.cell 5⟩
/-- A shim as it comes in. -/
structure IsSh (w : World) (s : Sh) : Prop where
  l : SLies w w.heap.size s
  d : s.l.length ≤ maxLen
  k : ∀ d ∈ s.l, d.k.size ≤ maxLen
  a : s.n.s.length ≤ maxLen
  b : s.n.m.length ≤ maxLen
  q : ∀ q ∈ s.n.s ++ s.n.m, Sound q.r

theorem szSh_any (s : Sh) (k : Int) (w : World) (h : SLies w w.heap.size s) (hd : s.l.length ≤ maxLen) (hk : ∀ d ∈ s.l, d.k.size ≤ maxLen) (ha : s.n.s.length ≤ maxLen) (hb : s.n.m.length ≤ maxLen) (hq : ∀ q ∈ s.n.s ++ s.n.m, Sound q.r) (k0 : 0 ≤ k) (k1 : k ≤ 1048576) :
    Calls Tryz.prog 35 #[s.val, .int .i64 k] w fun e w' => ∃ r : Int, e = .returned (.int .i64 r) ∧ (r = -1 ∨ (0 ≤ r ∧ SFine s ∧ r + (s.l.length + (s.n.s.length + tot s.n.s + (s.n.m.length + tot s.n.m)) : Nat) ≤ k)) ∧ Below w.heap.size w w' := by
  have HS := Lib.hid (fun W (hW : Below w.heap.size w W) => Dep.szDepS_any s.A s.l s.c k W ((h.1.below hW (Nat.le_refl _)).more hW.size) hd hk k0 k1)
  have HM := Lib.hid (fun (j : Int) (j0 : 0 ≤ j) (j1 : j ≤ 1048576) W (hW : Below w.heap.size w W) => szCut_any s.n j W (h.2.on hW) ha hb hq j0 j1)
  have HQ := Lib.hid hq
  have HKK := Lib.hid hk
  have B0 := Lib.hid ((Below.refl w.heap.size w).alloc (Nat.le_refl _) (Obj.cells #[Value.int IntKind.i64 s.me, Value.int IntKind.i64 s.ep, Value.int IntKind.i64 s.ck, Value.slice s.A s.l.length s.c, Value.slice s.n.A s.n.s.length s.n.ca, Value.slice s.n.B s.n.m.length s.n.cb] 60))
  have X0 := Lib.hid (Blk.new w 60 #[Value.int IntKind.i64 s.me, Value.int IntKind.i64 s.ep, Value.int IntKind.i64 s.ck, Value.slice s.A s.l.length s.c, Value.slice s.n.A s.n.s.length s.n.ca, Value.slice s.n.B s.n.m.length s.n.cb])
  clear h hd hk ha hb hq
  unfold Sh.val
  unfold Dep.slV at HS
  unfold Ct.val at HM
  go_enter Tryz.func35, Tryz.ntmps35
  go_wp2_with fail
  refine (HS.out _ B0.out).mono ?_
  rintro e w1 ⟨r, rfl, hr, hb⟩
  have B1 := Lib.hid (B0.out.trans (hb.mono B0.out.size))
  have X1 := Lib.hid (X0.out.on hb)
  clear hb
  rcases hr with rfl | ⟨a0, a1, a2, a3⟩
  · go_wp2_with fail
    go_ret
    exact ⟨-1, rfl, .inl rfl, B1.out⟩
  have a00 : ¬ r < 0 := by omega
  clear a3
  obtain ⟨x0, x1, x2, x3, x4, x5⟩ := cell6 X1.out
  go_wp2_with fail
  clear x0 x1 x2 x3 x4 x5
  refine (HM.out r a0 (by omega) _ B1.out).mono ?_
  rintro e w2 ⟨z, rfl, hz, hb⟩
  have B2 := Lib.hid (B1.out.trans (hb.mono B1.out.size))
  clear hb
  rcases hz with rfl | ⟨b0, b1⟩
  · go_wp2_with fail
    go_ret
    exact ⟨-1, rfl, .inl rfl, B2.out⟩
  have b00 : ¬ z < 0 := by omega
  have HB1 := Lib.hid b1
  clear b1
  go_wp2_with fail
  go_ret
  have hb1 := HB1.out.1
  have hsum : z + (s.l.length + (s.n.s.length + tot s.n.s + (s.n.m.length + tot s.n.m)) : Nat) ≤ k := by omega
  exact ⟨z, rfl, .inr ⟨b0, ⟨by omega, HKK.out, CFine.of_sz (by omega) HQ.out b0 HB1.out, by omega⟩, hsum⟩, B2.out⟩

set_option maxHeartbeats 2000000 in
theorem eqSh_same (s s' : Sh) (w : World) (h : SLies w w.heap.size s) (h' : SLies w w.heap.size s') (he : ps s = ps s') (hf : SFine s) :
    Calls Tryz.prog 39 #[s.val, s'.val] w fun e w' => e = .returned (.bool true) ∧ Below w.heap.size w w' := by
  obtain ⟨me, ep, ck, A, l, c, n⟩ := s
  obtain ⟨me', ep', ck', A', l', c', n'⟩ := s'
  unfold ps at he
  injection he with e1 e2 e3 e4 e5
  simp only at e1 e2 e3 e4 e5
  subst e1 e2 e3 e4
  have HS := Lib.hid (fun W (hW : Below w.heap.size w W) => Dep.eqDepS_same A A' l c c' W ((h.1.below hW (Nat.le_refl _)).more hW.size) ((h'.1.below hW (Nat.le_refl _)).more hW.size) (by have := hf.l; unfold maxLen; simp only at this; omega))
  have HM := Lib.hid (fun W (hW : Below w.heap.size w W) => eqCt_same n n' W (h.2.on hW) (h'.2.on hW) e5 hf.n)
  have B0 := Lib.hid (((Below.refl w.heap.size w).alloc (Nat.le_refl _) (Obj.cells #[Value.int IntKind.i64 (⟨me, ep, ck, A, l, c, n⟩ : Sh).me, Value.int IntKind.i64 (⟨me, ep, ck, A, l, c, n⟩ : Sh).ep, Value.int IntKind.i64 (⟨me, ep, ck, A, l, c, n⟩ : Sh).ck, Value.slice (⟨me, ep, ck, A, l, c, n⟩ : Sh).A (⟨me, ep, ck, A, l, c, n⟩ : Sh).l.length (⟨me, ep, ck, A, l, c, n⟩ : Sh).c, Value.slice (⟨me, ep, ck, A, l, c, n⟩ : Sh).n.A (⟨me, ep, ck, A, l, c, n⟩ : Sh).n.s.length (⟨me, ep, ck, A, l, c, n⟩ : Sh).n.ca, Value.slice (⟨me, ep, ck, A, l, c, n⟩ : Sh).n.B (⟨me, ep, ck, A, l, c, n⟩ : Sh).n.m.length (⟨me, ep, ck, A, l, c, n⟩ : Sh).n.cb] 64)).alloc (by simp) (Obj.cells #[Value.int IntKind.i64 (⟨me, ep, ck, A', l, c', n'⟩ : Sh).me, Value.int IntKind.i64 (⟨me, ep, ck, A', l, c', n'⟩ : Sh).ep, Value.int IntKind.i64 (⟨me, ep, ck, A', l, c', n'⟩ : Sh).ck, Value.slice (⟨me, ep, ck, A', l, c', n'⟩ : Sh).A (⟨me, ep, ck, A', l, c', n'⟩ : Sh).l.length (⟨me, ep, ck, A', l, c', n'⟩ : Sh).c, Value.slice (⟨me, ep, ck, A', l, c', n'⟩ : Sh).n.A (⟨me, ep, ck, A', l, c', n'⟩ : Sh).n.s.length (⟨me, ep, ck, A', l, c', n'⟩ : Sh).n.ca, Value.slice (⟨me, ep, ck, A', l, c', n'⟩ : Sh).n.B (⟨me, ep, ck, A', l, c', n'⟩ : Sh).n.m.length (⟨me, ep, ck, A', l, c', n'⟩ : Sh).n.cb] 64))
  have X0 := Lib.hid ((Blk.new w 64 #[Value.int IntKind.i64 (⟨me, ep, ck, A, l, c, n⟩ : Sh).me, Value.int IntKind.i64 (⟨me, ep, ck, A, l, c, n⟩ : Sh).ep, Value.int IntKind.i64 (⟨me, ep, ck, A, l, c, n⟩ : Sh).ck, Value.slice (⟨me, ep, ck, A, l, c, n⟩ : Sh).A (⟨me, ep, ck, A, l, c, n⟩ : Sh).l.length (⟨me, ep, ck, A, l, c, n⟩ : Sh).c, Value.slice (⟨me, ep, ck, A, l, c, n⟩ : Sh).n.A (⟨me, ep, ck, A, l, c, n⟩ : Sh).n.s.length (⟨me, ep, ck, A, l, c, n⟩ : Sh).n.ca, Value.slice (⟨me, ep, ck, A, l, c, n⟩ : Sh).n.B (⟨me, ep, ck, A, l, c, n⟩ : Sh).n.m.length (⟨me, ep, ck, A, l, c, n⟩ : Sh).n.cb]).alloc (Obj.cells #[Value.int IntKind.i64 (⟨me, ep, ck, A', l, c', n'⟩ : Sh).me, Value.int IntKind.i64 (⟨me, ep, ck, A', l, c', n'⟩ : Sh).ep, Value.int IntKind.i64 (⟨me, ep, ck, A', l, c', n'⟩ : Sh).ck, Value.slice (⟨me, ep, ck, A', l, c', n'⟩ : Sh).A (⟨me, ep, ck, A', l, c', n'⟩ : Sh).l.length (⟨me, ep, ck, A', l, c', n'⟩ : Sh).c, Value.slice (⟨me, ep, ck, A', l, c', n'⟩ : Sh).n.A (⟨me, ep, ck, A', l, c', n'⟩ : Sh).n.s.length (⟨me, ep, ck, A', l, c', n'⟩ : Sh).n.ca, Value.slice (⟨me, ep, ck, A', l, c', n'⟩ : Sh).n.B (⟨me, ep, ck, A', l, c', n'⟩ : Sh).n.m.length (⟨me, ep, ck, A', l, c', n'⟩ : Sh).n.cb] 64))
  have y0 := Blk.new (w.alloc (Obj.cells #[Value.int IntKind.i64 (⟨me, ep, ck, A, l, c, n⟩ : Sh).me, Value.int IntKind.i64 (⟨me, ep, ck, A, l, c, n⟩ : Sh).ep, Value.int IntKind.i64 (⟨me, ep, ck, A, l, c, n⟩ : Sh).ck, Value.slice (⟨me, ep, ck, A, l, c, n⟩ : Sh).A (⟨me, ep, ck, A, l, c, n⟩ : Sh).l.length (⟨me, ep, ck, A, l, c, n⟩ : Sh).c, Value.slice (⟨me, ep, ck, A, l, c, n⟩ : Sh).n.A (⟨me, ep, ck, A, l, c, n⟩ : Sh).n.s.length (⟨me, ep, ck, A, l, c, n⟩ : Sh).n.ca, Value.slice (⟨me, ep, ck, A, l, c, n⟩ : Sh).n.B (⟨me, ep, ck, A, l, c, n⟩ : Sh).n.m.length (⟨me, ep, ck, A, l, c, n⟩ : Sh).n.cb] 64)) 64 #[Value.int IntKind.i64 (⟨me, ep, ck, A', l, c', n'⟩ : Sh).me, Value.int IntKind.i64 (⟨me, ep, ck, A', l, c', n'⟩ : Sh).ep, Value.int IntKind.i64 (⟨me, ep, ck, A', l, c', n'⟩ : Sh).ck, Value.slice (⟨me, ep, ck, A', l, c', n'⟩ : Sh).A (⟨me, ep, ck, A', l, c', n'⟩ : Sh).l.length (⟨me, ep, ck, A', l, c', n'⟩ : Sh).c, Value.slice (⟨me, ep, ck, A', l, c', n'⟩ : Sh).n.A (⟨me, ep, ck, A', l, c', n'⟩ : Sh).n.s.length (⟨me, ep, ck, A', l, c', n'⟩ : Sh).n.ca, Value.slice (⟨me, ep, ck, A', l, c', n'⟩ : Sh).n.B (⟨me, ep, ck, A', l, c', n'⟩ : Sh).n.m.length (⟨me, ep, ck, A', l, c', n'⟩ : Sh).n.cb]
  simp only [World.size_alloc] at y0
  have Y0 := Lib.hid y0
  have m1 : (me != me) = false := by simp
  have m2 : (ep != ep) = false := by simp
  have m3 : (ck != ck) = false := by simp
  clear h h' e5 hf y0
  unfold Sh.val
  unfold Dep.slV at HS
  unfold Ct.val at HM
  simp only
  go_enter Tryz.func39, Tryz.ntmps39
  go_wp2_with fail
  refine (HS.out _ B0.out).mono ?_
  rintro e w1 ⟨rfl, hb⟩
  have B1 := Lib.hid (B0.out.trans (hb.mono B0.out.size))
  obtain ⟨x0, x1, x2, x3, x4, x5⟩ := cell6 (X0.out.on hb)
  obtain ⟨y0, y1, y2, y3, y4, y5⟩ := cell6 (Y0.out.on hb)
  clear hb
  go_wp2_with fail
  refine (HM.out _ B1.out).mono ?_
  rintro e w2 ⟨rfl, hb⟩
  have B2 := Lib.hid (B1.out.trans (hb.mono B1.out.size))
  clear hb
  go_wp2_with fail
  go_ret
  exact ⟨rfl, B2.out⟩

/-- A marked shim. -/
def mkSh (k : Nat) (s : Sh) : Sh := ⟨s.me, s.ep, s.ck, s.A, Dep.marks k s.l.length, s.c, mkC (k + 4 * s.l.length) s.n⟩
def kS (s : Sh) : Nat := 4 * s.l.length + kC s.n
theorem SFine.kS_le {s : Sh} (h : SFine s) : kS s ≤ 6291456 := by
  have h1 := kR_le s.n.s
  have h2 := kR_le s.n.m
  have h3 := h.t
  unfold kS kC
  omega

set_option maxHeartbeats 2000000 in
theorem markSh_any (s : Sh) (k lo hi : Nat) (w : World) (h : HeldS w s lo hi) (hf : SFine s) (hk : k + kS s ≤ 9000000) :
    Calls Tryz.prog 46 #[s.val, .int .i64 k] w fun e w' => e = .returned (.int .i64 ((k + kS s : Nat) : Int)) ∧ HeldS w' (mkSh k s) lo hi ∧ Tch tsR w w' lo hi := by
  obtain ⟨mid, h0, h1, h2⟩ := h.s
  have HF := Lib.hid hf
  have le2 := h2.le
  have hk2 : k + 4 * s.l.length + kC s.n ≤ 9000000 := by unfold kS at hk; omega
  have B0 := (Below.refl w.heap.size w).alloc (Nat.le_refl _) (Obj.cells #[Value.int IntKind.i64 s.me, Value.int IntKind.i64 s.ep, Value.int IntKind.i64 s.ck, Value.slice s.A s.l.length s.c, Value.slice s.n.A s.n.s.length s.n.ca, Value.slice s.n.B s.n.m.length s.n.cb] 64)
  have T0 := Lib.hid (show Tch tsR w (w.alloc (Obj.cells #[Value.int IntKind.i64 s.me, Value.int IntKind.i64 s.ep, Value.int IntKind.i64 s.ck, Value.slice s.A s.l.length s.c, Value.slice s.n.A s.n.s.length s.n.ca, Value.slice s.n.B s.n.m.length s.n.cb] 64)) lo hi from Tch.ofBelow B0)
  have X0 := Lib.hid (Blk.new w 64 #[Value.int IntKind.i64 s.me, Value.int IntKind.i64 s.ep, Value.int IntKind.i64 s.ck, Value.slice s.A s.l.length s.c, Value.slice s.n.A s.n.s.length s.n.ca, Value.slice s.n.B s.n.m.length s.n.cb])
  have HM1 := Lib.hid (Dep.mark_any s.A s.l s.c k lo mid _ (h1.step B0 (.inr (Nat.le_refl _))) hf.l (by omega))
  have H2 := Lib.hid (h2.step B0 (.inr (Nat.le_refl _)))
  have HL := Lib.hid (show lo ≤ mid ∧ mid ≤ hi from ⟨h0, le2⟩)
  have HK := Lib.hid hk2
  have HE := Lib.hid (show kS s = 4 * s.l.length + kC s.n from rfl)
  clear h h0 h1 h2 B0 le2 hf hk
  unfold Sh.val
  obtain ⟨x0, x1, x2, x3, x4, x5⟩ := cell6 X0.out
  go_enter Tryz.func46, Tryz.ntmps46
  go_wp2_with fail
  clear x0 x1 x2 x3 x4 x5
  refine HM1.out.mono ?_
  rintro e w1 ⟨rfl, hh, ht⟩
  have hl := HL.out
  have ht1 : Tch tsR _ w1 lo mid := Tch.ofDeps ht (by decide)
  have T1 := Lib.hid (T0.out.trans (ht1.wide (fun t h => h) (Nat.le_refl _) hl.2))
  have X1 := ht1.blk X0.out (by decide)
  have H1 := Lib.hid hh
  have hm2 := markCt_any s.n (k + 4 * s.l.length) mid hi w1 (ht1.heldC H2.out (.inr (Nat.le_refl _))) HF.out.n HK.out
  unfold Ct.val at hm2
  have HM2 := Lib.hid hm2
  clear hh ht ht1 hm2
  obtain ⟨z, hz⟩ : ∃ z, k + 4 * s.l.length = z := ⟨_, rfl⟩
  have HZ := Lib.hid hz
  rw [hz] at HM2 ⊢
  clear hz
  obtain ⟨x0, x1, x2, x3, x4, x5⟩ := cell6 X1
  clear X1
  go_wp2_with fail
  clear x0 x1 x2 x3 x4 x5
  refine HM2.out.mono ?_
  rintro e w2 ⟨rfl, hh, ht⟩
  have H1b := Lib.hid (ht.dep H1.out (.inl (Nat.le_refl _)))
  have T2 := Lib.hid (T1.out.trans (ht.wide (fun t h => h) hl.1 (Nat.le_refl _)))
  have H2b := Lib.hid hh
  clear hh ht
  obtain ⟨z2, hz2⟩ : ∃ z2, z + kC s.n = z2 := ⟨_, rfl⟩
  have HZ2 := Lib.hid hz2
  rw [hz2]
  clear hz2
  go_wp2_with fail
  go_ret
  refine ⟨Str.ret_i64 (by have := HZ2.out; have := HZ.out; have := HE.out; omega), ⟨mid, hl.1, H1b.out, ?_⟩, T2.out⟩
  unfold mkSh
  simp only
  rw [HZ.out]
  exact H2b.out

set_option maxHeartbeats 2000000 in
theorem heldSh_any (s : Sh) (k : Nat) (w : World) (h : SLies w w.heap.size (mkSh k s)) (hf : SFine s) (hk : k + kS s ≤ 9000000) :
    Calls Tryz.prog 108 #[s.val, .int .i64 k] w fun e w' => e = .returned (.int .i64 ((k + kS s : Nat) : Int)) ∧ Below w.heap.size w w' := by
  have hk2 : k + 4 * s.l.length + kC s.n ≤ 9000000 := by unfold kS at hk; omega
  have B0 := Lib.hid ((Below.refl w.heap.size w).alloc (Nat.le_refl _) (Obj.cells #[Value.int IntKind.i64 s.me, Value.int IntKind.i64 s.ep, Value.int IntKind.i64 s.ck, Value.slice s.A s.l.length s.c, Value.slice s.n.A s.n.s.length s.n.ca, Value.slice s.n.B s.n.m.length s.n.cb] 64))
  have X0 := Lib.hid (Blk.new w 64 #[Value.int IntKind.i64 s.me, Value.int IntKind.i64 s.ep, Value.int IntKind.i64 s.ck, Value.slice s.A s.l.length s.c, Value.slice s.n.A s.n.s.length s.n.ca, Value.slice s.n.B s.n.m.length s.n.cb])
  have H1 := Lib.hid (fun W (hW : Below w.heap.size w W) => Dep.heldDepS_any s.A s.l.length s.c k W ((h.1.below hW (Nat.le_refl _)).more hW.size) hf.l (by omega))
  have H2 := Lib.hid (fun W (hW : Below w.heap.size w W) => heldCt_any s.n (k + 4 * s.l.length) W (h.2.on hW) hf.n hk2)
  have HE := Lib.hid (show kS s = 4 * s.l.length + kC s.n from rfl)
  clear h hf hk
  unfold Sh.val
  unfold Ct.val at H2
  obtain ⟨z, hz⟩ : ∃ z, k + 4 * s.l.length = z := ⟨_, rfl⟩
  have HZ := Lib.hid hz
  rw [hz] at H1 H2
  have hzn : ¬ (z : Int) < 0 := by omega
  obtain ⟨z2, hz2⟩ : ∃ z2, z + kC s.n = z2 := ⟨_, rfl⟩
  have HZ2 := Lib.hid hz2
  rw [hz2] at H2
  have hzn2 : ¬ (z2 : Int) < 0 := by omega
  clear hz hz2 hk2
  obtain ⟨x0, x1, x2, x3, x4, x5⟩ := cell6 X0.out
  go_enter Tryz.func108, Tryz.ntmps108
  go_wp2_with fail
  clear x0 x1 x2 x3 x4 x5
  refine (H1.out _ B0.out).mono ?_
  rintro e w1 ⟨rfl, hb⟩
  have B1 := Lib.hid (B0.out.trans (hb.mono B0.out.size))
  obtain ⟨x0, x1, x2, x3, x4, x5⟩ := cell6 (X0.out.on hb)
  clear hb
  go_wp2_with fail
  clear x0 x1 x2 x3 x4 x5
  refine (H2.out _ B1.out).mono ?_
  rintro e w2 ⟨rfl, hb⟩
  have B2 := Lib.hid (B1.out.trans (hb.mono B1.out.size))
  clear hb
  go_wp2_with fail
  go_ret
  exact ⟨Str.ret_i64 (by have := HZ2.out; have := HZ.out; have := HE.out; omega), B2.out⟩

theorem open_shim {H : Type} {enc : TypeId × Value → H} {w : World} {spare : Nat → Bool} {held : Bool} {v : Value} {d : DataW H} {pl : List MemPlace} {rr : Reach} {b0 : Nat}
    (hv : Value.okWide Tryz.prog w rr b0 60 v) (h : DataW.Trod enc Tryz.prog w 0 spare held 60 v d pl) : ∃ s : Sh, v = s.val ∧ IsSh w s := by
  obtain ⟨cs, rfl, hsz⟩ := okWide_struct Tryz.underlying60 hv
  obtain ⟨fuel, hf⟩ := h
  obtain ⟨xs, k, _, _, hl, hxl, hg⟩ := DataW.trod_struct Tryz.underlying60 hf
  have hc : Tryz.prog.cellsOf 60 = 6 := by kernel_rfl
  rw [hc] at hsz
  have hcells : (Value.agg cs).cells = cs := rfl
  rw [hcells] at hg
  obtain ⟨cl, hcl⟩ : ∃ cl, cs.toList = cl := ⟨_, rfl⟩
  have hlen : cl.length = 6 := by rw [← hcl]; simpa using hsz
  rw [hcl] at hg
  match xs, hxl, cl, hlen with
  | [y0, y1, y2, y3, y4], _, [v0, v1, v2, v3, v4, v5], _ =>
    have g0 := hg 0 ⟨"Me", 2, 0, false, "", "", 0⟩ rfl
    have g1 := hg 1 ⟨"Epoch", 2, 1, false, "", "", 8⟩ rfl
    have g2 := hg 2 ⟨"Clock", 2, 2, false, "", "", 16⟩ rfl
    have g3 := hg 3 ⟨"Ctx", 47, 3, false, "", "", 24⟩ rfl
    have g4 := hg 4 ⟨"Cut", 24, 4, false, "", "", 48⟩ rfl
    have c0 : Tryz.prog.cellsOf 2 = 1 := by kernel_rfl
    have c3 : Tryz.prog.cellsOf 47 = 1 := by kernel_rfl
    have c4 : Tryz.prog.cellsOf 24 = 2 := by kernel_rfl
    have c5 : Tryz.prog.cellsOf 22 = 1 := by kernel_rfl
    simp [c0, c3, c4] at g0 g1 g2 g3 g4
    obtain ⟨n0, q0, _, _⟩ := DataW.trod_int Tryz.underlying2 g0
    obtain ⟨n1, q1, _, _⟩ := DataW.trod_int Tryz.underlying2 g1
    obtain ⟨n2, q2, _, _⟩ := DataW.trod_int Tryz.underlying2 g2
    obtain ⟨A, l, c, e3, hd1, hd2, hd3, hd4⟩ := Rec.open_deps g3
    obtain ⟨zs, k2, _, _, hl2, hzl, hi⟩ := DataW.trod_struct Tryz.underlying24 g4
    match zs, hzl with
    | [z0, z1], _ =>
      have i0 := hi 0 ⟨"Rows", 22, 0, false, "", "", 0⟩ rfl
      have i1 := hi 1 ⟨"Wait", 22, 1, false, "", "", 24⟩ rfl
      simp [c5] at i0 i1
      obtain ⟨SA, ss, sc, f0, hs, hsl, hsr⟩ := recs_of i0
      obtain ⟨MA, ms, mc, f1, hm, hml, hmr⟩ := recs_of i1
      cases e3; cases q0; cases q1; cases q2; cases f0; cases f1
      refine ⟨⟨n0, n1, n2, A, l, c, ⟨SA, ss, sc, MA, ms, mc⟩⟩, ?_, ⟨⟨hd3, hs, hm⟩, Nat.le_trans hd1 hd2, fun d hd => (hd4 d hd).1, hsl, hml, fun x hx => ?_⟩⟩
      · unfold Sh.val
        congr 1
        exact Array.toList_inj.1 (by rw [hcl])
      · rcases List.mem_append.1 hx with hx | hx
        · exact hsr x hx
        · exact hmr x hx
end Go.Proofs.YtegnjbdgeibhfaaGreat.Rs
