/-
  The law's own szShim, eqShim, markShim, heldShim; a parameter that is a shim, opened.
-/
import Derived.Test.YtegnjbdgeibhfaaRsSh
namespace Go.Proofs.Ytegnjbdgeibhfaa.Rs
open Go.ChangeShapes Go.WideShapes Go.ChangeAt Go.RowKit
open Rec (R P Sound Small recV cellsV)
open Net (Cl Bk HeldV)
open Dep (D I)
set_option linter.unusedVariables false
set_option maxRecDepth 100000
set_option linter.unusedSimpArgs false

theorem cell6 {W : World} {b t : Nat} {u0 u1 u2 u3 u4 u5 : Value} (h : Blk W b t #[u0, u1, u2, u3, u4, u5]) : W.cell? ⟨b, 0, none⟩ = some u0 ∧ W.cell? ⟨b, 1, none⟩ = some u1 ∧ W.cell? ⟨b, 2, none⟩ = some u2 ∧ W.cell? ⟨b, 3, none⟩ = some u3 ∧ W.cell? ⟨b, 4, none⟩ = some u4 ∧ W.cell? ⟨b, 5, none⟩ = some u5 := ⟨h.cell 0, h.cell 1, h.cell 2, h.cell 3, h.cell 4, h.cell 5⟩
/-- A shim as it comes in. -/
structure IsSh (w : World) (s : Sh) : Prop where
  l : SLies w w.heap.size s
  d : s.l.length ≤ maxLen
  k : ∀ d ∈ s.l, d.k.size ≤ maxLen
  a : s.n.s.length ≤ maxLen
  b : s.n.m.length ≤ maxLen
  q : ∀ q ∈ s.n.s ++ s.n.m, Sound q.r

set_option maxHeartbeats 2000000 in
theorem eqSh_same (s s' : Sh) (w : World) (h : SLies w w.heap.size s) (h' : SLies w w.heap.size s') (he : ps s = ps s') (hf : SFine s) :
    Calls Try.prog 24 #[s.val, s'.val] w fun e w' => e = .returned (.bool true) ∧ Below w.heap.size w w' := by
  obtain ⟨me, ep, ck, A, l, c, n⟩ := s
  obtain ⟨me', ep', ck', A', l', c', n'⟩ := s'
  unfold ps at he
  injection he with e1 e2 e3 e4 e5
  simp only at e1 e2 e3 e4 e5
  subst e1 e2 e3 e4
  have HS := Lib.hid (fun W (hW : Below w.heap.size w W) => Dep.eqDepS_same A A' l c c' W ((h.1.below hW (Nat.le_refl _)).more hW.size) ((h'.1.below hW (Nat.le_refl _)).more hW.size) (by have := hf.l; unfold maxLen; simp only at this; omega))
  have HM := Lib.hid (fun W (hW : Below w.heap.size w W) => eqCt_same n n' W (h.2.on hW) (h'.2.on hW) e5 hf.n)
  have B0 := Lib.hid (((Below.refl w.heap.size w).alloc (Nat.le_refl _) (Obj.cells #[Value.int IntKind.i64 (⟨me, ep, ck, A, l, c, n⟩ : Sh).me, Value.int IntKind.i64 (⟨me, ep, ck, A, l, c, n⟩ : Sh).ep, Value.int IntKind.i64 (⟨me, ep, ck, A, l, c, n⟩ : Sh).ck, Value.slice (⟨me, ep, ck, A, l, c, n⟩ : Sh).A (⟨me, ep, ck, A, l, c, n⟩ : Sh).l.length (⟨me, ep, ck, A, l, c, n⟩ : Sh).c, Value.slice (⟨me, ep, ck, A, l, c, n⟩ : Sh).n.A (⟨me, ep, ck, A, l, c, n⟩ : Sh).n.s.length (⟨me, ep, ck, A, l, c, n⟩ : Sh).n.ca, Value.slice (⟨me, ep, ck, A, l, c, n⟩ : Sh).n.B (⟨me, ep, ck, A, l, c, n⟩ : Sh).n.m.length (⟨me, ep, ck, A, l, c, n⟩ : Sh).n.cb] 27)).alloc (by simp) (Obj.cells #[Value.int IntKind.i64 (⟨me, ep, ck, A', l, c', n'⟩ : Sh).me, Value.int IntKind.i64 (⟨me, ep, ck, A', l, c', n'⟩ : Sh).ep, Value.int IntKind.i64 (⟨me, ep, ck, A', l, c', n'⟩ : Sh).ck, Value.slice (⟨me, ep, ck, A', l, c', n'⟩ : Sh).A (⟨me, ep, ck, A', l, c', n'⟩ : Sh).l.length (⟨me, ep, ck, A', l, c', n'⟩ : Sh).c, Value.slice (⟨me, ep, ck, A', l, c', n'⟩ : Sh).n.A (⟨me, ep, ck, A', l, c', n'⟩ : Sh).n.s.length (⟨me, ep, ck, A', l, c', n'⟩ : Sh).n.ca, Value.slice (⟨me, ep, ck, A', l, c', n'⟩ : Sh).n.B (⟨me, ep, ck, A', l, c', n'⟩ : Sh).n.m.length (⟨me, ep, ck, A', l, c', n'⟩ : Sh).n.cb] 27))
  have X0 := Lib.hid ((Blk.new w 27 #[Value.int IntKind.i64 (⟨me, ep, ck, A, l, c, n⟩ : Sh).me, Value.int IntKind.i64 (⟨me, ep, ck, A, l, c, n⟩ : Sh).ep, Value.int IntKind.i64 (⟨me, ep, ck, A, l, c, n⟩ : Sh).ck, Value.slice (⟨me, ep, ck, A, l, c, n⟩ : Sh).A (⟨me, ep, ck, A, l, c, n⟩ : Sh).l.length (⟨me, ep, ck, A, l, c, n⟩ : Sh).c, Value.slice (⟨me, ep, ck, A, l, c, n⟩ : Sh).n.A (⟨me, ep, ck, A, l, c, n⟩ : Sh).n.s.length (⟨me, ep, ck, A, l, c, n⟩ : Sh).n.ca, Value.slice (⟨me, ep, ck, A, l, c, n⟩ : Sh).n.B (⟨me, ep, ck, A, l, c, n⟩ : Sh).n.m.length (⟨me, ep, ck, A, l, c, n⟩ : Sh).n.cb]).alloc (Obj.cells #[Value.int IntKind.i64 (⟨me, ep, ck, A', l, c', n'⟩ : Sh).me, Value.int IntKind.i64 (⟨me, ep, ck, A', l, c', n'⟩ : Sh).ep, Value.int IntKind.i64 (⟨me, ep, ck, A', l, c', n'⟩ : Sh).ck, Value.slice (⟨me, ep, ck, A', l, c', n'⟩ : Sh).A (⟨me, ep, ck, A', l, c', n'⟩ : Sh).l.length (⟨me, ep, ck, A', l, c', n'⟩ : Sh).c, Value.slice (⟨me, ep, ck, A', l, c', n'⟩ : Sh).n.A (⟨me, ep, ck, A', l, c', n'⟩ : Sh).n.s.length (⟨me, ep, ck, A', l, c', n'⟩ : Sh).n.ca, Value.slice (⟨me, ep, ck, A', l, c', n'⟩ : Sh).n.B (⟨me, ep, ck, A', l, c', n'⟩ : Sh).n.m.length (⟨me, ep, ck, A', l, c', n'⟩ : Sh).n.cb] 27))
  have y0 := Blk.new (w.alloc (Obj.cells #[Value.int IntKind.i64 (⟨me, ep, ck, A, l, c, n⟩ : Sh).me, Value.int IntKind.i64 (⟨me, ep, ck, A, l, c, n⟩ : Sh).ep, Value.int IntKind.i64 (⟨me, ep, ck, A, l, c, n⟩ : Sh).ck, Value.slice (⟨me, ep, ck, A, l, c, n⟩ : Sh).A (⟨me, ep, ck, A, l, c, n⟩ : Sh).l.length (⟨me, ep, ck, A, l, c, n⟩ : Sh).c, Value.slice (⟨me, ep, ck, A, l, c, n⟩ : Sh).n.A (⟨me, ep, ck, A, l, c, n⟩ : Sh).n.s.length (⟨me, ep, ck, A, l, c, n⟩ : Sh).n.ca, Value.slice (⟨me, ep, ck, A, l, c, n⟩ : Sh).n.B (⟨me, ep, ck, A, l, c, n⟩ : Sh).n.m.length (⟨me, ep, ck, A, l, c, n⟩ : Sh).n.cb] 27)) 27 #[Value.int IntKind.i64 (⟨me, ep, ck, A', l, c', n'⟩ : Sh).me, Value.int IntKind.i64 (⟨me, ep, ck, A', l, c', n'⟩ : Sh).ep, Value.int IntKind.i64 (⟨me, ep, ck, A', l, c', n'⟩ : Sh).ck, Value.slice (⟨me, ep, ck, A', l, c', n'⟩ : Sh).A (⟨me, ep, ck, A', l, c', n'⟩ : Sh).l.length (⟨me, ep, ck, A', l, c', n'⟩ : Sh).c, Value.slice (⟨me, ep, ck, A', l, c', n'⟩ : Sh).n.A (⟨me, ep, ck, A', l, c', n'⟩ : Sh).n.s.length (⟨me, ep, ck, A', l, c', n'⟩ : Sh).n.ca, Value.slice (⟨me, ep, ck, A', l, c', n'⟩ : Sh).n.B (⟨me, ep, ck, A', l, c', n'⟩ : Sh).n.m.length (⟨me, ep, ck, A', l, c', n'⟩ : Sh).n.cb]
  simp only [World.size_alloc] at y0
  have Y0 := Lib.hid y0
  have m1 : (me != me) = false := by simp
  have m2 : (ep != ep) = false := by simp
  have m3 : (ck != ck) = false := by simp
  clear h h' e5 hf y0
  unfold Sh.val
  unfold Dep.slV at HS
  unfold Ct.val at HM
  simp only
  go_enter Try.func24, Try.ntmps24
  go_wp2_with fail
  refine (HS.out _ B0.out).mono ?_
  rintro e w1 ⟨rfl, hb⟩
  have B1 := Lib.hid (B0.out.trans (hb.mono B0.out.size))
  obtain ⟨x0, x1, x2, x3, x4, x5⟩ := cell6 (X0.out.on hb)
  obtain ⟨y0, y1, y2, y3, y4, y5⟩ := cell6 (Y0.out.on hb)
  clear hb
  go_wp2_with fail
  refine (HM.out _ B1.out).mono ?_
  rintro e w2 ⟨rfl, hb⟩
  have B2 := Lib.hid (B1.out.trans (hb.mono B1.out.size))
  clear hb
  go_wp2_with fail
  go_ret
  exact ⟨rfl, B2.out⟩

/-- A marked shim. -/
def mkSh (k : Nat) (s : Sh) : Sh := ⟨s.me, s.ep, s.ck, s.A, Dep.marks k s.l.length, s.c, mkC (k + 4 * s.l.length) s.n⟩
def kS (s : Sh) : Nat := 4 * s.l.length + kC s.n
theorem SFine.kS_le {s : Sh} (h : SFine s) : kS s ≤ 6291456 := by
  have h1 := kR_le s.n.s
  have h2 := kR_le s.n.m
  have h3 := h.t
  unfold kS kC
  omega

set_option maxHeartbeats 2000000 in
theorem markSh_any (s : Sh) (k lo hi : Nat) (w : World) (h : HeldS w s lo hi) (hf : SFine s) (hk : k + kS s ≤ 9000000) :
    Calls Try.prog 26 #[s.val, .int .i64 k] w fun e w' => e = .returned (.int .i64 ((k + kS s : Nat) : Int)) ∧ HeldS w' (mkSh k s) lo hi ∧ Tch tsR w w' lo hi := by
  obtain ⟨mid, h0, h1, h2⟩ := h.s
  have HF := Lib.hid hf
  have le2 := h2.le
  have hk2 : k + 4 * s.l.length + kC s.n ≤ 9000000 := by unfold kS at hk; omega
  have B0 := (Below.refl w.heap.size w).alloc (Nat.le_refl _) (Obj.cells #[Value.int IntKind.i64 s.me, Value.int IntKind.i64 s.ep, Value.int IntKind.i64 s.ck, Value.slice s.A s.l.length s.c, Value.slice s.n.A s.n.s.length s.n.ca, Value.slice s.n.B s.n.m.length s.n.cb] 27)
  have T0 := Lib.hid (show Tch tsR w (w.alloc (Obj.cells #[Value.int IntKind.i64 s.me, Value.int IntKind.i64 s.ep, Value.int IntKind.i64 s.ck, Value.slice s.A s.l.length s.c, Value.slice s.n.A s.n.s.length s.n.ca, Value.slice s.n.B s.n.m.length s.n.cb] 27)) lo hi from Tch.ofBelow B0)
  have X0 := Lib.hid (Blk.new w 27 #[Value.int IntKind.i64 s.me, Value.int IntKind.i64 s.ep, Value.int IntKind.i64 s.ck, Value.slice s.A s.l.length s.c, Value.slice s.n.A s.n.s.length s.n.ca, Value.slice s.n.B s.n.m.length s.n.cb])
  have HM1 := Lib.hid (Dep.mark_any s.A s.l s.c k lo mid _ (h1.step B0 (.inr (Nat.le_refl _))) hf.l (by omega))
  have H2 := Lib.hid (h2.step B0 (.inr (Nat.le_refl _)))
  have HL := Lib.hid (show lo ≤ mid ∧ mid ≤ hi from ⟨h0, le2⟩)
  have HK := Lib.hid hk2
  have HE := Lib.hid (show kS s = 4 * s.l.length + kC s.n from rfl)
  clear h h0 h1 h2 B0 le2 hf hk
  unfold Sh.val
  obtain ⟨x0, x1, x2, x3, x4, x5⟩ := cell6 X0.out
  go_enter Try.func26, Try.ntmps26
  go_wp2_with fail
  clear x0 x1 x2 x3 x4 x5
  refine HM1.out.mono ?_
  rintro e w1 ⟨rfl, hh, ht⟩
  have hl := HL.out
  have ht1 : Tch tsR _ w1 lo mid := Tch.ofDeps ht (by decide)
  have T1 := Lib.hid (T0.out.trans (ht1.wide (fun t h => h) (Nat.le_refl _) hl.2))
  have X1 := ht1.blk X0.out (by decide)
  have H1 := Lib.hid hh
  have hm2 := markCt_any s.n (k + 4 * s.l.length) mid hi w1 (ht1.heldC H2.out (.inr (Nat.le_refl _))) HF.out.n HK.out
  unfold Ct.val at hm2
  have HM2 := Lib.hid hm2
  clear hh ht ht1 hm2
  obtain ⟨z, hz⟩ : ∃ z, k + 4 * s.l.length = z := ⟨_, rfl⟩
  have HZ := Lib.hid hz
  rw [hz] at HM2 ⊢
  clear hz
  obtain ⟨x0, x1, x2, x3, x4, x5⟩ := cell6 X1
  clear X1
  go_wp2_with fail
  clear x0 x1 x2 x3 x4 x5
  refine HM2.out.mono ?_
  rintro e w2 ⟨rfl, hh, ht⟩
  have H1b := Lib.hid (ht.dep H1.out (.inl (Nat.le_refl _)))
  have T2 := Lib.hid (T1.out.trans (ht.wide (fun t h => h) hl.1 (Nat.le_refl _)))
  have H2b := Lib.hid hh
  clear hh ht
  obtain ⟨z2, hz2⟩ : ∃ z2, z + kC s.n = z2 := ⟨_, rfl⟩
  have HZ2 := Lib.hid hz2
  rw [hz2]
  clear hz2
  go_wp2_with fail
  go_ret
  refine ⟨Str.ret_i64 (by have := HZ2.out; have := HZ.out; have := HE.out; omega), ⟨mid, hl.1, H1b.out, ?_⟩, T2.out⟩
  unfold mkSh
  simp only
  rw [HZ.out]
  exact H2b.out

set_option maxHeartbeats 2000000 in
theorem heldSh_any (s : Sh) (k : Nat) (w : World) (h : SLies w w.heap.size (mkSh k s)) (hf : SFine s) (hk : k + kS s ≤ 9000000) :
    Calls Try.prog 29 #[s.val, .int .i64 k] w fun e w' => e = .returned (.int .i64 ((k + kS s : Nat) : Int)) ∧ Below w.heap.size w w' := by
  have hk2 : k + 4 * s.l.length + kC s.n ≤ 9000000 := by unfold kS at hk; omega
  have B0 := Lib.hid ((Below.refl w.heap.size w).alloc (Nat.le_refl _) (Obj.cells #[Value.int IntKind.i64 s.me, Value.int IntKind.i64 s.ep, Value.int IntKind.i64 s.ck, Value.slice s.A s.l.length s.c, Value.slice s.n.A s.n.s.length s.n.ca, Value.slice s.n.B s.n.m.length s.n.cb] 27))
  have X0 := Lib.hid (Blk.new w 27 #[Value.int IntKind.i64 s.me, Value.int IntKind.i64 s.ep, Value.int IntKind.i64 s.ck, Value.slice s.A s.l.length s.c, Value.slice s.n.A s.n.s.length s.n.ca, Value.slice s.n.B s.n.m.length s.n.cb])
  have H1 := Lib.hid (fun W (hW : Below w.heap.size w W) => Dep.heldDepS_any s.A s.l.length s.c k W ((h.1.below hW (Nat.le_refl _)).more hW.size) hf.l (by omega))
  have H2 := Lib.hid (fun W (hW : Below w.heap.size w W) => heldCt_any s.n (k + 4 * s.l.length) W (h.2.on hW) hf.n hk2)
  have HE := Lib.hid (show kS s = 4 * s.l.length + kC s.n from rfl)
  clear h hf hk
  unfold Sh.val
  unfold Ct.val at H2
  obtain ⟨z, hz⟩ : ∃ z, k + 4 * s.l.length = z := ⟨_, rfl⟩
  have HZ := Lib.hid hz
  rw [hz] at H1 H2
  have hzn : ¬ (z : Int) < 0 := by omega
  obtain ⟨z2, hz2⟩ : ∃ z2, z + kC s.n = z2 := ⟨_, rfl⟩
  have HZ2 := Lib.hid hz2
  rw [hz2] at H2
  have hzn2 : ¬ (z2 : Int) < 0 := by omega
  clear hz hz2 hk2
  obtain ⟨x0, x1, x2, x3, x4, x5⟩ := cell6 X0.out
  go_enter Try.func29, Try.ntmps29
  go_wp2_with fail
  clear x0 x1 x2 x3 x4 x5
  refine (H1.out _ B0.out).mono ?_
  rintro e w1 ⟨rfl, hb⟩
  have B1 := Lib.hid (B0.out.trans (hb.mono B0.out.size))
  obtain ⟨x0, x1, x2, x3, x4, x5⟩ := cell6 (X0.out.on hb)
  clear hb
  go_wp2_with fail
  clear x0 x1 x2 x3 x4 x5
  refine (H2.out _ B1.out).mono ?_
  rintro e w2 ⟨rfl, hb⟩
  have B2 := Lib.hid (B1.out.trans (hb.mono B1.out.size))
  clear hb
  go_wp2_with fail
  go_ret
  exact ⟨Str.ret_i64 (by have := HZ2.out; have := HZ.out; have := HE.out; omega), B2.out⟩

end Go.Proofs.Ytegnjbdgeibhfaa.Rs
