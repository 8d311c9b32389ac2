/-
  A ShimOut in the law's hands: eqShimOut, markShimOut, heldShimOut.
-/
import Derived.Test.YtegnjbdgeibhfaaRsShB
namespace Go.Proofs.Ytegnjbdgeibhfaa.Rs
open Go.ChangeShapes Go.WideShapes Go.ChangeAt Go.RowKit
open Rec (R P Sound Small recV cellsV)
open Net (Cl Bk HeldV)
open Dep (D I)
set_option linter.unusedVariables false
set_option maxRecDepth 100000
set_option linter.unusedSimpArgs false

/-- An answer, and where its lists lie. -/
structure So where
  s : Sh
  RA : Option Addr
  rs : List Q
  rc : Nat
  FA : Option Addr
  fr : List ByteArray
  fc : Nat
  code : Int
def So.val (o : So) : Value := .agg #[Value.int IntKind.i64 o.s.me, Value.int IntKind.i64 o.s.ep, Value.int IntKind.i64 o.s.ck, Value.slice o.s.A o.s.l.length o.s.c, Value.slice o.s.n.A o.s.n.s.length o.s.n.ca, Value.slice o.s.n.B o.s.n.m.length o.s.n.cb, Value.slice o.RA o.rs.length o.rc, Value.slice o.FA o.fr.length o.fc, Value.int IntKind.i64 o.code]
/-- What it is. -/
structure PO where
  s : PS
  rs : List R
  fr : List ByteArray
  code : Int
def po (o : So) : PO := ⟨ps o.s, pr o.rs, o.fr, o.code⟩
def OLies (w : World) (B : Nat) (o : So) : Prop := SLies w B o.s ∧ LRs w B o.RA o.rs ∧ Str.Lies w B o.FA o.fr
/-- No larger than a law can work with. -/
structure OFine (o : So) : Prop where
  s : SFine o.s
  r : o.rs.length ≤ 1048576
  l : ∀ q ∈ o.rs, q.r.l.length ≤ 1048576 ∧ q.r.b.length ≤ 1048576
  f : o.fr.length ≤ 1048576
  k : kS o.s + kR o.rs + o.fr.length ≤ 8000000
structure HeldO (w : World) (o : So) (lo hi : Nat) : Prop where
  s : ∃ m n, HeldS w o.s lo m ∧ HeldRs w o.RA o.rs m n ∧ n ≤ hi ∧ Str.Held w o.FA o.fr n hi
theorem HeldO.le {w : World} {o : So} {lo hi : Nat} (h : HeldO w o lo hi) : lo ≤ hi := by
  obtain ⟨m, n, h1, h2, h3, h4⟩ := h.s
  exact Nat.le_trans h1.le (Nat.le_trans h2.le h3)
theorem HeldO.step {w w' : World} {o : So} {lo hi N : Nat} (h : HeldO w o lo hi) (hb : Below N w w') (hN : hi ≤ N ∨ w.heap.size ≤ N) : HeldO w' o lo hi := by
  obtain ⟨m, n, h1, h2, h3, h4⟩ := h.s
  have l2 := h2.le
  exact ⟨m, n, h1.step hb (hN.imp (fun h => by omega) id), h2.step hb (hN.imp (fun h => by omega) id), h3, h4.step hb hN⟩
theorem HeldO.drew {w : World} {o : So} {lo hi : Nat} (h : HeldO w o lo hi) : HeldO w.drew o lo hi := h.step (Below.refl w.heap.size w).drew (.inr (Nat.le_refl _))
theorem HeldO.wide {w : World} {o : So} {lo hi lo' hi' : Nat} (h : HeldO w o lo hi) (a : lo' ≤ lo) (b : hi ≤ hi') : HeldO w o lo' hi' := by
  obtain ⟨m, n, h1, h2, h3, h4⟩ := h.s
  exact ⟨m, n, h1.wide a (Nat.le_refl _), h2, by omega, h4.wide (Nat.le_refl _) b⟩
theorem HeldO.lies {w : World} {o : So} {lo hi B : Nat} (h : HeldO w o lo hi) (hB : hi ≤ B) : OLies w B o := by
  obtain ⟨m, n, h1, h2, h3, h4⟩ := h.s
  have l2 := h2.le
  exact ⟨h1.lies (by omega), h2.lies (by omega), h4.lies hB⟩
theorem Tch.heldO {ts : List Nat} {W W' : World} {lo hi lo' hi' : Nat} {o : So} (h : Tch ts W W' lo hi) (hh : HeldO W o lo' hi') (hd : hi' ≤ lo ∨ hi ≤ lo') : HeldO W' o lo' hi' := by
  obtain ⟨m, n, h1, h2, h3, h4⟩ := hh.s
  have l1 := h1.le
  have l2 := h2.le
  exact ⟨m, n, h.heldS h1 (by omega), h.heldRs h2 (by omega), h3, h.str h4 (by omega)⟩
theorem OLies.on {w w' : World} {o : So} (h : OLies w w.heap.size o) (hb : Below w.heap.size w w') : OLies w' w'.heap.size o := ⟨h.1.on hb, h.2.1.on hb, (h.2.2.below hb (Nat.le_refl _)).more hb.size⟩
theorem cell9 {W : World} {b t : Nat} {u0 u1 u2 u3 u4 u5 u6 u7 u8 : Value} (h : Blk W b t #[u0, u1, u2, u3, u4, u5, u6, u7, u8]) : W.cell? ⟨b, 0, none⟩ = some u0 ∧ W.cell? ⟨b, 1, none⟩ = some u1 ∧ W.cell? ⟨b, 2, none⟩ = some u2 ∧ W.cell? ⟨b, 3, none⟩ = some u3 ∧ W.cell? ⟨b, 4, none⟩ = some u4 ∧ W.cell? ⟨b, 5, none⟩ = some u5 ∧ W.cell? ⟨b, 6, none⟩ = some u6 ∧ W.cell? ⟨b, 7, none⟩ = some u7 ∧ W.cell? ⟨b, 8, none⟩ = some u8 := ⟨h.cell 0, h.cell 1, h.cell 2, h.cell 3, h.cell 4, h.cell 5, h.cell 6, h.cell 7, h.cell 8⟩

set_option maxHeartbeats 2000000 in
theorem eqSo_same (o o' : So) (w : World) (h : OLies w w.heap.size o) (h' : OLies w w.heap.size o') (he : po o = po o') (hf : OFine o) :
    Calls Try.prog 8 #[o.val, o'.val] w fun e w' => e = .returned (.bool true) ∧ Below w.heap.size w w' := by
  unfold po at he
  injection he with e1 e2 e3 e4
  have HS := Lib.hid (fun W (hW : Below w.heap.size w W) => eqSh_same o.s o'.s W (h.1.on hW) (h'.1.on hW) e1 hf.s)
  have HR := Lib.hid (fun W (hW : Below w.heap.size w W) => eqRecS_same o.RA o'.RA o.rs o'.rs o.rc o'.rc W (h.2.1.on hW) (h'.2.1.on hW) e2 (by have := hf.r; unfold maxLen; omega) (fun q hq => by have := hf.l q hq; unfold maxLen; omega))
  have HF := Lib.hid (fun W (hW : Below w.heap.size w W) => Str.eqStrings_any o.FA o'.FA o.fr o'.fr o.fc o'.fc W ((h.2.2.below hW (Nat.le_refl _)).more hW.size) ((h'.2.2.below hW (Nat.le_refl _)).more hW.size) (by have := hf.f; unfold maxLen; omega) (by have e := congrArg List.length e3; have := hf.f; unfold maxLen; omega))
  have HAL := Lib.hid (show Str.alikeB o.fr o'.fr = true from Str.alikeB_true e3)
  have B0 := Lib.hid (((Below.refl w.heap.size w).alloc (Nat.le_refl _) (Obj.cells #[Value.int IntKind.i64 o.s.me, Value.int IntKind.i64 o.s.ep, Value.int IntKind.i64 o.s.ck, Value.slice o.s.A o.s.l.length o.s.c, Value.slice o.s.n.A o.s.n.s.length o.s.n.ca, Value.slice o.s.n.B o.s.n.m.length o.s.n.cb, Value.slice o.RA o.rs.length o.rc, Value.slice o.FA o.fr.length o.fc, Value.int IntKind.i64 o.code] 30)).alloc (by simp) (Obj.cells #[Value.int IntKind.i64 o'.s.me, Value.int IntKind.i64 o'.s.ep, Value.int IntKind.i64 o'.s.ck, Value.slice o'.s.A o'.s.l.length o'.s.c, Value.slice o'.s.n.A o'.s.n.s.length o'.s.n.ca, Value.slice o'.s.n.B o'.s.n.m.length o'.s.n.cb, Value.slice o'.RA o'.rs.length o'.rc, Value.slice o'.FA o'.fr.length o'.fc, Value.int IntKind.i64 o'.code] 30))
  have X0 := Lib.hid ((Blk.new w 30 #[Value.int IntKind.i64 o.s.me, Value.int IntKind.i64 o.s.ep, Value.int IntKind.i64 o.s.ck, Value.slice o.s.A o.s.l.length o.s.c, Value.slice o.s.n.A o.s.n.s.length o.s.n.ca, Value.slice o.s.n.B o.s.n.m.length o.s.n.cb, Value.slice o.RA o.rs.length o.rc, Value.slice o.FA o.fr.length o.fc, Value.int IntKind.i64 o.code]).alloc (Obj.cells #[Value.int IntKind.i64 o'.s.me, Value.int IntKind.i64 o'.s.ep, Value.int IntKind.i64 o'.s.ck, Value.slice o'.s.A o'.s.l.length o'.s.c, Value.slice o'.s.n.A o'.s.n.s.length o'.s.n.ca, Value.slice o'.s.n.B o'.s.n.m.length o'.s.n.cb, Value.slice o'.RA o'.rs.length o'.rc, Value.slice o'.FA o'.fr.length o'.fc, Value.int IntKind.i64 o'.code] 30))
  have y0 := Blk.new (w.alloc (Obj.cells #[Value.int IntKind.i64 o.s.me, Value.int IntKind.i64 o.s.ep, Value.int IntKind.i64 o.s.ck, Value.slice o.s.A o.s.l.length o.s.c, Value.slice o.s.n.A o.s.n.s.length o.s.n.ca, Value.slice o.s.n.B o.s.n.m.length o.s.n.cb, Value.slice o.RA o.rs.length o.rc, Value.slice o.FA o.fr.length o.fc, Value.int IntKind.i64 o.code] 30)) 30 #[Value.int IntKind.i64 o'.s.me, Value.int IntKind.i64 o'.s.ep, Value.int IntKind.i64 o'.s.ck, Value.slice o'.s.A o'.s.l.length o'.s.c, Value.slice o'.s.n.A o'.s.n.s.length o'.s.n.ca, Value.slice o'.s.n.B o'.s.n.m.length o'.s.n.cb, Value.slice o'.RA o'.rs.length o'.rc, Value.slice o'.FA o'.fr.length o'.fc, Value.int IntKind.i64 o'.code]
  simp only [World.size_alloc] at y0
  have Y0 := Lib.hid y0
  have hcc : (o.code != o'.code) = false := by rw [e4]; simp
  have HCC := Lib.hid hcc
  clear h h' e1 e2 e3 e4 hf y0 hcc
  unfold Sh.val at HS
  unfold So.val
  unfold Str.slV at HF
  obtain ⟨x0, x1, x2, x3, x4, x5, x6, x7, x8⟩ := cell9 X0.out
  obtain ⟨y0, y1, y2, y3, y4, y5, y6, y7, y8⟩ := cell9 Y0.out
  go_enter Try.func8, Try.ntmps8
  go_wp2_with fail
  refine (HS.out _ B0.out).mono ?_
  rintro e w1 ⟨rfl, hb⟩
  have B1 := Lib.hid (B0.out.trans (hb.mono B0.out.size))
  have X1 := Lib.hid (X0.out.on hb)
  have Y1 := Lib.hid (Y0.out.on hb)
  clear hb x0 x1 x2 x3 x4 x5 x6 x7 x8 y0 y1 y2 y3 y4 y5 y6 y7 y8
  obtain ⟨x0, x1, x2, x3, x4, x5, x6, x7, x8⟩ := cell9 X1.out
  obtain ⟨y0, y1, y2, y3, y4, y5, y6, y7, y8⟩ := cell9 Y1.out
  go_wp2_with fail
  refine (HR.out _ B1.out).mono ?_
  rintro e w2 ⟨rfl, hb⟩
  have B2 := Lib.hid (B1.out.trans (hb.mono B1.out.size))
  have X2 := Lib.hid (X1.out.on hb)
  have Y2 := Lib.hid (Y1.out.on hb)
  clear hb x0 x1 x2 x3 x4 x5 x6 x7 x8 y0 y1 y2 y3 y4 y5 y6 y7 y8
  obtain ⟨x0, x1, x2, x3, x4, x5, x6, x7, x8⟩ := cell9 X2.out
  obtain ⟨y0, y1, y2, y3, y4, y5, y6, y7, y8⟩ := cell9 Y2.out
  go_wp2_with fail
  refine (HF.out _ B2.out).mono ?_
  rintro e w3 ⟨rfl, hb⟩
  have B3 := Lib.hid (B2.out.trans (hb.mono B2.out.size))
  have X3 := Lib.hid (X2.out.on hb)
  have Y3 := Lib.hid (Y2.out.on hb)
  rw [HAL.out]
  clear hb x0 x1 x2 x3 x4 x5 x6 x7 x8 y0 y1 y2 y3 y4 y5 y6 y7 y8
  obtain ⟨x0, x1, x2, x3, x4, x5, x6, x7, x8⟩ := cell9 X3.out
  obtain ⟨y0, y1, y2, y3, y4, y5, y6, y7, y8⟩ := cell9 Y3.out
  have hcc := HCC.out
  go_wp2_with fail
  go_ret
  exact ⟨rfl, B3.out⟩

/-- A marked answer. -/
def mkO (k : Nat) (o : So) : So := ⟨mkSh k o.s, o.RA, mkRs (k + kS o.s) o.rs, o.rc, o.FA, Str.marks (k + kS o.s + kR o.rs) o.fr.length, o.fc, o.code⟩
def kO (o : So) : Nat := kS o.s + kR o.rs + o.fr.length
theorem OFine.kO_le {o : So} (h : OFine o) : kO o ≤ 8000000 := h.k

set_option maxHeartbeats 2000000 in
theorem markSo_any (o : So) (k lo hi : Nat) (w : World) (h : HeldO w o lo hi) (hf : OFine o) (hk : k + kO o ≤ 9000000) :
    Calls Try.prog 9 #[o.val, .int .i64 k] w fun e w' => e = .returned (.int .i64 ((k + kO o : Nat) : Int)) ∧ HeldO w' (mkO k o) lo hi ∧ Tch tsR w w' lo hi := by
  obtain ⟨m, n, h1, h2, h3, h4⟩ := h.s
  have HF := Lib.hid hf
  have l1 := h1.le
  have l2 := h2.le
  have HE := Lib.hid (show kO o = kS o.s + kR o.rs + o.fr.length from rfl)
  have hk2 : k + kS o.s + kR o.rs + o.fr.length ≤ 9000000 := by unfold kO at hk; omega
  have B0 := (Below.refl w.heap.size w).alloc (Nat.le_refl _) (Obj.cells #[Value.int IntKind.i64 o.s.me, Value.int IntKind.i64 o.s.ep, Value.int IntKind.i64 o.s.ck, Value.slice o.s.A o.s.l.length o.s.c, Value.slice o.s.n.A o.s.n.s.length o.s.n.ca, Value.slice o.s.n.B o.s.n.m.length o.s.n.cb, Value.slice o.RA o.rs.length o.rc, Value.slice o.FA o.fr.length o.fc, Value.int IntKind.i64 o.code] 30)
  have T0 := Lib.hid (show Tch tsR w (w.alloc (Obj.cells #[Value.int IntKind.i64 o.s.me, Value.int IntKind.i64 o.s.ep, Value.int IntKind.i64 o.s.ck, Value.slice o.s.A o.s.l.length o.s.c, Value.slice o.s.n.A o.s.n.s.length o.s.n.ca, Value.slice o.s.n.B o.s.n.m.length o.s.n.cb, Value.slice o.RA o.rs.length o.rc, Value.slice o.FA o.fr.length o.fc, Value.int IntKind.i64 o.code] 30)) lo hi from Tch.ofBelow B0)
  have X0 := Lib.hid (Blk.new w 30 #[Value.int IntKind.i64 o.s.me, Value.int IntKind.i64 o.s.ep, Value.int IntKind.i64 o.s.ck, Value.slice o.s.A o.s.l.length o.s.c, Value.slice o.s.n.A o.s.n.s.length o.s.n.ca, Value.slice o.s.n.B o.s.n.m.length o.s.n.cb, Value.slice o.RA o.rs.length o.rc, Value.slice o.FA o.fr.length o.fc, Value.int IntKind.i64 o.code])
  have HM := markSh_any o.s k lo m _ (h1.step B0 (.inr (Nat.le_refl _))) hf.s (by omega)
  unfold Sh.val at HM
  have HM1 := Lib.hid HM
  have H2 := Lib.hid (h2.step B0 (.inr (Nat.le_refl _)))
  have H4 := Lib.hid (h4.step B0 (.inr (Nat.le_refl _)))
  have HL := Lib.hid (show lo ≤ m ∧ m ≤ n ∧ n ≤ hi from ⟨l1, l2, h3⟩)
  have HK := Lib.hid hk2
  clear h h1 h2 h3 h4 l1 l2 B0 hf hk HM
  unfold So.val
  obtain ⟨x0, x1, x2, x3, x4, x5, x6, x7, x8⟩ := cell9 X0.out
  go_enter Try.func9, Try.ntmps9
  go_wp2_with fail
  clear x0 x1 x2 x3 x4 x5 x6 x7 x8
  refine HM1.out.mono ?_
  rintro e w1 ⟨rfl, hh, ht⟩
  have hl := HL.out
  have T1 := Lib.hid (T0.out.trans (ht.wide (fun t h => h) (Nat.le_refl _) (by omega)))
  have X1 := Lib.hid (ht.blk X0.out (by decide))
  have H1 := Lib.hid hh
  have HM2 := Lib.hid (markRecS_any o.RA o.rs o.rc (k + kS o.s) m n w1 (ht.heldRs H2.out (.inr (Nat.le_refl _))) HF.out.r HF.out.l (by have := HK.out; omega))
  have H4b := Lib.hid (ht.str H4.out (.inr (by omega)))
  clear hh ht
  obtain ⟨z, hz⟩ : ∃ z, k + kS o.s = z := ⟨_, rfl⟩
  have HZ := Lib.hid hz
  rw [hz] at HM2 ⊢
  clear hz
  obtain ⟨x0, x1, x2, x3, x4, x5, x6, x7, x8⟩ := cell9 X1.out
  go_wp2_with fail
  clear x0 x1 x2 x3 x4 x5 x6 x7 x8
  refine HM2.out.mono ?_
  rintro e w2 ⟨rfl, hh, ht⟩
  have T2 := Lib.hid (T1.out.trans (ht.wide (fun t h => h) (by omega) (by omega)))
  have X2 := Lib.hid (ht.blk X1.out (by decide))
  have H1b := Lib.hid (ht.heldS H1.out (.inl (Nat.le_refl _)))
  have H2b := Lib.hid hh
  have hst := Str.mark_any o.FA o.fr o.fc (z + kR o.rs) n hi w2 (ht.str H4b.out (.inr (Nat.le_refl _))) HF.out.f (by have := HK.out; have := HZ.out; omega)
  clear hh ht
  obtain ⟨z2, hz2⟩ : ∃ z2, z + kR o.rs = z2 := ⟨_, rfl⟩
  have HZ2 := Lib.hid hz2
  rw [hz2] at hst ⊢
  have HM3 := Lib.hid hst
  clear hz2 hst
  obtain ⟨x0, x1, x2, x3, x4, x5, x6, x7, x8⟩ := cell9 X2.out
  go_wp2_with fail
  clear x0 x1 x2 x3 x4 x5 x6 x7 x8
  refine HM3.out.mono ?_
  rintro e w3 ⟨rfl, hh, ht0⟩
  have ht : Tch tsR w2 w3 n hi := Tch.ofStrs ht0 (by decide)
  have T3 := Lib.hid (T2.out.trans (ht.wide (fun t h => h) (by omega) (Nat.le_refl _)))
  have H1c := Lib.hid (ht.heldS H1b.out (.inl (by omega)))
  have H2c := Lib.hid (ht.heldRs H2b.out (.inl (Nat.le_refl _)))
  have H4c := Lib.hid hh
  clear hh ht ht0
  obtain ⟨z3, hz3⟩ : ∃ z3, z2 + o.fr.length = z3 := ⟨_, rfl⟩
  have HZ3 := Lib.hid hz3
  rw [hz3]
  clear hz3
  go_wp2_with fail
  go_ret
  refine ⟨Str.ret_i64 (by have := HZ3.out; have := HZ2.out; have := HZ.out; have := HE.out; omega), ⟨m, n, H1c.out, ?_, hl.2.2, ?_⟩, T3.out⟩
  · unfold mkO; simp only; rw [HZ.out]; exact H2c.out
  · unfold mkO; simp only; rw [HZ.out, HZ2.out]; exact H4c.out

set_option maxHeartbeats 2000000 in
theorem heldSo_any (o : So) (k : Nat) (w : World) (h : OLies w w.heap.size (mkO k o)) (hf : OFine o) (hk : k + kO o ≤ 9000000) :
    Calls Try.prog 10 #[o.val, .int .i64 k] w fun e w' => e = .returned (.int .i64 ((k + kO o : Nat) : Int)) ∧ Below w.heap.size w w' := by
  have hk2 : k + kS o.s + kR o.rs + o.fr.length ≤ 9000000 := by unfold kO at hk; omega
  have HE := Lib.hid (show kO o = kS o.s + kR o.rs + o.fr.length from rfl)
  have B0 := Lib.hid ((Below.refl w.heap.size w).alloc (Nat.le_refl _) (Obj.cells #[Value.int IntKind.i64 o.s.me, Value.int IntKind.i64 o.s.ep, Value.int IntKind.i64 o.s.ck, Value.slice o.s.A o.s.l.length o.s.c, Value.slice o.s.n.A o.s.n.s.length o.s.n.ca, Value.slice o.s.n.B o.s.n.m.length o.s.n.cb, Value.slice o.RA o.rs.length o.rc, Value.slice o.FA o.fr.length o.fc, Value.int IntKind.i64 o.code] 30))
  have X0 := Lib.hid (Blk.new w 30 #[Value.int IntKind.i64 o.s.me, Value.int IntKind.i64 o.s.ep, Value.int IntKind.i64 o.s.ck, Value.slice o.s.A o.s.l.length o.s.c, Value.slice o.s.n.A o.s.n.s.length o.s.n.ca, Value.slice o.s.n.B o.s.n.m.length o.s.n.cb, Value.slice o.RA o.rs.length o.rc, Value.slice o.FA o.fr.length o.fc, Value.int IntKind.i64 o.code])
  have H1 := Lib.hid (fun W (hW : Below w.heap.size w W) => heldSh_any o.s k W (h.1.on hW) hf.s (by omega))
  have H2 := Lib.hid (fun W (hW : Below w.heap.size w W) => heldRecS_any o.RA o.rs o.rc (k + kS o.s) W (h.2.1.on hW) hf.r hf.l (by omega))
  have H3 := Lib.hid (fun W (hW : Below w.heap.size w W) => Str.heldStringS_any o.FA o.fr.length o.fc (k + kS o.s + kR o.rs) W ((h.2.2.below hW (Nat.le_refl _)).more hW.size) hf.f (by omega))
  clear h hf hk
  unfold So.val
  unfold Sh.val at H1
  obtain ⟨z, hz⟩ : ∃ z, k + kS o.s = z := ⟨_, rfl⟩
  have HZ := Lib.hid hz
  rw [hz] at H1 H2 H3
  have hzn : ¬ (z : Int) < 0 := by omega
  obtain ⟨z2, hz2⟩ : ∃ z2, z + kR o.rs = z2 := ⟨_, rfl⟩
  have HZ2 := Lib.hid hz2
  rw [hz2] at H2 H3
  have hzn2 : ¬ (z2 : Int) < 0 := by omega
  obtain ⟨z3, hz3⟩ : ∃ z3, z2 + o.fr.length = z3 := ⟨_, rfl⟩
  have HZ3 := Lib.hid hz3
  rw [hz3] at H3
  have hzn3 : ¬ (z3 : Int) < 0 := by omega
  clear hz hz2 hz3 hk2
  obtain ⟨x0, x1, x2, x3, x4, x5, x6, x7, x8⟩ := cell9 X0.out
  go_enter Try.func10, Try.ntmps10
  go_wp2_with fail
  clear x0 x1 x2 x3 x4 x5 x6 x7 x8
  refine (H1.out _ B0.out).mono ?_
  rintro e w1 ⟨rfl, hb⟩
  have B1 := Lib.hid (B0.out.trans (hb.mono B0.out.size))
  have X1 := Lib.hid (X0.out.on hb)
  clear hb
  obtain ⟨x0, x1, x2, x3, x4, x5, x6, x7, x8⟩ := cell9 X1.out
  go_wp2_with fail
  clear x0 x1 x2 x3 x4 x5 x6 x7 x8
  refine (H2.out _ B1.out).mono ?_
  rintro e w2 ⟨rfl, hb⟩
  have B2 := Lib.hid (B1.out.trans (hb.mono B1.out.size))
  have X2 := Lib.hid (X1.out.on hb)
  clear hb
  obtain ⟨x0, x1, x2, x3, x4, x5, x6, x7, x8⟩ := cell9 X2.out
  go_wp2_with fail
  clear x0 x1 x2 x3 x4 x5 x6 x7 x8
  refine (H3.out _ B2.out).mono ?_
  rintro e w3 ⟨rfl, hb⟩
  have B3 := Lib.hid (B2.out.trans (hb.mono B2.out.size))
  clear hb
  go_wp2_with fail
  go_ret
  exact ⟨Str.ret_i64 (by have := HZ3.out; have := HZ2.out; have := HZ.out; have := HE.out; omega), B3.out⟩
end Go.Proofs.Ytegnjbdgeibhfaa.Rs
