/-
  A shim in the law's hands: what is known of it, a copy of it, its marks; a parameter that is a shim, opened.
-/
import Derived.Test.YtegnjbdgeibhfaaGreatRsCt
import Derived.Test.YtegnjbdgeibhfaaGreatRsRecL
namespace Go.Proofs.YtegnjbdgeibhfaaGreat.Rs
open Go.ChangeShapes Go.WideShapes Go.ChangeAt Go.RowKit
open Rec (R P recV cellsV)
open Net (Cl Bk HeldV)
open Dep (D I)
set_option linter.unusedVariables false
set_option maxRecDepth 100000
set_option linter.unusedSimpArgs false

/-- A shim, and where its lists lie. -/
structure Sh where
  me : Int
  ep : Int
  ck : Int
  A : Option Addr
  l : List D
  c : Nat
  n : Ct
def Sh.val (s : Sh) : Value := .agg #[Value.int IntKind.i64 s.me, Value.int IntKind.i64 s.ep, Value.int IntKind.i64 s.ck, Value.slice s.A s.l.length s.c, Value.slice s.n.A s.n.s.length s.n.ca, Value.slice s.n.B s.n.m.length s.n.cb]
def SLies (w : World) (B : Nat) (s : Sh) : Prop := Dep.Lies w B s.A s.l ∧ CLies w B s.n
theorem SLies.on {w w' : World} {s : Sh} (h : SLies w w.heap.size s) (hb : Below w.heap.size w w') : SLies w' w'.heap.size s := ⟨(h.1.below hb (Nat.le_refl _)).more hb.size, h.2.on hb⟩
/-- What a shim is. -/
structure PS where
  me : Int
  ep : Int
  ck : Int
  l : List D
  c : List R × List R
def ps (s : Sh) : PS := ⟨s.me, s.ep, s.ck, s.l, pc s.n⟩
structure SFine (s : Sh) : Prop where
  l : s.l.length ≤ 1048576
  k : ∀ d ∈ s.l, d.k.size ≤ maxLen
  n : CFine s.n
  t : s.l.length + (s.n.s.length + tot s.n.s + (s.n.m.length + tot s.n.m)) ≤ 1048576
def SCopy (s : Sh) : Prop := CCopy s.n
theorem ps_parts {s s' : Sh} (h : ps s' = ps s) : s'.me = s.me ∧ s'.ep = s.ep ∧ s'.ck = s.ck ∧ s'.l = s.l ∧ pc s'.n = pc s.n := by
  unfold ps at h
  injection h with h1 h2 h3 h4 h5
  exact ⟨h1, h2, h3, h4, h5⟩
theorem SFine.same {s s' : Sh} (h : SFine s) (e : ps s' = ps s) : SFine s' := by
  obtain ⟨e1, e2, e3, e4, e5⟩ := ps_parts e
  refine ⟨by rw [e4]; exact h.l, by rw [e4]; exact h.k, h.n.same e5, ?_⟩
  unfold pc at e5
  injection e5 with p1 p2
  rw [e4, pr_length p1, pr_length p2, tot_pr p1, tot_pr p2]
  exact h.t
/-- A shim is a call's own. -/
structure HeldS (w : World) (s : Sh) (lo hi : Nat) : Prop where
  s : ∃ m, lo ≤ m ∧ Dep.Held w s.A s.l lo m ∧ HeldC w s.n m hi
theorem HeldS.le {w : World} {s : Sh} {lo hi : Nat} (h : HeldS w s lo hi) : lo ≤ hi := by
  obtain ⟨m, h0, h1, h2⟩ := h.s
  exact Nat.le_trans h0 h2.le
theorem HeldS.step {w w' : World} {s : Sh} {lo hi N : Nat} (h : HeldS w s lo hi) (hb : Below N w w') (hN : hi ≤ N ∨ w.heap.size ≤ N) : HeldS w' s lo hi := by
  obtain ⟨m, h0, h1, h2⟩ := h.s
  exact ⟨m, h0, h1.step hb (hN.imp (fun h => Nat.le_trans h2.le h) id), h2.step hb hN⟩
theorem HeldS.drew {w : World} {s : Sh} {lo hi : Nat} (h : HeldS w s lo hi) : HeldS w.drew s lo hi := h.step (Below.refl w.heap.size w).drew (.inr (Nat.le_refl _))
theorem HeldS.wide {w : World} {s : Sh} {lo hi lo' hi' : Nat} (h : HeldS w s lo hi) (h1 : lo' ≤ lo) (h2 : hi ≤ hi') : HeldS w s lo' hi' := by
  obtain ⟨m, h0, k1, k2⟩ := h.s
  exact ⟨m, Nat.le_trans h1 h0, k1.wide h1 (Nat.le_refl _), k2.wide (Nat.le_refl _) h2⟩
theorem HeldS.lies {w : World} {s : Sh} {lo hi B : Nat} (h : HeldS w s lo hi) (hB : hi ≤ B) : SLies w B s := by
  obtain ⟨m, h0, k1, k2⟩ := h.s
  exact ⟨k1.lies (Nat.le_trans k2.le hB), k2.lies hB⟩
theorem Tch.heldS {ts : List Nat} {W W' : World} {lo hi lo' hi' : Nat} {s : Sh} (h : Tch ts W W' lo hi) (hh : HeldS W s lo' hi') (hd : hi' ≤ lo ∨ hi ≤ lo') : HeldS W' s lo' hi' := by
  obtain ⟨m, h0, k1, k2⟩ := hh.s
  have h2 := k2.le
  exact ⟨m, h0, h.dep k1 (by omega), h.heldC k2 (by omega)⟩
theorem HeldC.above {w w' : World} {n : Ct} {lo hi : Nat} (h : HeldC w n lo hi) (hk : Above lo w w') : HeldC w' n lo hi := by
  obtain ⟨m, k1, k2⟩ := h.s
  exact ⟨m, k1.above hk, k2.above (Above.less hk k1.le)⟩
theorem dep_above {w w' : World} {A : Option Addr} {l : List D} {lo hi : Nat} (h : Dep.Held w A l lo hi) (hk : Above lo w w') : Dep.Held w' A l lo hi := h.keep fun k h1 _ _ => hk.2 k h1

set_option maxHeartbeats 4000000 in
set_option maxRecDepth 100000 in
theorem toSh_any (s : Sh) (w : World) (h : SLies w w.heap.size s) (hf : SFine s) :
    Calls Tryz.prog 37 #[s.val] w fun e w' => ∃ s' : Sh, e = .returned s'.val ∧ ps s' = ps s ∧ SCopy s' ∧ HeldS w' s' w.heap.size w'.heap.size ∧ Below w.heap.size w w' := by
  obtain ⟨me, ep, ck, A, l, c, n⟩ := s
  have HD := Lib.hid (fun W (hW : Below w.heap.size w W) => Dep.toDepS_any A l c W ((h.1.below hW (Nat.le_refl _)).more hW.size) hf.l)
  have HC := Lib.hid (fun W (hW : Below w.heap.size w W) => toCt_any n W (h.2.on hW) hf.n)
  clear h hf
  unfold Sh.val
  simp only
  unfold Ct.val at HC
  unfold Dep.slV at HD
  obtain ⟨CL, hCL⟩ : ∃ CL, CL = #[Value.int IntKind.i64 (⟨me, ep, ck, A, l, c, n⟩ : Sh).me, Value.int IntKind.i64 (⟨me, ep, ck, A, l, c, n⟩ : Sh).ep, Value.int IntKind.i64 (⟨me, ep, ck, A, l, c, n⟩ : Sh).ck, Value.slice (⟨me, ep, ck, A, l, c, n⟩ : Sh).A (⟨me, ep, ck, A, l, c, n⟩ : Sh).l.length (⟨me, ep, ck, A, l, c, n⟩ : Sh).c, Value.slice (⟨me, ep, ck, A, l, c, n⟩ : Sh).n.A (⟨me, ep, ck, A, l, c, n⟩ : Sh).n.s.length (⟨me, ep, ck, A, l, c, n⟩ : Sh).n.ca, Value.slice (⟨me, ep, ck, A, l, c, n⟩ : Sh).n.B (⟨me, ep, ck, A, l, c, n⟩ : Sh).n.m.length (⟨me, ep, ck, A, l, c, n⟩ : Sh).n.cb] := ⟨_, rfl⟩
  simp only at hCL
  have B0 := (((Below.refl w.heap.size w).alloc (Nat.le_refl _) (Obj.cells CL 60)).alloc (by simp) (Obj.cells #[Value.int IntKind.i64 0, Value.int IntKind.i64 0, Value.int IntKind.i64 0, Value.slice none 0 0, Value.slice none 0 0, Value.slice none 0 0] 64)).alloc (by simp; omega) (Obj.cells #[Value.int IntKind.i64 0, Value.int IntKind.i64 0, Value.int IntKind.i64 0, Value.slice none 0 0, Value.slice none 0 0, Value.slice none 0 0] 64)
  have p := ((Blk.new w 60 CL).alloc (Obj.cells #[Value.int IntKind.i64 0, Value.int IntKind.i64 0, Value.int IntKind.i64 0, Value.slice none 0 0, Value.slice none 0 0, Value.slice none 0 0] 64)).alloc (Obj.cells #[Value.int IntKind.i64 0, Value.int IntKind.i64 0, Value.int IntKind.i64 0, Value.slice none 0 0, Value.slice none 0 0, Value.slice none 0 0] 64)
  have r := Blk.new (World.alloc (World.alloc w (Obj.cells CL 60)) (Obj.cells #[Value.int IntKind.i64 0, Value.int IntKind.i64 0, Value.int IntKind.i64 0, Value.slice none 0 0, Value.slice none 0 0, Value.slice none 0 0] 64)) 64 #[Value.int IntKind.i64 0, Value.int IntKind.i64 0, Value.int IntKind.i64 0, Value.slice none 0 0, Value.slice none 0 0, Value.slice none 0 0]
  have q := (Blk.new (World.alloc w (Obj.cells CL 60)) 64 #[Value.int IntKind.i64 0, Value.int IntKind.i64 0, Value.int IntKind.i64 0, Value.slice none 0 0, Value.slice none 0 0, Value.slice none 0 0]).alloc (Obj.cells #[Value.int IntKind.i64 0, Value.int IntKind.i64 0, Value.int IntKind.i64 0, Value.slice none 0 0, Value.slice none 0 0, Value.slice none 0 0] 64)
  simp only [World.size_alloc] at p q r
  have hz := (show w.heap.size + 3 = (World.alloc (World.alloc (World.alloc w (Obj.cells CL 60)) (Obj.cells #[Value.int IntKind.i64 0, Value.int IntKind.i64 0, Value.int IntKind.i64 0, Value.slice none 0 0, Value.slice none 0 0, Value.slice none 0 0] 64)) (Obj.cells #[Value.int IntKind.i64 0, Value.int IntKind.i64 0, Value.int IntKind.i64 0, Value.slice none 0 0, Value.slice none 0 0, Value.slice none 0 0] 64)).heap.size by simp)
  rw [hCL] at B0 p q r hz
  clear hCL
  have PB := Lib.hid p
  have QB := Lib.hid q
  have RB := Lib.hid r
  have BB := Lib.hid B0
  have HZ := Lib.hid hz
  have p0 := PB.out.cell 0
  have p1 := PB.out.cell 1
  have p2 := PB.out.cell 2
  have p3 := PB.out.cell 3
  have p4 := PB.out.cell 4
  have p5 := PB.out.cell 5
  have r0 := RB.out.cell 0
  have r1 := RB.out.cell 1
  have r2 := RB.out.cell 2
  have r3 := RB.out.cell 3
  have r4 := RB.out.cell 4
  have r5 := RB.out.cell 5
  have fr0 := RB.out.free 0
  have fr1 := RB.out.free 1
  have fr2 := RB.out.free 2
  have fr3 := RB.out.free 3
  have fr4 := RB.out.free 4
  have fr5 := RB.out.free 5
  clear p q r B0 hz
  go_enter Tryz.func37, Tryz.ntmps37
  go_wp2_with fail
  clear p0 p1 p2 p3 p4 p5 r0 r1 r2 r3 r4 r5 fr0 fr1 fr2 fr3 fr4 fr5
  obtain ⟨CL, hCL⟩ : ∃ CL, CL = #[Value.int IntKind.i64 (⟨me, ep, ck, A, l, c, n⟩ : Sh).me, Value.int IntKind.i64 (⟨me, ep, ck, A, l, c, n⟩ : Sh).ep, Value.int IntKind.i64 (⟨me, ep, ck, A, l, c, n⟩ : Sh).ck, Value.slice (⟨me, ep, ck, A, l, c, n⟩ : Sh).A (⟨me, ep, ck, A, l, c, n⟩ : Sh).l.length (⟨me, ep, ck, A, l, c, n⟩ : Sh).c, Value.slice (⟨me, ep, ck, A, l, c, n⟩ : Sh).n.A (⟨me, ep, ck, A, l, c, n⟩ : Sh).n.s.length (⟨me, ep, ck, A, l, c, n⟩ : Sh).n.ca, Value.slice (⟨me, ep, ck, A, l, c, n⟩ : Sh).n.B (⟨me, ep, ck, A, l, c, n⟩ : Sh).n.m.length (⟨me, ep, ck, A, l, c, n⟩ : Sh).n.cb] := ⟨_, rfl⟩
  simp only at hCL
  have B1 := (((Below.refl w.heap.size w).alloc (Nat.le_refl _) (Obj.cells CL 60)).alloc (by simp) (Obj.cells #[Value.int IntKind.i64 0, Value.int IntKind.i64 0, Value.int IntKind.i64 0, Value.slice none 0 0, Value.slice none 0 0, Value.slice none 0 0] 64)).alloc (by simp; omega) (Obj.cells #[Value.int IntKind.i64 me, Value.int IntKind.i64 ep, Value.int IntKind.i64 ck, Value.slice none 0 0, Value.slice none 0 0, Value.slice none 0 0] 64)
  have P1 := ((Blk.new w 60 CL).alloc (Obj.cells #[Value.int IntKind.i64 0, Value.int IntKind.i64 0, Value.int IntKind.i64 0, Value.slice none 0 0, Value.slice none 0 0, Value.slice none 0 0] 64)).alloc (Obj.cells #[Value.int IntKind.i64 me, Value.int IntKind.i64 ep, Value.int IntKind.i64 ck, Value.slice none 0 0, Value.slice none 0 0, Value.slice none 0 0] 64)
  have R1 := Blk.new (World.alloc (World.alloc w (Obj.cells CL 60)) (Obj.cells #[Value.int IntKind.i64 0, Value.int IntKind.i64 0, Value.int IntKind.i64 0, Value.slice none 0 0, Value.slice none 0 0, Value.slice none 0 0] 64)) 64 #[Value.int IntKind.i64 me, Value.int IntKind.i64 ep, Value.int IntKind.i64 ck, Value.slice none 0 0, Value.slice none 0 0, Value.slice none 0 0]
  have Q1 := (Blk.new (World.alloc w (Obj.cells CL 60)) 64 #[Value.int IntKind.i64 0, Value.int IntKind.i64 0, Value.int IntKind.i64 0, Value.slice none 0 0, Value.slice none 0 0, Value.slice none 0 0]).alloc (Obj.cells #[Value.int IntKind.i64 me, Value.int IntKind.i64 ep, Value.int IntKind.i64 ck, Value.slice none 0 0, Value.slice none 0 0, Value.slice none 0 0] 64)
  simp only [World.size_alloc] at P1 Q1 R1
  rw [hCL] at B1 P1 Q1 R1
  clear hCL PB QB RB BB HZ
  generalize World.alloc (World.alloc (World.alloc w _) _) _ = W1 at B1 P1 Q1 R1 ⊢
  have B1 := Lib.hid B1
  have P1 := Lib.hid P1
  have Q1 := Lib.hid Q1
  have R1 := Lib.hid R1
  have Z1 := Lib.hid R1.out.lt
  refine (HD.out _ B1.out).mono ?_
  rintro e w2 ⟨g, rfl, hg, ho, hb⟩
  have Z1b := Lib.hid (show w.heap.size + 3 ≤ g from by have := Z1.out; omega)
  have HH := Lib.hid (show Dep.Held w2 (some ⟨g, 0, none⟩) l (w.heap.size + 3) w2.heap.size from Dep.Held.of_row ho (Nat.le_refl _) Z1b.out)
  have P2 := Lib.hid (P1.out.on hb)
  have Q2 := Lib.hid (Q1.out.on hb)
  have R2 := Lib.hid (R1.out.on hb)
  have B2 := Lib.hid (B1.out.trans (hb.mono B1.out.size))
  have Z2 := Lib.hid (show w.heap.size + 3 ≤ w2.heap.size from R2.out.lt)
  clear hb hg ho P1 Q1 R1 B1
  have p4 := P2.out.cell 4
  have p5 := P2.out.cell 5
  have r3 := R2.out.cell 3
  have fr3 := R2.out.free 3
  go_wp2_with fail
  clear p4 p5 r3 fr3
  have P3 := Lib.hid (P2.out.other (p := ⟨w.heap.size + 2, 3, none⟩) (by show w.heap.size ≠ w.heap.size + 2; omega) (.slice (some ⟨g, 0, none⟩) l.length l.length))
  have Q3 := Lib.hid (Q2.out.other (p := ⟨w.heap.size + 2, 3, none⟩) (by show w.heap.size + 1 ≠ w.heap.size + 2; omega) (.slice (some ⟨g, 0, none⟩) l.length l.length))
  have R3 := Lib.hid (R2.out.set 3 (.slice (some ⟨g, 0, none⟩) l.length l.length) rfl)
  have B3 := Lib.hid (B2.out.setCell (p := ⟨w.heap.size + 2, 3, none⟩) (by show w.heap.size ≤ w.heap.size + 2; omega) (.slice (some ⟨g, 0, none⟩) l.length l.length))
  have H3 := Lib.hid (dep_above HH.out ((Above.refl (w.heap.size + 3) w2).set (p := ⟨w.heap.size + 2, 3, none⟩) (by show w.heap.size + 2 < w.heap.size + 3; omega) (.slice (some ⟨g, 0, none⟩) l.length l.length)))
  refine (HC.out _ B3.out).mono ?_
  rintro e w4 ⟨n', rfl, hpc, hcp, hh, hb⟩
  rw [World.size_setCell] at hh
  have HN := Lib.hid hh
  have HPC := Lib.hid hpc
  have HCP := Lib.hid hcp
  have Q4 := Lib.hid (Q3.out.on hb)
  have R4 := Lib.hid (R3.out.on hb)
  have B4 := Lib.hid (B3.out.trans (hb.mono B3.out.size))
  have H4 := Lib.hid (H3.out.step hb (.inr (Nat.le_refl _)))
  have Z4 := Lib.hid (show w2.heap.size ≤ w4.heap.size from by have := hb.size; rwa [World.size_setCell] at this)
  clear hb hh hpc hcp P3 Q3 R3 B3
  have r0 := R4.out.cell 0
  have r1 := R4.out.cell 1
  have r2 := R4.out.cell 2
  have r3 := R4.out.cell 3
  have r4 := R4.out.cell 4
  have r5 := R4.out.cell 5
  have fr4 := R4.out.free 4
  have fr5 := R4.out.free 5
  have q0 := Q4.out.cell 0
  have q1 := Q4.out.cell 1
  have q2 := Q4.out.cell 2
  have q3 := Q4.out.cell 3
  have q4 := Q4.out.cell 4
  have q5 := Q4.out.cell 5
  have fq0 := Q4.out.free 0
  have fq1 := Q4.out.free 1
  have fq2 := Q4.out.free 2
  have fq3 := Q4.out.free 3
  have fq4 := Q4.out.free 4
  have fq5 := Q4.out.free 5
  go_wp2_with fail
  have hA := (((((((((Above.refl (w.heap.size + 3) w4).set (p := ⟨w.heap.size + 2, 4, none⟩) (by show w.heap.size + 2 < w.heap.size + 3; omega) (Value.slice n'.A n'.s.length n'.ca)).set (p := ⟨w.heap.size + 2, 5, none⟩) (by show w.heap.size + 2 < w.heap.size + 3; omega) (Value.slice n'.B n'.m.length n'.cb)).set (p := ⟨w.heap.size + 1, 0, none⟩) (by show w.heap.size + 1 < w.heap.size + 3; omega) (.int .i64 me)).set (p := ⟨w.heap.size + 1, 1, none⟩) (by show w.heap.size + 1 < w.heap.size + 3; omega) (.int .i64 ep)).set (p := ⟨w.heap.size + 1, 2, none⟩) (by show w.heap.size + 1 < w.heap.size + 3; omega) (.int .i64 ck)).set (p := ⟨w.heap.size + 1, 3, none⟩) (by show w.heap.size + 1 < w.heap.size + 3; omega) (.slice (some ⟨g, 0, none⟩) l.length l.length)).set (p := ⟨w.heap.size + 1, 4, none⟩) (by show w.heap.size + 1 < w.heap.size + 3; omega) (Value.slice n'.A n'.s.length n'.ca)).set (p := ⟨w.heap.size + 1, 5, none⟩) (by show w.heap.size + 1 < w.heap.size + 3; omega) (Value.slice n'.B n'.m.length n'.cb))
  refine bodyPost_ret (v := Sh.val ⟨me, ep, ck, some ⟨g, 0, none⟩, l, l.length, n'⟩) (by simp [results, Tryz.results37, go_sem, Sh.val, q0, q1, q2, q3, q4, q5]) rfl ⟨⟨me, ep, ck, some ⟨g, 0, none⟩, l, l.length, n'⟩, rfl, ?_, HCP.out, ?_, ((((((((B4.out.setCell (p := ⟨w.heap.size + 2, 4, none⟩) (by show w.heap.size ≤ w.heap.size + 2; omega) (Value.slice n'.A n'.s.length n'.ca)).setCell (p := ⟨w.heap.size + 2, 5, none⟩) (by show w.heap.size ≤ w.heap.size + 2; omega) (Value.slice n'.B n'.m.length n'.cb)).setCell (p := ⟨w.heap.size + 1, 0, none⟩) (by show w.heap.size ≤ w.heap.size + 1; omega) (.int .i64 me)).setCell (p := ⟨w.heap.size + 1, 1, none⟩) (by show w.heap.size ≤ w.heap.size + 1; omega) (.int .i64 ep)).setCell (p := ⟨w.heap.size + 1, 2, none⟩) (by show w.heap.size ≤ w.heap.size + 1; omega) (.int .i64 ck)).setCell (p := ⟨w.heap.size + 1, 3, none⟩) (by show w.heap.size ≤ w.heap.size + 1; omega) (.slice (some ⟨g, 0, none⟩) l.length l.length)).setCell (p := ⟨w.heap.size + 1, 4, none⟩) (by show w.heap.size ≤ w.heap.size + 1; omega) (Value.slice n'.A n'.s.length n'.ca)).setCell (p := ⟨w.heap.size + 1, 5, none⟩) (by show w.heap.size ≤ w.heap.size + 1; omega) (Value.slice n'.B n'.m.length n'.cb))⟩
  · unfold ps; simp only; rw [HPC.out]
  · have z2 := Z2.out
    exact ⟨w2.heap.size, by omega, (dep_above H4.out hA).wide (by omega) (Nat.le_refl _), (HN.out.above (Above.less hA z2)).wide (Nat.le_refl _) (by simp only [World.size_setCell]; exact Nat.le_refl _)⟩
end Go.Proofs.YtegnjbdgeibhfaaGreat.Rs
