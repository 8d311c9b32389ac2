/-
  A shelf in the law's hands: what is known of it, a copy of it, its marks.
-/
import Derived.Test.YtegnjbdgeibhfaaRsHeld
namespace Go.Proofs.Ytegnjbdgeibhfaa.Rs
open Go.ChangeShapes Go.WideShapes Go.ChangeAt Go.RowKit
open Rec (R P Sound Small recV cellsV)
open Net (Cl Bk HeldV)
set_option linter.unusedVariables false
set_option maxRecDepth 100000
set_option linter.unusedSimpArgs false

theorem tot_append (a b : List Q) : tot (a ++ b) = tot a + tot b := by simp [tot]
theorem tot_pr {a b : List Q} (h : pr a = pr b) : tot a = tot b := by
  have e : ∀ l : List Q, tot l = ((pr l).map fun r => r.l.length + r.b.length).sum := fun l => by unfold tot pr; rw [List.map_map]; rfl
  rw [e, e, h]
/-- A shelf that a law can work with. -/
structure CFine (n : Ct) : Prop where
  s : n.s.length ≤ 1048576
  m : n.m.length ≤ 1048576
  k : ∀ q ∈ n.s ++ n.m, Sound q.r
  l : ∀ q ∈ n.s ++ n.m, q.r.l.length ≤ 1048576 ∧ q.r.b.length ≤ 1048576
  t : n.s.length + tot n.s + (n.m.length + tot n.m) ≤ 1048576
/-- It is a copy: its second list has an address. -/
def CCopy (n : Ct) : Prop := ∃ bd, n.B = some bd
theorem pr_mem {a b : List Q} (h : pr a = pr b) {q : Q} (hq : q ∈ a) : ∃ z ∈ b, z.r = q.r := by
  have : q.r ∈ pr a := List.mem_map.2 ⟨q, hq, rfl⟩
  rw [h] at this
  obtain ⟨z, hz, e⟩ := List.mem_map.1 this
  exact ⟨z, hz, e⟩
theorem pr_length {a b : List Q} (h : pr a = pr b) : a.length = b.length := by have := congrArg List.length h; simpa [pr_len] using this
theorem CFine.same {n n' : Ct} (h : CFine n) (e : pc n' = pc n) : CFine n' := by
  unfold pc at e
  injection e with e1 e2
  have hm : ∀ q ∈ n'.s ++ n'.m, ∃ z ∈ n.s ++ n.m, z.r = q.r := fun q hq => by
    rcases List.mem_append.1 hq with hq | hq
    · obtain ⟨z, hz, ez⟩ := pr_mem e1 hq; exact ⟨z, List.mem_append_left _ hz, ez⟩
    · obtain ⟨z, hz, ez⟩ := pr_mem e2 hq; exact ⟨z, List.mem_append_right _ hz, ez⟩
  refine ⟨by rw [pr_length e1]; exact h.s, by rw [pr_length e2]; exact h.m, fun q hq => ?_, fun q hq => ?_, by rw [pr_length e1, pr_length e2, tot_pr e1, tot_pr e2]; exact h.t⟩
  · obtain ⟨z, hz, ez⟩ := hm q hq; rw [← ez]; exact h.k z hz
  · obtain ⟨z, hz, ez⟩ := hm q hq; rw [← ez]; exact h.l z hz
theorem CFine.big {n : Ct} (h : CFine n) : ∀ q ∈ n.s ++ n.m, q.r.l.length ≤ maxLen ∧ q.r.b.length ≤ maxLen := fun q hq => by
  have := h.l q hq
  unfold maxLen
  omega
theorem CFine.of_sz {n : Ct} {r k : Int} (hk : k ≤ 1048576) (hs : ∀ q ∈ n.s ++ n.m, Sound q.r) (h0 : 0 ≤ r) (h : r + (n.s.length + tot n.s + (n.m.length + tot n.m) : Nat) ≤ k ∧ (n.s.length : Int) ≤ k ∧ (n.m.length : Int) ≤ k ∧ ∀ q ∈ n.s ++ n.m, Small q.r k) : CFine n :=
  ⟨by have := h.2.1; omega, by have := h.2.2.1; omega, hs, fun q hq => by
    have := h.2.2.2 q hq
    exact ⟨by have := this.2.2.1; omega, by have := this.2.2.2.2.1; omega⟩, by have := h.1; omega⟩

/-- The law's copy of a shelf. -/
theorem toCt_any (n : Ct) (w : World) (h : CLies w w.heap.size n) (hf : CFine n) :
    Calls Try.prog 13 #[n.val] w fun e w' => ∃ n' : Ct, e = .returned n'.val ∧ pc n' = pc n ∧ CCopy n' ∧ HeldC w' n' w.heap.size w'.heap.size ∧ Below w.heap.size w w' := by
  refine (toCutH_any n w h hf.s hf.m hf.l).mono ?_
  rintro e w' ⟨g, g2, s', m', rfl, e1, e2, ⟨mid, v1, q1, v2, q2⟩, hb⟩
  exact ⟨_, rfl, by unfold pc; simp only; rw [e1, e2], ⟨_, rfl⟩, ⟨mid, ⟨v1, q1⟩, ⟨v2, q2⟩⟩, hb⟩
theorem eqCt_same (n n' : Ct) (w : World) (h : CLies w w.heap.size n) (h' : CLies w w.heap.size n') (he : pc n = pc n') (hf : CFine n) :
    Calls Try.prog 15 #[n.val, n'.val] w fun e w' => e = .returned (.bool true) ∧ Below w.heap.size w w' :=
  eqCut_same n n' w h h' he (by have := hf.s; unfold maxLen; omega) (by have := hf.m; unfold maxLen; omega) hf.big

/-- A marked shelf. -/
def mkC (k : Nat) (n : Ct) : Ct := ⟨n.A, mkRs k n.s, n.ca, n.B, mkRs (k + kR n.s) n.m, n.cb⟩
def kC (n : Ct) : Nat := kR n.s + kR n.m
theorem CFine.kC_le {n : Ct} (h : CFine n) : kC n ≤ 6291456 := by
  have h1 := kR_le n.s
  have h2 := kR_le n.m
  have h3 := h.t
  unfold kC
  omega
theorem mkC_val (k : Nat) (n : Ct) : (mkC k n).val = n.val := by unfold Ct.val mkC; simp only [mkRs_len]

set_option maxHeartbeats 2000000 in
theorem markCt_any (n : Ct) (k lo hi : Nat) (w : World) (h : HeldC w n lo hi) (hf : CFine n) (hk : k + kC n ≤ 9000000) :
    Calls Try.prog 52 #[n.val, .int .i64 k] w fun e w' => e = .returned (.int .i64 ((k + kC n : Nat) : Int)) ∧ HeldC w' (mkC k n) lo hi ∧ Tch tsR w w' lo hi := by
  obtain ⟨A, s, ca, B, m, cb⟩ := n
  obtain ⟨mid, h1, h2⟩ := h.s
  have HF := Lib.hid hf
  have le1 := h1.le
  have le2 := h2.le
  simp only at h1 h2
  have hk2 : k + kR s + kR m ≤ 9000000 := by unfold kC at hk; simp only at hk; omega
  have B0 := (Below.refl w.heap.size w).alloc (Nat.le_refl _) (Obj.cells #[.slice A s.length ca, .slice B m.length cb] 25)
  have T0 := Lib.hid (show Tch tsR w (w.alloc (Obj.cells #[.slice A s.length ca, .slice B m.length cb] 25)) lo hi from Tch.ofBelow B0)
  have X0 := Lib.hid (Blk.new w 25 #[.slice A s.length ca, .slice B m.length cb])
  have HM1 := Lib.hid (markRecS_any A s ca k lo mid _ (h1.step B0 (.inr (Nat.le_refl _))) hf.s (fun q hq => hf.l q (List.mem_append_left _ hq)) (by omega))
  have H2 := Lib.hid (h2.step B0 (.inr (Nat.le_refl _)))
  have HL := Lib.hid (show lo ≤ mid ∧ mid ≤ hi from ⟨le1, le2⟩)
  have HK := Lib.hid hk2
  have HE := Lib.hid (show kC ⟨A, s, ca, B, m, cb⟩ = kR s + kR m from rfl)
  clear h h1 h2 B0 le1 le2 hf hk
  unfold Ct.val
  obtain ⟨x0, x1⟩ := cell2 X0.out
  go_enter Try.func52, Try.ntmps52
  go_wp2_with fail
  clear x0 x1
  refine HM1.out.mono ?_
  rintro e w1 ⟨rfl, hh, ht⟩
  have hl := HL.out
  have T1 := Lib.hid (T0.out.trans (ht.wide (fun t h => h) (Nat.le_refl _) hl.2))
  have X1 := ht.blk X0.out (by decide)
  have H1 := Lib.hid hh
  have HM2 := Lib.hid (markRecS_any B m cb (k + kR s) mid hi w1 (ht.heldRs H2.out (.inr (Nat.le_refl _))) HF.out.m (fun q hq => HF.out.l q (List.mem_append_right _ hq)) HK.out)
  clear hh ht
  obtain ⟨z, hz⟩ : ∃ z, k + kR s = z := ⟨_, rfl⟩
  have HZ := Lib.hid hz
  rw [hz] at HM2 ⊢
  clear hz
  obtain ⟨x0, x1⟩ := cell2 X1
  clear X1
  go_wp2_with fail
  clear x0 x1
  refine HM2.out.mono ?_
  rintro e w2 ⟨rfl, hh, ht⟩
  have H1b := Lib.hid (ht.heldRs H1.out (.inl (Nat.le_refl _)))
  have T2 := Lib.hid (T1.out.trans (ht.wide (fun t h => h) hl.1 (Nat.le_refl _)))
  have H2b := Lib.hid hh
  clear hh ht
  obtain ⟨z2, hz2⟩ : ∃ z2, z + kR m = z2 := ⟨_, rfl⟩
  have HZ2 := Lib.hid hz2
  rw [hz2]
  clear hz2
  go_wp2_with fail
  go_ret
  refine ⟨Str.ret_i64 (by have := HZ2.out; have := HZ.out; have := HE.out; omega), ⟨mid, H1b.out, ?_⟩, T2.out⟩
  unfold mkC
  simp only
  rw [HZ.out]
  exact H2b.out

set_option maxHeartbeats 2000000 in
theorem heldCt_any (n : Ct) (k : Nat) (w : World) (h : CLies w w.heap.size (mkC k n)) (hf : CFine n) (hk : k + kC n ≤ 9000000) :
    Calls Try.prog 55 #[n.val, .int .i64 k] w fun e w' => e = .returned (.int .i64 ((k + kC n : Nat) : Int)) ∧ Below w.heap.size w w' := by
  obtain ⟨A, s, ca, B, m, cb⟩ := n
  have hk2 : k + kR s + kR m ≤ 9000000 := by unfold kC at hk; simp only at hk; omega
  have B0 := Lib.hid ((Below.refl w.heap.size w).alloc (Nat.le_refl _) (Obj.cells #[.slice A s.length ca, .slice B m.length cb] 25))
  have X0 := Lib.hid (Blk.new w 25 #[.slice A s.length ca, .slice B m.length cb])
  have H1 := Lib.hid (fun W (hW : Below w.heap.size w W) => heldRecS_any A s ca k W (h.1.on hW) hf.s (fun q hq => hf.l q (List.mem_append_left _ hq)) (by omega))
  have H2 := Lib.hid (fun W (hW : Below w.heap.size w W) => heldRecS_any B m cb (k + kR s) W (h.2.on hW) hf.m (fun q hq => hf.l q (List.mem_append_right _ hq)) hk2)
  have HE := Lib.hid (show kC ⟨A, s, ca, B, m, cb⟩ = kR s + kR m from rfl)
  clear h hf hk
  unfold Ct.val
  obtain ⟨z, hz⟩ : ∃ z, k + kR s = z := ⟨_, rfl⟩
  have HZ := Lib.hid hz
  rw [hz] at H1 H2
  have hzn : ¬ (z : Int) < 0 := by omega
  obtain ⟨z2, hz2⟩ : ∃ z2, z + kR m = z2 := ⟨_, rfl⟩
  have HZ2 := Lib.hid hz2
  rw [hz2] at H2
  have hzn2 : ¬ (z2 : Int) < 0 := by omega
  clear hz hz2 hk2
  obtain ⟨x0, x1⟩ := cell2 X0.out
  go_enter Try.func55, Try.ntmps55
  go_wp2_with fail
  clear x0 x1
  refine (H1.out _ B0.out).mono ?_
  rintro e w1 ⟨rfl, hb⟩
  have B1 := Lib.hid (B0.out.trans (hb.mono B0.out.size))
  obtain ⟨x0, x1⟩ := cell2 (X0.out.on hb)
  clear hb
  go_wp2_with fail
  clear x0 x1
  refine (H2.out _ B1.out).mono ?_
  rintro e w2 ⟨rfl, hb⟩
  have B2 := Lib.hid (B1.out.trans (hb.mono B1.out.size))
  clear hb
  go_wp2_with fail
  go_ret
  exact ⟨Str.ret_i64 (by have := HZ2.out; have := HZ.out; have := HE.out; omega), B2.out⟩
end Go.Proofs.Ytegnjbdgeibhfaa.Rs
