/-
  impl.withMail.
-/
import Derived.Test.YthagkjofpfafiaaNetICopy
namespace Go.Proofs.Ythagkjofpfafiaa.Net
open Go.ChangeShapes Go.WideShapes Go.ChangeAt Go.RowKit
open Sto (R Sl flat)
set_option linter.unusedVariables false
set_option maxRecDepth 100000
set_option linter.unusedSimpArgs false

def addP (p : List (List R) × List Pm) (y : Pm) : List (List R) × List Pm := (p.1, p.2 ++ [y])

set_option maxHeartbeats 4000000 in
set_option maxRecDepth 100000 in
theorem withMail_any (n : Nt) (f t : Int) (A : Option Addr) (l : List R) (c : Nat) (w : World) (h : NLies w w.heap.size n) (hL : Little n) (hy : Sto.Lies w w.heap.size A l) (hyl : l.length ≤ 1048576) (hyk : ∀ d ∈ l, d.k.size ≤ 1048576 ∧ d.b.size ≤ 1048576) :
    Calls Try.prog 45 #[n.val, .agg #[.int .i64 f, .int .i64 t, .slice A l.length c]] w fun e w' => AnsN w e w' (if n.m.length = 40 then ([], []) else addP (pl n) ⟨f, t, l⟩) (if n.m.length = 40 then 9 else 0) := by
  have hml : n.m.length ≤ 1048576 := by have := hL.1; omega
  have B0 := (((Below.refl w.heap.size w).alloc (Nat.le_refl _) (Obj.cells #[.slice n.A n.s.length n.ca, .slice n.B n.m.length n.cb] 31)).alloc (by simp) (Obj.cells #[.int .i64 f, .int .i64 t, .slice A l.length c] 51)).alloc (by simp; omega) (Obj.cells #[.slice none 0 0, .slice none 0 0, .int .i64 0] 36)
  have p0 := ((Blk.new w 31 #[.slice n.A n.s.length n.ca, .slice n.B n.m.length n.cb]).alloc (Obj.cells #[.int .i64 f, .int .i64 t, .slice A l.length c] 51)).alloc (Obj.cells #[.slice none 0 0, .slice none 0 0, .int .i64 0] 36)
  have p1 := (Blk.new (World.alloc w (Obj.cells #[.slice n.A n.s.length n.ca, .slice n.B n.m.length n.cb] 31)) 51 #[.int .i64 f, .int .i64 t, .slice A l.length c]).alloc (Obj.cells #[.slice none 0 0, .slice none 0 0, .int .i64 0] 36)
  have p2 := Blk.new (World.alloc (World.alloc w (Obj.cells #[.slice n.A n.s.length n.ca, .slice n.B n.m.length n.cb] 31)) (Obj.cells #[.int .i64 f, .int .i64 t, .slice A l.length c] 51)) 36 #[.slice none 0 0, .slice none 0 0, .int .i64 0]
  simp only [World.size_alloc] at p1 p2
  by_cases h40 : n.m.length = 40
  · have h40i : ((n.m.length : Int) == 40) = true := by simp [h40]
    rw [if_pos h40, if_pos h40]
    have h40j : (n.m.length : Int) = 40 := by omega
    have HB := Lib.hid B0
    unfold Nt.val
    obtain ⟨q0, q1, q2⟩ := blk3 p2
    clear h40 B0 p0 p1 h hy hyk hL
    go_enter Try.func45, Try.ntmps45
    go_wp2_with fail
    refine bodyPost_ret (v := .agg #[.slice none 0 0, .slice none 0 0, .int .i64 9]) (by simp [results, Try.results45, go_sem]) rfl ?_
    exact AnsN.ill ((((Below.refl w.heap.size w).alloc (Nat.le_refl _) _).alloc (by simp) _).alloc (by simp; omega) _)
  · have h40i : ((n.m.length : Int) == 40) = false := by simp; omega
    have h40j : ¬ (n.m.length : Int) = 40 := by omega
    rw [if_neg h40, if_neg h40]
    have hz : (World.alloc (World.alloc (World.alloc w (Obj.cells #[.slice n.A n.s.length n.ca, .slice n.B n.m.length n.cb] 31)) (Obj.cells #[.int .i64 f, .int .i64 t, .slice A l.length c] 51)) (Obj.cells #[.slice none 0 0, .slice none 0 0, .int .i64 0] 36)).heap.size = w.heap.size + 3 := by simp
    have HNC := Lib.hid (newNet_any n _ (h.on B0) hL)
    have HC := Lib.hid (fun W (hW : Below w.heap.size w W) => newMail_any f t A l c W ((hy.below hW (Nat.le_refl _)).more hW.size) hyl hyk)
    have HB := Lib.hid B0
    have HP0 := Lib.hid p0
    have HP1 := Lib.hid p1
    have HP2 := Lib.hid p2
    clear h40 B0 p0 p1 p2 h hy hyk hL
    unfold Nt.val at HNC ⊢
    go_enter Try.func45, Try.ntmps45
    go_wp2_with fail
    refine HNC.out.mono ?_
    rintro e v0 ⟨n', rfl, hp, ho, hb⟩
    rw [hz] at ho
    have HPP := Lib.hid hp
    have HO1 := Lib.hid ho
    have HB1 := Lib.hid (HB.out.trans (hb.mono (by rw [hz]; omega)))
    have HM1 := Lib.hid (HP1.out.step hb (by rw [hz]; omega))
    have HR1 := Lib.hid (HP2.out.step hb (by rw [hz]; omega))
    have HZ1 := Lib.hid (show w.heap.size + 3 ≤ v0.heap.size from by have := hb.size; omega)
    have hnm : n'.m.length = n.m.length := by have := congrArg (fun q => q.2.length) hp; simpa [pl, pm_len] using this
    have hnl : n'.m.length ≤ 1048576 := by omega
    clear hp ho hb hz hnm HP0 HP1 HP2 HNC
    unfold Nt.val
    go_upto_region 4 with fail
    refine u_begin (fun W => Blk W v0.heap.size 31 #[.slice n'.A n'.s.length n'.ca, .slice n'.B n'.m.length n'.cb] ∧ Blk W (w.heap.size + 1) 51 #[.int .i64 f, .int .i64 t, .slice A l.length c]) 12 (by kernel_rfl) ?_ (fun hHeld => ?_)
    · exact ⟨(Blk.new v0 _ _).drew, (HM1.out.alloc _).drew⟩
    refine u_take (i := 0) (v := ?_) rfl (by kernel_rfl) (by kernel_rfl) (by kernel_rfl) (by kernel_rfl) (fun _ _ _ h => h) (Or.inl ⟨by rfl, ?_⟩) hHeld ?_
    rotate_left
    · intro W hSw
      obtain ⟨hs1, hs2⟩ := blk2 hSw.1
      obtain ⟨hs3, hs4, hs5⟩ := blk3 hSw.2
      go_simp
      try with_reducible rfl
    try simp only [Act.put, List.setIfInBounds_toArray, List.set_cons_zero, List.set_cons_succ, List.getElem_toArray, List.getElem_cons_succ, List.getElem_cons_zero]
    refine u_take (i := 1) (v := ?_) rfl (by kernel_rfl) (by kernel_rfl) (by kernel_rfl) (by kernel_rfl) (fun _ _ _ h => h) (Or.inl ⟨by rfl, ?_⟩) hHeld ?_
    rotate_left
    · intro W hSw
      obtain ⟨hs1, hs2⟩ := blk2 hSw.1
      obtain ⟨hs3, hs4, hs5⟩ := blk3 hSw.2
      go_simp
      try with_reducible rfl
    try simp only [Act.put, List.setIfInBounds_toArray, List.set_cons_zero, List.set_cons_succ, List.getElem_toArray, List.getElem_cons_succ, List.getElem_cons_zero]
    refine u_take (i := 2) (v := ?_) rfl (by kernel_rfl) (by kernel_rfl) (by kernel_rfl) (by kernel_rfl) (fun _ _ _ h => h) (Or.inl ⟨by rfl, ?_⟩) hHeld ?_
    rotate_left
    · intro W hSw
      obtain ⟨hs1, hs2⟩ := blk2 hSw.1
      obtain ⟨hs3, hs4, hs5⟩ := blk3 hSw.2
      go_simp
      try with_reducible rfl
    try simp only [Act.put, List.setIfInBounds_toArray, List.set_cons_zero, List.set_cons_succ, List.getElem_toArray, List.getElem_cons_succ, List.getElem_cons_zero]
    refine u_take (i := 3) (v := ?_) rfl (by kernel_rfl) (by kernel_rfl) (by kernel_rfl) (by kernel_rfl) (fun _ _ _ h => h) (Or.inl ⟨by rfl, ?_⟩) hHeld ?_
    rotate_left
    · intro W hSw
      obtain ⟨hs1, hs2⟩ := blk2 hSw.1
      obtain ⟨hs3, hs4, hs5⟩ := blk3 hSw.2
      go_simp
      try with_reducible rfl
    try simp only [Act.put, List.setIfInBounds_toArray, List.set_cons_zero, List.set_cons_succ, List.getElem_toArray, List.getElem_cons_succ, List.getElem_cons_zero]
    refine u_take (i := 4) (v := ?_) rfl (by kernel_rfl) (by kernel_rfl) (by kernel_rfl) (by kernel_rfl) (fun _ _ _ h => h) (Or.inl ⟨by rfl, ?_⟩) hHeld ?_
    rotate_left
    · intro W hSw
      obtain ⟨hs1, hs2⟩ := blk2 hSw.1
      obtain ⟨hs3, hs4, hs5⟩ := blk3 hSw.2
      go_simp
      try with_reducible rfl
    try simp only [Act.put, List.setIfInBounds_toArray, List.set_cons_zero, List.set_cons_succ, List.getElem_toArray, List.getElem_cons_succ, List.getElem_cons_zero]
    refine u_take (i := 5) (v := ?_) rfl (by kernel_rfl) (by kernel_rfl) (by kernel_rfl) (by kernel_rfl) (fun _ _ _ h => h) (Or.inl ⟨by rfl, ?_⟩) hHeld ?_
    rotate_left
    · intro W hSw
      obtain ⟨hs1, hs2⟩ := blk2 hSw.1
      obtain ⟨hs3, hs4, hs5⟩ := blk3 hSw.2
      go_simp
      try with_reducible rfl
    try simp only [Act.put, List.setIfInBounds_toArray, List.set_cons_zero, List.set_cons_succ, List.getElem_toArray, List.getElem_cons_succ, List.getElem_cons_zero]
    refine u_take (i := 6) (v := ?_) rfl (by kernel_rfl) (by kernel_rfl) (by kernel_rfl) (by kernel_rfl) (fun _ _ _ h => h) (Or.inl ⟨by rfl, ?_⟩) hHeld ?_
    rotate_left
    · intro W hSw
      obtain ⟨hs1, hs2⟩ := blk2 hSw.1
      obtain ⟨hs3, hs4, hs5⟩ := blk3 hSw.2
      go_simp
      try with_reducible rfl
    try simp only [Act.put, List.setIfInBounds_toArray, List.set_cons_zero, List.set_cons_succ, List.getElem_toArray, List.getElem_cons_succ, List.getElem_cons_zero]
    refine u_take (i := 7) (v := ?_) rfl (by kernel_rfl) (by kernel_rfl) (by kernel_rfl) (by kernel_rfl) (fun _ _ _ h => h) (Or.inl ⟨by rfl, ?_⟩) hHeld ?_
    rotate_left
    · intro W hSw
      obtain ⟨hs1, hs2⟩ := blk2 hSw.1
      obtain ⟨hs3, hs4, hs5⟩ := blk3 hSw.2
      go_simp
      try with_reducible rfl
    try simp only [Act.put, List.setIfInBounds_toArray, List.set_cons_zero, List.set_cons_succ, List.getElem_toArray, List.getElem_cons_succ, List.getElem_cons_zero]
    refine u_one (i := 8) (by kernel_rfl) rfl (fun K hK => ?_)
    go_simp
    refine (HC.out _ (HB1.out.alloc HB1.out.size _).drew).mono ?_
    rintro e v1 ⟨A', c', rfl, hx, hb⟩
    have N1 := Lib.hid ((HO1.out.alloc (Obj.cells #[.slice n'.A n'.s.length n'.ca, .slice n'.B n'.m.length n'.cb] 31)).drew.step hb)
    have R1 := Lib.hid (show HeldL v1 (n'.all ++ [⟨A', l, c'⟩]) (w.heap.size + 3) v1.heap.size from (((HO1.out.r0.step ((Below.refl _ v0).alloc (Nat.le_refl _) (Obj.cells #[.slice n'.A n'.s.length n'.ca, .slice n'.B n'.m.length n'.cb] 31)) (.inr (Nat.le_refl _))).step ((Below.refl _ (World.alloc v0 (Obj.cells #[.slice n'.A n'.s.length n'.ca, .slice n'.B n'.m.length n'.cb] 31))).drew) (.inr (Nat.le_refl _))).step hb (.inr (Nat.le_refl _))).snoc hx (Nat.le_trans HZ1.out (by show v0.heap.size ≤ (World.alloc v0 (Obj.cells #[.slice n'.A n'.s.length n'.ca, .slice n'.B n'.m.length n'.cb] 31)).heap.size; simp)) (by show v0.heap.size ≤ (World.alloc v0 (Obj.cells #[.slice n'.A n'.s.length n'.ca, .slice n'.B n'.m.length n'.cb] 31)).heap.size; simp) (Nat.le_trans (by show v0.heap.size ≤ (World.alloc v0 (Obj.cells #[.slice n'.A n'.s.length n'.ca, .slice n'.B n'.m.length n'.cb] 31)).heap.size; simp) hb.size))
    have B1 := Lib.hid ((HB1.out.alloc HB1.out.size (Obj.cells #[.slice n'.A n'.s.length n'.ca, .slice n'.B n'.m.length n'.cb] 31)).drew.trans (hb.mono (by have := HB1.out.size; show w.heap.size ≤ (World.alloc v0 (Obj.cells #[.slice n'.A n'.s.length n'.ca, .slice n'.B n'.m.length n'.cb] 31)).heap.size; simp; omega)))
    have Z1 := Lib.hid (((HR1.out.alloc (Obj.cells #[.slice n'.A n'.s.length n'.ca, .slice n'.B n'.m.length n'.cb] 31)).drew).on hb)
    clear hx
    refine hK.out _ _ (fun _ => ?_) (fun hHeld0 => ?_)
    · exact ⟨hHeld.1.on hb, hHeld.2.on hb⟩
    have hHeld := hHeld0 (by decide)
    clear hHeld0 hK K
    try simp only [Act.put, List.setIfInBounds_toArray, List.set_cons_zero, List.set_cons_succ, List.getElem_toArray, List.getElem_cons_succ, List.getElem_cons_zero]
    refine u_one (i := 9) (by kernel_rfl) rfl (fun K hK => ?_)
    have N2 := Lib.hid (N1.out.alloc (Obj.cells #[.int .i64 f, .int .i64 t, .slice A' l.length c'] 51))
    have R2 := Lib.hid (show HeldL (v1.alloc (Obj.cells #[.int .i64 f, .int .i64 t, .slice A' l.length c'] 51)) (n'.all ++ [⟨A', l, c'⟩]) (w.heap.size + 3) (v1.alloc (Obj.cells #[.int .i64 f, .int .i64 t, .slice A' l.length c'] 51)).heap.size from (R1.out.step ((Below.refl _ v1).alloc (Nat.le_refl _) (Obj.cells #[.int .i64 f, .int .i64 t, .slice A' l.length c'] 51)) (.inr (Nat.le_refl _))).wide (Nat.le_refl _) (by simp))
    have B2 := Lib.hid (B1.out.alloc B1.out.size (Obj.cells #[.int .i64 f, .int .i64 t, .slice A' l.length c'] 51))
    have Z2 := Lib.hid (Z1.out.alloc (Obj.cells #[.int .i64 f, .int .i64 t, .slice A' l.length c'] 51))
    go_simp
    refine hK.out _ _ (fun _ => ?_) (fun hHeld0 => ?_)
    · exact ⟨hHeld.1.alloc _, hHeld.2.alloc _⟩
    have hHeld := hHeld0 (by decide)
    clear hHeld0 hK K
    try simp only [Act.put, List.setIfInBounds_toArray, List.set_cons_zero, List.set_cons_succ, List.getElem_toArray, List.getElem_cons_succ, List.getElem_cons_zero]
    refine u_one (i := 10) (by kernel_rfl) rfl (fun K hK => ?_)
    have hX2 := Lib.hid hHeld
    refine Dep.wanted_in (by rfl) ?_
    refine wp_app fit_letters rfl rfl (mv [⟨f, t, ⟨A', l, c'⟩⟩]) rfl rfl N2.out.m0 (cl_one_at _ _ #[.int .i64 f, .int .i64 t, .slice A' l.length c'] rfl) rfl (mv_one _) (by omega) (by have := HZ1.out; have := hX2.out.1.lt; omega) ?_
    intro v2 w2 ho2 hg2 hn2
    obtain ⟨A2, c2, rfl, -⟩ := o_val ho2
    have N3 := Lib.hid (N2.out.addM (y := ⟨f, t, ⟨A', l, c'⟩⟩) R2.out ho2 hg2)
    have hxb : Blk w2 v0.heap.size 31 #[.slice n'.A n'.s.length n'.ca, .slice n'.B n'.m.length n'.cb] := (hg2.block _ hX2.out.1.lt (fun e => by have := (HO1.out.lt _ e.symm).2; omega)).trans hX2.out.1
    have hxm : Blk w2 (w.heap.size + 1) 51 #[.int .i64 f, .int .i64 t, .slice A l.length c] := grown_out N2.out.m0 hg2 (by omega) hX2.out.2
    have Z3 := Lib.hid (grown_out N2.out.m0 hg2 (by omega) Z2.out)
    have B3 := Lib.hid (B2.out.grown hg2 (by have := B2.out.size; exact this) (fun k e => by have := o_base N2.out.m0 k e; omega))
    clear ho2 hg2 hn2 hX2
    refine hK.out _ _ (fun _ => ?_) (fun hHeld0 => ?_)
    · exact ⟨hxb, hxm⟩
    have hHeld := hHeld0 (by decide)
    clear hHeld0 hK K
    try simp only [Act.put, List.setIfInBounds_toArray, List.set_cons_zero, List.set_cons_succ, List.getElem_toArray, List.getElem_cons_succ, List.getElem_cons_zero]
    refine u_take (i := 11) (v := ?_) rfl (by kernel_rfl) (by kernel_rfl) (by kernel_rfl) (by kernel_rfl) (fun _ _ _ h => h) (Or.inl ⟨by rfl, ?_⟩) hHeld ?_
    rotate_left
    · intro W hSw
      obtain ⟨hs1, hs2⟩ := blk2 hSw.1
      obtain ⟨hs3, hs4, hs5⟩ := blk3 hSw.2
      go_simp
      try with_reducible rfl
    try simp only [Act.put, List.setIfInBounds_toArray, List.set_cons_zero, List.set_cons_succ, List.getElem_toArray, List.getElem_cons_succ, List.getElem_cons_zero]
    refine u_one (i := 12) (by kernel_rfl) rfl (fun K hK => ?_)
    obtain ⟨z0, z1⟩ := blk2 hHeld.1
    have zf := hHeld.1.free 1
    have HX3 := Lib.hid hHeld.1
    go_simp
    refine hK.out _ _ (fun h => absurd rfl h) (fun _ => ?_)
    clear hK K
    try simp only [Act.put, List.setIfInBounds_toArray, List.set_cons_zero, List.set_cons_succ, List.getElem_toArray, List.getElem_cons_succ, List.getElem_cons_zero]
    refine u_done (by kernel_rfl) ?_ _
    have HXS := Lib.hid (out_set9 HX3.out (Value.slice A2 (n'.m.length + 1) c2))
    have N4 := Lib.hid (N3.out.box HX3.out (by decide) (by decide) (by decide) 1 (Value.slice A2 (n'.m.length + 1) c2))
    have B4 := Lib.hid (B3.out.setCell (p := ⟨v0.heap.size, 1, none⟩) (by show w.heap.size ≤ v0.heap.size; have := HZ1.out; omega) (Value.slice A2 (n'.m.length + 1) c2))
    have Z4 := Lib.hid (Z3.out.other (p := ⟨v0.heap.size, 1, none⟩) (by show w.heap.size + 2 ≠ v0.heap.size; have := HZ1.out; omega) (Value.slice A2 (n'.m.length + 1) c2))
    generalize w2.setCell ⟨v0.heap.size, 1, none⟩ (Value.slice A2 (n'.m.length + 1) c2) = w4 at HXS N4 B4 Z4 ⊢
    obtain ⟨y0, y1⟩ := blk2 HXS.out
    obtain ⟨q0, q1, q2⟩ := blk3 Z4.out
    have g0 := Z4.out.free 0
    have g1 := Z4.out.free 1
    have g2 := Z4.out.free 2
    clear z0 z1 zf hHeld HX3
    go_wp2_with fail
    refine bodyPost_ret (v := Nt.out ⟨n'.A, n'.s, n'.ca, A2, n'.m ++ [⟨f, t, ⟨A', l, c'⟩⟩], c2⟩ 0) (by simp [results, Try.results45, go_sem, Nt.out, q0, q1, q2]) rfl ?_
    refine AnsN.own ?_ ?_ ?_
    · exact (((N4.out.box Z4.out (by decide) (by decide) (by decide) 0 _).box (Z4.out.set 0 _ rfl) (by decide) (by decide) (by decide) 1 _).box ((Z4.out.set 0 _ rfl).set 1 _ rfl) (by decide) (by decide) (by decide) 2 _).less (by omega)
    · rw [← HPP.out]; unfold addP pl pm; simp
    · exact ((B4.out.setCell (p := ⟨w.heap.size + 2, 0, none⟩) (by show w.heap.size ≤ w.heap.size + 2; omega) _).setCell (p := ⟨w.heap.size + 2, 1, none⟩) (by show w.heap.size ≤ w.heap.size + 2; omega) _).setCell (p := ⟨w.heap.size + 2, 2, none⟩) (by show w.heap.size ≤ w.heap.size + 2; omega) _
end Go.Proofs.Ythagkjofpfafiaa.Net
