/-
  Several texts in one: NetSPut, NetSPutOut.
-/
import Derived.Test.YtoagdpbbojlgfaaGreatNetPutS
import Derived.Test.YtoagdpbbojlgfaaGreatPackNCp
import Derived.Test.YtoagdpbbojlgfaaGreatPackNSm
import Derived.Test.YtoagdpbbojlgfaaGreatRowPut
import Derived.Test.YtoagdpbbojlgfaaGreatPackNRt
/-
  spec.l06Put.
-/
namespace Go.Proofs.YtoagdpbbojlgfaaGreat.Net
open Go.ChangeShapes Go.WideShapes Go.ChangeAt Go.RowKit
open Sto (R Sl flat putW rowB specPut_any)
set_option linter.unusedVariables false
set_option maxRecDepth 100000
set_option linter.unusedSimpArgs false

set_option maxHeartbeats 8000000 in
set_option maxRecDepth 100000 in
theorem specL06Put_any (n : Nt) (i : Int) (x : R) (w : World) (h : NLies w w.heap.size n) (hL : Little n) (hr : netB (pl n) = true) (hx : rowB x = true) :
    Calls Tryz.prog 104 #[n.val, .int .i64 i, x.val] w fun e w' => AnsN w e w' (nputP (pl n) i x) (nputC (pl n) i x) := by
  have hok := okN_of hr
  have HP1L := Lib.hid (show (pl n).1.length = n.s.length from ps_len _)
  have HP2L := Lib.hid (show (pl n).2.length = n.m.length from pm_len _)
  have hn4 : n.s.length ≤ 4 := by have := hok.1.2; rw [HP1L.out] at this; exact this
  have hm40 : n.m.length ≤ 40 := by have := hok.2.1; rw [HP2L.out] at this; exact this
  have hsl : n.s.length ≤ 1048576 := by have := hL.1; omega
  have hml : n.m.length ≤ 1048576 := by have := hL.1; omega
  have B0 := (((Below.refl w.heap.size w).alloc (Nat.le_refl _) (Obj.cells #[.slice n.A n.s.length n.ca, .slice n.B n.m.length n.cb] 35)).alloc (by simp) (Obj.cells #[.string x.k, .int .i64 x.i.c, .int .i64 x.i.s, .int .i64 x.i.e, .string x.b] 42)).alloc (by simp; omega) (Obj.cells #[.slice none 0 0, .slice none 0 0, .int .i64 0] 37)
  have p0 := ((Blk.new w 35 #[.slice n.A n.s.length n.ca, .slice n.B n.m.length n.cb]).alloc (Obj.cells #[.string x.k, .int .i64 x.i.c, .int .i64 x.i.s, .int .i64 x.i.e, .string x.b] 42)).alloc (Obj.cells #[.slice none 0 0, .slice none 0 0, .int .i64 0] 37)
  have p1 := (Blk.new (World.alloc w (Obj.cells #[.slice n.A n.s.length n.ca, .slice n.B n.m.length n.cb] 35)) 42 #[.string x.k, .int .i64 x.i.c, .int .i64 x.i.s, .int .i64 x.i.e, .string x.b]).alloc (Obj.cells #[.slice none 0 0, .slice none 0 0, .int .i64 0] 37)
  have p2 := Blk.new (World.alloc (World.alloc w (Obj.cells #[.slice n.A n.s.length n.ca, .slice n.B n.m.length n.cb] 35)) (Obj.cells #[.string x.k, .int .i64 x.i.c, .int .i64 x.i.s, .int .i64 x.i.e, .string x.b] 42)) 37 #[.slice none 0 0, .slice none 0 0, .int .i64 0]
  simp only [World.size_alloc] at p1 p2
  have hz : w.heap.size + 3 ≤ (World.alloc (World.alloc (World.alloc w (Obj.cells #[.slice n.A n.s.length n.ca, .slice n.B n.m.length n.cb] 35)) (Obj.cells #[.string x.k, .int .i64 x.i.c, .int .i64 x.i.s, .int .i64 x.i.e, .string x.b] 42)) (Obj.cells #[.slice none 0 0, .slice none 0 0, .int .i64 0] 37)).heap.size := by simp
  have HZ := Lib.hid hz
  have HB0 := Lib.hid B0
  have HP0 := Lib.hid p0
  have HPR := Lib.hid (show Sto.RowRow _ _ 42 x from p1)
  have HP1 := Lib.hid p2
  clear hz B0 p0 p1 p2
  have HT := Lib.hid (fun i W => there_any n i W hsl)
  have HROW := Lib.hid (fun l (hl : l ∈ (pl n).1) => (Sto.ok_of (hok.2.2.2.1 l (List.mem_append_left _ hl))).1)
  have HC0 : nputC (pl n) i x = if place n.s.length i = true then (if 6 < (mergeAll (allP (pl n) ++ [[x]])).length then 9 else 0) else 6 := by unfold nputC; rw [if_pos ⟨hr, hx⟩, HP1L.out]
  cases hq : place n.s.length i
  · have HQ := Lib.hid hq
    have hcm : nputC (pl n) i x = 6 := by rw [HC0, if_neg (by rw [hq]; decide)]
    have HGC := Lib.hid hcm
    have HGP := Lib.hid (show nputP (pl n) i x = ([], []) by unfold nputP; rw [hcm]; rfl)
    rw [HGC.out, HGP.out]
    clear hq h hL HGC HGP hcm HC0 hok hn4 hm40
    unfold Nt.val at HT ⊢
    unfold R.val
    go_enter Tryz.func104, Tryz.ntmps104
    go_wp2_with fail
    refine (HT.out i _).mono ?_
    rintro e w1 ⟨rfl, hb⟩
    rw [HQ.out]
    have HB0 := Lib.hid (HB0.out.trans (hb.mono HB0.out.size))
    have HP0 := Lib.hid (HP0.out.on hb)
    have HPR := Lib.hid (HPR.out.on hb)
    have HP1 := Lib.hid (HP1.out.on hb)
    have HZ := Lib.hid (show w.heap.size + 3 ≤ w1.heap.size from by have := HZ.out; have := hb.size; omega)
    clear hb
    obtain ⟨b0, b1⟩ := blk2 HP0.out
    go_wp2_with fail
    clear b0 b1
    refine (ill_any 6 _).mono ?_
    rintro e w2 ⟨rfl, hb⟩
    have HB0 := Lib.hid (HB0.out.trans (hb.mono HB0.out.size))
    have HP0 := Lib.hid (HP0.out.on hb)
    have HPR := Lib.hid (HPR.out.on hb)
    have HP1 := Lib.hid (HP1.out.on hb)
    have HZ := Lib.hid (show w.heap.size + 3 ≤ w2.heap.size from by have := HZ.out; have := hb.size; omega)
    clear hb
    obtain ⟨q0, q1, q2⟩ := blk3 HP1.out
    have g0 := HP1.out.free 0
    have g1 := HP1.out.free 1
    have g2 := HP1.out.free 2
    go_wp2_with fail
    refine bodyPost_ret (v := .agg #[.slice none 0 0, .slice none 0 0, .int .i64 6]) (by simp [results, Tryz.results104, go_sem, q0, q1, q2]) rfl ?_
    exact AnsN.ill (((HB0.out.setCell (p := ⟨w.heap.size + 2, 0, none⟩) (by show w.heap.size ≤ w.heap.size + 2; omega) _).setCell (p := ⟨w.heap.size + 2, 1, none⟩) (by show w.heap.size ≤ w.heap.size + 2; omega) _).setCell (p := ⟨w.heap.size + 2, 2, none⟩) (by show w.heap.size ≤ w.heap.size + 2; omega) _)
  have HQ := Lib.hid hq
  have HA := Lib.hid (fun W (hW : Below w.heap.size w W) => specAll_any n W (h.on hW) hn4 hm40 (fun l hl => (Sto.ok_of (hok.2.2.2.1 l hl)).1))
  have hM6 := hok.2.2.2.2
  have hMP : mergeAll (allP (pl n) ++ [[x]]) = putW (mergeAll (allP (pl n))) x := by rw [mergeAll_snoc]; rfl
  rw [hMP, if_pos hq] at HC0
  obtain ⟨M, hM⟩ : ∃ M, mergeAll (allP (pl n)) = M := ⟨_, rfl⟩
  rw [hM] at HA hM6 HC0
  clear hM hMP
  obtain ⟨pm6, hpm6⟩ : ∃ z, (putW M x).length = z := ⟨_, rfl⟩
  have HPL := Lib.hid hpm6
  rw [hpm6] at HC0
  have hpl : pm6 ≤ 7 := by have := Sto.put_len M x; omega
  clear hpm6
  by_cases h6 : 6 < pm6
  · have h6i : (6 : Int) < pm6 := by omega
    rw [if_pos h6] at HC0
    have HGC := Lib.hid HC0
    have HGP := Lib.hid (show nputP (pl n) i x = ([], []) by unfold nputP; rw [HC0]; rfl)
    rw [HGC.out, HGP.out]
    clear hq h hL HGC HGP HC0 hok hn4 hm40
    unfold Nt.val at HT HA ⊢
    unfold R.val
    go_enter Tryz.func104, Tryz.ntmps104
    go_wp2_with fail
    refine (HT.out i _).mono ?_
    rintro e w1 ⟨rfl, hb⟩
    rw [HQ.out]
    have HB0 := Lib.hid (HB0.out.trans (hb.mono HB0.out.size))
    have HP0 := Lib.hid (HP0.out.on hb)
    have HPR := Lib.hid (HPR.out.on hb)
    have HP1 := Lib.hid (HP1.out.on hb)
    have HZ := Lib.hid (show w.heap.size + 3 ≤ w1.heap.size from by have := HZ.out; have := hb.size; omega)
    clear hb
    obtain ⟨b0, b1⟩ := blk2 HP0.out
    go_wp2_with fail
    clear b0 b1
    refine wp_region_held_drew (S := (fun W => Blk W w.heap.size 35 #[.slice n.A n.s.length n.ca, .slice n.B n.m.length n.cb] ∧ Sto.RowRow W (w.heap.size + 1) 42 x ∧ Below w.heap.size w W)) (by kernel_rfl) ?_ (fun hHeld => ?_)
    · exact ⟨HP0.out.drew, HPR.out, HB0.out.drew⟩
    refine wpAnyH_take (i := 0) (v := ?_) rfl (by kernel_rfl) (by kernel_rfl) (by kernel_rfl) (fun _ _ _ h => h) (Or.inl ⟨by rfl, ?_⟩) hHeld ?_
    rotate_left
    · intro W hSw
      obtain ⟨hs1, hs2⟩ := blk2 hSw.1
      obtain ⟨r0, r1, r2, r3, r4⟩ := hSw.2.1.cells
      go_simp
      try with_reducible rfl
    try simp only [Act.put, List.setIfInBounds_toArray, List.set_cons_zero, List.set_cons_succ, List.getElem_toArray, List.getElem_cons_zero]
    refine wpAnyH_take (i := 2) (v := ?_) rfl (by kernel_rfl) (by kernel_rfl) (by kernel_rfl) (fun _ _ _ h => h) (Or.inl ⟨by rfl, ?_⟩) hHeld ?_
    rotate_left
    · intro W hSw
      obtain ⟨hs1, hs2⟩ := blk2 hSw.1
      obtain ⟨r0, r1, r2, r3, r4⟩ := hSw.2.1.cells
      go_simp
      try with_reducible rfl
    try simp only [Act.put, List.setIfInBounds_toArray, List.set_cons_zero, List.set_cons_succ, List.getElem_toArray, List.getElem_cons_succ, List.getElem_cons_zero]
    refine wpAnyH_ready (rs := [1]) (by kernel_rfl) (by simp) ?_
    refine AllReadyH.cons rfl (fun K hK => ?_) AllReadyH.nil
    go_simp
    refine (HA.out _ hHeld.2.2).mono ?_
    rintro e w2 ⟨v, rfl, ho, hne, hb⟩
    obtain ⟨g, c, rfl, h1, h2, -⟩ := o_val_ne ho hne
    have HLA := Lib.hid ((HeldX.of (c := c) (Sto.Held.of_own ho)).lies (Nat.le_refl _))
    have HB1 := Lib.hid hb
    clear ho hne
    refine hK.out _ _ ?_ (fun hHeld => ?_)
    · exact ⟨hHeld.1.on hb, hHeld.2.1.on hb, hHeld.2.2.trans (hb.mono hHeld.2.2.size)⟩
    clear hK K
    try simp only [Act.put, List.setIfInBounds_toArray, List.set_cons_zero, List.set_cons_succ, List.getElem_toArray, List.getElem_cons_succ, List.getElem_cons_zero]
    refine wpAnyH_ready (rs := [3]) (by kernel_rfl) (by simp) ?_
    refine AllReadyH.cons rfl (fun K hK => ?_) AllReadyH.nil
    go_simp
    refine (specPut_any ⟨g, 0, none⟩ M c x _ HLA.out (by omega) h1 h2).mono ?_
    rintro e w3 ⟨v3, rfl, ho3, hb⟩
    obtain ⟨A3, c3, rfl, -⟩ := o_val ho3
    rw [HPL.out]
    have HB2 := Lib.hid hb
    clear ho3 HLA h1 h2
    refine hK.out _ _ ?_ (fun hHeld => ?_)
    · exact ⟨hHeld.1.on hb, hHeld.2.1.on hb, hHeld.2.2.trans (hb.mono hHeld.2.2.size)⟩
    clear hK K
    try simp only [Act.put, List.setIfInBounds_toArray, List.set_cons_zero, List.set_cons_succ, List.getElem_toArray, List.getElem_cons_succ, List.getElem_cons_zero]
    refine wpAnyH_take (i := 4) (v := ?_) rfl (by kernel_rfl) (by kernel_rfl) (by kernel_rfl) (fun _ _ _ h => h) (Or.inl ⟨by rfl, ?_⟩) hHeld ?_
    rotate_left
    · intro W hSw
      obtain ⟨hs1, hs2⟩ := blk2 hSw.1
      obtain ⟨r0, r1, r2, r3, r4⟩ := hSw.2.1.cells
      go_simp
      try with_reducible rfl
    try simp only [Act.put, List.setIfInBounds_toArray, List.set_cons_zero, List.set_cons_succ, List.getElem_toArray, List.getElem_cons_succ, List.getElem_cons_zero]
    refine wpAnyH_take (i := 5) (v := ?_) rfl (by kernel_rfl) (by kernel_rfl) (by kernel_rfl) (fun _ _ _ h => h) (Or.inl ⟨by rfl, ?_⟩) hHeld ?_
    rotate_left
    · intro W hSw
      obtain ⟨hs1, hs2⟩ := blk2 hSw.1
      obtain ⟨r0, r1, r2, r3, r4⟩ := hSw.2.1.cells
      go_simp
      try with_reducible rfl
    try simp only [Act.put, List.setIfInBounds_toArray, List.set_cons_zero, List.set_cons_succ, List.getElem_toArray, List.getElem_cons_succ, List.getElem_cons_zero]
    refine wpAnyH_done (by kernel_rfl) ?_ _
    have HB0 := Lib.hid hHeld.2.2
    have HP0 := Lib.hid hHeld.1
    have HPR := Lib.hid hHeld.2.1
    have HP1 := Lib.hid ((HP1.out.drew.on HB1.out).on HB2.out)
    have HZ := Lib.hid (show w.heap.size + 3 ≤ w3.heap.size from Nat.le_trans HZ.out (Nat.le_trans HB1.out.size HB2.out.size))
    clear HB1 HB2 hHeld
    go_wp2_with fail
    refine (ill_any 9 _).mono ?_
    rintro e w4 ⟨rfl, hb⟩
    have HB0 := Lib.hid (HB0.out.trans (hb.mono HB0.out.size))
    have HP0 := Lib.hid (HP0.out.on hb)
    have HPR := Lib.hid (HPR.out.on hb)
    have HP1 := Lib.hid (HP1.out.on hb)
    have HZ := Lib.hid (show w.heap.size + 3 ≤ w4.heap.size from by have := HZ.out; have := hb.size; omega)
    clear hb
    obtain ⟨q0, q1, q2⟩ := blk3 HP1.out
    have g0 := HP1.out.free 0
    have g1 := HP1.out.free 1
    have g2 := HP1.out.free 2
    go_wp2_with fail
    refine bodyPost_ret (v := .agg #[.slice none 0 0, .slice none 0 0, .int .i64 9]) (by simp [results, Tryz.results104, go_sem, q0, q1, q2]) rfl ?_
    exact AnsN.ill (((HB0.out.setCell (p := ⟨w.heap.size + 2, 0, none⟩) (by show w.heap.size ≤ w.heap.size + 2; omega) _).setCell (p := ⟨w.heap.size + 2, 1, none⟩) (by show w.heap.size ≤ w.heap.size + 2; omega) _).setCell (p := ⟨w.heap.size + 2, 2, none⟩) (by show w.heap.size ≤ w.heap.size + 2; omega) _)
  have h6i : ¬ (6 : Int) < pm6 := by omega
  rw [if_neg h6] at HC0
  obtain ⟨k, rfl, hk⟩ := place_nat hq
  have HGC := Lib.hid HC0
  have HJ0 := Lib.hid (show nputP (pl n) k x = ((pl n).1.set k (putW ((pl n).1.getD k []) x), (pl n).2) by unfold nputP; rw [if_pos HC0, Int.toNat_natCast])
  have HCP := Lib.hid (fun W (hW : Below w.heap.size w W) => specCopyR_any n W (h.on hW) hL)
  rw [HGC.out]
  clear hq h hL HGC HC0 hok hm40
  unfold Nt.val at HT HA HCP ⊢
  unfold R.val
  go_enter Tryz.func104, Tryz.ntmps104
  go_wp2_with fail
  refine (HT.out k _).mono ?_
  rintro e w1 ⟨rfl, hb⟩
  rw [HQ.out]
  have HB0 := Lib.hid (HB0.out.trans (hb.mono HB0.out.size))
  have HP0 := Lib.hid (HP0.out.on hb)
  have HPR := Lib.hid (HPR.out.on hb)
  have HP1 := Lib.hid (HP1.out.on hb)
  have HZ := Lib.hid (show w.heap.size + 3 ≤ w1.heap.size from by have := HZ.out; have := hb.size; omega)
  clear hb
  obtain ⟨b0, b1⟩ := blk2 HP0.out
  go_wp2_with fail
  clear b0 b1
  refine wp_region_held_drew (S := (fun W => Blk W w.heap.size 35 #[.slice n.A n.s.length n.ca, .slice n.B n.m.length n.cb] ∧ Sto.RowRow W (w.heap.size + 1) 42 x ∧ Below w.heap.size w W)) (by kernel_rfl) ?_ (fun hHeld => ?_)
  · exact ⟨HP0.out.drew, HPR.out, HB0.out.drew⟩
  refine wpAnyH_take (i := 0) (v := ?_) rfl (by kernel_rfl) (by kernel_rfl) (by kernel_rfl) (fun _ _ _ h => h) (Or.inl ⟨by rfl, ?_⟩) hHeld ?_
  rotate_left
  · intro W hSw
    obtain ⟨hs1, hs2⟩ := blk2 hSw.1
    obtain ⟨r0, r1, r2, r3, r4⟩ := hSw.2.1.cells
    go_simp
    try with_reducible rfl
  try simp only [Act.put, List.setIfInBounds_toArray, List.set_cons_zero, List.set_cons_succ, List.getElem_toArray, List.getElem_cons_zero]
  refine wpAnyH_take (i := 2) (v := ?_) rfl (by kernel_rfl) (by kernel_rfl) (by kernel_rfl) (fun _ _ _ h => h) (Or.inl ⟨by rfl, ?_⟩) hHeld ?_
  rotate_left
  · intro W hSw
    obtain ⟨hs1, hs2⟩ := blk2 hSw.1
    obtain ⟨r0, r1, r2, r3, r4⟩ := hSw.2.1.cells
    go_simp
    try with_reducible rfl
  try simp only [Act.put, List.setIfInBounds_toArray, List.set_cons_zero, List.set_cons_succ, List.getElem_toArray, List.getElem_cons_succ, List.getElem_cons_zero]
  refine wpAnyH_ready (rs := [1]) (by kernel_rfl) (by simp) ?_
  refine AllReadyH.cons rfl (fun K hK => ?_) AllReadyH.nil
  go_simp
  refine (HA.out _ hHeld.2.2).mono ?_
  rintro e w2 ⟨v, rfl, ho, hne, hb⟩
  obtain ⟨g, c, rfl, h1, h2, -⟩ := o_val_ne ho hne
  have HLA := Lib.hid ((HeldX.of (c := c) (Sto.Held.of_own ho)).lies (Nat.le_refl _))
  have HB1 := Lib.hid hb
  clear ho hne
  refine hK.out _ _ ?_ (fun hHeld => ?_)
  · exact ⟨hHeld.1.on hb, hHeld.2.1.on hb, hHeld.2.2.trans (hb.mono hHeld.2.2.size)⟩
  clear hK K
  try simp only [Act.put, List.setIfInBounds_toArray, List.set_cons_zero, List.set_cons_succ, List.getElem_toArray, List.getElem_cons_succ, List.getElem_cons_zero]
  refine wpAnyH_ready (rs := [3]) (by kernel_rfl) (by simp) ?_
  refine AllReadyH.cons rfl (fun K hK => ?_) AllReadyH.nil
  go_simp
  refine (specPut_any ⟨g, 0, none⟩ M c x _ HLA.out (by omega) h1 h2).mono ?_
  rintro e w3 ⟨v3, rfl, ho3, hb⟩
  obtain ⟨A3, c3, rfl, -⟩ := o_val ho3
  rw [HPL.out]
  have HB2 := Lib.hid hb
  clear ho3 HLA h1 h2
  refine hK.out _ _ ?_ (fun hHeld => ?_)
  · exact ⟨hHeld.1.on hb, hHeld.2.1.on hb, hHeld.2.2.trans (hb.mono hHeld.2.2.size)⟩
  clear hK K
  try simp only [Act.put, List.setIfInBounds_toArray, List.set_cons_zero, List.set_cons_succ, List.getElem_toArray, List.getElem_cons_succ, List.getElem_cons_zero]
  refine wpAnyH_take (i := 4) (v := ?_) rfl (by kernel_rfl) (by kernel_rfl) (by kernel_rfl) (fun _ _ _ h => h) (Or.inl ⟨by rfl, ?_⟩) hHeld ?_
  rotate_left
  · intro W hSw
    obtain ⟨hs1, hs2⟩ := blk2 hSw.1
    obtain ⟨r0, r1, r2, r3, r4⟩ := hSw.2.1.cells
    go_simp
    try with_reducible rfl
  try simp only [Act.put, List.setIfInBounds_toArray, List.set_cons_zero, List.set_cons_succ, List.getElem_toArray, List.getElem_cons_succ, List.getElem_cons_zero]
  refine wpAnyH_take (i := 5) (v := ?_) rfl (by kernel_rfl) (by kernel_rfl) (by kernel_rfl) (fun _ _ _ h => h) (Or.inl ⟨by rfl, ?_⟩) hHeld ?_
  rotate_left
  · intro W hSw
    obtain ⟨hs1, hs2⟩ := blk2 hSw.1
    obtain ⟨r0, r1, r2, r3, r4⟩ := hSw.2.1.cells
    go_simp
    try with_reducible rfl
  try simp only [Act.put, List.setIfInBounds_toArray, List.set_cons_zero, List.set_cons_succ, List.getElem_toArray, List.getElem_cons_succ, List.getElem_cons_zero]
  refine wpAnyH_done (by kernel_rfl) ?_ _
  have HB0 := Lib.hid hHeld.2.2
  have HP0 := Lib.hid hHeld.1
  have HPR := Lib.hid hHeld.2.1
  have HP1 := Lib.hid ((HP1.out.drew.on HB1.out).on HB2.out)
  have HZ := Lib.hid (show w.heap.size + 3 ≤ w3.heap.size from Nat.le_trans HZ.out (Nat.le_trans HB1.out.size HB2.out.size))
  clear HB1 HB2 hHeld
  obtain ⟨b0, b1⟩ := blk2 HP0.out
  go_wp2_with fail
  clear b0 b1
  refine (HCP.out _ HB0.out).mono ?_
  rintro e v0 ⟨n', rfl, hp, ho, hb, hrm⟩
  have HPP := Lib.hid hp
  have HO1 := Lib.hid (ho.less (show w.heap.size + 3 ≤ _ from HZ.out))
  have hns : n'.s.length = n.s.length := by have := congrArg (fun q => q.1.length) hp; simpa [pl, ps_len] using this
  have hkm : k < n'.s.length := by omega
  have HNS := Lib.hid hns
  have HB0 := Lib.hid (HB0.out.trans (hb.mono HB0.out.size))
  have HP0 := Lib.hid (HP0.out.on hb)
  have HPR := Lib.hid (HPR.out.on hb)
  have HP1 := Lib.hid (HP1.out.on hb)
  have HZ := Lib.hid (show w.heap.size + 3 ≤ v0.heap.size from by have := HZ.out; have := hb.size; omega)
  clear hb
  clear hp ho hns
  obtain ⟨xd, hxA, hxc, hxm⟩ := hrm _ (List.getElem_mem hkm)
  obtain ⟨g, hgA, hga, hgl⟩ := HO1.out.someS (by omega)
  have HXS := Lib.hid (HO1.out.r0.lies (Nat.le_refl _) _ (List.mem_append_left _ (List.getElem_mem hkm)))
  have hxl : n'.s[k].l.length ≤ 1048576 := by
    have := HROW.out n'.s[k].l (by rw [← HPP.out]; exact List.mem_map.2 ⟨_, List.getElem_mem hkm, rfl⟩)
    omega
  have hgd : (pl n).1.getD k [] = n'.s[k].l := by rw [← HPP.out]; show (ps n'.s).getD k [] = _; unfold ps; simp [List.getD, hkm]
  have HJP := Lib.hid (show ((pl n').1.set k (putW n'.s[k].l x), (pl n').2) = nputP (pl n) k x by rw [HJ0.out, hgd, HPP.out])
  have HC1 := Lib.hid (fun W (hW : Below v0.heap.size v0 W) => ((HO1.out.step hW).cellS hgA hkm).1)
  obtain ⟨xx, hxx⟩ : ∃ xx, n'.s[k] = xx := ⟨_, rfl⟩
  rw [hxx] at hxA hxc hxm hxl HXS HJP HC1
  clear hxx hgd hrm HJ0
  obtain ⟨xA, xl, xc⟩ := xx
  simp only at hxA hxc hxm hxl HXS HJP HC1
  subst hxA
  obtain ⟨A1, s1, ca1, B1, m1, cb1⟩ := n'
  simp only at hgA hkm HJP HC1 HNS
  subst hgA
  unfold Nt.val
  have hki : (k : Int) < s1.length := by omega
  have XB1 := Lib.hid (Blk.new v0 35 #[.slice (some ⟨g, 0, none⟩) s1.length ca1, .slice B1 m1.length cb1])
  have LZ := Lib.hid (show (World.alloc v0 (Obj.cells #[.slice (some ⟨g, 0, none⟩) s1.length ca1, .slice B1 m1.length cb1] 35)).heap.size = v0.heap.size + 1 by simp)
  have N1 := Lib.hid (HO1.out.alloc (Obj.cells #[.slice (some ⟨g, 0, none⟩) s1.length ca1, .slice B1 m1.length cb1] 35))
  have RB1 := Lib.hid (HPR.out.alloc (Obj.cells #[.slice (some ⟨g, 0, none⟩) s1.length ca1, .slice B1 m1.length cb1] 35))
  have HP1 := Lib.hid (HP1.out.alloc (Obj.cells #[.slice (some ⟨g, 0, none⟩) s1.length ca1, .slice B1 m1.length cb1] 35))
  have HB0 := Lib.hid (HB0.out.alloc HB0.out.size (Obj.cells #[.slice (some ⟨g, 0, none⟩) s1.length ca1, .slice B1 m1.length cb1] 35))
  have hzz := HZ.out
  have HCELL := Lib.hid (fun W (hW : Below (World.alloc v0 (Obj.cells #[.slice (some ⟨g, 0, none⟩) s1.length ca1, .slice B1 m1.length cb1] 35)).heap.size (World.alloc v0 (Obj.cells #[.slice (some ⟨g, 0, none⟩) s1.length ca1, .slice B1 m1.length cb1] 35)) W) => HC1.out W (((Below.refl _ v0).alloc (Nat.le_refl _) (Obj.cells #[.slice (some ⟨g, 0, none⟩) s1.length ca1, .slice B1 m1.length cb1] 35)).trans (hW.mono (by simp))))
  have HLX := Lib.hid (fun W (hW : Below (World.alloc v0 (Obj.cells #[.slice (some ⟨g, 0, none⟩) s1.length ca1, .slice B1 m1.length cb1] 35)).heap.size (World.alloc v0 (Obj.cells #[.slice (some ⟨g, 0, none⟩) s1.length ca1, .slice B1 m1.length cb1] 35)) W) => (HXS.out.below (((Below.refl _ v0).alloc (Nat.le_refl _) (Obj.cells #[.slice (some ⟨g, 0, none⟩) s1.length ca1, .slice B1 m1.length cb1] 35)).trans (hW.mono (by simp))) (Nat.le_refl _)).more (show v0.heap.size ≤ W.heap.size from by have := hW.size; have := LZ.out; omega))
  clear HC1 HXS hzz
  go_upto_region 6 with fail
  generalize World.alloc v0 (Obj.cells #[.slice (some ⟨g, 0, none⟩) s1.length ca1, .slice B1 m1.length cb1] 35) = V at XB1 LZ N1 RB1 HP1 HB0 HCELL HLX ⊢
  refine u_begin (fun W => Blk W v0.heap.size 35 #[.slice (some ⟨g, 0, none⟩) s1.length ca1, .slice B1 m1.length cb1] ∧ Sto.RowRow W (w.heap.size + 1) 42 x ∧ Below V.heap.size V W) 11 (by kernel_rfl) ?_ (fun hHeld => ?_)
  · exact ⟨XB1.out.drew, RB1.out, (Below.refl _ V).drew⟩
  refine u_take (i := 0) (v := ?_) rfl (by kernel_rfl) (by kernel_rfl) (by kernel_rfl) (by kernel_rfl) (fun _ _ _ h => h) (Or.inl ⟨by rfl, ?_⟩) hHeld ?_
  rotate_left
  · intro W hSw
    obtain ⟨hs1, hs2⟩ := blk2 hSw.1
    obtain ⟨r0, r1, r2, r3, r4⟩ := hSw.2.1.cells
    have hs5 := HCELL.out W hSw.2.2
    go_simp
    try with_reducible rfl
  try simp only [Act.put, List.setIfInBounds_toArray, List.set_cons_zero, List.set_cons_succ, List.getElem_toArray, List.getElem_cons_succ, List.getElem_cons_zero]
  refine u_take (i := 1) (v := ?_) rfl (by kernel_rfl) (by kernel_rfl) (by kernel_rfl) (by kernel_rfl) (fun _ _ _ h => h) (Or.inl ⟨by rfl, ?_⟩) hHeld ?_
  rotate_left
  · intro W hSw
    obtain ⟨hs1, hs2⟩ := blk2 hSw.1
    obtain ⟨r0, r1, r2, r3, r4⟩ := hSw.2.1.cells
    have hs5 := HCELL.out W hSw.2.2
    go_simp
    try with_reducible rfl
  try simp only [Act.put, List.setIfInBounds_toArray, List.set_cons_zero, List.set_cons_succ, List.getElem_toArray, List.getElem_cons_succ, List.getElem_cons_zero]
  refine u_take (i := 2) (v := ?_) rfl (by kernel_rfl) (by kernel_rfl) (by kernel_rfl) (by kernel_rfl) (fun _ _ _ h => h) (Or.inl ⟨by rfl, ?_⟩) hHeld ?_
  rotate_left
  · intro W hSw
    obtain ⟨hs1, hs2⟩ := blk2 hSw.1
    obtain ⟨r0, r1, r2, r3, r4⟩ := hSw.2.1.cells
    have hs5 := HCELL.out W hSw.2.2
    go_simp
    try with_reducible rfl
  try simp only [Act.put, List.setIfInBounds_toArray, List.set_cons_zero, List.set_cons_succ, List.getElem_toArray, List.getElem_cons_succ, List.getElem_cons_zero]
  refine u_take (i := 3) (v := ?_) rfl (by kernel_rfl) (by kernel_rfl) (by kernel_rfl) (by kernel_rfl) (fun _ _ _ h => h) (Or.inl ⟨by rfl, ?_⟩) hHeld ?_
  rotate_left
  · intro W hSw
    obtain ⟨hs1, hs2⟩ := blk2 hSw.1
    obtain ⟨r0, r1, r2, r3, r4⟩ := hSw.2.1.cells
    have hs5 := HCELL.out W hSw.2.2
    go_simp
    try with_reducible rfl
  try simp only [Act.put, List.setIfInBounds_toArray, List.set_cons_zero, List.set_cons_succ, List.getElem_toArray, List.getElem_cons_succ, List.getElem_cons_zero]
  refine u_take (i := 4) (v := ?_) rfl (by kernel_rfl) (by kernel_rfl) (by kernel_rfl) (by kernel_rfl) (fun _ _ _ h => h) (Or.inl ⟨by rfl, ?_⟩) hHeld ?_
  rotate_left
  · intro W hSw
    obtain ⟨hs1, hs2⟩ := blk2 hSw.1
    obtain ⟨r0, r1, r2, r3, r4⟩ := hSw.2.1.cells
    have hs5 := HCELL.out W hSw.2.2
    go_simp
    try with_reducible rfl
  try simp only [Act.put, List.setIfInBounds_toArray, List.set_cons_zero, List.set_cons_succ, List.getElem_toArray, List.getElem_cons_succ, List.getElem_cons_zero]
  refine u_take (i := 5) (v := ?_) rfl (by kernel_rfl) (by kernel_rfl) (by kernel_rfl) (by kernel_rfl) (fun _ _ _ h => h) (Or.inl ⟨by rfl, ?_⟩) hHeld ?_
  rotate_left
  · intro W hSw
    obtain ⟨hs1, hs2⟩ := blk2 hSw.1
    obtain ⟨r0, r1, r2, r3, r4⟩ := hSw.2.1.cells
    have hs5 := HCELL.out W hSw.2.2
    go_simp
    try with_reducible rfl
  try simp only [Act.put, List.setIfInBounds_toArray, List.set_cons_zero, List.set_cons_succ, List.getElem_toArray, List.getElem_cons_succ, List.getElem_cons_zero]
  refine u_take (i := 6) (v := ?_) rfl (by kernel_rfl) (by kernel_rfl) (by kernel_rfl) (by kernel_rfl) (fun _ _ _ h => h) (Or.inl ⟨by rfl, ?_⟩) hHeld ?_
  rotate_left
  · intro W hSw
    obtain ⟨hs1, hs2⟩ := blk2 hSw.1
    obtain ⟨r0, r1, r2, r3, r4⟩ := hSw.2.1.cells
    have hs5 := HCELL.out W hSw.2.2
    go_simp
    try with_reducible rfl
  try simp only [Act.put, List.setIfInBounds_toArray, List.set_cons_zero, List.set_cons_succ, List.getElem_toArray, List.getElem_cons_succ, List.getElem_cons_zero]
  refine u_take (i := 7) (v := ?_) rfl (by kernel_rfl) (by kernel_rfl) (by kernel_rfl) (by kernel_rfl) (fun _ _ _ h => h) (Or.inl ⟨by rfl, ?_⟩) hHeld ?_
  rotate_left
  · intro W hSw
    obtain ⟨hs1, hs2⟩ := blk2 hSw.1
    obtain ⟨r0, r1, r2, r3, r4⟩ := hSw.2.1.cells
    have hs5 := HCELL.out W hSw.2.2
    go_simp
    try with_reducible rfl
  try simp only [Act.put, List.setIfInBounds_toArray, List.set_cons_zero, List.set_cons_succ, List.getElem_toArray, List.getElem_cons_succ, List.getElem_cons_zero]
  refine u_take (i := 8) (v := ?_) rfl (by kernel_rfl) (by kernel_rfl) (by kernel_rfl) (by kernel_rfl) (fun _ _ _ h => h) (Or.inl ⟨by rfl, ?_⟩) hHeld ?_
  rotate_left
  · intro W hSw
    obtain ⟨hs1, hs2⟩ := blk2 hSw.1
    obtain ⟨r0, r1, r2, r3, r4⟩ := hSw.2.1.cells
    have hs5 := HCELL.out W hSw.2.2
    go_simp
    try with_reducible rfl
  try simp only [Act.put, List.setIfInBounds_toArray, List.set_cons_zero, List.set_cons_succ, List.getElem_toArray, List.getElem_cons_succ, List.getElem_cons_zero]
  refine u_one (i := 9) (by kernel_rfl) rfl (fun K hK => ?_)
  go_simp
  refine (specPut_any xd xl xc x _ (HLX.out _ hHeld.2.2) hxl hxc hxm).mono ?_
  rintro e v1 ⟨v, rfl, hop, hb⟩
  obtain ⟨A', c', rfl, -⟩ := o_val hop
  have N2 := Lib.hid (N1.out.drew.step hb)
  have R2 := Lib.hid (show HeldL v1 (_ ++ [⟨A', putW xl x, c'⟩]) (w.heap.size + 3) v1.heap.size from (N1.out.drew.r0.step hb (.inr (Nat.le_refl _))).snoc (HeldX.of (Sto.Held.of_own hop)) (by have := HZ.out; have := LZ.out; show w.heap.size + 3 ≤ V.heap.size; omega) (Nat.le_refl _) hb.size)
  have BV2 := Lib.hid (((Below.refl V.heap.size V).drew).trans hb)
  clear hop
  refine hK.out _ _ (fun _ => ?_) (fun hHeld0 => ?_)
  · exact ⟨hHeld.1.on hb, hHeld.2.1.on hb, hHeld.2.2.trans (hb.mono hHeld.2.2.size)⟩
  have hHeld := hHeld0 (by decide)
  clear hHeld0 hK K
  try simp only [Act.put, List.setIfInBounds_toArray, List.set_cons_zero, List.set_cons_succ, List.getElem_toArray, List.getElem_cons_succ, List.getElem_cons_zero]
  refine u_take (i := 10) (v := ?_) rfl (by kernel_rfl) (by kernel_rfl) (by kernel_rfl) (by kernel_rfl) (fun _ _ _ h => h) (Or.inl ⟨by rfl, ?_⟩) hHeld ?_
  rotate_left
  · intro W hSw
    obtain ⟨hs1, hs2⟩ := blk2 hSw.1
    obtain ⟨r0, r1, r2, r3, r4⟩ := hSw.2.1.cells
    have hs5 := HCELL.out W hSw.2.2
    go_simp
    try with_reducible rfl
  try simp only [Act.put, List.setIfInBounds_toArray, List.set_cons_zero, List.set_cons_succ, List.getElem_toArray, List.getElem_cons_succ, List.getElem_cons_zero]
  refine u_one (i := 11) (by kernel_rfl) rfl (fun K hK => ?_)
  have HX3 := Lib.hid hHeld.1
  obtain ⟨z0, z1⟩ := N2.out.cellS rfl hkm
  go_simp
  refine hK.out _ _ (fun h => absurd rfl h) (fun _ => ?_)
  clear hK K
  try simp only [Act.put, List.setIfInBounds_toArray, List.set_cons_zero, List.set_cons_succ, List.getElem_toArray, List.getElem_cons_succ, List.getElem_cons_zero]
  refine u_done (by kernel_rfl) ?_ _
  have hzz := HZ.out
  have N3 := Lib.hid (N2.out.putS rfl hkm R2.out)
  have X3 := Lib.hid (HX3.out.other (p := ⟨g, k, none⟩) (by show v0.heap.size ≠ g; omega) (.slice A' (putW xl x).length c'))
  have P3 := Lib.hid ((HP1.out.on BV2.out).other (p := ⟨g, k, none⟩) (by show w.heap.size + 2 ≠ g; omega) (.slice A' (putW xl x).length c'))
  have B3 := Lib.hid ((HB0.out.trans (BV2.out.mono HB0.out.size)).setCell (p := ⟨g, k, none⟩) (by show w.heap.size ≤ g; omega) (.slice A' (putW xl x).length c'))
  generalize v1.setCell ⟨g, k, none⟩ (.slice A' (putW xl x).length c') = w4 at N3 X3 P3 B3 ⊢
  obtain ⟨y0, y1⟩ := blk2 X3.out
  obtain ⟨q0, q1, q2⟩ := blk3 P3.out
  have g0 := P3.out.free 0
  have g1 := P3.out.free 1
  have g2 := P3.out.free 2
  have HE := Lib.hid (show (s1.set k ⟨A', putW xl x, c'⟩).length = s1.length from List.length_set)
  clear z0 z1 HX3
  go_wp2_with fail
  refine bodyPost_ret (v := Nt.out ⟨some ⟨g, 0, none⟩, s1.set k ⟨A', putW xl x, c'⟩, ca1, B1, m1, cb1⟩ 0) (by simp [results, Tryz.results104, go_sem, Nt.out, q0, q1, q2, HE.out]) rfl ?_
  refine AnsN.own ?_ ?_ ?_
  · exact (((N3.out.box P3.out (by decide) (by decide) (by decide) 0 _).box (P3.out.set 0 _ rfl) (by decide) (by decide) (by decide) 1 _).box ((P3.out.set 0 _ rfl).set 1 _ rfl) (by decide) (by decide) (by decide) 2 _).less (by omega)
  · rw [← HJP.out]; show (ps (s1.set k _), pm m1) = _; rw [ps_set]; rfl
  · exact ((B3.out.setCell (p := ⟨w.heap.size + 2, 0, none⟩) (by show w.heap.size ≤ w.heap.size + 2; omega) _).setCell (p := ⟨w.heap.size + 2, 1, none⟩) (by show w.heap.size ≤ w.heap.size + 2; omega) _).setCell (p := ⟨w.heap.size + 2, 2, none⟩) (by show w.heap.size ≤ w.heap.size + 2; omega) _
end Go.Proofs.YtoagdpbbojlgfaaGreat.Net

/-
  spec.NetPut.
-/
namespace Go.Proofs.YtoagdpbbojlgfaaGreat.Net
open Go.ChangeShapes Go.WideShapes Go.ChangeAt Go.RowKit
open Sto (R Sl flat putW rowB specPut_any)
set_option linter.unusedVariables false
set_option maxRecDepth 100000
set_option linter.unusedSimpArgs false

set_option maxHeartbeats 8000000 in
set_option maxRecDepth 100000 in
theorem specNetPut_any (n : Nt) (i : Int) (x : R) (w : World) (h : NLies w w.heap.size n) (hL : Little n) (hf : Sto.Fits x) :
    Calls Tryz.prog 15 #[n.val, .int .i64 i, x.val] w fun e w' => AnsN w e w' (nputP (pl n) i x) (nputC (pl n) i x) := by
  have hsl : n.s.length ≤ 1048576 := by have := hL.1; omega
  have hml : n.m.length ≤ 1048576 := by have := hL.1; omega
  have B0 := (((Below.refl w.heap.size w).alloc (Nat.le_refl _) (Obj.cells #[.slice n.A n.s.length n.ca, .slice n.B n.m.length n.cb] 35)).alloc (by simp) (Obj.cells #[.string x.k, .int .i64 x.i.c, .int .i64 x.i.s, .int .i64 x.i.e, .string x.b] 42)).alloc (by simp; omega) (Obj.cells #[.slice none 0 0, .slice none 0 0, .int .i64 0] 37)
  have p0 := ((Blk.new w 35 #[.slice n.A n.s.length n.ca, .slice n.B n.m.length n.cb]).alloc (Obj.cells #[.string x.k, .int .i64 x.i.c, .int .i64 x.i.s, .int .i64 x.i.e, .string x.b] 42)).alloc (Obj.cells #[.slice none 0 0, .slice none 0 0, .int .i64 0] 37)
  have p1 := (Blk.new (World.alloc w (Obj.cells #[.slice n.A n.s.length n.ca, .slice n.B n.m.length n.cb] 35)) 42 #[.string x.k, .int .i64 x.i.c, .int .i64 x.i.s, .int .i64 x.i.e, .string x.b]).alloc (Obj.cells #[.slice none 0 0, .slice none 0 0, .int .i64 0] 37)
  have p2 := Blk.new (World.alloc (World.alloc w (Obj.cells #[.slice n.A n.s.length n.ca, .slice n.B n.m.length n.cb] 35)) (Obj.cells #[.string x.k, .int .i64 x.i.c, .int .i64 x.i.s, .int .i64 x.i.e, .string x.b] 42)) 37 #[.slice none 0 0, .slice none 0 0, .int .i64 0]
  simp only [World.size_alloc] at p1 p2
  have hz : w.heap.size + 3 ≤ (World.alloc (World.alloc (World.alloc w (Obj.cells #[.slice n.A n.s.length n.ca, .slice n.B n.m.length n.cb] 35)) (Obj.cells #[.string x.k, .int .i64 x.i.c, .int .i64 x.i.s, .int .i64 x.i.e, .string x.b] 42)) (Obj.cells #[.slice none 0 0, .slice none 0 0, .int .i64 0] 37)).heap.size := by simp
  have HZ := Lib.hid hz
  have HB0 := Lib.hid B0
  have HP0 := Lib.hid p0
  have HPR := Lib.hid (show Sto.RowRow _ _ 42 x from p1)
  have HP1 := Lib.hid p2
  clear hz B0 p0 p1 p2
  have HRT := Lib.hid (fun W (hW : Below w.heap.size w W) => specRight_any n W (h.on hW) hL)
  have HRW := Lib.hid (fun W => Sto.specRow_any x W hf)
  cases hr : netB (pl n)
  · have HR := Lib.hid hr
    have hcm : nputC (pl n) i x = 1 := by unfold nputC; rw [if_neg (by rw [hr]; rintro ⟨h, _⟩; cases h)]
    have HGC := Lib.hid hcm
    have HGP := Lib.hid (show nputP (pl n) i x = ([], []) by unfold nputP; rw [hcm]; rfl)
    rw [HGC.out, HGP.out]
    clear hr h hL HGC HGP hcm hf
    unfold Nt.val at HRT ⊢
    unfold R.val at HRW ⊢
    go_enter Tryz.func15, Tryz.ntmps15
    go_wp2_with fail
    refine (HRT.out _ HB0.out).mono ?_
    rintro e w1 ⟨rfl, hb⟩
    rw [HR.out]
    have HB0 := Lib.hid (HB0.out.trans (hb.mono HB0.out.size))
    have HP0 := Lib.hid (HP0.out.on hb)
    have HPR := Lib.hid (HPR.out.on hb)
    have HP1 := Lib.hid (HP1.out.on hb)
    have HZ := Lib.hid (show w.heap.size + 3 ≤ w1.heap.size from by have := HZ.out; have := hb.size; omega)
    clear hb
    go_wp2_with fail
    refine (ill_any 1 _).mono ?_
    rintro e w3 ⟨rfl, hb⟩
    have HB0 := Lib.hid (HB0.out.trans (hb.mono HB0.out.size))
    have HP0 := Lib.hid (HP0.out.on hb)
    have HPR := Lib.hid (HPR.out.on hb)
    have HP1 := Lib.hid (HP1.out.on hb)
    have HZ := Lib.hid (show w.heap.size + 3 ≤ w3.heap.size from by have := HZ.out; have := hb.size; omega)
    clear hb
    obtain ⟨q0, q1, q2⟩ := blk3 HP1.out
    have g0 := HP1.out.free 0
    have g1 := HP1.out.free 1
    have g2 := HP1.out.free 2
    go_wp2_with fail
    refine bodyPost_ret (v := .agg #[.slice none 0 0, .slice none 0 0, .int .i64 1]) (by simp [results, Tryz.results15, go_sem, q0, q1, q2]) rfl ?_
    exact AnsN.ill (((HB0.out.setCell (p := ⟨w.heap.size + 2, 0, none⟩) (by show w.heap.size ≤ w.heap.size + 2; omega) _).setCell (p := ⟨w.heap.size + 2, 1, none⟩) (by show w.heap.size ≤ w.heap.size + 2; omega) _).setCell (p := ⟨w.heap.size + 2, 2, none⟩) (by show w.heap.size ≤ w.heap.size + 2; omega) _)
  have HR := Lib.hid hr
  cases hx : rowB x
  · have HX := Lib.hid hx
    have hcm : nputC (pl n) i x = 1 := by unfold nputC; rw [if_neg (by rw [hx]; rintro ⟨_, h⟩; cases h)]
    have HGC := Lib.hid hcm
    have HGP := Lib.hid (show nputP (pl n) i x = ([], []) by unfold nputP; rw [hcm]; rfl)
    rw [HGC.out, HGP.out]
    clear hr hx h hL HGC HGP hcm hf
    unfold Nt.val at HRT ⊢
    unfold R.val at HRW ⊢
    go_enter Tryz.func15, Tryz.ntmps15
    go_wp2_with fail
    refine (HRT.out _ HB0.out).mono ?_
    rintro e w1 ⟨rfl, hb⟩
    rw [HR.out]
    have HB0 := Lib.hid (HB0.out.trans (hb.mono HB0.out.size))
    have HP0 := Lib.hid (HP0.out.on hb)
    have HPR := Lib.hid (HPR.out.on hb)
    have HP1 := Lib.hid (HP1.out.on hb)
    have HZ := Lib.hid (show w.heap.size + 3 ≤ w1.heap.size from by have := HZ.out; have := hb.size; omega)
    clear hb
    obtain ⟨r0, r1, r2, r3, r4⟩ := HPR.out.cells
    go_wp2_with (fail)
    clear r0 r1 r2 r3 r4
    refine (HRW.out _).mono ?_
    rintro e w2 ⟨rfl, hb⟩
    rw [HX.out]
    have HB0 := Lib.hid (HB0.out.trans (hb.mono HB0.out.size))
    have HP0 := Lib.hid (HP0.out.on hb)
    have HPR := Lib.hid (HPR.out.on hb)
    have HP1 := Lib.hid (HP1.out.on hb)
    have HZ := Lib.hid (show w.heap.size + 3 ≤ w2.heap.size from by have := HZ.out; have := hb.size; omega)
    clear hb
    go_wp2_with fail
    refine (ill_any 1 _).mono ?_
    rintro e w3 ⟨rfl, hb⟩
    have HB0 := Lib.hid (HB0.out.trans (hb.mono HB0.out.size))
    have HP0 := Lib.hid (HP0.out.on hb)
    have HPR := Lib.hid (HPR.out.on hb)
    have HP1 := Lib.hid (HP1.out.on hb)
    have HZ := Lib.hid (show w.heap.size + 3 ≤ w3.heap.size from by have := HZ.out; have := hb.size; omega)
    clear hb
    obtain ⟨q0, q1, q2⟩ := blk3 HP1.out
    have g0 := HP1.out.free 0
    have g1 := HP1.out.free 1
    have g2 := HP1.out.free 2
    go_wp2_with fail
    refine bodyPost_ret (v := .agg #[.slice none 0 0, .slice none 0 0, .int .i64 1]) (by simp [results, Tryz.results15, go_sem, q0, q1, q2]) rfl ?_
    exact AnsN.ill (((HB0.out.setCell (p := ⟨w.heap.size + 2, 0, none⟩) (by show w.heap.size ≤ w.heap.size + 2; omega) _).setCell (p := ⟨w.heap.size + 2, 1, none⟩) (by show w.heap.size ≤ w.heap.size + 2; omega) _).setCell (p := ⟨w.heap.size + 2, 2, none⟩) (by show w.heap.size ≤ w.heap.size + 2; omega) _)
  have HX := Lib.hid hx
  have HPUT := Lib.hid (fun W (hW : Below w.heap.size w W) => specL06Put_any n i x W (h.on hW) hL hr hx)
  obtain ⟨jp, hjp⟩ : ∃ jp, nputP (pl n) i x = jp := ⟨_, rfl⟩
  obtain ⟨jc, hjc⟩ : ∃ jc, nputC (pl n) i x = jc := ⟨_, rfl⟩
  rw [hjp, hjc] at HPUT ⊢
  clear hr hx h hL hf hjp hjc
  unfold Nt.val R.val at HPUT
  unfold Nt.val at HRT ⊢
  unfold R.val at HRW ⊢
  go_enter Tryz.func15, Tryz.ntmps15
  go_wp2_with fail
  refine (HRT.out _ HB0.out).mono ?_
  rintro e w1 ⟨rfl, hb⟩
  rw [HR.out]
  have HB0 := Lib.hid (HB0.out.trans (hb.mono HB0.out.size))
  have HP0 := Lib.hid (HP0.out.on hb)
  have HPR := Lib.hid (HPR.out.on hb)
  have HP1 := Lib.hid (HP1.out.on hb)
  have HZ := Lib.hid (show w.heap.size + 3 ≤ w1.heap.size from by have := HZ.out; have := hb.size; omega)
  clear hb
  obtain ⟨r0, r1, r2, r3, r4⟩ := HPR.out.cells
  go_wp2_with (fail)
  clear r0 r1 r2 r3 r4
  refine (HRW.out _).mono ?_
  rintro e w2 ⟨rfl, hb⟩
  rw [HX.out]
  have HB0 := Lib.hid (HB0.out.trans (hb.mono HB0.out.size))
  have HP0 := Lib.hid (HP0.out.on hb)
  have HPR := Lib.hid (HPR.out.on hb)
  have HP1 := Lib.hid (HP1.out.on hb)
  have HZ := Lib.hid (show w.heap.size + 3 ≤ w2.heap.size from by have := HZ.out; have := hb.size; omega)
  clear hb
  obtain ⟨b0, b1⟩ := blk2 HP0.out
  obtain ⟨r0, r1, r2, r3, r4⟩ := HPR.out.cells
  go_wp2_with fail
  clear b0 b1 r0 r1 r2 r3 r4
  refine (HPUT.out _ HB0.out).mono ?_
  rintro e w3 ⟨n2, rfl, hp2, hh2, hb⟩
  have HH2 := Lib.hid hh2
  have HPP := Lib.hid hp2
  have hzw := HZ.out
  have HB0 := Lib.hid (HB0.out.trans (hb.mono HB0.out.size))
  have HP0 := Lib.hid (HP0.out.on hb)
  have HPR := Lib.hid (HPR.out.on hb)
  have HP1 := Lib.hid (HP1.out.on hb)
  have HZ := Lib.hid (show w.heap.size + 3 ≤ w3.heap.size from by have := HZ.out; have := hb.size; omega)
  clear hb
  obtain ⟨q0, q1, q2⟩ := blk3 HP1.out
  have g0 := HP1.out.free 0
  have g1 := HP1.out.free 1
  have g2 := HP1.out.free 2
  unfold Nt.out
  clear hh2 hp2
  go_wp2_with fail
  refine bodyPost_ret (v := Nt.out n2 jc) (by simp [results, Tryz.results15, go_sem, Nt.out, q0, q1, q2]) rfl ?_
  refine AnsN.put3 (a := w.heap.size + 3) (b := w.heap.size + 2) (HH2.out.wide hzw (Nat.le_refl _)) ?_ HB0.out (by omega) (by omega) (by omega) _ _ _
  exact HPP.out
end Go.Proofs.YtoagdpbbojlgfaaGreat.Net
