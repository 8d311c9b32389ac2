/-
  spec.l06Copy.
-/
import Derived.Test.YthagkjofpfafiaaNetICopy
namespace Go.Proofs.Ythagkjofpfafiaa.Net
open Go.ChangeShapes Go.WideShapes Go.ChangeAt Go.RowKit
open Sto (R Sl flat)
set_option linter.unusedVariables false
set_option maxRecDepth 100000
set_option linter.unusedSimpArgs false

theorem cl_rows {w : World} {B : Nat} {A : Option Addr} {l : List R} (h : Sto.Lies w B A l) : Cl w B A (flat l) := fun h0 => by
  have hl : 0 < l.length := by rw [Sto.flat_length] at h0; omega
  obtain ⟨ad, e, hb, _⟩ := h hl
  subst e
  exact ⟨ad, rfl, hb, fun j u hu => h.cell hu⟩

set_option maxHeartbeats 4000000 in
set_option maxRecDepth 100000 in
theorem specCopy_any (n : Nt) (w : World) (h : NLies w w.heap.size n) (hL : Little n) :
    Calls Try.prog 43 #[n.val] w fun e w' => AnsO w e w' (pl n) := by
  have hsl : n.s.length ≤ 1048576 := by have := hL.1; omega
  have hml : n.m.length ≤ 1048576 := by have := hL.1; omega
  have HT := Lib.hid (fun (x : Sl) (hx : x ∈ n.all) => show x.l.length ≤ 1048576 ∧ ∀ d ∈ x.l, d.k.size ≤ 1048576 ∧ d.b.size ≤ 1048576 from ⟨by have := tot_mem hx; have := hL.1; omega, hL.2 x hx⟩)
  have HS := Lib.hid h.1
  have HM := Lib.hid h.2
  have HTs := Lib.hid (fun (x : Sl) (hx : x ∈ n.s) => HT.out x (List.mem_append_left _ hx))
  have HTm := Lib.hid (fun (y : Ml) (hy : y ∈ n.m) => HT.out y.x (List.mem_append_right n.s (List.mem_map.2 ⟨y, hy, rfl⟩)))
  have HPL := Lib.hid (show pl n = (ps n.s, pm n.m) from rfl)
  clear h hL HT
  rw [HPL.out]
  clear HPL
  obtain ⟨A, s, ca, B, m, cb⟩ := n
  unfold Nt.val
  simp only at hsl hml HS HM HTs HTm ⊢
  have B0 := (((Below.refl w.heap.size w).alloc (Nat.le_refl _) (Obj.cells #[.slice A s.length ca, .slice B m.length cb] 31)).alloc (by simp) (Obj.cells #[.slice none 0 0, .slice none 0 0] 31)).alloc (by simp; omega) (Obj.cells #[.slice none 0 0, .slice none 0 0] 31)
  have p0 := ((Blk.new w 31 #[.slice A s.length ca, .slice B m.length cb]).alloc (Obj.cells #[.slice none 0 0, .slice none 0 0] 31)).alloc (Obj.cells #[.slice none 0 0, .slice none 0 0] 31)
  have p1 := (Blk.new (World.alloc w (Obj.cells #[.slice A s.length ca, .slice B m.length cb] 31)) 31 #[.slice none 0 0, .slice none 0 0]).alloc (Obj.cells #[.slice none 0 0, .slice none 0 0] 31)
  have p2 := Blk.new (World.alloc (World.alloc w (Obj.cells #[.slice A s.length ca, .slice B m.length cb] 31)) (Obj.cells #[.slice none 0 0, .slice none 0 0] 31)) 31 #[.slice none 0 0, .slice none 0 0]
  simp only [World.size_alloc] at p1 p2
  have hz : (World.alloc (World.alloc (World.alloc w (Obj.cells #[.slice A s.length ca, .slice B m.length cb] 31)) (Obj.cells #[.slice none 0 0, .slice none 0 0] 31)) (Obj.cells #[.slice none 0 0, .slice none 0 0] 31)).heap.size = w.heap.size + 3 := by simp
  have HN0 := Lib.hid (show NS w (World.alloc (World.alloc (World.alloc w (Obj.cells #[.slice A s.length ca, .slice B m.length cb] 31)) (Obj.cells #[.slice none 0 0, .slice none 0 0] 31)) (Obj.cells #[.slice none 0 0, .slice none 0 0] 31)) (w.heap.size + 3) [(w.heap.size, 31, #[.slice A s.length ca, .slice B m.length cb]), (w.heap.size + 1, 31, #[.slice none 0 0, .slice none 0 0])] (.slice none 0 0) (.slice none 0 0) [] [] from
    ⟨o_nil _ _ _ _, o_nil _ _ _ _, HeldL.nil _ _ _, fun p hp => by
      rcases List.mem_cons.1 hp with rfl | hp
      · exact p0
      · obtain rfl := List.mem_singleton.1 hp; exact p1, fun p hp => by
      rcases List.mem_cons.1 hp with rfl | hp
      · show w.heap.size < w.heap.size + 3; omega
      · obtain rfl := List.mem_singleton.1 hp; show w.heap.size + 1 < w.heap.size + 3; omega, B0, by omega, by rw [hz]; exact Nat.le_refl _⟩)
  have HX0 := Lib.hid p2
  clear B0 p0 p1 p2 hz
  go_enter Try.func43, Try.ntmps43
  go_wp2_with fail
  go_loopw [4] (fun i wr => ∃ k : Nat, k ≤ s.length ∧ i = .int .i64 k ∧ ∃ oS s', Hid (NS w wr (w.heap.size + 3) [(w.heap.size, 31, #[.slice A s.length ca, .slice B m.length cb]), (w.heap.size + 1, 31, #[.slice none 0 0, .slice none 0 0])] oS (.slice none 0 0) s' [] ∧ ps s' = ps (s.take k) ∧ Blk wr (w.heap.size + 2) 31 #[oS, .slice none 0 0])) (fun i _ => s.length - (intOf i).toNat)
  case atStart => exact ⟨0, by omega, rfl, .slice none 0 0, [], Lib.hid ⟨HN0.out, by simp [ps], HX0.out⟩⟩
  case round =>
    obtain ⟨k, hk, rfl, oS, s', HR⟩ := hrel
    have HLEN := Lib.hid (show s'.length = k by have := congrArg List.length HR.out.2.1; simpa [ps_len, Nat.min_eq_left hk] using this)
    obtain ⟨b0, b1⟩ := blk2 (fix_arg HR.out.1)
    simp only at b0 b1
    by_cases hlt : k < s.length
    · have hmem := List.getElem_mem hlt
      have hxl := (HTs.out s[k] hmem).1
      have HLX0 := Lib.hid (HS.out.2 s[k] hmem)
      have HC0 := Lib.hid (show ∀ W, Below w.heap.size w W → ∃ ad, A = some ad ∧ W.cell? (ad.add k) = some (.slice s[k].A s[k].l.length s[k].c) from fun W hW => by
        obtain ⟨ad, e, _, c0, _⟩ := (HS.out.below hW (Nat.le_refl _)).at_ hlt
        exact ⟨ad, e, c0⟩)
      obtain ⟨sd, rfl, _⟩ := HC0.out w (Below.refl _ _)
      have HJ := Lib.hid (ps_snoc s k hlt)
      clear hmem
      obtain ⟨x, hx⟩ : ∃ x, s[k] = x := ⟨_, rfl⟩
      rw [hx] at hxl HLX0 HC0 HJ
      clear hx
      obtain ⟨xA, xl, xc⟩ := x
      simp only at hxl HJ
      have HLX : Hid (∀ W, Below w.heap.size w W → Sto.Lies W W.heap.size xA xl) := Lib.hid fun W hW => (HLX0.out.below hW (Nat.le_refl _)).more hW.size
      have HCELL : Hid (∀ W, Below w.heap.size w W → W.cell? (sd.add k) = some (.slice xA xl.length xc)) := Lib.hid fun W hW => by
        obtain ⟨ad, e, hc⟩ := HC0.out W hW
        cases e
        exact hc
      have HN := Lib.hid HR.out.1
      have HX := Lib.hid HR.out.2.2
      have HPK := Lib.hid HR.out.2.1
      clear HR HLX0 HC0
      go_upto_region 5 with fail
      clear b0 b1
      refine u_begin (fun W => Blk W (w.heap.size + 2) 31 #[oS, .slice none 0 0] ∧ Blk W w.heap.size 31 #[.slice (some sd) s.length ca, .slice B m.length cb] ∧ Below w.heap.size w W) 12 (by kernel_rfl) ?_ (fun hHeld => ?_)
      · exact ⟨HX.out.drew, (fix_arg HN.out).drew, HN.out.bel.drew⟩
      refine u_take (i := 0) (v := ?_) rfl (by kernel_rfl) (by kernel_rfl) (by kernel_rfl) (by kernel_rfl) (fun _ _ _ h => h) (Or.inl ⟨by rfl, ?_⟩) hHeld ?_
      rotate_left
      · intro W hSw
        obtain ⟨hs1, hs2⟩ := blk2 hSw.1
        obtain ⟨hs3, hs4⟩ := blk2 hSw.2.1
        have hs5 := HCELL.out W hSw.2.2
        go_simp
        try with_reducible rfl
      try simp only [Act.put, List.setIfInBounds_toArray, List.set_cons_zero, List.set_cons_succ, List.getElem_toArray, List.getElem_cons_succ, List.getElem_cons_zero]
      refine u_take (i := 1) (v := ?_) rfl (by kernel_rfl) (by kernel_rfl) (by kernel_rfl) (by kernel_rfl) (fun _ _ _ h => h) (Or.inl ⟨by rfl, ?_⟩) hHeld ?_
      rotate_left
      · intro W hSw
        obtain ⟨hs1, hs2⟩ := blk2 hSw.1
        obtain ⟨hs3, hs4⟩ := blk2 hSw.2.1
        have hs5 := HCELL.out W hSw.2.2
        go_simp
        try with_reducible rfl
      try simp only [Act.put, List.setIfInBounds_toArray, List.set_cons_zero, List.set_cons_succ, List.getElem_toArray, List.getElem_cons_succ, List.getElem_cons_zero]
      refine u_take (i := 3) (v := ?_) rfl (by kernel_rfl) (by kernel_rfl) (by kernel_rfl) (by kernel_rfl) (fun _ _ _ h => h) (Or.inl ⟨by rfl, ?_⟩) hHeld ?_
      rotate_left
      · intro W hSw
        obtain ⟨hs1, hs2⟩ := blk2 hSw.1
        obtain ⟨hs3, hs4⟩ := blk2 hSw.2.1
        have hs5 := HCELL.out W hSw.2.2
        go_simp
        try with_reducible rfl
      try simp only [Act.put, List.setIfInBounds_toArray, List.set_cons_zero, List.set_cons_succ, List.getElem_toArray, List.getElem_cons_succ, List.getElem_cons_zero]
      refine u_take (i := 4) (v := ?_) rfl (by kernel_rfl) (by kernel_rfl) (by kernel_rfl) (by kernel_rfl) (fun _ _ _ h => h) (Or.inl ⟨by rfl, ?_⟩) hHeld ?_
      rotate_left
      · intro W hSw
        obtain ⟨hs1, hs2⟩ := blk2 hSw.1
        obtain ⟨hs3, hs4⟩ := blk2 hSw.2.1
        have hs5 := HCELL.out W hSw.2.2
        go_simp
        try with_reducible rfl
      try simp only [Act.put, List.setIfInBounds_toArray, List.set_cons_zero, List.set_cons_succ, List.getElem_toArray, List.getElem_cons_succ, List.getElem_cons_zero]
      refine u_take (i := 5) (v := ?_) rfl (by kernel_rfl) (by kernel_rfl) (by kernel_rfl) (by kernel_rfl) (fun _ _ _ h => h) (Or.inl ⟨by rfl, ?_⟩) hHeld ?_
      rotate_left
      · intro W hSw
        obtain ⟨hs1, hs2⟩ := blk2 hSw.1
        obtain ⟨hs3, hs4⟩ := blk2 hSw.2.1
        have hs5 := HCELL.out W hSw.2.2
        go_simp
        try with_reducible rfl
      try simp only [Act.put, List.setIfInBounds_toArray, List.set_cons_zero, List.set_cons_succ, List.getElem_toArray, List.getElem_cons_succ, List.getElem_cons_zero]
      refine u_take (i := 6) (v := ?_) rfl (by kernel_rfl) (by kernel_rfl) (by kernel_rfl) (by kernel_rfl) (fun _ _ _ h => h) (Or.inl ⟨by rfl, ?_⟩) hHeld ?_
      rotate_left
      · intro W hSw
        obtain ⟨hs1, hs2⟩ := blk2 hSw.1
        obtain ⟨hs3, hs4⟩ := blk2 hSw.2.1
        have hs5 := HCELL.out W hSw.2.2
        go_simp
        try with_reducible rfl
      try simp only [Act.put, List.setIfInBounds_toArray, List.set_cons_zero, List.set_cons_succ, List.getElem_toArray, List.getElem_cons_succ, List.getElem_cons_zero]
      refine u_take (i := 7) (v := ?_) rfl (by kernel_rfl) (by kernel_rfl) (by kernel_rfl) (by kernel_rfl) (fun _ _ _ h => h) (Or.inl ⟨by rfl, ?_⟩) hHeld ?_
      rotate_left
      · intro W hSw
        obtain ⟨hs1, hs2⟩ := blk2 hSw.1
        obtain ⟨hs3, hs4⟩ := blk2 hSw.2.1
        have hs5 := HCELL.out W hSw.2.2
        go_simp
        try with_reducible rfl
      try simp only [Act.put, List.setIfInBounds_toArray, List.set_cons_zero, List.set_cons_succ, List.getElem_toArray, List.getElem_cons_succ, List.getElem_cons_zero]
      refine u_one (i := 2) (by kernel_rfl) rfl (fun K hK => ?_)
      have hQ1 := Lib.hid hHeld
      go_simp
      refine hK.out _ _ (fun _ => ?_) (fun hHeld0 => ?_)
      · exact ⟨hHeld.1.alloc _, hHeld.2.1.alloc _, hHeld.2.2.alloc hHeld.2.2.size _⟩
      have hHeld := hHeld0 (by decide)
      clear hHeld0 hK K
      try simp only [Act.put, List.setIfInBounds_toArray, List.set_cons_zero, List.set_cons_succ, List.getElem_toArray, List.getElem_cons_succ, List.getElem_cons_zero]
      refine u_one (i := 8) (by kernel_rfl) rfl (fun K hK => ?_)
      have hX1 := Lib.hid hHeld
      refine Dep.wanted_in (by rfl) ?_
      refine wp_app fit_rows rfl rfl (flat xl) rfl rfl (o_none wr.drew 62 5) (cl_rows (HLX.out _ hX1.out.2.2)) (Sto.flat_length _) (Sto.flat_one _) (by omega) (by simp) ?_
      intro v1 w1 ho hg hn
      rw [Nat.zero_add, List.nil_append] at ho
      obtain ⟨A', c', rfl, -⟩ := o_val ho
      have hbb := Lib.hid (((Below.refl wr.heap.size wr).drew.alloc (Nat.le_refl _) (Obj.cells #[] 62)).grown hg (by simp) (fun k e => by cases e; exact Nat.le_refl _))
      have N1 := Lib.hid (HN.out.step hbb.out)
      have R1 := Lib.hid (show HeldL w1 (s' ++ [⟨A', xl, c'⟩]) (w.heap.size + 3) w1.heap.size from (HN.out.r1.step hbb.out (.inr (Nat.le_refl _))).snoc (HeldX.of (Sto.Held.of_own ho)) HN.out.hs (Nat.le_refl _) hbb.out.size)
      have hxa := HX.out.on hbb.out
      have hxc := (fix_arg HN.out).on hbb.out
      clear ho hg hn hX1
      refine hK.out _ _ (fun _ => ?_) (fun hHeld0 => ?_)
      · exact ⟨hxa, hxc, N1.out.bel⟩
      have hHeld := hHeld0 (by decide)
      clear hHeld0 hK K
      try simp only [Act.put, List.setIfInBounds_toArray, List.set_cons_zero, List.set_cons_succ, List.getElem_toArray, List.getElem_cons_succ, List.getElem_cons_zero]
      refine u_one (i := 9) (by kernel_rfl) rfl (fun K hK => ?_)
      have N2 := Lib.hid (N1.out.alloc (Obj.cells #[.slice A' xl.length c'] 49))
      have R2 := Lib.hid (show HeldL (w1.alloc (Obj.cells #[.slice A' xl.length c'] 49)) (s' ++ [⟨A', xl, c'⟩]) (w.heap.size + 3) (w1.alloc (Obj.cells #[.slice A' xl.length c'] 49)).heap.size from (R1.out.step ((Below.refl _ w1).alloc (Nat.le_refl _) (Obj.cells #[.slice A' xl.length c'] 49)) (.inr (Nat.le_refl _))).wide (Nat.le_refl _) (by simp))
      go_simp
      refine hK.out _ _ (fun _ => ?_) (fun hHeld0 => ?_)
      · exact ⟨hHeld.1.alloc _, hHeld.2.1.alloc _, hHeld.2.2.alloc hHeld.2.2.size _⟩
      have hHeld := hHeld0 (by decide)
      clear hHeld0 hK K
      try simp only [Act.put, List.setIfInBounds_toArray, List.set_cons_zero, List.set_cons_succ, List.getElem_toArray, List.getElem_cons_succ, List.getElem_cons_zero]
      refine u_one (i := 10) (by kernel_rfl) rfl (fun K hK => ?_)
      have hX2 := Lib.hid hHeld
      refine Dep.wanted_in (by rfl) ?_
      refine wp_app fit_stores rfl rfl (sv [⟨A', xl, c'⟩]) rfl rfl N2.out.s0 (cl_one_at _ _ #[.slice A' xl.length c'] rfl) rfl (sv_one _) (by have := HLEN.out; omega) N2.out.hs ?_
      intro v2 w2 ho2 hg2 hn2
      obtain ⟨A2, c2, rfl, -⟩ := o_val ho2
      have N3 := Lib.hid (N2.out.addS R2.out ho2 hg2)
      have hxb := grown_out N2.out.s0 hg2 (by omega) hX2.out.1
      clear ho2 hg2 hn2 hX2
      refine hK.out _ _ (fun _ => ?_) (fun hHeld0 => ?_)
      · exact ⟨hxb, fix_arg N3.out, N3.out.bel⟩
      have hHeld := hHeld0 (by decide)
      clear hHeld0 hK K
      try simp only [Act.put, List.setIfInBounds_toArray, List.set_cons_zero, List.set_cons_succ, List.getElem_toArray, List.getElem_cons_succ, List.getElem_cons_zero]
      refine u_take (i := 11) (v := ?_) rfl (by kernel_rfl) (by kernel_rfl) (by kernel_rfl) (by kernel_rfl) (fun _ _ _ h => h) (Or.inl ⟨by rfl, ?_⟩) hHeld ?_
      rotate_left
      · intro W hSw
        obtain ⟨hs1, hs2⟩ := blk2 hSw.1
        obtain ⟨hs3, hs4⟩ := blk2 hSw.2.1
        have hs5 := HCELL.out W hSw.2.2
        go_simp
        try with_reducible rfl
      try simp only [Act.put, List.setIfInBounds_toArray, List.set_cons_zero, List.set_cons_succ, List.getElem_toArray, List.getElem_cons_succ, List.getElem_cons_zero]
      refine u_one (i := 12) (by kernel_rfl) rfl (fun K hK => ?_)
      obtain ⟨z0, z1⟩ := blk2 hHeld.1
      have zf := hHeld.1.free 0
      have HX3 := Lib.hid hHeld.1
      go_simp
      refine hK.out _ _ (fun h => absurd rfl h) (fun _ => ?_)
      clear hK K
      try simp only [Act.put, List.setIfInBounds_toArray, List.set_cons_zero, List.set_cons_succ, List.getElem_toArray, List.getElem_cons_succ, List.getElem_cons_zero]
      refine u_done (by kernel_rfl) ?_ _
      clear z0 z1 zf hHeld
      go_wp2_with fail
      go_roundw
      case rel =>
        refine ⟨k + 1, by omega, by go_num, _, s' ++ [⟨A', xl, c'⟩], Lib.hid ⟨N3.out.out rfl rfl 0 _, ?_, out_set HX3.out⟩⟩
        rw [HJ.out, ← HPK.out]; unfold ps; rw [List.map_append]; rfl
      case measure => simp [intOf]; omega
    · have HPS := Lib.hid (show ps s' = ps s by rw [HR.out.2.1, List.take_of_length_le (by omega)])
      have HN1 := Lib.hid HR.out.1
      have HX1 := Lib.hid HR.out.2.2
      clear HR HLEN HN0 HX0
      go_wp2_with fail
      clear b0 b1
      go_loopw [5] (fun i wr => ∃ k : Nat, k ≤ m.length ∧ i = .int .i64 k ∧ ∃ oM m', Hid (NS w wr (w.heap.size + 3) [(w.heap.size, 31, #[.slice A s.length ca, .slice B m.length cb]), (w.heap.size + 1, 31, #[.slice none 0 0, .slice none 0 0])] oS oM s' m' ∧ pm m' = pm (m.take k) ∧ Blk wr (w.heap.size + 2) 31 #[oS, oM])) (fun i _ => m.length - (intOf i).toNat)
      case atStart => exact ⟨0, by omega, rfl, .slice none 0 0, [], Lib.hid ⟨HN1.out, by simp [pm], HX1.out⟩⟩
      case round =>
      obtain ⟨k, hk, rfl, oM, m', HR⟩ := hrel
      have HLEN := Lib.hid (show m'.length = k by have := congrArg List.length HR.out.2.1; simpa [pm_len, Nat.min_eq_left hk] using this)
      obtain ⟨b0, b1⟩ := blk2 (fix_arg HR.out.1)
      simp only at b0 b1
      by_cases hlt : k < m.length
      · have hmem := List.getElem_mem hlt
        have hyl := (HTm.out m[k] hmem).1
        have HLY0 := Lib.hid (HM.out.2 m[k] hmem)
        obtain ⟨sd, rfl, _, ⟨c0, c1, c2⟩, -⟩ := (HM.out.below HR.out.1.bel (Nat.le_refl _)).at_ hlt
        have HJ := Lib.hid (pm_snoc m k hlt)
        clear hmem
        obtain ⟨x, hx⟩ : ∃ x, m[k] = x := ⟨_, rfl⟩
        rw [hx] at c0 c1 c2 hyl HLY0 HJ
        clear hx
        obtain ⟨yf, yt, yA, yl, yc⟩ := x
        simp only at c0 c1 c2 hyl HJ
        have HLY : Hid (∀ W, Below w.heap.size w W → Sto.Lies W W.heap.size yA yl) := Lib.hid fun W hW => (HLY0.out.below hW (Nat.le_refl _)).more hW.size
        have HN := Lib.hid HR.out.1
        have HX := Lib.hid HR.out.2.2
        have HPK := Lib.hid HR.out.2.1
        have hwz := HR.out.1.hs
        have LB1 := Lib.hid (Blk.new wr 51 #[.int .i64 yf, .int .i64 yt, .slice yA yl.length yc])
        have HBR := Lib.hid (((Below.refl wr.heap.size wr).alloc (Nat.le_refl _) (Obj.cells #[.int .i64 yf, .int .i64 yt, .slice yA yl.length yc] 51)).alloc (by simp) (Obj.cells #[] 62))
        have BW1 := Lib.hid (HR.out.1.bel.trans (HBR.out.mono HR.out.1.bel.size))
        have hon := o_none (World.alloc wr (Obj.cells #[.int .i64 yf, .int .i64 yt, .slice yA yl.length yc] 51)) 62 5
        rw [World.size_alloc] at hon
        clear HR HLY0
        go_upto_region 11 with (at_builtin; refine wpList_app fit_rows rfl rfl rfl (flat yl) rfl rfl hon (cl_rows (HLY.out _ BW1.out)) (Sto.flat_length _) (Sto.flat_one _) (by omega) (by simp) ?_; intro v1 w2 ho hg hn; rw [Nat.zero_add, List.nil_append] at ho; obtain ⟨A', c', rfl, -⟩ := o_val ho; have BW2 := Lib.hid (HBR.out.grown hg (by simp; omega) (fun k e => by cases e; exact Nat.le_succ _)); have LB2 := Lib.hid (show Blk w2 wr.heap.size 51 #[.int .i64 yf, .int .i64 yt, .slice yA yl.length yc] from (hg.block _ (LB1.out.alloc (Obj.cells #[] 62)).lt (fun e => by injection e with e; exact absurd (show wr.heap.size = wr.heap.size + 1 from e) (by omega))).trans (LB1.out.alloc (Obj.cells #[] 62))); have HX2 := Lib.hid (show HeldX w2 ⟨A', yl, c'⟩ (wr.heap.size + 1) w2.heap.size from HeldX.of (Sto.Held.of_own ho)); obtain ⟨l0, l1, l2⟩ := blk3 LB2.out; have lf := LB2.out.free 2; clear ho hg hn)
        clear l0 l1 l2 lf b0 b1 c0 c1 c2 hon
        have LB3 := Lib.hid (show Blk (w2.setCell ⟨wr.heap.size, 2, none⟩ (.slice A' yl.length c')) wr.heap.size 51 #[.int .i64 yf, .int .i64 yt, .slice A' yl.length c'] from LB2.out.set 2 (.slice A' yl.length c') rfl)
        have BW3 := Lib.hid (BW2.out.setCell (p := ⟨wr.heap.size, 2, none⟩) (Nat.le_refl _) (.slice A' yl.length c'))
        have HX3 := Lib.hid (show HeldX (w2.setCell ⟨wr.heap.size, 2, none⟩ (.slice A' yl.length c')) ⟨A', yl, c'⟩ (wr.heap.size + 1) (w2.setCell ⟨wr.heap.size, 2, none⟩ (.slice A' yl.length c')).heap.size from by
          rw [World.size_setCell]
          exact HX2.out.above ((Above.refl (wr.heap.size + 1) w2).set (p := ⟨wr.heap.size, 2, none⟩) (Nat.lt_succ_self _) _))
        generalize w2.setCell ⟨wr.heap.size, 2, none⟩ (.slice A' yl.length c') = w3 at LB3 BW3 HX3 ⊢
        have N3 := Lib.hid (HN.out.step BW3.out)
        have X3 := Lib.hid (HX.out.on BW3.out)
        have R3 := Lib.hid (show HeldL w3 ((s' ++ m'.map (fun y => y.x)) ++ [⟨A', yl, c'⟩]) (w.heap.size + 3) w3.heap.size from (HN.out.r0.step BW3.out (.inr (Nat.le_refl _))).snoc HX3.out (by omega) (by omega) BW3.out.size)
        obtain ⟨x0, x1⟩ := blk2 X3.out
        obtain ⟨l0, l1, l2⟩ := blk3 LB3.out
        clear LB2 BW2 HX2 LB1 HBR BW1
        go_wp2_with (at_builtin; refine wpList_app fit_letters rfl rfl rfl (mv [⟨yf, yt, ⟨A', yl, c'⟩⟩]) rfl rfl (o_alloc N3.out.m0 (Obj.cells #[.int .i64 yf, .int .i64 yt, .slice A' yl.length c'] 51)) (cl_one_at _ _ #[.int .i64 yf, .int .i64 yt, .slice A' yl.length c'] rfl) rfl (mv_one _) (by have := HLEN.out; omega) (by have := N3.out.hs; simp; omega) ?_; intro v2 w4 ho2 hg2 hn2; obtain ⟨A2, c2, rfl, -⟩ := o_val ho2; have N4 := Lib.hid ((N3.out.alloc (Obj.cells #[.int .i64 yf, .int .i64 yt, .slice A' yl.length c'] 51)).addM (y := ⟨yf, yt, ⟨A', yl, c'⟩⟩) ((R3.out.step ((Below.refl _ w3).alloc (Nat.le_refl _) (Obj.cells #[.int .i64 yf, .int .i64 yt, .slice A' yl.length c'] 51)) (.inr (Nat.le_refl _))).wide (Nat.le_refl _) (by simp)) ho2 hg2); have X4 := Lib.hid (grown_out (o_alloc N3.out.m0 (Obj.cells #[.int .i64 yf, .int .i64 yt, .slice A' yl.length c'] 51)) hg2 (by omega) (X3.out.alloc (Obj.cells #[.int .i64 yf, .int .i64 yt, .slice A' yl.length c'] 51))); obtain ⟨z0, z1⟩ := blk2 X4.out; have zf := X4.out.free 1; clear ho2 hg2 hn2)
        clear x0 x1 l0 l1 l2 z0 z1 zf
        go_roundw
        case rel =>
          refine ⟨k + 1, by omega, by go_num, _, m' ++ [⟨yf, yt, ⟨A', yl, c'⟩⟩], Lib.hid ⟨N4.out.out rfl rfl 1 _, ?_, out_set1 X4.out⟩⟩
          rw [HJ.out, ← HPK.out]; unfold pm; rw [List.map_append]; rfl
        case measure => simp [intOf]; omega
      rw [List.take_of_length_le (by omega)] at HR
      clear HLEN
      obtain ⟨n', e1, e2, e3, e4, hown⟩ := HR.out.1.net
      subst e1 e2 e3 e4
      have HOW := Lib.hid hown
      have HPM := Lib.hid HR.out.2.1
      have HBL := Lib.hid HR.out.1.bel
      obtain ⟨r0, r1⟩ := blk2 (fix_res HR.out.1)
      obtain ⟨x0, x1⟩ := blk2 HR.out.2.2
      have f0 := (fix_res HR.out.1).free 0
      have f1 := (fix_res HR.out.1).free 1
      simp only at r0 r1 f0 f1
      clear HR hown
      go_wp2_with fail
      refine bodyPost_ret (v := n'.val) (by simp [results, Try.results43, go_sem, Nt.val, r0, r1]) rfl ⟨n', rfl, ?_, ?_, ?_⟩
      · unfold pl; rw [HPS.out, HPM.out]
      · exact ((HOW.out.set (p := ⟨w.heap.size + 1, 0, none⟩) (by show w.heap.size + 1 < w.heap.size + 3; omega) _).set (p := ⟨w.heap.size + 1, 1, none⟩) (by show w.heap.size + 1 < w.heap.size + 3; omega) _).less (by omega)
      · exact (HBL.out.setCell (p := ⟨w.heap.size + 1, 0, none⟩) (by show w.heap.size ≤ w.heap.size + 1; omega) _).setCell (p := ⟨w.heap.size + 1, 1, none⟩) (by show w.heap.size ≤ w.heap.size + 1; omega) _
end Go.Proofs.Ythagkjofpfafiaa.Net
