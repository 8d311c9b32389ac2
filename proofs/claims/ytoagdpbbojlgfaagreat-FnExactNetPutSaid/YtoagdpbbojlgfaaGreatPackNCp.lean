/-
  Several texts in one: NetICopy, NetSCopy, NetIWith.
-/
import Derived.Test.YtoagdpbbojlgfaaGreatNetOwn
import Derived.Test.YtoagdpbbojlgfaaGreatNetNewSt
import Derived.Test.YtoagdpbbojlgfaaGreatNetRegU
import Derived.Test.YtoagdpbbojlgfaaGreatPackNFw
import Derived.Test.YtoagdpbbojlgfaaGreatDepAll
import Derived.Test.YtoagdpbbojlgfaaGreatNetAll
/-
  impl.newNet.
-/
namespace Go.Proofs.YtoagdpbbojlgfaaGreat.Net
open Go.ChangeShapes Go.WideShapes Go.ChangeAt Go.RowKit
open Sto (R Sl flat)
set_option linter.unusedVariables false
set_option maxRecDepth 100000
set_option linter.unusedSimpArgs false

theorem fix_arg {w W : World} {base : Nat} {p q : Nat × Nat × Array Value} {oS oM : Value} {s : List Sl} {m : List Ml} (h : NS w W base [p, q] oS oM s m) : Blk W p.1 p.2.1 p.2.2 := h.fix p (by simp)
theorem fix_res {w W : World} {base : Nat} {p q : Nat × Nat × Array Value} {oS oM : Value} {s : List Sl} {m : List Ml} (h : NS w W base [p, q] oS oM s m) : Blk W q.1 q.2.1 q.2.2 := h.fix q (by simp)
theorem o_lt {w : World} {base te size n : Nat} {v : Value} {xs : List Value} (h : w.ownsRow base te size v n xs) : ∀ k, v.ownBlock = some k → k < w.heap.size := by
  rcases h.2 with ⟨rfl, _⟩ | ⟨g, cap, cur, rfl, hb, hh, _⟩
  · intro k e; cases e
  · intro k e; cases e; exact (Array.getElem?_eq_some_iff.1 hh).1
theorem out_set {w W : World} {t : Nat} {a b v : Value} (h : Blk W (w.heap.size + 2) t #[a, b]) : Blk (W.setCell ⟨w.heap.size + 2, 0, none⟩ v) (w.heap.size + 2) t #[v, b] := h.set 0 v rfl
theorem out_set1 {w W : World} {t : Nat} {a b v : Value} (h : Blk W (w.heap.size + 2) t #[a, b]) : Blk (W.setCell ⟨w.heap.size + 2, 1, none⟩ v) (w.heap.size + 2) t #[a, v] := h.set 1 v rfl
theorem NS.out {w W : World} {p q : Nat × Nat × Array Value} {oS oM : Value} {s : List Sl} {m : List Ml} (h : NS w W (w.heap.size + 3) [p, q] oS oM s m) (hp : p.1 = w.heap.size) (hq : q.1 = w.heap.size + 1) (i : Nat) (u : Value) : NS w (W.setCell ⟨w.heap.size + 2, i, none⟩ u) (w.heap.size + 3) [p, q] oS oM s m :=
  h.set (p := ⟨w.heap.size + 2, i, none⟩) (by show w.heap.size + 2 < w.heap.size + 3; omega) (by show w.heap.size ≤ w.heap.size + 2; omega) (fun r hr => by
    rcases List.mem_cons.1 hr with rfl | hr
    · show r.1 ≠ w.heap.size + 2; omega
    · obtain rfl := List.mem_singleton.1 hr; show r.1 ≠ w.heap.size + 2; omega) u
theorem NS.r1 {w W : World} {base : Nat} {fx : Fx} {oS oM : Value} {s : List Sl} (h : NS w W base fx oS oM s []) : HeldL W s base W.heap.size := by simpa using h.r0
theorem grown_out {W W1 : World} {base te size n b t : Nat} {v : Value} {xs : List Value} {cs : Array Value} (ho : W.ownsRow base te size v n xs) (hg : W.grownBy W1 v.ownBlock) (hb : b < base) (h : Blk W b t cs) : Blk W1 b t cs :=
  (hg.block b h.lt (fun e => by have := o_base ho b e.symm; omega)).trans h

theorem pm_snoc (m : List Ml) (k : Nat) (h : k < m.length) : pm (m.take (k + 1)) = pm (m.take k) ++ [⟨m[k].f, m[k].t, m[k].x.l⟩] := by rw [take_snoc m k h]; unfold pm; rw [List.map_append]; rfl

set_option maxHeartbeats 4000000 in
set_option maxRecDepth 100000 in
theorem newNet_any (n : Nt) (w : World) (h : NLies w w.heap.size n) (hL : Little n) :
    Calls Tryz.prog 111 #[n.val] w fun e w' => AnsO w e w' (pl n) := by
  have hsl : n.s.length ≤ 1048576 := by have := hL.1; omega
  have hml : n.m.length ≤ 1048576 := by have := hL.1; omega
  have HT := Lib.hid (fun (x : Sl) (hx : x ∈ n.all) => show x.l.length ≤ 1048576 ∧ ∀ d ∈ x.l, d.k.size ≤ 1048576 ∧ d.b.size ≤ 1048576 from ⟨by have := tot_mem hx; have := hL.1; omega, hL.2 x hx⟩)
  have HS := Lib.hid h.1
  have HM := Lib.hid h.2
  have HTs := Lib.hid (fun (x : Sl) (hx : x ∈ n.s) => HT.out x (List.mem_append_left _ hx))
  have HTm := Lib.hid (fun (y : Ml) (hy : y ∈ n.m) => HT.out y.x (List.mem_append_right n.s (List.mem_map.2 ⟨y, hy, rfl⟩)))
  have HPL := Lib.hid (show pl n = (ps n.s, pm n.m) from rfl)
  clear h hL HT
  rw [HPL.out]
  clear HPL
  obtain ⟨A, s, ca, B, m, cb⟩ := n
  unfold Nt.val
  simp only at hsl hml HS HM HTs HTm ⊢
  have B0 := (((Below.refl w.heap.size w).alloc (Nat.le_refl _) (Obj.cells #[.slice A s.length ca, .slice B m.length cb] 35)).alloc (by simp) (Obj.cells #[.slice none 0 0, .slice none 0 0] 35)).alloc (by simp; omega) (Obj.cells #[.slice none 0 0, .slice none 0 0] 35)
  have p0 := ((Blk.new w 35 #[.slice A s.length ca, .slice B m.length cb]).alloc (Obj.cells #[.slice none 0 0, .slice none 0 0] 35)).alloc (Obj.cells #[.slice none 0 0, .slice none 0 0] 35)
  have p1 := (Blk.new (World.alloc w (Obj.cells #[.slice A s.length ca, .slice B m.length cb] 35)) 35 #[.slice none 0 0, .slice none 0 0]).alloc (Obj.cells #[.slice none 0 0, .slice none 0 0] 35)
  have p2 := Blk.new (World.alloc (World.alloc w (Obj.cells #[.slice A s.length ca, .slice B m.length cb] 35)) (Obj.cells #[.slice none 0 0, .slice none 0 0] 35)) 35 #[.slice none 0 0, .slice none 0 0]
  simp only [World.size_alloc] at p1 p2
  have hz : (World.alloc (World.alloc (World.alloc w (Obj.cells #[.slice A s.length ca, .slice B m.length cb] 35)) (Obj.cells #[.slice none 0 0, .slice none 0 0] 35)) (Obj.cells #[.slice none 0 0, .slice none 0 0] 35)).heap.size = w.heap.size + 3 := by simp
  have HN0 := Lib.hid (show NS w (World.alloc (World.alloc (World.alloc w (Obj.cells #[.slice A s.length ca, .slice B m.length cb] 35)) (Obj.cells #[.slice none 0 0, .slice none 0 0] 35)) (Obj.cells #[.slice none 0 0, .slice none 0 0] 35)) (w.heap.size + 3) [(w.heap.size, 35, #[.slice A s.length ca, .slice B m.length cb]), (w.heap.size + 1, 35, #[.slice none 0 0, .slice none 0 0])] (.slice none 0 0) (.slice none 0 0) [] [] from
    ⟨o_nil _ _ _ _, o_nil _ _ _ _, HeldL.nil _ _ _, fun p hp => by
      rcases List.mem_cons.1 hp with rfl | hp
      · exact p0
      · obtain rfl := List.mem_singleton.1 hp; exact p1, fun p hp => by
      rcases List.mem_cons.1 hp with rfl | hp
      · show w.heap.size < w.heap.size + 3; omega
      · obtain rfl := List.mem_singleton.1 hp; show w.heap.size + 1 < w.heap.size + 3; omega, B0, by omega, by rw [hz]; exact Nat.le_refl _⟩)
  have HX0 := Lib.hid p2
  clear B0 p0 p1 p2 hz
  have HCs := Lib.hid (fun (x : Sl) (hx : x ∈ s) W (hW : Below w.heap.size w W) => newStore_any x.A x.l x.c W (((HS.out.2 x hx).below hW (Nat.le_refl _)).more hW.size) (HTs.out x hx).1 (HTs.out x hx).2)
  have HCm := Lib.hid (fun (y : Ml) (hy : y ∈ m) W (hW : Below w.heap.size w W) => newMail_any y.f y.t y.x.A y.x.l y.x.c W (((HM.out.2 y hy).below hW (Nat.le_refl _)).more hW.size) (HTm.out y hy).1 (HTm.out y hy).2)
  clear HTs HTm
  go_enter Tryz.func111, Tryz.ntmps111
  go_wp2_with fail
  go_loopw [11] (fun i wr => ∃ k : Nat, k ≤ s.length ∧ i = .int .i64 k ∧ ∃ oS s', Hid (NS w wr (w.heap.size + 3) [(w.heap.size, 35, #[.slice A s.length ca, .slice B m.length cb]), (w.heap.size + 1, 35, #[.slice none 0 0, .slice none 0 0])] oS (.slice none 0 0) s' [] ∧ ps s' = ps (s.take k) ∧ Blk wr (w.heap.size + 2) 35 #[oS, .slice none 0 0])) (fun i _ => s.length - (intOf i).toNat)
  case atStart => exact ⟨0, by omega, rfl, .slice none 0 0, [], Lib.hid ⟨HN0.out, by simp [ps], HX0.out⟩⟩
  case round =>
    obtain ⟨k, hk, rfl, oS, s', HR⟩ := hrel
    have HLEN := Lib.hid (show s'.length = k by have := congrArg List.length HR.out.2.1; simpa [ps_len, Nat.min_eq_left hk] using this)
    by_cases hlt : k < s.length
    · have hmem := List.getElem_mem hlt
      have HCx := Lib.hid (HCs.out s[k] hmem)
      obtain ⟨sd, rfl, _, c0, -⟩ := (HS.out.below HR.out.1.bel (Nat.le_refl _)).at_ hlt
      have HJ := Lib.hid (ps_snoc s k hlt)
      clear hmem
      obtain ⟨x, hx⟩ : ∃ x, s[k] = x := ⟨_, rfl⟩
      rw [hx] at c0 HCx HJ
      clear hx
      obtain ⟨xA, xl, xc⟩ := x
      have HC : Hid (∀ W, Below w.heap.size w W → Calls Tryz.prog 122 #[.slice xA xl.length xc] W fun e w' => ∃ A' c', e = .returned (.slice A' xl.length c') ∧ w'.ownsRow W.heap.size 42 5 (.slice A' xl.length c') xl.length (flat xl) ∧ Below W.heap.size W w') := HCx
      simp only at c0 HJ
      have HN := Lib.hid HR.out.1
      have HX := Lib.hid HR.out.2.2
      have HPK := Lib.hid HR.out.2.1
      clear HR HCx
      go_upto_region 5 with fail
      clear c0
      refine u_begin (fun W => Blk W (w.heap.size + 2) 35 #[oS, .slice none 0 0]) 7 (by kernel_rfl) ?_ (fun hHeld => ?_)
      · exact HX.out.drew
      refine u_take (i := 0) (v := ?_) rfl (by kernel_rfl) (by kernel_rfl) (by kernel_rfl) (by kernel_rfl) (fun _ _ _ h => h) (Or.inl ⟨by rfl, ?_⟩) hHeld ?_
      rotate_left
      · intro W hSw
        obtain ⟨hs1, hs2⟩ := blk2 hSw
        go_simp
        try with_reducible rfl
      try simp only [Act.put, List.setIfInBounds_toArray, List.set_cons_zero, List.set_cons_succ, List.getElem_toArray, List.getElem_cons_succ, List.getElem_cons_zero]
      refine u_take (i := 1) (v := ?_) rfl (by kernel_rfl) (by kernel_rfl) (by kernel_rfl) (by kernel_rfl) (fun _ _ _ h => h) (Or.inl ⟨by rfl, ?_⟩) hHeld ?_
      rotate_left
      · intro W hSw
        obtain ⟨hs1, hs2⟩ := blk2 hSw
        go_simp
        try with_reducible rfl
      try simp only [Act.put, List.setIfInBounds_toArray, List.set_cons_zero, List.set_cons_succ, List.getElem_toArray, List.getElem_cons_succ, List.getElem_cons_zero]
      refine u_take (i := 2) (v := ?_) rfl (by kernel_rfl) (by kernel_rfl) (by kernel_rfl) (by kernel_rfl) (fun _ _ _ h => h) (Or.inl ⟨by rfl, ?_⟩) hHeld ?_
      rotate_left
      · intro W hSw
        obtain ⟨hs1, hs2⟩ := blk2 hSw
        go_simp
        try with_reducible rfl
      try simp only [Act.put, List.setIfInBounds_toArray, List.set_cons_zero, List.set_cons_succ, List.getElem_toArray, List.getElem_cons_succ, List.getElem_cons_zero]
      refine u_one (i := 3) (by kernel_rfl) rfl (fun K hK => ?_)
      go_simp
      refine (HC.out _ HN.out.bel.drew).mono ?_
      rintro e w1 ⟨A', c', rfl, ho, hb⟩
      have N1 := Lib.hid (HN.out.drew.step hb)
      have R1 := Lib.hid (show HeldL w1 (s' ++ [⟨A', xl, c'⟩]) (w.heap.size + 3) w1.heap.size from ((HN.out.r1.step ((Below.refl _ wr).drew) (.inr (Nat.le_refl _))).step hb (.inr (Nat.le_refl _))).snoc (HeldX.of (Sto.Held.of_own ho)) HN.out.hs (Nat.le_refl _) hb.size)
      clear ho
      refine hK.out _ _ (fun _ => ?_) (fun hHeld0 => ?_)
      · exact hHeld.on hb
      have hHeld := hHeld0 (by decide)
      clear hHeld0 hK K
      try simp only [Act.put, List.setIfInBounds_toArray, List.set_cons_zero, List.set_cons_succ, List.getElem_toArray, List.getElem_cons_succ, List.getElem_cons_zero]
      refine u_one (i := 4) (by kernel_rfl) rfl (fun K hK => ?_)
      have N2 := Lib.hid (N1.out.alloc (Obj.cells #[.slice A' xl.length c'] 98))
      have R2 := Lib.hid (show HeldL (w1.alloc (Obj.cells #[.slice A' xl.length c'] 98)) (s' ++ [⟨A', xl, c'⟩]) (w.heap.size + 3) (w1.alloc (Obj.cells #[.slice A' xl.length c'] 98)).heap.size from (R1.out.step ((Below.refl _ w1).alloc (Nat.le_refl _) (Obj.cells #[.slice A' xl.length c'] 98)) (.inr (Nat.le_refl _))).wide (Nat.le_refl _) (by simp))
      go_simp
      refine hK.out _ _ (fun _ => ?_) (fun hHeld0 => ?_)
      · exact hHeld.alloc _
      have hHeld := hHeld0 (by decide)
      clear hHeld0 hK K
      try simp only [Act.put, List.setIfInBounds_toArray, List.set_cons_zero, List.set_cons_succ, List.getElem_toArray, List.getElem_cons_succ, List.getElem_cons_zero]
      refine u_one (i := 5) (by kernel_rfl) rfl (fun K hK => ?_)
      have hX2 := Lib.hid hHeld
      refine Dep.wanted_in (by rfl) ?_
      refine wp_app fit_stores rfl rfl (sv [⟨A', xl, c'⟩]) rfl rfl N2.out.s0 (cl_one_at _ _ #[.slice A' xl.length c'] rfl) rfl (sv_one _) (by have := HLEN.out; omega) N2.out.hs ?_
      intro v2 w2 ho2 hg2 hn2
      obtain ⟨A2, c2, rfl, -⟩ := o_val ho2
      have N3 := Lib.hid (N2.out.addS R2.out ho2 hg2)
      have hxb := grown_out N2.out.s0 hg2 (by omega) hX2.out
      clear ho2 hg2 hn2 hX2
      refine hK.out _ _ (fun _ => ?_) (fun hHeld0 => ?_)
      · exact hxb
      have hHeld := hHeld0 (by decide)
      clear hHeld0 hK K
      try simp only [Act.put, List.setIfInBounds_toArray, List.set_cons_zero, List.set_cons_succ, List.getElem_toArray, List.getElem_cons_succ, List.getElem_cons_zero]
      refine u_take (i := 6) (v := ?_) rfl (by kernel_rfl) (by kernel_rfl) (by kernel_rfl) (by kernel_rfl) (fun _ _ _ h => h) (Or.inl ⟨by rfl, ?_⟩) hHeld ?_
      rotate_left
      · intro W hSw
        obtain ⟨hs1, hs2⟩ := blk2 hSw
        go_simp
        try with_reducible rfl
      try simp only [Act.put, List.setIfInBounds_toArray, List.set_cons_zero, List.set_cons_succ, List.getElem_toArray, List.getElem_cons_succ, List.getElem_cons_zero]
      refine u_one (i := 7) (by kernel_rfl) rfl (fun K hK => ?_)
      obtain ⟨z0, z1⟩ := blk2 hHeld
      have zf := hHeld.free 0
      have HX3 := Lib.hid hHeld
      go_simp
      refine hK.out _ _ (fun h => absurd rfl h) (fun _ => ?_)
      clear hK K
      try simp only [Act.put, List.setIfInBounds_toArray, List.set_cons_zero, List.set_cons_succ, List.getElem_toArray, List.getElem_cons_succ, List.getElem_cons_zero]
      refine u_done (by kernel_rfl) ?_ _
      clear z0 z1 zf hHeld
      go_wp2_with fail
      go_roundw
      case rel =>
        refine ⟨k + 1, by omega, by go_num, _, s' ++ [⟨A', xl, c'⟩], Lib.hid ⟨N3.out.out rfl rfl 0 _, ?_, out_set HX3.out⟩⟩
        rw [HJ.out, ← HPK.out]; unfold ps; rw [List.map_append]; rfl
      case measure => simp [intOf]; omega
    · have HPS := Lib.hid (show ps s' = ps s by rw [HR.out.2.1, List.take_of_length_le (by omega)])
      have HN1 := Lib.hid HR.out.1
      have HX1 := Lib.hid HR.out.2.2
      obtain ⟨b0, b1⟩ := blk2 (fix_arg HR.out.1)
      simp only at b0 b1
      clear HR HLEN HN0 HX0
      go_wp2_with fail
      clear b0 b1
      go_loopw [26] (fun i wr => ∃ k : Nat, k ≤ m.length ∧ i = .int .i64 k ∧ ∃ oM m', Hid (NS w wr (w.heap.size + 3) [(w.heap.size, 35, #[.slice A s.length ca, .slice B m.length cb]), (w.heap.size + 1, 35, #[.slice none 0 0, .slice none 0 0])] oS oM s' m' ∧ pm m' = pm (m.take k) ∧ Blk wr (w.heap.size + 2) 35 #[oS, oM])) (fun i _ => m.length - (intOf i).toNat)
      case atStart => exact ⟨0, by omega, rfl, .slice none 0 0, [], Lib.hid ⟨HN1.out, by simp [pm], HX1.out⟩⟩
      case round =>
      obtain ⟨k, hk, rfl, oM, m', HR⟩ := hrel
      have HLEN := Lib.hid (show m'.length = k by have := congrArg List.length HR.out.2.1; simpa [pm_len, Nat.min_eq_left hk] using this)
      by_cases hlt : k < m.length
      · have hmem := List.getElem_mem hlt
        have HCx := Lib.hid (HCm.out m[k] hmem)
        obtain ⟨sd, rfl, _, ⟨c0, c1, c2⟩, -⟩ := (HM.out.below HR.out.1.bel (Nat.le_refl _)).at_ hlt
        have HJ := Lib.hid (pm_snoc m k hlt)
        clear hmem
        obtain ⟨x, hx⟩ : ∃ x, m[k] = x := ⟨_, rfl⟩
        rw [hx] at c0 c1 c2 HCx HJ
        clear hx
        obtain ⟨yf, yt, yA, yl, yc⟩ := x
        have HC : Hid (∀ W, Below w.heap.size w W → Calls Tryz.prog 210 #[.int .i64 yf, .int .i64 yt, .slice yA yl.length yc] W fun e w' => ∃ A' c', e = .returned (.agg #[.int .i64 yf, .int .i64 yt, .slice A' yl.length c']) ∧ HeldX w' ⟨A', yl, c'⟩ W.heap.size w'.heap.size ∧ Below W.heap.size W w') := HCx
        simp only at c0 c1 c2 HJ
        have HN := Lib.hid HR.out.1
        have HX := Lib.hid HR.out.2.2
        have HPK := Lib.hid HR.out.2.1
        clear HR HCx
        go_upto_region 10 with fail
        clear c0 c1 c2
        refine u_begin (fun W => Blk W (w.heap.size + 2) 35 #[oS, oM] ∧ Blk W wr.heap.size 141 #[.int .i64 yf, .int .i64 yt, .slice yA yl.length yc]) 12 (by kernel_rfl) ?_ (fun hHeld => ?_)
        · exact ⟨(HX.out.alloc (Obj.cells #[.int .i64 yf, .int .i64 yt, .slice yA yl.length yc] 141)).drew, (Blk.new wr 141 #[.int .i64 yf, .int .i64 yt, .slice yA yl.length yc]).drew⟩
        refine u_take (i := 0) (v := ?_) rfl (by kernel_rfl) (by kernel_rfl) (by kernel_rfl) (by kernel_rfl) (fun _ _ _ h => h) (Or.inl ⟨by rfl, ?_⟩) hHeld ?_
        rotate_left
        · intro W hSw
          obtain ⟨hs1, hs2⟩ := blk2 hSw.1
          obtain ⟨hs3, hs4, hs5⟩ := blk3 hSw.2
          go_simp
          try with_reducible rfl
        try simp only [Act.put, List.setIfInBounds_toArray, List.set_cons_zero, List.set_cons_succ, List.getElem_toArray, List.getElem_cons_succ, List.getElem_cons_zero]
        refine u_take (i := 1) (v := ?_) rfl (by kernel_rfl) (by kernel_rfl) (by kernel_rfl) (by kernel_rfl) (fun _ _ _ h => h) (Or.inl ⟨by rfl, ?_⟩) hHeld ?_
        rotate_left
        · intro W hSw
          obtain ⟨hs1, hs2⟩ := blk2 hSw.1
          obtain ⟨hs3, hs4, hs5⟩ := blk3 hSw.2
          go_simp
          try with_reducible rfl
        try simp only [Act.put, List.setIfInBounds_toArray, List.set_cons_zero, List.set_cons_succ, List.getElem_toArray, List.getElem_cons_succ, List.getElem_cons_zero]
        refine u_take (i := 2) (v := ?_) rfl (by kernel_rfl) (by kernel_rfl) (by kernel_rfl) (by kernel_rfl) (fun _ _ _ h => h) (Or.inl ⟨by rfl, ?_⟩) hHeld ?_
        rotate_left
        · intro W hSw
          obtain ⟨hs1, hs2⟩ := blk2 hSw.1
          obtain ⟨hs3, hs4, hs5⟩ := blk3 hSw.2
          go_simp
          try with_reducible rfl
        try simp only [Act.put, List.setIfInBounds_toArray, List.set_cons_zero, List.set_cons_succ, List.getElem_toArray, List.getElem_cons_succ, List.getElem_cons_zero]
        refine u_take (i := 3) (v := ?_) rfl (by kernel_rfl) (by kernel_rfl) (by kernel_rfl) (by kernel_rfl) (fun _ _ _ h => h) (Or.inl ⟨by rfl, ?_⟩) hHeld ?_
        rotate_left
        · intro W hSw
          obtain ⟨hs1, hs2⟩ := blk2 hSw.1
          obtain ⟨hs3, hs4, hs5⟩ := blk3 hSw.2
          go_simp
          try with_reducible rfl
        try simp only [Act.put, List.setIfInBounds_toArray, List.set_cons_zero, List.set_cons_succ, List.getElem_toArray, List.getElem_cons_succ, List.getElem_cons_zero]
        refine u_take (i := 4) (v := ?_) rfl (by kernel_rfl) (by kernel_rfl) (by kernel_rfl) (by kernel_rfl) (fun _ _ _ h => h) (Or.inl ⟨by rfl, ?_⟩) hHeld ?_
        rotate_left
        · intro W hSw
          obtain ⟨hs1, hs2⟩ := blk2 hSw.1
          obtain ⟨hs3, hs4, hs5⟩ := blk3 hSw.2
          go_simp
          try with_reducible rfl
        try simp only [Act.put, List.setIfInBounds_toArray, List.set_cons_zero, List.set_cons_succ, List.getElem_toArray, List.getElem_cons_succ, List.getElem_cons_zero]
        refine u_take (i := 5) (v := ?_) rfl (by kernel_rfl) (by kernel_rfl) (by kernel_rfl) (by kernel_rfl) (fun _ _ _ h => h) (Or.inl ⟨by rfl, ?_⟩) hHeld ?_
        rotate_left
        · intro W hSw
          obtain ⟨hs1, hs2⟩ := blk2 hSw.1
          obtain ⟨hs3, hs4, hs5⟩ := blk3 hSw.2
          go_simp
          try with_reducible rfl
        try simp only [Act.put, List.setIfInBounds_toArray, List.set_cons_zero, List.set_cons_succ, List.getElem_toArray, List.getElem_cons_succ, List.getElem_cons_zero]
        refine u_take (i := 6) (v := ?_) rfl (by kernel_rfl) (by kernel_rfl) (by kernel_rfl) (by kernel_rfl) (fun _ _ _ h => h) (Or.inl ⟨by rfl, ?_⟩) hHeld ?_
        rotate_left
        · intro W hSw
          obtain ⟨hs1, hs2⟩ := blk2 hSw.1
          obtain ⟨hs3, hs4, hs5⟩ := blk3 hSw.2
          go_simp
          try with_reducible rfl
        try simp only [Act.put, List.setIfInBounds_toArray, List.set_cons_zero, List.set_cons_succ, List.getElem_toArray, List.getElem_cons_succ, List.getElem_cons_zero]
        refine u_take (i := 7) (v := ?_) rfl (by kernel_rfl) (by kernel_rfl) (by kernel_rfl) (by kernel_rfl) (fun _ _ _ h => h) (Or.inl ⟨by rfl, ?_⟩) hHeld ?_
        rotate_left
        · intro W hSw
          obtain ⟨hs1, hs2⟩ := blk2 hSw.1
          obtain ⟨hs3, hs4, hs5⟩ := blk3 hSw.2
          go_simp
          try with_reducible rfl
        try simp only [Act.put, List.setIfInBounds_toArray, List.set_cons_zero, List.set_cons_succ, List.getElem_toArray, List.getElem_cons_succ, List.getElem_cons_zero]
        refine u_one (i := 8) (by kernel_rfl) rfl (fun K hK => ?_)
        go_simp
        refine (HC.out _ (HN.out.alloc (Obj.cells #[.int .i64 yf, .int .i64 yt, .slice yA yl.length yc] 141)).bel.drew).mono ?_
        rintro e w1 ⟨A', c', rfl, hx, hb⟩
        have N1 := Lib.hid ((HN.out.alloc (Obj.cells #[.int .i64 yf, .int .i64 yt, .slice yA yl.length yc] 141)).drew.step hb)
        have R1 := Lib.hid (show HeldL w1 ((s' ++ m'.map (fun y => y.x)) ++ [⟨A', yl, c'⟩]) (w.heap.size + 3) w1.heap.size from (((HN.out.r0.step ((Below.refl _ wr).alloc (Nat.le_refl _) (Obj.cells #[.int .i64 yf, .int .i64 yt, .slice yA yl.length yc] 141)) (.inr (Nat.le_refl _))).step ((Below.refl _ (World.alloc wr (Obj.cells #[.int .i64 yf, .int .i64 yt, .slice yA yl.length yc] 141))).drew) (.inr (Nat.le_refl _))).step hb (.inr (Nat.le_refl _))).snoc hx (Nat.le_trans HN.out.hs (by show wr.heap.size ≤ (World.alloc wr (Obj.cells #[.int .i64 yf, .int .i64 yt, .slice yA yl.length yc] 141)).heap.size; simp)) (by show wr.heap.size ≤ (World.alloc wr (Obj.cells #[.int .i64 yf, .int .i64 yt, .slice yA yl.length yc] 141)).heap.size; simp) (Nat.le_trans (by show wr.heap.size ≤ (World.alloc wr (Obj.cells #[.int .i64 yf, .int .i64 yt, .slice yA yl.length yc] 141)).heap.size; simp) hb.size))
        have HS1 := Lib.hid (show wr.heap.size < w1.heap.size from Nat.lt_of_lt_of_le (by show wr.heap.size < (World.alloc wr (Obj.cells #[.int .i64 yf, .int .i64 yt, .slice yA yl.length yc] 141)).heap.size; simp) hb.size)
        clear hx
        refine hK.out _ _ (fun _ => ?_) (fun hHeld0 => ?_)
        · exact ⟨hHeld.1.on hb, hHeld.2.on hb⟩
        have hHeld := hHeld0 (by decide)
        clear hHeld0 hK K
        try simp only [Act.put, List.setIfInBounds_toArray, List.set_cons_zero, List.set_cons_succ, List.getElem_toArray, List.getElem_cons_succ, List.getElem_cons_zero]
        refine u_one (i := 9) (by kernel_rfl) rfl (fun K hK => ?_)
        have N2 := Lib.hid (N1.out.alloc (Obj.cells #[.int .i64 yf, .int .i64 yt, .slice A' yl.length c'] 141))
        have R2 := Lib.hid (show HeldL (w1.alloc (Obj.cells #[.int .i64 yf, .int .i64 yt, .slice A' yl.length c'] 141)) ((s' ++ m'.map (fun y => y.x)) ++ [⟨A', yl, c'⟩]) (w.heap.size + 3) (w1.alloc (Obj.cells #[.int .i64 yf, .int .i64 yt, .slice A' yl.length c'] 141)).heap.size from (R1.out.step ((Below.refl _ w1).alloc (Nat.le_refl _) (Obj.cells #[.int .i64 yf, .int .i64 yt, .slice A' yl.length c'] 141)) (.inr (Nat.le_refl _))).wide (Nat.le_refl _) (by simp))
        go_simp
        refine hK.out _ _ (fun _ => ?_) (fun hHeld0 => ?_)
        · exact ⟨hHeld.1.alloc _, hHeld.2.alloc _⟩
        have hHeld := hHeld0 (by decide)
        clear hHeld0 hK K
        try simp only [Act.put, List.setIfInBounds_toArray, List.set_cons_zero, List.set_cons_succ, List.getElem_toArray, List.getElem_cons_succ, List.getElem_cons_zero]
        refine u_one (i := 10) (by kernel_rfl) rfl (fun K hK => ?_)
        have hX2 := Lib.hid hHeld
        refine Dep.wanted_in (by rfl) ?_
        refine wp_app fit_letters rfl rfl (mv [⟨yf, yt, ⟨A', yl, c'⟩⟩]) rfl rfl N2.out.m0 (cl_one_at _ _ #[.int .i64 yf, .int .i64 yt, .slice A' yl.length c'] rfl) rfl (mv_one _) (by have := HLEN.out; omega) N2.out.hs ?_
        intro v2 w2 ho2 hg2 hn2
        obtain ⟨A2, c2, rfl, -⟩ := o_val ho2
        have N3 := Lib.hid (N2.out.addM (y := ⟨yf, yt, ⟨A', yl, c'⟩⟩) R2.out ho2 hg2)
        have hxb := grown_out N2.out.m0 hg2 (by omega) hX2.out.1
        have hxl : Blk w2 wr.heap.size 141 #[.int .i64 yf, .int .i64 yt, .slice yA yl.length yc] := (hg2.block _ hX2.out.2.lt (fun e => by have := o_lt HN.out.m0 _ e.symm; omega)).trans hX2.out.2
        clear ho2 hg2 hn2 hX2
        refine hK.out _ _ (fun _ => ?_) (fun hHeld0 => ?_)
        · exact ⟨hxb, hxl⟩
        have hHeld := hHeld0 (by decide)
        clear hHeld0 hK K
        try simp only [Act.put, List.setIfInBounds_toArray, List.set_cons_zero, List.set_cons_succ, List.getElem_toArray, List.getElem_cons_succ, List.getElem_cons_zero]
        refine u_take (i := 11) (v := ?_) rfl (by kernel_rfl) (by kernel_rfl) (by kernel_rfl) (by kernel_rfl) (fun _ _ _ h => h) (Or.inl ⟨by rfl, ?_⟩) hHeld ?_
        rotate_left
        · intro W hSw
          obtain ⟨hs1, hs2⟩ := blk2 hSw.1
          obtain ⟨hs3, hs4, hs5⟩ := blk3 hSw.2
          go_simp
          try with_reducible rfl
        try simp only [Act.put, List.setIfInBounds_toArray, List.set_cons_zero, List.set_cons_succ, List.getElem_toArray, List.getElem_cons_succ, List.getElem_cons_zero]
        refine u_one (i := 12) (by kernel_rfl) rfl (fun K hK => ?_)
        obtain ⟨z0, z1⟩ := blk2 hHeld.1
        have zf := hHeld.1.free 1
        have HX3 := Lib.hid hHeld.1
        go_simp
        refine hK.out _ _ (fun h => absurd rfl h) (fun _ => ?_)
        clear hK K
        try simp only [Act.put, List.setIfInBounds_toArray, List.set_cons_zero, List.set_cons_succ, List.getElem_toArray, List.getElem_cons_succ, List.getElem_cons_zero]
        refine u_done (by kernel_rfl) ?_ _
        clear z0 z1 zf hHeld
        go_wp2_with fail
        go_roundw
        case rel =>
          refine ⟨k + 1, by omega, by go_num, _, m' ++ [⟨yf, yt, ⟨A', yl, c'⟩⟩], Lib.hid ⟨N3.out.out rfl rfl 1 _, ?_, out_set1 HX3.out⟩⟩
          rw [HJ.out, ← HPK.out]; unfold pm; rw [List.map_append]; rfl
        case measure => simp [intOf]; omega
      rw [List.take_of_length_le (by omega)] at HR
      clear HLEN
      obtain ⟨n', e1, e2, e3, e4, hown⟩ := HR.out.1.net
      subst e1 e2 e3 e4
      have HOW := Lib.hid hown
      have HPM := Lib.hid HR.out.2.1
      have HBL := Lib.hid HR.out.1.bel
      obtain ⟨r0, r1⟩ := blk2 (fix_res HR.out.1)
      obtain ⟨x0, x1⟩ := blk2 HR.out.2.2
      have f0 := (fix_res HR.out.1).free 0
      have f1 := (fix_res HR.out.1).free 1
      simp only at r0 r1 f0 f1
      clear HR hown
      go_wp2_with fail
      refine bodyPost_ret (v := n'.val) (by simp [results, Tryz.results111, go_sem, Nt.val, r0, r1]) rfl ⟨n', rfl, ?_, ?_, ?_⟩
      · unfold pl; rw [HPS.out, HPM.out]
      · exact ((HOW.out.set (p := ⟨w.heap.size + 1, 0, none⟩) (by show w.heap.size + 1 < w.heap.size + 3; omega) _).set (p := ⟨w.heap.size + 1, 1, none⟩) (by show w.heap.size + 1 < w.heap.size + 3; omega) _).less (by omega)
      · exact (HBL.out.setCell (p := ⟨w.heap.size + 1, 0, none⟩) (by show w.heap.size ≤ w.heap.size + 1; omega) _).setCell (p := ⟨w.heap.size + 1, 1, none⟩) (by show w.heap.size ≤ w.heap.size + 1; omega) _
end Go.Proofs.YtoagdpbbojlgfaaGreat.Net

/-
  spec.l06Copy.
-/
namespace Go.Proofs.YtoagdpbbojlgfaaGreat.Net
open Go.ChangeShapes Go.WideShapes Go.ChangeAt Go.RowKit
open Sto (R Sl flat)
set_option linter.unusedVariables false
set_option maxRecDepth 100000
set_option linter.unusedSimpArgs false

theorem cl_rows {w : World} {B : Nat} {A : Option Addr} {l : List R} (h : Sto.Lies w B A l) : Cl w B A (flat l) := fun h0 => by
  have hl : 0 < l.length := by rw [Sto.flat_length] at h0; omega
  obtain ⟨ad, e, hb, _⟩ := h hl
  subst e
  exact ⟨ad, rfl, hb, fun j u hu => h.cell hu⟩

/-- A store that is not nil, with its room told. -/
def Room (x : Sl) : Prop := ∃ ad, x.A = some ad ∧ x.l.length ≤ x.c ∧ x.c ≤ maxLen
/-- As AnsO, each store with its room told. -/
def AnsR (w : World) (e : Ending) (w' : World) (p : List (List R) × List Pm) : Prop :=
  ∃ n : Nt, e = .returned n.val ∧ pl n = p ∧ OwnN w' n w.heap.size ∧ Below w.heap.size w w' ∧ ∀ x ∈ n.s, Room x

set_option maxHeartbeats 4000000 in
set_option maxRecDepth 100000 in
theorem specCopyR_any (n : Nt) (w : World) (h : NLies w w.heap.size n) (hL : Little n) :
    Calls Tryz.prog 199 #[n.val] w fun e w' => AnsR w e w' (pl n) := by
  have hsl : n.s.length ≤ 1048576 := by have := hL.1; omega
  have hml : n.m.length ≤ 1048576 := by have := hL.1; omega
  have HT := Lib.hid (fun (x : Sl) (hx : x ∈ n.all) => show x.l.length ≤ 1048576 ∧ ∀ d ∈ x.l, d.k.size ≤ 1048576 ∧ d.b.size ≤ 1048576 from ⟨by have := tot_mem hx; have := hL.1; omega, hL.2 x hx⟩)
  have HS := Lib.hid h.1
  have HM := Lib.hid h.2
  have HTs := Lib.hid (fun (x : Sl) (hx : x ∈ n.s) => HT.out x (List.mem_append_left _ hx))
  have HTm := Lib.hid (fun (y : Ml) (hy : y ∈ n.m) => HT.out y.x (List.mem_append_right n.s (List.mem_map.2 ⟨y, hy, rfl⟩)))
  have HPL := Lib.hid (show pl n = (ps n.s, pm n.m) from rfl)
  clear h hL HT
  rw [HPL.out]
  clear HPL
  obtain ⟨A, s, ca, B, m, cb⟩ := n
  unfold Nt.val
  simp only at hsl hml HS HM HTs HTm ⊢
  have B0 := (((Below.refl w.heap.size w).alloc (Nat.le_refl _) (Obj.cells #[.slice A s.length ca, .slice B m.length cb] 35)).alloc (by simp) (Obj.cells #[.slice none 0 0, .slice none 0 0] 35)).alloc (by simp; omega) (Obj.cells #[.slice none 0 0, .slice none 0 0] 35)
  have p0 := ((Blk.new w 35 #[.slice A s.length ca, .slice B m.length cb]).alloc (Obj.cells #[.slice none 0 0, .slice none 0 0] 35)).alloc (Obj.cells #[.slice none 0 0, .slice none 0 0] 35)
  have p1 := (Blk.new (World.alloc w (Obj.cells #[.slice A s.length ca, .slice B m.length cb] 35)) 35 #[.slice none 0 0, .slice none 0 0]).alloc (Obj.cells #[.slice none 0 0, .slice none 0 0] 35)
  have p2 := Blk.new (World.alloc (World.alloc w (Obj.cells #[.slice A s.length ca, .slice B m.length cb] 35)) (Obj.cells #[.slice none 0 0, .slice none 0 0] 35)) 35 #[.slice none 0 0, .slice none 0 0]
  simp only [World.size_alloc] at p1 p2
  have hz : (World.alloc (World.alloc (World.alloc w (Obj.cells #[.slice A s.length ca, .slice B m.length cb] 35)) (Obj.cells #[.slice none 0 0, .slice none 0 0] 35)) (Obj.cells #[.slice none 0 0, .slice none 0 0] 35)).heap.size = w.heap.size + 3 := by simp
  have HN0 := Lib.hid (show NS w (World.alloc (World.alloc (World.alloc w (Obj.cells #[.slice A s.length ca, .slice B m.length cb] 35)) (Obj.cells #[.slice none 0 0, .slice none 0 0] 35)) (Obj.cells #[.slice none 0 0, .slice none 0 0] 35)) (w.heap.size + 3) [(w.heap.size, 35, #[.slice A s.length ca, .slice B m.length cb]), (w.heap.size + 1, 35, #[.slice none 0 0, .slice none 0 0])] (.slice none 0 0) (.slice none 0 0) [] [] from
    ⟨o_nil _ _ _ _, o_nil _ _ _ _, HeldL.nil _ _ _, fun p hp => by
      rcases List.mem_cons.1 hp with rfl | hp
      · exact p0
      · obtain rfl := List.mem_singleton.1 hp; exact p1, fun p hp => by
      rcases List.mem_cons.1 hp with rfl | hp
      · show w.heap.size < w.heap.size + 3; omega
      · obtain rfl := List.mem_singleton.1 hp; show w.heap.size + 1 < w.heap.size + 3; omega, B0, by omega, by rw [hz]; exact Nat.le_refl _⟩)
  have HX0 := Lib.hid p2
  clear B0 p0 p1 p2 hz
  go_enter Tryz.func199, Tryz.ntmps199
  go_wp2_with fail
  go_loopw [4] (fun i wr => ∃ k : Nat, k ≤ s.length ∧ i = .int .i64 k ∧ ∃ oS s', Hid (NS w wr (w.heap.size + 3) [(w.heap.size, 35, #[.slice A s.length ca, .slice B m.length cb]), (w.heap.size + 1, 35, #[.slice none 0 0, .slice none 0 0])] oS (.slice none 0 0) s' [] ∧ (ps s' = ps (s.take k) ∧ ∀ x ∈ s', Room x) ∧ Blk wr (w.heap.size + 2) 35 #[oS, .slice none 0 0])) (fun i _ => s.length - (intOf i).toNat)
  case atStart => exact ⟨0, by omega, rfl, .slice none 0 0, [], Lib.hid ⟨HN0.out, ⟨by simp [ps], fun x hx => absurd hx (by simp)⟩, HX0.out⟩⟩
  case round =>
    obtain ⟨k, hk, rfl, oS, s', HR⟩ := hrel
    have HLEN := Lib.hid (show s'.length = k by have := congrArg List.length HR.out.2.1.1; simpa [ps_len, Nat.min_eq_left hk] using this)
    obtain ⟨b0, b1⟩ := blk2 (fix_arg HR.out.1)
    simp only at b0 b1
    by_cases hlt : k < s.length
    · have hmem := List.getElem_mem hlt
      have hxl := (HTs.out s[k] hmem).1
      have HLX0 := Lib.hid (HS.out.2 s[k] hmem)
      have HC0 := Lib.hid (show ∀ W, Below w.heap.size w W → ∃ ad, A = some ad ∧ W.cell? (ad.add k) = some (.slice s[k].A s[k].l.length s[k].c) from fun W hW => by
        obtain ⟨ad, e, _, c0, _⟩ := (HS.out.below hW (Nat.le_refl _)).at_ hlt
        exact ⟨ad, e, c0⟩)
      obtain ⟨sd, rfl, _⟩ := HC0.out w (Below.refl _ _)
      have HJ := Lib.hid (ps_snoc s k hlt)
      clear hmem
      obtain ⟨x, hx⟩ : ∃ x, s[k] = x := ⟨_, rfl⟩
      rw [hx] at hxl HLX0 HC0 HJ
      clear hx
      obtain ⟨xA, xl, xc⟩ := x
      simp only at hxl HJ
      have HLX : Hid (∀ W, Below w.heap.size w W → Sto.Lies W W.heap.size xA xl) := Lib.hid fun W hW => (HLX0.out.below hW (Nat.le_refl _)).more hW.size
      have HCELL : Hid (∀ W, Below w.heap.size w W → W.cell? (sd.add k) = some (.slice xA xl.length xc)) := Lib.hid fun W hW => by
        obtain ⟨ad, e, hc⟩ := HC0.out W hW
        cases e
        exact hc
      have HN := Lib.hid HR.out.1
      have HX := Lib.hid HR.out.2.2
      have HPK := Lib.hid HR.out.2.1.1
      have HRS := Lib.hid HR.out.2.1.2
      clear HR HLX0 HC0
      go_upto_region 5 with fail
      clear b0 b1
      refine u_begin (fun W => Blk W (w.heap.size + 2) 35 #[oS, .slice none 0 0] ∧ Blk W w.heap.size 35 #[.slice (some sd) s.length ca, .slice B m.length cb] ∧ Below w.heap.size w W) 12 (by kernel_rfl) ?_ (fun hHeld => ?_)
      · exact ⟨HX.out.drew, (fix_arg HN.out).drew, HN.out.bel.drew⟩
      refine u_take (i := 0) (v := ?_) rfl (by kernel_rfl) (by kernel_rfl) (by kernel_rfl) (by kernel_rfl) (fun _ _ _ h => h) (Or.inl ⟨by rfl, ?_⟩) hHeld ?_
      rotate_left
      · intro W hSw
        obtain ⟨hs1, hs2⟩ := blk2 hSw.1
        obtain ⟨hs3, hs4⟩ := blk2 hSw.2.1
        have hs5 := HCELL.out W hSw.2.2
        go_simp
        try with_reducible rfl
      try simp only [Act.put, List.setIfInBounds_toArray, List.set_cons_zero, List.set_cons_succ, List.getElem_toArray, List.getElem_cons_succ, List.getElem_cons_zero]
      refine u_take (i := 1) (v := ?_) rfl (by kernel_rfl) (by kernel_rfl) (by kernel_rfl) (by kernel_rfl) (fun _ _ _ h => h) (Or.inl ⟨by rfl, ?_⟩) hHeld ?_
      rotate_left
      · intro W hSw
        obtain ⟨hs1, hs2⟩ := blk2 hSw.1
        obtain ⟨hs3, hs4⟩ := blk2 hSw.2.1
        have hs5 := HCELL.out W hSw.2.2
        go_simp
        try with_reducible rfl
      try simp only [Act.put, List.setIfInBounds_toArray, List.set_cons_zero, List.set_cons_succ, List.getElem_toArray, List.getElem_cons_succ, List.getElem_cons_zero]
      refine u_take (i := 3) (v := ?_) rfl (by kernel_rfl) (by kernel_rfl) (by kernel_rfl) (by kernel_rfl) (fun _ _ _ h => h) (Or.inl ⟨by rfl, ?_⟩) hHeld ?_
      rotate_left
      · intro W hSw
        obtain ⟨hs1, hs2⟩ := blk2 hSw.1
        obtain ⟨hs3, hs4⟩ := blk2 hSw.2.1
        have hs5 := HCELL.out W hSw.2.2
        go_simp
        try with_reducible rfl
      try simp only [Act.put, List.setIfInBounds_toArray, List.set_cons_zero, List.set_cons_succ, List.getElem_toArray, List.getElem_cons_succ, List.getElem_cons_zero]
      refine u_take (i := 4) (v := ?_) rfl (by kernel_rfl) (by kernel_rfl) (by kernel_rfl) (by kernel_rfl) (fun _ _ _ h => h) (Or.inl ⟨by rfl, ?_⟩) hHeld ?_
      rotate_left
      · intro W hSw
        obtain ⟨hs1, hs2⟩ := blk2 hSw.1
        obtain ⟨hs3, hs4⟩ := blk2 hSw.2.1
        have hs5 := HCELL.out W hSw.2.2
        go_simp
        try with_reducible rfl
      try simp only [Act.put, List.setIfInBounds_toArray, List.set_cons_zero, List.set_cons_succ, List.getElem_toArray, List.getElem_cons_succ, List.getElem_cons_zero]
      refine u_take (i := 5) (v := ?_) rfl (by kernel_rfl) (by kernel_rfl) (by kernel_rfl) (by kernel_rfl) (fun _ _ _ h => h) (Or.inl ⟨by rfl, ?_⟩) hHeld ?_
      rotate_left
      · intro W hSw
        obtain ⟨hs1, hs2⟩ := blk2 hSw.1
        obtain ⟨hs3, hs4⟩ := blk2 hSw.2.1
        have hs5 := HCELL.out W hSw.2.2
        go_simp
        try with_reducible rfl
      try simp only [Act.put, List.setIfInBounds_toArray, List.set_cons_zero, List.set_cons_succ, List.getElem_toArray, List.getElem_cons_succ, List.getElem_cons_zero]
      refine u_take (i := 6) (v := ?_) rfl (by kernel_rfl) (by kernel_rfl) (by kernel_rfl) (by kernel_rfl) (fun _ _ _ h => h) (Or.inl ⟨by rfl, ?_⟩) hHeld ?_
      rotate_left
      · intro W hSw
        obtain ⟨hs1, hs2⟩ := blk2 hSw.1
        obtain ⟨hs3, hs4⟩ := blk2 hSw.2.1
        have hs5 := HCELL.out W hSw.2.2
        go_simp
        try with_reducible rfl
      try simp only [Act.put, List.setIfInBounds_toArray, List.set_cons_zero, List.set_cons_succ, List.getElem_toArray, List.getElem_cons_succ, List.getElem_cons_zero]
      refine u_take (i := 7) (v := ?_) rfl (by kernel_rfl) (by kernel_rfl) (by kernel_rfl) (by kernel_rfl) (fun _ _ _ h => h) (Or.inl ⟨by rfl, ?_⟩) hHeld ?_
      rotate_left
      · intro W hSw
        obtain ⟨hs1, hs2⟩ := blk2 hSw.1
        obtain ⟨hs3, hs4⟩ := blk2 hSw.2.1
        have hs5 := HCELL.out W hSw.2.2
        go_simp
        try with_reducible rfl
      try simp only [Act.put, List.setIfInBounds_toArray, List.set_cons_zero, List.set_cons_succ, List.getElem_toArray, List.getElem_cons_succ, List.getElem_cons_zero]
      refine u_one (i := 2) (by kernel_rfl) rfl (fun K hK => ?_)
      have hQ1 := Lib.hid hHeld
      go_simp
      refine hK.out _ _ (fun _ => ?_) (fun hHeld0 => ?_)
      · exact ⟨hHeld.1.alloc _, hHeld.2.1.alloc _, hHeld.2.2.alloc hHeld.2.2.size _⟩
      have hHeld := hHeld0 (by decide)
      clear hHeld0 hK K
      try simp only [Act.put, List.setIfInBounds_toArray, List.set_cons_zero, List.set_cons_succ, List.getElem_toArray, List.getElem_cons_succ, List.getElem_cons_zero]
      refine u_one (i := 8) (by kernel_rfl) rfl (fun K hK => ?_)
      have hX1 := Lib.hid hHeld
      refine Dep.wanted_in (by rfl) ?_
      refine wp_app fit_rows rfl rfl (flat xl) rfl rfl (o_none wr.drew 42 5) (cl_rows (HLX.out _ hX1.out.2.2)) (Sto.flat_length _) (Sto.flat_one _) (by omega) (by simp) ?_
      intro v1 w1 ho hg hn
      rw [Nat.zero_add, List.nil_append] at ho
      obtain ⟨A', c', rfl, -⟩ := o_val ho
      have HRM := Lib.hid (show Room ⟨A', xl, c'⟩ from by
        obtain ⟨g, c, e, h1, h2, _⟩ := o_val_ne ho (fun e => by have := (hn e).1; cases this)
        injection e with e1 e2 e3
        exact ⟨_, e1, by show xl.length ≤ c'; omega, by show c' ≤ maxLen; omega⟩)
      have hbb := Lib.hid (((Below.refl wr.heap.size wr).drew.alloc (Nat.le_refl _) (Obj.cells #[] 42)).grown hg (by simp) (fun k e => by cases e; exact Nat.le_refl _))
      have N1 := Lib.hid (HN.out.step hbb.out)
      have R1 := Lib.hid (show HeldL w1 (s' ++ [⟨A', xl, c'⟩]) (w.heap.size + 3) w1.heap.size from (HN.out.r1.step hbb.out (.inr (Nat.le_refl _))).snoc (HeldX.of (Sto.Held.of_own ho)) HN.out.hs (Nat.le_refl _) hbb.out.size)
      have hxa := HX.out.on hbb.out
      have hxc := (fix_arg HN.out).on hbb.out
      clear ho hg hn hX1
      refine hK.out _ _ (fun _ => ?_) (fun hHeld0 => ?_)
      · exact ⟨hxa, hxc, N1.out.bel⟩
      have hHeld := hHeld0 (by decide)
      clear hHeld0 hK K
      try simp only [Act.put, List.setIfInBounds_toArray, List.set_cons_zero, List.set_cons_succ, List.getElem_toArray, List.getElem_cons_succ, List.getElem_cons_zero]
      refine u_one (i := 9) (by kernel_rfl) rfl (fun K hK => ?_)
      have N2 := Lib.hid (N1.out.alloc (Obj.cells #[.slice A' xl.length c'] 98))
      have R2 := Lib.hid (show HeldL (w1.alloc (Obj.cells #[.slice A' xl.length c'] 98)) (s' ++ [⟨A', xl, c'⟩]) (w.heap.size + 3) (w1.alloc (Obj.cells #[.slice A' xl.length c'] 98)).heap.size from (R1.out.step ((Below.refl _ w1).alloc (Nat.le_refl _) (Obj.cells #[.slice A' xl.length c'] 98)) (.inr (Nat.le_refl _))).wide (Nat.le_refl _) (by simp))
      go_simp
      refine hK.out _ _ (fun _ => ?_) (fun hHeld0 => ?_)
      · exact ⟨hHeld.1.alloc _, hHeld.2.1.alloc _, hHeld.2.2.alloc hHeld.2.2.size _⟩
      have hHeld := hHeld0 (by decide)
      clear hHeld0 hK K
      try simp only [Act.put, List.setIfInBounds_toArray, List.set_cons_zero, List.set_cons_succ, List.getElem_toArray, List.getElem_cons_succ, List.getElem_cons_zero]
      refine u_one (i := 10) (by kernel_rfl) rfl (fun K hK => ?_)
      have hX2 := Lib.hid hHeld
      refine Dep.wanted_in (by rfl) ?_
      refine wp_app fit_stores rfl rfl (sv [⟨A', xl, c'⟩]) rfl rfl N2.out.s0 (cl_one_at _ _ #[.slice A' xl.length c'] rfl) rfl (sv_one _) (by have := HLEN.out; omega) N2.out.hs ?_
      intro v2 w2 ho2 hg2 hn2
      obtain ⟨A2, c2, rfl, -⟩ := o_val ho2
      have N3 := Lib.hid (N2.out.addS R2.out ho2 hg2)
      have hxb := grown_out N2.out.s0 hg2 (by omega) hX2.out.1
      clear ho2 hg2 hn2 hX2
      refine hK.out _ _ (fun _ => ?_) (fun hHeld0 => ?_)
      · exact ⟨hxb, fix_arg N3.out, N3.out.bel⟩
      have hHeld := hHeld0 (by decide)
      clear hHeld0 hK K
      try simp only [Act.put, List.setIfInBounds_toArray, List.set_cons_zero, List.set_cons_succ, List.getElem_toArray, List.getElem_cons_succ, List.getElem_cons_zero]
      refine u_take (i := 11) (v := ?_) rfl (by kernel_rfl) (by kernel_rfl) (by kernel_rfl) (by kernel_rfl) (fun _ _ _ h => h) (Or.inl ⟨by rfl, ?_⟩) hHeld ?_
      rotate_left
      · intro W hSw
        obtain ⟨hs1, hs2⟩ := blk2 hSw.1
        obtain ⟨hs3, hs4⟩ := blk2 hSw.2.1
        have hs5 := HCELL.out W hSw.2.2
        go_simp
        try with_reducible rfl
      try simp only [Act.put, List.setIfInBounds_toArray, List.set_cons_zero, List.set_cons_succ, List.getElem_toArray, List.getElem_cons_succ, List.getElem_cons_zero]
      refine u_one (i := 12) (by kernel_rfl) rfl (fun K hK => ?_)
      obtain ⟨z0, z1⟩ := blk2 hHeld.1
      have zf := hHeld.1.free 0
      have HX3 := Lib.hid hHeld.1
      go_simp
      refine hK.out _ _ (fun h => absurd rfl h) (fun _ => ?_)
      clear hK K
      try simp only [Act.put, List.setIfInBounds_toArray, List.set_cons_zero, List.set_cons_succ, List.getElem_toArray, List.getElem_cons_succ, List.getElem_cons_zero]
      refine u_done (by kernel_rfl) ?_ _
      clear z0 z1 zf hHeld
      go_wp2_with fail
      go_roundw
      case rel =>
        refine ⟨k + 1, by omega, by go_num, _, s' ++ [⟨A', xl, c'⟩], Lib.hid ⟨N3.out.out rfl rfl 0 _, ⟨?_, fun x hx => ?_⟩, out_set HX3.out⟩⟩
        · rw [HJ.out, ← HPK.out]; unfold ps; rw [List.map_append]; rfl
        · rcases List.mem_append.1 hx with hx | hx
          · exact HRS.out x hx
          · obtain rfl := List.mem_singleton.1 hx; exact HRM.out
      case measure => simp [intOf]; omega
    · have HPS := Lib.hid (show ps s' = ps s by rw [HR.out.2.1.1, List.take_of_length_le (by omega)])
      have HRS := Lib.hid HR.out.2.1.2
      have HN1 := Lib.hid HR.out.1
      have HX1 := Lib.hid HR.out.2.2
      clear HR HLEN HN0 HX0
      go_wp2_with fail
      clear b0 b1
      go_loopw [5] (fun i wr => ∃ k : Nat, k ≤ m.length ∧ i = .int .i64 k ∧ ∃ oM m', Hid (NS w wr (w.heap.size + 3) [(w.heap.size, 35, #[.slice A s.length ca, .slice B m.length cb]), (w.heap.size + 1, 35, #[.slice none 0 0, .slice none 0 0])] oS oM s' m' ∧ pm m' = pm (m.take k) ∧ Blk wr (w.heap.size + 2) 35 #[oS, oM])) (fun i _ => m.length - (intOf i).toNat)
      case atStart => exact ⟨0, by omega, rfl, .slice none 0 0, [], Lib.hid ⟨HN1.out, by simp [pm], HX1.out⟩⟩
      case round =>
      obtain ⟨k, hk, rfl, oM, m', HR⟩ := hrel
      have HLEN := Lib.hid (show m'.length = k by have := congrArg List.length HR.out.2.1; simpa [pm_len, Nat.min_eq_left hk] using this)
      obtain ⟨b0, b1⟩ := blk2 (fix_arg HR.out.1)
      simp only at b0 b1
      by_cases hlt : k < m.length
      · have hmem := List.getElem_mem hlt
        have hyl := (HTm.out m[k] hmem).1
        have HLY0 := Lib.hid (HM.out.2 m[k] hmem)
        obtain ⟨sd, rfl, _, ⟨c0, c1, c2⟩, -⟩ := (HM.out.below HR.out.1.bel (Nat.le_refl _)).at_ hlt
        have HJ := Lib.hid (pm_snoc m k hlt)
        clear hmem
        obtain ⟨x, hx⟩ : ∃ x, m[k] = x := ⟨_, rfl⟩
        rw [hx] at c0 c1 c2 hyl HLY0 HJ
        clear hx
        obtain ⟨yf, yt, yA, yl, yc⟩ := x
        simp only at c0 c1 c2 hyl HJ
        have HLY : Hid (∀ W, Below w.heap.size w W → Sto.Lies W W.heap.size yA yl) := Lib.hid fun W hW => (HLY0.out.below hW (Nat.le_refl _)).more hW.size
        have HN := Lib.hid HR.out.1
        have HX := Lib.hid HR.out.2.2
        have HPK := Lib.hid HR.out.2.1
        have hwz := HR.out.1.hs
        have LB1 := Lib.hid (Blk.new wr 141 #[.int .i64 yf, .int .i64 yt, .slice yA yl.length yc])
        have HBR := Lib.hid (((Below.refl wr.heap.size wr).alloc (Nat.le_refl _) (Obj.cells #[.int .i64 yf, .int .i64 yt, .slice yA yl.length yc] 141)).alloc (by simp) (Obj.cells #[] 42))
        have BW1 := Lib.hid (HR.out.1.bel.trans (HBR.out.mono HR.out.1.bel.size))
        have hon := o_none (World.alloc wr (Obj.cells #[.int .i64 yf, .int .i64 yt, .slice yA yl.length yc] 141)) 42 5
        rw [World.size_alloc] at hon
        clear HR HLY0
        go_upto_region 11 with (at_builtin; refine wpList_app fit_rows rfl rfl rfl (flat yl) rfl rfl hon (cl_rows (HLY.out _ BW1.out)) (Sto.flat_length _) (Sto.flat_one _) (by omega) (by simp) ?_; intro v1 w2 ho hg hn; rw [Nat.zero_add, List.nil_append] at ho; obtain ⟨A', c', rfl, -⟩ := o_val ho; have BW2 := Lib.hid (HBR.out.grown hg (by simp; omega) (fun k e => by cases e; exact Nat.le_succ _)); have LB2 := Lib.hid (show Blk w2 wr.heap.size 141 #[.int .i64 yf, .int .i64 yt, .slice yA yl.length yc] from (hg.block _ (LB1.out.alloc (Obj.cells #[] 42)).lt (fun e => by injection e with e; exact absurd (show wr.heap.size = wr.heap.size + 1 from e) (by omega))).trans (LB1.out.alloc (Obj.cells #[] 42))); have HX2 := Lib.hid (show HeldX w2 ⟨A', yl, c'⟩ (wr.heap.size + 1) w2.heap.size from HeldX.of (Sto.Held.of_own ho)); obtain ⟨l0, l1, l2⟩ := blk3 LB2.out; have lf := LB2.out.free 2; clear ho hg hn)
        clear l0 l1 l2 lf b0 b1 c0 c1 c2 hon
        have LB3 := Lib.hid (show Blk (w2.setCell ⟨wr.heap.size, 2, none⟩ (.slice A' yl.length c')) wr.heap.size 141 #[.int .i64 yf, .int .i64 yt, .slice A' yl.length c'] from LB2.out.set 2 (.slice A' yl.length c') rfl)
        have BW3 := Lib.hid (BW2.out.setCell (p := ⟨wr.heap.size, 2, none⟩) (Nat.le_refl _) (.slice A' yl.length c'))
        have HX3 := Lib.hid (show HeldX (w2.setCell ⟨wr.heap.size, 2, none⟩ (.slice A' yl.length c')) ⟨A', yl, c'⟩ (wr.heap.size + 1) (w2.setCell ⟨wr.heap.size, 2, none⟩ (.slice A' yl.length c')).heap.size from by
          rw [World.size_setCell]
          exact HX2.out.above ((Above.refl (wr.heap.size + 1) w2).set (p := ⟨wr.heap.size, 2, none⟩) (Nat.lt_succ_self _) _))
        generalize w2.setCell ⟨wr.heap.size, 2, none⟩ (.slice A' yl.length c') = w3 at LB3 BW3 HX3 ⊢
        have N3 := Lib.hid (HN.out.step BW3.out)
        have X3 := Lib.hid (HX.out.on BW3.out)
        have R3 := Lib.hid (show HeldL w3 ((s' ++ m'.map (fun y => y.x)) ++ [⟨A', yl, c'⟩]) (w.heap.size + 3) w3.heap.size from (HN.out.r0.step BW3.out (.inr (Nat.le_refl _))).snoc HX3.out (by omega) (by omega) BW3.out.size)
        obtain ⟨x0, x1⟩ := blk2 X3.out
        obtain ⟨l0, l1, l2⟩ := blk3 LB3.out
        clear LB2 BW2 HX2 LB1 HBR BW1
        go_wp2_with (at_builtin; refine wpList_app fit_letters rfl rfl rfl (mv [⟨yf, yt, ⟨A', yl, c'⟩⟩]) rfl rfl (o_alloc N3.out.m0 (Obj.cells #[.int .i64 yf, .int .i64 yt, .slice A' yl.length c'] 141)) (cl_one_at _ _ #[.int .i64 yf, .int .i64 yt, .slice A' yl.length c'] rfl) rfl (mv_one _) (by have := HLEN.out; omega) (by have := N3.out.hs; simp; omega) ?_; intro v2 w4 ho2 hg2 hn2; obtain ⟨A2, c2, rfl, -⟩ := o_val ho2; have N4 := Lib.hid ((N3.out.alloc (Obj.cells #[.int .i64 yf, .int .i64 yt, .slice A' yl.length c'] 141)).addM (y := ⟨yf, yt, ⟨A', yl, c'⟩⟩) ((R3.out.step ((Below.refl _ w3).alloc (Nat.le_refl _) (Obj.cells #[.int .i64 yf, .int .i64 yt, .slice A' yl.length c'] 141)) (.inr (Nat.le_refl _))).wide (Nat.le_refl _) (by simp)) ho2 hg2); have X4 := Lib.hid (grown_out (o_alloc N3.out.m0 (Obj.cells #[.int .i64 yf, .int .i64 yt, .slice A' yl.length c'] 141)) hg2 (by omega) (X3.out.alloc (Obj.cells #[.int .i64 yf, .int .i64 yt, .slice A' yl.length c'] 141))); obtain ⟨z0, z1⟩ := blk2 X4.out; have zf := X4.out.free 1; clear ho2 hg2 hn2)
        clear x0 x1 l0 l1 l2 z0 z1 zf
        go_roundw
        case rel =>
          refine ⟨k + 1, by omega, by go_num, _, m' ++ [⟨yf, yt, ⟨A', yl, c'⟩⟩], Lib.hid ⟨N4.out.out rfl rfl 1 _, ?_, out_set1 X4.out⟩⟩
          rw [HJ.out, ← HPK.out]; unfold pm; rw [List.map_append]; rfl
        case measure => simp [intOf]; omega
      rw [List.take_of_length_le (by omega)] at HR
      clear HLEN
      obtain ⟨n', e1, e2, e3, e4, hown⟩ := HR.out.1.net
      subst e1 e2 e3 e4
      have HOW := Lib.hid hown
      have HPM := Lib.hid HR.out.2.1
      have HBL := Lib.hid HR.out.1.bel
      obtain ⟨r0, r1⟩ := blk2 (fix_res HR.out.1)
      obtain ⟨x0, x1⟩ := blk2 HR.out.2.2
      have f0 := (fix_res HR.out.1).free 0
      have f1 := (fix_res HR.out.1).free 1
      simp only at r0 r1 f0 f1
      clear HR hown
      go_wp2_with fail
      refine bodyPost_ret (v := n'.val) (by simp [results, Tryz.results199, go_sem, Nt.val, r0, r1]) rfl ⟨n', rfl, ?_, ?_, ?_, HRS.out⟩
      · unfold pl; rw [HPS.out, HPM.out]
      · exact ((HOW.out.set (p := ⟨w.heap.size + 1, 0, none⟩) (by show w.heap.size + 1 < w.heap.size + 3; omega) _).set (p := ⟨w.heap.size + 1, 1, none⟩) (by show w.heap.size + 1 < w.heap.size + 3; omega) _).less (by omega)
      · exact (HBL.out.setCell (p := ⟨w.heap.size + 1, 0, none⟩) (by show w.heap.size ≤ w.heap.size + 1; omega) _).setCell (p := ⟨w.heap.size + 1, 1, none⟩) (by show w.heap.size ≤ w.heap.size + 1; omega) _
theorem specCopy_any (n : Nt) (w : World) (h : NLies w w.heap.size n) (hL : Little n) :
    Calls Tryz.prog 199 #[n.val] w fun e w' => AnsO w e w' (pl n) :=
  (specCopyR_any n w h hL).mono fun e w' ⟨n', h1, h2, h3, h4, _⟩ => ⟨n', h1, h2, h3, h4⟩
end Go.Proofs.YtoagdpbbojlgfaaGreat.Net

/-
  impl.withMail.
-/
namespace Go.Proofs.YtoagdpbbojlgfaaGreat.Net
open Go.ChangeShapes Go.WideShapes Go.ChangeAt Go.RowKit
open Sto (R Sl flat)
set_option linter.unusedVariables false
set_option maxRecDepth 100000
set_option linter.unusedSimpArgs false

def addP (p : List (List R) × List Pm) (y : Pm) : List (List R) × List Pm := (p.1, p.2 ++ [y])

set_option maxHeartbeats 4000000 in
set_option maxRecDepth 100000 in
theorem withMail_any (n : Nt) (f t : Int) (A : Option Addr) (l : List R) (c : Nat) (w : World) (h : NLies w w.heap.size n) (hL : Little n) (hy : Sto.Lies w w.heap.size A l) (hyl : l.length ≤ 1048576) (hyk : ∀ d ∈ l, d.k.size ≤ 1048576 ∧ d.b.size ≤ 1048576) :
    Calls Tryz.prog 196 #[n.val, .agg #[.int .i64 f, .int .i64 t, .slice A l.length c]] w fun e w' => AnsN w e w' (if n.m.length = 40 then ([], []) else addP (pl n) ⟨f, t, l⟩) (if n.m.length = 40 then 9 else 0) := by
  have hml : n.m.length ≤ 1048576 := by have := hL.1; omega
  have B0 := (((Below.refl w.heap.size w).alloc (Nat.le_refl _) (Obj.cells #[.slice n.A n.s.length n.ca, .slice n.B n.m.length n.cb] 35)).alloc (by simp) (Obj.cells #[.int .i64 f, .int .i64 t, .slice A l.length c] 141)).alloc (by simp; omega) (Obj.cells #[.slice none 0 0, .slice none 0 0, .int .i64 0] 37)
  have p0 := ((Blk.new w 35 #[.slice n.A n.s.length n.ca, .slice n.B n.m.length n.cb]).alloc (Obj.cells #[.int .i64 f, .int .i64 t, .slice A l.length c] 141)).alloc (Obj.cells #[.slice none 0 0, .slice none 0 0, .int .i64 0] 37)
  have p1 := (Blk.new (World.alloc w (Obj.cells #[.slice n.A n.s.length n.ca, .slice n.B n.m.length n.cb] 35)) 141 #[.int .i64 f, .int .i64 t, .slice A l.length c]).alloc (Obj.cells #[.slice none 0 0, .slice none 0 0, .int .i64 0] 37)
  have p2 := Blk.new (World.alloc (World.alloc w (Obj.cells #[.slice n.A n.s.length n.ca, .slice n.B n.m.length n.cb] 35)) (Obj.cells #[.int .i64 f, .int .i64 t, .slice A l.length c] 141)) 37 #[.slice none 0 0, .slice none 0 0, .int .i64 0]
  simp only [World.size_alloc] at p1 p2
  by_cases h40 : n.m.length = 40
  · have h40i : ((n.m.length : Int) == 40) = true := by simp [h40]
    rw [if_pos h40, if_pos h40]
    have h40j : (n.m.length : Int) = 40 := by omega
    have HB := Lib.hid B0
    unfold Nt.val
    obtain ⟨q0, q1, q2⟩ := blk3 p2
    clear h40 B0 p0 p1 h hy hyk hL
    go_enter Tryz.func196, Tryz.ntmps196
    go_wp2_with fail
    refine bodyPost_ret (v := .agg #[.slice none 0 0, .slice none 0 0, .int .i64 9]) (by simp [results, Tryz.results196, go_sem]) rfl ?_
    exact AnsN.ill ((((Below.refl w.heap.size w).alloc (Nat.le_refl _) _).alloc (by simp) _).alloc (by simp; omega) _)
  · have h40i : ((n.m.length : Int) == 40) = false := by simp; omega
    have h40j : ¬ (n.m.length : Int) = 40 := by omega
    rw [if_neg h40, if_neg h40]
    have hz : (World.alloc (World.alloc (World.alloc w (Obj.cells #[.slice n.A n.s.length n.ca, .slice n.B n.m.length n.cb] 35)) (Obj.cells #[.int .i64 f, .int .i64 t, .slice A l.length c] 141)) (Obj.cells #[.slice none 0 0, .slice none 0 0, .int .i64 0] 37)).heap.size = w.heap.size + 3 := by simp
    have HNC := Lib.hid (newNet_any n _ (h.on B0) hL)
    have HC := Lib.hid (fun W (hW : Below w.heap.size w W) => newMail_any f t A l c W ((hy.below hW (Nat.le_refl _)).more hW.size) hyl hyk)
    have HB := Lib.hid B0
    have HP0 := Lib.hid p0
    have HP1 := Lib.hid p1
    have HP2 := Lib.hid p2
    clear h40 B0 p0 p1 p2 h hy hyk hL
    unfold Nt.val at HNC ⊢
    go_enter Tryz.func196, Tryz.ntmps196
    go_wp2_with fail
    refine HNC.out.mono ?_
    rintro e v0 ⟨n', rfl, hp, ho, hb⟩
    rw [hz] at ho
    have HPP := Lib.hid hp
    have HO1 := Lib.hid ho
    have HB1 := Lib.hid (HB.out.trans (hb.mono (by rw [hz]; omega)))
    have HM1 := Lib.hid (HP1.out.step hb (by rw [hz]; omega))
    have HR1 := Lib.hid (HP2.out.step hb (by rw [hz]; omega))
    have HZ1 := Lib.hid (show w.heap.size + 3 ≤ v0.heap.size from by have := hb.size; omega)
    have hnm : n'.m.length = n.m.length := by have := congrArg (fun q => q.2.length) hp; simpa [pl, pm_len] using this
    have hnl : n'.m.length ≤ 1048576 := by omega
    clear hp ho hb hz hnm HP0 HP1 HP2 HNC
    unfold Nt.val
    go_upto_region 4 with fail
    refine u_begin (fun W => Blk W v0.heap.size 35 #[.slice n'.A n'.s.length n'.ca, .slice n'.B n'.m.length n'.cb] ∧ Blk W (w.heap.size + 1) 141 #[.int .i64 f, .int .i64 t, .slice A l.length c]) 12 (by kernel_rfl) ?_ (fun hHeld => ?_)
    · exact ⟨(Blk.new v0 _ _).drew, (HM1.out.alloc _).drew⟩
    refine u_take (i := 0) (v := ?_) rfl (by kernel_rfl) (by kernel_rfl) (by kernel_rfl) (by kernel_rfl) (fun _ _ _ h => h) (Or.inl ⟨by rfl, ?_⟩) hHeld ?_
    rotate_left
    · intro W hSw
      obtain ⟨hs1, hs2⟩ := blk2 hSw.1
      obtain ⟨hs3, hs4, hs5⟩ := blk3 hSw.2
      go_simp
      try with_reducible rfl
    try simp only [Act.put, List.setIfInBounds_toArray, List.set_cons_zero, List.set_cons_succ, List.getElem_toArray, List.getElem_cons_succ, List.getElem_cons_zero]
    refine u_take (i := 1) (v := ?_) rfl (by kernel_rfl) (by kernel_rfl) (by kernel_rfl) (by kernel_rfl) (fun _ _ _ h => h) (Or.inl ⟨by rfl, ?_⟩) hHeld ?_
    rotate_left
    · intro W hSw
      obtain ⟨hs1, hs2⟩ := blk2 hSw.1
      obtain ⟨hs3, hs4, hs5⟩ := blk3 hSw.2
      go_simp
      try with_reducible rfl
    try simp only [Act.put, List.setIfInBounds_toArray, List.set_cons_zero, List.set_cons_succ, List.getElem_toArray, List.getElem_cons_succ, List.getElem_cons_zero]
    refine u_take (i := 2) (v := ?_) rfl (by kernel_rfl) (by kernel_rfl) (by kernel_rfl) (by kernel_rfl) (fun _ _ _ h => h) (Or.inl ⟨by rfl, ?_⟩) hHeld ?_
    rotate_left
    · intro W hSw
      obtain ⟨hs1, hs2⟩ := blk2 hSw.1
      obtain ⟨hs3, hs4, hs5⟩ := blk3 hSw.2
      go_simp
      try with_reducible rfl
    try simp only [Act.put, List.setIfInBounds_toArray, List.set_cons_zero, List.set_cons_succ, List.getElem_toArray, List.getElem_cons_succ, List.getElem_cons_zero]
    refine u_take (i := 3) (v := ?_) rfl (by kernel_rfl) (by kernel_rfl) (by kernel_rfl) (by kernel_rfl) (fun _ _ _ h => h) (Or.inl ⟨by rfl, ?_⟩) hHeld ?_
    rotate_left
    · intro W hSw
      obtain ⟨hs1, hs2⟩ := blk2 hSw.1
      obtain ⟨hs3, hs4, hs5⟩ := blk3 hSw.2
      go_simp
      try with_reducible rfl
    try simp only [Act.put, List.setIfInBounds_toArray, List.set_cons_zero, List.set_cons_succ, List.getElem_toArray, List.getElem_cons_succ, List.getElem_cons_zero]
    refine u_take (i := 4) (v := ?_) rfl (by kernel_rfl) (by kernel_rfl) (by kernel_rfl) (by kernel_rfl) (fun _ _ _ h => h) (Or.inl ⟨by rfl, ?_⟩) hHeld ?_
    rotate_left
    · intro W hSw
      obtain ⟨hs1, hs2⟩ := blk2 hSw.1
      obtain ⟨hs3, hs4, hs5⟩ := blk3 hSw.2
      go_simp
      try with_reducible rfl
    try simp only [Act.put, List.setIfInBounds_toArray, List.set_cons_zero, List.set_cons_succ, List.getElem_toArray, List.getElem_cons_succ, List.getElem_cons_zero]
    refine u_take (i := 5) (v := ?_) rfl (by kernel_rfl) (by kernel_rfl) (by kernel_rfl) (by kernel_rfl) (fun _ _ _ h => h) (Or.inl ⟨by rfl, ?_⟩) hHeld ?_
    rotate_left
    · intro W hSw
      obtain ⟨hs1, hs2⟩ := blk2 hSw.1
      obtain ⟨hs3, hs4, hs5⟩ := blk3 hSw.2
      go_simp
      try with_reducible rfl
    try simp only [Act.put, List.setIfInBounds_toArray, List.set_cons_zero, List.set_cons_succ, List.getElem_toArray, List.getElem_cons_succ, List.getElem_cons_zero]
    refine u_take (i := 6) (v := ?_) rfl (by kernel_rfl) (by kernel_rfl) (by kernel_rfl) (by kernel_rfl) (fun _ _ _ h => h) (Or.inl ⟨by rfl, ?_⟩) hHeld ?_
    rotate_left
    · intro W hSw
      obtain ⟨hs1, hs2⟩ := blk2 hSw.1
      obtain ⟨hs3, hs4, hs5⟩ := blk3 hSw.2
      go_simp
      try with_reducible rfl
    try simp only [Act.put, List.setIfInBounds_toArray, List.set_cons_zero, List.set_cons_succ, List.getElem_toArray, List.getElem_cons_succ, List.getElem_cons_zero]
    refine u_take (i := 7) (v := ?_) rfl (by kernel_rfl) (by kernel_rfl) (by kernel_rfl) (by kernel_rfl) (fun _ _ _ h => h) (Or.inl ⟨by rfl, ?_⟩) hHeld ?_
    rotate_left
    · intro W hSw
      obtain ⟨hs1, hs2⟩ := blk2 hSw.1
      obtain ⟨hs3, hs4, hs5⟩ := blk3 hSw.2
      go_simp
      try with_reducible rfl
    try simp only [Act.put, List.setIfInBounds_toArray, List.set_cons_zero, List.set_cons_succ, List.getElem_toArray, List.getElem_cons_succ, List.getElem_cons_zero]
    refine u_one (i := 8) (by kernel_rfl) rfl (fun K hK => ?_)
    go_simp
    refine (HC.out _ (HB1.out.alloc HB1.out.size _).drew).mono ?_
    rintro e v1 ⟨A', c', rfl, hx, hb⟩
    have N1 := Lib.hid ((HO1.out.alloc (Obj.cells #[.slice n'.A n'.s.length n'.ca, .slice n'.B n'.m.length n'.cb] 35)).drew.step hb)
    have R1 := Lib.hid (show HeldL v1 (n'.all ++ [⟨A', l, c'⟩]) (w.heap.size + 3) v1.heap.size from (((HO1.out.r0.step ((Below.refl _ v0).alloc (Nat.le_refl _) (Obj.cells #[.slice n'.A n'.s.length n'.ca, .slice n'.B n'.m.length n'.cb] 35)) (.inr (Nat.le_refl _))).step ((Below.refl _ (World.alloc v0 (Obj.cells #[.slice n'.A n'.s.length n'.ca, .slice n'.B n'.m.length n'.cb] 35))).drew) (.inr (Nat.le_refl _))).step hb (.inr (Nat.le_refl _))).snoc hx (Nat.le_trans HZ1.out (by show v0.heap.size ≤ (World.alloc v0 (Obj.cells #[.slice n'.A n'.s.length n'.ca, .slice n'.B n'.m.length n'.cb] 35)).heap.size; simp)) (by show v0.heap.size ≤ (World.alloc v0 (Obj.cells #[.slice n'.A n'.s.length n'.ca, .slice n'.B n'.m.length n'.cb] 35)).heap.size; simp) (Nat.le_trans (by show v0.heap.size ≤ (World.alloc v0 (Obj.cells #[.slice n'.A n'.s.length n'.ca, .slice n'.B n'.m.length n'.cb] 35)).heap.size; simp) hb.size))
    have B1 := Lib.hid ((HB1.out.alloc HB1.out.size (Obj.cells #[.slice n'.A n'.s.length n'.ca, .slice n'.B n'.m.length n'.cb] 35)).drew.trans (hb.mono (by have := HB1.out.size; show w.heap.size ≤ (World.alloc v0 (Obj.cells #[.slice n'.A n'.s.length n'.ca, .slice n'.B n'.m.length n'.cb] 35)).heap.size; simp; omega)))
    have Z1 := Lib.hid (((HR1.out.alloc (Obj.cells #[.slice n'.A n'.s.length n'.ca, .slice n'.B n'.m.length n'.cb] 35)).drew).on hb)
    clear hx
    refine hK.out _ _ (fun _ => ?_) (fun hHeld0 => ?_)
    · exact ⟨hHeld.1.on hb, hHeld.2.on hb⟩
    have hHeld := hHeld0 (by decide)
    clear hHeld0 hK K
    try simp only [Act.put, List.setIfInBounds_toArray, List.set_cons_zero, List.set_cons_succ, List.getElem_toArray, List.getElem_cons_succ, List.getElem_cons_zero]
    refine u_one (i := 9) (by kernel_rfl) rfl (fun K hK => ?_)
    have N2 := Lib.hid (N1.out.alloc (Obj.cells #[.int .i64 f, .int .i64 t, .slice A' l.length c'] 141))
    have R2 := Lib.hid (show HeldL (v1.alloc (Obj.cells #[.int .i64 f, .int .i64 t, .slice A' l.length c'] 141)) (n'.all ++ [⟨A', l, c'⟩]) (w.heap.size + 3) (v1.alloc (Obj.cells #[.int .i64 f, .int .i64 t, .slice A' l.length c'] 141)).heap.size from (R1.out.step ((Below.refl _ v1).alloc (Nat.le_refl _) (Obj.cells #[.int .i64 f, .int .i64 t, .slice A' l.length c'] 141)) (.inr (Nat.le_refl _))).wide (Nat.le_refl _) (by simp))
    have B2 := Lib.hid (B1.out.alloc B1.out.size (Obj.cells #[.int .i64 f, .int .i64 t, .slice A' l.length c'] 141))
    have Z2 := Lib.hid (Z1.out.alloc (Obj.cells #[.int .i64 f, .int .i64 t, .slice A' l.length c'] 141))
    go_simp
    refine hK.out _ _ (fun _ => ?_) (fun hHeld0 => ?_)
    · exact ⟨hHeld.1.alloc _, hHeld.2.alloc _⟩
    have hHeld := hHeld0 (by decide)
    clear hHeld0 hK K
    try simp only [Act.put, List.setIfInBounds_toArray, List.set_cons_zero, List.set_cons_succ, List.getElem_toArray, List.getElem_cons_succ, List.getElem_cons_zero]
    refine u_one (i := 10) (by kernel_rfl) rfl (fun K hK => ?_)
    have hX2 := Lib.hid hHeld
    refine Dep.wanted_in (by rfl) ?_
    refine wp_app fit_letters rfl rfl (mv [⟨f, t, ⟨A', l, c'⟩⟩]) rfl rfl N2.out.m0 (cl_one_at _ _ #[.int .i64 f, .int .i64 t, .slice A' l.length c'] rfl) rfl (mv_one _) (by omega) (by have := HZ1.out; have := hX2.out.1.lt; omega) ?_
    intro v2 w2 ho2 hg2 hn2
    obtain ⟨A2, c2, rfl, -⟩ := o_val ho2
    have N3 := Lib.hid (N2.out.addM (y := ⟨f, t, ⟨A', l, c'⟩⟩) R2.out ho2 hg2)
    have hxb : Blk w2 v0.heap.size 35 #[.slice n'.A n'.s.length n'.ca, .slice n'.B n'.m.length n'.cb] := (hg2.block _ hX2.out.1.lt (fun e => by have := (HO1.out.lt _ e.symm).2; omega)).trans hX2.out.1
    have hxm : Blk w2 (w.heap.size + 1) 141 #[.int .i64 f, .int .i64 t, .slice A l.length c] := grown_out N2.out.m0 hg2 (by omega) hX2.out.2
    have Z3 := Lib.hid (grown_out N2.out.m0 hg2 (by omega) Z2.out)
    have B3 := Lib.hid (B2.out.grown hg2 (by have := B2.out.size; exact this) (fun k e => by have := o_base N2.out.m0 k e; omega))
    clear ho2 hg2 hn2 hX2
    refine hK.out _ _ (fun _ => ?_) (fun hHeld0 => ?_)
    · exact ⟨hxb, hxm⟩
    have hHeld := hHeld0 (by decide)
    clear hHeld0 hK K
    try simp only [Act.put, List.setIfInBounds_toArray, List.set_cons_zero, List.set_cons_succ, List.getElem_toArray, List.getElem_cons_succ, List.getElem_cons_zero]
    refine u_take (i := 11) (v := ?_) rfl (by kernel_rfl) (by kernel_rfl) (by kernel_rfl) (by kernel_rfl) (fun _ _ _ h => h) (Or.inl ⟨by rfl, ?_⟩) hHeld ?_
    rotate_left
    · intro W hSw
      obtain ⟨hs1, hs2⟩ := blk2 hSw.1
      obtain ⟨hs3, hs4, hs5⟩ := blk3 hSw.2
      go_simp
      try with_reducible rfl
    try simp only [Act.put, List.setIfInBounds_toArray, List.set_cons_zero, List.set_cons_succ, List.getElem_toArray, List.getElem_cons_succ, List.getElem_cons_zero]
    refine u_one (i := 12) (by kernel_rfl) rfl (fun K hK => ?_)
    obtain ⟨z0, z1⟩ := blk2 hHeld.1
    have zf := hHeld.1.free 1
    have HX3 := Lib.hid hHeld.1
    go_simp
    refine hK.out _ _ (fun h => absurd rfl h) (fun _ => ?_)
    clear hK K
    try simp only [Act.put, List.setIfInBounds_toArray, List.set_cons_zero, List.set_cons_succ, List.getElem_toArray, List.getElem_cons_succ, List.getElem_cons_zero]
    refine u_done (by kernel_rfl) ?_ _
    have HXS := Lib.hid (out_set9 HX3.out (Value.slice A2 (n'.m.length + 1) c2))
    have N4 := Lib.hid (N3.out.box HX3.out (by decide) (by decide) (by decide) 1 (Value.slice A2 (n'.m.length + 1) c2))
    have B4 := Lib.hid (B3.out.setCell (p := ⟨v0.heap.size, 1, none⟩) (by show w.heap.size ≤ v0.heap.size; have := HZ1.out; omega) (Value.slice A2 (n'.m.length + 1) c2))
    have Z4 := Lib.hid (Z3.out.other (p := ⟨v0.heap.size, 1, none⟩) (by show w.heap.size + 2 ≠ v0.heap.size; have := HZ1.out; omega) (Value.slice A2 (n'.m.length + 1) c2))
    generalize w2.setCell ⟨v0.heap.size, 1, none⟩ (Value.slice A2 (n'.m.length + 1) c2) = w4 at HXS N4 B4 Z4 ⊢
    obtain ⟨y0, y1⟩ := blk2 HXS.out
    obtain ⟨q0, q1, q2⟩ := blk3 Z4.out
    have g0 := Z4.out.free 0
    have g1 := Z4.out.free 1
    have g2 := Z4.out.free 2
    clear z0 z1 zf hHeld HX3
    go_wp2_with fail
    refine bodyPost_ret (v := Nt.out ⟨n'.A, n'.s, n'.ca, A2, n'.m ++ [⟨f, t, ⟨A', l, c'⟩⟩], c2⟩ 0) (by simp [results, Tryz.results196, go_sem, Nt.out, q0, q1, q2]) rfl ?_
    refine AnsN.own ?_ ?_ ?_
    · exact (((N4.out.box Z4.out (by decide) (by decide) (by decide) 0 _).box (Z4.out.set 0 _ rfl) (by decide) (by decide) (by decide) 1 _).box ((Z4.out.set 0 _ rfl).set 1 _ rfl) (by decide) (by decide) (by decide) 2 _).less (by omega)
    · rw [← HPP.out]; unfold addP pl pm; simp
    · exact ((B4.out.setCell (p := ⟨w.heap.size + 2, 0, none⟩) (by show w.heap.size ≤ w.heap.size + 2; omega) _).setCell (p := ⟨w.heap.size + 2, 1, none⟩) (by show w.heap.size ≤ w.heap.size + 2; omega) _).setCell (p := ⟨w.heap.size + 2, 2, none⟩) (by show w.heap.size ≤ w.heap.size + 2; omega) _
end Go.Proofs.YtoagdpbbojlgfaaGreat.Net
