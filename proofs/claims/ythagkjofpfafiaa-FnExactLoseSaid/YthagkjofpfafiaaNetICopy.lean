/-
  impl.newNet.
-/
import Derived.Test.YthagkjofpfafiaaNetOwn
import Derived.Test.YthagkjofpfafiaaNetNewSt
import Derived.Test.YthagkjofpfafiaaNetRegU
import Derived.Test.YthagkjofpfafiaaNetSz
import Derived.Test.YthagkjofpfafiaaDepAll
import Derived.Test.YthagkjofpfafiaaNetAll
namespace Go.Proofs.Ythagkjofpfafiaa.Net
open Go.ChangeShapes Go.WideShapes Go.ChangeAt Go.RowKit
open Sto (R Sl flat)
set_option linter.unusedVariables false
set_option maxRecDepth 100000
set_option linter.unusedSimpArgs false

theorem fix_arg {w W : World} {base : Nat} {p q : Nat × Nat × Array Value} {oS oM : Value} {s : List Sl} {m : List Ml} (h : NS w W base [p, q] oS oM s m) : Blk W p.1 p.2.1 p.2.2 := h.fix p (by simp)
theorem fix_res {w W : World} {base : Nat} {p q : Nat × Nat × Array Value} {oS oM : Value} {s : List Sl} {m : List Ml} (h : NS w W base [p, q] oS oM s m) : Blk W q.1 q.2.1 q.2.2 := h.fix q (by simp)
theorem o_lt {w : World} {base te size n : Nat} {v : Value} {xs : List Value} (h : w.ownsRow base te size v n xs) : ∀ k, v.ownBlock = some k → k < w.heap.size := by
  rcases h.2 with ⟨rfl, _⟩ | ⟨g, cap, cur, rfl, hb, hh, _⟩
  · intro k e; cases e
  · intro k e; cases e; exact (Array.getElem?_eq_some_iff.1 hh).1
theorem out_set {w W : World} {t : Nat} {a b v : Value} (h : Blk W (w.heap.size + 2) t #[a, b]) : Blk (W.setCell ⟨w.heap.size + 2, 0, none⟩ v) (w.heap.size + 2) t #[v, b] := h.set 0 v rfl
theorem out_set1 {w W : World} {t : Nat} {a b v : Value} (h : Blk W (w.heap.size + 2) t #[a, b]) : Blk (W.setCell ⟨w.heap.size + 2, 1, none⟩ v) (w.heap.size + 2) t #[a, v] := h.set 1 v rfl
theorem NS.out {w W : World} {p q : Nat × Nat × Array Value} {oS oM : Value} {s : List Sl} {m : List Ml} (h : NS w W (w.heap.size + 3) [p, q] oS oM s m) (hp : p.1 = w.heap.size) (hq : q.1 = w.heap.size + 1) (i : Nat) (u : Value) : NS w (W.setCell ⟨w.heap.size + 2, i, none⟩ u) (w.heap.size + 3) [p, q] oS oM s m :=
  h.set (p := ⟨w.heap.size + 2, i, none⟩) (by show w.heap.size + 2 < w.heap.size + 3; omega) (by show w.heap.size ≤ w.heap.size + 2; omega) (fun r hr => by
    rcases List.mem_cons.1 hr with rfl | hr
    · show r.1 ≠ w.heap.size + 2; omega
    · obtain rfl := List.mem_singleton.1 hr; show r.1 ≠ w.heap.size + 2; omega) u
theorem NS.r1 {w W : World} {base : Nat} {fx : Fx} {oS oM : Value} {s : List Sl} (h : NS w W base fx oS oM s []) : HeldL W s base W.heap.size := by simpa using h.r0
theorem grown_out {W W1 : World} {base te size n b t : Nat} {v : Value} {xs : List Value} {cs : Array Value} (ho : W.ownsRow base te size v n xs) (hg : W.grownBy W1 v.ownBlock) (hb : b < base) (h : Blk W b t cs) : Blk W1 b t cs :=
  (hg.block b h.lt (fun e => by have := o_base ho b e.symm; omega)).trans h

theorem pm_snoc (m : List Ml) (k : Nat) (h : k < m.length) : pm (m.take (k + 1)) = pm (m.take k) ++ [⟨m[k].f, m[k].t, m[k].x.l⟩] := by rw [take_snoc m k h]; unfold pm; rw [List.map_append]; rfl

set_option maxHeartbeats 4000000 in
set_option maxRecDepth 100000 in
theorem newNet_any (n : Nt) (w : World) (h : NLies w w.heap.size n) (hL : Little n) :
    Calls Try.prog 50 #[n.val] w fun e w' => AnsO w e w' (pl n) := by
  have hsl : n.s.length ≤ 1048576 := by have := hL.1; omega
  have hml : n.m.length ≤ 1048576 := by have := hL.1; omega
  have HT := Lib.hid (fun (x : Sl) (hx : x ∈ n.all) => show x.l.length ≤ 1048576 ∧ ∀ d ∈ x.l, d.k.size ≤ 1048576 ∧ d.b.size ≤ 1048576 from ⟨by have := tot_mem hx; have := hL.1; omega, hL.2 x hx⟩)
  have HS := Lib.hid h.1
  have HM := Lib.hid h.2
  have HTs := Lib.hid (fun (x : Sl) (hx : x ∈ n.s) => HT.out x (List.mem_append_left _ hx))
  have HTm := Lib.hid (fun (y : Ml) (hy : y ∈ n.m) => HT.out y.x (List.mem_append_right n.s (List.mem_map.2 ⟨y, hy, rfl⟩)))
  have HPL := Lib.hid (show pl n = (ps n.s, pm n.m) from rfl)
  clear h hL HT
  rw [HPL.out]
  clear HPL
  obtain ⟨A, s, ca, B, m, cb⟩ := n
  unfold Nt.val
  simp only at hsl hml HS HM HTs HTm ⊢
  have B0 := (((Below.refl w.heap.size w).alloc (Nat.le_refl _) (Obj.cells #[.slice A s.length ca, .slice B m.length cb] 31)).alloc (by simp) (Obj.cells #[.slice none 0 0, .slice none 0 0] 31)).alloc (by simp; omega) (Obj.cells #[.slice none 0 0, .slice none 0 0] 31)
  have p0 := ((Blk.new w 31 #[.slice A s.length ca, .slice B m.length cb]).alloc (Obj.cells #[.slice none 0 0, .slice none 0 0] 31)).alloc (Obj.cells #[.slice none 0 0, .slice none 0 0] 31)
  have p1 := (Blk.new (World.alloc w (Obj.cells #[.slice A s.length ca, .slice B m.length cb] 31)) 31 #[.slice none 0 0, .slice none 0 0]).alloc (Obj.cells #[.slice none 0 0, .slice none 0 0] 31)
  have p2 := Blk.new (World.alloc (World.alloc w (Obj.cells #[.slice A s.length ca, .slice B m.length cb] 31)) (Obj.cells #[.slice none 0 0, .slice none 0 0] 31)) 31 #[.slice none 0 0, .slice none 0 0]
  simp only [World.size_alloc] at p1 p2
  have hz : (World.alloc (World.alloc (World.alloc w (Obj.cells #[.slice A s.length ca, .slice B m.length cb] 31)) (Obj.cells #[.slice none 0 0, .slice none 0 0] 31)) (Obj.cells #[.slice none 0 0, .slice none 0 0] 31)).heap.size = w.heap.size + 3 := by simp
  have HN0 := Lib.hid (show NS w (World.alloc (World.alloc (World.alloc w (Obj.cells #[.slice A s.length ca, .slice B m.length cb] 31)) (Obj.cells #[.slice none 0 0, .slice none 0 0] 31)) (Obj.cells #[.slice none 0 0, .slice none 0 0] 31)) (w.heap.size + 3) [(w.heap.size, 31, #[.slice A s.length ca, .slice B m.length cb]), (w.heap.size + 1, 31, #[.slice none 0 0, .slice none 0 0])] (.slice none 0 0) (.slice none 0 0) [] [] from
    ⟨o_nil _ _ _ _, o_nil _ _ _ _, HeldL.nil _ _ _, fun p hp => by
      rcases List.mem_cons.1 hp with rfl | hp
      · exact p0
      · obtain rfl := List.mem_singleton.1 hp; exact p1, fun p hp => by
      rcases List.mem_cons.1 hp with rfl | hp
      · show w.heap.size < w.heap.size + 3; omega
      · obtain rfl := List.mem_singleton.1 hp; show w.heap.size + 1 < w.heap.size + 3; omega, B0, by omega, by rw [hz]; exact Nat.le_refl _⟩)
  have HX0 := Lib.hid p2
  clear B0 p0 p1 p2 hz
  have HCs := Lib.hid (fun (x : Sl) (hx : x ∈ s) W (hW : Below w.heap.size w W) => newStore_any x.A x.l x.c W (((HS.out.2 x hx).below hW (Nat.le_refl _)).more hW.size) (HTs.out x hx).1 (HTs.out x hx).2)
  have HCm := Lib.hid (fun (y : Ml) (hy : y ∈ m) W (hW : Below w.heap.size w W) => newMail_any y.f y.t y.x.A y.x.l y.x.c W (((HM.out.2 y hy).below hW (Nat.le_refl _)).more hW.size) (HTm.out y hy).1 (HTm.out y hy).2)
  clear HTs HTm
  go_enter Try.func50, Try.ntmps50
  go_wp2_with fail
  go_loopw [11] (fun i wr => ∃ k : Nat, k ≤ s.length ∧ i = .int .i64 k ∧ ∃ oS s', Hid (NS w wr (w.heap.size + 3) [(w.heap.size, 31, #[.slice A s.length ca, .slice B m.length cb]), (w.heap.size + 1, 31, #[.slice none 0 0, .slice none 0 0])] oS (.slice none 0 0) s' [] ∧ ps s' = ps (s.take k) ∧ Blk wr (w.heap.size + 2) 31 #[oS, .slice none 0 0])) (fun i _ => s.length - (intOf i).toNat)
  case atStart => exact ⟨0, by omega, rfl, .slice none 0 0, [], Lib.hid ⟨HN0.out, by simp [ps], HX0.out⟩⟩
  case round =>
    obtain ⟨k, hk, rfl, oS, s', HR⟩ := hrel
    have HLEN := Lib.hid (show s'.length = k by have := congrArg List.length HR.out.2.1; simpa [ps_len, Nat.min_eq_left hk] using this)
    by_cases hlt : k < s.length
    · have hmem := List.getElem_mem hlt
      have HCx := Lib.hid (HCs.out s[k] hmem)
      obtain ⟨sd, rfl, _, c0, -⟩ := (HS.out.below HR.out.1.bel (Nat.le_refl _)).at_ hlt
      have HJ := Lib.hid (ps_snoc s k hlt)
      clear hmem
      obtain ⟨x, hx⟩ : ∃ x, s[k] = x := ⟨_, rfl⟩
      rw [hx] at c0 HCx HJ
      clear hx
      obtain ⟨xA, xl, xc⟩ := x
      have HC : Hid (∀ W, Below w.heap.size w W → Calls Try.prog 72 #[.slice xA xl.length xc] W fun e w' => ∃ A' c', e = .returned (.slice A' xl.length c') ∧ w'.ownsRow W.heap.size 62 5 (.slice A' xl.length c') xl.length (flat xl) ∧ Below W.heap.size W w') := HCx
      simp only at c0 HJ
      have HN := Lib.hid HR.out.1
      have HX := Lib.hid HR.out.2.2
      have HPK := Lib.hid HR.out.2.1
      clear HR HCx
      go_upto_region 5 with fail
      clear c0
      refine u_begin (fun W => Blk W (w.heap.size + 2) 31 #[oS, .slice none 0 0]) 7 (by kernel_rfl) ?_ (fun hHeld => ?_)
      · exact HX.out.drew
      refine u_take (i := 0) (v := ?_) rfl (by kernel_rfl) (by kernel_rfl) (by kernel_rfl) (by kernel_rfl) (fun _ _ _ h => h) (Or.inl ⟨by rfl, ?_⟩) hHeld ?_
      rotate_left
      · intro W hSw
        obtain ⟨hs1, hs2⟩ := blk2 hSw
        go_simp
        try with_reducible rfl
      try simp only [Act.put, List.setIfInBounds_toArray, List.set_cons_zero, List.set_cons_succ, List.getElem_toArray, List.getElem_cons_succ, List.getElem_cons_zero]
      refine u_take (i := 1) (v := ?_) rfl (by kernel_rfl) (by kernel_rfl) (by kernel_rfl) (by kernel_rfl) (fun _ _ _ h => h) (Or.inl ⟨by rfl, ?_⟩) hHeld ?_
      rotate_left
      · intro W hSw
        obtain ⟨hs1, hs2⟩ := blk2 hSw
        go_simp
        try with_reducible rfl
      try simp only [Act.put, List.setIfInBounds_toArray, List.set_cons_zero, List.set_cons_succ, List.getElem_toArray, List.getElem_cons_succ, List.getElem_cons_zero]
      refine u_take (i := 2) (v := ?_) rfl (by kernel_rfl) (by kernel_rfl) (by kernel_rfl) (by kernel_rfl) (fun _ _ _ h => h) (Or.inl ⟨by rfl, ?_⟩) hHeld ?_
      rotate_left
      · intro W hSw
        obtain ⟨hs1, hs2⟩ := blk2 hSw
        go_simp
        try with_reducible rfl
      try simp only [Act.put, List.setIfInBounds_toArray, List.set_cons_zero, List.set_cons_succ, List.getElem_toArray, List.getElem_cons_succ, List.getElem_cons_zero]
      refine u_one (i := 3) (by kernel_rfl) rfl (fun K hK => ?_)
      go_simp
      refine (HC.out _ HN.out.bel.drew).mono ?_
      rintro e w1 ⟨A', c', rfl, ho, hb⟩
      have N1 := Lib.hid (HN.out.drew.step hb)
      have R1 := Lib.hid (show HeldL w1 (s' ++ [⟨A', xl, c'⟩]) (w.heap.size + 3) w1.heap.size from ((HN.out.r1.step ((Below.refl _ wr).drew) (.inr (Nat.le_refl _))).step hb (.inr (Nat.le_refl _))).snoc (HeldX.of (Sto.Held.of_own ho)) HN.out.hs (Nat.le_refl _) hb.size)
      clear ho
      refine hK.out _ _ (fun _ => ?_) (fun hHeld0 => ?_)
      · exact hHeld.on hb
      have hHeld := hHeld0 (by decide)
      clear hHeld0 hK K
      try simp only [Act.put, List.setIfInBounds_toArray, List.set_cons_zero, List.set_cons_succ, List.getElem_toArray, List.getElem_cons_succ, List.getElem_cons_zero]
      refine u_one (i := 4) (by kernel_rfl) rfl (fun K hK => ?_)
      have N2 := Lib.hid (N1.out.alloc (Obj.cells #[.slice A' xl.length c'] 49))
      have R2 := Lib.hid (show HeldL (w1.alloc (Obj.cells #[.slice A' xl.length c'] 49)) (s' ++ [⟨A', xl, c'⟩]) (w.heap.size + 3) (w1.alloc (Obj.cells #[.slice A' xl.length c'] 49)).heap.size from (R1.out.step ((Below.refl _ w1).alloc (Nat.le_refl _) (Obj.cells #[.slice A' xl.length c'] 49)) (.inr (Nat.le_refl _))).wide (Nat.le_refl _) (by simp))
      go_simp
      refine hK.out _ _ (fun _ => ?_) (fun hHeld0 => ?_)
      · exact hHeld.alloc _
      have hHeld := hHeld0 (by decide)
      clear hHeld0 hK K
      try simp only [Act.put, List.setIfInBounds_toArray, List.set_cons_zero, List.set_cons_succ, List.getElem_toArray, List.getElem_cons_succ, List.getElem_cons_zero]
      refine u_one (i := 5) (by kernel_rfl) rfl (fun K hK => ?_)
      have hX2 := Lib.hid hHeld
      refine Dep.wanted_in (by rfl) ?_
      refine wp_app fit_stores rfl rfl (sv [⟨A', xl, c'⟩]) rfl rfl N2.out.s0 (cl_one_at _ _ #[.slice A' xl.length c'] rfl) rfl (sv_one _) (by have := HLEN.out; omega) N2.out.hs ?_
      intro v2 w2 ho2 hg2 hn2
      obtain ⟨A2, c2, rfl, -⟩ := o_val ho2
      have N3 := Lib.hid (N2.out.addS R2.out ho2 hg2)
      have hxb := grown_out N2.out.s0 hg2 (by omega) hX2.out
      clear ho2 hg2 hn2 hX2
      refine hK.out _ _ (fun _ => ?_) (fun hHeld0 => ?_)
      · exact hxb
      have hHeld := hHeld0 (by decide)
      clear hHeld0 hK K
      try simp only [Act.put, List.setIfInBounds_toArray, List.set_cons_zero, List.set_cons_succ, List.getElem_toArray, List.getElem_cons_succ, List.getElem_cons_zero]
      refine u_take (i := 6) (v := ?_) rfl (by kernel_rfl) (by kernel_rfl) (by kernel_rfl) (by kernel_rfl) (fun _ _ _ h => h) (Or.inl ⟨by rfl, ?_⟩) hHeld ?_
      rotate_left
      · intro W hSw
        obtain ⟨hs1, hs2⟩ := blk2 hSw
        go_simp
        try with_reducible rfl
      try simp only [Act.put, List.setIfInBounds_toArray, List.set_cons_zero, List.set_cons_succ, List.getElem_toArray, List.getElem_cons_succ, List.getElem_cons_zero]
      refine u_one (i := 7) (by kernel_rfl) rfl (fun K hK => ?_)
      obtain ⟨z0, z1⟩ := blk2 hHeld
      have zf := hHeld.free 0
      have HX3 := Lib.hid hHeld
      go_simp
      refine hK.out _ _ (fun h => absurd rfl h) (fun _ => ?_)
      clear hK K
      try simp only [Act.put, List.setIfInBounds_toArray, List.set_cons_zero, List.set_cons_succ, List.getElem_toArray, List.getElem_cons_succ, List.getElem_cons_zero]
      refine u_done (by kernel_rfl) ?_ _
      clear z0 z1 zf hHeld
      go_wp2_with fail
      go_roundw
      case rel =>
        refine ⟨k + 1, by omega, by go_num, _, s' ++ [⟨A', xl, c'⟩], Lib.hid ⟨N3.out.out rfl rfl 0 _, ?_, out_set HX3.out⟩⟩
        rw [HJ.out, ← HPK.out]; unfold ps; rw [List.map_append]; rfl
      case measure => simp [intOf]; omega
    · have HPS := Lib.hid (show ps s' = ps s by rw [HR.out.2.1, List.take_of_length_le (by omega)])
      have HN1 := Lib.hid HR.out.1
      have HX1 := Lib.hid HR.out.2.2
      obtain ⟨b0, b1⟩ := blk2 (fix_arg HR.out.1)
      simp only at b0 b1
      clear HR HLEN HN0 HX0
      go_wp2_with fail
      clear b0 b1
      go_loopw [26] (fun i wr => ∃ k : Nat, k ≤ m.length ∧ i = .int .i64 k ∧ ∃ oM m', Hid (NS w wr (w.heap.size + 3) [(w.heap.size, 31, #[.slice A s.length ca, .slice B m.length cb]), (w.heap.size + 1, 31, #[.slice none 0 0, .slice none 0 0])] oS oM s' m' ∧ pm m' = pm (m.take k) ∧ Blk wr (w.heap.size + 2) 31 #[oS, oM])) (fun i _ => m.length - (intOf i).toNat)
      case atStart => exact ⟨0, by omega, rfl, .slice none 0 0, [], Lib.hid ⟨HN1.out, by simp [pm], HX1.out⟩⟩
      case round =>
      obtain ⟨k, hk, rfl, oM, m', HR⟩ := hrel
      have HLEN := Lib.hid (show m'.length = k by have := congrArg List.length HR.out.2.1; simpa [pm_len, Nat.min_eq_left hk] using this)
      by_cases hlt : k < m.length
      · have hmem := List.getElem_mem hlt
        have HCx := Lib.hid (HCm.out m[k] hmem)
        obtain ⟨sd, rfl, _, ⟨c0, c1, c2⟩, -⟩ := (HM.out.below HR.out.1.bel (Nat.le_refl _)).at_ hlt
        have HJ := Lib.hid (pm_snoc m k hlt)
        clear hmem
        obtain ⟨x, hx⟩ : ∃ x, m[k] = x := ⟨_, rfl⟩
        rw [hx] at c0 c1 c2 HCx HJ
        clear hx
        obtain ⟨yf, yt, yA, yl, yc⟩ := x
        have HC : Hid (∀ W, Below w.heap.size w W → Calls Try.prog 69 #[.int .i64 yf, .int .i64 yt, .slice yA yl.length yc] W fun e w' => ∃ A' c', e = .returned (.agg #[.int .i64 yf, .int .i64 yt, .slice A' yl.length c']) ∧ HeldX w' ⟨A', yl, c'⟩ W.heap.size w'.heap.size ∧ Below W.heap.size W w') := HCx
        simp only at c0 c1 c2 HJ
        have HN := Lib.hid HR.out.1
        have HX := Lib.hid HR.out.2.2
        have HPK := Lib.hid HR.out.2.1
        clear HR HCx
        go_upto_region 10 with fail
        clear c0 c1 c2
        refine u_begin (fun W => Blk W (w.heap.size + 2) 31 #[oS, oM] ∧ Blk W wr.heap.size 51 #[.int .i64 yf, .int .i64 yt, .slice yA yl.length yc]) 12 (by kernel_rfl) ?_ (fun hHeld => ?_)
        · exact ⟨(HX.out.alloc (Obj.cells #[.int .i64 yf, .int .i64 yt, .slice yA yl.length yc] 51)).drew, (Blk.new wr 51 #[.int .i64 yf, .int .i64 yt, .slice yA yl.length yc]).drew⟩
        refine u_take (i := 0) (v := ?_) rfl (by kernel_rfl) (by kernel_rfl) (by kernel_rfl) (by kernel_rfl) (fun _ _ _ h => h) (Or.inl ⟨by rfl, ?_⟩) hHeld ?_
        rotate_left
        · intro W hSw
          obtain ⟨hs1, hs2⟩ := blk2 hSw.1
          obtain ⟨hs3, hs4, hs5⟩ := blk3 hSw.2
          go_simp
          try with_reducible rfl
        try simp only [Act.put, List.setIfInBounds_toArray, List.set_cons_zero, List.set_cons_succ, List.getElem_toArray, List.getElem_cons_succ, List.getElem_cons_zero]
        refine u_take (i := 1) (v := ?_) rfl (by kernel_rfl) (by kernel_rfl) (by kernel_rfl) (by kernel_rfl) (fun _ _ _ h => h) (Or.inl ⟨by rfl, ?_⟩) hHeld ?_
        rotate_left
        · intro W hSw
          obtain ⟨hs1, hs2⟩ := blk2 hSw.1
          obtain ⟨hs3, hs4, hs5⟩ := blk3 hSw.2
          go_simp
          try with_reducible rfl
        try simp only [Act.put, List.setIfInBounds_toArray, List.set_cons_zero, List.set_cons_succ, List.getElem_toArray, List.getElem_cons_succ, List.getElem_cons_zero]
        refine u_take (i := 2) (v := ?_) rfl (by kernel_rfl) (by kernel_rfl) (by kernel_rfl) (by kernel_rfl) (fun _ _ _ h => h) (Or.inl ⟨by rfl, ?_⟩) hHeld ?_
        rotate_left
        · intro W hSw
          obtain ⟨hs1, hs2⟩ := blk2 hSw.1
          obtain ⟨hs3, hs4, hs5⟩ := blk3 hSw.2
          go_simp
          try with_reducible rfl
        try simp only [Act.put, List.setIfInBounds_toArray, List.set_cons_zero, List.set_cons_succ, List.getElem_toArray, List.getElem_cons_succ, List.getElem_cons_zero]
        refine u_take (i := 3) (v := ?_) rfl (by kernel_rfl) (by kernel_rfl) (by kernel_rfl) (by kernel_rfl) (fun _ _ _ h => h) (Or.inl ⟨by rfl, ?_⟩) hHeld ?_
        rotate_left
        · intro W hSw
          obtain ⟨hs1, hs2⟩ := blk2 hSw.1
          obtain ⟨hs3, hs4, hs5⟩ := blk3 hSw.2
          go_simp
          try with_reducible rfl
        try simp only [Act.put, List.setIfInBounds_toArray, List.set_cons_zero, List.set_cons_succ, List.getElem_toArray, List.getElem_cons_succ, List.getElem_cons_zero]
        refine u_take (i := 4) (v := ?_) rfl (by kernel_rfl) (by kernel_rfl) (by kernel_rfl) (by kernel_rfl) (fun _ _ _ h => h) (Or.inl ⟨by rfl, ?_⟩) hHeld ?_
        rotate_left
        · intro W hSw
          obtain ⟨hs1, hs2⟩ := blk2 hSw.1
          obtain ⟨hs3, hs4, hs5⟩ := blk3 hSw.2
          go_simp
          try with_reducible rfl
        try simp only [Act.put, List.setIfInBounds_toArray, List.set_cons_zero, List.set_cons_succ, List.getElem_toArray, List.getElem_cons_succ, List.getElem_cons_zero]
        refine u_take (i := 5) (v := ?_) rfl (by kernel_rfl) (by kernel_rfl) (by kernel_rfl) (by kernel_rfl) (fun _ _ _ h => h) (Or.inl ⟨by rfl, ?_⟩) hHeld ?_
        rotate_left
        · intro W hSw
          obtain ⟨hs1, hs2⟩ := blk2 hSw.1
          obtain ⟨hs3, hs4, hs5⟩ := blk3 hSw.2
          go_simp
          try with_reducible rfl
        try simp only [Act.put, List.setIfInBounds_toArray, List.set_cons_zero, List.set_cons_succ, List.getElem_toArray, List.getElem_cons_succ, List.getElem_cons_zero]
        refine u_take (i := 6) (v := ?_) rfl (by kernel_rfl) (by kernel_rfl) (by kernel_rfl) (by kernel_rfl) (fun _ _ _ h => h) (Or.inl ⟨by rfl, ?_⟩) hHeld ?_
        rotate_left
        · intro W hSw
          obtain ⟨hs1, hs2⟩ := blk2 hSw.1
          obtain ⟨hs3, hs4, hs5⟩ := blk3 hSw.2
          go_simp
          try with_reducible rfl
        try simp only [Act.put, List.setIfInBounds_toArray, List.set_cons_zero, List.set_cons_succ, List.getElem_toArray, List.getElem_cons_succ, List.getElem_cons_zero]
        refine u_take (i := 7) (v := ?_) rfl (by kernel_rfl) (by kernel_rfl) (by kernel_rfl) (by kernel_rfl) (fun _ _ _ h => h) (Or.inl ⟨by rfl, ?_⟩) hHeld ?_
        rotate_left
        · intro W hSw
          obtain ⟨hs1, hs2⟩ := blk2 hSw.1
          obtain ⟨hs3, hs4, hs5⟩ := blk3 hSw.2
          go_simp
          try with_reducible rfl
        try simp only [Act.put, List.setIfInBounds_toArray, List.set_cons_zero, List.set_cons_succ, List.getElem_toArray, List.getElem_cons_succ, List.getElem_cons_zero]
        refine u_one (i := 8) (by kernel_rfl) rfl (fun K hK => ?_)
        go_simp
        refine (HC.out _ (HN.out.alloc (Obj.cells #[.int .i64 yf, .int .i64 yt, .slice yA yl.length yc] 51)).bel.drew).mono ?_
        rintro e w1 ⟨A', c', rfl, hx, hb⟩
        have N1 := Lib.hid ((HN.out.alloc (Obj.cells #[.int .i64 yf, .int .i64 yt, .slice yA yl.length yc] 51)).drew.step hb)
        have R1 := Lib.hid (show HeldL w1 ((s' ++ m'.map (fun y => y.x)) ++ [⟨A', yl, c'⟩]) (w.heap.size + 3) w1.heap.size from (((HN.out.r0.step ((Below.refl _ wr).alloc (Nat.le_refl _) (Obj.cells #[.int .i64 yf, .int .i64 yt, .slice yA yl.length yc] 51)) (.inr (Nat.le_refl _))).step ((Below.refl _ (World.alloc wr (Obj.cells #[.int .i64 yf, .int .i64 yt, .slice yA yl.length yc] 51))).drew) (.inr (Nat.le_refl _))).step hb (.inr (Nat.le_refl _))).snoc hx (Nat.le_trans HN.out.hs (by show wr.heap.size ≤ (World.alloc wr (Obj.cells #[.int .i64 yf, .int .i64 yt, .slice yA yl.length yc] 51)).heap.size; simp)) (by show wr.heap.size ≤ (World.alloc wr (Obj.cells #[.int .i64 yf, .int .i64 yt, .slice yA yl.length yc] 51)).heap.size; simp) (Nat.le_trans (by show wr.heap.size ≤ (World.alloc wr (Obj.cells #[.int .i64 yf, .int .i64 yt, .slice yA yl.length yc] 51)).heap.size; simp) hb.size))
        have HS1 := Lib.hid (show wr.heap.size < w1.heap.size from Nat.lt_of_lt_of_le (by show wr.heap.size < (World.alloc wr (Obj.cells #[.int .i64 yf, .int .i64 yt, .slice yA yl.length yc] 51)).heap.size; simp) hb.size)
        clear hx
        refine hK.out _ _ (fun _ => ?_) (fun hHeld0 => ?_)
        · exact ⟨hHeld.1.on hb, hHeld.2.on hb⟩
        have hHeld := hHeld0 (by decide)
        clear hHeld0 hK K
        try simp only [Act.put, List.setIfInBounds_toArray, List.set_cons_zero, List.set_cons_succ, List.getElem_toArray, List.getElem_cons_succ, List.getElem_cons_zero]
        refine u_one (i := 9) (by kernel_rfl) rfl (fun K hK => ?_)
        have N2 := Lib.hid (N1.out.alloc (Obj.cells #[.int .i64 yf, .int .i64 yt, .slice A' yl.length c'] 51))
        have R2 := Lib.hid (show HeldL (w1.alloc (Obj.cells #[.int .i64 yf, .int .i64 yt, .slice A' yl.length c'] 51)) ((s' ++ m'.map (fun y => y.x)) ++ [⟨A', yl, c'⟩]) (w.heap.size + 3) (w1.alloc (Obj.cells #[.int .i64 yf, .int .i64 yt, .slice A' yl.length c'] 51)).heap.size from (R1.out.step ((Below.refl _ w1).alloc (Nat.le_refl _) (Obj.cells #[.int .i64 yf, .int .i64 yt, .slice A' yl.length c'] 51)) (.inr (Nat.le_refl _))).wide (Nat.le_refl _) (by simp))
        go_simp
        refine hK.out _ _ (fun _ => ?_) (fun hHeld0 => ?_)
        · exact ⟨hHeld.1.alloc _, hHeld.2.alloc _⟩
        have hHeld := hHeld0 (by decide)
        clear hHeld0 hK K
        try simp only [Act.put, List.setIfInBounds_toArray, List.set_cons_zero, List.set_cons_succ, List.getElem_toArray, List.getElem_cons_succ, List.getElem_cons_zero]
        refine u_one (i := 10) (by kernel_rfl) rfl (fun K hK => ?_)
        have hX2 := Lib.hid hHeld
        refine Dep.wanted_in (by rfl) ?_
        refine wp_app fit_letters rfl rfl (mv [⟨yf, yt, ⟨A', yl, c'⟩⟩]) rfl rfl N2.out.m0 (cl_one_at _ _ #[.int .i64 yf, .int .i64 yt, .slice A' yl.length c'] rfl) rfl (mv_one _) (by have := HLEN.out; omega) N2.out.hs ?_
        intro v2 w2 ho2 hg2 hn2
        obtain ⟨A2, c2, rfl, -⟩ := o_val ho2
        have N3 := Lib.hid (N2.out.addM (y := ⟨yf, yt, ⟨A', yl, c'⟩⟩) R2.out ho2 hg2)
        have hxb := grown_out N2.out.m0 hg2 (by omega) hX2.out.1
        have hxl : Blk w2 wr.heap.size 51 #[.int .i64 yf, .int .i64 yt, .slice yA yl.length yc] := (hg2.block _ hX2.out.2.lt (fun e => by have := o_lt HN.out.m0 _ e.symm; omega)).trans hX2.out.2
        clear ho2 hg2 hn2 hX2
        refine hK.out _ _ (fun _ => ?_) (fun hHeld0 => ?_)
        · exact ⟨hxb, hxl⟩
        have hHeld := hHeld0 (by decide)
        clear hHeld0 hK K
        try simp only [Act.put, List.setIfInBounds_toArray, List.set_cons_zero, List.set_cons_succ, List.getElem_toArray, List.getElem_cons_succ, List.getElem_cons_zero]
        refine u_take (i := 11) (v := ?_) rfl (by kernel_rfl) (by kernel_rfl) (by kernel_rfl) (by kernel_rfl) (fun _ _ _ h => h) (Or.inl ⟨by rfl, ?_⟩) hHeld ?_
        rotate_left
        · intro W hSw
          obtain ⟨hs1, hs2⟩ := blk2 hSw.1
          obtain ⟨hs3, hs4, hs5⟩ := blk3 hSw.2
          go_simp
          try with_reducible rfl
        try simp only [Act.put, List.setIfInBounds_toArray, List.set_cons_zero, List.set_cons_succ, List.getElem_toArray, List.getElem_cons_succ, List.getElem_cons_zero]
        refine u_one (i := 12) (by kernel_rfl) rfl (fun K hK => ?_)
        obtain ⟨z0, z1⟩ := blk2 hHeld.1
        have zf := hHeld.1.free 1
        have HX3 := Lib.hid hHeld.1
        go_simp
        refine hK.out _ _ (fun h => absurd rfl h) (fun _ => ?_)
        clear hK K
        try simp only [Act.put, List.setIfInBounds_toArray, List.set_cons_zero, List.set_cons_succ, List.getElem_toArray, List.getElem_cons_succ, List.getElem_cons_zero]
        refine u_done (by kernel_rfl) ?_ _
        clear z0 z1 zf hHeld
        go_wp2_with fail
        go_roundw
        case rel =>
          refine ⟨k + 1, by omega, by go_num, _, m' ++ [⟨yf, yt, ⟨A', yl, c'⟩⟩], Lib.hid ⟨N3.out.out rfl rfl 1 _, ?_, out_set1 HX3.out⟩⟩
          rw [HJ.out, ← HPK.out]; unfold pm; rw [List.map_append]; rfl
        case measure => simp [intOf]; omega
      rw [List.take_of_length_le (by omega)] at HR
      clear HLEN
      obtain ⟨n', e1, e2, e3, e4, hown⟩ := HR.out.1.net
      subst e1 e2 e3 e4
      have HOW := Lib.hid hown
      have HPM := Lib.hid HR.out.2.1
      have HBL := Lib.hid HR.out.1.bel
      obtain ⟨r0, r1⟩ := blk2 (fix_res HR.out.1)
      obtain ⟨x0, x1⟩ := blk2 HR.out.2.2
      have f0 := (fix_res HR.out.1).free 0
      have f1 := (fix_res HR.out.1).free 1
      simp only at r0 r1 f0 f1
      clear HR hown
      go_wp2_with fail
      refine bodyPost_ret (v := n'.val) (by simp [results, Try.results50, go_sem, Nt.val, r0, r1]) rfl ⟨n', rfl, ?_, ?_, ?_⟩
      · unfold pl; rw [HPS.out, HPM.out]
      · exact ((HOW.out.set (p := ⟨w.heap.size + 1, 0, none⟩) (by show w.heap.size + 1 < w.heap.size + 3; omega) _).set (p := ⟨w.heap.size + 1, 1, none⟩) (by show w.heap.size + 1 < w.heap.size + 3; omega) _).less (by omega)
      · exact (HBL.out.setCell (p := ⟨w.heap.size + 1, 0, none⟩) (by show w.heap.size ≤ w.heap.size + 1; omega) _).setCell (p := ⟨w.heap.size + 1, 1, none⟩) (by show w.heap.size ≤ w.heap.size + 1; omega) _
end Go.Proofs.Ythagkjofpfafiaa.Net
