/-
  The law's own toCut, szCut, eqCut; a parameter that is a shelf, opened.
-/
import Derived.Test.YtegnjbdgeibhfaaRsCutI
import Derived.Test.YtegnjbdgeibhfaaRsOpen
namespace Go.Proofs.Ytegnjbdgeibhfaa.Rs
open Go.ChangeShapes Go.WideShapes Go.ChangeAt Go.RowKit
open Rec (R P Sound Small recV cellsV)
open Net (Cl Bk HeldV)
open Dep (add_block add_add cell_lt)
set_option linter.unusedVariables false
set_option maxRecDepth 100000
set_option linter.unusedSimpArgs false

/-- A shelf, and where its lists lie. -/
structure Ct where
  A : Option Addr
  s : List Q
  ca : Nat
  B : Option Addr
  m : List Q
  cb : Nat
def Ct.val (n : Ct) : Value := .agg #[.slice n.A n.s.length n.ca, .slice n.B n.m.length n.cb]
def CLies (w : World) (B : Nat) (n : Ct) : Prop := LRs w B n.A n.s ∧ LRs w B n.B n.m
theorem CLies.on {w w' : World} {n : Ct} (h : CLies w w.heap.size n) (hb : Below w.heap.size w w') : CLies w' w'.heap.size n := ⟨h.1.on hb, h.2.on hb⟩
def pc (n : Ct) : List R × List R := (pr n.s, pr n.m)

theorem Above.less {M M' : Nat} {W W' : World} (h : Above M W W') (hM : M ≤ M') : Above M' W W' := ⟨h.1, fun k hk => h.2 k (by omega)⟩
theorem HeldQ.above {w w' : World} : ∀ {l : List Q} {a b : Nat}, HeldQ w l a b → Above a w w' → HeldQ w' l a b
  | [], _, _, h, _ => h
  | q :: l, _, _, ⟨m, h1, h2, h3⟩, ha => ⟨m, h1, h2.above ha, HeldQ.above h3 (Above.less ha h1)⟩
theorem bk_above {w w' : World} {g t n a : Nat} {vs : List Value} (h : Bk w g t n vs) (ha : Above a w w') (hg : a ≤ g) : Bk w' g t n vs := h.same (ha.2 g hg)

set_option maxHeartbeats 2000000 in
set_option maxRecDepth 100000 in
theorem toCutH_any (n : Ct) (w : World) (h : CLies w w.heap.size n) (h1 : n.s.length ≤ 1048576) (h2 : n.m.length ≤ 1048576) (hll : ∀ q ∈ n.s ++ n.m, q.r.l.length ≤ 1048576 ∧ q.r.b.length ≤ 1048576) :
    Calls Try.prog 13 #[n.val] w fun e w' => ∃ (g g2 : Nat) (s' m' : List Q), e = .returned (Ct.val ⟨some ⟨g, 0, none⟩, s', s'.length, some ⟨g2, 0, none⟩, m', m'.length⟩) ∧ pr s' = pr n.s ∧ pr m' = pr n.m ∧ (∃ mid, HeldV w' (some ⟨g, 0, none⟩) 61 (rv s') w.heap.size mid ∧ HeldQ w' s' w.heap.size mid ∧ HeldV w' (some ⟨g2, 0, none⟩) 61 (rv m') mid w'.heap.size ∧ HeldQ w' m' mid w'.heap.size) ∧ Below w.heap.size w w' := by
  obtain ⟨A, s, ca, B, m, cb⟩ := n
  have HS := Lib.hid (fun W (hW : Below w.heap.size w W) => toRecS_any A s ca W (h.1.on hW) h1 (fun x hx => hll x (List.mem_append_left _ hx)))
  have HM := Lib.hid (fun W (hW : Below w.heap.size w W) => toRecS_any B m cb W (h.2.on hW) h2 (fun x hx => hll x (List.mem_append_right _ hx)))
  clear h hll h1 h2
  unfold Ct.val
  have B0 := (((Below.refl w.heap.size w).alloc (Nat.le_refl _) (Obj.cells #[.slice A s.length ca, .slice B m.length cb] 37)).alloc (by simp) (Obj.cells #[.slice none 0 0, .slice none 0 0] 25)).alloc (by simp; omega) (Obj.cells #[.slice none 0 0, .slice none 0 0] 25)
  have p := (((Blk.new w 37 #[.slice A s.length ca, .slice B m.length cb]).alloc (Obj.cells #[.slice none 0 0, .slice none 0 0] 25)).alloc (Obj.cells #[.slice none 0 0, .slice none 0 0] 25))
  have r := (Blk.new (World.alloc (World.alloc w (Obj.cells #[.slice A s.length ca, .slice B m.length cb] 37)) (Obj.cells #[.slice none 0 0, .slice none 0 0] 25)) 25 #[.slice none 0 0, .slice none 0 0])
  have q := ((Blk.new (World.alloc w (Obj.cells #[.slice A s.length ca, .slice B m.length cb] 37)) 25 #[.slice none 0 0, .slice none 0 0]).alloc (Obj.cells #[.slice none 0 0, .slice none 0 0] 25))
  simp only [World.size_alloc] at p q r
  have hz := (show w.heap.size + 3 = (World.alloc (World.alloc (World.alloc w (Obj.cells #[.slice A s.length ca, .slice B m.length cb] 37)) (Obj.cells #[.slice none 0 0, .slice none 0 0] 25)) (Obj.cells #[.slice none 0 0, .slice none 0 0] 25)).heap.size by simp)
  go_enter Try.func13, Try.ntmps13
  go_wp2_with fail
  refine (HS.out _ B0).mono ?_
  rintro x w1 ⟨g, s', rfl, hps, hg, hbk, hhl, hb⟩
  rw [← hz] at hg hhl
  have P := Lib.hid (p.step hb (by omega))
  have Q := Lib.hid (q.step hb (by omega))
  have r1 := r.step hb (by omega)
  have B1 := Lib.hid (B0.trans (hb.mono (by omega)))
  have HBK := Lib.hid hbk
  have HHL := Lib.hid hhl
  have HPS := Lib.hid hps
  have hz1 := hb.size
  have hgl := hbk.lt
  clear hb hbk hhl hps p q r B0
  obtain ⟨p0, p1⟩ := cell2 P.out
  obtain ⟨r0, r1'⟩ := cell2 r1
  have f0 := r1.free 0
  have R1 := Lib.hid (r1.set 0 (.slice (some ⟨g, 0, none⟩) s'.length s'.length) rfl)
  clear r1
  go_wp2_with fail
  clear p0 p1 r0 r1' f0
  have B2 := B1.out.setCell (p := ⟨w.heap.size + 2, 0, none⟩) (by show w.heap.size ≤ w.heap.size + 2; omega) (.slice (some ⟨g, 0, none⟩) s'.length s'.length)
  refine (HM.out _ B2).mono ?_
  rintro x w2 ⟨g2, m', rfl, hpm, hg2, hbk2, hhl2, hb⟩
  rw [World.size_setCell] at hg2 hhl2
  have Q2 := ((Q.out.other (p := ⟨w.heap.size + 2, 0, none⟩) (by show w.heap.size + 1 ≠ w.heap.size + 2; omega) (.slice (some ⟨g, 0, none⟩) s'.length s'.length)).step hb (by rw [World.size_setCell]; omega))
  have P2 := ((P.out.other (p := ⟨w.heap.size + 2, 0, none⟩) (by show w.heap.size ≠ w.heap.size + 2; omega) (.slice (some ⟨g, 0, none⟩) s'.length s'.length)).step hb (by rw [World.size_setCell]; omega))
  have R2 := (R1.out.step hb (by rw [World.size_setCell]; omega))
  have B3 := Lib.hid (B2.trans (hb.mono (by rw [World.size_setCell]; omega)))
  have hab := (Above.refl (w.heap.size + 3) w1).set (p := ⟨w.heap.size + 2, 0, none⟩) (by show w.heap.size + 2 < _; omega) (.slice (some ⟨g, 0, none⟩) s'.length s'.length)
  have HBK1 := Lib.hid ((bk_above HBK.out hab hg).step hb (by rw [World.size_setCell]; omega))
  have hz2 := hb.size
  rw [World.size_setCell] at hz2
  have HHL1 := Lib.hid ((HHL.out.above hab).step hb (.inr (by rw [World.size_setCell]; exact Nat.le_refl _)))
  have HBK2 := Lib.hid hbk2
  have HHL2 := Lib.hid hhl2
  have HPM := Lib.hid hpm
  have hgl2 := hbk2.lt
  clear hb hbk2 hhl2 hpm B2 hab
  obtain ⟨p0, p1⟩ := cell2 P2
  obtain ⟨r0, r1⟩ := cell2 R2
  obtain ⟨q0, q1⟩ := cell2 Q2
  have f1 := R2.free 1
  have k0 := Q2.free 0
  have k1 := Q2.free 1
  clear P2 R2 Q2
  go_wp2_with fail
  have hA := (((Above.refl (w.heap.size + 3) w2).set (p := ⟨w.heap.size + 2, 1, none⟩) (by show w.heap.size + 2 < _; omega) (.slice (some ⟨g2, 0, none⟩) m'.length m'.length)).set (p := ⟨w.heap.size + 1, 0, none⟩) (by show w.heap.size + 1 < _; omega) (.slice (some ⟨g, 0, none⟩) s'.length s'.length)).set (p := ⟨w.heap.size + 1, 1, none⟩) (by show w.heap.size + 1 < _; omega) (.slice (some ⟨g2, 0, none⟩) m'.length m'.length)
  refine bodyPost_ret (v := Ct.val ⟨some ⟨g, 0, none⟩, s', s'.length, some ⟨g2, 0, none⟩, m', m'.length⟩) (by simp [results, Try.results13, go_sem, Ct.val, q0, q1]) rfl ⟨g, g2, s', m', rfl, HPS.out, HPM.out, ?_, ?_⟩
  · exact ⟨w1.heap.size, HeldV.of_bk (bk_above HBK1.out hA hg) (by omega) hgl, (HHL1.out.above hA).wide (by omega) (Nat.le_refl _), HeldV.of_bk (bk_above HBK2.out hA (by omega)) hg2 (by simp only [World.size_setCell]; omega), (HHL2.out.above (Above.less hA (by omega))).wide (Nat.le_refl _) (by simp only [World.size_setCell]; omega)⟩
  · exact ((B3.out.setCell (p := ⟨w.heap.size + 2, 1, none⟩) (by show w.heap.size ≤ w.heap.size + 2; omega) _).setCell (p := ⟨w.heap.size + 1, 0, none⟩) (by show w.heap.size ≤ w.heap.size + 1; omega) _).setCell (p := ⟨w.heap.size + 1, 1, none⟩) (by show w.heap.size ≤ w.heap.size + 1; omega) _

theorem toCut_any (n : Ct) (w : World) (h : CLies w w.heap.size n) (h1 : n.s.length ≤ 1048576) (h2 : n.m.length ≤ 1048576) (hll : ∀ q ∈ n.s ++ n.m, q.r.l.length ≤ 1048576 ∧ q.r.b.length ≤ 1048576) :
    Calls Try.prog 13 #[n.val] w fun e w' => ∃ (g g2 : Nat) (s' m' : List Q), e = .returned (Ct.val ⟨some ⟨g, 0, none⟩, s', s'.length, some ⟨g2, 0, none⟩, m', m'.length⟩) ∧ pr s' = pr n.s ∧ pr m' = pr n.m ∧ LRs w' w'.heap.size (some ⟨g, 0, none⟩) s' ∧ LRs w' w'.heap.size (some ⟨g2, 0, none⟩) m' ∧ Below w.heap.size w w' := by
  refine (toCutH_any n w h h1 h2 hll).mono ?_
  rintro e w' ⟨g, g2, s', m', rfl, e1, e2, ⟨mid, v1, q1, v2, q2⟩, hb⟩
  have hm := q2.le
  exact ⟨g, g2, s', m', rfl, e1, e2, ⟨v1.cl hm, q1.lies hm⟩, ⟨v2.cl (Nat.le_refl _), q2.lies (Nat.le_refl _)⟩, hb⟩

theorem szCut_any (n : Ct) (k : Int) (w : World) (h : CLies w w.heap.size n) (h1 : n.s.length ≤ maxLen) (h2 : n.m.length ≤ maxLen) (hs : ∀ q ∈ n.s ++ n.m, Sound q.r) (k0 : 0 ≤ k) (k1 : k ≤ 1048576) :
    Calls Try.prog 11 #[n.val, .int .i64 k] w fun e w' => ∃ r : Int, e = .returned (.int .i64 r) ∧ (r = -1 ∨ (0 ≤ r ∧ r + (n.s.length + tot n.s + (n.m.length + tot n.m) : Nat) ≤ k ∧ (n.s.length : Int) ≤ k ∧ (n.m.length : Int) ≤ k ∧ ∀ q ∈ n.s ++ n.m, Small q.r k)) ∧ Below w.heap.size w w' := by
  obtain ⟨A, s, ca, B, m, cb⟩ := n
  have HS := Lib.hid (fun W (hW : Below w.heap.size w W) => szRecS_any A s ca k W (h.1.on hW) h1 (fun x hx => hs x (List.mem_append_left _ hx)) k0 k1)
  have HM := Lib.hid (fun (j : Int) (j0 : 0 ≤ j) (j1 : j ≤ 1048576) W (hW : Below w.heap.size w W) => szRecS_any B m cb j W (h.2.on hW) h2 (fun x hx => hs x (List.mem_append_right _ hx)) j0 j1)
  have B0 := Lib.hid ((Below.refl w.heap.size w).alloc (Nat.le_refl _) (Obj.cells #[.slice A s.length ca, .slice B m.length cb] 37))
  have X0 := Lib.hid (Blk.new w 37 #[.slice A s.length ca, .slice B m.length cb])
  clear h hs h1 h2
  unfold Ct.val
  go_enter Try.func11, Try.ntmps11
  go_wp2_with fail
  refine (HS.out _ B0.out).mono ?_
  rintro e w1 ⟨r, rfl, hr, hb⟩
  have B1 := Lib.hid (B0.out.trans (hb.mono B0.out.size))
  have X1 := Lib.hid (X0.out.on hb)
  clear hb
  rcases hr with rfl | ⟨a0, a1, a2, a3⟩
  · go_wp2_with fail
    go_ret
    exact ⟨-1, rfl, .inl rfl, B1.out⟩
  have a00 : ¬ r < 0 := by omega
  have A3 := Lib.hid a3
  clear a3
  obtain ⟨x0, x1⟩ := cell2 X1.out
  go_wp2_with fail
  clear x0 x1
  refine (HM.out r a0 (by omega) _ B1.out).mono ?_
  rintro e w2 ⟨z, rfl, hz, hb⟩
  have B2 := Lib.hid (B1.out.trans (hb.mono B1.out.size))
  clear hb
  rcases hz with rfl | ⟨b0, b1, b2, b3⟩
  · go_wp2_with fail
    go_ret
    exact ⟨-1, rfl, .inl rfl, B2.out⟩
  have b00 : ¬ z < 0 := by omega
  have B3 := Lib.hid b3
  clear b3
  go_wp2_with fail
  go_ret
  refine ⟨z, rfl, .inr ⟨b0, by show z + (s.length + tot s + (m.length + tot m) : Nat) ≤ k; omega, a2, by show (m.length : Int) ≤ k; omega, fun q hq => ?_⟩, B2.out⟩
  rcases List.mem_append.1 hq with hq | hq
  · exact A3.out q hq
  · have h := B3.out q hq
    exact ⟨by have := h.1; omega, by have := h.2.1; omega, by have := h.2.2.1; omega, fun d hd => by have := h.2.2.2.1 d hd; omega, by have := h.2.2.2.2.1; omega, fun x hx => by have := h.2.2.2.2.2 x hx; omega⟩

theorem eqCut_same (n n' : Ct) (w : World) (h : CLies w w.heap.size n) (h' : CLies w w.heap.size n') (he : pc n = pc n') (h1 : n.s.length ≤ maxLen) (h2 : n.m.length ≤ maxLen) (hll : ∀ q ∈ n.s ++ n.m, q.r.l.length ≤ maxLen ∧ q.r.b.length ≤ maxLen) :
    Calls Try.prog 15 #[n.val, n'.val] w fun e w' => e = .returned (.bool true) ∧ Below w.heap.size w w' := by
  obtain ⟨A, s, ca, B, m, cb⟩ := n
  obtain ⟨A', s', ca', B', m', cb'⟩ := n'
  unfold pc at he
  injection he with e1 e2
  have HS := Lib.hid (fun W (hW : Below w.heap.size w W) => eqRecS_same A A' s s' ca ca' W (h.1.on hW) (h'.1.on hW) e1 h1 (fun x hx => hll x (List.mem_append_left _ hx)))
  have HM := Lib.hid (fun W (hW : Below w.heap.size w W) => eqRecS_same B B' m m' cb cb' W (h.2.on hW) (h'.2.on hW) e2 h2 (fun x hx => hll x (List.mem_append_right _ hx)))
  have B0 := Lib.hid (((Below.refl w.heap.size w).alloc (Nat.le_refl _) (Obj.cells #[.slice A s.length ca, .slice B m.length cb] 25)).alloc (by simp) (Obj.cells #[.slice A' s'.length ca', .slice B' m'.length cb'] 25))
  have X0 := Lib.hid ((Blk.new w 25 #[.slice A s.length ca, .slice B m.length cb]).alloc (Obj.cells #[.slice A' s'.length ca', .slice B' m'.length cb'] 25))
  have y0 := Blk.new (w.alloc (Obj.cells #[.slice A s.length ca, .slice B m.length cb] 25)) 25 #[.slice A' s'.length ca', .slice B' m'.length cb']
  simp only [World.size_alloc] at y0
  have Y0 := Lib.hid y0
  clear h h' e1 e2 hll y0 h1 h2
  unfold Ct.val
  go_enter Try.func15, Try.ntmps15
  go_wp2_with fail
  refine (HS.out _ B0.out).mono ?_
  rintro e w1 ⟨rfl, hb⟩
  have B1 := Lib.hid (B0.out.trans (hb.mono B0.out.size))
  obtain ⟨x0, x1⟩ := cell2 (X0.out.on hb)
  obtain ⟨y0, y1⟩ := cell2 (Y0.out.on hb)
  clear hb
  go_wp2_with fail
  refine (HM.out _ B1.out).mono ?_
  rintro e w2 ⟨rfl, hb⟩
  have B2 := Lib.hid (B1.out.trans (hb.mono B1.out.size))
  clear hb
  go_wp2_with fail
  go_ret
  exact ⟨rfl, B2.out⟩

/-- A shelf as it comes in. -/
def IsCut (w : World) (n : Ct) : Prop := CLies w w.heap.size n ∧ n.s.length ≤ maxLen ∧ n.m.length ≤ maxLen ∧ ∀ q ∈ n.s ++ n.m, Sound q.r

theorem open_cut {H : Type} {enc : TypeId × Value → H} {w : World} {spare : Nat → Bool} {held : Bool} {v : Value} {d : DataW H} {pl : List MemPlace} {rr : Reach} {b0 : Nat}
    (hv : Value.okWide Try.prog w rr b0 37 v) (h : DataW.Trod enc Try.prog w 0 spare held 37 v d pl) : ∃ n : Ct, v = n.val ∧ IsCut w n := by
  obtain ⟨cs, rfl, hsz⟩ := okWide_struct Try.underlying37 hv
  obtain ⟨fuel, hf⟩ := h
  obtain ⟨xs, k, _, _, hl, hxl, hg⟩ := DataW.trod_struct Try.underlying37 hf
  have hc : Try.prog.cellsOf 37 = 2 := by kernel_rfl
  rw [hc] at hsz
  have hcells : (Value.agg cs).cells = cs := rfl
  rw [hcells] at hg
  obtain ⟨cl, hcl⟩ : ∃ cl, cs.toList = cl := ⟨_, rfl⟩
  have hlen : cl.length = 2 := by rw [← hcl]; simpa using hsz
  rw [hcl] at hg
  match xs, hxl, cl, hlen with
  | [y0, y1], _, [v0, v1], _ =>
    have g0 := hg 0 ⟨"Rows", 35, 0, false, "", "", 0⟩ rfl
    have g1 := hg 1 ⟨"Wait", 35, 1, false, "", "", 24⟩ rfl
    have c0 : Try.prog.cellsOf 35 = 1 := by kernel_rfl
    simp [c0] at g0 g1
    obtain ⟨A, s, ca, e0, hs, hsl, hsr⟩ := recs_of g0
    obtain ⟨B, m, cb, e1, hm, hml, hmr⟩ := recs_of g1
    cases e0; cases e1
    refine ⟨⟨A, s, ca, B, m, cb⟩, ?_, ⟨hs, hm⟩, hsl, hml, fun x hx => ?_⟩
    · unfold Ct.val
      congr 1
      exact Array.toList_inj.1 (by rw [hcl])
    · rcases List.mem_append.1 hx with hx | hx
      · exact hsr x hx
      · exact hmr x hx
end Go.Proofs.Ytegnjbdgeibhfaa.Rs
