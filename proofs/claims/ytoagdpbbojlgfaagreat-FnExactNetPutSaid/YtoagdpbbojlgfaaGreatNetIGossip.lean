/-
  impl.Gossip, impl.mailCode, impl.Twice.
-/
import Derived.Test.YtoagdpbbojlgfaaGreatPackNCp
import Derived.Test.YtoagdpbbojlgfaaGreatPackNRt
namespace Go.Proofs.YtoagdpbbojlgfaaGreat.Net
open Go.ChangeShapes Go.WideShapes Go.ChangeAt Go.RowKit
open Sto (R Sl flat)
set_option linter.unusedVariables false
set_option maxRecDepth 100000
set_option linter.unusedSimpArgs false

theorem AnsN.put3 {w v : World} {n : Nt} {c : Int} {p : List (List R) × List Pm} {a b : Nat} (hh : HeldN v n a v.heap.size) (hp : pl n = p) (hB : Below w.heap.size w v) (hb : b < a) (hw : w.heap.size ≤ b) (ha : w.heap.size ≤ a) (u0 u1 u2 : Value) :
    AnsN w (.returned (Nt.out n c)) (((v.setCell ⟨b, 0, none⟩ u0).setCell ⟨b, 1, none⟩ u1).setCell ⟨b, 2, none⟩ u2) p c := by
  refine ⟨n, rfl, hp, ?_, ((hB.setCell (p := ⟨b, 0, none⟩) hw u0).setCell (p := ⟨b, 1, none⟩) hw u1).setCell (p := ⟨b, 2, none⟩) hw u2⟩
  have hA := (((Above.refl a v).set (p := ⟨b, 0, none⟩) hb u0).set (p := ⟨b, 1, none⟩) hb u1).set (p := ⟨b, 2, none⟩) hb u2
  have := (hh.above hA).wide (a' := w.heap.size) (b' := v.heap.size) ha (Nat.le_refl _)
  simpa using this
theorem way_place {k : Nat} {f t : Int} (h : way k f t = true) : place k f = true ∧ place k t = true := by
  unfold way at h
  rw [Bool.and_eq_true, Bool.and_eq_true] at h
  exact h.1
theorem place_nat {k : Nat} {i : Int} (h : place k i = true) : ∃ j : Nat, i = j ∧ j < k := by
  unfold place Id.inB at h
  have := of_decide_eq_true h
  exact ⟨i.toNat, by omega, by omega⟩

noncomputable def gosC (p : List (List R) × List Pm) (f t : Int) : Int := if netB p = true then (if way p.1.length f t = true then (if p.2.length = 40 then 9 else 0) else 6) else 1
noncomputable def gosP (p : List (List R) × List Pm) (f t : Int) : List (List R) × List Pm := if netB p = true then (if way p.1.length f t = true then (if p.2.length = 40 then ([], []) else addP p ⟨f, t, p.1.getD f.toNat []⟩) else ([], [])) else ([], [])

set_option maxHeartbeats 4000000 in
set_option maxRecDepth 100000 in
theorem implGossip_any (n : Nt) (f t : Int) (w : World) (h : NLies w w.heap.size n) (hL : Little n) :
    Calls Tryz.prog 91 #[n.val, .int .i64 f, .int .i64 t] w fun e w' => AnsN w e w' (gosP (pl n) f t) (gosC (pl n) f t) := by
  have hsl : n.s.length ≤ 1048576 := by have := hL.1; omega
  have hml : n.m.length ≤ 1048576 := by have := hL.1; omega
  have B0 := ((Below.refl w.heap.size w).alloc (Nat.le_refl _) (Obj.cells #[.slice n.A n.s.length n.ca, .slice n.B n.m.length n.cb] 35)).alloc (by simp) (Obj.cells #[.slice none 0 0, .slice none 0 0, .int .i64 0] 37)
  have p0 := (Blk.new w 35 #[.slice n.A n.s.length n.ca, .slice n.B n.m.length n.cb]).alloc (Obj.cells #[.slice none 0 0, .slice none 0 0, .int .i64 0] 37)
  have p1 := Blk.new (World.alloc w (Obj.cells #[.slice n.A n.s.length n.ca, .slice n.B n.m.length n.cb] 35)) 37 #[.slice none 0 0, .slice none 0 0, .int .i64 0]
  simp only [World.size_alloc] at p1
  have hz : (World.alloc (World.alloc w (Obj.cells #[.slice n.A n.s.length n.ca, .slice n.B n.m.length n.cb] 35)) (Obj.cells #[.slice none 0 0, .slice none 0 0, .int .i64 0] 37)).heap.size = w.heap.size + 2 := by simp
  have HZ := Lib.hid hz
  have HB0 := Lib.hid B0
  have HP0 := Lib.hid p0
  have HP1 := Lib.hid p1
  clear hz B0 p0 p1
  have HP1L := Lib.hid (show (pl n).1.length = n.s.length from ps_len _)
  have HP2L := Lib.hid (show (pl n).2.length = n.m.length from pm_len _)
  have HRT := Lib.hid (fun W (hW : Below w.heap.size w W) => implRight_any n W (h.on hW) hL)
  have HIW := Lib.hid (fun W => isWay_any n f t W hsl)
  cases hr : netB (pl n)
  · have HR := Lib.hid hr
    have HGC := Lib.hid (show gosC (pl n) f t = 1 by unfold gosC; rw [if_neg (by rw [hr]; decide)])
    have HGP := Lib.hid (show gosP (pl n) f t = ([], []) by unfold gosP; rw [if_neg (by rw [hr]; decide)])
    rw [HGC.out, HGP.out]
    clear hr h hL HGC HGP
    unfold Nt.val at HRT ⊢
    go_enter Tryz.func91, Tryz.ntmps91
    go_wp2_with fail
    refine (HRT.out _ HB0.out).mono ?_
    rintro e w1 ⟨rfl, hb⟩
    rw [HR.out]
    have HB0 := Lib.hid (HB0.out.trans (hb.mono HB0.out.size))
    have HP0 := Lib.hid (HP0.out.on hb)
    have HP1 := Lib.hid (HP1.out.on hb)
    have HZ := Lib.hid (show w.heap.size + 2 ≤ w1.heap.size from by have := HZ.out; have := hb.size; omega)
    clear hb
    obtain ⟨q0, q1, q2⟩ := blk3 HP1.out
    have g0 := HP1.out.free 0
    have g1 := HP1.out.free 1
    have g2 := HP1.out.free 2
    go_wp2_with fail
    refine bodyPost_ret (v := .agg #[.slice none 0 0, .slice none 0 0, .int .i64 1]) (by simp [results, Tryz.results91, go_sem, q0, q1, q2]) rfl ?_
    exact AnsN.ill (((HB0.out.setCell (p := ⟨w.heap.size + 1, 0, none⟩) (by show w.heap.size ≤ w.heap.size + 1; omega) _).setCell (p := ⟨w.heap.size + 1, 1, none⟩) (by show w.heap.size ≤ w.heap.size + 1; omega) _).setCell (p := ⟨w.heap.size + 1, 2, none⟩) (by show w.heap.size ≤ w.heap.size + 1; omega) _)
  have HR := Lib.hid hr
  cases hw : way n.s.length f t
  · have HW := Lib.hid hw
    have HGC := Lib.hid (show gosC (pl n) f t = 6 by unfold gosC; rw [if_pos hr, HP1L.out, if_neg (by rw [hw]; decide)])
    have HGP := Lib.hid (show gosP (pl n) f t = ([], []) by unfold gosP; rw [if_pos hr, HP1L.out, if_neg (by rw [hw]; decide)])
    rw [HGC.out, HGP.out]
    clear hr hw h hL HGC HGP
    unfold Nt.val at HRT HIW ⊢
    go_enter Tryz.func91, Tryz.ntmps91
    go_wp2_with fail
    refine (HRT.out _ HB0.out).mono ?_
    rintro e w1 ⟨rfl, hb⟩
    rw [HR.out]
    have HB0 := Lib.hid (HB0.out.trans (hb.mono HB0.out.size))
    have HP0 := Lib.hid (HP0.out.on hb)
    have HP1 := Lib.hid (HP1.out.on hb)
    have HZ := Lib.hid (show w.heap.size + 2 ≤ w1.heap.size from by have := HZ.out; have := hb.size; omega)
    clear hb
    obtain ⟨b0, b1⟩ := blk2 HP0.out
    go_wp2_with fail
    refine (HIW.out _).mono ?_
    rintro e w2 ⟨rfl, hb⟩
    rw [HW.out]
    have HB0 := Lib.hid (HB0.out.trans (hb.mono HB0.out.size))
    have HP0 := Lib.hid (HP0.out.on hb)
    have HP1 := Lib.hid (HP1.out.on hb)
    have HZ := Lib.hid (show w.heap.size + 2 ≤ w2.heap.size from by have := HZ.out; have := hb.size; omega)
    clear hb
    clear b0 b1
    obtain ⟨q0, q1, q2⟩ := blk3 HP1.out
    have g0 := HP1.out.free 0
    have g1 := HP1.out.free 1
    have g2 := HP1.out.free 2
    go_wp2_with fail
    refine bodyPost_ret (v := .agg #[.slice none 0 0, .slice none 0 0, .int .i64 6]) (by simp [results, Tryz.results91, go_sem, q0, q1, q2]) rfl ?_
    exact AnsN.ill (((HB0.out.setCell (p := ⟨w.heap.size + 1, 0, none⟩) (by show w.heap.size ≤ w.heap.size + 1; omega) _).setCell (p := ⟨w.heap.size + 1, 1, none⟩) (by show w.heap.size ≤ w.heap.size + 1; omega) _).setCell (p := ⟨w.heap.size + 1, 2, none⟩) (by show w.heap.size ≤ w.heap.size + 1; omega) _)
  have HW := Lib.hid hw
  obtain ⟨k, rfl, hk⟩ := place_nat (way_place hw).1
  have HC0 := Lib.hid (fun W (hW : Below w.heap.size w W) => (h.1.below hW (Nat.le_refl _)).at_ hk)
  have hxf := hL.2 n.s[k] (List.mem_append_left _ (List.getElem_mem hk))
  have hxl : n.s[k].l.length ≤ 1048576 := by have := tot_mem (List.mem_append_left (n.m.map (·.x)) (List.getElem_mem hk) : n.s[k] ∈ n.all); have := hL.1; omega
  have hgd : (pl n).1.getD k [] = n.s[k].l := by
    show (ps n.s).getD k [] = _
    unfold ps; simp [List.getD, hk]
  obtain ⟨ad, hA, _⟩ := HC0.out w (Below.refl _ _)
  have HLX := Lib.hid (show ∀ W, Below w.heap.size w W → Sto.Lies W W.heap.size n.s[k].A n.s[k].l from fun W hW => by
    obtain ⟨_, _, _, _, hl⟩ := HC0.out W hW
    exact hl.more hW.size)
  have HCELL := Lib.hid (show ∀ W, Below w.heap.size w W → W.cell? (ad.add k) = some (.slice n.s[k].A n.s[k].l.length n.s[k].c) from fun W hW => by
    obtain ⟨ad', e, _, hc, _⟩ := HC0.out W hW
    rw [hA] at e
    cases e
    exact hc)
  have HWM := Lib.hid (fun W (hW : Below w.heap.size w W) => withMail_any n k t n.s[k].A n.s[k].l n.s[k].c W (h.on hW) hL (HLX.out W hW) hxl hxf)
  obtain ⟨jp, hjp⟩ : ∃ jp, (if n.m.length = 40 then ([], []) else addP (pl n) ⟨(k : Int), t, n.s[k].l⟩) = jp := ⟨_, rfl⟩
  obtain ⟨jc, hjc⟩ : ∃ jc : Int, (if n.m.length = 40 then 9 else 0) = jc := ⟨_, rfl⟩
  have HJP := Lib.hid (show jp = gosP (pl n) k t by unfold gosP; rw [if_pos hr, HP1L.out, if_pos hw, HP2L.out, Int.toNat_natCast, hgd, ← hjp])
  have HGC := Lib.hid (show gosC (pl n) k t = jc by unfold gosC; rw [if_pos hr, HP1L.out, if_pos hw, HP2L.out, ← hjc])
  rw [HGC.out]
  rw [hjp, hjc] at HWM
  have hki : (k : Int) < n.s.length := by omega
  obtain ⟨x, hx⟩ : ∃ x, n.s[k] = x := ⟨_, rfl⟩
  rw [hx] at HCELL HWM
  clear hr hw hjp hjc h hL hxf hxl hgd HLX HC0 HGC hx
  obtain ⟨xA, xl, xc⟩ := x
  have HNA := Lib.hid hA
  unfold Nt.val at HRT HIW HWM ⊢
  simp only [hA] at HRT HIW HWM HP0 HP1 HB0 HZ ⊢
  go_enter Tryz.func91, Tryz.ntmps91
  go_wp2_with fail
  refine (HRT.out _ HB0.out).mono ?_
  rintro e w1 ⟨rfl, hb⟩
  rw [HR.out]
  have HB0 := Lib.hid (HB0.out.trans (hb.mono HB0.out.size))
  have HP0 := Lib.hid (HP0.out.on hb)
  have HP1 := Lib.hid (HP1.out.on hb)
  have HZ := Lib.hid (show w.heap.size + 2 ≤ w1.heap.size from by have := HZ.out; have := hb.size; omega)
  clear hb
  obtain ⟨b0, b1⟩ := blk2 HP0.out
  clear hA
  go_wp2_with fail
  refine (HIW.out _).mono ?_
  rintro e w2 ⟨rfl, hb⟩
  rw [HW.out]
  have HB0 := Lib.hid (HB0.out.trans (hb.mono HB0.out.size))
  have HP0 := Lib.hid (HP0.out.on hb)
  have HP1 := Lib.hid (HP1.out.on hb)
  have HZ := Lib.hid (show w.heap.size + 2 ≤ w2.heap.size from by have := HZ.out; have := hb.size; omega)
  clear hb
  clear b0 b1
  go_upto_region 5 with fail
  refine u_begin (fun W => Blk W w.heap.size 35 #[.slice (some ad) n.s.length n.ca, .slice n.B n.m.length n.cb] ∧ Blk W (w.heap.size + 1) 37 #[.slice none 0 0, .slice none 0 0, .int .i64 0] ∧ Below w.heap.size w W) 10 (by kernel_rfl) ?_ (fun hHeld => ?_)
  · exact ⟨HP0.out.drew, HP1.out.drew, HB0.out.drew⟩
  refine u_take (i := 0) (v := ?_) rfl (by kernel_rfl) (by kernel_rfl) (by kernel_rfl) (by kernel_rfl) (fun _ _ _ h => h) (Or.inl ⟨by rfl, ?_⟩) hHeld ?_
  rotate_left
  · intro W hSw
    obtain ⟨hs1, hs2⟩ := blk2 hSw.1
    have hs3 := HCELL.out W hSw.2.2
    go_simp
    try with_reducible rfl
  try simp only [Act.put, List.setIfInBounds_toArray, List.set_cons_zero, List.set_cons_succ, List.getElem_toArray, List.getElem_cons_succ, List.getElem_cons_zero]
  refine u_take (i := 1) (v := ?_) rfl (by kernel_rfl) (by kernel_rfl) (by kernel_rfl) (by kernel_rfl) (fun _ _ _ h => h) (Or.inl ⟨by rfl, ?_⟩) hHeld ?_
  rotate_left
  · intro W hSw
    obtain ⟨hs1, hs2⟩ := blk2 hSw.1
    have hs3 := HCELL.out W hSw.2.2
    go_simp
    try with_reducible rfl
  try simp only [Act.put, List.setIfInBounds_toArray, List.set_cons_zero, List.set_cons_succ, List.getElem_toArray, List.getElem_cons_succ, List.getElem_cons_zero]
  refine u_take (i := 2) (v := ?_) rfl (by kernel_rfl) (by kernel_rfl) (by kernel_rfl) (by kernel_rfl) (fun _ _ _ h => h) (Or.inl ⟨by rfl, ?_⟩) hHeld ?_
  rotate_left
  · intro W hSw
    obtain ⟨hs1, hs2⟩ := blk2 hSw.1
    have hs3 := HCELL.out W hSw.2.2
    go_simp
    try with_reducible rfl
  try simp only [Act.put, List.setIfInBounds_toArray, List.set_cons_zero, List.set_cons_succ, List.getElem_toArray, List.getElem_cons_succ, List.getElem_cons_zero]
  refine u_take (i := 3) (v := ?_) rfl (by kernel_rfl) (by kernel_rfl) (by kernel_rfl) (by kernel_rfl) (fun _ _ _ h => h) (Or.inl ⟨by rfl, ?_⟩) hHeld ?_
  rotate_left
  · intro W hSw
    obtain ⟨hs1, hs2⟩ := blk2 hSw.1
    have hs3 := HCELL.out W hSw.2.2
    go_simp
    try with_reducible rfl
  try simp only [Act.put, List.setIfInBounds_toArray, List.set_cons_zero, List.set_cons_succ, List.getElem_toArray, List.getElem_cons_succ, List.getElem_cons_zero]
  refine u_take (i := 4) (v := ?_) rfl (by kernel_rfl) (by kernel_rfl) (by kernel_rfl) (by kernel_rfl) (fun _ _ _ h => h) (Or.inl ⟨by rfl, ?_⟩) hHeld ?_
  rotate_left
  · intro W hSw
    obtain ⟨hs1, hs2⟩ := blk2 hSw.1
    have hs3 := HCELL.out W hSw.2.2
    go_simp
    try with_reducible rfl
  try simp only [Act.put, List.setIfInBounds_toArray, List.set_cons_zero, List.set_cons_succ, List.getElem_toArray, List.getElem_cons_succ, List.getElem_cons_zero]
  refine u_take (i := 5) (v := ?_) rfl (by kernel_rfl) (by kernel_rfl) (by kernel_rfl) (by kernel_rfl) (fun _ _ _ h => h) (Or.inl ⟨by rfl, ?_⟩) hHeld ?_
  rotate_left
  · intro W hSw
    obtain ⟨hs1, hs2⟩ := blk2 hSw.1
    have hs3 := HCELL.out W hSw.2.2
    go_simp
    try with_reducible rfl
  try simp only [Act.put, List.setIfInBounds_toArray, List.set_cons_zero, List.set_cons_succ, List.getElem_toArray, List.getElem_cons_succ, List.getElem_cons_zero]
  refine u_take (i := 6) (v := ?_) rfl (by kernel_rfl) (by kernel_rfl) (by kernel_rfl) (by kernel_rfl) (fun _ _ _ h => h) (Or.inl ⟨by rfl, ?_⟩) hHeld ?_
  rotate_left
  · intro W hSw
    obtain ⟨hs1, hs2⟩ := blk2 hSw.1
    have hs3 := HCELL.out W hSw.2.2
    go_simp
    try with_reducible rfl
  try simp only [Act.put, List.setIfInBounds_toArray, List.set_cons_zero, List.set_cons_succ, List.getElem_toArray, List.getElem_cons_succ, List.getElem_cons_zero]
  refine u_take (i := 7) (v := ?_) rfl (by kernel_rfl) (by kernel_rfl) (by kernel_rfl) (by kernel_rfl) (fun _ _ _ h => h) (Or.inl ⟨by rfl, ?_⟩) hHeld ?_
  rotate_left
  · intro W hSw
    obtain ⟨hs1, hs2⟩ := blk2 hSw.1
    have hs3 := HCELL.out W hSw.2.2
    go_simp
    try with_reducible rfl
  try simp only [Act.put, List.setIfInBounds_toArray, List.set_cons_zero, List.set_cons_succ, List.getElem_toArray, List.getElem_cons_succ, List.getElem_cons_zero]
  refine u_take (i := 8) (v := ?_) rfl (by kernel_rfl) (by kernel_rfl) (by kernel_rfl) (by kernel_rfl) (fun _ _ _ h => h) (Or.inl ⟨by rfl, ?_⟩) hHeld ?_
  rotate_left
  · intro W hSw
    obtain ⟨hs1, hs2⟩ := blk2 hSw.1
    have hs3 := HCELL.out W hSw.2.2
    go_simp
    try with_reducible rfl
  try simp only [Act.put, List.setIfInBounds_toArray, List.set_cons_zero, List.set_cons_succ, List.getElem_toArray, List.getElem_cons_succ, List.getElem_cons_zero]
  refine u_one (i := 9) (by kernel_rfl) rfl (fun K hK => ?_)
  go_simp
  refine (HWM.out _ hHeld.2.2).mono ?_
  rintro e v2 hans
  obtain ⟨n2, rfl, hp2, hh2, hb⟩ := hans
  have HH2 := Lib.hid hh2
  have HPP := Lib.hid hp2
  have HB2 := Lib.hid (hHeld.2.2.trans (hb.mono hHeld.2.2.size))
  unfold Nt.out
  clear hh2 hp2
  refine hK.out _ _ (fun _ => ?_) (fun hHeld0 => ?_)
  · exact ⟨hHeld.1.on hb, hHeld.2.1.on hb, hHeld.2.2.trans (hb.mono hHeld.2.2.size)⟩
  have hHeld := hHeld0 (by decide)
  clear hHeld0 hK K
  try simp only [Act.put, List.setIfInBounds_toArray, List.set_cons_zero, List.set_cons_succ, List.getElem_toArray, List.getElem_cons_succ, List.getElem_cons_zero]
  refine u_one (i := 10) (by kernel_rfl) rfl (fun K hK => ?_)
  have HR3 := Lib.hid hHeld.2.1
  obtain ⟨q0, q1, q2⟩ := blk3 hHeld.2.1
  have g0 := hHeld.2.1.free 0
  have g1 := hHeld.2.1.free 1
  have g2 := hHeld.2.1.free 2
  go_simp
  refine hK.out _ _ (fun h => absurd rfl h) (fun _ => ?_)
  clear hK K
  try simp only [Act.put, List.setIfInBounds_toArray, List.set_cons_zero, List.set_cons_succ, List.getElem_toArray, List.getElem_cons_succ, List.getElem_cons_zero]
  refine u_done (by kernel_rfl) ?_ _
  go_wp2_with fail
  refine bodyPost_ret (v := Nt.out n2 jc) (by simp [results, Tryz.results91, go_sem, Nt.out, q0, q1, q2]) rfl ?_
  refine AnsN.put3 (a := w.heap.size + 2) (b := w.heap.size + 1) (HH2.out.wide HZ.out (Nat.le_refl _)) ?_ HB2.out (by omega) (by omega) (by omega) _ _ _
  rw [HPP.out, HJP.out]

noncomputable def codeM (p : List (List R) × List Pm) (i : Int) : Int := if netB p = true then (if place p.2.length i = true then 0 else 6) else 1
theorem mailCode_any (n : Nt) (i : Int) (w : World) (h : NLies w w.heap.size n) (hL : Little n) :
    Calls Tryz.prog 194 #[n.val, .int .i64 i] w fun e w' => e = .returned (.int .i64 (codeM (pl n) i)) ∧ Below w.heap.size w w' := by
  have hml : n.m.length ≤ 1048576 := by have := hL.1; omega
  have HPM := Lib.hid (show (pl n).2.length = n.m.length from pm_len _)
  have HRT := Lib.hid (fun W (hW : Below w.heap.size w W) => implRight_any n W (h.on hW) hL)
  have HPLC := Lib.hid (fun W => placeM_any n.B n.m.length n.cb i W hml)
  have HB0 := Lib.hid ((Below.refl w.heap.size w).alloc (Nat.le_refl _) (Obj.cells #[.slice n.A n.s.length n.ca, .slice n.B n.m.length n.cb] 35))
  have HP0 := Lib.hid (Blk.new w 35 #[.slice n.A n.s.length n.ca, .slice n.B n.m.length n.cb])
  clear h hL
  unfold Nt.val at HRT ⊢
  unfold codeM
  rw [HPM.out]
  obtain ⟨pp, hpp⟩ : ∃ pp, pl n = pp := ⟨_, rfl⟩
  rw [hpp] at HRT ⊢
  clear hpp HPM
  cases hr : netB pp
  · have HR := Lib.hid hr
    clear hr
    go_enter Tryz.func194, Tryz.ntmps194
    go_wp2_with fail
    refine (HRT.out _ HB0.out).mono ?_
    rintro e w1 ⟨rfl, hb⟩
    rw [HR.out]
    have HB1 := Lib.hid (HB0.out.trans (hb.mono HB0.out.size))
    clear hb
    go_wp2_with fail
    go_ret
    exact ⟨rfl, HB1.out⟩
  · have HR := Lib.hid hr
    clear hr
    cases hq : place n.m.length i
    · have HQ := Lib.hid hq
      clear hq
      go_enter Tryz.func194, Tryz.ntmps194
      go_wp2_with fail
      refine (HRT.out _ HB0.out).mono ?_
      rintro e w1 ⟨rfl, hb⟩
      rw [HR.out]
      have HB1 := Lib.hid (HB0.out.trans (hb.mono HB0.out.size))
      obtain ⟨b0, b1⟩ := blk2 (HP0.out.on hb)
      clear hb
      go_wp2_with fail
      refine (HPLC.out _).mono ?_
      rintro e w2 ⟨rfl, rfl⟩
      rw [HQ.out]
      go_wp2_with fail
      go_ret
      exact ⟨rfl, HB1.out⟩
    · have HQ := Lib.hid hq
      clear hq
      go_enter Tryz.func194, Tryz.ntmps194
      go_wp2_with fail
      refine (HRT.out _ HB0.out).mono ?_
      rintro e w1 ⟨rfl, hb⟩
      rw [HR.out]
      have HB1 := Lib.hid (HB0.out.trans (hb.mono HB0.out.size))
      obtain ⟨b0, b1⟩ := blk2 (HP0.out.on hb)
      clear hb
      go_wp2_with fail
      refine (HPLC.out _).mono ?_
      rintro e w2 ⟨rfl, rfl⟩
      rw [HQ.out]
      go_wp2_with fail
      go_ret
      exact ⟨rfl, HB1.out⟩

noncomputable def twiP (p : List (List R) × List Pm) (i : Int) : List (List R) × List Pm := if codeM p i = 0 then (if p.2.length = 40 then ([], []) else addP p (p.2.getD i.toNat ⟨0, 0, []⟩)) else ([], [])
noncomputable def twiC (p : List (List R) × List Pm) (i : Int) : Int := if codeM p i = 0 then (if p.2.length = 40 then 9 else 0) else codeM p i

set_option maxHeartbeats 4000000 in
set_option maxRecDepth 100000 in
theorem implTwice_any (n : Nt) (i : Int) (w : World) (h : NLies w w.heap.size n) (hL : Little n) :
    Calls Tryz.prog 87 #[n.val, .int .i64 i] w fun e w' => AnsN w e w' (twiP (pl n) i) (twiC (pl n) i) := by
  have hsl : n.s.length ≤ 1048576 := by have := hL.1; omega
  have hml : n.m.length ≤ 1048576 := by have := hL.1; omega
  have B0 := ((Below.refl w.heap.size w).alloc (Nat.le_refl _) (Obj.cells #[.slice n.A n.s.length n.ca, .slice n.B n.m.length n.cb] 35)).alloc (by simp) (Obj.cells #[.slice none 0 0, .slice none 0 0, .int .i64 0] 37)
  have p0 := (Blk.new w 35 #[.slice n.A n.s.length n.ca, .slice n.B n.m.length n.cb]).alloc (Obj.cells #[.slice none 0 0, .slice none 0 0, .int .i64 0] 37)
  have p1 := Blk.new (World.alloc w (Obj.cells #[.slice n.A n.s.length n.ca, .slice n.B n.m.length n.cb] 35)) 37 #[.slice none 0 0, .slice none 0 0, .int .i64 0]
  simp only [World.size_alloc] at p1
  have hz : (World.alloc (World.alloc w (Obj.cells #[.slice n.A n.s.length n.ca, .slice n.B n.m.length n.cb] 35)) (Obj.cells #[.slice none 0 0, .slice none 0 0, .int .i64 0] 37)).heap.size = w.heap.size + 2 := by simp
  have HZ := Lib.hid hz
  have HB0 := Lib.hid B0
  have HP0 := Lib.hid p0
  have HP1 := Lib.hid p1
  clear hz B0 p0 p1
  have HP2L := Lib.hid (show (pl n).2.length = n.m.length from pm_len _)
  have HMC := Lib.hid (fun W (hW : Below w.heap.size w W) => mailCode_any n i W (h.on hW) hL)
  by_cases hc : codeM (pl n) i = 0
  case neg =>
    have HGC := Lib.hid (show twiC (pl n) i = codeM (pl n) i by unfold twiC; rw [if_neg hc])
    have HGP := Lib.hid (show twiP (pl n) i = ([], []) by unfold twiP; rw [if_neg hc])
    rw [HGC.out, HGP.out]
    have hc2 : (codeM (pl n) i == 0) = false := beq_eq_false_iff_ne.2 hc
    have hc3 : (codeM (pl n) i != 0) = true := by simpa using hc
    obtain ⟨cv, hcv⟩ : ∃ cv, codeM (pl n) i = cv := ⟨_, rfl⟩
    rw [hcv] at HMC hc hc2 hc3 ⊢
    clear hcv h hL HGC HGP
    unfold Nt.val at HMC ⊢
    go_enter Tryz.func87, Tryz.ntmps87
    go_wp2_with fail
    refine (HMC.out _ HB0.out).mono ?_
    rintro e w1 ⟨rfl, hb⟩
    have HB0 := Lib.hid (HB0.out.trans (hb.mono HB0.out.size))
    have HP0 := Lib.hid (HP0.out.on hb)
    have HP1 := Lib.hid (HP1.out.on hb)
    have HZ := Lib.hid (show w.heap.size + 2 ≤ w1.heap.size from by have := HZ.out; have := hb.size; omega)
    clear hb
    obtain ⟨q0, q1, q2⟩ := blk3 HP1.out
    have g0 := HP1.out.free 0
    have g1 := HP1.out.free 1
    have g2 := HP1.out.free 2
    go_wp2_with fail
    refine bodyPost_ret (v := .agg #[.slice none 0 0, .slice none 0 0, .int .i64 cv]) (by simp [results, Tryz.results87, go_sem, q0, q1, q2]) rfl ?_
    exact AnsN.ill (((HB0.out.setCell (p := ⟨w.heap.size + 1, 0, none⟩) (by show w.heap.size ≤ w.heap.size + 1; omega) _).setCell (p := ⟨w.heap.size + 1, 1, none⟩) (by show w.heap.size ≤ w.heap.size + 1; omega) _).setCell (p := ⟨w.heap.size + 1, 2, none⟩) (by show w.heap.size ≤ w.heap.size + 1; omega) _)
  have hpl : netB (pl n) = true ∧ place n.m.length i = true := by
    unfold codeM at hc
    rw [HP2L.out] at hc
    cases hr : netB (pl n)
    · rw [hr] at hc; simp at hc
    · cases hq : place n.m.length i
      · rw [hr, hq] at hc; simp at hc
      · exact ⟨rfl, rfl⟩
  obtain ⟨k, rfl, hk⟩ := place_nat hpl.2
  have HC0 := Lib.hid (fun W (hW : Below w.heap.size w W) => (h.2.below hW (Nat.le_refl _)).at_ hk)
  have hxf := hL.2 n.m[k].x (List.mem_append_right n.s (List.mem_map.2 ⟨_, List.getElem_mem hk, rfl⟩))
  have hxl : n.m[k].x.l.length ≤ 1048576 := by have := tot_mem (s := n.all) (show n.m[k].x ∈ n.all from List.mem_append_right n.s (List.mem_map.2 ⟨_, List.getElem_mem hk, rfl⟩)); have := hL.1; omega
  have hgd : (pl n).2.getD k ⟨0, 0, []⟩ = ⟨n.m[k].f, n.m[k].t, n.m[k].x.l⟩ := by
    show (pm n.m).getD k _ = _
    unfold pm; simp [List.getD, hk]
  obtain ⟨ad, hA, _⟩ := HC0.out w (Below.refl _ _)
  have HLX := Lib.hid (show ∀ W, Below w.heap.size w W → Sto.Lies W W.heap.size n.m[k].x.A n.m[k].x.l from fun W hW => by
    obtain ⟨_, _, _, _, hl⟩ := HC0.out W hW
    exact hl.more hW.size)
  have HCELL := Lib.hid (show ∀ W, Below w.heap.size w W → MAt W (ad.add (k * 3)) n.m[k] from fun W hW => by
    obtain ⟨ad', e, _, hc, _⟩ := HC0.out W hW
    rw [hA] at e
    cases e
    exact hc)
  have HWM := Lib.hid (fun W (hW : Below w.heap.size w W) => withMail_any n n.m[k].f n.m[k].t n.m[k].x.A n.m[k].x.l n.m[k].x.c W (h.on hW) hL (HLX.out W hW) hxl hxf)
  obtain ⟨jp, hjp⟩ : ∃ jp, (if n.m.length = 40 then ([], []) else addP (pl n) ⟨n.m[k].f, n.m[k].t, n.m[k].x.l⟩) = jp := ⟨_, rfl⟩
  obtain ⟨jc, hjc⟩ : ∃ jc : Int, (if n.m.length = 40 then 9 else 0) = jc := ⟨_, rfl⟩
  have HJP := Lib.hid (show jp = twiP (pl n) k by unfold twiP; rw [if_pos hc, HP2L.out, Int.toNat_natCast, hgd, ← hjp])
  have HGC := Lib.hid (show twiC (pl n) k = jc by unfold twiC; rw [if_pos hc, HP2L.out, ← hjc])
  rw [HGC.out]
  rw [hjp, hjc] at HWM
  rw [hc] at HMC
  have hki : (k : Int) < n.m.length := by omega
  obtain ⟨x, hx⟩ : ∃ x, n.m[k] = x := ⟨_, rfl⟩
  rw [hx] at HCELL HWM
  clear hc hpl hjp hjc h hL hxf hxl hgd HLX HC0 HGC hx
  obtain ⟨xf, xt, xA, xl, xc⟩ := x
  unfold Nt.val at HMC HWM ⊢
  simp only [hA] at HMC HWM HP0 HP1 HB0 HZ ⊢
  go_enter Tryz.func87, Tryz.ntmps87
  go_wp2_with fail
  refine (HMC.out _ HB0.out).mono ?_
  rintro e w1 ⟨rfl, hb⟩
  have HB0 := Lib.hid (HB0.out.trans (hb.mono HB0.out.size))
  have HP0 := Lib.hid (HP0.out.on hb)
  have HP1 := Lib.hid (HP1.out.on hb)
  have HZ := Lib.hid (show w.heap.size + 2 ≤ w1.heap.size from by have := HZ.out; have := hb.size; omega)
  clear hb
  clear hA
  go_upto_region 4 with fail
  refine u_begin (fun W => Blk W w.heap.size 35 #[.slice n.A n.s.length n.ca, .slice (some ad) n.m.length n.cb] ∧ Blk W (w.heap.size + 1) 37 #[.slice none 0 0, .slice none 0 0, .int .i64 0] ∧ Below w.heap.size w W) 7 (by kernel_rfl) ?_ (fun hHeld => ?_)
  · exact ⟨HP0.out.drew, HP1.out.drew, HB0.out.drew⟩
  refine u_take (i := 0) (v := ?_) rfl (by kernel_rfl) (by kernel_rfl) (by kernel_rfl) (by kernel_rfl) (fun _ _ _ h => h) (Or.inl ⟨by rfl, ?_⟩) hHeld ?_
  rotate_left
  · intro W hSw
    obtain ⟨hs1, hs2⟩ := blk2 hSw.1
    obtain ⟨hs3, hs4, hs5⟩ := HCELL.out W hSw.2.2
    go_simp
    try with_reducible rfl
  try simp only [Act.put, List.setIfInBounds_toArray, List.set_cons_zero, List.set_cons_succ, List.getElem_toArray, List.getElem_cons_succ, List.getElem_cons_zero]
  refine u_take (i := 1) (v := ?_) rfl (by kernel_rfl) (by kernel_rfl) (by kernel_rfl) (by kernel_rfl) (fun _ _ _ h => h) (Or.inl ⟨by rfl, ?_⟩) hHeld ?_
  rotate_left
  · intro W hSw
    obtain ⟨hs1, hs2⟩ := blk2 hSw.1
    obtain ⟨hs3, hs4, hs5⟩ := HCELL.out W hSw.2.2
    go_simp
    try with_reducible rfl
  try simp only [Act.put, List.setIfInBounds_toArray, List.set_cons_zero, List.set_cons_succ, List.getElem_toArray, List.getElem_cons_succ, List.getElem_cons_zero]
  refine u_take (i := 2) (v := ?_) rfl (by kernel_rfl) (by kernel_rfl) (by kernel_rfl) (by kernel_rfl) (fun _ _ _ h => h) (Or.inl ⟨by rfl, ?_⟩) hHeld ?_
  rotate_left
  · intro W hSw
    obtain ⟨hs1, hs2⟩ := blk2 hSw.1
    obtain ⟨hs3, hs4, hs5⟩ := HCELL.out W hSw.2.2
    go_simp
    try with_reducible rfl
  try simp only [Act.put, List.setIfInBounds_toArray, List.set_cons_zero, List.set_cons_succ, List.getElem_toArray, List.getElem_cons_succ, List.getElem_cons_zero]
  refine u_take (i := 3) (v := ?_) rfl (by kernel_rfl) (by kernel_rfl) (by kernel_rfl) (by kernel_rfl) (fun _ _ _ h => h) (Or.inl ⟨by rfl, ?_⟩) hHeld ?_
  rotate_left
  · intro W hSw
    obtain ⟨hs1, hs2⟩ := blk2 hSw.1
    obtain ⟨hs3, hs4, hs5⟩ := HCELL.out W hSw.2.2
    go_simp
    try with_reducible rfl
  try simp only [Act.put, List.setIfInBounds_toArray, List.set_cons_zero, List.set_cons_succ, List.getElem_toArray, List.getElem_cons_succ, List.getElem_cons_zero]
  refine u_take (i := 4) (v := ?_) rfl (by kernel_rfl) (by kernel_rfl) (by kernel_rfl) (by kernel_rfl) (fun _ _ _ h => h) (Or.inl ⟨by rfl, ?_⟩) hHeld ?_
  rotate_left
  · intro W hSw
    obtain ⟨hs1, hs2⟩ := blk2 hSw.1
    obtain ⟨hs3, hs4, hs5⟩ := HCELL.out W hSw.2.2
    go_simp
    try with_reducible rfl
  try simp only [Act.put, List.setIfInBounds_toArray, List.set_cons_zero, List.set_cons_succ, List.getElem_toArray, List.getElem_cons_succ, List.getElem_cons_zero]
  refine u_take (i := 5) (v := ?_) rfl (by kernel_rfl) (by kernel_rfl) (by kernel_rfl) (by kernel_rfl) (fun _ _ _ h => h) (Or.inl ⟨by rfl, ?_⟩) hHeld ?_
  rotate_left
  · intro W hSw
    obtain ⟨hs1, hs2⟩ := blk2 hSw.1
    obtain ⟨hs3, hs4, hs5⟩ := HCELL.out W hSw.2.2
    go_simp
    try with_reducible rfl
  try simp only [Act.put, List.setIfInBounds_toArray, List.set_cons_zero, List.set_cons_succ, List.getElem_toArray, List.getElem_cons_succ, List.getElem_cons_zero]
  refine u_one (i := 6) (by kernel_rfl) rfl (fun K hK => ?_)
  go_simp
  refine (HWM.out _ hHeld.2.2).mono ?_
  rintro e v2 hans
  obtain ⟨n2, rfl, hp2, hh2, hb⟩ := hans
  have HH2 := Lib.hid hh2
  have HPP := Lib.hid hp2
  have HB2 := Lib.hid (hHeld.2.2.trans (hb.mono hHeld.2.2.size))
  unfold Nt.out
  clear hh2 hp2
  refine hK.out _ _ (fun _ => ?_) (fun hHeld0 => ?_)
  · exact ⟨hHeld.1.on hb, hHeld.2.1.on hb, hHeld.2.2.trans (hb.mono hHeld.2.2.size)⟩
  have hHeld := hHeld0 (by decide)
  clear hHeld0 hK K
  try simp only [Act.put, List.setIfInBounds_toArray, List.set_cons_zero, List.set_cons_succ, List.getElem_toArray, List.getElem_cons_succ, List.getElem_cons_zero]
  refine u_one (i := 7) (by kernel_rfl) rfl (fun K hK => ?_)
  have HR3 := Lib.hid hHeld.2.1
  obtain ⟨q0, q1, q2⟩ := blk3 hHeld.2.1
  have g0 := hHeld.2.1.free 0
  have g1 := hHeld.2.1.free 1
  have g2 := hHeld.2.1.free 2
  go_simp
  refine hK.out _ _ (fun h => absurd rfl h) (fun _ => ?_)
  clear hK K
  try simp only [Act.put, List.setIfInBounds_toArray, List.set_cons_zero, List.set_cons_succ, List.getElem_toArray, List.getElem_cons_succ, List.getElem_cons_zero]
  refine u_done (by kernel_rfl) ?_ _
  go_wp2_with fail
  refine bodyPost_ret (v := Nt.out n2 jc) (by simp [results, Tryz.results87, go_sem, Nt.out, q0, q1, q2]) rfl ?_
  refine AnsN.put3 (a := w.heap.size + 2) (b := w.heap.size + 1) (HH2.out.wide HZ.out (Nat.le_refl _)) ?_ HB2.out (by omega) (by omega) (by omega) _ _ _
  rw [HPP.out, HJP.out]
end Go.Proofs.YtoagdpbbojlgfaaGreat.Net
