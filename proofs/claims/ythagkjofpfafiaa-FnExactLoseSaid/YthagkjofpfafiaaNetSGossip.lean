/-
  spec.Gossip.
-/
import Derived.Test.YthagkjofpfafiaaNetIGossip
import Derived.Test.YthagkjofpfafiaaNetSCopy
namespace Go.Proofs.Ythagkjofpfafiaa.Net
open Go.ChangeShapes Go.WideShapes Go.ChangeAt Go.RowKit
open Sto (R Sl flat)
set_option linter.unusedVariables false
set_option maxRecDepth 100000
set_option linter.unusedSimpArgs false

theorem way_false {k : Nat} {f t : Int} (h : way k f t = false) : place k f = false ∨ (place k f = true ∧ place k t = false) ∨ (place k f = true ∧ place k t = true ∧ (f == t) = true) := by
  unfold way at h
  cases hf : place k f
  · exact .inl rfl
  · cases ht : place k t
    · exact .inr (.inl ⟨rfl, rfl⟩)
    · rw [hf, ht] at h
      exact .inr (.inr ⟨rfl, rfl, by simpa using h⟩)
theorem way_ne {k : Nat} {f t : Int} (h : way k f t = true) : (f == t) = false := by
  unfold way at h
  rw [Bool.and_eq_true] at h
  simpa using h.2

set_option maxHeartbeats 8000000 in
set_option maxRecDepth 100000 in
theorem specGossip_any (n : Nt) (f t : Int) (w : World) (h : NLies w w.heap.size n) (hL : Little n) :
    Calls Try.prog 18 #[n.val, .int .i64 f, .int .i64 t] w fun e w' => AnsN w e w' (gosP (pl n) f t) (gosC (pl n) f t) := by
  have hsl : n.s.length ≤ 1048576 := by have := hL.1; omega
  have hml : n.m.length ≤ 1048576 := by have := hL.1; omega
  have B0 := ((Below.refl w.heap.size w).alloc (Nat.le_refl _) (Obj.cells #[.slice n.A n.s.length n.ca, .slice n.B n.m.length n.cb] 31)).alloc (by simp) (Obj.cells #[.slice none 0 0, .slice none 0 0, .int .i64 0] 36)
  have p0 := (Blk.new w 31 #[.slice n.A n.s.length n.ca, .slice n.B n.m.length n.cb]).alloc (Obj.cells #[.slice none 0 0, .slice none 0 0, .int .i64 0] 36)
  have p1 := Blk.new (World.alloc w (Obj.cells #[.slice n.A n.s.length n.ca, .slice n.B n.m.length n.cb] 31)) 36 #[.slice none 0 0, .slice none 0 0, .int .i64 0]
  simp only [World.size_alloc] at p1
  have hz : (World.alloc (World.alloc w (Obj.cells #[.slice n.A n.s.length n.ca, .slice n.B n.m.length n.cb] 31)) (Obj.cells #[.slice none 0 0, .slice none 0 0, .int .i64 0] 36)).heap.size = w.heap.size + 2 := by simp
  have HZ := Lib.hid hz
  have HB0 := Lib.hid B0
  have HP0 := Lib.hid p0
  have HP1 := Lib.hid p1
  clear hz B0 p0 p1
  have HP1L := Lib.hid (show (pl n).1.length = n.s.length from ps_len _)
  have HP2L := Lib.hid (show (pl n).2.length = n.m.length from pm_len _)
  have HRT := Lib.hid (fun W (hW : Below w.heap.size w W) => specRight_any n W (h.on hW) hL)
  have HT := Lib.hid (fun i W => there_any n i W hsl)
  cases hr : netB (pl n)
  · have HR := Lib.hid hr
    have HGC := Lib.hid (show gosC (pl n) f t = 1 by unfold gosC; rw [if_neg (by rw [hr]; decide)])
    have HGP := Lib.hid (show gosP (pl n) f t = ([], []) by unfold gosP; rw [if_neg (by rw [hr]; decide)])
    rw [HGC.out, HGP.out]
    clear hr h hL HGC HGP
    unfold Nt.val at HRT ⊢
    go_enter Try.func18, Try.ntmps18
    go_wp2_with fail
    refine (HRT.out _ HB0.out).mono ?_
    rintro e w1 ⟨rfl, hb⟩
    rw [HR.out]
    have HB0 := Lib.hid (HB0.out.trans (hb.mono HB0.out.size))
    have HP0 := Lib.hid (HP0.out.on hb)
    have HP1 := Lib.hid (HP1.out.on hb)
    have HZ := Lib.hid (show w.heap.size + 2 ≤ w1.heap.size from by have := HZ.out; have := hb.size; omega)
    clear hb
    obtain ⟨b0, b1⟩ := blk2 HP0.out
    go_wp2_with fail
    clear b0 b1
    refine (ill_any 1 _).mono ?_
    rintro e w2 ⟨rfl, hb⟩
    have HB0 := Lib.hid (HB0.out.trans (hb.mono HB0.out.size))
    have HP0 := Lib.hid (HP0.out.on hb)
    have HP1 := Lib.hid (HP1.out.on hb)
    have HZ := Lib.hid (show w.heap.size + 2 ≤ w2.heap.size from by have := HZ.out; have := hb.size; omega)
    clear hb
    obtain ⟨q0, q1, q2⟩ := blk3 HP1.out
    have g0 := HP1.out.free 0
    have g1 := HP1.out.free 1
    have g2 := HP1.out.free 2
    go_wp2_with fail
    refine bodyPost_ret (v := .agg #[.slice none 0 0, .slice none 0 0, .int .i64 1]) (by simp [results, Try.results18, go_sem, q0, q1, q2]) rfl ?_
    exact AnsN.ill (((HB0.out.setCell (p := ⟨w.heap.size + 1, 0, none⟩) (by show w.heap.size ≤ w.heap.size + 1; omega) _).setCell (p := ⟨w.heap.size + 1, 1, none⟩) (by show w.heap.size ≤ w.heap.size + 1; omega) _).setCell (p := ⟨w.heap.size + 1, 2, none⟩) (by show w.heap.size ≤ w.heap.size + 1; omega) _)
  have HR := Lib.hid hr
  have h40 : n.m.length ≤ 40 := by have := (okN_of hr).2.1; rw [HP2L.out] at this; exact this
  cases hw : way n.s.length f t
  · have HGC := Lib.hid (show gosC (pl n) f t = 6 by unfold gosC; rw [if_pos hr, HP1L.out, if_neg (by rw [hw]; decide)])
    have HGP := Lib.hid (show gosP (pl n) f t = ([], []) by unfold gosP; rw [if_pos hr, HP1L.out, if_neg (by rw [hw]; decide)])
    rw [HGC.out, HGP.out]
    have HWF := Lib.hid (way_false hw)
    clear hr hw h hL HGC HGP
    unfold Nt.val at HRT HT ⊢
    rcases HWF.out with hf | ⟨hf, ht⟩ | ⟨hf, ht, he⟩
    · have HF := Lib.hid hf
      clear hf
      go_enter Try.func18, Try.ntmps18
      go_wp2_with fail
      refine (HRT.out _ HB0.out).mono ?_
      rintro e w1 ⟨rfl, hb⟩
      rw [HR.out]
      have HB0 := Lib.hid (HB0.out.trans (hb.mono HB0.out.size))
      have HP0 := Lib.hid (HP0.out.on hb)
      have HP1 := Lib.hid (HP1.out.on hb)
      have HZ := Lib.hid (show w.heap.size + 2 ≤ w1.heap.size from by have := HZ.out; have := hb.size; omega)
      clear hb
      obtain ⟨b0, b1⟩ := blk2 HP0.out
      go_wp2_with fail
      clear b0 b1
      refine (HT.out f _).mono ?_
      rintro e w2 ⟨rfl, hb⟩
      rw [HF.out]
      have HB0 := Lib.hid (HB0.out.trans (hb.mono HB0.out.size))
      have HP0 := Lib.hid (HP0.out.on hb)
      have HP1 := Lib.hid (HP1.out.on hb)
      have HZ := Lib.hid (show w.heap.size + 2 ≤ w2.heap.size from by have := HZ.out; have := hb.size; omega)
      clear hb
      obtain ⟨b0, b1⟩ := blk2 HP0.out
      go_wp2_with fail
      clear b0 b1
      refine (ill_any 6 _).mono ?_
      rintro e w3 ⟨rfl, hb⟩
      have HB0 := Lib.hid (HB0.out.trans (hb.mono HB0.out.size))
      have HP0 := Lib.hid (HP0.out.on hb)
      have HP1 := Lib.hid (HP1.out.on hb)
      have HZ := Lib.hid (show w.heap.size + 2 ≤ w3.heap.size from by have := HZ.out; have := hb.size; omega)
      clear hb
      obtain ⟨q0, q1, q2⟩ := blk3 HP1.out
      have g0 := HP1.out.free 0
      have g1 := HP1.out.free 1
      have g2 := HP1.out.free 2
      go_wp2_with fail
      refine bodyPost_ret (v := .agg #[.slice none 0 0, .slice none 0 0, .int .i64 6]) (by simp [results, Try.results18, go_sem, q0, q1, q2]) rfl ?_
      exact AnsN.ill (((HB0.out.setCell (p := ⟨w.heap.size + 1, 0, none⟩) (by show w.heap.size ≤ w.heap.size + 1; omega) _).setCell (p := ⟨w.heap.size + 1, 1, none⟩) (by show w.heap.size ≤ w.heap.size + 1; omega) _).setCell (p := ⟨w.heap.size + 1, 2, none⟩) (by show w.heap.size ≤ w.heap.size + 1; omega) _)
    · have HF := Lib.hid hf
      have HTT := Lib.hid ht
      clear hf ht
      go_enter Try.func18, Try.ntmps18
      go_wp2_with fail
      refine (HRT.out _ HB0.out).mono ?_
      rintro e w1 ⟨rfl, hb⟩
      rw [HR.out]
      have HB0 := Lib.hid (HB0.out.trans (hb.mono HB0.out.size))
      have HP0 := Lib.hid (HP0.out.on hb)
      have HP1 := Lib.hid (HP1.out.on hb)
      have HZ := Lib.hid (show w.heap.size + 2 ≤ w1.heap.size from by have := HZ.out; have := hb.size; omega)
      clear hb
      obtain ⟨b0, b1⟩ := blk2 HP0.out
      go_wp2_with fail
      clear b0 b1
      refine (HT.out f _).mono ?_
      rintro e w2 ⟨rfl, hb⟩
      rw [HF.out]
      have HB0 := Lib.hid (HB0.out.trans (hb.mono HB0.out.size))
      have HP0 := Lib.hid (HP0.out.on hb)
      have HP1 := Lib.hid (HP1.out.on hb)
      have HZ := Lib.hid (show w.heap.size + 2 ≤ w2.heap.size from by have := HZ.out; have := hb.size; omega)
      clear hb
      obtain ⟨b0, b1⟩ := blk2 HP0.out
      go_wp2_with fail
      clear b0 b1
      refine (HT.out t _).mono ?_
      rintro e w3 ⟨rfl, hb⟩
      rw [HTT.out]
      have HB0 := Lib.hid (HB0.out.trans (hb.mono HB0.out.size))
      have HP0 := Lib.hid (HP0.out.on hb)
      have HP1 := Lib.hid (HP1.out.on hb)
      have HZ := Lib.hid (show w.heap.size + 2 ≤ w3.heap.size from by have := HZ.out; have := hb.size; omega)
      clear hb
      obtain ⟨b0, b1⟩ := blk2 HP0.out
      go_wp2_with fail
      clear b0 b1
      refine (ill_any 6 _).mono ?_
      rintro e w4 ⟨rfl, hb⟩
      have HB0 := Lib.hid (HB0.out.trans (hb.mono HB0.out.size))
      have HP0 := Lib.hid (HP0.out.on hb)
      have HP1 := Lib.hid (HP1.out.on hb)
      have HZ := Lib.hid (show w.heap.size + 2 ≤ w4.heap.size from by have := HZ.out; have := hb.size; omega)
      clear hb
      obtain ⟨q0, q1, q2⟩ := blk3 HP1.out
      have g0 := HP1.out.free 0
      have g1 := HP1.out.free 1
      have g2 := HP1.out.free 2
      go_wp2_with fail
      refine bodyPost_ret (v := .agg #[.slice none 0 0, .slice none 0 0, .int .i64 6]) (by simp [results, Try.results18, go_sem, q0, q1, q2]) rfl ?_
      exact AnsN.ill (((HB0.out.setCell (p := ⟨w.heap.size + 1, 0, none⟩) (by show w.heap.size ≤ w.heap.size + 1; omega) _).setCell (p := ⟨w.heap.size + 1, 1, none⟩) (by show w.heap.size ≤ w.heap.size + 1; omega) _).setCell (p := ⟨w.heap.size + 1, 2, none⟩) (by show w.heap.size ≤ w.heap.size + 1; omega) _)
    · have HF := Lib.hid hf
      have HTT := Lib.hid ht
      clear hf ht
      go_enter Try.func18, Try.ntmps18
      go_wp2_with fail
      refine (HRT.out _ HB0.out).mono ?_
      rintro e w1 ⟨rfl, hb⟩
      rw [HR.out]
      have HB0 := Lib.hid (HB0.out.trans (hb.mono HB0.out.size))
      have HP0 := Lib.hid (HP0.out.on hb)
      have HP1 := Lib.hid (HP1.out.on hb)
      have HZ := Lib.hid (show w.heap.size + 2 ≤ w1.heap.size from by have := HZ.out; have := hb.size; omega)
      clear hb
      obtain ⟨b0, b1⟩ := blk2 HP0.out
      go_wp2_with fail
      clear b0 b1
      refine (HT.out f _).mono ?_
      rintro e w2 ⟨rfl, hb⟩
      rw [HF.out]
      have HB0 := Lib.hid (HB0.out.trans (hb.mono HB0.out.size))
      have HP0 := Lib.hid (HP0.out.on hb)
      have HP1 := Lib.hid (HP1.out.on hb)
      have HZ := Lib.hid (show w.heap.size + 2 ≤ w2.heap.size from by have := HZ.out; have := hb.size; omega)
      clear hb
      obtain ⟨b0, b1⟩ := blk2 HP0.out
      go_wp2_with fail
      clear b0 b1
      refine (HT.out t _).mono ?_
      rintro e w3 ⟨rfl, hb⟩
      rw [HTT.out]
      have HB0 := Lib.hid (HB0.out.trans (hb.mono HB0.out.size))
      have HP0 := Lib.hid (HP0.out.on hb)
      have HP1 := Lib.hid (HP1.out.on hb)
      have HZ := Lib.hid (show w.heap.size + 2 ≤ w3.heap.size from by have := HZ.out; have := hb.size; omega)
      clear hb
      obtain ⟨b0, b1⟩ := blk2 HP0.out
      go_wp2_with fail
      clear b0 b1
      refine (ill_any 6 _).mono ?_
      rintro e w4 ⟨rfl, hb⟩
      have HB0 := Lib.hid (HB0.out.trans (hb.mono HB0.out.size))
      have HP0 := Lib.hid (HP0.out.on hb)
      have HP1 := Lib.hid (HP1.out.on hb)
      have HZ := Lib.hid (show w.heap.size + 2 ≤ w4.heap.size from by have := HZ.out; have := hb.size; omega)
      clear hb
      obtain ⟨q0, q1, q2⟩ := blk3 HP1.out
      have g0 := HP1.out.free 0
      have g1 := HP1.out.free 1
      have g2 := HP1.out.free 2
      go_wp2_with fail
      refine bodyPost_ret (v := .agg #[.slice none 0 0, .slice none 0 0, .int .i64 6]) (by simp [results, Try.results18, go_sem, q0, q1, q2]) rfl ?_
      exact AnsN.ill (((HB0.out.setCell (p := ⟨w.heap.size + 1, 0, none⟩) (by show w.heap.size ≤ w.heap.size + 1; omega) _).setCell (p := ⟨w.heap.size + 1, 1, none⟩) (by show w.heap.size ≤ w.heap.size + 1; omega) _).setCell (p := ⟨w.heap.size + 1, 2, none⟩) (by show w.heap.size ≤ w.heap.size + 1; omega) _)
  have HF := Lib.hid (way_place hw).1
  have HTT := Lib.hid (way_place hw).2
  have hne := way_ne hw
  by_cases h4 : n.m.length = 40
  · have HGC := Lib.hid (show gosC (pl n) f t = 9 by unfold gosC; rw [if_pos hr, HP1L.out, if_pos hw, HP2L.out, if_pos h4])
    have HGP := Lib.hid (show gosP (pl n) f t = ([], []) by unfold gosP; rw [if_pos hr, HP1L.out, if_pos hw, HP2L.out, if_pos h4])
    rw [HGC.out, HGP.out]
    have h4i : ¬ (n.m.length : Int) < 40 := by omega
    have h4j : (40 : Int) ≤ n.m.length := by omega
    clear hr hw h hL HGC HGP h4 h40
    unfold Nt.val at HRT HT ⊢
    go_enter Try.func18, Try.ntmps18
    go_wp2_with fail
    refine (HRT.out _ HB0.out).mono ?_
    rintro e w1 ⟨rfl, hb⟩
    rw [HR.out]
    have HB0 := Lib.hid (HB0.out.trans (hb.mono HB0.out.size))
    have HP0 := Lib.hid (HP0.out.on hb)
    have HP1 := Lib.hid (HP1.out.on hb)
    have HZ := Lib.hid (show w.heap.size + 2 ≤ w1.heap.size from by have := HZ.out; have := hb.size; omega)
    clear hb
    obtain ⟨b0, b1⟩ := blk2 HP0.out
    go_wp2_with fail
    clear b0 b1
    refine (HT.out f _).mono ?_
    rintro e w2 ⟨rfl, hb⟩
    rw [HF.out]
    have HB0 := Lib.hid (HB0.out.trans (hb.mono HB0.out.size))
    have HP0 := Lib.hid (HP0.out.on hb)
    have HP1 := Lib.hid (HP1.out.on hb)
    have HZ := Lib.hid (show w.heap.size + 2 ≤ w2.heap.size from by have := HZ.out; have := hb.size; omega)
    clear hb
    obtain ⟨b0, b1⟩ := blk2 HP0.out
    go_wp2_with fail
    clear b0 b1
    refine (HT.out t _).mono ?_
    rintro e w3 ⟨rfl, hb⟩
    rw [HTT.out]
    have HB0 := Lib.hid (HB0.out.trans (hb.mono HB0.out.size))
    have HP0 := Lib.hid (HP0.out.on hb)
    have HP1 := Lib.hid (HP1.out.on hb)
    have HZ := Lib.hid (show w.heap.size + 2 ≤ w3.heap.size from by have := HZ.out; have := hb.size; omega)
    clear hb
    obtain ⟨b0, b1⟩ := blk2 HP0.out
    go_wp2_with fail
    clear b0 b1
    refine (ill_any 9 _).mono ?_
    rintro e w4 ⟨rfl, hb⟩
    have HB0 := Lib.hid (HB0.out.trans (hb.mono HB0.out.size))
    have HP0 := Lib.hid (HP0.out.on hb)
    have HP1 := Lib.hid (HP1.out.on hb)
    have HZ := Lib.hid (show w.heap.size + 2 ≤ w4.heap.size from by have := HZ.out; have := hb.size; omega)
    clear hb
    obtain ⟨q0, q1, q2⟩ := blk3 HP1.out
    have g0 := HP1.out.free 0
    have g1 := HP1.out.free 1
    have g2 := HP1.out.free 2
    go_wp2_with fail
    refine bodyPost_ret (v := .agg #[.slice none 0 0, .slice none 0 0, .int .i64 9]) (by simp [results, Try.results18, go_sem, q0, q1, q2]) rfl ?_
    exact AnsN.ill (((HB0.out.setCell (p := ⟨w.heap.size + 1, 0, none⟩) (by show w.heap.size ≤ w.heap.size + 1; omega) _).setCell (p := ⟨w.heap.size + 1, 1, none⟩) (by show w.heap.size ≤ w.heap.size + 1; omega) _).setCell (p := ⟨w.heap.size + 1, 2, none⟩) (by show w.heap.size ≤ w.heap.size + 1; omega) _)
  have h4i : (n.m.length : Int) < 40 := by omega
  have h4j : ¬ (40 : Int) ≤ n.m.length := by omega
  obtain ⟨k, rfl, hk⟩ := place_nat (way_place hw).1
  have HC0 := Lib.hid (fun W (hW : Below w.heap.size w W) => (h.1.below hW (Nat.le_refl _)).at_ hk)
  have hxl : n.s[k].l.length ≤ 1048576 := by have := tot_mem (List.mem_append_left (n.m.map (·.x)) (List.getElem_mem hk) : n.s[k] ∈ n.all); have := hL.1; omega
  have hgd : (pl n).1.getD k [] = n.s[k].l := by
    show (ps n.s).getD k [] = _
    unfold ps; simp [List.getD, hk]
  obtain ⟨ad, hA, _⟩ := HC0.out w (Below.refl _ _)
  have HLX := Lib.hid (show ∀ W, Below w.heap.size w W → Sto.Lies W W.heap.size n.s[k].A n.s[k].l from fun W hW => by
    obtain ⟨_, _, _, _, hl⟩ := HC0.out W hW
    exact hl.more hW.size)
  have HCELL := Lib.hid (show ∀ W, Below w.heap.size w W → W.cell? (ad.add k) = some (.slice n.s[k].A n.s[k].l.length n.s[k].c) from fun W hW => by
    obtain ⟨ad', e, _, hc, _⟩ := HC0.out W hW
    rw [hA] at e
    cases e
    exact hc)
  have HCP := Lib.hid (fun W (hW : Below w.heap.size w W) => specCopy_any n W (h.on hW) hL)
  have HJP := Lib.hid (show addP (pl n) ⟨(k : Int), t, n.s[k].l⟩ = gosP (pl n) k t by unfold gosP; rw [if_pos hr, HP1L.out, if_pos hw, HP2L.out, if_neg h4, Int.toNat_natCast, hgd])
  have HGC := Lib.hid (show gosC (pl n) k t = 0 by unfold gosC; rw [if_pos hr, HP1L.out, if_pos hw, HP2L.out, if_neg h4])
  rw [HGC.out]
  have hki : (k : Int) < n.s.length := by omega
  obtain ⟨x, hx⟩ : ∃ x, n.s[k] = x := ⟨_, rfl⟩
  rw [hx] at HCELL HJP HLX hxl
  clear hr hw h hL hgd HC0 HGC hx h4
  obtain ⟨xA, xl, xc⟩ := x
  have HPLN := Lib.hid hA
  unfold Nt.val at HRT HT HCP ⊢
  simp only [hA] at HRT HT HCP HP0 HP1 HB0 HZ ⊢
  simp only at hxl HJP HLX HCELL
  clear hA
  go_enter Try.func18, Try.ntmps18
  go_wp2_with fail
  refine (HRT.out _ HB0.out).mono ?_
  rintro e w1 ⟨rfl, hb⟩
  rw [HR.out]
  have HB0 := Lib.hid (HB0.out.trans (hb.mono HB0.out.size))
  have HP0 := Lib.hid (HP0.out.on hb)
  have HP1 := Lib.hid (HP1.out.on hb)
  have HZ := Lib.hid (show w.heap.size + 2 ≤ w1.heap.size from by have := HZ.out; have := hb.size; omega)
  clear hb
  obtain ⟨b0, b1⟩ := blk2 HP0.out
  go_wp2_with fail
  clear b0 b1
  refine (HT.out (k : Int) _).mono ?_
  rintro e w2 ⟨rfl, hb⟩
  rw [HF.out]
  have HB0 := Lib.hid (HB0.out.trans (hb.mono HB0.out.size))
  have HP0 := Lib.hid (HP0.out.on hb)
  have HP1 := Lib.hid (HP1.out.on hb)
  have HZ := Lib.hid (show w.heap.size + 2 ≤ w2.heap.size from by have := HZ.out; have := hb.size; omega)
  clear hb
  obtain ⟨b0, b1⟩ := blk2 HP0.out
  go_wp2_with fail
  clear b0 b1
  refine (HT.out t _).mono ?_
  rintro e w3 ⟨rfl, hb⟩
  rw [HTT.out]
  have HB0 := Lib.hid (HB0.out.trans (hb.mono HB0.out.size))
  have HP0 := Lib.hid (HP0.out.on hb)
  have HP1 := Lib.hid (HP1.out.on hb)
  have HZ := Lib.hid (show w.heap.size + 2 ≤ w3.heap.size from by have := HZ.out; have := hb.size; omega)
  clear hb
  obtain ⟨b0, b1⟩ := blk2 HP0.out
  go_wp2_with fail
  clear b0 b1
  refine (HCP.out _ HB0.out).mono ?_
  rintro e v0 ⟨n', rfl, hp, ho, hb⟩
  have HPP := Lib.hid hp
  have HO1 := Lib.hid (ho.less (show w.heap.size + 2 ≤ _ from HZ.out))
  have hnm : n'.m.length = n.m.length := by have := congrArg (fun q => q.2.length) hp; simpa [pl, pm_len] using this
  have hnl : n'.m.length ≤ 1048576 := by omega
  have HB0 := Lib.hid (HB0.out.trans (hb.mono HB0.out.size))
  have HP0 := Lib.hid (HP0.out.on hb)
  have HP1 := Lib.hid (HP1.out.on hb)
  have HZ := Lib.hid (show w.heap.size + 2 ≤ v0.heap.size from by have := HZ.out; have := hb.size; omega)
  clear hp ho hb hnm
  have HON := Lib.hid (show (World.alloc (World.drew (World.alloc v0 (Obj.cells #[.slice n'.A n'.s.length n'.ca, .slice n'.B n'.m.length n'.cb] 31))) (Obj.cells #[] 62)).ownsRow (v0.heap.size + 1) 62 5 (.slice (some ⟨v0.heap.size + 1, 0, none⟩) 0 0) 0 [] from by
    have h0 := o_none (World.drew (World.alloc v0 (Obj.cells #[.slice n'.A n'.s.length n'.ca, .slice n'.B n'.m.length n'.cb] 31))) 62 5
    have hsz : (World.drew (World.alloc v0 (Obj.cells #[.slice n'.A n'.s.length n'.ca, .slice n'.B n'.m.length n'.cb] 31))).heap.size = v0.heap.size + 1 := by show (World.alloc v0 (Obj.cells #[.slice n'.A n'.s.length n'.ca, .slice n'.B n'.m.length n'.cb] 31)).heap.size = _; simp
    rw [hsz] at h0
    exact h0)
  unfold Nt.val
  go_upto_region 8 with fail
  refine u_begin (fun W => Blk W v0.heap.size 31 #[.slice n'.A n'.s.length n'.ca, .slice n'.B n'.m.length n'.cb] ∧ Blk W w.heap.size 31 #[.slice (some ad) n.s.length n.ca, .slice n.B n.m.length n.cb] ∧ Below w.heap.size w W) 15 (by kernel_rfl) ?_ (fun hHeld => ?_)
  · exact ⟨(Blk.new v0 _ _).drew, (HP0.out.alloc _).drew, (HB0.out.alloc HB0.out.size _).drew⟩
  refine u_take (i := 0) (v := ?_) rfl (by kernel_rfl) (by kernel_rfl) (by kernel_rfl) (by kernel_rfl) (fun _ _ _ h => h) (Or.inl ⟨by rfl, ?_⟩) hHeld ?_
  rotate_left
  · intro W hSw
    obtain ⟨hs1, hs2⟩ := blk2 hSw.1
    obtain ⟨hs3, hs4⟩ := blk2 hSw.2.1
    have hs5 := HCELL.out W hSw.2.2
    go_simp
    try with_reducible rfl
  try simp only [Act.put, List.setIfInBounds_toArray, List.set_cons_zero, List.set_cons_succ, List.getElem_toArray, List.getElem_cons_succ, List.getElem_cons_zero]
  refine u_take (i := 1) (v := ?_) rfl (by kernel_rfl) (by kernel_rfl) (by kernel_rfl) (by kernel_rfl) (fun _ _ _ h => h) (Or.inl ⟨by rfl, ?_⟩) hHeld ?_
  rotate_left
  · intro W hSw
    obtain ⟨hs1, hs2⟩ := blk2 hSw.1
    obtain ⟨hs3, hs4⟩ := blk2 hSw.2.1
    have hs5 := HCELL.out W hSw.2.2
    go_simp
    try with_reducible rfl
  try simp only [Act.put, List.setIfInBounds_toArray, List.set_cons_zero, List.set_cons_succ, List.getElem_toArray, List.getElem_cons_succ, List.getElem_cons_zero]
  refine u_take (i := 2) (v := ?_) rfl (by kernel_rfl) (by kernel_rfl) (by kernel_rfl) (by kernel_rfl) (fun _ _ _ h => h) (Or.inl ⟨by rfl, ?_⟩) hHeld ?_
  rotate_left
  · intro W hSw
    obtain ⟨hs1, hs2⟩ := blk2 hSw.1
    obtain ⟨hs3, hs4⟩ := blk2 hSw.2.1
    have hs5 := HCELL.out W hSw.2.2
    go_simp
    try with_reducible rfl
  try simp only [Act.put, List.setIfInBounds_toArray, List.set_cons_zero, List.set_cons_succ, List.getElem_toArray, List.getElem_cons_succ, List.getElem_cons_zero]
  refine u_take (i := 3) (v := ?_) rfl (by kernel_rfl) (by kernel_rfl) (by kernel_rfl) (by kernel_rfl) (fun _ _ _ h => h) (Or.inl ⟨by rfl, ?_⟩) hHeld ?_
  rotate_left
  · intro W hSw
    obtain ⟨hs1, hs2⟩ := blk2 hSw.1
    obtain ⟨hs3, hs4⟩ := blk2 hSw.2.1
    have hs5 := HCELL.out W hSw.2.2
    go_simp
    try with_reducible rfl
  try simp only [Act.put, List.setIfInBounds_toArray, List.set_cons_zero, List.set_cons_succ, List.getElem_toArray, List.getElem_cons_succ, List.getElem_cons_zero]
  refine u_take (i := 5) (v := ?_) rfl (by kernel_rfl) (by kernel_rfl) (by kernel_rfl) (by kernel_rfl) (fun _ _ _ h => h) (Or.inl ⟨by rfl, ?_⟩) hHeld ?_
  rotate_left
  · intro W hSw
    obtain ⟨hs1, hs2⟩ := blk2 hSw.1
    obtain ⟨hs3, hs4⟩ := blk2 hSw.2.1
    have hs5 := HCELL.out W hSw.2.2
    go_simp
    try with_reducible rfl
  try simp only [Act.put, List.setIfInBounds_toArray, List.set_cons_zero, List.set_cons_succ, List.getElem_toArray, List.getElem_cons_succ, List.getElem_cons_zero]
  refine u_take (i := 6) (v := ?_) rfl (by kernel_rfl) (by kernel_rfl) (by kernel_rfl) (by kernel_rfl) (fun _ _ _ h => h) (Or.inl ⟨by rfl, ?_⟩) hHeld ?_
  rotate_left
  · intro W hSw
    obtain ⟨hs1, hs2⟩ := blk2 hSw.1
    obtain ⟨hs3, hs4⟩ := blk2 hSw.2.1
    have hs5 := HCELL.out W hSw.2.2
    go_simp
    try with_reducible rfl
  try simp only [Act.put, List.setIfInBounds_toArray, List.set_cons_zero, List.set_cons_succ, List.getElem_toArray, List.getElem_cons_succ, List.getElem_cons_zero]
  refine u_take (i := 7) (v := ?_) rfl (by kernel_rfl) (by kernel_rfl) (by kernel_rfl) (by kernel_rfl) (fun _ _ _ h => h) (Or.inl ⟨by rfl, ?_⟩) hHeld ?_
  rotate_left
  · intro W hSw
    obtain ⟨hs1, hs2⟩ := blk2 hSw.1
    obtain ⟨hs3, hs4⟩ := blk2 hSw.2.1
    have hs5 := HCELL.out W hSw.2.2
    go_simp
    try with_reducible rfl
  try simp only [Act.put, List.setIfInBounds_toArray, List.set_cons_zero, List.set_cons_succ, List.getElem_toArray, List.getElem_cons_succ, List.getElem_cons_zero]
  refine u_take (i := 8) (v := ?_) rfl (by kernel_rfl) (by kernel_rfl) (by kernel_rfl) (by kernel_rfl) (fun _ _ _ h => h) (Or.inl ⟨by rfl, ?_⟩) hHeld ?_
  rotate_left
  · intro W hSw
    obtain ⟨hs1, hs2⟩ := blk2 hSw.1
    obtain ⟨hs3, hs4⟩ := blk2 hSw.2.1
    have hs5 := HCELL.out W hSw.2.2
    go_simp
    try with_reducible rfl
  try simp only [Act.put, List.setIfInBounds_toArray, List.set_cons_zero, List.set_cons_succ, List.getElem_toArray, List.getElem_cons_succ, List.getElem_cons_zero]
  refine u_take (i := 9) (v := ?_) rfl (by kernel_rfl) (by kernel_rfl) (by kernel_rfl) (by kernel_rfl) (fun _ _ _ h => h) (Or.inl ⟨by rfl, ?_⟩) hHeld ?_
  rotate_left
  · intro W hSw
    obtain ⟨hs1, hs2⟩ := blk2 hSw.1
    obtain ⟨hs3, hs4⟩ := blk2 hSw.2.1
    have hs5 := HCELL.out W hSw.2.2
    go_simp
    try with_reducible rfl
  try simp only [Act.put, List.setIfInBounds_toArray, List.set_cons_zero, List.set_cons_succ, List.getElem_toArray, List.getElem_cons_succ, List.getElem_cons_zero]
  refine u_one (i := 4) (by kernel_rfl) rfl (fun K hK => ?_)
  have hQ1 := Lib.hid hHeld
  go_simp
  refine hK.out _ _ (fun _ => ?_) (fun hHeld0 => ?_)
  · exact ⟨hHeld.1.alloc _, hHeld.2.1.alloc _, hHeld.2.2.alloc hHeld.2.2.size _⟩
  have hHeld := hHeld0 (by decide)
  clear hHeld0 hK K
  try simp only [Act.put, List.setIfInBounds_toArray, List.set_cons_zero, List.set_cons_succ, List.getElem_toArray, List.getElem_cons_succ, List.getElem_cons_zero]
  refine u_one (i := 10) (by kernel_rfl) rfl (fun K hK => ?_)
  have hX1 := Lib.hid hHeld
  refine Dep.wanted_in (by rfl) ?_
  refine wp_app fit_rows rfl rfl (flat xl) rfl rfl HON.out (cl_rows (HLX.out _ hX1.out.2.2)) (Sto.flat_length _) (Sto.flat_one _) (by omega) (by show v0.heap.size + 1 ≤ (World.alloc (World.drew (World.alloc v0 (Obj.cells #[.slice n'.A n'.s.length n'.ca, .slice n'.B n'.m.length n'.cb] 31))) (Obj.cells #[] 62)).heap.size; simp) ?_
  intro v1 w1 ho hg hn
  rw [Nat.zero_add, List.nil_append] at ho
  obtain ⟨A', c', rfl, -⟩ := o_val ho
  have hbb := Lib.hid (((Below.refl (World.alloc v0 (Obj.cells #[.slice n'.A n'.s.length n'.ca, .slice n'.B n'.m.length n'.cb] 31)).heap.size (World.alloc v0 (Obj.cells #[.slice n'.A n'.s.length n'.ca, .slice n'.B n'.m.length n'.cb] 31))).drew.alloc (Nat.le_refl _) (Obj.cells #[] 62)).grown hg (by show (World.alloc v0 (Obj.cells #[.slice n'.A n'.s.length n'.ca, .slice n'.B n'.m.length n'.cb] 31)).heap.size ≤ (World.alloc (World.drew (World.alloc v0 (Obj.cells #[.slice n'.A n'.s.length n'.ca, .slice n'.B n'.m.length n'.cb] 31))) (Obj.cells #[] 62)).heap.size; simp) (fun k e => by cases e; simp))
  have N1 := Lib.hid ((HO1.out.alloc (Obj.cells #[.slice n'.A n'.s.length n'.ca, .slice n'.B n'.m.length n'.cb] 31)).step hbb.out)
  have R1 := Lib.hid (show HeldL w1 (n'.all ++ [⟨A', xl, c'⟩]) (w.heap.size + 2) w1.heap.size from ((HO1.out.r0.step ((Below.refl _ v0).alloc (Nat.le_refl _) (Obj.cells #[.slice n'.A n'.s.length n'.ca, .slice n'.B n'.m.length n'.cb] 31)) (.inr (Nat.le_refl _))).step hbb.out (.inr (Nat.le_refl _))).snoc (HeldX.of (Sto.Held.of_own ho)) (by have := HZ.out; omega) (by omega) (by have := hbb.out.size; rw [World.size_alloc] at this; omega))
  have B1 := Lib.hid ((HB0.out.alloc HB0.out.size (Obj.cells #[.slice n'.A n'.s.length n'.ca, .slice n'.B n'.m.length n'.cb] 31)).trans (hbb.out.mono (by have := HB0.out.size; simp; omega)))
  have Z1 := Lib.hid ((HP1.out.alloc (Obj.cells #[.slice n'.A n'.s.length n'.ca, .slice n'.B n'.m.length n'.cb] 31)).on hbb.out)
  have hxa := (Blk.new v0 31 #[.slice n'.A n'.s.length n'.ca, .slice n'.B n'.m.length n'.cb]).on hbb.out
  have hxc := (HP0.out.alloc (Obj.cells #[.slice n'.A n'.s.length n'.ca, .slice n'.B n'.m.length n'.cb] 31)).on hbb.out
  clear ho hg hn hX1
  refine hK.out _ _ (fun _ => ?_) (fun hHeld0 => ?_)
  · exact ⟨hxa, hxc, B1.out⟩
  have hHeld := hHeld0 (by decide)
  clear hHeld0 hK K
  try simp only [Act.put, List.setIfInBounds_toArray, List.set_cons_zero, List.set_cons_succ, List.getElem_toArray, List.getElem_cons_succ, List.getElem_cons_zero]
  refine u_take (i := 11) (v := ?_) rfl (by kernel_rfl) (by kernel_rfl) (by kernel_rfl) (by kernel_rfl) (fun _ _ _ h => h) (Or.inl ⟨by rfl, ?_⟩) hHeld ?_
  rotate_left
  · intro W hSw
    obtain ⟨hs1, hs2⟩ := blk2 hSw.1
    obtain ⟨hs3, hs4⟩ := blk2 hSw.2.1
    have hs5 := HCELL.out W hSw.2.2
    go_simp
    try with_reducible rfl
  try simp only [Act.put, List.setIfInBounds_toArray, List.set_cons_zero, List.set_cons_succ, List.getElem_toArray, List.getElem_cons_succ, List.getElem_cons_zero]
  refine u_one (i := 12) (by kernel_rfl) rfl (fun K hK => ?_)
  have N2 := Lib.hid (N1.out.alloc (Obj.cells #[.int .i64 (k : Int), .int .i64 t, .slice A' xl.length c'] 51))
  have R2 := Lib.hid (show HeldL (w1.alloc (Obj.cells #[.int .i64 (k : Int), .int .i64 t, .slice A' xl.length c'] 51)) (n'.all ++ [⟨A', xl, c'⟩]) (w.heap.size + 2) (w1.alloc (Obj.cells #[.int .i64 (k : Int), .int .i64 t, .slice A' xl.length c'] 51)).heap.size from (R1.out.step ((Below.refl _ w1).alloc (Nat.le_refl _) (Obj.cells #[.int .i64 (k : Int), .int .i64 t, .slice A' xl.length c'] 51)) (.inr (Nat.le_refl _))).wide (Nat.le_refl _) (by simp))
  have B2 := Lib.hid (B1.out.alloc B1.out.size (Obj.cells #[.int .i64 (k : Int), .int .i64 t, .slice A' xl.length c'] 51))
  have Z2 := Lib.hid (Z1.out.alloc (Obj.cells #[.int .i64 (k : Int), .int .i64 t, .slice A' xl.length c'] 51))
  go_simp
  refine hK.out _ _ (fun _ => ?_) (fun hHeld0 => ?_)
  · exact ⟨hHeld.1.alloc _, hHeld.2.1.alloc _, hHeld.2.2.alloc hHeld.2.2.size _⟩
  have hHeld := hHeld0 (by decide)
  clear hHeld0 hK K
  try simp only [Act.put, List.setIfInBounds_toArray, List.set_cons_zero, List.set_cons_succ, List.getElem_toArray, List.getElem_cons_succ, List.getElem_cons_zero]
  refine u_one (i := 13) (by kernel_rfl) rfl (fun K hK => ?_)
  have hX2 := Lib.hid hHeld
  refine Dep.wanted_in (by rfl) ?_
  refine wp_app fit_letters rfl rfl (mv [⟨(k : Int), t, ⟨A', xl, c'⟩⟩]) rfl rfl N2.out.m0 (cl_one_at _ _ #[.int .i64 (k : Int), .int .i64 t, .slice A' xl.length c'] rfl) rfl (mv_one _) (by omega) (by have := HZ.out; have := hX2.out.1.lt; omega) ?_
  intro v2 w2 ho2 hg2 hn2
  obtain ⟨A2, c2, rfl, -⟩ := o_val ho2
  have N3 := Lib.hid (N2.out.addM (y := ⟨(k : Int), t, ⟨A', xl, c'⟩⟩) R2.out ho2 hg2)
  have hxb : Blk w2 v0.heap.size 31 #[.slice n'.A n'.s.length n'.ca, .slice n'.B n'.m.length n'.cb] := (hg2.block _ hX2.out.1.lt (fun e => by have := (HO1.out.lt _ e.symm).2; omega)).trans hX2.out.1
  have Z3 := Lib.hid (grown_out N2.out.m0 hg2 (by omega) Z2.out)
  have hxm := grown_out N2.out.m0 hg2 (by omega) hX2.out.2.1
  have B3 := Lib.hid (B2.out.grown hg2 (by have := B2.out.size; exact this) (fun k e => by have := o_base N2.out.m0 k e; omega))
  clear ho2 hg2 hn2 hX2
  refine hK.out _ _ (fun _ => ?_) (fun hHeld0 => ?_)
  · exact ⟨hxb, hxm, B3.out⟩
  have hHeld := hHeld0 (by decide)
  clear hHeld0 hK K
  try simp only [Act.put, List.setIfInBounds_toArray, List.set_cons_zero, List.set_cons_succ, List.getElem_toArray, List.getElem_cons_succ, List.getElem_cons_zero]
  refine u_take (i := 14) (v := ?_) rfl (by kernel_rfl) (by kernel_rfl) (by kernel_rfl) (by kernel_rfl) (fun _ _ _ h => h) (Or.inl ⟨by rfl, ?_⟩) hHeld ?_
  rotate_left
  · intro W hSw
    obtain ⟨hs1, hs2⟩ := blk2 hSw.1
    obtain ⟨hs3, hs4⟩ := blk2 hSw.2.1
    have hs5 := HCELL.out W hSw.2.2
    go_simp
    try with_reducible rfl
  try simp only [Act.put, List.setIfInBounds_toArray, List.set_cons_zero, List.set_cons_succ, List.getElem_toArray, List.getElem_cons_succ, List.getElem_cons_zero]
  refine u_one (i := 15) (by kernel_rfl) rfl (fun K hK => ?_)
  obtain ⟨z0, z1⟩ := blk2 hHeld.1
  have zf := hHeld.1.free 1
  have HX3 := Lib.hid hHeld.1
  go_simp
  refine hK.out _ _ (fun h => absurd rfl h) (fun _ => ?_)
  clear hK K
  try simp only [Act.put, List.setIfInBounds_toArray, List.set_cons_zero, List.set_cons_succ, List.getElem_toArray, List.getElem_cons_succ, List.getElem_cons_zero]
  refine u_done (by kernel_rfl) ?_ _
  have HXS := Lib.hid (out_set9 HX3.out (Value.slice A2 (n'.m.length + 1) c2))
  have N4 := Lib.hid (N3.out.box HX3.out (by decide) (by decide) (by decide) 1 (Value.slice A2 (n'.m.length + 1) c2))
  have B4 := Lib.hid (B3.out.setCell (p := ⟨v0.heap.size, 1, none⟩) (by show w.heap.size ≤ v0.heap.size; have := HZ.out; omega) (Value.slice A2 (n'.m.length + 1) c2))
  have Z4 := Lib.hid (Z3.out.other (p := ⟨v0.heap.size, 1, none⟩) (by show w.heap.size + 1 ≠ v0.heap.size; have := HZ.out; omega) (Value.slice A2 (n'.m.length + 1) c2))
  generalize w2.setCell ⟨v0.heap.size, 1, none⟩ (Value.slice A2 (n'.m.length + 1) c2) = w4 at HXS N4 B4 Z4 ⊢
  obtain ⟨y0, y1⟩ := blk2 HXS.out
  obtain ⟨q0, q1, q2⟩ := blk3 Z4.out
  have g0 := Z4.out.free 0
  have g1 := Z4.out.free 1
  have g2 := Z4.out.free 2
  clear z0 z1 zf HX3
  go_wp2_with fail
  refine bodyPost_ret (v := Nt.out ⟨n'.A, n'.s, n'.ca, A2, n'.m ++ [⟨(k : Int), t, ⟨A', xl, c'⟩⟩], c2⟩ 0) (by simp [results, Try.results18, go_sem, Nt.out, q0, q1, q2]) rfl ?_
  refine AnsN.own ?_ ?_ ?_
  · exact (((N4.out.box Z4.out (by decide) (by decide) (by decide) 0 _).box (Z4.out.set 0 _ rfl) (by decide) (by decide) (by decide) 1 _).box ((Z4.out.set 0 _ rfl).set 1 _ rfl) (by decide) (by decide) (by decide) 2 _).less (by omega)
  · rw [← HJP.out, ← HPP.out]; unfold addP pl pm; simp
  · exact ((B4.out.setCell (p := ⟨w.heap.size + 1, 0, none⟩) (by show w.heap.size ≤ w.heap.size + 1; omega) _).setCell (p := ⟨w.heap.size + 1, 1, none⟩) (by show w.heap.size ≤ w.heap.size + 1; omega) _).setCell (p := ⟨w.heap.size + 1, 2, none⟩) (by show w.heap.size ≤ w.heap.size + 1; omega) _
end Go.Proofs.Ythagkjofpfafiaa.Net
