/-
  impl.NetPut.
-/
import Derived.Test.YtoagdpbbojlgfaaGreatPackNSP
import Derived.Test.YtoagdpbbojlgfaaGreatPackNCp
import Derived.Test.YtoagdpbbojlgfaaGreatPackNRt
import Derived.Test.YtoagdpbbojlgfaaGreatPackRNw
namespace Go.Proofs.YtoagdpbbojlgfaaGreat.Net
open Go.ChangeShapes Go.WideShapes Go.ChangeAt Go.RowKit
open Sto (R Sl flat putW rowB)
set_option linter.unusedVariables false
set_option maxRecDepth 100000
set_option linter.unusedSimpArgs false

theorem rows_one (x : R) : Sto.rowsB [x] = rowB x := by
  cases hx : rowB x
  · exact Sto.rowsB_false fun h => by rw [Sto.ok_one.1 h] at hx; cases hx
  · exact Sto.rowsB_true (Sto.ok_one.2 hx)
theorem implOne_any (A : Option Addr) (x : R) (c : Nat) (w : World) (h : Sto.Lies w w.heap.size A [x]) (hf : Sto.Fits x) :
    Calls Tryz.prog 81 #[.slice A 1 c] w fun e w' => e = .returned (.bool (rowB x)) ∧ Below w.heap.size w w' := by
  rw [← rows_one]
  exact Sto.implStore_any A [x] c w h (by simp) (fun d hd => by obtain rfl := List.mem_singleton.1 hd; exact hf)

set_option maxHeartbeats 8000000 in
set_option maxRecDepth 100000 in
theorem implNetPut_any (n : Nt) (i : Int) (x : R) (w : World) (h : NLies w w.heap.size n) (hL : Little n) (hf : Sto.Fits x)
    :
    Calls Tryz.prog 18 #[n.val, .int .i64 i, x.val] w fun e w' => AnsN w e w' (nputP (pl n) i x) (nputC (pl n) i x) := by
  have hsl : n.s.length ≤ 1048576 := by have := hL.1; omega
  have hml : n.m.length ≤ 1048576 := by have := hL.1; omega
  have B0 := (((Below.refl w.heap.size w).alloc (Nat.le_refl _) (Obj.cells #[.slice n.A n.s.length n.ca, .slice n.B n.m.length n.cb] 35)).alloc (by simp) (Obj.cells #[.string x.k, .int .i64 x.i.c, .int .i64 x.i.s, .int .i64 x.i.e, .string x.b] 42)).alloc (by simp; omega) (Obj.cells #[.slice none 0 0, .slice none 0 0, .int .i64 0] 37)
  have p0 := ((Blk.new w 35 #[.slice n.A n.s.length n.ca, .slice n.B n.m.length n.cb]).alloc (Obj.cells #[.string x.k, .int .i64 x.i.c, .int .i64 x.i.s, .int .i64 x.i.e, .string x.b] 42)).alloc (Obj.cells #[.slice none 0 0, .slice none 0 0, .int .i64 0] 37)
  have p1 := (Blk.new (World.alloc w (Obj.cells #[.slice n.A n.s.length n.ca, .slice n.B n.m.length n.cb] 35)) 42 #[.string x.k, .int .i64 x.i.c, .int .i64 x.i.s, .int .i64 x.i.e, .string x.b]).alloc (Obj.cells #[.slice none 0 0, .slice none 0 0, .int .i64 0] 37)
  have p2 := Blk.new (World.alloc (World.alloc w (Obj.cells #[.slice n.A n.s.length n.ca, .slice n.B n.m.length n.cb] 35)) (Obj.cells #[.string x.k, .int .i64 x.i.c, .int .i64 x.i.s, .int .i64 x.i.e, .string x.b] 42)) 37 #[.slice none 0 0, .slice none 0 0, .int .i64 0]
  simp only [World.size_alloc] at p1 p2
  have hz : w.heap.size + 3 ≤ (World.alloc (World.alloc (World.alloc w (Obj.cells #[.slice n.A n.s.length n.ca, .slice n.B n.m.length n.cb] 35)) (Obj.cells #[.string x.k, .int .i64 x.i.c, .int .i64 x.i.s, .int .i64 x.i.e, .string x.b] 42)) (Obj.cells #[.slice none 0 0, .slice none 0 0, .int .i64 0] 37)).heap.size := by simp
  have HZ := Lib.hid hz
  have HB0 := Lib.hid B0
  have HP0 := Lib.hid p0
  have HPR := Lib.hid (show Sto.RowRow _ _ 42 x from p1)
  have HP1 := Lib.hid p2
  clear hz B0 p0 p1 p2
  have HAL := Lib.hid (show Sto.Lies ((World.alloc (World.alloc (World.alloc w (Obj.cells #[.slice n.A n.s.length n.ca, .slice n.B n.m.length n.cb] 35)) (Obj.cells #[.string x.k, .int .i64 x.i.c, .int .i64 x.i.s, .int .i64 x.i.e, .string x.b] 42)) (Obj.cells #[.slice none 0 0, .slice none 0 0, .int .i64 0] 37)).alloc (Obj.cells #[.string x.k, .int .i64 x.i.c, .int .i64 x.i.s, .int .i64 x.i.e, .string x.b] 42)) ((World.alloc (World.alloc (World.alloc w (Obj.cells #[.slice n.A n.s.length n.ca, .slice n.B n.m.length n.cb] 35)) (Obj.cells #[.string x.k, .int .i64 x.i.c, .int .i64 x.i.s, .int .i64 x.i.e, .string x.b] 42)) (Obj.cells #[.slice none 0 0, .slice none 0 0, .int .i64 0] 37)).alloc (Obj.cells #[.string x.k, .int .i64 x.i.c, .int .i64 x.i.s, .int .i64 x.i.e, .string x.b] 42)).heap.size (some ⟨w.heap.size + 3, 0, none⟩) [x] from by
    have h0 := Sto.one_lies (World.alloc (World.alloc (World.alloc w (Obj.cells #[.slice n.A n.s.length n.ca, .slice n.B n.m.length n.cb] 35)) (Obj.cells #[.string x.k, .int .i64 x.i.c, .int .i64 x.i.s, .int .i64 x.i.e, .string x.b] 42)) (Obj.cells #[.slice none 0 0, .slice none 0 0, .int .i64 0] 37)) x
    have hsz : (World.alloc (World.alloc (World.alloc w (Obj.cells #[.slice n.A n.s.length n.ca, .slice n.B n.m.length n.cb] 35)) (Obj.cells #[.string x.k, .int .i64 x.i.c, .int .i64 x.i.s, .int .i64 x.i.e, .string x.b] 42)) (Obj.cells #[.slice none 0 0, .slice none 0 0, .int .i64 0] 37)).heap.size = w.heap.size + 3 := by simp
    rw [hsz] at h0
    exact h0)
  have HP0 := Lib.hid (HP0.out.alloc (Obj.cells #[.string x.k, .int .i64 x.i.c, .int .i64 x.i.s, .int .i64 x.i.e, .string x.b] 42))
  have HPR := Lib.hid (HPR.out.alloc (Obj.cells #[.string x.k, .int .i64 x.i.c, .int .i64 x.i.s, .int .i64 x.i.e, .string x.b] 42))
  have HP1 := Lib.hid (HP1.out.alloc (Obj.cells #[.string x.k, .int .i64 x.i.c, .int .i64 x.i.s, .int .i64 x.i.e, .string x.b] 42))
  have HB0 := Lib.hid (HB0.out.alloc HB0.out.size (Obj.cells #[.string x.k, .int .i64 x.i.c, .int .i64 x.i.s, .int .i64 x.i.e, .string x.b] 42))
  have HZ := Lib.hid (show w.heap.size + 4 ≤ ((World.alloc (World.alloc (World.alloc w (Obj.cells #[.slice n.A n.s.length n.ca, .slice n.B n.m.length n.cb] 35)) (Obj.cells #[.string x.k, .int .i64 x.i.c, .int .i64 x.i.s, .int .i64 x.i.e, .string x.b] 42)) (Obj.cells #[.slice none 0 0, .slice none 0 0, .int .i64 0] 37)).alloc (Obj.cells #[.string x.k, .int .i64 x.i.c, .int .i64 x.i.s, .int .i64 x.i.e, .string x.b] 42)).heap.size from by simp)
  have HRT := Lib.hid (fun W (hW : Below w.heap.size w W) => implRight_any n W (h.on hW) hL)
  have HP1L := Lib.hid (show (pl n).1.length = n.s.length from ps_len _)
  cases hr : netB (pl n)
  · have HR := Lib.hid hr
    have hcm : nputC (pl n) i x = 1 := by unfold nputC; rw [if_neg (by rw [hr]; rintro ⟨h, _⟩; cases h)]
    have HGC := Lib.hid hcm
    have HGP := Lib.hid (show nputP (pl n) i x = ([], []) by unfold nputP; rw [hcm]; rfl)
    rw [HGC.out, HGP.out]
    clear hr h hL HGC HGP hcm
    unfold Nt.val at HRT ⊢
    unfold R.val
    go_enter Tryz.func18, Tryz.ntmps18
    go_wp2_with fail
    refine (HRT.out _ HB0.out).mono ?_
    rintro e w1 ⟨rfl, hb⟩
    rw [HR.out]
    have HAL := Lib.hid ((HAL.out.below hb (Nat.le_refl _)).more hb.size)
    have HB0 := Lib.hid (HB0.out.trans (hb.mono HB0.out.size))
    have HP0 := Lib.hid (HP0.out.on hb)
    have HPR := Lib.hid (HPR.out.on hb)
    have HP1 := Lib.hid (HP1.out.on hb)
    have HZ := Lib.hid (show w.heap.size + 4 ≤ w1.heap.size from by have := HZ.out; have := hb.size; omega)
    clear hb
    obtain ⟨q0, q1, q2⟩ := blk3 HP1.out
    have g0 := HP1.out.free 0
    have g1 := HP1.out.free 1
    have g2 := HP1.out.free 2
    go_wp2_with fail
    refine bodyPost_ret (v := .agg #[.slice none 0 0, .slice none 0 0, .int .i64 1]) (by simp [results, Tryz.results18, go_sem, q0, q1, q2]) rfl ?_
    exact AnsN.ill (((HB0.out.setCell (p := ⟨w.heap.size + 2, 0, none⟩) (by show w.heap.size ≤ w.heap.size + 2; omega) _).setCell (p := ⟨w.heap.size + 2, 1, none⟩) (by show w.heap.size ≤ w.heap.size + 2; omega) _).setCell (p := ⟨w.heap.size + 2, 2, none⟩) (by show w.heap.size ≤ w.heap.size + 2; omega) _)
  have HR := Lib.hid hr
  cases hx : rowB x
  · have HX := Lib.hid hx
    have hcm : nputC (pl n) i x = 1 := by unfold nputC; rw [if_neg (by rw [hx]; rintro ⟨_, h⟩; cases h)]
    have HGC := Lib.hid hcm
    have HGP := Lib.hid (show nputP (pl n) i x = ([], []) by unfold nputP; rw [hcm]; rfl)
    rw [HGC.out, HGP.out]
    clear hr hx h hL HGC HGP hcm
    unfold Nt.val at HRT ⊢
    unfold R.val
    go_enter Tryz.func18, Tryz.ntmps18
    go_wp2_with fail
    refine (HRT.out _ HB0.out).mono ?_
    rintro e w1 ⟨rfl, hb⟩
    rw [HR.out]
    have HAL := Lib.hid ((HAL.out.below hb (Nat.le_refl _)).more hb.size)
    have HB0 := Lib.hid (HB0.out.trans (hb.mono HB0.out.size))
    have HP0 := Lib.hid (HP0.out.on hb)
    have HPR := Lib.hid (HPR.out.on hb)
    have HP1 := Lib.hid (HP1.out.on hb)
    have HZ := Lib.hid (show w.heap.size + 4 ≤ w1.heap.size from by have := HZ.out; have := hb.size; omega)
    clear hb
    go_wp2_with fail
    refine (implOne_any (some ⟨w.heap.size + 3, 0, none⟩) x 1 _ HAL.out hf).mono ?_
    rintro e w2 ⟨rfl, hb⟩
    rw [HX.out]
    have HAL := Lib.hid ((HAL.out.below hb (Nat.le_refl _)).more hb.size)
    have HB0 := Lib.hid (HB0.out.trans (hb.mono HB0.out.size))
    have HP0 := Lib.hid (HP0.out.on hb)
    have HPR := Lib.hid (HPR.out.on hb)
    have HP1 := Lib.hid (HP1.out.on hb)
    have HZ := Lib.hid (show w.heap.size + 4 ≤ w2.heap.size from by have := HZ.out; have := hb.size; omega)
    clear hb
    obtain ⟨q0, q1, q2⟩ := blk3 HP1.out
    have g0 := HP1.out.free 0
    have g1 := HP1.out.free 1
    have g2 := HP1.out.free 2
    go_wp2_with fail
    refine bodyPost_ret (v := .agg #[.slice none 0 0, .slice none 0 0, .int .i64 1]) (by simp [results, Tryz.results18, go_sem, q0, q1, q2]) rfl ?_
    exact AnsN.ill (((HB0.out.setCell (p := ⟨w.heap.size + 2, 0, none⟩) (by show w.heap.size ≤ w.heap.size + 2; omega) _).setCell (p := ⟨w.heap.size + 2, 1, none⟩) (by show w.heap.size ≤ w.heap.size + 2; omega) _).setCell (p := ⟨w.heap.size + 2, 2, none⟩) (by show w.heap.size ≤ w.heap.size + 2; omega) _)
  have HX := Lib.hid hx
  have HC0 : nputC (pl n) i x = if place n.s.length i = true then (if 6 < (mergeAll (allP (pl n) ++ [[x]])).length then 9 else 0) else 6 := by unfold nputC; rw [if_pos ⟨hr, hx⟩, HP1L.out]
  cases hq : place n.s.length i
  · have HQ := Lib.hid hq
    have hcm : nputC (pl n) i x = 6 := by rw [HC0, if_neg (by rw [hq]; decide)]
    have HGC := Lib.hid hcm
    have HGP := Lib.hid (show nputP (pl n) i x = ([], []) by unfold nputP; rw [hcm]; rfl)
    rw [HGC.out, HGP.out]
    clear hr hx hq h hL HGC HGP hcm HC0
    unfold Nt.val at HRT ⊢
    unfold R.val
    go_enter Tryz.func18, Tryz.ntmps18
    go_wp2_with fail
    refine (HRT.out _ HB0.out).mono ?_
    rintro e w1 ⟨rfl, hb⟩
    rw [HR.out]
    have HAL := Lib.hid ((HAL.out.below hb (Nat.le_refl _)).more hb.size)
    have HB0 := Lib.hid (HB0.out.trans (hb.mono HB0.out.size))
    have HP0 := Lib.hid (HP0.out.on hb)
    have HPR := Lib.hid (HPR.out.on hb)
    have HP1 := Lib.hid (HP1.out.on hb)
    have HZ := Lib.hid (show w.heap.size + 4 ≤ w1.heap.size from by have := HZ.out; have := hb.size; omega)
    clear hb
    go_wp2_with fail
    refine (implOne_any (some ⟨w.heap.size + 3, 0, none⟩) x 1 _ HAL.out hf).mono ?_
    rintro e w2 ⟨rfl, hb⟩
    rw [HX.out]
    have HAL := Lib.hid ((HAL.out.below hb (Nat.le_refl _)).more hb.size)
    have HB0 := Lib.hid (HB0.out.trans (hb.mono HB0.out.size))
    have HP0 := Lib.hid (HP0.out.on hb)
    have HPR := Lib.hid (HPR.out.on hb)
    have HP1 := Lib.hid (HP1.out.on hb)
    have HZ := Lib.hid (show w.heap.size + 4 ≤ w2.heap.size from by have := HZ.out; have := hb.size; omega)
    clear hb
    obtain ⟨b0, b1⟩ := blk2 HP0.out
    go_wp2_with fail
    clear b0 b1
    refine (placeS_any _ _ _ _ _ hsl).mono ?_
    rintro e w3 ⟨rfl, rfl⟩
    rw [HQ.out]
    obtain ⟨q0, q1, q2⟩ := blk3 HP1.out
    have g0 := HP1.out.free 0
    have g1 := HP1.out.free 1
    have g2 := HP1.out.free 2
    go_wp2_with fail
    refine bodyPost_ret (v := .agg #[.slice none 0 0, .slice none 0 0, .int .i64 6]) (by simp [results, Tryz.results18, go_sem, q0, q1, q2]) rfl ?_
    exact AnsN.ill (((HB0.out.setCell (p := ⟨w.heap.size + 2, 0, none⟩) (by show w.heap.size ≤ w.heap.size + 2; omega) _).setCell (p := ⟨w.heap.size + 2, 1, none⟩) (by show w.heap.size ≤ w.heap.size + 2; omega) _).setCell (p := ⟨w.heap.size + 2, 2, none⟩) (by show w.heap.size ≤ w.heap.size + 2; omega) _)
  have HQ := Lib.hid hq
  by_cases h6 : (mergeAll (allP (pl n) ++ [[x]])).length ≤ 6
  · have hcm : nputC (pl n) i x = 0 := by rw [HC0, if_pos hq, if_neg (by omega)]
    obtain ⟨k, rfl, hk⟩ := place_nat hq
    have HJ0 := Lib.hid (show nputP (pl n) k x = ((pl n).1.set k (putW ((pl n).1.getD k []) x), (pl n).2) by unfold nputP; rw [if_pos hcm, Int.toNat_natCast])
    have HFIT := Lib.hid (show decide ((mergeAll (allP (pl n) ++ [[x]])).length ≤ 6) = true from decide_eq_true h6)
    have hrows : ∀ l ∈ allP (pl n) ++ [[x]], Sto.rowsB l = true := fun l hl => by
      rcases List.mem_append.1 hl with hl | hl
      · exact (okN_of hr).2.2.2.1 l hl
      · obtain rfl := List.mem_singleton.1 hl; rw [rows_one]; exact hx
    have hin : n.s[k].l ∈ allP (pl n) ++ [[x]] := List.mem_append_left _ (List.mem_append_left _ (List.mem_map.2 ⟨_, List.getElem_mem hk, rfl⟩))
    have hinx : [x] ∈ allP (pl n) ++ [[x]] := List.mem_append_right _ (List.mem_singleton.2 rfl)
    obtain ⟨hpc, hpr, -, -⟩ := fits_merge hrows h6 (hrows _ hin) (hrows _ hinx) (among_mem hin) (among_mem hinx)
    have hxl : n.s[k].l.length ≤ 1048576 := by have := (Sto.ok_of (hrows _ hin)).1; omega
    have hxk := (hL.fits (x := n.s[k]) (List.mem_append_left _ (List.getElem_mem hk))).2
    have HSP := Lib.hid (fun W (hW : Below w.heap.size w W) => Sto.implPutOut_any n.s[k].A n.s[k].l n.s[k].c x W ((h.1.below hW (Nat.le_refl _)).2 _ (List.getElem_mem hk) |>.more hW.size) hxl hxk hf)
    have hpc2 : Sto.putC n.s[k].l x = 0 := hpc
    have hpr2 : Sto.putR n.s[k].l x = putW n.s[k].l x := hpr
    rw [hpc2, hpr2] at HSP
    have HC1 := Lib.hid (fun W (hW : Below w.heap.size w W) => (h.1.below hW (Nat.le_refl _)).at_ hk)
    obtain ⟨ad, hA, _⟩ := HC1.out w (Below.refl _ _)
    have HCELL := Lib.hid (show ∀ W, Below w.heap.size w W → W.cell? (ad.add k) = some (.slice n.s[k].A n.s[k].l.length n.s[k].c) from fun W hW => by
      obtain ⟨ad', e, _, c0, _⟩ := HC1.out W hW
      rw [hA] at e
      cases e
      exact c0)
    have hgd : (pl n).1.getD k [] = n.s[k].l := by show (ps n.s).getD k [] = _; unfold ps; simp [List.getD, hk]
    have HJ1 := Lib.hid (show ((pl n).1.set k (putW n.s[k].l x), (pl n).2) = nputP (pl n) k x by rw [HJ0.out, hgd])
    have HCP := Lib.hid (fun W (hW : Below w.heap.size w W) => newNet_any n W (h.on hW) hL)
    have hok := okN_of hr
    have hn4 : 1 ≤ n.s.length ∧ n.s.length ≤ 4 := by have := hok.1; rw [HP1L.out] at this; exact this
    have hm40 : n.m.length ≤ 40 := by have := hok.2.1; rw [show (pl n).2.length = n.m.length from pm_len _] at this; exact this
    have HAS := Lib.hid (fun W (hW : Below w.heap.size w W) => allStores_any n W (h.on hW) hsl hm40 (by omega))
    have HLX := Lib.hid (show ∀ W, Below w.heap.size w W → ∀ y ∈ n.all, Sto.Lies W W.heap.size y.A y.l from fun W hW y hy => by
      have h' := h.on hW
      rcases List.mem_append.1 hy with hy | hy
      · exact h'.1.2 y hy
      · obtain ⟨z, hz, rfl⟩ := List.mem_map.1 hy; exact h'.2.2 z hz)
    have HAN := Lib.hid (show n.all.length ≤ 44 by unfold Nt.all; simp; omega)
    have HRS := Lib.hid (show ∀ y ∈ n.all, Sto.rowsB y.l = true from fun y hy => hok.2.2.2.1 y.l (by rw [← all_pl]; exact List.mem_map.2 ⟨y, hy, rfl⟩))
    have HRX := Lib.hid (show Sto.rowsB [x] = true by rw [rows_one]; exact hx)
    have HPA := Lib.hid (show ps (n.all ++ [(⟨(some ⟨w.heap.size + 3, 0, none⟩), [x], 1⟩ : Sl)]) = allP (pl n) ++ [[x]] by rw [← all_pl]; unfold ps; rw [List.map_append]; rfl)
    clear hok hm40 hn4
    rw [hcm]
    obtain ⟨xx, hxx⟩ : ∃ xx, n.s[k] = xx := ⟨_, rfl⟩
    rw [hxx] at HSP HCELL HJ1
    clear hr hx hq h hL hcm HC0 h6 hrows hin hinx hpc hpr hxl hxk hpc2 hpr2 HC1 hgd HJ0 hxx
    obtain ⟨xA, xl, xc⟩ := xx
    simp only at HSP HCELL HJ1
    have hki0 : (k : Int) < n.s.length := by omega
    unfold Nt.val at HRT HAS HCP ⊢
    simp only [hA] at HRT HAS HCP HP0 HPR HP1 HB0 HZ HAL ⊢
    unfold R.val Sto.slV at HSP
    unfold R.val
    go_enter Tryz.func18, Tryz.ntmps18
    go_wp2_with fail
    refine (HRT.out _ HB0.out).mono ?_
    rintro e w1 ⟨rfl, hb⟩
    rw [HR.out]
    have HAL := Lib.hid ((HAL.out.below hb (Nat.le_refl _)).more hb.size)
    have HB0 := Lib.hid (HB0.out.trans (hb.mono HB0.out.size))
    have HP0 := Lib.hid (HP0.out.on hb)
    have HPR := Lib.hid (HPR.out.on hb)
    have HP1 := Lib.hid (HP1.out.on hb)
    have HZ := Lib.hid (show w.heap.size + 4 ≤ w1.heap.size from by have := HZ.out; have := hb.size; omega)
    clear hb
    go_wp2_with fail
    refine (implOne_any (some ⟨w.heap.size + 3, 0, none⟩) x 1 _ HAL.out hf).mono ?_
    rintro e w2 ⟨rfl, hb⟩
    rw [HX.out]
    have HAL := Lib.hid ((HAL.out.below hb (Nat.le_refl _)).more hb.size)
    have HB0 := Lib.hid (HB0.out.trans (hb.mono HB0.out.size))
    have HP0 := Lib.hid (HP0.out.on hb)
    have HPR := Lib.hid (HPR.out.on hb)
    have HP1 := Lib.hid (HP1.out.on hb)
    have HZ := Lib.hid (show w.heap.size + 4 ≤ w2.heap.size from by have := HZ.out; have := hb.size; omega)
    clear hb
    obtain ⟨b0, b1⟩ := blk2 HP0.out
    go_wp2_with fail
    clear b0 b1
    refine (placeS_any _ _ _ _ _ hsl).mono ?_
    rintro e w3 ⟨rfl, rfl⟩
    rw [HQ.out]
    obtain ⟨b0, b1⟩ := blk2 HP0.out
    go_wp2_with fail
    clear b0 b1
    refine (HAS.out _ HB0.out).mono ?_
    rintro e w4 ⟨v, rfl, ho, hne, hb4⟩
    have HO4 := Lib.hid ho
    obtain ⟨g, c, rfl, -, -, -, -⟩ := o_val_ne ho hne
    clear ho hne
    go_wp2_with (at_builtin; refine wpList_app fit_stores rfl rfl rfl (sv [⟨(some ⟨w.heap.size + 3, 0, none⟩), [x], 1⟩]) rfl rfl (o_alloc HO4.out (Obj.cells #[.slice (some ⟨w.heap.size + 3, 0, none⟩) 1 1] 98)) (cl_one_at _ _ #[.slice (some ⟨w.heap.size + 3, 0, none⟩) 1 1] rfl) rfl (sv_one _) (by have := HAN.out; omega) (by have := hb4.size; simp; omega) ?_; intro v2 w5 ho2 hg2 hn2; obtain ⟨g2, c2, rfl, k1, k2, k3, hbk2⟩ := o_val_ne ho2 (fun e => by have := (hn2 e).1; cases this); have hb := (hb4.alloc hb4.size (Obj.cells #[.slice (some ⟨w.heap.size + 3, 0, none⟩) 1 1] 98)).grown hg2 (by have := hb4.size; simp; omega) (fun k e => o_base HO4.out k e); clear hg2 hn2 ho2 k1 k2 k3)
    clear hb4 HO4
    have HAL := Lib.hid ((HAL.out.below hb (Nat.le_refl _)).more hb.size)
    have HB0 := Lib.hid (HB0.out.trans (hb.mono HB0.out.size))
    have HP0 := Lib.hid (HP0.out.on hb)
    have HPR := Lib.hid (HPR.out.on hb)
    have HP1 := Lib.hid (HP1.out.on hb)
    have HZ := Lib.hid (show w.heap.size + 4 ≤ w5.heap.size from by have := HZ.out; have := hb.size; omega)
    clear hb
    have HKF : Hid (Calls Tryz.prog 109 #[.slice (some ⟨g2, 0, none⟩) (n.all.length + 1) c2] w5 fun e w' => e = .returned (.bool (decide ((mergeAll (allP (pl n) ++ [[x]])).length ≤ 6))) ∧ Below w5.heap.size w5 w') := Lib.hid (by
      have := keysFit_any ⟨g2, 0, none⟩ (n.all ++ [(⟨(some ⟨w.heap.size + 3, 0, none⟩), [x], 1⟩ : Sl)]) c2 w5 ⟨by rw [sv_append]; exact hbk2.cl hbk2.lt, fun y hy => by
        rcases List.mem_append.1 hy with hy | hy
        · exact HLX.out w5 HB0.out y hy
        · obtain rfl := List.mem_singleton.1 hy; exact HAL.out⟩ (by simp) (by rw [List.length_append]; have := HAN.out; simp; omega) (fun y hy => by
        rcases List.mem_append.1 hy with hy | hy
        · exact HRS.out y hy
        · obtain rfl := List.mem_singleton.1 hy; exact HRX.out)
      rw [List.length_append, List.length_singleton, HPA.out] at this
      exact this)
    rw [HFIT.out] at HKF
    clear hbk2
    refine HKF.out.mono ?_
    rintro e w6 ⟨rfl, hb⟩
    have HAL := Lib.hid ((HAL.out.below hb (Nat.le_refl _)).more hb.size)
    have HB0 := Lib.hid (HB0.out.trans (hb.mono HB0.out.size))
    have HP0 := Lib.hid (HP0.out.on hb)
    have HPR := Lib.hid (HPR.out.on hb)
    have HP1 := Lib.hid (HP1.out.on hb)
    have HZ := Lib.hid (show w.heap.size + 4 ≤ w6.heap.size from by have := HZ.out; have := hb.size; omega)
    clear hb
    obtain ⟨b0, b1⟩ := blk2 HP0.out
    go_wp2_with fail
    clear b0 b1
    refine (HCP.out _ HB0.out).mono ?_
    rintro e v0 ⟨n', rfl, hp, ho, hb⟩
    have HPP := Lib.hid hp
    have HO1 := Lib.hid (ho.less (show w.heap.size + 3 ≤ _ from Nat.le_trans (by omega) HZ.out))
    have hns : n'.s.length = n.s.length := by have := congrArg (fun q => q.1.length) hp; simpa [pl, ps_len] using this
    have hkm : k < n'.s.length := by omega
    have HNS := Lib.hid hns
    have HAL := Lib.hid ((HAL.out.below hb (Nat.le_refl _)).more hb.size)
    have HB0 := Lib.hid (HB0.out.trans (hb.mono HB0.out.size))
    have HP0 := Lib.hid (HP0.out.on hb)
    have HPR := Lib.hid (HPR.out.on hb)
    have HP1 := Lib.hid (HP1.out.on hb)
    have HZ := Lib.hid (show w.heap.size + 4 ≤ v0.heap.size from by have := HZ.out; have := hb.size; omega)
    clear hb
    clear hp ho hns
    obtain ⟨g, hgA, hga, hgl⟩ := HO1.out.someS (by omega)
    have HJP := Lib.hid (show ((pl n').1.set k (putW xl x), (pl n').2) = nputP (pl n) k x by rw [← HJ1.out, HPP.out])
    clear HJ1
    obtain ⟨A1, s1, ca1, B1, m1, cb1⟩ := n'
    simp only at hgA hkm HJP HNS
    subst hgA
    unfold Nt.val
    have hki : (k : Int) < s1.length := by omega
    have XB1 := Lib.hid (Blk.new v0 35 #[.slice (some ⟨g, 0, none⟩) s1.length ca1, .slice B1 m1.length cb1])
    have LZ := Lib.hid (show (World.alloc v0 (Obj.cells #[.slice (some ⟨g, 0, none⟩) s1.length ca1, .slice B1 m1.length cb1] 35)).heap.size = v0.heap.size + 1 by simp)
    have N1 := Lib.hid (HO1.out.alloc (Obj.cells #[.slice (some ⟨g, 0, none⟩) s1.length ca1, .slice B1 m1.length cb1] 35))
    have RB1 := Lib.hid (HPR.out.alloc (Obj.cells #[.slice (some ⟨g, 0, none⟩) s1.length ca1, .slice B1 m1.length cb1] 35))
    have P01 := Lib.hid (HP0.out.alloc (Obj.cells #[.slice (some ⟨g, 0, none⟩) s1.length ca1, .slice B1 m1.length cb1] 35))
    have HP1 := Lib.hid (HP1.out.alloc (Obj.cells #[.slice (some ⟨g, 0, none⟩) s1.length ca1, .slice B1 m1.length cb1] 35))
    have HB0 := Lib.hid (HB0.out.alloc HB0.out.size (Obj.cells #[.slice (some ⟨g, 0, none⟩) s1.length ca1, .slice B1 m1.length cb1] 35))
    clear HAL
    go_upto_region 9 with fail
    generalize World.alloc v0 (Obj.cells #[.slice (some ⟨g, 0, none⟩) s1.length ca1, .slice B1 m1.length cb1] 35) = V at XB1 LZ N1 RB1 P01 HP1 HB0 ⊢
    refine u_begin (fun W => Blk W v0.heap.size 35 #[.slice (some ⟨g, 0, none⟩) s1.length ca1, .slice B1 m1.length cb1] ∧ Blk W w.heap.size 35 #[.slice (some ad) n.s.length n.ca, .slice n.B n.m.length n.cb] ∧ Sto.RowRow W (w.heap.size + 1) 42 x ∧ Below w.heap.size w W) 12 (by kernel_rfl) ?_ (fun hHeld => ?_)
    · exact ⟨XB1.out.drew, P01.out.drew, RB1.out, HB0.out.drew⟩
    refine u_take (i := 0) (v := ?_) rfl (by kernel_rfl) (by kernel_rfl) (by kernel_rfl) (by kernel_rfl) (fun _ _ _ h => h) (Or.inl ⟨by rfl, ?_⟩) hHeld ?_
    rotate_left
    · intro W hSw
      obtain ⟨hs1, hs2⟩ := blk2 hSw.1
      obtain ⟨hs3, hs4⟩ := blk2 hSw.2.1
      obtain ⟨r0, r1, r2, r3, r4⟩ := hSw.2.2.1.cells
      have hs5 := HCELL.out W hSw.2.2.2
      go_simp
      try with_reducible rfl
    try simp only [Act.put, List.setIfInBounds_toArray, List.set_cons_zero, List.set_cons_succ, List.getElem_toArray, List.getElem_cons_succ, List.getElem_cons_zero]
    refine u_take (i := 1) (v := ?_) rfl (by kernel_rfl) (by kernel_rfl) (by kernel_rfl) (by kernel_rfl) (fun _ _ _ h => h) (Or.inl ⟨by rfl, ?_⟩) hHeld ?_
    rotate_left
    · intro W hSw
      obtain ⟨hs1, hs2⟩ := blk2 hSw.1
      obtain ⟨hs3, hs4⟩ := blk2 hSw.2.1
      obtain ⟨r0, r1, r2, r3, r4⟩ := hSw.2.2.1.cells
      have hs5 := HCELL.out W hSw.2.2.2
      go_simp
      try with_reducible rfl
    try simp only [Act.put, List.setIfInBounds_toArray, List.set_cons_zero, List.set_cons_succ, List.getElem_toArray, List.getElem_cons_succ, List.getElem_cons_zero]
    refine u_take (i := 2) (v := ?_) rfl (by kernel_rfl) (by kernel_rfl) (by kernel_rfl) (by kernel_rfl) (fun _ _ _ h => h) (Or.inl ⟨by rfl, ?_⟩) hHeld ?_
    rotate_left
    · intro W hSw
      obtain ⟨hs1, hs2⟩ := blk2 hSw.1
      obtain ⟨hs3, hs4⟩ := blk2 hSw.2.1
      obtain ⟨r0, r1, r2, r3, r4⟩ := hSw.2.2.1.cells
      have hs5 := HCELL.out W hSw.2.2.2
      go_simp
      try with_reducible rfl
    try simp only [Act.put, List.setIfInBounds_toArray, List.set_cons_zero, List.set_cons_succ, List.getElem_toArray, List.getElem_cons_succ, List.getElem_cons_zero]
    refine u_take (i := 3) (v := ?_) rfl (by kernel_rfl) (by kernel_rfl) (by kernel_rfl) (by kernel_rfl) (fun _ _ _ h => h) (Or.inl ⟨by rfl, ?_⟩) hHeld ?_
    rotate_left
    · intro W hSw
      obtain ⟨hs1, hs2⟩ := blk2 hSw.1
      obtain ⟨hs3, hs4⟩ := blk2 hSw.2.1
      obtain ⟨r0, r1, r2, r3, r4⟩ := hSw.2.2.1.cells
      have hs5 := HCELL.out W hSw.2.2.2
      go_simp
      try with_reducible rfl
    try simp only [Act.put, List.setIfInBounds_toArray, List.set_cons_zero, List.set_cons_succ, List.getElem_toArray, List.getElem_cons_succ, List.getElem_cons_zero]
    refine u_take (i := 4) (v := ?_) rfl (by kernel_rfl) (by kernel_rfl) (by kernel_rfl) (by kernel_rfl) (fun _ _ _ h => h) (Or.inl ⟨by rfl, ?_⟩) hHeld ?_
    rotate_left
    · intro W hSw
      obtain ⟨hs1, hs2⟩ := blk2 hSw.1
      obtain ⟨hs3, hs4⟩ := blk2 hSw.2.1
      obtain ⟨r0, r1, r2, r3, r4⟩ := hSw.2.2.1.cells
      have hs5 := HCELL.out W hSw.2.2.2
      go_simp
      try with_reducible rfl
    try simp only [Act.put, List.setIfInBounds_toArray, List.set_cons_zero, List.set_cons_succ, List.getElem_toArray, List.getElem_cons_succ, List.getElem_cons_zero]
    refine u_take (i := 5) (v := ?_) rfl (by kernel_rfl) (by kernel_rfl) (by kernel_rfl) (by kernel_rfl) (fun _ _ _ h => h) (Or.inl ⟨by rfl, ?_⟩) hHeld ?_
    rotate_left
    · intro W hSw
      obtain ⟨hs1, hs2⟩ := blk2 hSw.1
      obtain ⟨hs3, hs4⟩ := blk2 hSw.2.1
      obtain ⟨r0, r1, r2, r3, r4⟩ := hSw.2.2.1.cells
      have hs5 := HCELL.out W hSw.2.2.2
      go_simp
      try with_reducible rfl
    try simp only [Act.put, List.setIfInBounds_toArray, List.set_cons_zero, List.set_cons_succ, List.getElem_toArray, List.getElem_cons_succ, List.getElem_cons_zero]
    refine u_take (i := 6) (v := ?_) rfl (by kernel_rfl) (by kernel_rfl) (by kernel_rfl) (by kernel_rfl) (fun _ _ _ h => h) (Or.inl ⟨by rfl, ?_⟩) hHeld ?_
    rotate_left
    · intro W hSw
      obtain ⟨hs1, hs2⟩ := blk2 hSw.1
      obtain ⟨hs3, hs4⟩ := blk2 hSw.2.1
      obtain ⟨r0, r1, r2, r3, r4⟩ := hSw.2.2.1.cells
      have hs5 := HCELL.out W hSw.2.2.2
      go_simp
      try with_reducible rfl
    try simp only [Act.put, List.setIfInBounds_toArray, List.set_cons_zero, List.set_cons_succ, List.getElem_toArray, List.getElem_cons_succ, List.getElem_cons_zero]
    refine u_take (i := 7) (v := ?_) rfl (by kernel_rfl) (by kernel_rfl) (by kernel_rfl) (by kernel_rfl) (fun _ _ _ h => h) (Or.inl ⟨by rfl, ?_⟩) hHeld ?_
    rotate_left
    · intro W hSw
      obtain ⟨hs1, hs2⟩ := blk2 hSw.1
      obtain ⟨hs3, hs4⟩ := blk2 hSw.2.1
      obtain ⟨r0, r1, r2, r3, r4⟩ := hSw.2.2.1.cells
      have hs5 := HCELL.out W hSw.2.2.2
      go_simp
      try with_reducible rfl
    try simp only [Act.put, List.setIfInBounds_toArray, List.set_cons_zero, List.set_cons_succ, List.getElem_toArray, List.getElem_cons_succ, List.getElem_cons_zero]
    refine u_take (i := 8) (v := ?_) rfl (by kernel_rfl) (by kernel_rfl) (by kernel_rfl) (by kernel_rfl) (fun _ _ _ h => h) (Or.inl ⟨by rfl, ?_⟩) hHeld ?_
    rotate_left
    · intro W hSw
      obtain ⟨hs1, hs2⟩ := blk2 hSw.1
      obtain ⟨hs3, hs4⟩ := blk2 hSw.2.1
      obtain ⟨r0, r1, r2, r3, r4⟩ := hSw.2.2.1.cells
      have hs5 := HCELL.out W hSw.2.2.2
      go_simp
      try with_reducible rfl
    try simp only [Act.put, List.setIfInBounds_toArray, List.set_cons_zero, List.set_cons_succ, List.getElem_toArray, List.getElem_cons_succ, List.getElem_cons_zero]
    refine u_one (i := 9) (by kernel_rfl) rfl (fun K hK => ?_)
    go_simp
    refine (HSP.out _ hHeld.2.2.2).mono ?_
    rintro e v1 ⟨A', c', rfl, hop0, -, -, hb⟩
    have hop : v1.ownsRow V.drew.heap.size 42 5 (.slice A' (putW xl x).length c') (putW xl x).length (flat (putW xl x)) := hop0
    unfold Sto.outV Sto.slV
    have hfd : ∀ U : World, (Instr.field 102 (.agg #[.slice A' (putW xl x).length c', .int .i64 0]) 0).run Tryz.prog U = .ok (.slice A' (putW xl x).length c') U := fun U => by kernel_rfl
    have N2 := Lib.hid (N1.out.drew.step hb)
    have R2 := Lib.hid (show HeldL v1 (_ ++ [⟨A', putW xl x, c'⟩]) (w.heap.size + 3) v1.heap.size from (N1.out.drew.r0.step hb (.inr (Nat.le_refl _))).snoc (HeldX.of (Sto.Held.of_own hop)) (by have := HZ.out; have := LZ.out; show w.heap.size + 3 ≤ V.heap.size; omega) (Nat.le_refl _) hb.size)
    have BV2 := Lib.hid (((Below.refl V.heap.size V).drew).trans hb)
    clear hop hop0
    refine hK.out _ _ (fun _ => ?_) (fun hHeld0 => ?_)
    · exact ⟨hHeld.1.on hb, hHeld.2.1.on hb, hHeld.2.2.1.on hb, hHeld.2.2.2.trans (hb.mono hHeld.2.2.2.size)⟩
    have hHeld := hHeld0 (by decide)
    clear hHeld0 hK K
    try simp only [Act.put, List.setIfInBounds_toArray, List.set_cons_zero, List.set_cons_succ, List.getElem_toArray, List.getElem_cons_succ, List.getElem_cons_zero]
    refine u_take (i := 10) (v := ?_) rfl (by kernel_rfl) (by kernel_rfl) (by kernel_rfl) (by kernel_rfl) (fun _ _ _ h => h) (Or.inl ⟨by rfl, ?_⟩) hHeld ?_
    rotate_left
    · intro W hSw
      obtain ⟨hs1, hs2⟩ := blk2 hSw.1
      obtain ⟨hs3, hs4⟩ := blk2 hSw.2.1
      obtain ⟨r0, r1, r2, r3, r4⟩ := hSw.2.2.1.cells
      have hs5 := HCELL.out W hSw.2.2.2
      go_simp
      try with_reducible rfl
    try simp only [Act.put, List.setIfInBounds_toArray, List.set_cons_zero, List.set_cons_succ, List.getElem_toArray, List.getElem_cons_succ, List.getElem_cons_zero]
    refine u_take (i := 11) (v := ?_) rfl (by kernel_rfl) (by kernel_rfl) (by kernel_rfl) (by kernel_rfl) (fun _ _ _ h => h) (Or.inl ⟨by rfl, ?_⟩) hHeld ?_
    rotate_left
    · intro W hSw
      obtain ⟨hs1, hs2⟩ := blk2 hSw.1
      obtain ⟨hs3, hs4⟩ := blk2 hSw.2.1
      obtain ⟨r0, r1, r2, r3, r4⟩ := hSw.2.2.1.cells
      have hs5 := HCELL.out W hSw.2.2.2
      go_simp
      try with_reducible rfl
    try simp only [Act.put, List.setIfInBounds_toArray, List.set_cons_zero, List.set_cons_succ, List.getElem_toArray, List.getElem_cons_succ, List.getElem_cons_zero]
    refine u_one (i := 12) (by kernel_rfl) rfl (fun K hK => ?_)
    have HX3 := Lib.hid hHeld.1
    obtain ⟨z0, z1⟩ := N2.out.cellS rfl hkm
    go_simp
    refine hK.out _ _ (fun h => absurd rfl h) (fun _ => ?_)
    clear hK K
    try simp only [Act.put, List.setIfInBounds_toArray, List.set_cons_zero, List.set_cons_succ, List.getElem_toArray, List.getElem_cons_succ, List.getElem_cons_zero]
    refine u_done (by kernel_rfl) ?_ _

    have hzz := HZ.out
    clear hfd
    have N3 := Lib.hid (N2.out.putS rfl hkm R2.out)
    have X3 := Lib.hid (HX3.out.other (p := ⟨g, k, none⟩) (by show v0.heap.size ≠ g; omega) (.slice A' (putW xl x).length c'))
    have P3 := Lib.hid ((HP1.out.on BV2.out).other (p := ⟨g, k, none⟩) (by show w.heap.size + 2 ≠ g; omega) (.slice A' (putW xl x).length c'))
    have B3 := Lib.hid ((HB0.out.trans (BV2.out.mono HB0.out.size)).setCell (p := ⟨g, k, none⟩) (by show w.heap.size ≤ g; omega) (.slice A' (putW xl x).length c'))
    generalize v1.setCell ⟨g, k, none⟩ (.slice A' (putW xl x).length c') = w4 at N3 X3 P3 B3 ⊢
    obtain ⟨y0, y1⟩ := blk2 X3.out
    obtain ⟨q0, q1, q2⟩ := blk3 P3.out
    have g0 := P3.out.free 0
    have g1 := P3.out.free 1
    have g2 := P3.out.free 2
    have HE := Lib.hid (show (s1.set k ⟨A', putW xl x, c'⟩).length = s1.length from List.length_set)
    clear z0 z1 HX3
    go_wp2_with fail
    refine bodyPost_ret (v := Nt.out ⟨some ⟨g, 0, none⟩, s1.set k ⟨A', putW xl x, c'⟩, ca1, B1, m1, cb1⟩ 0) (by simp [results, Tryz.results18, go_sem, Nt.out, q0, q1, q2, HE.out]) rfl ?_
    refine AnsN.own ?_ ?_ ?_
    · exact (((N3.out.box P3.out (by decide) (by decide) (by decide) 0 _).box (P3.out.set 0 _ rfl) (by decide) (by decide) (by decide) 1 _).box ((P3.out.set 0 _ rfl).set 1 _ rfl) (by decide) (by decide) (by decide) 2 _).less (by omega)
    · rw [← HJP.out]; show (ps (s1.set k _), pm m1) = _; rw [ps_set]; rfl
    · exact ((B3.out.setCell (p := ⟨w.heap.size + 2, 0, none⟩) (by show w.heap.size ≤ w.heap.size + 2; omega) _).setCell (p := ⟨w.heap.size + 2, 1, none⟩) (by show w.heap.size ≤ w.heap.size + 2; omega) _).setCell (p := ⟨w.heap.size + 2, 2, none⟩) (by show w.heap.size ≤ w.heap.size + 2; omega) _
  have hcm : nputC (pl n) i x = 9 := by rw [HC0, if_pos hq, if_pos (by omega)]
  have HGC := Lib.hid hcm
  have HGP := Lib.hid (show nputP (pl n) i x = ([], []) by unfold nputP; rw [hcm]; rfl)
  rw [HGC.out, HGP.out]
  have HFIT := Lib.hid (show decide ((mergeAll (allP (pl n) ++ [[x]])).length ≤ 6) = false from decide_eq_false h6)
  have hok := okN_of hr
  have hn4 : 1 ≤ n.s.length ∧ n.s.length ≤ 4 := by have := hok.1; rw [HP1L.out] at this; exact this
  have hm40 : n.m.length ≤ 40 := by have := hok.2.1; rw [show (pl n).2.length = n.m.length from pm_len _] at this; exact this
  have HAS := Lib.hid (fun W (hW : Below w.heap.size w W) => allStores_any n W (h.on hW) hsl hm40 (by omega))
  have HLX := Lib.hid (show ∀ W, Below w.heap.size w W → ∀ y ∈ n.all, Sto.Lies W W.heap.size y.A y.l from fun W hW y hy => by
    have h' := h.on hW
    rcases List.mem_append.1 hy with hy | hy
    · exact h'.1.2 y hy
    · obtain ⟨z, hz, rfl⟩ := List.mem_map.1 hy; exact h'.2.2 z hz)
  have HAN := Lib.hid (show n.all.length ≤ 44 by unfold Nt.all; simp; omega)
  have HRS := Lib.hid (show ∀ y ∈ n.all, Sto.rowsB y.l = true from fun y hy => hok.2.2.2.1 y.l (by rw [← all_pl]; exact List.mem_map.2 ⟨y, hy, rfl⟩))
  have HRX := Lib.hid (show Sto.rowsB [x] = true by rw [rows_one]; exact hx)
  have HPA := Lib.hid (show ps (n.all ++ [(⟨(some ⟨w.heap.size + 3, 0, none⟩), [x], 1⟩ : Sl)]) = allP (pl n) ++ [[x]] by rw [← all_pl]; unfold ps; rw [List.map_append]; rfl)
  clear hok hm40 hn4
  clear hr hx hq h hL HGC HGP hcm HC0 h6
  unfold Nt.val at HRT HAS ⊢
  unfold R.val
  go_enter Tryz.func18, Tryz.ntmps18
  go_wp2_with fail
  refine (HRT.out _ HB0.out).mono ?_
  rintro e w1 ⟨rfl, hb⟩
  rw [HR.out]
  have HAL := Lib.hid ((HAL.out.below hb (Nat.le_refl _)).more hb.size)
  have HB0 := Lib.hid (HB0.out.trans (hb.mono HB0.out.size))
  have HP0 := Lib.hid (HP0.out.on hb)
  have HPR := Lib.hid (HPR.out.on hb)
  have HP1 := Lib.hid (HP1.out.on hb)
  have HZ := Lib.hid (show w.heap.size + 4 ≤ w1.heap.size from by have := HZ.out; have := hb.size; omega)
  clear hb
  go_wp2_with fail
  refine (implOne_any (some ⟨w.heap.size + 3, 0, none⟩) x 1 _ HAL.out hf).mono ?_
  rintro e w2 ⟨rfl, hb⟩
  rw [HX.out]
  have HAL := Lib.hid ((HAL.out.below hb (Nat.le_refl _)).more hb.size)
  have HB0 := Lib.hid (HB0.out.trans (hb.mono HB0.out.size))
  have HP0 := Lib.hid (HP0.out.on hb)
  have HPR := Lib.hid (HPR.out.on hb)
  have HP1 := Lib.hid (HP1.out.on hb)
  have HZ := Lib.hid (show w.heap.size + 4 ≤ w2.heap.size from by have := HZ.out; have := hb.size; omega)
  clear hb
  obtain ⟨b0, b1⟩ := blk2 HP0.out
  go_wp2_with fail
  clear b0 b1
  refine (placeS_any _ _ _ _ _ hsl).mono ?_
  rintro e w3 ⟨rfl, rfl⟩
  rw [HQ.out]
  obtain ⟨b0, b1⟩ := blk2 HP0.out
  go_wp2_with fail
  clear b0 b1
  refine (HAS.out _ HB0.out).mono ?_
  rintro e w4 ⟨v, rfl, ho, hne, hb4⟩
  have HO4 := Lib.hid ho
  obtain ⟨g, c, rfl, -, -, -, -⟩ := o_val_ne ho hne
  clear ho hne
  go_wp2_with (at_builtin; refine wpList_app fit_stores rfl rfl rfl (sv [⟨(some ⟨w.heap.size + 3, 0, none⟩), [x], 1⟩]) rfl rfl (o_alloc HO4.out (Obj.cells #[.slice (some ⟨w.heap.size + 3, 0, none⟩) 1 1] 98)) (cl_one_at _ _ #[.slice (some ⟨w.heap.size + 3, 0, none⟩) 1 1] rfl) rfl (sv_one _) (by have := HAN.out; omega) (by have := hb4.size; simp; omega) ?_; intro v2 w5 ho2 hg2 hn2; obtain ⟨g2, c2, rfl, k1, k2, k3, hbk2⟩ := o_val_ne ho2 (fun e => by have := (hn2 e).1; cases this); have hb := (hb4.alloc hb4.size (Obj.cells #[.slice (some ⟨w.heap.size + 3, 0, none⟩) 1 1] 98)).grown hg2 (by have := hb4.size; simp; omega) (fun k e => o_base HO4.out k e); clear hg2 hn2 ho2 k1 k2 k3)
  clear hb4 HO4
  have HAL := Lib.hid ((HAL.out.below hb (Nat.le_refl _)).more hb.size)
  have HB0 := Lib.hid (HB0.out.trans (hb.mono HB0.out.size))
  have HP0 := Lib.hid (HP0.out.on hb)
  have HPR := Lib.hid (HPR.out.on hb)
  have HP1 := Lib.hid (HP1.out.on hb)
  have HZ := Lib.hid (show w.heap.size + 4 ≤ w5.heap.size from by have := HZ.out; have := hb.size; omega)
  clear hb
  have HKF : Hid (Calls Tryz.prog 109 #[.slice (some ⟨g2, 0, none⟩) (n.all.length + 1) c2] w5 fun e w' => e = .returned (.bool (decide ((mergeAll (allP (pl n) ++ [[x]])).length ≤ 6))) ∧ Below w5.heap.size w5 w') := Lib.hid (by
    have := keysFit_any ⟨g2, 0, none⟩ (n.all ++ [(⟨(some ⟨w.heap.size + 3, 0, none⟩), [x], 1⟩ : Sl)]) c2 w5 ⟨by rw [sv_append]; exact hbk2.cl hbk2.lt, fun y hy => by
      rcases List.mem_append.1 hy with hy | hy
      · exact HLX.out w5 HB0.out y hy
      · obtain rfl := List.mem_singleton.1 hy; exact HAL.out⟩ (by simp) (by rw [List.length_append]; have := HAN.out; simp; omega) (fun y hy => by
      rcases List.mem_append.1 hy with hy | hy
      · exact HRS.out y hy
      · obtain rfl := List.mem_singleton.1 hy; exact HRX.out)
    rw [List.length_append, List.length_singleton, HPA.out] at this
    exact this)
  rw [HFIT.out] at HKF
  clear hbk2
  refine HKF.out.mono ?_
  rintro e w6 ⟨rfl, hb⟩
  have HAL := Lib.hid ((HAL.out.below hb (Nat.le_refl _)).more hb.size)
  have HB0 := Lib.hid (HB0.out.trans (hb.mono HB0.out.size))
  have HP0 := Lib.hid (HP0.out.on hb)
  have HPR := Lib.hid (HPR.out.on hb)
  have HP1 := Lib.hid (HP1.out.on hb)
  have HZ := Lib.hid (show w.heap.size + 4 ≤ w6.heap.size from by have := HZ.out; have := hb.size; omega)
  clear hb
  obtain ⟨q0, q1, q2⟩ := blk3 HP1.out
  have g0 := HP1.out.free 0
  have g1 := HP1.out.free 1
  have g2 := HP1.out.free 2
  go_wp2_with fail
  refine bodyPost_ret (v := .agg #[.slice none 0 0, .slice none 0 0, .int .i64 9]) (by simp [results, Tryz.results18, go_sem, q0, q1, q2]) rfl ?_
  exact AnsN.ill (((HB0.out.setCell (p := ⟨w.heap.size + 2, 0, none⟩) (by show w.heap.size ≤ w.heap.size + 2; omega) _).setCell (p := ⟨w.heap.size + 2, 1, none⟩) (by show w.heap.size ≤ w.heap.size + 2; omega) _).setCell (p := ⟨w.heap.size + 2, 2, none⟩) (by show w.heap.size ≤ w.heap.size + 2; omega) _)

end Go.Proofs.YtoagdpbbojlgfaaGreat.Net
