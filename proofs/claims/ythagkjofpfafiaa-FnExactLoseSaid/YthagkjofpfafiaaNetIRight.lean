/-
  slices.Clone at stores, impl.allStores, impl.keysFit, impl.NetRight.
-/
import Derived.Test.YthagkjofpfafiaaNetApp
import Derived.Test.YthagkjofpfafiaaNetIWay
import Derived.Test.YthagkjofpfafiaaNetSRight
import Derived.Test.YthagkjofpfafiaaRowLists
import Derived.Test.YthagkjofpfafiaaDepAll
import Derived.Lib.BufferMore
namespace Go.Proofs.Ythagkjofpfafiaa.Net
open Go.ChangeShapes Go.WideShapes Go.ChangeAt Go.RowKit
open Sto (R Sl deps rowsB Fits)
set_option linter.unusedVariables false
set_option maxRecDepth 100000
set_option linter.unusedSimpArgs false

theorem cloneSS_any (ad : Addr) (s : List Sl) (c : Nat) (w : World) (h : LSs w w.heap.size (some ad) s) (hl : s.length ≤ 1048576) :
    Calls Try.prog 58 #[.slice (some ad) s.length c] w fun e w' => ∃ v, e = .returned v ∧ w'.ownsRow w.heap.size 49 1 v s.length (sv s) ∧ (v = .slice none 0 0 → False) ∧ Below w.heap.size w w' := by
  have B0 := (Below.refl w.heap.size w).alloc (Nat.le_refl _) (Obj.cells #[] 49)
  have HC := Lib.hid ((h.1.below B0 (Nat.le_refl _)))
  have HB0 := Lib.hid B0
  have hbe := fun V : World => Lib.run_eql_slice_some_nil (P := Try.prog) V ad s.length c Try.underlying28
  clear h B0
  go_enter Try.func58, Try.ntmps58
  go_wp2_with (at_builtin; refine wpList_app fit_stores rfl rfl rfl (sv s) rfl rfl (o_none w _ _) HC.out (by rw [sv_len, Nat.mul_one]) (sv_one s) (by omega) (by simp) ?_; intro v1 W1 ho1 hg1 hn1; rw [Nat.zero_add, List.nil_append] at ho1; have B1 := Lib.hid (HB0.out.grown hg1 (by simp) (fun j e => by cases e; exact Nat.le_refl _)); have HO1 := Lib.hid ho1; have HN1 := Lib.hid (fun e => by cases (hn1 e).1 : v1 = .slice none 0 0 → False); clear ho1 hg1 hn1)
  go_ret
  exact ⟨v1, rfl, HO1.out, HN1.out, B1.out⟩

theorem map_snoc (m : List Ml) (k : Nat) (h : k < m.length) : (m.take (k + 1)).map (fun y => y.x) = (m.take k).map (fun y => y.x) ++ [m[k].x] := by rw [take_snoc m k h, List.map_append]; rfl
def xs_ (m : List Ml) : List Sl := m.map fun y => y.x
theorem xs_len (m : List Ml) : (xs_ m).length = m.length := by simp [xs_]

set_option maxHeartbeats 1000000 in
set_option maxRecDepth 100000 in
theorem allStores_any (n : Nt) (w : World) (h : NLies w w.heap.size n) (hl : n.s.length ≤ 1048576) (hm : n.m.length ≤ 40) (hne : 0 < n.s.length) :
    Calls Try.prog 34 #[n.val] w fun e w' => ∃ v, e = .returned v ∧ w'.ownsRow w.heap.size 49 1 v n.all.length (sv n.all) ∧ (v = .slice none 0 0 → False) ∧ Below w.heap.size w w' := by
  obtain ⟨ad, hA, _, _⟩ := h.1.1 (by rw [sv_len]; exact hne)
  obtain ⟨A, s, ca, B, m, cb⟩ := n
  simp only at hA hl hm hne
  subst hA
  have HC := Lib.hid (fun W (hW : Below w.heap.size w W) => cloneSS_any ad s ca W (h.1.on hW) hl)
  have HM := Lib.hid h.2
  clear h
  have hall : Nt.all ⟨some ad, s, ca, B, m, cb⟩ = s ++ xs_ m := rfl
  rw [hall]
  clear hall
  unfold Nt.val
  simp only at HM ⊢
  have HB0 := Lib.hid ((Below.refl w.heap.size w).alloc (Nat.le_refl _) (Obj.cells #[.slice (some ad) s.length ca, .slice B m.length cb] 31))
  have HP0 := Lib.hid (Blk.new w 31 #[.slice (some ad) s.length ca, .slice B m.length cb])
  go_enter Try.func34, Try.ntmps34
  go_wp2_with fail
  refine (HC.out _ HB0.out).mono ?_
  rintro e w1 ⟨v0, rfl, ho, hn, hb⟩
  have HO := Lib.hid (o_less ho (base' := w.heap.size) HB0.out.size)
  have HN := Lib.hid hn
  have HB1 := Lib.hid (HB0.out.trans (hb.mono HB0.out.size))
  obtain ⟨q0, q1⟩ := blk2 (HP0.out.on hb)
  clear ho hn hb
  go_wp2_with fail
  clear q0 q1
  go_loopw [3, 12] (fun o i wr => ∃ k : Nat, k ≤ m.length ∧ i = .int .i64 k ∧ Hid (wr.ownsRow w.heap.size 49 1 o (s.length + k) (sv (s ++ xs_ (m.take k))) ∧ (o = .slice none 0 0 → False) ∧ Below w.heap.size w wr)) (fun _ i _ => m.length - (intOf i).toNat)
  case atStart => exact ⟨0, by omega, rfl, Lib.hid ⟨by simpa [xs_] using HO.out, HN.out, HB1.out⟩⟩
  case round =>
    obtain ⟨k, hk, rfl, HR⟩ := hrel
    by_cases hlt : k < m.length
    · obtain ⟨sd, rfl, _, ⟨c0, c1, c2⟩, -⟩ := (HM.out.below HR.out.2.2 (Nat.le_refl _)).at_ hlt
      have HJ := Lib.hid (show s ++ xs_ (m.take (k + 1)) = (s ++ xs_ (m.take k)) ++ [m[k].x] by unfold xs_; rw [map_snoc m k hlt, List.append_assoc])
      obtain ⟨y, hy⟩ : ∃ y, m[k] = y := ⟨_, rfl⟩
      rw [hy] at c0 c1 c2 HJ
      clear hy
      obtain ⟨yf, yt, yA, yl, yc⟩ := y
      simp only at c0 c1 c2 HJ
      have hs1 := HR.out.2.2.size
      go_wp2_with (at_builtin; refine wpList_app fit_stores rfl rfl rfl (sv [⟨yA, yl, yc⟩]) rfl rfl (o_alloc (o_alloc HR.out.1 (Obj.cells #[.int .i64 yf, .int .i64 yt, .slice yA yl.length yc] 51)) (Obj.cells #[.slice yA yl.length yc] 49)) (cl_one_at _ _ #[.slice yA yl.length yc] (by simp)) rfl (sv_one _) (by omega) (by simp; omega) ?_; intro v2 W2 ho2 hg2 hn2; have hBg := ((HR.out.2.2.alloc HR.out.2.2.size (Obj.cells #[.int .i64 yf, .int .i64 yt, .slice yA yl.length yc] 51)).alloc (by simp; omega) (Obj.cells #[.slice yA yl.length yc] 49)).grown hg2 (by simp; omega) (o_base HR.out.1); have B2 := Lib.hid hBg; rw [← sv_append, ← HJ.out] at ho2; have O2 := Lib.hid ho2; have N2 := Lib.hid (fun e => HR.out.2.1 (hn2 e).1 : v2 = .slice none 0 0 → False); clear ho2 hg2 hn2 hBg)
      go_roundw
      case rel => exact ⟨k + 1, by omega, by go_num, Lib.hid ⟨O2.out, N2.out, B2.out⟩⟩
      case measure => simp [intOf]; omega
    · have e : k = m.length := by omega
      have h1 := HR.out.1
      rw [List.take_of_length_le (by omega), e] at h1
      have HF := Lib.hid h1
      clear h1
      go_wp2_with fail
      go_ret
      exact ⟨_, rfl, by rw [List.length_append, xs_len]; exact HF.out, HR.out.2.1, HR.out.2.2⟩

theorem dstore_info : (Try.prog.info? 85).map (fun i => (i.zero, i.size, i.bytes)) = some (some (.slice none 0 0), 1, 24) := by kernel_rfl
theorem fit_deps : AppFit 88 85 1 := by
  obtain ⟨i0, hi0, hz0, hz1, hz2⟩ := info_parts dstore_info
  exact ⟨Try.underlying88, by omega, i0, _, hi0, hz0, hz1, by rw [hz2]; omega, rfl⟩
def dv (ds : List Dep.Sl) : List Value := ds.map fun d => .slice d.A d.l.length d.c
theorem dv_len (ds : List Dep.Sl) : (dv ds).length = ds.length := by simp [dv]
theorem dv_append (a b : List Dep.Sl) : dv (a ++ b) = dv a ++ dv b := by simp [dv]
theorem dv_one (ds : List Dep.Sl) : ∀ u ∈ dv ds, u.oneCell' = true := by
  intro u hu
  obtain ⟨x, _, rfl⟩ := List.mem_map.1 hu
  rfl
/-- Deps of stores. -/
def Marks (wr : World) (ds : List Dep.Sl) (L : List (List R)) : Prop := ds.map (·.l) = L.map deps ∧ ∀ d ∈ ds, Dep.Lies wr wr.heap.size d.A d.l
theorem Marks.step {wr w' : World} {ds : List Dep.Sl} {L : List (List R)} (h : Marks wr ds L) (hb : Below wr.heap.size wr w') : Marks w' ds L :=
  ⟨h.1, fun d hd => ((h.2 d hd).below hb (Nat.le_refl _)).more hb.size⟩
theorem Marks.grown {wr w' : World} {ds : List Dep.Sl} {L : List (List R)} (h : Marks wr ds L) (hk : ∀ (g : Nat) (cs : Array Value), wr.heap[g]? = some (Obj.cells cs 108 (0, 0)) → w'.heap[g]? = wr.heap[g]?) (hs : wr.heap.size ≤ w'.heap.size) (ht : ∀ d ∈ ds, d.l = [] ∨ ∃ g cs, d.A = some ⟨g, 0, none⟩ ∧ wr.heap[g]? = some (Obj.cells cs 108 (0, 0))) : Marks w' ds L :=
  ⟨h.1, fun d hd => by
    rcases ht d hd with e | ⟨g, cs, e, hc⟩
    · rw [e]; exact fun h0 => absurd h0 (by simp)
    · have hL := h.2 d hd
      intro h0
      obtain ⟨ad, e2, hb, hat⟩ := hL h0
      rw [e] at e2
      cases e2
      exact ⟨_, e, by omega, fun j hj => (hat j hj).keep fun p hp => World.cell?_of_block (by rw [hp, Dep.add_block]; exact hk g cs hc)⟩⟩
/-- Where a slice of deps of one's own lies. -/
theorem deps_block {w : World} {base n c : Nat} {A : Option Addr} {l : List Dep.D} (h : w.ownsRow base 108 4 (Dep.slV A l c) n (Dep.flat l)) : l = [] ∨ ∃ g cs, A = some ⟨g, 0, none⟩ ∧ w.heap[g]? = some (Obj.cells cs 108 (0, 0)) := by
  rcases h.2 with ⟨e, h0⟩ | ⟨g, cap, cur, e, hb, hh, _⟩
  · unfold Dep.slV at e
    injection e with e1 e2 e3
    exact .inl (List.eq_nil_of_length_eq_zero e2)
  · unfold Dep.slV at e
    injection e with e1 e2 e3
    exact .inr ⟨g, cur, e1, hh⟩

set_option maxHeartbeats 2000000 in
set_option maxRecDepth 100000 in
theorem keysFit_any (ad : Addr) (ls : List Sl) (c : Nat) (w : World) (h : LSs w w.heap.size (some ad) ls) (hne : 0 < ls.length) (hl : ls.length ≤ 400) (hr : ∀ x ∈ ls, rowsB x.l = true) :
    Calls Try.prog 37 #[.slice (some ad) ls.length c] w fun e w' => e = .returned (.bool (decide ((mergeAll (ps ls)).length ≤ 6))) ∧ Below w.heap.size w w' := by
  have H := Lib.hid h
  have HX := Lib.hid (show ∀ x ∈ ls, x.l.length ≤ 6 from fun x hx => (Sto.ok_of (hr x hx)).1)
  obtain ⟨ks, hks, hkl⟩ := keys_all (ps ls) (fun l hl => by obtain ⟨x, hx, rfl⟩ := List.mem_map.1 hl; exact hr x hx)
  have HKS := Lib.hid hks
  have HKL := Lib.hid hkl
  clear h hr hks hkl
  go_enter Try.func37, Try.ntmps37
  go_wp2_with fail
  go_loopw [3, 8] (fun o i wr => ∃ k : Nat, k ≤ ls.length ∧ i = .int .i64 k ∧ ∃ ds, Hid (wr.ownsRow w.heap.size 85 1 o k (dv ds) ∧ (ds.length = k ∧ Marks wr ds (ps (ls.take k)) ∧ ∀ d ∈ ds, d.l = [] ∨ ∃ g cs, d.A = some ⟨g, 0, none⟩ ∧ wr.heap[g]? = some (Obj.cells cs 108 (0, 0))) ∧ Below w.heap.size w wr)) (fun _ i _ => ls.length - (intOf i).toNat)
  case atStart => exact ⟨0, by omega, rfl, [], Lib.hid ⟨o_nil _ _ _ _, ⟨rfl, ⟨by simp [ps], fun d hd => absurd hd (by simp)⟩, fun d hd => absurd hd (by simp)⟩, Below.refl _ _⟩⟩
  case round =>
    obtain ⟨k, hk, rfl, ds, HR⟩ := hrel
    by_cases hlt : k < ls.length
    · have hLx := H.out.2 ls[k] (List.getElem_mem hlt)
      obtain ⟨sd, hsd, _, c0, -⟩ := (H.out.below HR.out.2.2 (Nat.le_refl _)).at_ hlt
      cases hsd
      have hx6 := HX.out ls[k] (List.getElem_mem hlt)
      have HJ := Lib.hid (ps_snoc ls k hlt)
      obtain ⟨x, hx⟩ : ∃ x, ls[k] = x := ⟨_, rfl⟩
      rw [hx] at c0 hLx hx6 HJ
      clear hx
      have HC := Lib.hid (Sto.marksOf_any x.A x.l x.c wr ((hLx.below HR.out.2.2 (Nat.le_refl _)).more HR.out.2.2.size) (by omega))
      unfold Sto.slV at HC
      clear hLx
      go_wp2_with fail
      refine HC.out.mono ?_
      rintro e w1 ⟨A', c', rfl, hc', hL', ho', hb⟩
      have hs1 := HR.out.2.2.size
      have hsb := hb.size
      have HMo := Lib.hid (show ∀ d ∈ ds, d.l = [] ∨ ∃ g cs, d.A = some ⟨g, 0, none⟩ ∧ w1.heap[g]? = some (Obj.cells cs 108 (0, 0)) from fun d hd => (HR.out.2.1.2.2 d hd).imp id fun ⟨g, cs, e, hh⟩ => ⟨g, cs, e, (hb.block g (Array.getElem?_eq_some_iff.1 hh).1).trans hh⟩)
      have HDB := Lib.hid (deps_block ho')
      have HMK := Lib.hid (HR.out.2.1.2.1.step hb)
      have HLn := Lib.hid HR.out.2.1.1
      have HLX := Lib.hid hL'
      have HO0 := Lib.hid (o_step HR.out.1 hb (Nat.le_refl _))
      have HB1 := Lib.hid (HR.out.2.2.trans (hb.mono HR.out.2.2.size))
      have HDL := Lib.hid (Sto.deps_len x.l)
      obtain ⟨dx, hdx⟩ : ∃ dx, deps x.l = dx := ⟨_, rfl⟩
      have HDX := Lib.hid hdx
      rw [hdx] at HDB HLX HDL
      rw [hdx]
      clear ho' hL' hb hc' c0 hdx HR
      unfold Dep.slV
      go_wp2_with (at_builtin; refine wpList_app fit_deps rfl rfl rfl (dv [⟨A', dx, c'⟩]) rfl rfl (o_alloc HO0.out (Obj.cells #[.slice A' dx.length c'] 85)) (cl_one_at _ _ #[.slice A' dx.length c'] rfl) rfl (dv_one _) (by omega) (by simp; omega) ?_; intro v2 W2 ho2 hg2 hn2; have hBg := ((HB1.out.alloc HB1.out.size (Obj.cells #[.slice A' dx.length c'] 85))).grown hg2 (by simp; omega) (o_base HO0.out); have B2 := Lib.hid hBg; have hty := fun (g : Nat) (cs : Array Value) => o_types (o_alloc HO0.out (Obj.cells #[.slice A' dx.length c'] 85)) hg2 (t := 108) (by decide) g cs; have TY := Lib.hid hty; have GS := Lib.hid hg2.size; rw [← dv_append] at ho2; have O2 := Lib.hid ho2; clear ho2 hg2 hn2 hBg hty)
      have HTY := Lib.hid (show ∀ (g : Nat) (cs : Array Value), w1.heap[g]? = some (Obj.cells cs 108 (0, 0)) → W2.heap[g]? = w1.heap[g]? from fun g cs hc => by
        have e1 := heap_alloc_old w1 (Obj.cells #[.slice A' dx.length c'] 85) (Array.getElem?_eq_some_iff.1 hc).1
        exact (TY.out g cs (e1.trans hc)).trans e1)
      have HSZ := Lib.hid (show w1.heap.size ≤ W2.heap.size by have := GS.out; rw [World.size_alloc] at this; omega)
      go_roundw
      case rel =>
        refine ⟨k + 1, by omega, by go_num, ds ++ [⟨A', dx, c'⟩], Lib.hid ⟨O2.out, ⟨by rw [List.length_append, HLn.out]; rfl, ?_, ?_⟩, B2.out⟩⟩
        · have hm1 : Marks w1 (ds ++ [⟨A', dx, c'⟩]) (ps (ls.take (k + 1))) := by
            refine ⟨?_, fun d hd => ?_⟩
            · rw [HJ.out, List.map_append, List.map_append, HMK.out.1]
              simp only [List.map_cons, List.map_nil, HDX.out]
            · rcases List.mem_append.1 hd with hd | hd
              · exact HMK.out.2 d hd
              · obtain rfl : d = ⟨A', dx, c'⟩ := by simpa using hd
                exact HLX.out
          refine hm1.grown HTY.out HSZ.out fun d hd => ?_
          rcases List.mem_append.1 hd with hd | hd
          · exact HMo.out d hd
          · obtain rfl : d = ⟨A', dx, c'⟩ := by simpa using hd
            exact HDB.out
        · intro d hd
          have : d.l = [] ∨ ∃ g cs, d.A = some ⟨g, 0, none⟩ ∧ w1.heap[g]? = some (Obj.cells cs 108 (0, 0)) := by
            rcases List.mem_append.1 hd with hd | hd
            · exact HMo.out d hd
            · obtain rfl : d = ⟨A', dx, c'⟩ := by simpa using hd
              exact HDB.out
          exact this.imp id fun ⟨g, cs, e, hh⟩ => ⟨g, cs, e, (HTY.out g cs hh).trans hh⟩
      case measure => simp [intOf]; omega
    · have e : k = ls.length := by omega
      obtain ⟨A2, c2, hv, _, _, hcl, -⟩ := o_val HR.out.1
      rw [List.take_of_length_le (by omega)] at HR
      obtain ⟨ad2, rfl, had, hcell⟩ := hcl (by rw [dv_len, HR.out.2.1.1]; omega)
      subst hv
      have hlist : Dep.Lists wr wr.heap.size ad2 ds := ⟨had, fun j hj => hcell j _ (by simp [dv, hj]), fun j hj => HR.out.2.1.2.1.2 _ (List.getElem_mem hj)⟩
      have hall : Dep.allOf ds = (ps ls).flatMap deps := by
        unfold Dep.allOf
        rw [List.flatMap_def, HR.out.2.1.2.1.1, ← List.flatMap_def]
      have hlen : ∀ j (hj : j < ds.length), ds[j].l.length ≤ maxLen := fun j hj => by
        have h1 : ds[j].l ∈ (ps ls).map deps := by rw [← HR.out.2.1.2.1.1]; exact List.mem_map.2 ⟨_, List.getElem_mem hj, rfl⟩
        obtain ⟨l, hl1, hl2⟩ := List.mem_map.1 h1
        obtain ⟨x, hx, rfl⟩ := List.mem_map.1 hl1
        rw [← hl2, Sto.deps_len]
        have := HX.out x hx
        unfold maxLen; omega
      have HC := Lib.hid (Dep.all_any ad2 ds c2 ks (by rw [hall]; exact HKS.out) (by rw [HR.out.2.1.1]; omega) hlen wr hlist)
      rw [show ds.length = k from HR.out.2.1.1] at HC
      have HB := Lib.hid HR.out.2.2
      have hfd : ∀ (u : Value) (z : Int) (V : World), (Instr.field 90 (.agg #[u, .int .i64 z]) 1).run Try.prog V = .ok (.int .i64 z) V := fun u z V => by kernel_rfl
      clear hlist hall hlen hcell had HR e
      go_wp2_with fail
      refine HC.out.mono ?_
      rintro e w1 ⟨h6, h9⟩
      by_cases hk6 : ks.length ≤ 6
      · obtain ⟨A3, c3, rfl, _, _, _, hb⟩ := h6 hk6
        have HB1 := Lib.hid (HB.out.trans (hb.mono HB.out.size))
        have HD := Lib.hid (show decide ((mergeAll (ps ls)).length ≤ 6) = true from decide_eq_true (by have := HKL.out; omega))
        unfold Dep.outV Dep.slV
        clear h6 h9 hb
        go_wp2_with fail
        go_ret
        exact ⟨by rw [HD.out]; rfl, HB1.out⟩
      · obtain ⟨A3, c3, rfl, _, _, _, hb⟩ := h9 (by omega)
        have HB1 := Lib.hid (HB.out.trans (hb.mono HB.out.size))
        have HD := Lib.hid (show decide ((mergeAll (ps ls)).length ≤ 6) = false from decide_eq_false (by have := HKL.out; omega))
        unfold Dep.outV Dep.slV
        clear h6 h9 hb
        go_wp2_with fail
        go_ret
        exact ⟨by rw [HD.out]; rfl, HB1.out⟩

theorem code_zero {L : List (List R)} (h : ∀ l ∈ L, rowsB l = true) : Sto.codeV L = 0 := by
  unfold Sto.codeV
  rw [if_neg (by rintro ⟨l, hl, h4⟩; have := (Sto.ok_of (h l hl)).1; omega), if_pos h]
theorem code_some {L : List (List R)} (h : ¬ ∀ l ∈ L, rowsB l = true) : Sto.codeV L ≠ 0 := by
  unfold Sto.codeV
  split
  · decide
  · first | decide | (rw [if_neg h]; decide)
theorem mailOk_iff (k : Nat) (m : List Ml) : mailOk k m = true ↔ m.length ≤ 40 ∧ ∀ y ∈ m, way k y.f y.t = true := by
  unfold mailOk
  rw [Bool.and_eq_true, decide_eq_true_iff, List.all_eq_true]

set_option maxHeartbeats 2000000 in
set_option maxRecDepth 100000 in
theorem implRight_any (n : Nt) (w : World) (h : NLies w w.heap.size n) (hL : Little n) :
    Calls Try.prog 11 #[n.val] w fun e w' => e = .returned (.bool (netB (pl n))) ∧ Below w.heap.size w w' := by
  have hsl : n.s.length ≤ 1048576 := by have := hL.1; omega
  have hml : n.m.length ≤ 1048576 := by have := hL.1; omega
  have HMR := Lib.hid (fun W (hW : Below w.heap.size w W) => mailRight_any n W (h.on hW) hsl hml)
  have HAS := Lib.hid (fun W (hW : Below w.heap.size w W) (h1 : n.m.length ≤ 40) (h2 : 0 < n.s.length) => allStores_any n W (h.on hW) hsl h1 h2)
  have HLX := Lib.hid (show ∀ W, Below w.heap.size w W → ∀ x ∈ n.all, Sto.Lies W W.heap.size x.A x.l from fun W hW x hx => by
    have h' := h.on hW
    rcases List.mem_append.1 hx with hx | hx
    · exact h'.1.2 x hx
    · obtain ⟨y, hy, rfl⟩ := List.mem_map.1 hx; exact h'.2.2 y hy)
  have HF := Lib.hid (fun (x : Sl) (hx : x ∈ n.all) => hL.fits hx)
  have HT := Lib.hid (fun (x : Sl) (hx : x ∈ n.all) => show x.l.length ≤ 1048576 by have := tot_mem hx; have := hL.1; omega)
  have HAN := Lib.hid (show n.all.length = n.s.length + n.m.length by unfold Nt.all; simp)
  have HV1 := Lib.hid (bad_few (n := n))
  have HV2 := Lib.hid (bad_many (n := n))
  have HV3 := Lib.hid (bad_mail (n := n))
  have HV4 := Lib.hid (fun x => bad_store (n := n) x)
  have HV5 := Lib.hid (fun y => bad_way (n := n) y)
  have HV6 := Lib.hid (right_iff (n := n))
  have HPL := Lib.hid (all_pl n)
  have HB0 := Lib.hid ((Below.refl w.heap.size w).alloc (Nat.le_refl _) (Obj.cells #[.slice n.A n.s.length n.ca, .slice n.B n.m.length n.cb] 31))
  have HP0 := Lib.hid (Blk.new w 31 #[.slice n.A n.s.length n.ca, .slice n.B n.m.length n.cb])
  clear h hL
  unfold Nt.val at HMR HAS ⊢
  by_cases hin : 1 ≤ n.s.length ∧ n.s.length ≤ 4
  case neg =>
    have HI := Lib.hid (show Id.inB (n.s.length : Int) 1 4 = false by unfold Id.inB; exact decide_eq_false (by omega))
    have HV := Lib.hid (show netB (pl n) = false by
      by_cases h1 : n.s.length < 1
      · exact HV1.out h1
      · exact HV2.out (by omega))
    rw [HV.out]
    clear hin
    go_enter Try.func11, Try.ntmps11
    go_wp2_with fail
    refine (Id.within_any _ _ _ _).mono ?_
    rintro e w' ⟨rfl, rfl⟩
    rw [HI.out]
    go_wp2_with fail
    go_ret
    exact ⟨rfl, HB0.out⟩
  have HI := Lib.hid (show Id.inB (n.s.length : Int) 1 4 = true by unfold Id.inB; exact decide_eq_true (by omega))
  cases hmo : mailOk n.s.length n.m
  · have HV := Lib.hid (show netB (pl n) = false by
      by_cases h1 : n.m.length ≤ 40
      · have h2 : ¬ ∀ y ∈ n.m, way n.s.length y.f y.t = true := fun h => by rw [(mailOk_iff _ _).2 ⟨h1, h⟩] at hmo; cases hmo
        obtain ⟨y, hy⟩ := Classical.not_forall.1 h2
        obtain ⟨hy, hw⟩ := Classical.not_imp.1 hy
        exact HV5.out y hy (by simpa using hw)
      · exact HV3.out (by omega))
    rw [hmo] at HMR
    rw [HV.out]
    have HHI := Lib.hid hin
    clear hmo hin
    obtain ⟨q0, q1⟩ := blk2 HP0.out
    go_enter Try.func11, Try.ntmps11
    go_wp2_with fail
    refine (Id.within_any _ _ _ _).mono ?_
    rintro e w' ⟨rfl, rfl⟩
    rw [HI.out]
    go_wp2_with fail
    refine (HMR.out _ HB0.out).mono ?_
    rintro e w1 ⟨rfl, hb⟩
    have HB1 := Lib.hid (HB0.out.trans (hb.mono HB0.out.size))
    clear hb q0 q1
    go_wp2_with fail
    go_ret
    exact ⟨rfl, HB1.out⟩
  obtain ⟨hm40, hway⟩ := (mailOk_iff _ _).1 hmo
  rw [hmo] at HMR
  have HASS := Lib.hid (fun W (hW : Below w.heap.size w W) => HAS.out W hW hm40 (by omega))
  have HA44 := Lib.hid (show n.all.length ≤ 44 by have := HAN.out; omega)
  have HAPOS := Lib.hid (show 0 < n.all.length by have := HAN.out; omega)
  have HIFF := Lib.hid (HV6.out (by omega) (by omega) hm40 hway)
  clear hmo hin hm40 hway HAS
  have HCODE := Lib.hid (show ∀ (W : World) (g c : Nat), Below w.heap.size w W → Bk W g 49 c (sv n.all) → ∀ cap, Calls Try.prog 35 #[.func (.func 36) #[] #[], .slice (some ⟨g, 0, none⟩) n.all.length cap] W fun e w' => e = .returned (.int .i64 (Sto.codeV (ps n.all))) ∧ Below W.heap.size W w' from fun W g c hW hB cap =>
    Sto.lists_any ⟨g, 0, none⟩ n.all cap W ⟨hB.lt, fun j hj => by rw [addr0]; exact hB.at_ (sv_at hj), fun j hj => HLX.out W hW _ (List.getElem_mem hj)⟩ (by have := HA44.out; omega) (fun j hj => HT.out _ (List.getElem_mem hj)) (fun j hj => (HF.out _ (List.getElem_mem hj)).2))
  have HFIT := Lib.hid (show ∀ (W : World) (g c : Nat), Below w.heap.size w W → Bk W g 49 c (sv n.all) → (∀ x ∈ n.all, rowsB x.l = true) → ∀ cap, Calls Try.prog 37 #[.slice (some ⟨g, 0, none⟩) n.all.length cap] W fun e w' => e = .returned (.bool (decide ((mergeAll (ps n.all)).length ≤ 6))) ∧ Below W.heap.size W w' from fun W g c hW hB hr cap =>
    keysFit_any ⟨g, 0, none⟩ n.all cap W ⟨hB.cl hB.lt, HLX.out W hW⟩ HAPOS.out (by have := HA44.out; omega) hr)
  obtain ⟨q0, q1⟩ := blk2 HP0.out
  by_cases hall : ∀ x ∈ n.all, rowsB x.l = true
  · have HALL := Lib.hid hall
    have HC0 := Lib.hid (show Sto.codeV (ps n.all) = 0 from code_zero fun l hl => by obtain ⟨x, hx, rfl⟩ := List.mem_map.1 hl; exact hall x hx)
    have HE := Lib.hid (HIFF.out hall)
    clear hall
    go_enter Try.func11, Try.ntmps11
    go_wp2_with fail
    refine (Id.within_any _ _ _ _).mono ?_
    rintro e w' ⟨rfl, rfl⟩
    rw [HI.out]
    go_wp2_with fail
    refine (HMR.out _ HB0.out).mono ?_
    rintro e w1 ⟨rfl, hb⟩
    have HB1 := Lib.hid (HB0.out.trans (hb.mono HB0.out.size))
    have HP1 := Lib.hid (HP0.out.on hb)
    clear hb q0 q1
    obtain ⟨q0, q1⟩ := blk2 HP1.out
    go_wp2_with fail
    refine (HASS.out _ HB1.out).mono ?_
    rintro e w2 ⟨v, rfl, ho, hn, hb⟩
    obtain ⟨g, c, rfl, _, _, _, hbk⟩ := o_val_ne ho hn
    have HBK := Lib.hid hbk
    have HB2 := Lib.hid (HB1.out.trans (hb.mono HB1.out.size))
    clear ho hn hb hbk q0 q1
    go_wp2_with fail
    refine (HCODE.out _ _ _ HB2.out HBK.out _).mono ?_
    rintro e w3 ⟨rfl, hb⟩
    rw [HC0.out]
    have HB3 := Lib.hid (HB2.out.trans (hb.mono HB2.out.size))
    have HBK3 := Lib.hid (HBK.out.on hb)
    clear hb
    go_wp2_with fail
    refine (HFIT.out _ _ _ HB3.out HBK3.out HALL.out _).mono ?_
    rintro e w4 ⟨rfl, hb⟩
    have HB4 := Lib.hid (HB3.out.trans (hb.mono HB3.out.size))
    clear hb
    go_wp2_with fail
    go_ret
    exact ⟨show Ending.returned (Value.bool (decide ((mergeAll (ps n.all)).length ≤ 6))) = _ by rw [HE.out, HPL.out], HB4.out⟩
  · have HC0 := Lib.hid (show Sto.codeV (ps n.all) ≠ 0 from code_some fun h => hall fun x hx => h x.l (List.mem_map.2 ⟨x, hx, rfl⟩))
    have HV := Lib.hid (show netB (pl n) = false by
      obtain ⟨x, hx⟩ := Classical.not_forall.1 hall
      obtain ⟨hx, hr⟩ := Classical.not_imp.1 hx
      exact HV4.out x hx (by simpa using hr))
    rw [HV.out]
    clear hall
    go_enter Try.func11, Try.ntmps11
    go_wp2_with fail
    refine (Id.within_any _ _ _ _).mono ?_
    rintro e w' ⟨rfl, rfl⟩
    rw [HI.out]
    go_wp2_with fail
    refine (HMR.out _ HB0.out).mono ?_
    rintro e w1 ⟨rfl, hb⟩
    have HB1 := Lib.hid (HB0.out.trans (hb.mono HB0.out.size))
    have HP1 := Lib.hid (HP0.out.on hb)
    clear hb q0 q1
    obtain ⟨q0, q1⟩ := blk2 HP1.out
    go_wp2_with fail
    refine (HASS.out _ HB1.out).mono ?_
    rintro e w2 ⟨v, rfl, ho, hn, hb⟩
    obtain ⟨g, c, rfl, _, _, _, hbk⟩ := o_val_ne ho hn
    have HBK := Lib.hid hbk
    have HB2 := Lib.hid (HB1.out.trans (hb.mono HB1.out.size))
    clear ho hn hb hbk q0 q1
    go_wp2_with fail
    refine (HCODE.out _ _ _ HB2.out HBK.out _).mono ?_
    rintro e w3 ⟨rfl, hb⟩
    have HB3 := Lib.hid (HB2.out.trans (hb.mono HB2.out.size))
    clear hb
    have hc2 : (Sto.codeV (ps n.all) == 0) = false := beq_eq_false_iff_ne.2 HC0.out
    obtain ⟨cv, hcv⟩ : ∃ cv, Sto.codeV (ps n.all) = cv := ⟨_, rfl⟩
    have hc3 := HC0.out
    rw [hcv] at hc2 hc3 ⊢
    clear hcv
    have hc4 : ¬ cv = 0 := hc3
    go_wp2_with fail
    go_ret
    exact ⟨rfl, HB3.out⟩
end Go.Proofs.Ythagkjofpfafiaa.Net
