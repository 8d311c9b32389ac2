/-
  impl.cutFits.
-/
import Derived.Test.YtegnjbdgeibhfaaRsAbove
import Derived.Test.YtegnjbdgeibhfaaRsKeys
import Derived.Test.YtegnjbdgeibhfaaRecBundled
import Derived.Test.YtegnjbdgeibhfaaDepAll
namespace Go.Proofs.Ytegnjbdgeibhfaa.Rs
open Go.ChangeShapes Go.WideShapes Go.ChangeAt Go.RowKit
open Rec (R P Sound Small recV cellsV recB needsR bun)
open Net (Cl Bk HeldV)
open Dep (D I depsB coversB covB ofV)
set_option linter.unusedVariables false
set_option maxRecDepth 100000

theorem dlist_info : (Try.prog.info? 22).map (fun i => (i.zero, i.size, i.bytes)) = some (some (.slice none 0 0), 1, 24) := by kernel_rfl
theorem fit_dlists : AppFit 83 22 1 := by
  obtain ⟨i0, hi0, hz0, hz1, hz2⟩ := info_parts dlist_info
  exact ⟨Try.underlying83, by omega, i0, _, hi0, hz0, hz1, by rw [hz2]; omega, rfl⟩
def dv (ds : List Dep.Sl) : List Value := ds.map fun d => .slice d.A d.l.length d.c
theorem dv_len (ds : List Dep.Sl) : (dv ds).length = ds.length := by simp [dv]
theorem dv_append (a b : List Dep.Sl) : dv (a ++ b) = dv a ++ dv b := by simp [dv]
theorem dv_one (ds : List Dep.Sl) : ∀ u ∈ dv ds, u.oneCell' = true := by
  intro u hu
  obtain ⟨x, _, rfl⟩ := List.mem_map.1 hu
  rfl
/-- A slice of deps: it came in, or it is of one's own. -/
def OKd (w W : World) (d : Dep.Sl) : Prop := Dep.Lies w w.heap.size d.A d.l ∨ (Dep.Lies W W.heap.size d.A d.l ∧ (d.l = [] ∨ ∃ g cs, d.A = some ⟨g, 0, none⟩ ∧ W.heap[g]? = some (Obj.cells cs 80 (0, 0))))
theorem OKd.lies {w W : World} {d : Dep.Sl} (h : OKd w W d) (hb : Below w.heap.size w W) : Dep.Lies W W.heap.size d.A d.l := by
  rcases h with h | ⟨h, _⟩
  · exact (h.below hb (Nat.le_refl _)).more hb.size
  · exact h
theorem OKd.step {w W W' : World} {d : Dep.Sl} (h : OKd w W d) (hb : Below W.heap.size W W') : OKd w W' d := by
  rcases h with h | ⟨h, h2⟩
  · exact .inl h
  · exact .inr ⟨(h.below hb (Nat.le_refl _)).more hb.size, h2.imp id fun ⟨g, cs, e, hc⟩ => ⟨g, cs, e, (hb.block g (Array.getElem?_eq_some_iff.1 hc).1).trans hc⟩⟩
theorem OKd.grown {w W W' : World} {d : Dep.Sl} (hk : ∀ (g : Nat) (cs : Array Value), W.heap[g]? = some (Obj.cells cs 80 (0, 0)) → W'.heap[g]? = W.heap[g]?) (hs : W.heap.size ≤ W'.heap.size) (h : OKd w W d) : OKd w W' d := by
  rcases h with h | ⟨h, h2⟩
  · exact .inl h
  · refine .inr ⟨?_, h2.imp id fun ⟨g, cs, e, hc⟩ => ⟨g, cs, e, (hk g cs hc).trans hc⟩⟩
    rcases h2 with e | ⟨g, cs, e, hc⟩
    · rw [e]; exact fun h0 => absurd h0 (by simp)
    · intro h0
      obtain ⟨ad, e2, hb, hat⟩ := h h0
      rw [e] at e2
      cases e2
      exact ⟨_, e, by omega, fun j hj => (hat j hj).keep fun p hp => World.cell?_of_block (by rw [hp, Dep.add_block]; exact hk g cs hc)⟩
/-- Where a slice of deps of one's own lies. -/
theorem deps_block {w : World} {base n c : Nat} {A : Option Addr} {l : List Dep.D} (h : w.ownsRow base 80 4 (Dep.slV A l c) n (Dep.flat l)) : l = [] ∨ ∃ g cs, A = some ⟨g, 0, none⟩ ∧ w.heap[g]? = some (Obj.cells cs 80 (0, 0)) := by
  rcases h.2 with ⟨e, h0⟩ | ⟨g, cap, cur, e, hb, hh, _⟩
  · unfold Dep.slV at e
    injection e with e1 e2 e3
    exact .inl (List.eq_nil_of_length_eq_zero e2)
  · unfold Dep.slV at e
    injection e with e1 e2 e3
    exact .inr ⟨g, cur, e1, hh⟩
theorem o_first (W : World) (te : Nat) (v : Value) : (W.alloc (Obj.cells #[v] te)).ownsRow W.heap.size te 1 (.slice (some ⟨W.heap.size, 0, none⟩) 1 1) 1 [v] :=
  ⟨by simp, .inr ⟨W.heap.size, 1, #[v], rfl, Nat.le_refl _, heap_alloc_new W _, Nat.le_refl _, by simp [maxLen], by simp, by simp⟩⟩

theorem fit_step (rows : List R) (l : List Q) (k : Nat) (h : k < l.length) : fitL rows (pr (l.take (k + 1))) = fitL rows (pr (l.take k)) ++ [l[k].r.l, bun l[k].r.b l[k].r.i] := by
  unfold fitL pr
  rw [take_snoc l k h, List.map_append, List.flatMap_append]
  rfl
theorem fit_len (rows wait : List R) : (fitL rows wait).length = 1 + 2 * wait.length := by
  unfold fitL
  induction wait with
  | nil => rfl
  | cons r l ih =>
    rw [List.length_cons] at ih
    rw [List.flatMap_cons, List.length_cons, List.length_append, List.length_cons, List.length_cons, List.length_cons, List.length_nil]
    omega
theorem short_keys {l : List D} (h : Dep.Good l) : ∃ ks : List Dep.K4, ks.map (·.1) = l.map D.k := by
  induction l with
  | nil => exact ⟨[], rfl⟩
  | cons d l ih =>
    obtain ⟨ks, hks⟩ := ih fun x hx => h x (by simp [hx])
    have := (Key.ok_of (h d (by simp)).1).2.1
    exact ⟨⟨d.k, this⟩ :: ks, by simp [hks]⟩
/-- Whether the keys fit. -/
noncomputable def fitsB (rows wait : List R) : Bool := decide ((keysV rows wait).length ≤ 6)

set_option maxHeartbeats 8000000 in
set_option maxRecDepth 100000 in
theorem cutFits_any (A B : Option Addr) (s l : List Q) (ca cb : Nat) (w : World) (hs : LRs w w.heap.size A s) (h : LRs w w.heap.size B l) (hsr : ListOk (pr s)) (hl : l.length ≤ 7) (hlr : ∀ q ∈ l, recB q.r = true) (hlm : Dep.Sorted (mk (pr l)) ∧ Dep.Good (mk (pr l))) :
    Calls Try.prog 39 #[.slice A s.length ca, .slice B l.length cb] w fun e w' => e = .returned (.bool (fitsB (pr s) (pr l))) ∧ Below w.heap.size w w' := by
  have hsl : s.length ≤ 6 := by have := hsr.1; rwa [pr_len] at this
  have H := Lib.hid h
  have HM := Lib.hid (recMarks_any A s ca w hs (by omega))
  have HLR := Lib.hid hlr
  have HKC := Lib.hid (keys_chain (rows := pr s) (wait := pr l) (sg_mk hsr) hlm (fun r hr => by obtain ⟨q, hq, rfl⟩ := List.mem_map.1 hr; exact hlr q hq))
  have HKG := Lib.hid (keys_sg (rows := pr s) (wait := pr l) (sg_mk hsr) hlm (fun r hr => by obtain ⟨q, hq, rfl⟩ := List.mem_map.1 hr; exact hlr q hq)).2
  obtain ⟨ks, hks⟩ := short_keys HKG.out
  have HKL := Lib.hid (show ks.length = (keysV (pr s) (pr l)).length from by have := congrArg List.length hks; simpa using this)
  rw [← hks] at HKC
  have HML := Lib.hid (show (mk (pr s)).length ≤ 6 from by rw [mk_pr_len]; exact hsl)
  have HFS := Lib.hid (show fitL (pr s) (pr (l.take 0)) = [mk (pr s)] from rfl)
  have HSZ := Lib.hid (show ∀ x ∈ fitL (pr s) (pr l), x.length ≤ 6 from fun x hx => by
    unfold fitL at hx
    rcases List.mem_cons.1 hx with rfl | hx
    · exact HML.out
    · obtain ⟨r, hr, hx⟩ := List.mem_flatMap.1 hx
      obtain ⟨q, hq, rfl⟩ := List.mem_map.1 hr
      have ho := Rec.rec_of (hlr q hq)
      rcases List.mem_cons.1 hx with rfl | hx
      · exact (Dep.ok_of ho.2.2.2.2.1).1
      · obtain rfl := List.mem_singleton.1 hx
        rw [Rec.bun_length]
        have := (Rec.keys_of ho.2.2.2.2.2.1).1
        omega)
  clear h hs hsr hlr hlm hks HKG
  obtain ⟨M, hM⟩ : ∃ M, mk (pr s) = M := ⟨_, rfl⟩
  rw [hM] at HM HML HFS
  clear hM
  go_enter Try.func39, Try.ntmps39
  go_wp2_with fail
  refine HM.out.mono ?_
  rintro e w0 ⟨A', c, rfl, hc, hL, ho, hb1⟩
  have B1 := Lib.hid (hb1.alloc hb1.size (Obj.cells #[.slice A' M.length c] 22))
  have O1 := Lib.hid (o_less (o_first w0 22 (.slice A' M.length c)) hb1.size)
  have D1 := Lib.hid (show OKd w (w0.alloc (Obj.cells #[.slice A' M.length c] 22)) ⟨A', M, c⟩ from OKd.step (.inr ⟨hL, deps_block ho⟩) ((Below.refl _ w0).alloc (Nat.le_refl _) _))
  unfold Dep.slV
  clear hb1 hL hc ho HM
  go_wp2_with fail
  go_loopw [5, 13] (fun o i wr => ∃ k : Nat, k ≤ l.length ∧ i = .int .i64 k ∧ ∃ ds : List Dep.Sl, Hid (wr.ownsRow w.heap.size 22 1 o ds.length (dv ds) ∧ ds.map (·.l) = fitL (pr s) (pr (l.take k)) ∧ (∀ d ∈ ds, OKd w wr d) ∧ Below w.heap.size w wr)) (fun _ i _ => l.length - (intOf i).toNat)
  case atStart => exact ⟨0, by omega, rfl, [⟨A', M, c⟩], Lib.hid ⟨O1.out, HFS.out.symm, fun d hd => by obtain rfl := List.mem_singleton.1 hd; exact D1.out, B1.out⟩⟩
  case round =>
    obtain ⟨k, hk, rfl, ds, HR⟩ := hrel
    by_cases hlt : k < l.length
    · obtain ⟨ad, rfl, _, ⟨c0, c1, c2, c3, c4, c5, c6, c7⟩, -⟩ := (H.out.below HR.out.2.2.2 (Nat.le_refl _)).at_ hlt
      have hL0 := H.out.2 l[k] (List.getElem_mem hlt)
      have hlr := HLR.out l[k] (List.getElem_mem hlt)
      have HST := Lib.hid (fit_step (pr s) l k hlt)
      obtain ⟨y, hy⟩ : ∃ y, l[k] = y := ⟨_, rfl⟩
      rw [hy] at c0 c1 c2 c3 c4 c5 c6 c7 HST hL0 hlr
      clear hy
      obtain ⟨r, p⟩ := y
      simp only at c0 c1 c2 c3 c4 c5 c6 c7 HST hL0 hlr
      have hb4 := (Rec.keys_of (Rec.rec_of hlr).2.2.2.2.2.1).1
      have HBU := Lib.hid (fun W (hW : Below w.heap.size w W) => Rec.bundled_any r p W (hL0.step hW (Nat.le_refl _) hW.size) (by omega))
      have HLD := Lib.hid hL0.1
      have HDL := Lib.hid (show ds.length ≤ 15 from by
        have := congrArg List.length HR.out.2.1
        rw [List.length_map, fit_len, pr_len, List.length_take] at this
        omega)
      have HDM := Lib.hid HR.out.2.1
      obtain ⟨bn, hbn⟩ : ∃ bn, bun r.b r.i = bn := ⟨_, rfl⟩
      rw [hbn] at HBU HST
      have HBX := Lib.hid (Blk.new wr 61 (cellsV r p))
      have HBW := Lib.hid (HR.out.2.2.2.alloc HR.out.2.2.2.size (Obj.cells (cellsV r p) 61))
      have HO := Lib.hid (o_alloc HR.out.1 (Obj.cells (cellsV r p) 61))
      have HDS := Lib.hid (fun d (hd : d ∈ ds) => (HR.out.2.2.1 d hd).step ((Below.refl _ wr).alloc (Nat.le_refl _) (Obj.cells (cellsV r p) 61)))
      unfold recV Dep.slV at HBU
      clear hbn hL0 hlr hb4 HR
      go_wp2_with fail
      generalize World.alloc wr _ = W1 at HBX HBW HO HDS ⊢
      generalize wr.heap.size = n at HBX ⊢
      refine wp_region_held_drew (S := (fun W => Blk W n 61 (cellsV r p) ∧ Below w.heap.size w W)) (by kernel_rfl) ?_ (fun hHeld => ?_)
      · exact ⟨HBX.out.drew, HBW.out.drew⟩
      refine wpAnyH_take (i := 0) (v := ?_) rfl (by kernel_rfl) (by kernel_rfl) (by kernel_rfl) (fun _ _ _ h => h) (Or.inl ⟨by rfl, ?_⟩) hHeld ?_
      rotate_left
      · intro W hSw
        obtain ⟨hs1, hs2, hs3, hs4, hs5, hs6, hs7, hs8⟩ := Rec.cells8 hSw.1
        go_simp
        try with_reducible rfl
      try simp only [Act.put, List.setIfInBounds_toArray, List.set_cons_zero, List.set_cons_succ, List.getElem_toArray, List.getElem_cons_zero]
      refine wpAnyH_take (i := 1) (v := ?_) rfl (by kernel_rfl) (by kernel_rfl) (by kernel_rfl) (fun _ _ _ h => h) (Or.inl ⟨by rfl, ?_⟩) hHeld ?_
      rotate_left
      · intro W hSw
        obtain ⟨hs1, hs2, hs3, hs4, hs5, hs6, hs7, hs8⟩ := Rec.cells8 hSw.1
        go_simp
        try with_reducible rfl
      try simp only [Act.put, List.setIfInBounds_toArray, List.set_cons_zero, List.set_cons_succ, List.getElem_toArray, List.getElem_cons_succ, List.getElem_cons_zero]
      refine wpAnyH_take (i := 2) (v := ?_) rfl (by kernel_rfl) (by kernel_rfl) (by kernel_rfl) (fun _ _ _ h => h) (Or.inl ⟨by rfl, ?_⟩) hHeld ?_
      rotate_left
      · intro W hSw
        obtain ⟨hs1, hs2, hs3, hs4, hs5, hs6, hs7, hs8⟩ := Rec.cells8 hSw.1
        go_simp
        try with_reducible rfl
      try simp only [Act.put, List.setIfInBounds_toArray, List.set_cons_zero, List.set_cons_succ, List.getElem_toArray, List.getElem_cons_succ, List.getElem_cons_zero]
      refine wpAnyH_take (i := 3) (v := ?_) rfl (by kernel_rfl) (by kernel_rfl) (by kernel_rfl) (fun _ _ _ h => h) (Or.inl ⟨by rfl, ?_⟩) hHeld ?_
      rotate_left
      · intro W hSw
        obtain ⟨hs1, hs2, hs3, hs4, hs5, hs6, hs7, hs8⟩ := Rec.cells8 hSw.1
        go_simp
        try with_reducible rfl
      try simp only [Act.put, List.setIfInBounds_toArray, List.set_cons_zero, List.set_cons_succ, List.getElem_toArray, List.getElem_cons_succ, List.getElem_cons_zero]
      refine wpAnyH_ready (rs := [4]) (by kernel_rfl) (by simp) ?_
      refine AllReadyH.cons rfl (fun K hK => ?_) AllReadyH.nil
      go_simp
      refine (HBU.out _ hHeld.2).mono ?_
      rintro e w1 ⟨A', c', rfl, hc', ho', hL', hb⟩
      have D1 := Lib.hid (fun d (hd : d ∈ ds) => ((HDS.out d hd).step (Below.refl _ W1).drew).step hb)
      have D2 := Lib.hid (show OKd w w1 ⟨A', bn, c'⟩ from .inr ⟨hL', deps_block ho'⟩)
      have O1 := Lib.hid (o_step (o_step HO.out (Below.refl _ W1).drew (Nat.le_refl _)) hb (Nat.le_refl _))
      have Z1 := Lib.hid (show w.heap.size ≤ w1.heap.size from (hHeld.2.trans (hb.mono hHeld.2.size)).size)
      clear ho' hL' hc'
      refine hK.out _ _ ?_ (fun hHeld => ?_)
      · exact ⟨hHeld.1.on hb, hHeld.2.trans (hb.mono hHeld.2.size)⟩
      clear hK K
      try simp only [Act.put, List.setIfInBounds_toArray, List.set_cons_zero, List.set_cons_succ, List.getElem_toArray, List.getElem_cons_succ, List.getElem_cons_zero]
      refine wpAnyH_ready (rs := [5]) (by kernel_rfl) (by simp) ?_
      refine AllReadyH.cons rfl (fun K hK => ?_) AllReadyH.nil
      have hHB := Lib.hid hHeld
      go_simp
      refine hK.out _ _ ?_ (fun hHeld => ?_)
      · exact ⟨hHeld.1.alloc _, hHeld.2.alloc hHeld.2.size _⟩
      clear hK K
      try simp only [Act.put, List.setIfInBounds_toArray, List.set_cons_zero, List.set_cons_succ, List.getElem_toArray, List.getElem_cons_succ, List.getElem_cons_zero]
      refine wpAnyH_ready (rs := [6]) (by kernel_rfl) (by simp) ?_
      refine AllReadyH.cons rfl (fun K hK => ?_) AllReadyH.nil
      have hX2 := Lib.hid hHeld
      refine Dep.wanted_in (by rfl) ?_
      refine wp_app fit_dlists rfl rfl (dv [⟨p.A, r.l, p.ca⟩, ⟨A', bn, c'⟩]) rfl rfl (o_alloc O1.out (Obj.cells #[.slice p.A r.l.length p.ca, .slice A' bn.length c'] 22)) (cl_one_at _ _ #[.slice p.A r.l.length p.ca, .slice A' bn.length c'] rfl) rfl (dv_one _) (by have := HDL.out; omega) (by have := Z1.out; simp; omega) ?_
      intro v2 w2 ho2 hg2 hn2
      have hty := fun (g : Nat) (cs : Array Value) (hc : (w1.alloc (Obj.cells #[.slice p.A r.l.length p.ca, .slice A' bn.length c'] 22)).heap[g]? = some (Obj.cells cs 80 (0, 0))) => o_types (o_alloc O1.out (Obj.cells #[.slice p.A r.l.length p.ca, .slice A' bn.length c'] 22)) hg2 (t := 80) (by decide) g cs hc
      have hxb : Blk w2 n 61 (cellsV r p) := (o_types (o_alloc O1.out (Obj.cells #[.slice p.A r.l.length p.ca, .slice A' bn.length c'] 22)) hg2 (t := 61) (by decide) n _ hX2.out.1).trans hX2.out.1
      have hbl : Below w.heap.size w w2 := hX2.out.2.grown hg2 hX2.out.2.size (o_base (o_alloc O1.out (Obj.cells #[.slice p.A r.l.length p.ca, .slice A' bn.length c'] 22)))
      have D3 := Lib.hid (fun d (hd : d ∈ ds ++ [⟨p.A, r.l, p.ca⟩, ⟨A', bn, c'⟩]) => (show OKd w w2 d from by
        refine OKd.grown hty hg2.size ?_
        rcases List.mem_append.1 hd with hd | hd
        · exact (D1.out d hd).step ((Below.refl _ w1).alloc (Nat.le_refl _) (Obj.cells #[.slice p.A r.l.length p.ca, .slice A' bn.length c'] 22))
        · rcases List.mem_cons.1 hd with rfl | hd
          · exact .inl HLD.out
          · obtain rfl := List.mem_singleton.1 hd
            exact D2.out.step ((Below.refl _ w1).alloc (Nat.le_refl _) (Obj.cells #[.slice p.A r.l.length p.ca, .slice A' bn.length c'] 22))))
      rw [← dv_append] at ho2
      have O2 := Lib.hid ho2
      clear ho2 hg2 hn2 hty
      refine hK.out _ _ ?_ (fun hHeld => ?_)
      · exact ⟨hxb, hbl⟩
      clear hK K
      try simp only [Act.put, List.setIfInBounds_toArray, List.set_cons_zero, List.set_cons_succ, List.getElem_toArray, List.getElem_cons_succ, List.getElem_cons_zero]
      refine wpAnyH_take (i := 7) (v := ?_) rfl (by kernel_rfl) (by kernel_rfl) (by kernel_rfl) (fun _ _ _ h => h) (Or.inl ⟨by rfl, ?_⟩) hHeld ?_
      rotate_left
      · intro W hSw
        obtain ⟨hs1, hs2, hs3, hs4, hs5, hs6, hs7, hs8⟩ := Rec.cells8 hSw.1
        go_simp
        try with_reducible rfl
      try simp only [Act.put, List.setIfInBounds_toArray, List.set_cons_zero, List.set_cons_succ, List.getElem_toArray, List.getElem_cons_succ, List.getElem_cons_zero]
      refine wpAnyH_done (by kernel_rfl) ?_ _
      go_wp2_with fail
      go_roundw
      case rel =>
        refine ⟨k + 1, by omega, by go_num, ds ++ [⟨p.A, r.l, p.ca⟩, ⟨A', bn, c'⟩], Lib.hid ⟨?_, ?_, D3.out, hHeld.2⟩⟩
        · rw [List.length_append]; exact O2.out
        · rw [List.map_append, HDM.out, HST.out]; rfl
      case measure => simp [intOf]; omega
    · have e : k = l.length := by omega
      obtain ⟨A2, c2, hv, _, _, hcl, -⟩ := o_val HR.out.1
      rw [List.take_of_length_le (by omega)] at HR
      have hdl : ds.length = 1 + 2 * l.length := by
        have := congrArg List.length HR.out.2.1
        rwa [List.length_map, fit_len, pr_len] at this
      obtain ⟨ad2, rfl, had, hcell⟩ := hcl (by rw [dv_len]; omega)
      subst hv
      have hlist : Dep.Lists wr wr.heap.size ad2 ds := ⟨had, fun j hj => hcell j _ (by simp [dv, hj]), fun j hj => (HR.out.2.2.1 _ (List.getElem_mem hj)).lies HR.out.2.2.2⟩
      have hall : Dep.allOf ds = (fitL (pr s) (pr l)).flatten := by
        unfold Dep.allOf
        rw [← HR.out.2.1, List.flatMap_def]
      have hlen : ∀ j (hj : j < ds.length), ds[j].l.length ≤ maxLen := fun j hj => by
        have h1 : ds[j].l ∈ fitL (pr s) (pr l) := by rw [← HR.out.2.1]; exact List.mem_map.2 ⟨_, List.getElem_mem hj, rfl⟩
        have := HSZ.out _ h1
        unfold maxLen; omega
      have HC := Lib.hid (Dep.all_any ad2 ds c2 ks (by rw [hall]; exact HKC.out) (by omega) hlen wr hlist)
      have HB := Lib.hid HR.out.2.2.2
      have hfd : ∀ (u : Value) (z : Int) (V : World), (Instr.field 85 (.agg #[u, .int .i64 z]) 1).run Try.prog V = .ok (.int .i64 z) V := fun u z V => by kernel_rfl
      clear hlist hall hlen hcell had HR e hdl
      go_wp2_with fail
      refine HC.out.mono ?_
      rintro e w1 ⟨h6, h9⟩
      by_cases hk6 : ks.length ≤ 6
      · obtain ⟨A3, c3, rfl, _, _, _, hb⟩ := h6 hk6
        have HB1 := Lib.hid (HB.out.trans (hb.mono HB.out.size))
        have HD := Lib.hid (show fitsB (pr s) (pr l) = true from decide_eq_true (by have := HKL.out; omega))
        unfold Dep.outV Dep.slV
        clear h6 h9 hb
        go_wp2_with fail
        go_ret
        exact ⟨Key.ret_bool HD.out.symm, HB1.out⟩
      · obtain ⟨A3, c3, rfl, _, _, _, hb⟩ := h9 (by omega)
        have HB1 := Lib.hid (HB.out.trans (hb.mono HB.out.size))
        have HD := Lib.hid (show fitsB (pr s) (pr l) = false from decide_eq_false (by have := HKL.out; omega))
        unfold Dep.outV Dep.slV
        clear h6 h9 hb
        go_wp2_with fail
        go_ret
        exact ⟨Key.ret_bool HD.out.symm, HB1.out⟩
end Go.Proofs.Ytegnjbdgeibhfaa.Rs
