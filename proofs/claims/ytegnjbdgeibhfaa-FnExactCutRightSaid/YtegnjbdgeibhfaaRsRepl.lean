/-
  impl.replaced: of each key of some records the first of it, rising.
-/
import Derived.Test.YtegnjbdgeibhfaaPackRsB
import Derived.Test.YtegnjbdgeibhfaaRsAt
import Derived.Test.YtegnjbdgeibhfaaRsKeys
namespace Go.Proofs.Ytegnjbdgeibhfaa.Rs
open Go.ChangeShapes Go.WideShapes Go.ChangeAt Go.RowKit Go.Shelf
open Rec (R P Sound recV cellsV)
open Net (Cl Bk HeldV)
open Dep (D Chain K4 Lists box_below cells_kept wanted_in OnlyN regionIn_held noDefer_of)
set_option linter.unusedVariables false
set_option maxRecDepth 100000

attribute [local go_sem] Oper.semAt_some

/-- What a round keeps: all below n₁, and all from lo on, below hi. -/
def KMid (n₁ lo hi : Nat) (W W' : World) : Prop := Below n₁ W W' ∧ ∀ k, lo ≤ k → k < hi → W'.heap[k]? = W.heap[k]?
theorem KMid.trans {n₁ lo hi : Nat} {A B C : World} (h : KMid n₁ lo hi A B) (k : KMid n₁ lo hi B C) : KMid n₁ lo hi A C := ⟨h.1.trans k.1, fun i h1 h2 => (k.2 i h1 h2).trans (h.2 i h1 h2)⟩
theorem KMid.put {n₁ lo hi : Nat} {w : World} (hn : n₁ ≤ w.heap.size) (hh : hi ≤ w.heap.size) (W : World) (l : Nat) (o o' : Obj) (hl : w.heap.size ≤ l) (h : W.heap[l]? = some o) (hc : o.isCells = false) (hw : o.isWalk = false) : KMid n₁ lo hi W (W.putObj l o') :=
  ⟨belowK_b hn W l o o' hl h hc hw, fun k _ h2 => (grownBy_putObj' W l o').block k (by have := (Array.getElem?_eq_some_iff.1 h).1; omega) (fun e => by cases e; omega)⟩
theorem ownR_kept {W W' : World} {row : Option Nat} (hg : W.grownBy W' row) (hr : ∀ r, row = some r → ∃ o : Obj, W.heap[r]? = some o ∧ o.isCells = false) {te size base n : Nat} {v : Value} {xs : List Value} (h : W.ownsRow base te size v n xs) : W'.ownsRow base te size v n xs := by
  refine ⟨h.1, h.2.imp id ?_⟩
  rintro ⟨g, cap, cur, e, hb', hh, r⟩
  exact ⟨g, cap, cur, e, hb', cells_kept hg hr hh, r⟩
theorem keepsR {W W' : World} {te size base n : Nat} {v : Value} {xs : List Value} (hg : W.grownBy W' v.ownBlock) (ho : W.ownsRow base te size v n xs) : KeepsOthers W W' := by
  refine KeepsOthers.of_grownBy hg fun j o e hj => ?_
  rcases ho.2 with ⟨rfl, _⟩ | ⟨g, cap, cur, rfl, _, hgg, _⟩
  · cases e
  · cases e
    rw [hgg] at hj
    cases hj
    rfl
/-- What holds ahead of a round: the keys pre have come. -/
def InvR (S : World) (bo : Nat) (al : List Q) (pre : List K4) (W : World) : Prop :=
  (∃ v, Boxed W bo 23 v ∧ W.ownsRow S.heap.size 61 8 v pre.length (rv (pre.map fun k => atQ al k.1))) ∧ Below bo S W
theorem InvR.own {S : World} {bo : Nat} {al : List Q} (hb : bo ≤ S.heap.size) : OwnFrom S.heap.size (InvR S bo al) := by
  rintro pre W W' row ⟨⟨v, h1, h2⟩, h3⟩ hg hr
  have hr' : ∀ r, row = some r → ∃ o : Obj, W.heap[r]? = some o ∧ o.isCells = false := fun r e => (hr r e).2
  exact ⟨⟨v, cells_kept hg hr' h1, ownR_kept hg hr' h2⟩, h3.grown hg (Nat.le_trans hb h3.size) (fun k e => Nat.le_trans hb (hr k e).1)⟩
theorem round_endR {S W w1 w1a w2 : World} {bo : Nat} {al : List Q} {pre : List K4} {x : K4} {q : Q} {v v2 : Value} {n : Nat}
    (hbo : bo + 1 ≤ S.heap.size) (hn : pre.length + 1 = n) (hq : atQ al x.1 = q) (B1 : Below W.heap.size W w1) (HA : Below w1.heap.size w1 w1a) (K2 : KeepsOthers w1a w2) (B2 : Below S.heap.size w1 w2)
    (O2 : w2.ownsRow S.heap.size 61 8 v2 n (rv (pre.map fun k => atQ al k.1) ++ rv [q])) (D2 : Boxed w2 bo 23 v) (BW : Below bo S W) :
    KeepsFrom S.heap.size W (w2.setCell ⟨bo, 0, none⟩ v2) ∧ KMid bo (bo + 1) S.heap.size W (w2.setCell ⟨bo, 0, none⟩ v2) ∧ InvR S bo al (pre ++ [x]) (w2.setCell ⟨bo, 0, none⟩ v2) := by
  have hW := BW.size
  have BB : Below S.heap.size W w2 := (B1.mono hW).trans B2
  refine ⟨?_, ⟨(BB.mono (show bo ≤ S.heap.size by omega)).setCell (p := ⟨bo, 0, none⟩) (Nat.le_refl _) _, fun k h1 h2 => ?_⟩, ⟨v2, D2.set _, ?_⟩, (BW.trans (BB.mono (show bo ≤ S.heap.size by omega))).setCell (p := ⟨bo, 0, none⟩) (Nat.le_refl _) _⟩
  · exact ((Dep.keeps_below B1 (Nat.le_refl _)).trans ((Dep.keeps_below HA (Nat.le_refl _)).trans (K2.from _))).trans ((KeepsOthers.setCell _ _ _).from _)
  · rw [heap_setCell_other _ _ _ _ (by show k ≠ bo; omega)]
    exact BB.block _ (by omega)
  · have := o_set O2 (p := ⟨bo, 0, none⟩) (by show bo < _; omega) v2
    rw [List.length_append, List.map_append, rv_append, List.length_singleton, hn]
    show World.ownsRow _ _ _ _ _ _ (_ ++ rv [atQ al x.1])
    rw [hq]
    exact this

set_option maxHeartbeats 4000000 in
set_option maxRecDepth 100000 in
theorem replaced_any (A B : Option Addr) (l news : List Q) (ca cb : Nat) (w : World) (h : LRs w w.heap.size A l) (hw : LRs w w.heap.size B news) (hl : (news ++ l).length ≤ 100) (ks : List K4) (hc : Chain (mk (pr (news ++ l))) (ks.map (·.1))) (hk : ks.length ≤ 100) :
    Calls Try.prog 67 #[.slice A l.length ca, .slice B news.length cb] w fun e w' => ∃ v, e = .returned v ∧ w'.ownsRow w.heap.size 61 8 v ks.length (rv (ks.map fun k => atQ (news ++ l) k.1)) ∧ Below w.heap.size w w' := by
  refine (callsIn_wide (n := 3)).1 ?_
  refine callsIn_of_wp_marks Try.func67 rfl trivial ?_ rfl
  simp only [Try.ntmps67, List.size_toArray, List.length_cons, List.length_nil, Nat.reduceAdd, Nat.reduceSub, Array.replicate_succ, Array.replicate_zero, List.push_toArray, List.append_toArray, List.nil_append, List.cons_append]
  have HB0 := Lib.hid ((Below.refl w.heap.size w).alloc (Nat.le_refl _) (Obj.cells #[.slice B news.length cb, .slice A l.length ca] 23))
  have HX0 := Lib.hid (Blk.new w 23 #[.slice B news.length cb, .slice A l.length ca])
  have HS0 := Lib.hid (show (w.alloc (Obj.cells #[.slice B news.length cb, .slice A l.length ca] 23)).heap.size = w.heap.size + 1 by simp)
  have HLN := Lib.hid hw
  have HLL := Lib.hid h
  have HCH := Lib.hid hc
  obtain ⟨al, hal⟩ : ∃ al, news ++ l = al := ⟨_, rfl⟩
  have HAL := Lib.hid hal
  have HCON := Lib.hid (concat_any ⟨w.heap.size, 0, none⟩ [⟨B, news, cb⟩, ⟨A, l, ca⟩] 2 _ (by rw [HS0.out]; exact Nat.lt_succ_self _) (fun k hk => by
      match k, hk with
      | 0, _ => exact HX0.out.cell 0
      | 1, _ => exact HX0.out.cell 1) (fun k hk => by
      match k, hk with
      | 0, _ => exact hw.on HB0.out
      | 1, _ => exact h.on HB0.out) (by simp) (by unfold flatQ; simp; rw [← List.length_append]; omega))
  rw [show flatQ [⟨B, news, cb⟩, ⟨A, l, ca⟩] = al from by unfold flatQ; simp [hal]] at HCON
  rw [hal] at hl HCH ⊢
  clear h hw hc hal
  gi_wp2
  refine ⟨trivial, (callsIn_wide.2 HCON.out).mono ?_⟩
  rintro e w1 ⟨v, rfl, ho, hb⟩
  obtain ⟨A1, c1, rfl, hc1, hc2, hcl, -⟩ := o_val ho
  have HB1 := Lib.hid (HB0.out.trans (hb.mono HB0.out.size))
  have HL1 := Lib.hid (show LRs w1 w1.heap.size A1 al from ⟨hcl, fun q hq => by
    rw [← HAL.out] at hq
    rcases List.mem_append.1 hq with hq | hq
    · exact ((HLN.out.on HB1.out).2 q hq)
    · exact ((HLL.out.on HB1.out).2 q hq)⟩)
  clear ho hb hcl hc1 hc2 HCON HX0 HS0 HB0 HLN HLL HAL
  have HBA := Lib.hid ((Below.refl w1.heap.size w1).alloc (Nat.le_refl _) (Obj.cells #[.slice A1 al.length c1] 23))
  have HBB := Lib.hid (HBA.out.alloc HBA.out.size (Obj.cells #[.slice none 0 0] 23))
  have HMK := Lib.hid (recMarks_any A1 al c1 _ (HL1.out.on HBB.out) (by omega))
  gi_wp2
  refine ⟨trivial, (callsIn_wide.2 HMK.out).mono ?_⟩
  rintro e w3 ⟨A', c, rfl, hc', hL', ho', hb'⟩
  have HML := Lib.hid (mk_pr_len al)
  obtain ⟨M, hM⟩ : ∃ M, mk (pr al) = M := ⟨_, rfl⟩
  have HSQ := Lib.hid (show w1.heap.size + 2 ≤ w3.heap.size from by have := hb'.size; simp at this; omega)
  have B13 := Lib.hid (show Below (w1.heap.size + 2) ((w1.alloc (Obj.cells #[.slice A1 al.length c1] 23)).alloc (Obj.cells #[.slice none 0 0] 23)) w3 from hb'.mono (by simp))
  have XA := Lib.hid (show Boxed w3 w1.heap.size 23 (.slice A1 al.length c1) from box_below ((Boxed.new w1 23 (.slice A1 al.length c1)).alloc (Obj.cells #[.slice none 0 0] 23)) B13.out (by omega))
  have XO := Lib.hid (show Boxed w3 (w1.heap.size + 1) 23 (.slice none 0 0) from by
    have := Boxed.new (w1.alloc (Obj.cells #[.slice A1 al.length c1] 23)) 23 (.slice none 0 0)
    rw [World.size_alloc] at this
    exact box_below this B13.out (by omega))
  have B3 := Lib.hid (HBB.out.trans (hb'.mono HBB.out.size))
  rw [hM] at HCH hL' ho' HML
  have HLOC := Lib.hid (show M = [] ∨ ∃ g, A' = some ⟨g, 0, none⟩ ∧ w1.heap.size + 2 ≤ g ∧ g < w3.heap.size from by
    rcases ho'.2 with ⟨e, h0⟩ | ⟨g, cap, cur, e, hb, hh, _⟩
    · unfold Dep.slV at e
      injection e with e1 e2 e3
      exact .inl (List.eq_nil_of_length_eq_zero e2)
    · unfold Dep.slV at e
      injection e with e1 e2 e3
      exact .inr ⟨g, e1, by simpa using hb, (Array.getElem?_eq_some_iff.1 hh).1⟩)
  have HLS := Lib.hid hL'
  rw [hM]
  unfold Dep.slV
  clear hM hc' hL' ho' hb' HMK HBA B13
  gi_wp2_with (refine ⟨trivial, ?_⟩; gi_at_call 89; refine (Dep.keysOf_in _ _ _ _ _).mono ?_; rintro e w' ⟨rfl, rfl⟩)
  have BSA := (((Below.refl w3.heap.size w3).alloc (Nat.le_refl _) (Obj.cells #[.slice A' M.length c] 22)).alloc (by simp) (Obj.cells #[.slice (some ⟨w3.heap.size, 0, none⟩) 1 1] 83))
  have HSS := Lib.hid (show w3.heap.size + 2 = ((w3.alloc (Obj.cells #[.slice A' M.length c] 22)).alloc (Obj.cells #[.slice (some ⟨w3.heap.size, 0, none⟩) 1 1] 83)).heap.size by simp)
  have HBN := Lib.hid (show ((w3.alloc (Obj.cells #[.slice A' M.length c] 22)).alloc (Obj.cells #[.slice (some ⟨w3.heap.size, 0, none⟩) 1 1] 83)).cell? ⟨w3.heap.size + 1, 0, none⟩ = some (.slice (some ⟨w3.heap.size, 0, none⟩) 1 1) from by
    have := (Boxed.new (w3.alloc (Obj.cells #[.slice A' M.length c] 22)) 83 (.slice (some ⟨w3.heap.size, 0, none⟩) 1 1)).cell
    rwa [World.size_alloc] at this)
  have HLI := Lib.hid (show Lists ((w3.alloc (Obj.cells #[.slice A' M.length c] 22)).alloc (Obj.cells #[.slice (some ⟨w3.heap.size, 0, none⟩) 1 1] 83)) ((w3.alloc (Obj.cells #[.slice A' M.length c] 22)).alloc (Obj.cells #[.slice (some ⟨w3.heap.size, 0, none⟩) 1 1] 83)).heap.size ⟨w3.heap.size, 0, none⟩ [⟨A', M, c⟩] from by
    refine ⟨by simp; omega, fun j hj => ?_, fun j hj => ?_⟩
    · obtain rfl : j = 0 := by simp at hj; omega
      exact ((Boxed.new w3 22 (.slice A' M.length c)).alloc _).cell
    · obtain rfl : j = 0 := by simp at hj; omega
      exact (HLS.out.below BSA (Nat.le_refl _)).more BSA.size)
  have XA := Lib.hid ((XA.out.alloc (Obj.cells #[.slice A' M.length c] 22)).alloc (Obj.cells #[.slice (some ⟨w3.heap.size, 0, none⟩) 1 1] 83))
  have XO := Lib.hid ((XO.out.alloc (Obj.cells #[.slice A' M.length c] 22)).alloc (Obj.cells #[.slice (some ⟨w3.heap.size, 0, none⟩) 1 1] 83))
  have B3 := Lib.hid (B3.out.trans (BSA.mono B3.out.size))
  clear BSA HLS HBB
  generalize (w3.alloc (Obj.cells #[.slice A' M.length c] 22)).alloc (Obj.cells #[.slice (some ⟨w3.heap.size, 0, none⟩) 1 1] 83) = S at HSS HBN HLI XA XO B3 ⊢
  have HLT := Lib.hid (show w1.heap.size + 1 + 1 ≤ S.heap.size from by have := HSS.out; have := HSQ.out; omega)
  have HRA := Lib.hid (fun (key : ByteArray) V (hV : Below (w1.heap.size + 1) S V) => recAt_any A1 al c1 key V (HL1.out.on (B3.out.trans (hV.mono (by omega)))) (by omega))
  have hss := HSS.out
  have hsq := HSQ.out
  refine wpIn_rangeFunc_ownG (w := S) rfl (show 1 ≤ 3 by omega) (gf := 104) (lb := #[.pointer (some ⟨w3.heap.size + 1, 0, none⟩)]) (by simp [go_sem]) trivial (enters_of Try.func104 (by kernel_rfl) rfl)
    (Dep.keysK_stops 2 (by omega) (w3.heap.size + 1) (KMid (w1.heap.size + 1) (w1.heap.size + 1 + 1) S.heap.size) ⟨w3.heap.size, 0, none⟩ [⟨A', M, c⟩] 1 ks (by unfold Dep.allOf; simpa using HCH.out) (by simp) (fun j hj => by
      obtain rfl : j = 0 := by simp at hj; omega
      show M.length ≤ maxLen
      have := HML.out; unfold maxLen; omega)
      (fun X Y hXY hX => by
        refine ⟨Nat.lt_of_lt_of_le hX.1 hXY.1.size, fun j hj => ?_, fun j hj => ?_⟩
        · obtain rfl : j = 0 := by simp at hj; omega
          exact (World.cell?_of_block (hXY.2 w3.heap.size (by omega) (by omega))).trans (hX.2.1 0 (by simp))
        · obtain rfl : j = 0 := by simp at hj; omega
          rcases HLOC.out with e | ⟨g, e, h1, h2⟩
          · show Dep.Lies _ _ A' M
            rw [e]; exact fun h0 => absurd h0 (by simp)
          · intro h0
            obtain ⟨ad, e2, hb2, hat⟩ := hX.2.2 0 (by simp) h0
            have e3 : ad = ⟨g, 0, none⟩ := by have := e2.symm.trans e; injection this
            subst e3
            exact ⟨_, e2, Nat.lt_of_lt_of_le hb2 hXY.1.size, fun i hi => (hat i hi).keep fun p hp => World.cell?_of_block (by rw [hp, Dep.add_block]; exact hXY.2 g (by omega) (by omega))⟩)
      (fun X Y hXY hX => (World.cell?_of_block (hXY.2 (w3.heap.size + 1) (by omega) (by omega))).trans hX)
      S HBN.out HLI.out)
    KMid.trans (KMid.put (by omega) (Nat.le_refl _)) (Below.refl _ _) (fun _ => rfl)
    (InvR S (w1.heap.size + 1) al) (fun _ _ _ => False) (InvR.own (by omega)) (fun _ _ _ _ _ h => h.elim) ⟨⟨_, XO.out, o_nil _ _ _ _⟩, Below.refl _ _⟩
    (fun x => { tmps := #[.slice A l.length ca, .slice B news.length cb, undef, undef, .slice none 0 0, .pointer (some ⟨w1.heap.size, 0, none⟩), .pointer (some ⟨w1.heap.size + 1, 0, none⟩), .string x.1, .slice B news.length cb, .slice A l.length ca, .slice (some ⟨w.heap.size, 0, none⟩) 2 2, .slice A1 al.length c1, .slice A1 al.length c1, .slice A' M.length c, .slice (some ⟨w3.heap.size, 0, none⟩) 1 1, .func (.func 104) #[] #[.pointer (some ⟨w3.heap.size + 1, 0, none⟩)], .string x.1, undef, undef, undef, undef, undef, undef, undef], defers := [] }) ?assign ?body ?done ?stop
  case assign =>
    intro l x W K hK
    gi_wp2
    exact hK
  case body =>
    intro l pre x W hI hlt
    have HRA := Lib.hid (HRA.out x.1)
    obtain ⟨⟨r, p⟩, hq⟩ : ∃ q, atQ al x.1 = q := ⟨_, rfl⟩
    have HQ := Lib.hid hq
    rw [hq] at HRA
    clear hq
    unfold recV at HRA
    obtain ⟨⟨v, hD, hO⟩, hBW⟩ := hI
    have BW := Lib.hid hBW
    have BS := Lib.hid (show Below (w1.heap.size + 1) S W.drew from hBW.drew)
    have X := Lib.hid (show Boxed W.drew w1.heap.size 23 (.slice A1 al.length c1) from (show Boxed W w1.heap.size 23 (.slice A1 al.length c1) from box_below XA.out hBW (by omega)))
    have D := Lib.hid (show Boxed W.drew (w1.heap.size + 1) 23 v from hD)
    have O := Lib.hid (show W.drew.ownsRow S.heap.size 61 8 v pre.length (rv (pre.map fun k => atQ al k.1)) from hO)
    clear hD hO hBW hss hsq
    gi_wp2
    refine regionIn_held (S := fun V => Boxed V w1.heap.size 23 (.slice A1 al.length c1)) (by kernel_rfl) (noDefer_of (by kernel_rfl)) X.out (fun hHeld => ?_)
    refine wpAnyH_take (i := 1) (v := ?_) rfl (by kernel_rfl) (by kernel_rfl) (by kernel_rfl) (fun _ _ _ h => h) (Or.inl ⟨by rfl, ?_⟩) hHeld ?_
    rotate_left
    · intro V hSw
      have hs1 := Boxed.cell hSw
      go_simp
      try with_reducible rfl
    try simp only [Act.put, List.setIfInBounds_toArray, List.set_cons_zero, List.set_cons_succ, List.getElem_toArray, List.getElem_cons_succ, List.getElem_cons_zero]
    refine wpAnyH_take (i := 2) (v := ?_) rfl (by kernel_rfl) (by kernel_rfl) (by kernel_rfl) (fun _ _ _ h => h) (Or.inl ⟨by rfl, ?_⟩) hHeld ?_
    rotate_left
    · intro V hSw
      have hs1 := Boxed.cell hSw
      go_simp
      try with_reducible rfl
    try simp only [Act.put, List.setIfInBounds_toArray, List.set_cons_zero, List.set_cons_succ, List.getElem_toArray, List.getElem_cons_succ, List.getElem_cons_zero]
    refine wpAnyH_ready (rs := [0, 3]) (by kernel_rfl) (by simp) ?_
    refine AllReadyH.cons rfl (fun K hK => ?_) (AllReadyH.cons rfl (fun K hK => ?_) AllReadyH.nil)
    · have d0 := D.out.cell
      go_simp
      clear d0
      refine hK.out _ _ ?_ (fun hHeld => ?_)
      · exact X.out
      clear hK K
      try simp only [Act.put, List.setIfInBounds_toArray, List.set_cons_zero, List.set_cons_succ, List.getElem_toArray, List.getElem_cons_succ, List.getElem_cons_zero]
      refine wpAnyH_ready (rs := [3]) (by kernel_rfl) (by simp) ?_
      refine AllReadyH.cons rfl (fun K hK => ?_) AllReadyH.nil
      go_simp
      refine (HRA.out _ BS.out).mono ?_
      rintro e w5 ⟨rfl, hb5⟩
      have X := Lib.hid (box_below X.out hb5 X.out.lt)
      have D := Lib.hid (box_below D.out hb5 D.out.lt)
      have O := Lib.hid (o_step O.out hb5 (Nat.le_refl _))
      have B1 := Lib.hid (show Below W.heap.size W w5 from (show Below W.heap.size W W.drew from (Below.refl _ W).drew).trans hb5)
      have BS := Lib.hid (BS.out.trans (hb5.mono (by have := BS.out.size; have := HLT.out; omega)))
      have Z := Lib.hid (show S.heap.size ≤ w5.heap.size from BS.out.size)
      clear hb5
      have XW := X
      have DW := D
      refine hK.out _ _ ?_ (fun hHeld => ?_)
      · exact X.out
      clear hK K
      try simp only [Act.put, List.setIfInBounds_toArray, List.set_cons_zero, List.set_cons_succ, List.getElem_toArray, List.getElem_cons_succ, List.getElem_cons_zero]
      refine wpAnyH_ready (rs := [4]) (by kernel_rfl) (by simp) ?_
      refine AllReadyH.cons rfl (fun K hK => ?_) AllReadyH.nil
      go_simp
      have X := Lib.hid (X.out.alloc (Obj.cells (cellsV r p) 61))
      have D := Lib.hid (D.out.alloc (Obj.cells (cellsV r p) 61))
      have O := Lib.hid (o_alloc O.out (Obj.cells (cellsV r p) 61))
      have BZ := Lib.hid (show w5.heap.size + 1 = (w5.alloc (Obj.cells (cellsV r p) 61)).heap.size by simp)
      have HAL := Lib.hid (show Below w5.heap.size w5 (w5.alloc (Obj.cells (cellsV r p) 61)) from (Below.refl _ _).alloc (Nat.le_refl _) _)
      refine hK.out _ _ ?_ (fun hHeld => ?_)
      · exact X.out
      clear hK K
      try simp only [Act.put, List.setIfInBounds_toArray, List.set_cons_zero, List.set_cons_succ, List.getElem_toArray, List.getElem_cons_succ, List.getElem_cons_zero]
      refine wpAnyH_ready (rs := [5]) (by kernel_rfl) (by simp) ?_
      refine AllReadyH.cons rfl (fun K hK => ?_) AllReadyH.nil
      refine wanted_in (by rfl) ?_
      refine wp_app fit_recs rfl rfl (rv [⟨r, p⟩]) rfl rfl O.out (cl_rec w5 r p rfl) rfl (rv_one _) (by omega) (Nat.le_trans Z.out (by simp)) ?_
      intro v2 w2 ho2 hg2 hn2
      obtain ⟨A2, c2, rfl, -⟩ := o_val ho2
      have K2 := Lib.hid (keepsR hg2 O.out)
      have B2 := Lib.hid (show Below S.heap.size w5 w2 from (HAL.out.mono Z.out).grown hg2 (Nat.le_trans Z.out (by simp)) (o_base O.out))
      have X := Lib.hid (box_below (W := w5) (show Boxed w5 _ _ _ from XW.out) B2.out (by have := HLT.out; omega))
      have D := Lib.hid (box_below (W := w5) (show Boxed w5 _ _ _ from DW.out) B2.out (by have := HLT.out; omega))
      have O2 := Lib.hid ho2
      clear ho2 hg2 hn2
      refine hK.out _ _ ?_ (fun hHeld => ?_)
      · exact X.out
      clear hK K
      try simp only [Act.put, List.setIfInBounds_toArray, List.set_cons_zero, List.set_cons_succ, List.getElem_toArray, List.getElem_cons_succ, List.getElem_cons_zero]
      refine wpAnyH_ready (rs := [6]) (by kernel_rfl) (by simp) ?_
      refine AllReadyH.cons rfl (fun K hK => ?_) AllReadyH.nil
      have d2 := D.out.cell
      have f2 := D.out.frozen
      go_simp
      clear d2 f2
      have X := Lib.hid (Boxed.other X.out (B' := w1.heap.size + 1) (by omega) (.slice A2 (pre.length + 1) c2))
      refine hK.out _ _ ?_ (fun hHeld => ?_)
      · exact X.out
      clear hK K
      try simp only [Act.put, List.setIfInBounds_toArray, List.set_cons_zero, List.set_cons_succ, List.getElem_toArray, List.getElem_cons_succ, List.getElem_cons_zero]
      refine wpAnyH_done (by kernel_rfl) ?_ _
      simp only [OnlyN, Exit.inBlock]
      gi_wp2
      exact round_endR HLT.out rfl HQ.out B1.out HAL.out K2.out B2.out O2.out D.out BW.out
    · go_simp
      refine (HRA.out _ BS.out).mono ?_
      rintro e w5 ⟨rfl, hb5⟩
      have X := Lib.hid (box_below X.out hb5 X.out.lt)
      have D := Lib.hid (box_below D.out hb5 D.out.lt)
      have O := Lib.hid (o_step O.out hb5 (Nat.le_refl _))
      have B1 := Lib.hid (show Below W.heap.size W w5 from (show Below W.heap.size W W.drew from (Below.refl _ W).drew).trans hb5)
      have BS := Lib.hid (BS.out.trans (hb5.mono (by have := BS.out.size; have := HLT.out; omega)))
      have Z := Lib.hid (show S.heap.size ≤ w5.heap.size from BS.out.size)
      clear hb5
      have XW := X
      have DW := D
      refine hK.out _ _ ?_ (fun hHeld => ?_)
      · exact X.out
      clear hK K
      try simp only [Act.put, List.setIfInBounds_toArray, List.set_cons_zero, List.set_cons_succ, List.getElem_toArray, List.getElem_cons_succ, List.getElem_cons_zero]
      refine wpAnyH_ready (rs := [0, 4]) (by kernel_rfl) (by simp) ?_
      refine AllReadyH.cons rfl (fun K hK => ?_) (AllReadyH.cons rfl (fun K hK => ?_) AllReadyH.nil)
      · have d0 := D.out.cell
        go_simp
        clear d0
        refine hK.out _ _ ?_ (fun hHeld => ?_)
        · exact X.out
        clear hK K
        try simp only [Act.put, List.setIfInBounds_toArray, List.set_cons_zero, List.set_cons_succ, List.getElem_toArray, List.getElem_cons_succ, List.getElem_cons_zero]
        refine wpAnyH_ready (rs := [4]) (by kernel_rfl) (by simp) ?_
        refine AllReadyH.cons rfl (fun K hK => ?_) AllReadyH.nil
        go_simp
        have X := Lib.hid (X.out.alloc (Obj.cells (cellsV r p) 61))
        have D := Lib.hid (D.out.alloc (Obj.cells (cellsV r p) 61))
        have O := Lib.hid (o_alloc O.out (Obj.cells (cellsV r p) 61))
        have BZ := Lib.hid (show w5.heap.size + 1 = (w5.alloc (Obj.cells (cellsV r p) 61)).heap.size by simp)
        have HAL := Lib.hid (show Below w5.heap.size w5 (w5.alloc (Obj.cells (cellsV r p) 61)) from (Below.refl _ _).alloc (Nat.le_refl _) _)
        refine hK.out _ _ ?_ (fun hHeld => ?_)
        · exact X.out
        clear hK K
        try simp only [Act.put, List.setIfInBounds_toArray, List.set_cons_zero, List.set_cons_succ, List.getElem_toArray, List.getElem_cons_succ, List.getElem_cons_zero]
        refine wpAnyH_ready (rs := [5]) (by kernel_rfl) (by simp) ?_
        refine AllReadyH.cons rfl (fun K hK => ?_) AllReadyH.nil
        refine wanted_in (by rfl) ?_
        refine wp_app fit_recs rfl rfl (rv [⟨r, p⟩]) rfl rfl O.out (cl_rec w5 r p rfl) rfl (rv_one _) (by omega) (Nat.le_trans Z.out (by simp)) ?_
        intro v2 w2 ho2 hg2 hn2
        obtain ⟨A2, c2, rfl, -⟩ := o_val ho2
        have K2 := Lib.hid (keepsR hg2 O.out)
        have B2 := Lib.hid (show Below S.heap.size w5 w2 from (HAL.out.mono Z.out).grown hg2 (Nat.le_trans Z.out (by simp)) (o_base O.out))
        have X := Lib.hid (box_below (W := w5) (show Boxed w5 _ _ _ from XW.out) B2.out (by have := HLT.out; omega))
        have D := Lib.hid (box_below (W := w5) (show Boxed w5 _ _ _ from DW.out) B2.out (by have := HLT.out; omega))
        have O2 := Lib.hid ho2
        clear ho2 hg2 hn2
        refine hK.out _ _ ?_ (fun hHeld => ?_)
        · exact X.out
        clear hK K
        try simp only [Act.put, List.setIfInBounds_toArray, List.set_cons_zero, List.set_cons_succ, List.getElem_toArray, List.getElem_cons_succ, List.getElem_cons_zero]
        refine wpAnyH_ready (rs := [6]) (by kernel_rfl) (by simp) ?_
        refine AllReadyH.cons rfl (fun K hK => ?_) AllReadyH.nil
        have d2 := D.out.cell
        have f2 := D.out.frozen
        go_simp
        clear d2 f2
        have X := Lib.hid (Boxed.other X.out (B' := w1.heap.size + 1) (by omega) (.slice A2 (pre.length + 1) c2))
        refine hK.out _ _ ?_ (fun hHeld => ?_)
        · exact X.out
        clear hK K
        try simp only [Act.put, List.setIfInBounds_toArray, List.set_cons_zero, List.set_cons_succ, List.getElem_toArray, List.getElem_cons_succ, List.getElem_cons_zero]
        refine wpAnyH_done (by kernel_rfl) ?_ _
        simp only [OnlyN, Exit.inBlock]
        gi_wp2
        exact round_endR HLT.out rfl HQ.out B1.out HAL.out K2.out B2.out O2.out D.out BW.out
      · go_simp
        have X := Lib.hid (X.out.alloc (Obj.cells (cellsV r p) 61))
        have D := Lib.hid (D.out.alloc (Obj.cells (cellsV r p) 61))
        have O := Lib.hid (o_alloc O.out (Obj.cells (cellsV r p) 61))
        have BZ := Lib.hid (show w5.heap.size + 1 = (w5.alloc (Obj.cells (cellsV r p) 61)).heap.size by simp)
        have HAL := Lib.hid (show Below w5.heap.size w5 (w5.alloc (Obj.cells (cellsV r p) 61)) from (Below.refl _ _).alloc (Nat.le_refl _) _)
        refine hK.out _ _ ?_ (fun hHeld => ?_)
        · exact X.out
        clear hK K
        try simp only [Act.put, List.setIfInBounds_toArray, List.set_cons_zero, List.set_cons_succ, List.getElem_toArray, List.getElem_cons_succ, List.getElem_cons_zero]
        refine wpAnyH_ready (rs := [0]) (by kernel_rfl) (by simp) ?_
        refine AllReadyH.cons rfl (fun K hK => ?_) AllReadyH.nil
        have d0 := D.out.cell
        go_simp
        clear d0
        refine hK.out _ _ ?_ (fun hHeld => ?_)
        · exact X.out
        clear hK K
        try simp only [Act.put, List.setIfInBounds_toArray, List.set_cons_zero, List.set_cons_succ, List.getElem_toArray, List.getElem_cons_succ, List.getElem_cons_zero]
        refine wpAnyH_ready (rs := [5]) (by kernel_rfl) (by simp) ?_
        refine AllReadyH.cons rfl (fun K hK => ?_) AllReadyH.nil
        refine wanted_in (by rfl) ?_
        refine wp_app fit_recs rfl rfl (rv [⟨r, p⟩]) rfl rfl O.out (cl_rec w5 r p rfl) rfl (rv_one _) (by omega) (Nat.le_trans Z.out (by simp)) ?_
        intro v2 w2 ho2 hg2 hn2
        obtain ⟨A2, c2, rfl, -⟩ := o_val ho2
        have K2 := Lib.hid (keepsR hg2 O.out)
        have B2 := Lib.hid (show Below S.heap.size w5 w2 from (HAL.out.mono Z.out).grown hg2 (Nat.le_trans Z.out (by simp)) (o_base O.out))
        have X := Lib.hid (box_below (W := w5) (show Boxed w5 _ _ _ from XW.out) B2.out (by have := HLT.out; omega))
        have D := Lib.hid (box_below (W := w5) (show Boxed w5 _ _ _ from DW.out) B2.out (by have := HLT.out; omega))
        have O2 := Lib.hid ho2
        clear ho2 hg2 hn2
        refine hK.out _ _ ?_ (fun hHeld => ?_)
        · exact X.out
        clear hK K
        try simp only [Act.put, List.setIfInBounds_toArray, List.set_cons_zero, List.set_cons_succ, List.getElem_toArray, List.getElem_cons_succ, List.getElem_cons_zero]
        refine wpAnyH_ready (rs := [6]) (by kernel_rfl) (by simp) ?_
        refine AllReadyH.cons rfl (fun K hK => ?_) AllReadyH.nil
        have d2 := D.out.cell
        have f2 := D.out.frozen
        go_simp
        clear d2 f2
        have X := Lib.hid (Boxed.other X.out (B' := w1.heap.size + 1) (by omega) (.slice A2 (pre.length + 1) c2))
        refine hK.out _ _ ?_ (fun hHeld => ?_)
        · exact X.out
        clear hK K
        try simp only [Act.put, List.setIfInBounds_toArray, List.set_cons_zero, List.set_cons_succ, List.getElem_toArray, List.getElem_cons_succ, List.getElem_cons_zero]
        refine wpAnyH_done (by kernel_rfl) ?_ _
        simp only [OnlyN, Exit.inBlock]
        gi_wp2
        exact round_endR HLT.out rfl HQ.out B1.out HAL.out K2.out B2.out O2.out D.out BW.out
  case done =>
    rintro DD xs W hD rfl ⟨⟨v, hX, hO⟩, hB⟩ hK
    have d0 := hX.cell
    have HO := Lib.hid hO
    have HB := Lib.hid hB
    clear hX hO hB
    have HKK := Lib.hid hK
    gi_wp2
    have hnr : ∀ r, some DD = some r → ∃ o : Obj, W.heap[r]? = some o ∧ o.isCells = false := fun r e => by cases e; exact ⟨_, HKK.out, rfl⟩
    refine ⟨by simp, .inl ⟨_, _, rfl, run_takeDeferred HKK.out, ?_⟩⟩
    refine ⟨v, by simp [results, Try.results67, go_sem], v, rfl, ?_, ?_⟩
    · exact o_less (ownR_kept (grownBy_putObj' _ DD (.deferred none)) hnr HO.out) (by have := HB1.out.size; omega)
    · exact (HB1.out.trans (((B3.out.trans (HB.out.mono (show w1.heap.size ≤ w1.heap.size + 1 by omega))).trans (belowK_b (w := S) (show w1.heap.size ≤ S.heap.size by omega) _ DD _ (.deferred none) hD HKK.out rfl rfl)).mono HB1.out.size))
  case stop =>
    rintro DD c pre W hD hp h hK
    exact h.elim
end Go.Proofs.Ytegnjbdgeibhfaa.Rs
