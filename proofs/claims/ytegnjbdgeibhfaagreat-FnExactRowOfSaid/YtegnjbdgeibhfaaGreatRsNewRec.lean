/-
  strings.Clone, impl.newTexts, impl.newRec; spec.l04Copy: a record in new memory.
-/
import Derived.Test.YtegnjbdgeibhfaaGreatRsSeen
import Derived.Test.YtegnjbdgeibhfaaGreatShelf
import Derived.Test.YtegnjbdgeibhfaaGreatPackJoin
namespace Go.Proofs.YtegnjbdgeibhfaaGreat.Rs
open Go.ChangeShapes Go.WideShapes Go.ChangeAt Go.RowKit
open Rec (R P Sound recV cellsV recB)
open Net (Cl Bk HeldV)
open Dep (D I depsB)
set_option linter.unusedVariables false
set_option maxRecDepth 100000
set_option linter.unusedSimpArgs false

theorem clone_any (s : ByteArray) (w : World) (hs : s.size ≤ 1048576) : Calls Tryz.prog 127 #[.string s] w fun e w' => e = .returned (.string s) ∧ Below w.heap.size w w' := by
  go_enter Tryz.func127, Tryz.ntmps127
  go_wp2_with fail
  refine (Tryz.stringslite_Clone s _ (by omega)).mono ?_
  rintro e w1 ⟨rfl, hb⟩
  go_wp2_with fail
  go_ret
  exact ⟨rfl, hb⟩

/-- Strings, as cells. -/
def tv (l : List ByteArray) : List Value := l.map .string
theorem tv_len (l : List ByteArray) : (tv l).length = l.length := by simp [tv]
theorem tv_append (a b : List ByteArray) : tv (a ++ b) = tv a ++ tv b := by simp [tv]
theorem tv_one (l : List ByteArray) : ∀ u ∈ tv l, u.oneCell' = true := by
  intro u hu
  obtain ⟨x, _, rfl⟩ := List.mem_map.1 hu
  rfl
theorem text_info : (Tryz.prog.info? 9).map (fun i => (i.zero, i.size, i.bytes)) = some (some (.string ⟨#[]⟩), 1, 16) := by kernel_rfl
theorem fit_texts : AppFit 29 9 1 := by
  obtain ⟨i0, hi0, hz0, hz1, hz2⟩ := info_parts text_info
  exact ⟨Tryz.underlying29, by omega, i0, _, hi0, hz0, hz1, by rw [hz2]; omega, rfl⟩
theorem texts_own {w : World} {base n : Nat} {v : Value} {l : List ByteArray} (h : w.ownsRow base 9 1 v n (tv l)) :
    n = l.length ∧ ∃ A c, v = .slice A l.length c ∧ l.length ≤ c ∧ Str.Held w A l base w.heap.size := by
  have hn : n = l.length := by have := h.1; rw [tv_len] at this; omega
  refine ⟨hn, ?_⟩
  subst hn
  rcases h.2 with ⟨rfl, h0⟩ | ⟨g, cap, cur, rfl, hb, hh, hnc, hcm, hsz, hx⟩
  · exact ⟨none, 0, by rw [h0], by omega, .inl ⟨rfl, List.eq_nil_of_length_eq_zero h0⟩⟩
  · refine ⟨_, cap, rfl, hnc, .inr ⟨g, rfl, ⟨cur, hh, by omega, fun j hj => ?_⟩, hb, (Array.getElem?_eq_some_iff.1 hh).1⟩⟩
    have e : (tv l)[j]? = some (.string l[j]) := by simp [tv, hj]
    rw [← hx, List.getElem?_take, if_pos (by omega)] at e
    rw [← Array.getElem?_toList]
    exact e
theorem texts_cl {w : World} {B : Nat} {A : Option Addr} {l : List ByteArray} (h : Str.Lies w B A l) : Cl w B A (tv l) := fun h0 => by
  rw [tv_len] at h0
  obtain ⟨ad, e, hb, hc⟩ := h h0
  refine ⟨ad, e, hb, fun j u hu => ?_⟩
  have hj : j < l.length := by have := (List.getElem?_eq_some_iff.1 hu).1; rwa [tv_len] at this
  have e2 : (tv l)[j]? = some (.string l[j]) := by simp [tv, hj]
  rw [e2] at hu
  cases hu
  exact hc j hj
theorem tv_step (l : List ByteArray) (k : Nat) (h : k < l.length) : tv (l.take (k + 1)) = tv (l.take k) ++ tv [l[k]] := by rw [take_snoc l k h, tv_append]

set_option maxHeartbeats 2000000 in
theorem newTexts_any (A : Option Addr) (l : List ByteArray) (cap : Nat) (w : World) (h : Str.Lies w w.heap.size A l) (hl : l.length ≤ 1000000) (hk : ∀ x ∈ l, x.size ≤ 1048576) :
    Calls Tryz.prog 128 #[.slice A l.length cap] w fun e w' => ∃ A' c, e = .returned (.slice A' l.length c) ∧ Str.Held w' A' l w.heap.size w'.heap.size ∧ Below w.heap.size w w' := by
  have H := Lib.hid h
  have HK := Lib.hid hk
  clear h hk
  go_enter Tryz.func128, Tryz.ntmps128
  go_wp2_with fail
  go_loopw [3, 8] (fun o i wr => ∃ k : Nat, k ≤ l.length ∧ i = .int .i64 k ∧ Hid (wr.ownsRow w.heap.size 9 1 o k (tv (l.take k)) ∧ Below w.heap.size w wr)) (fun _ i _ => l.length - (intOf i).toNat)
  case atStart => exact ⟨0, by omega, rfl, Lib.hid ⟨o_nil _ _ _ _, Below.refl _ _⟩⟩
  case round =>
    obtain ⟨k, hk, rfl, HR⟩ := hrel
    by_cases hlt : k < l.length
    · obtain ⟨ad, rfl, _, c0⟩ := (H.out.below HR.out.2 (Nat.le_refl _)).at_ hlt
      have HST := Lib.hid (tv_step l k hlt)
      have hxs := HK.out l[k] (List.getElem_mem hlt)
      obtain ⟨x, hx⟩ : ∃ x, l[k] = x := ⟨_, rfl⟩
      rw [hx] at c0 HST hxs
      clear hx
      have HC := Lib.hid (fun W => clone_any x W hxs)
      clear hxs
      go_wp2_with fail
      refine (HC.out _).mono ?_
      rintro e w1 ⟨rfl, hb⟩
      have O1 := Lib.hid (o_step HR.out.1 hb (Nat.le_refl _))
      have B1 := Lib.hid (HR.out.2.trans (hb.mono HR.out.2.size))
      clear hb c0
      go_wp2_with (at_builtin; refine wpList_app fit_texts rfl rfl rfl (tv [x]) rfl rfl (o_alloc O1.out (Obj.cells #[.string x] 9)) (cl_one_at w1 9 #[.string x] rfl) rfl (tv_one _) (by omega) (by have := B1.out.size; simp; omega) ?_; intro v2 W2 ho2 hg2 hn2; have hBg := (B1.out.alloc B1.out.size (Obj.cells #[.string x] 9)).grown hg2 (by have := B1.out.size; simp; omega) (o_base O1.out); have B2 := Lib.hid hBg; rw [← HST.out] at ho2; have O2 := Lib.hid ho2; clear ho2 hg2 hn2 hBg)
      go_roundw
      case rel => exact ⟨k + 1, by omega, by go_num, Lib.hid ⟨O2.out, B2.out⟩⟩
      case measure => simp [intOf]; omega
    · have e : k = l.length := by omega
      have HE := Lib.hid (show l.take k = l from List.take_of_length_le (by omega))
      go_wp2_with fail
      go_ret
      have h1 := HR.out.1
      rw [HE.out] at h1
      obtain ⟨hn, A', c, ev, hc, hh⟩ := texts_own h1
      exact ⟨A', c, by rw [← ev]; rfl, hh, HR.out.2⟩

set_option maxHeartbeats 8000000 in
set_option maxRecDepth 100000 in
theorem newRec_any (r : R) (p : P) (w : World) (h : Rec.Lies w w.heap.size r p) (hk : r.k.size ≤ 1048576) (hd : r.d.size ≤ 1048576) (hl : depsB r.l = true) (hb : r.b.length ≤ 1000000) (hbk : ∀ x ∈ r.b, x.size ≤ 1048576) :
    Calls Tryz.prog 66 #[recV r p] w fun e w' => ∃ p', e = .returned (recV r p') ∧ Rec.Held w' r p' w.heap.size w'.heap.size ∧ Below w.heap.size w w' := by
  have HJ := Lib.hid (fun W nb (hW : Below w.heap.size w W) (ho : Blk W nb 28 #[Value.slice p.A r.l.length p.ca]) => Dep.one_at p.A r.l p.ca nb W ((h.1.below hW (Nat.le_refl _)).more hW.size) hl ho)
  have HT := Lib.hid (fun W (hW : Below w.heap.size w W) => newTexts_any p.B r.b p.cb W ((h.2.below hW (Nat.le_refl _)).more hW.size) hb hbk)
  have HA := Lib.hid ((Blk.new w 31 (cellsV r p)).alloc (Obj.cells Rec.zeroV 31))
  have hc0 := Blk.new (w.alloc (Obj.cells (cellsV r p) 31)) 31 Rec.zeroV
  rw [World.size_alloc] at hc0
  have HC0 := Lib.hid hc0
  have HB := Lib.hid (((Below.refl w.heap.size w).alloc (Nat.le_refl _) (Obj.cells (cellsV r p) 31)).alloc (by simp) (Obj.cells Rec.zeroV 31))
  have HZ := Lib.hid (show w.heap.size + 2 ≤ ((w.alloc (Obj.cells (cellsV r p) 31)).alloc (Obj.cells Rec.zeroV 31)).heap.size by simp)
  clear h hl hb hbk hc0
  unfold recV
  go_enter Tryz.func66, Tryz.ntmps66
  go_wp2_with fail
  generalize World.alloc (World.alloc w _) _ = W1 at HA HC0 HB HZ ⊢
  refine wp_region_held_drew (S := (fun W => Blk W w.heap.size 31 (cellsV r p) ∧ Below w.heap.size w W ∧ w.heap.size + 2 ≤ W.heap.size)) (by kernel_rfl) ?_ (fun hHeld => ?_)
  · exact ⟨HA.out, HB.out.drew, HZ.out⟩
  have HC := Lib.hid (show Blk (World.drew W1) (w.heap.size + 1) 31 Rec.zeroV from HC0.out)
  refine wpAnyH_take (i := 0) (v := ?_) rfl (by kernel_rfl) (by kernel_rfl) (by kernel_rfl) (fun _ _ _ h => h) (Or.inl ⟨by rfl, ?_⟩) hHeld ?_
  rotate_left
  · intro W hSw
    obtain ⟨q1, _, _⟩ := hSw
    obtain ⟨hs1, hs2, hs3, hs4, hs5, hs6, hs7, hs8⟩ := Rec.cells8 q1
    go_simp
    try with_reducible rfl
  try simp only [Act.put, List.setIfInBounds_toArray, List.set_cons_zero, List.set_cons_succ, List.getElem_toArray, List.getElem_cons_zero]
  refine wpAnyH_take (i := 1) (v := ?_) rfl (by kernel_rfl) (by kernel_rfl) (by kernel_rfl) (fun _ _ _ h => h) (Or.inl ⟨by rfl, ?_⟩) hHeld ?_
  rotate_left
  · intro W hSw
    obtain ⟨q1, _, _⟩ := hSw
    obtain ⟨hs1, hs2, hs3, hs4, hs5, hs6, hs7, hs8⟩ := Rec.cells8 q1
    go_simp
    try with_reducible rfl
  try simp only [Act.put, List.setIfInBounds_toArray, List.set_cons_zero, List.set_cons_succ, List.getElem_toArray, List.getElem_cons_succ, List.getElem_cons_zero]
  refine wpAnyH_take (i := 3) (v := ?_) rfl (by kernel_rfl) (by kernel_rfl) (by kernel_rfl) (fun _ _ _ h => h) (Or.inl ⟨by rfl, ?_⟩) hHeld ?_
  rotate_left
  · intro W hSw
    obtain ⟨q1, _, _⟩ := hSw
    obtain ⟨hs1, hs2, hs3, hs4, hs5, hs6, hs7, hs8⟩ := Rec.cells8 q1
    go_simp
    try with_reducible rfl
  try simp only [Act.put, List.setIfInBounds_toArray, List.set_cons_zero, List.set_cons_succ, List.getElem_toArray, List.getElem_cons_succ, List.getElem_cons_zero]
  refine wpAnyH_take (i := 4) (v := ?_) rfl (by kernel_rfl) (by kernel_rfl) (by kernel_rfl) (fun _ _ _ h => h) (Or.inl ⟨by rfl, ?_⟩) hHeld ?_
  rotate_left
  · intro W hSw
    obtain ⟨q1, _, _⟩ := hSw
    obtain ⟨hs1, hs2, hs3, hs4, hs5, hs6, hs7, hs8⟩ := Rec.cells8 q1
    go_simp
    try with_reducible rfl
  try simp only [Act.put, List.setIfInBounds_toArray, List.set_cons_zero, List.set_cons_succ, List.getElem_toArray, List.getElem_cons_succ, List.getElem_cons_zero]
  refine wpAnyH_take (i := 5) (v := ?_) rfl (by kernel_rfl) (by kernel_rfl) (by kernel_rfl) (fun _ _ _ h => h) (Or.inl ⟨by rfl, ?_⟩) hHeld ?_
  rotate_left
  · intro W hSw
    obtain ⟨q1, _, _⟩ := hSw
    obtain ⟨hs1, hs2, hs3, hs4, hs5, hs6, hs7, hs8⟩ := Rec.cells8 q1
    go_simp
    try with_reducible rfl
  try simp only [Act.put, List.setIfInBounds_toArray, List.set_cons_zero, List.set_cons_succ, List.getElem_toArray, List.getElem_cons_succ, List.getElem_cons_zero]
  refine wpAnyH_take (i := 6) (v := ?_) rfl (by kernel_rfl) (by kernel_rfl) (by kernel_rfl) (fun _ _ _ h => h) (Or.inl ⟨by rfl, ?_⟩) hHeld ?_
  rotate_left
  · intro W hSw
    obtain ⟨q1, _, _⟩ := hSw
    obtain ⟨hs1, hs2, hs3, hs4, hs5, hs6, hs7, hs8⟩ := Rec.cells8 q1
    go_simp
    try with_reducible rfl
  try simp only [Act.put, List.setIfInBounds_toArray, List.set_cons_zero, List.set_cons_succ, List.getElem_toArray, List.getElem_cons_succ, List.getElem_cons_zero]
  refine wpAnyH_take (i := 8) (v := ?_) rfl (by kernel_rfl) (by kernel_rfl) (by kernel_rfl) (fun _ _ _ h => h) (Or.inl ⟨by rfl, ?_⟩) hHeld ?_
  rotate_left
  · intro W hSw
    obtain ⟨q1, _, _⟩ := hSw
    obtain ⟨hs1, hs2, hs3, hs4, hs5, hs6, hs7, hs8⟩ := Rec.cells8 q1
    go_simp
    try with_reducible rfl
  try simp only [Act.put, List.setIfInBounds_toArray, List.set_cons_zero, List.set_cons_succ, List.getElem_toArray, List.getElem_cons_succ, List.getElem_cons_zero]
  refine wpAnyH_take (i := 9) (v := ?_) rfl (by kernel_rfl) (by kernel_rfl) (by kernel_rfl) (fun _ _ _ h => h) (Or.inl ⟨by rfl, ?_⟩) hHeld ?_
  rotate_left
  · intro W hSw
    obtain ⟨q1, _, _⟩ := hSw
    obtain ⟨hs1, hs2, hs3, hs4, hs5, hs6, hs7, hs8⟩ := Rec.cells8 q1
    go_simp
    try with_reducible rfl
  try simp only [Act.put, List.setIfInBounds_toArray, List.set_cons_zero, List.set_cons_succ, List.getElem_toArray, List.getElem_cons_succ, List.getElem_cons_zero]
  refine wpAnyH_take (i := 10) (v := ?_) rfl (by kernel_rfl) (by kernel_rfl) (by kernel_rfl) (fun _ _ _ h => h) (Or.inl ⟨by rfl, ?_⟩) hHeld ?_
  rotate_left
  · intro W hSw
    obtain ⟨q1, _, _⟩ := hSw
    obtain ⟨hs1, hs2, hs3, hs4, hs5, hs6, hs7, hs8⟩ := Rec.cells8 q1
    go_simp
    try with_reducible rfl
  try simp only [Act.put, List.setIfInBounds_toArray, List.set_cons_zero, List.set_cons_succ, List.getElem_toArray, List.getElem_cons_succ, List.getElem_cons_zero]
  refine wpAnyH_take (i := 11) (v := ?_) rfl (by kernel_rfl) (by kernel_rfl) (by kernel_rfl) (fun _ _ _ h => h) (Or.inl ⟨by rfl, ?_⟩) hHeld ?_
  rotate_left
  · intro W hSw
    obtain ⟨q1, _, _⟩ := hSw
    obtain ⟨hs1, hs2, hs3, hs4, hs5, hs6, hs7, hs8⟩ := Rec.cells8 q1
    go_simp
    try with_reducible rfl
  try simp only [Act.put, List.setIfInBounds_toArray, List.set_cons_zero, List.set_cons_succ, List.getElem_toArray, List.getElem_cons_succ, List.getElem_cons_zero]
  refine wpAnyH_take (i := 15) (v := ?_) rfl (by kernel_rfl) (by kernel_rfl) (by kernel_rfl) (fun _ _ _ h => h) (Or.inl ⟨by rfl, ?_⟩) hHeld ?_
  rotate_left
  · intro W hSw
    obtain ⟨q1, _, _⟩ := hSw
    obtain ⟨hs1, hs2, hs3, hs4, hs5, hs6, hs7, hs8⟩ := Rec.cells8 q1
    go_simp
    try with_reducible rfl
  try simp only [Act.put, List.setIfInBounds_toArray, List.set_cons_zero, List.set_cons_succ, List.getElem_toArray, List.getElem_cons_succ, List.getElem_cons_zero]
  refine wpAnyH_take (i := 16) (v := ?_) rfl (by kernel_rfl) (by kernel_rfl) (by kernel_rfl) (fun _ _ _ h => h) (Or.inl ⟨by rfl, ?_⟩) hHeld ?_
  rotate_left
  · intro W hSw
    obtain ⟨q1, _, _⟩ := hSw
    obtain ⟨hs1, hs2, hs3, hs4, hs5, hs6, hs7, hs8⟩ := Rec.cells8 q1
    go_simp
    try with_reducible rfl
  try simp only [Act.put, List.setIfInBounds_toArray, List.set_cons_zero, List.set_cons_succ, List.getElem_toArray, List.getElem_cons_succ, List.getElem_cons_zero]
  refine wpAnyH_ready (rs := [2, 12]) (by kernel_rfl) (by simp) ?_
  refine AllReadyH.cons rfl (fun K hK => ?_) (AllReadyH.cons rfl (fun K hK => ?_) AllReadyH.nil)
  · go_simp
    refine (clone_any r.k _ hk).mono ?_
    rintro e w1 ⟨rfl, hb⟩
    have HC := Lib.hid (HC.out.on hb)
    refine hK.out _ _ ?_ (fun hHeld => ?_)
    · exact ⟨hHeld.1.on hb, hHeld.2.1.trans (hb.mono hHeld.2.1.size), Nat.le_trans hHeld.2.2 hb.size⟩
    clear hK K
    try simp only [Act.put, List.setIfInBounds_toArray, List.set_cons_zero, List.set_cons_succ, List.getElem_toArray, List.getElem_cons_succ, List.getElem_cons_zero]
    refine wpAnyH_ready (rs := [7, 12]) (by kernel_rfl) (by simp) ?_
    refine AllReadyH.cons rfl (fun K hK => ?_) (AllReadyH.cons rfl (fun K hK => ?_) AllReadyH.nil)
    · go_simp
      refine (clone_any r.d _ hd).mono ?_
      rintro e w2 ⟨rfl, hb⟩
      have HC := Lib.hid (HC.out.on hb)
      refine hK.out _ _ ?_ (fun hHeld => ?_)
      · exact ⟨hHeld.1.on hb, hHeld.2.1.trans (hb.mono hHeld.2.1.size), Nat.le_trans hHeld.2.2 hb.size⟩
      clear hK K
      try simp only [Act.put, List.setIfInBounds_toArray, List.set_cons_zero, List.set_cons_succ, List.getElem_toArray, List.getElem_cons_succ, List.getElem_cons_zero]
      refine wpAnyH_ready (rs := [12]) (by kernel_rfl) (by simp) ?_
      refine AllReadyH.cons rfl (fun K hK => ?_) AllReadyH.nil
      have HO := Lib.hid (show Blk (World.alloc w2 (Dep.oneObj p.A r.l p.ca)) w2.heap.size 28 #[Value.slice p.A r.l.length p.ca] from Blk.new _ _ _)
      have HC := Lib.hid (HC.out.alloc (Dep.oneObj p.A r.l p.ca))
      go_simp
      refine hK.out _ _ ?_ (fun hHeld => ?_)
      · exact ⟨hHeld.1.alloc _, hHeld.2.1.alloc hHeld.2.1.size _, by have h2 := hHeld.2.2; simp only [World.size_alloc, show ∀ W : World, W.drew.heap = W.heap from fun _ => rfl] at h2 ⊢; omega⟩
      clear hK K
      try simp only [Act.put, List.setIfInBounds_toArray, List.set_cons_zero, List.set_cons_succ, List.getElem_toArray, List.getElem_cons_succ, List.getElem_cons_zero]
      refine wpAnyH_ready (rs := [13]) (by kernel_rfl) (by simp) ?_
      refine AllReadyH.cons rfl (fun K hK => ?_) AllReadyH.nil
      go_simp
      refine (HJ.out _ _ hHeld.2.1 HO.out).mono ?_
      rintro e w3 hans
      obtain ⟨A3, c3, rfl, hh3, hc3, hb⟩ := hans.held
      have HC := Lib.hid (HC.out.on hb)
      have HD3 := Lib.hid (hh3.wide (lo' := w.heap.size + 2) hHeld.2.2 (Nat.le_refl _))
      have hfd := fun n k V => field_deps A3 n c3 k V
      clear hh3 hc3 hans
      unfold Dep.outV
      refine hK.out _ _ ?_ (fun hHeld => ?_)
      · exact ⟨hHeld.1.on hb, hHeld.2.1.trans (hb.mono hHeld.2.1.size), Nat.le_trans hHeld.2.2 hb.size⟩
      clear hK K
      try simp only [Act.put, List.setIfInBounds_toArray, List.set_cons_zero, List.set_cons_succ, List.getElem_toArray, List.getElem_cons_succ, List.getElem_cons_zero]
      refine wpAnyH_take (i := 14) (v := ?_) rfl (by kernel_rfl) (by kernel_rfl) (by kernel_rfl) (fun _ _ _ h => h) (Or.inl ⟨by rfl, ?_⟩) hHeld ?_
      rotate_left
      · intro W hSw
        obtain ⟨q1, _, _⟩ := hSw
        obtain ⟨hs1, hs2, hs3, hs4, hs5, hs6, hs7, hs8⟩ := Rec.cells8 q1
        go_simp
        try with_reducible rfl
      try simp only [Act.put, List.setIfInBounds_toArray, List.set_cons_zero, List.set_cons_succ, List.getElem_toArray, List.getElem_cons_succ, List.getElem_cons_zero]
      refine wpAnyH_ready (rs := [17]) (by kernel_rfl) (by simp) ?_
      refine AllReadyH.cons rfl (fun K hK => ?_) AllReadyH.nil
      go_simp
      refine (HT.out _ hHeld.2.1).mono ?_
      rintro e w4 ⟨A4, c4, rfl, hh4, hb⟩
      have HC := Lib.hid (HC.out.on hb)
      have HD4 := Lib.hid (HD3.out.step hb (.inr (Nat.le_refl _)))
      have HD5 := Lib.hid (HD4.out.wide (Nat.le_refl _) hb.size)
      have HS4 := Lib.hid (hh4.wide (lo' := w.heap.size + 2) hHeld.2.2 (Nat.le_refl _))
      clear hh4
      refine hK.out _ _ ?_ (fun hHeld => ?_)
      · exact ⟨hHeld.1.on hb, hHeld.2.1.trans (hb.mono hHeld.2.1.size), Nat.le_trans hHeld.2.2 hb.size⟩
      clear hK K
      try simp only [Act.put, List.setIfInBounds_toArray, List.set_cons_zero, List.set_cons_succ, List.getElem_toArray, List.getElem_cons_succ, List.getElem_cons_zero]
      refine wpAnyH_take (i := 18) (v := ?_) rfl (by kernel_rfl) (by kernel_rfl) (by kernel_rfl) (fun _ _ _ h => h) (Or.inl ⟨by rfl, ?_⟩) hHeld ?_
      rotate_left
      · intro W hSw
        obtain ⟨q1, _, _⟩ := hSw
        obtain ⟨hs1, hs2, hs3, hs4, hs5, hs6, hs7, hs8⟩ := Rec.cells8 q1
        go_simp
        try with_reducible rfl
      try simp only [Act.put, List.setIfInBounds_toArray, List.set_cons_zero, List.set_cons_succ, List.getElem_toArray, List.getElem_cons_succ, List.getElem_cons_zero]
      refine wpAnyH_ready (rs := [19]) (by kernel_rfl) (by simp) ?_
      refine AllReadyH.cons rfl (fun K hK => ?_) AllReadyH.nil
      have q0 := HC.out.cell 0
      have q1 := HC.out.cell 1
      have q2 := HC.out.cell 2
      have q3 := HC.out.cell 3
      have q4 := HC.out.cell 4
      have q5 := HC.out.cell 5
      have q6 := HC.out.cell 6
      have q7 := HC.out.cell 7
      have f0 := HC.out.free 0
      have f1 := HC.out.free 1
      have f2 := HC.out.free 2
      have f3 := HC.out.free 3
      have f4 := HC.out.free 4
      have f5 := HC.out.free 5
      have f6 := HC.out.free 6
      have f7 := HC.out.free 7
      have hne : w.heap.size ≠ w.heap.size + 1 := by omega
      have hle : w.heap.size ≤ w.heap.size + 1 := by omega
      go_simp
      refine hK.out _ _ ?_ (fun hHeld => ?_)
      · exact ⟨((((((((hHeld.1.other hne (.string r.k)).other hne (.int .i64 r.i.c)).other hne (.int .i64 r.i.s)).other hne (.int .i64 r.i.e)).other hne (.string r.d)).other hne (.bool r.g)).other hne (.slice A3 r.l.length c3)).other hne (.slice A4 r.b.length c4)), ((((((((hHeld.2.1.setCell (p := ⟨w.heap.size + 1, 0, none⟩) hle (.string r.k)).setCell (p := ⟨w.heap.size + 1, 1, none⟩) hle (.int .i64 r.i.c)).setCell (p := ⟨w.heap.size + 1, 2, none⟩) hle (.int .i64 r.i.s)).setCell (p := ⟨w.heap.size + 1, 3, none⟩) hle (.int .i64 r.i.e)).setCell (p := ⟨w.heap.size + 1, 4, none⟩) hle (.string r.d)).setCell (p := ⟨w.heap.size + 1, 5, none⟩) hle (.bool r.g)).setCell (p := ⟨w.heap.size + 1, 6, none⟩) hle (.slice A3 r.l.length c3)).setCell (p := ⟨w.heap.size + 1, 7, none⟩) hle (.slice A4 r.b.length c4)), by simp only [World.size_setCell]; exact hHeld.2.2⟩
      clear hK K
      try simp only [Act.put, List.setIfInBounds_toArray, List.set_cons_zero, List.set_cons_succ, List.getElem_toArray, List.getElem_cons_succ, List.getElem_cons_zero]
      refine wpAnyH_done (by kernel_rfl) ?_ _
      go_wp2_with fail
      have hA := (((((((((Above.refl (w.heap.size + 2) w4).set (p := ⟨w.heap.size + 1, 0, none⟩) (by show w.heap.size + 1 < w.heap.size + 2; omega) (.string r.k)).set (p := ⟨w.heap.size + 1, 1, none⟩) (by show w.heap.size + 1 < w.heap.size + 2; omega) (.int .i64 r.i.c)).set (p := ⟨w.heap.size + 1, 2, none⟩) (by show w.heap.size + 1 < w.heap.size + 2; omega) (.int .i64 r.i.s)).set (p := ⟨w.heap.size + 1, 3, none⟩) (by show w.heap.size + 1 < w.heap.size + 2; omega) (.int .i64 r.i.e)).set (p := ⟨w.heap.size + 1, 4, none⟩) (by show w.heap.size + 1 < w.heap.size + 2; omega) (.string r.d)).set (p := ⟨w.heap.size + 1, 5, none⟩) (by show w.heap.size + 1 < w.heap.size + 2; omega) (.bool r.g)).set (p := ⟨w.heap.size + 1, 6, none⟩) (by show w.heap.size + 1 < w.heap.size + 2; omega) (.slice A3 r.l.length c3)).set (p := ⟨w.heap.size + 1, 7, none⟩) (by show w.heap.size + 1 < w.heap.size + 2; omega) (.slice A4 r.b.length c4))
      refine bodyPost_ret (v := recV r ⟨A3, c3, A4, c4⟩) (by simp [results, Tryz.results66, go_sem, recV, q0, q1, q2, q3, q4, q5, q6, q7]) rfl ⟨⟨A3, c3, A4, c4⟩, rfl, ?_, hHeld.2.1⟩
      have hr : Rec.Held w4 r ⟨A3, c3, A4, c4⟩ (w.heap.size + 2) w4.heap.size := ⟨HD5.out, HS4.out⟩
      exact (hr.above hA).wide (by omega) (by simp only [World.size_setCell]; exact Nat.le_refl _)
    · have HO := Lib.hid (show Blk (World.alloc w1 (Dep.oneObj p.A r.l p.ca)) w1.heap.size 28 #[Value.slice p.A r.l.length p.ca] from Blk.new _ _ _)
      have HC := Lib.hid (HC.out.alloc (Dep.oneObj p.A r.l p.ca))
      go_simp
      refine hK.out _ _ ?_ (fun hHeld => ?_)
      · exact ⟨hHeld.1.alloc _, hHeld.2.1.alloc hHeld.2.1.size _, by have h2 := hHeld.2.2; simp only [World.size_alloc, show ∀ W : World, W.drew.heap = W.heap from fun _ => rfl] at h2 ⊢; omega⟩
      clear hK K
      try simp only [Act.put, List.setIfInBounds_toArray, List.set_cons_zero, List.set_cons_succ, List.getElem_toArray, List.getElem_cons_succ, List.getElem_cons_zero]
      refine wpAnyH_ready (rs := [7]) (by kernel_rfl) (by simp) ?_
      refine AllReadyH.cons rfl (fun K hK => ?_) AllReadyH.nil
      go_simp
      refine (clone_any r.d _ hd).mono ?_
      rintro e w2 ⟨rfl, hb⟩
      have HC := Lib.hid (HC.out.on hb)
      have HO := Lib.hid (HO.out.on hb)
      refine hK.out _ _ ?_ (fun hHeld => ?_)
      · exact ⟨hHeld.1.on hb, hHeld.2.1.trans (hb.mono hHeld.2.1.size), Nat.le_trans hHeld.2.2 hb.size⟩
      clear hK K
      try simp only [Act.put, List.setIfInBounds_toArray, List.set_cons_zero, List.set_cons_succ, List.getElem_toArray, List.getElem_cons_succ, List.getElem_cons_zero]
      refine wpAnyH_ready (rs := [13]) (by kernel_rfl) (by simp) ?_
      refine AllReadyH.cons rfl (fun K hK => ?_) AllReadyH.nil
      go_simp
      refine (HJ.out _ _ hHeld.2.1 HO.out).mono ?_
      rintro e w3 hans
      obtain ⟨A3, c3, rfl, hh3, hc3, hb⟩ := hans.held
      have HC := Lib.hid (HC.out.on hb)
      have HD3 := Lib.hid (hh3.wide (lo' := w.heap.size + 2) hHeld.2.2 (Nat.le_refl _))
      have hfd := fun n k V => field_deps A3 n c3 k V
      clear hh3 hc3 hans
      unfold Dep.outV
      refine hK.out _ _ ?_ (fun hHeld => ?_)
      · exact ⟨hHeld.1.on hb, hHeld.2.1.trans (hb.mono hHeld.2.1.size), Nat.le_trans hHeld.2.2 hb.size⟩
      clear hK K
      try simp only [Act.put, List.setIfInBounds_toArray, List.set_cons_zero, List.set_cons_succ, List.getElem_toArray, List.getElem_cons_succ, List.getElem_cons_zero]
      refine wpAnyH_take (i := 14) (v := ?_) rfl (by kernel_rfl) (by kernel_rfl) (by kernel_rfl) (fun _ _ _ h => h) (Or.inl ⟨by rfl, ?_⟩) hHeld ?_
      rotate_left
      · intro W hSw
        obtain ⟨q1, _, _⟩ := hSw
        obtain ⟨hs1, hs2, hs3, hs4, hs5, hs6, hs7, hs8⟩ := Rec.cells8 q1
        go_simp
        try with_reducible rfl
      try simp only [Act.put, List.setIfInBounds_toArray, List.set_cons_zero, List.set_cons_succ, List.getElem_toArray, List.getElem_cons_succ, List.getElem_cons_zero]
      refine wpAnyH_ready (rs := [17]) (by kernel_rfl) (by simp) ?_
      refine AllReadyH.cons rfl (fun K hK => ?_) AllReadyH.nil
      go_simp
      refine (HT.out _ hHeld.2.1).mono ?_
      rintro e w4 ⟨A4, c4, rfl, hh4, hb⟩
      have HC := Lib.hid (HC.out.on hb)
      have HD4 := Lib.hid (HD3.out.step hb (.inr (Nat.le_refl _)))
      have HD5 := Lib.hid (HD4.out.wide (Nat.le_refl _) hb.size)
      have HS4 := Lib.hid (hh4.wide (lo' := w.heap.size + 2) hHeld.2.2 (Nat.le_refl _))
      clear hh4
      refine hK.out _ _ ?_ (fun hHeld => ?_)
      · exact ⟨hHeld.1.on hb, hHeld.2.1.trans (hb.mono hHeld.2.1.size), Nat.le_trans hHeld.2.2 hb.size⟩
      clear hK K
      try simp only [Act.put, List.setIfInBounds_toArray, List.set_cons_zero, List.set_cons_succ, List.getElem_toArray, List.getElem_cons_succ, List.getElem_cons_zero]
      refine wpAnyH_take (i := 18) (v := ?_) rfl (by kernel_rfl) (by kernel_rfl) (by kernel_rfl) (fun _ _ _ h => h) (Or.inl ⟨by rfl, ?_⟩) hHeld ?_
      rotate_left
      · intro W hSw
        obtain ⟨q1, _, _⟩ := hSw
        obtain ⟨hs1, hs2, hs3, hs4, hs5, hs6, hs7, hs8⟩ := Rec.cells8 q1
        go_simp
        try with_reducible rfl
      try simp only [Act.put, List.setIfInBounds_toArray, List.set_cons_zero, List.set_cons_succ, List.getElem_toArray, List.getElem_cons_succ, List.getElem_cons_zero]
      refine wpAnyH_ready (rs := [19]) (by kernel_rfl) (by simp) ?_
      refine AllReadyH.cons rfl (fun K hK => ?_) AllReadyH.nil
      have q0 := HC.out.cell 0
      have q1 := HC.out.cell 1
      have q2 := HC.out.cell 2
      have q3 := HC.out.cell 3
      have q4 := HC.out.cell 4
      have q5 := HC.out.cell 5
      have q6 := HC.out.cell 6
      have q7 := HC.out.cell 7
      have f0 := HC.out.free 0
      have f1 := HC.out.free 1
      have f2 := HC.out.free 2
      have f3 := HC.out.free 3
      have f4 := HC.out.free 4
      have f5 := HC.out.free 5
      have f6 := HC.out.free 6
      have f7 := HC.out.free 7
      have hne : w.heap.size ≠ w.heap.size + 1 := by omega
      have hle : w.heap.size ≤ w.heap.size + 1 := by omega
      go_simp
      refine hK.out _ _ ?_ (fun hHeld => ?_)
      · exact ⟨((((((((hHeld.1.other hne (.string r.k)).other hne (.int .i64 r.i.c)).other hne (.int .i64 r.i.s)).other hne (.int .i64 r.i.e)).other hne (.string r.d)).other hne (.bool r.g)).other hne (.slice A3 r.l.length c3)).other hne (.slice A4 r.b.length c4)), ((((((((hHeld.2.1.setCell (p := ⟨w.heap.size + 1, 0, none⟩) hle (.string r.k)).setCell (p := ⟨w.heap.size + 1, 1, none⟩) hle (.int .i64 r.i.c)).setCell (p := ⟨w.heap.size + 1, 2, none⟩) hle (.int .i64 r.i.s)).setCell (p := ⟨w.heap.size + 1, 3, none⟩) hle (.int .i64 r.i.e)).setCell (p := ⟨w.heap.size + 1, 4, none⟩) hle (.string r.d)).setCell (p := ⟨w.heap.size + 1, 5, none⟩) hle (.bool r.g)).setCell (p := ⟨w.heap.size + 1, 6, none⟩) hle (.slice A3 r.l.length c3)).setCell (p := ⟨w.heap.size + 1, 7, none⟩) hle (.slice A4 r.b.length c4)), by simp only [World.size_setCell]; exact hHeld.2.2⟩
      clear hK K
      try simp only [Act.put, List.setIfInBounds_toArray, List.set_cons_zero, List.set_cons_succ, List.getElem_toArray, List.getElem_cons_succ, List.getElem_cons_zero]
      refine wpAnyH_done (by kernel_rfl) ?_ _
      go_wp2_with fail
      have hA := (((((((((Above.refl (w.heap.size + 2) w4).set (p := ⟨w.heap.size + 1, 0, none⟩) (by show w.heap.size + 1 < w.heap.size + 2; omega) (.string r.k)).set (p := ⟨w.heap.size + 1, 1, none⟩) (by show w.heap.size + 1 < w.heap.size + 2; omega) (.int .i64 r.i.c)).set (p := ⟨w.heap.size + 1, 2, none⟩) (by show w.heap.size + 1 < w.heap.size + 2; omega) (.int .i64 r.i.s)).set (p := ⟨w.heap.size + 1, 3, none⟩) (by show w.heap.size + 1 < w.heap.size + 2; omega) (.int .i64 r.i.e)).set (p := ⟨w.heap.size + 1, 4, none⟩) (by show w.heap.size + 1 < w.heap.size + 2; omega) (.string r.d)).set (p := ⟨w.heap.size + 1, 5, none⟩) (by show w.heap.size + 1 < w.heap.size + 2; omega) (.bool r.g)).set (p := ⟨w.heap.size + 1, 6, none⟩) (by show w.heap.size + 1 < w.heap.size + 2; omega) (.slice A3 r.l.length c3)).set (p := ⟨w.heap.size + 1, 7, none⟩) (by show w.heap.size + 1 < w.heap.size + 2; omega) (.slice A4 r.b.length c4))
      refine bodyPost_ret (v := recV r ⟨A3, c3, A4, c4⟩) (by simp [results, Tryz.results66, go_sem, recV, q0, q1, q2, q3, q4, q5, q6, q7]) rfl ⟨⟨A3, c3, A4, c4⟩, rfl, ?_, hHeld.2.1⟩
      have hr : Rec.Held w4 r ⟨A3, c3, A4, c4⟩ (w.heap.size + 2) w4.heap.size := ⟨HD5.out, HS4.out⟩
      exact (hr.above hA).wide (by omega) (by simp only [World.size_setCell]; exact Nat.le_refl _)
  · have HO := Lib.hid (show Blk (World.alloc (World.drew W1) (Dep.oneObj p.A r.l p.ca)) (World.drew W1).heap.size 28 #[Value.slice p.A r.l.length p.ca] from Blk.new _ _ _)
    have HC := Lib.hid (HC.out.alloc (Dep.oneObj p.A r.l p.ca))
    go_simp
    refine hK.out _ _ ?_ (fun hHeld => ?_)
    · exact ⟨hHeld.1.alloc _, hHeld.2.1.alloc hHeld.2.1.size _, by have h2 := hHeld.2.2; simp only [World.size_alloc, show ∀ W : World, W.drew.heap = W.heap from fun _ => rfl] at h2 ⊢; omega⟩
    clear hK K
    try simp only [Act.put, List.setIfInBounds_toArray, List.set_cons_zero, List.set_cons_succ, List.getElem_toArray, List.getElem_cons_succ, List.getElem_cons_zero]
    refine wpAnyH_ready (rs := [2]) (by kernel_rfl) (by simp) ?_
    refine AllReadyH.cons rfl (fun K hK => ?_) AllReadyH.nil
    go_simp
    refine (clone_any r.k _ hk).mono ?_
    rintro e w1 ⟨rfl, hb⟩
    have HC := Lib.hid (HC.out.on hb)
    have HO := Lib.hid (HO.out.on hb)
    refine hK.out _ _ ?_ (fun hHeld => ?_)
    · exact ⟨hHeld.1.on hb, hHeld.2.1.trans (hb.mono hHeld.2.1.size), Nat.le_trans hHeld.2.2 hb.size⟩
    clear hK K
    try simp only [Act.put, List.setIfInBounds_toArray, List.set_cons_zero, List.set_cons_succ, List.getElem_toArray, List.getElem_cons_succ, List.getElem_cons_zero]
    refine wpAnyH_ready (rs := [7]) (by kernel_rfl) (by simp) ?_
    refine AllReadyH.cons rfl (fun K hK => ?_) AllReadyH.nil
    go_simp
    refine (clone_any r.d _ hd).mono ?_
    rintro e w2 ⟨rfl, hb⟩
    have HC := Lib.hid (HC.out.on hb)
    have HO := Lib.hid (HO.out.on hb)
    refine hK.out _ _ ?_ (fun hHeld => ?_)
    · exact ⟨hHeld.1.on hb, hHeld.2.1.trans (hb.mono hHeld.2.1.size), Nat.le_trans hHeld.2.2 hb.size⟩
    clear hK K
    try simp only [Act.put, List.setIfInBounds_toArray, List.set_cons_zero, List.set_cons_succ, List.getElem_toArray, List.getElem_cons_succ, List.getElem_cons_zero]
    refine wpAnyH_ready (rs := [13]) (by kernel_rfl) (by simp) ?_
    refine AllReadyH.cons rfl (fun K hK => ?_) AllReadyH.nil
    go_simp
    refine (HJ.out _ _ hHeld.2.1 HO.out).mono ?_
    rintro e w3 hans
    obtain ⟨A3, c3, rfl, hh3, hc3, hb⟩ := hans.held
    have HC := Lib.hid (HC.out.on hb)
    have HD3 := Lib.hid (hh3.wide (lo' := w.heap.size + 2) hHeld.2.2 (Nat.le_refl _))
    have hfd := fun n k V => field_deps A3 n c3 k V
    clear hh3 hc3 hans
    unfold Dep.outV
    refine hK.out _ _ ?_ (fun hHeld => ?_)
    · exact ⟨hHeld.1.on hb, hHeld.2.1.trans (hb.mono hHeld.2.1.size), Nat.le_trans hHeld.2.2 hb.size⟩
    clear hK K
    try simp only [Act.put, List.setIfInBounds_toArray, List.set_cons_zero, List.set_cons_succ, List.getElem_toArray, List.getElem_cons_succ, List.getElem_cons_zero]
    refine wpAnyH_take (i := 14) (v := ?_) rfl (by kernel_rfl) (by kernel_rfl) (by kernel_rfl) (fun _ _ _ h => h) (Or.inl ⟨by rfl, ?_⟩) hHeld ?_
    rotate_left
    · intro W hSw
      obtain ⟨q1, _, _⟩ := hSw
      obtain ⟨hs1, hs2, hs3, hs4, hs5, hs6, hs7, hs8⟩ := Rec.cells8 q1
      go_simp
      try with_reducible rfl
    try simp only [Act.put, List.setIfInBounds_toArray, List.set_cons_zero, List.set_cons_succ, List.getElem_toArray, List.getElem_cons_succ, List.getElem_cons_zero]
    refine wpAnyH_ready (rs := [17]) (by kernel_rfl) (by simp) ?_
    refine AllReadyH.cons rfl (fun K hK => ?_) AllReadyH.nil
    go_simp
    refine (HT.out _ hHeld.2.1).mono ?_
    rintro e w4 ⟨A4, c4, rfl, hh4, hb⟩
    have HC := Lib.hid (HC.out.on hb)
    have HD4 := Lib.hid (HD3.out.step hb (.inr (Nat.le_refl _)))
    have HD5 := Lib.hid (HD4.out.wide (Nat.le_refl _) hb.size)
    have HS4 := Lib.hid (hh4.wide (lo' := w.heap.size + 2) hHeld.2.2 (Nat.le_refl _))
    clear hh4
    refine hK.out _ _ ?_ (fun hHeld => ?_)
    · exact ⟨hHeld.1.on hb, hHeld.2.1.trans (hb.mono hHeld.2.1.size), Nat.le_trans hHeld.2.2 hb.size⟩
    clear hK K
    try simp only [Act.put, List.setIfInBounds_toArray, List.set_cons_zero, List.set_cons_succ, List.getElem_toArray, List.getElem_cons_succ, List.getElem_cons_zero]
    refine wpAnyH_take (i := 18) (v := ?_) rfl (by kernel_rfl) (by kernel_rfl) (by kernel_rfl) (fun _ _ _ h => h) (Or.inl ⟨by rfl, ?_⟩) hHeld ?_
    rotate_left
    · intro W hSw
      obtain ⟨q1, _, _⟩ := hSw
      obtain ⟨hs1, hs2, hs3, hs4, hs5, hs6, hs7, hs8⟩ := Rec.cells8 q1
      go_simp
      try with_reducible rfl
    try simp only [Act.put, List.setIfInBounds_toArray, List.set_cons_zero, List.set_cons_succ, List.getElem_toArray, List.getElem_cons_succ, List.getElem_cons_zero]
    refine wpAnyH_ready (rs := [19]) (by kernel_rfl) (by simp) ?_
    refine AllReadyH.cons rfl (fun K hK => ?_) AllReadyH.nil
    have q0 := HC.out.cell 0
    have q1 := HC.out.cell 1
    have q2 := HC.out.cell 2
    have q3 := HC.out.cell 3
    have q4 := HC.out.cell 4
    have q5 := HC.out.cell 5
    have q6 := HC.out.cell 6
    have q7 := HC.out.cell 7
    have f0 := HC.out.free 0
    have f1 := HC.out.free 1
    have f2 := HC.out.free 2
    have f3 := HC.out.free 3
    have f4 := HC.out.free 4
    have f5 := HC.out.free 5
    have f6 := HC.out.free 6
    have f7 := HC.out.free 7
    have hne : w.heap.size ≠ w.heap.size + 1 := by omega
    have hle : w.heap.size ≤ w.heap.size + 1 := by omega
    go_simp
    refine hK.out _ _ ?_ (fun hHeld => ?_)
    · exact ⟨((((((((hHeld.1.other hne (.string r.k)).other hne (.int .i64 r.i.c)).other hne (.int .i64 r.i.s)).other hne (.int .i64 r.i.e)).other hne (.string r.d)).other hne (.bool r.g)).other hne (.slice A3 r.l.length c3)).other hne (.slice A4 r.b.length c4)), ((((((((hHeld.2.1.setCell (p := ⟨w.heap.size + 1, 0, none⟩) hle (.string r.k)).setCell (p := ⟨w.heap.size + 1, 1, none⟩) hle (.int .i64 r.i.c)).setCell (p := ⟨w.heap.size + 1, 2, none⟩) hle (.int .i64 r.i.s)).setCell (p := ⟨w.heap.size + 1, 3, none⟩) hle (.int .i64 r.i.e)).setCell (p := ⟨w.heap.size + 1, 4, none⟩) hle (.string r.d)).setCell (p := ⟨w.heap.size + 1, 5, none⟩) hle (.bool r.g)).setCell (p := ⟨w.heap.size + 1, 6, none⟩) hle (.slice A3 r.l.length c3)).setCell (p := ⟨w.heap.size + 1, 7, none⟩) hle (.slice A4 r.b.length c4)), by simp only [World.size_setCell]; exact hHeld.2.2⟩
    clear hK K
    try simp only [Act.put, List.setIfInBounds_toArray, List.set_cons_zero, List.set_cons_succ, List.getElem_toArray, List.getElem_cons_succ, List.getElem_cons_zero]
    refine wpAnyH_done (by kernel_rfl) ?_ _
    go_wp2_with fail
    have hA := (((((((((Above.refl (w.heap.size + 2) w4).set (p := ⟨w.heap.size + 1, 0, none⟩) (by show w.heap.size + 1 < w.heap.size + 2; omega) (.string r.k)).set (p := ⟨w.heap.size + 1, 1, none⟩) (by show w.heap.size + 1 < w.heap.size + 2; omega) (.int .i64 r.i.c)).set (p := ⟨w.heap.size + 1, 2, none⟩) (by show w.heap.size + 1 < w.heap.size + 2; omega) (.int .i64 r.i.s)).set (p := ⟨w.heap.size + 1, 3, none⟩) (by show w.heap.size + 1 < w.heap.size + 2; omega) (.int .i64 r.i.e)).set (p := ⟨w.heap.size + 1, 4, none⟩) (by show w.heap.size + 1 < w.heap.size + 2; omega) (.string r.d)).set (p := ⟨w.heap.size + 1, 5, none⟩) (by show w.heap.size + 1 < w.heap.size + 2; omega) (.bool r.g)).set (p := ⟨w.heap.size + 1, 6, none⟩) (by show w.heap.size + 1 < w.heap.size + 2; omega) (.slice A3 r.l.length c3)).set (p := ⟨w.heap.size + 1, 7, none⟩) (by show w.heap.size + 1 < w.heap.size + 2; omega) (.slice A4 r.b.length c4))
    refine bodyPost_ret (v := recV r ⟨A3, c3, A4, c4⟩) (by simp [results, Tryz.results66, go_sem, recV, q0, q1, q2, q3, q4, q5, q6, q7]) rfl ⟨⟨A3, c3, A4, c4⟩, rfl, ?_, hHeld.2.1⟩
    have hr : Rec.Held w4 r ⟨A3, c3, A4, c4⟩ (w.heap.size + 2) w4.heap.size := ⟨HD5.out, HS4.out⟩
    exact (hr.above hA).wide (by omega) (by simp only [World.size_setCell]; exact Nat.le_refl _)
end Go.Proofs.YtegnjbdgeibhfaaGreat.Rs
