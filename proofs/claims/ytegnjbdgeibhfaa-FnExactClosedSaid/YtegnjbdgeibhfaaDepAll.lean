/-
  impl.joinAll: of each key that stands in some right lists the greatest Id.
-/
import Derived.Test.YtegnjbdgeibhfaaPackAll
namespace Go.Proofs.Ytegnjbdgeibhfaa.Dep
open Go.ChangeShapes Go.WideShapes Go.ChangeAt Go.RowKit Go.Shelf
set_option linter.unusedVariables false
set_option maxRecDepth 100000

attribute [local go_sem] Oper.semAt_some

theorem wanted_in {c : Prop} [Decidable c] {a b : Prop} (h : c) (ha : a) : if c then a else b := by rw [if_pos h]; exact ha
theorem id_not_row {W : World} {b : Nat} {x y z : Int} {base n : Nat} {v : Value} {xs : List Value} (h : Id.IdRow W b 58 x y z) (ho : W.ownsRow base 80 4 v n xs) : some b ≠ v.ownBlock := by
  rcases ho.2 with ⟨rfl, _⟩ | ⟨g, cap, cur, rfl, _, hg, _⟩
  · intro e; cases e
  · intro e
    cases e
    rw [show W.heap[g]? = _ from h] at hg
    cases hg
theorem id_set_other {W : World} {b : Nat} {x y z : Int} (h : Id.IdRow W b 58 x y z) {p : Addr} (hne : b ≠ p.block) (u : Value) : Id.IdRow (W.setCell p u) b 58 x y z := (heap_setCell_other W p b u hne).trans h
theorem keeps_own {W W' : World} {base n : Nat} {v : Value} {xs : List Value} (hg : W.grownBy W' v.ownBlock) (ho : W.ownsRow base 80 4 v n xs) : KeepsOthers W W' := by
  refine KeepsOthers.of_grownBy hg fun j o e hj => ?_
  rcases ho.2 with ⟨rfl, _⟩ | ⟨g, cap, cur, rfl, _, hgg, _⟩
  · cases e
  · cases e
    rw [hgg] at hj
    cases hj
    rfl
theorem keeps_below {N B : Nat} {W W' : World} (h : Below N W W') (hN : W.heap.size ≤ N) : KeepsFrom B W W' := ⟨h.size, fun k o _ hk _ => (h.block k (by have := (Array.getElem?_eq_some_iff.1 hk).1; omega)).trans hk⟩
/-- A round's end. -/
theorem round_end {w W w1 w2 : World} {ad : Addr} {len cap : Nat} {L : List (List D)} {pre : List K4} {x : K4} {m : I} {A2 : Option Addr} {c2 : Nat} {o : Obj} {l2 : List D}
    (hl2 : l2 = (pre.map (·.1)).map (withMost L) ++ [⟨x.1, m⟩])
    (hs : (start w ad len cap).heap.size = w.heap.size + 4) (hI : Inv w ad len cap L (pre.map (·.1)) W) (B1 : Below W.heap.size W w1) (K2 : KeepsOthers (w1.alloc o) w2) (B2 : Below (w.heap.size + 4) w1 w2)
    {n : Nat} {v : Value} (O2 : w2.ownsRow (w.heap.size + 4) 80 4 (slV A2 l2 c2) n (flat l2))
    (D2 : Boxed w2 (w.heap.size + 2) 22 v) (hx : withMost L x.1 = ⟨x.1, m⟩) (h6 : pre.length < 6) (hn : n = pre.length + 1) {j : Nat} (hj : j = l2.length) :
    KeepsFrom (start w ad len cap).heap.size W (w2.setCell ⟨w.heap.size + 2, 0, none⟩ (.slice A2 j c2)) ∧
      KeepsBox w.heap.size (w.heap.size + 3) W (w2.setCell ⟨w.heap.size + 2, 0, none⟩ (.slice A2 j c2)) ∧
      Inv w ad len cap L ((pre ++ [x]).map (·.1)) (w2.setCell ⟨w.heap.size + 2, 0, none⟩ (.slice A2 j c2)) := by
  subst hj
  have hW := hI.size
  have BW : Below (w.heap.size + 4) W w2 := (B1.mono hW).trans B2
  have hl : ((pre ++ [x]).map (·.1)).map (withMost L) = l2 := by rw [hl2]; simp [hx]
  have hlen : l2.length = n := by rw [hl2]; simp [hn]
  refine ⟨?_, ⟨(BW.mono (by omega)).setCell (by show _ ≤ w.heap.size + 2; omega) _, ?_⟩, ?_, ?_, ?_, ?_, ?_, ?_⟩
  · exact ((keeps_below B1 (Nat.le_refl _)).trans (((KeepsOthers.alloc _ _).trans K2).from _)).trans ((KeepsOthers.setCell _ _ _).from _)
  · rw [heap_setCell_other _ _ _ _ (by show w.heap.size + 3 ≠ w.heap.size + 2; omega)]
    exact BW.block _ (by omega)
  · exact Boxed.other (box_below hI.lists BW (by omega)) (by omega) _
  · exact (heap_setCell_other _ _ _ _ (by show w.heap.size + 1 ≠ w.heap.size + 2; omega)).trans (hI.res.step BW (by omega))
  · rw [hl]
    refine ⟨A2, c2, ?_, ?_⟩
    · unfold slV
      exact D2.set _
    · have := own_set O2 (p := ⟨w.heap.size + 2, 0, none⟩) (by show w.heap.size + 2 < _; omega) (.slice A2 l2.length c2)
      rw [← hlen] at this
      exact this
  · simp; omega
  · exact (hI.below.trans (BW.mono (by omega))).setCell (by show _ ≤ w.heap.size + 2; omega) _
  · have := BW.size; rw [World.size_setCell]; omega

set_option maxHeartbeats 4000000 in
set_option maxRecDepth 100000 in
theorem all_any (ad : Addr) (ls : List Sl) (cap : Nat) (ks : List K4) (hc : Chain (allOf ls) (ks.map (·.1))) (hl : ls.length ≤ 400) (hll : ∀ j (h : j < ls.length), ls[j].l.length ≤ maxLen) (w : World) (hL : Lists w w.heap.size ad ls) :
    Calls Try.prog 63 #[.slice (some ad) ls.length cap] w fun e w' =>
      (ks.length ≤ 6 → Answers w e w' ((ks.map (·.1)).map (withMost (ls.map (·.l)))) 0) ∧ (6 < ks.length → Answers w e w' [] 9) := by
  refine (callsIn_wide (n := 3)).1 ?_
  refine callsIn_of_wp_marks Try.func63 rfl trivial ?_ rfl
  simp only [Try.ntmps63, List.size_toArray, List.length_cons, List.length_nil, Nat.reduceAdd, Nat.reduceSub, Array.replicate_succ, Array.replicate_zero, List.push_toArray, List.append_toArray, List.nil_append, List.cons_append]
  gi_wp2_with (refine ⟨trivial, ?_⟩; gi_at_call 89; refine (keysOf_in _ _ _ _ _).mono ?_; rintro e w' ⟨rfl, rfl⟩)
  have hs := start_size w ad ls.length cap
  refine wpIn_rangeFunc_ownG (w := start w ad ls.length cap) rfl (show 1 ≤ 3 by omega) (gf := 104) (lb := #[.pointer (some ⟨w.heap.size + 3, 0, none⟩)]) (by simp [go_sem]) trivial (enters_of Try.func104 (by kernel_rfl) rfl)
    (keys_stops 2 (by omega) (w.heap.size + 3) w.heap.size ad ls cap ks hc hl hll (start w ad ls.length cap) (by omega) (start_box w ad ls.length cap) (hL.below (start_below w ad ls.length cap) (Nat.le_refl _)))
    KeepsBox.trans (keepsBox_put (by omega) (by omega)) (Below.refl _ _) (fun _ => rfl)
    (fun pre => Inv w ad ls.length cap (ls.map (·.l)) (pre.map (·.1))) (fun c pre => InvX w c (pre.map (·.1))) (fun pre => Inv.own w ad ls.length cap _ _ (by omega) (pre.map (·.1))) (fun c pre => InvX.own w c _ (by omega) (pre.map (·.1))) (start_inv w ad ls.length cap _)
    (fun x => { tmps := #[.slice (some ad) ls.length cap, .pointer (some ⟨w.heap.size, 0, none⟩), .pointer (some ⟨w.heap.size + 1, 0, none⟩), .pointer (some ⟨w.heap.size + 2, 0, none⟩), .string x.1, undef, undef, undef, .slice (some ad) ls.length cap, .func (.func 104) #[] #[.pointer (some ⟨w.heap.size + 3, 0, none⟩)], .string x.1, undef, undef, undef, undef, undef, undef, undef, undef, undef, undef, undef, undef, undef, undef, undef, undef, undef, undef, undef, undef, undef, undef, undef, undef, undef], defers := [] }) ?assign ?body ?done ?stop
  case assign =>
    intro l x W K hK
    gi_wp2
    exact hK
  case body =>
    intro l pre x W hI hlt
    have HW := Lib.hid hI
    have HS0 := Lib.hid hs
    obtain ⟨hb, hr, ⟨A, c, hd, hown⟩, h6, hB, hsz⟩ := hI
    rw [List.length_map] at h6
    have hd0 := hd.cell
    unfold slV at hd0
    rw [List.length_map, List.length_map] at hd0
    have hb0 := hb.cell
    have hdf := hd.frozen
    by_cases e6 : pre.length = 6
    · have HR := Lib.hid hr
      have HB := Lib.hid hB
      obtain ⟨r0, r1⟩ := hr.cells
      have f0 := hr.free 0
      have f1 := hr.free 1
      have e6' : (pre.length : Int) = 6 := by omega
      rw [e6] at hd0
      clear hr hB hown hd hb hb0 hdf hs
      gi_wp2
      refine ⟨?_, rfl, orow_put HR.out _ 9, by simp; omega, (HB.out.setCell (p := ⟨w.heap.size + 1, 0, none⟩) (Nat.le_succ _) _).setCell (p := ⟨w.heap.size + 1, 1, none⟩) (Nat.le_succ _) _⟩
      exact ((KeepsOthers.setCell _ _ _).trans (KeepsOthers.setCell _ _ _)).from _
    · have e6' : ¬ (pre.length : Int) = 6 := by omega
      have e6b : ((pre.length : Int) == 6) = false := beq_eq_false_iff_ne.2 e6'
      have HD := Lib.hid hd
      have HO := Lib.hid hown
      have hb1 := (hb.alloc (Obj.cells #[Value.int IntKind.i64 0, Value.int IntKind.i64 0, Value.int IntKind.i64 0] 58)).cell
      have BW := Lib.hid ((Below.refl W.heap.size W).alloc (Nat.le_refl _) (Obj.cells #[Value.int IntKind.i64 0, Value.int IntKind.i64 0, Value.int IntKind.i64 0] 58))
      have RM := Lib.hid (Id.IdRow.new W 58 0 0 0)
      have LW := Lib.hid (hL.below hB (Nat.le_refl _))
      clear hr hown hd hb hb0 hdf hs
      gi_wp2
      have hmW := RM.out.lt
      generalize World.alloc W _ = W1 at hb1 BW RM hmW ⊢
      gi_loopw [17] (fun i wr => ∃ k : Nat, k ≤ ls.length ∧ i = .int .i64 k ∧ Hid ((∃ m : I, Id.IdRow wr W.heap.size 58 m.c m.s m.e ∧ m = mostV ((ls.map (·.l)).take k) x.1) ∧ Below W.heap.size W wr)) (fun i _ => ls.length - (intOf i).toNat)
      case atStart => exact ⟨0, by omega, rfl, Lib.hid ⟨⟨zero, RM.out, rfl⟩, BW.out⟩⟩
      case round =>
        obtain ⟨k, hk, rfl, HK⟩ := hrel
        obtain ⟨m, hRB, hm⟩ := HK.out.1
        have HB := Lib.hid HK.out.2
        have RB := Lib.hid hRB
        have HM := Lib.hid hm
        have hRBlt := hRB.lt
        have hbs := HB.out.size
        clear hm
        by_cases hkl : k < ls.length
        · have LK := LW.out.below HB.out (by omega)
          have c0 := LK.2.1 k hkl
          have hlen := hll k hkl
          have HZ0 := Lib.hid (show mostV ((ls.map (·.l)).take (k + 1)) x.1 = m.max (ofV ls[k].l x.1) by rw [show (ls.map (·.l)).take (k + 1) = (ls.map (·.l)).take k ++ [ls[k].l] by simp [List.take_add_one, hkl], most_snoc, ← HM.out])
          have HAt := fun W' (hW : Below W.heap.size W W') => implAt_any ls[k].A ls[k].l ls[k].c x.1 W' (((LW.out.below hW (by omega)).2.2 k hkl).more (by have := hW.size; omega)) hlen
          unfold slV at HAt
          obtain ⟨s, hs⟩ : ∃ s, ls[k] = s := ⟨_, rfl⟩
          rw [hs] at c0 hlen HZ0 HAt
          clear hs LK
          obtain ⟨sA, sl, sc⟩ := s
          simp only at c0 hlen HZ0 HAt
          obtain ⟨z, hz⟩ : ∃ z, ofV sl x.1 = z := ⟨_, rfl⟩
          rw [hz] at HZ0 HAt
          have HA := Lib.hid HAt
          clear HAt hz
          unfold I.val Id.idV at HA
          have HX := Lib.hid (fun W' => implMaxI_any m z W')
          obtain ⟨y, hy⟩ : ∃ y, m.max z = y := ⟨_, rfl⟩
          rw [hy] at HZ0 HX
          clear hy
          unfold I.val Id.idV at HX
          obtain ⟨r0, r1, r2⟩ := hRB.cells
          clear hRB
          gi_wp2
          have r0' : wr.drew.cell? ⟨W.heap.size, 0, none⟩ = some (.int .i64 m.c) := r0
          have r1' : wr.drew.cell? ⟨W.heap.size, 1, none⟩ = some (.int .i64 m.s) := r1
          have r2' : wr.drew.cell? ⟨W.heap.size, 2, none⟩ = some (.int .i64 m.e) := r2
          refine regionIn_held (S := fun _ => True) (by kernel_rfl) (noDefer_of (by kernel_rfl)) trivial (fun hHeld => ?_)
          refine wpAnyH_take (i := 1) (v := ?_) rfl (by kernel_rfl) (by kernel_rfl) (by kernel_rfl) (fun _ _ _ h => h) (Or.inl ⟨by rfl, ?_⟩) hHeld ?_
          rotate_left
          · intro V hSw
            go_simp
            try with_reducible rfl
          try simp only [Act.put, List.setIfInBounds_toArray, List.set_cons_zero, List.set_cons_succ, List.getElem_toArray, List.getElem_cons_succ, List.getElem_cons_zero]
          refine wpAnyH_take (i := 2) (v := ?_) rfl (by kernel_rfl) (by kernel_rfl) (by kernel_rfl) (fun _ _ _ h => h) (Or.inl ⟨by rfl, ?_⟩) hHeld ?_
          rotate_left
          · intro V hSw
            go_simp
            try with_reducible rfl
          try simp only [Act.put, List.setIfInBounds_toArray, List.set_cons_zero, List.set_cons_succ, List.getElem_toArray, List.getElem_cons_succ, List.getElem_cons_zero]
          refine wpAnyH_ready (rs := [0, 3]) (by kernel_rfl) (by simp) ?_
          refine AllReadyH.cons rfl (fun K hK => ?_) (AllReadyH.cons rfl (fun K hK => ?_) AllReadyH.nil)
          · go_simp
            refine hK.out _ _ ?_ (fun hHeld => ?_)
            · trivial
            clear hK K
            try simp only [Act.put, List.setIfInBounds_toArray, List.set_cons_zero, List.set_cons_succ, List.getElem_toArray, List.getElem_cons_succ, List.getElem_cons_zero]
            refine wpAnyH_ready (rs := [3]) (by kernel_rfl) (by simp) ?_
            refine AllReadyH.cons rfl (fun K hK => ?_) AllReadyH.nil
            go_simp
            refine (HA.out _ HB.out.drew).mono ?_
            rintro e w1 ⟨rfl, hb1⟩
            have R1 := Lib.hid (Id.IdRow.step (W := wr.drew) RB.out hb1 hRBlt)
            have B1 := Lib.hid (HB.out.drew.trans (hb1.mono hbs))
            obtain ⟨s0, s1, s2⟩ := R1.out.cells
            clear hb1
            refine hK.out _ _ ?_ (fun hHeld => ?_)
            · trivial
            clear hK K
            try simp only [Act.put, List.setIfInBounds_toArray, List.set_cons_zero, List.set_cons_succ, List.getElem_toArray, List.getElem_cons_succ, List.getElem_cons_zero]
            refine wpAnyH_ready (rs := [4]) (by kernel_rfl) (by simp) ?_
            refine AllReadyH.cons rfl (fun K hK => ?_) AllReadyH.nil
            go_simp
            refine (HX.out _).mono ?_
            rintro e w2 ⟨rfl, hb2⟩
            have R2 := Lib.hid (R1.out.step hb2 R1.out.lt)
            have B2 := Lib.hid (B1.out.trans (hb2.mono B1.out.size))
            obtain ⟨t0, t1, t2⟩ := R2.out.cells
            have f0 := Id.id_free (Below.refl _ _) R2.out.lt R2.out 0
            have f1 := Id.id_free (Below.refl _ _) R2.out.lt R2.out 1
            have f2 := Id.id_free (Below.refl _ _) R2.out.lt R2.out 2
            clear hb2
            refine hK.out _ _ ?_ (fun hHeld => ?_)
            · trivial
            clear hK K
            try simp only [Act.put, List.setIfInBounds_toArray, List.set_cons_zero, List.set_cons_succ, List.getElem_toArray, List.getElem_cons_succ, List.getElem_cons_zero]
            refine wpAnyH_ready (rs := [5]) (by kernel_rfl) (by simp) ?_
            refine AllReadyH.cons rfl (fun K hK => ?_) AllReadyH.nil
            go_simp
            refine hK.out _ _ ?_ (fun hHeld => ?_)
            · trivial
            clear hK K
            try simp only [Act.put, List.setIfInBounds_toArray, List.set_cons_zero, List.set_cons_succ, List.getElem_toArray, List.getElem_cons_succ, List.getElem_cons_zero]
            refine wpAnyH_done (by kernel_rfl) ?_ _
            simp only [OnlyN, Exit.inBlock, Exit.then]
            gi_wp2
            go_roundw
            case rel => exact ⟨k + 1, by omega, by go_num, Lib.hid ⟨⟨y, box_set R2.out y, HZ0.out.symm⟩, ((B2.out.setCell (p := ⟨W.heap.size, 0, none⟩) (Nat.le_refl _) _).setCell (p := ⟨W.heap.size, 1, none⟩) (Nat.le_refl _) _).setCell (p := ⟨W.heap.size, 2, none⟩) (Nat.le_refl _) _⟩⟩
            case measure => simp [intOf]; omega
          · go_simp
            refine (HA.out _ HB.out.drew).mono ?_
            rintro e w1 ⟨rfl, hb1⟩
            have R1 := Lib.hid (Id.IdRow.step (W := wr.drew) RB.out hb1 hRBlt)
            have B1 := Lib.hid (HB.out.drew.trans (hb1.mono hbs))
            obtain ⟨s0, s1, s2⟩ := R1.out.cells
            clear hb1
            refine hK.out _ _ ?_ (fun hHeld => ?_)
            · trivial
            clear hK K
            try simp only [Act.put, List.setIfInBounds_toArray, List.set_cons_zero, List.set_cons_succ, List.getElem_toArray, List.getElem_cons_succ, List.getElem_cons_zero]
            refine wpAnyH_ready (rs := [0]) (by kernel_rfl) (by simp) ?_
            refine AllReadyH.cons rfl (fun K hK => ?_) AllReadyH.nil
            go_simp
            refine hK.out _ _ ?_ (fun hHeld => ?_)
            · trivial
            clear hK K
            try simp only [Act.put, List.setIfInBounds_toArray, List.set_cons_zero, List.set_cons_succ, List.getElem_toArray, List.getElem_cons_succ, List.getElem_cons_zero]
            refine wpAnyH_ready (rs := [4]) (by kernel_rfl) (by simp) ?_
            refine AllReadyH.cons rfl (fun K hK => ?_) AllReadyH.nil
            go_simp
            refine (HX.out _).mono ?_
            rintro e w2 ⟨rfl, hb2⟩
            have R2 := Lib.hid (R1.out.step hb2 R1.out.lt)
            have B2 := Lib.hid (B1.out.trans (hb2.mono B1.out.size))
            obtain ⟨t0, t1, t2⟩ := R2.out.cells
            have f0 := Id.id_free (Below.refl _ _) R2.out.lt R2.out 0
            have f1 := Id.id_free (Below.refl _ _) R2.out.lt R2.out 1
            have f2 := Id.id_free (Below.refl _ _) R2.out.lt R2.out 2
            clear hb2
            refine hK.out _ _ ?_ (fun hHeld => ?_)
            · trivial
            clear hK K
            try simp only [Act.put, List.setIfInBounds_toArray, List.set_cons_zero, List.set_cons_succ, List.getElem_toArray, List.getElem_cons_succ, List.getElem_cons_zero]
            refine wpAnyH_ready (rs := [5]) (by kernel_rfl) (by simp) ?_
            refine AllReadyH.cons rfl (fun K hK => ?_) AllReadyH.nil
            go_simp
            refine hK.out _ _ ?_ (fun hHeld => ?_)
            · trivial
            clear hK K
            try simp only [Act.put, List.setIfInBounds_toArray, List.set_cons_zero, List.set_cons_succ, List.getElem_toArray, List.getElem_cons_succ, List.getElem_cons_zero]
            refine wpAnyH_done (by kernel_rfl) ?_ _
            simp only [OnlyN, Exit.inBlock, Exit.then]
            gi_wp2
            go_roundw
            case rel => exact ⟨k + 1, by omega, by go_num, Lib.hid ⟨⟨y, box_set R2.out y, HZ0.out.symm⟩, ((B2.out.setCell (p := ⟨W.heap.size, 0, none⟩) (Nat.le_refl _) _).setCell (p := ⟨W.heap.size, 1, none⟩) (Nat.le_refl _) _).setCell (p := ⟨W.heap.size, 2, none⟩) (Nat.le_refl _) _⟩⟩
            case measure => simp [intOf]; omega
        · have HDx := Lib.hid (show withMost (ls.map (·.l)) x.1 = ⟨x.1, m⟩ by unfold withMost; rw [HM.out, List.take_of_length_le (by simp; omega)])
          have HD1 := Lib.hid (box_below HD.out HB.out (by omega))
          have HO1 := Lib.hid (own_step HO.out HB.out (Nat.le_refl _))
          have hlm : ((pre.map (·.1)).map (withMost (ls.map (·.l)))).length = pre.length := by simp
          rw [hlm] at HO1
          clear hRB
          gi_wp2
          have d0' : wr.drew.cell? ⟨w.heap.size + 2, 0, none⟩ = some (slV A ((pre.map (·.1)).map (withMost (ls.map (·.l)))) c) := HD1.out.cell
          refine regionIn_held (S := fun V => Id.IdRow V W.heap.size 58 m.c m.s m.e) (by kernel_rfl) (noDefer_of (by kernel_rfl)) RB.out (fun hHeld => ?_)
          refine wpAnyH_take (i := 1) (v := ?_) rfl (by kernel_rfl) (by kernel_rfl) (by kernel_rfl) (fun _ _ _ h => h) (Or.inl ⟨by rfl, ?_⟩) hHeld ?_
          rotate_left
          · intro V hSw
            go_simp
            try with_reducible rfl
          try simp only [Act.put, List.setIfInBounds_toArray, List.set_cons_zero, List.set_cons_succ, List.getElem_toArray, List.getElem_cons_succ, List.getElem_cons_zero]
          refine wpAnyH_take (i := 3) (v := ?_) rfl (by kernel_rfl) (by kernel_rfl) (by kernel_rfl) (fun _ _ _ h => h) (Or.inl ⟨by rfl, ?_⟩) hHeld ?_
          rotate_left
          · intro V hSw
            obtain ⟨hs0, hs1, hs2⟩ := Id.IdRow.cells hSw
            go_simp
            try with_reducible rfl
          try simp only [Act.put, List.setIfInBounds_toArray, List.set_cons_zero, List.set_cons_succ, List.getElem_toArray, List.getElem_cons_succ, List.getElem_cons_zero]
          refine wpAnyH_ready (rs := [0, 2]) (by kernel_rfl) (by simp) ?_
          refine AllReadyH.cons rfl (fun K hK => ?_) (AllReadyH.cons rfl (fun K hK => ?_) AllReadyH.nil)
          · go_simp
            refine hK.out _ _ ?_ (fun hHeld => ?_)
            · exact hHeld
            clear hK K
            try simp only [Act.put, List.setIfInBounds_toArray, List.set_cons_zero, List.set_cons_succ, List.getElem_toArray, List.getElem_cons_succ, List.getElem_cons_zero]
            refine wpAnyH_ready (rs := [2]) (by kernel_rfl) (by simp) ?_
            refine AllReadyH.cons rfl (fun K hK => ?_) AllReadyH.nil
            go_simp
            refine (clone_any x.1 _ x.2).mono ?_
            rintro e w1 ⟨rfl, hb1⟩
            have R1 := Lib.hid (Id.IdRow.step (W := wr.drew) RB.out hb1 hRBlt)
            have B1 := Lib.hid (HB.out.drew.trans (hb1.mono hbs))
            have D1 := Lib.hid (box_below (W := wr.drew) HD1.out hb1 HD1.out.lt)
            have O1 := Lib.hid (own_step (w := wr.drew) HO1.out hb1 (Nat.le_refl _))
            have d1 := D1.out.cell
            have d1a := (D1.out.alloc (D.obj ⟨x.1, m⟩)).cell
            clear hb1
            refine hK.out _ _ ?_ (fun hHeld => ?_)
            · exact R1.out
            clear hK K
            try simp only [Act.put, List.setIfInBounds_toArray, List.set_cons_zero, List.set_cons_succ, List.getElem_toArray, List.getElem_cons_succ, List.getElem_cons_zero]
            refine wpAnyH_take (i := 4) (v := ?_) rfl (by kernel_rfl) (by kernel_rfl) (by kernel_rfl) (fun _ _ _ h => h) (Or.inl ⟨by rfl, ?_⟩) hHeld ?_
            rotate_left
            · intro V hSw
              go_simp
              try with_reducible rfl
            try simp only [Act.put, List.setIfInBounds_toArray, List.set_cons_zero, List.set_cons_succ, List.getElem_toArray, List.getElem_cons_succ, List.getElem_cons_zero]
            refine wpAnyH_ready (rs := [5]) (by kernel_rfl) (by simp) ?_
            refine AllReadyH.cons rfl (fun K hK => ?_) AllReadyH.nil
            go_simp
            refine hK.out _ _ ?_ (fun hHeld => ?_)
            · exact R1.out.alloc _
            clear hK K
            try simp only [Act.put, List.setIfInBounds_toArray, List.set_cons_zero, List.set_cons_succ, List.getElem_toArray, List.getElem_cons_succ, List.getElem_cons_zero]
            refine wpAnyH_ready (rs := [6]) (by kernel_rfl) (by simp) ?_
            refine AllReadyH.cons rfl (fun K hK => ?_) AllReadyH.nil
            refine wanted_in (by rfl) ?_
            refine wp_append_deps rfl rfl [⟨x.1, m⟩] rfl rfl rfl (own_alloc O1.out (D.obj ⟨x.1, m⟩)) (one_lies _ ⟨x.1, m⟩) (by simp; omega) (by have := B1.out.size; simp; omega) ?_
            intro v2 w2 ho2 hg2
            obtain ⟨hn2, A2, c2, rfl, hc2, _⟩ := own_lies ho2
            have R2 := Lib.hid ((hg2.block W.heap.size (R1.out.alloc (D.obj ⟨x.1, m⟩)).lt (id_not_row (R1.out.alloc (D.obj ⟨x.1, m⟩)) (own_alloc O1.out (D.obj ⟨x.1, m⟩)))).trans (R1.out.alloc (D.obj ⟨x.1, m⟩)))
            have B2 := Lib.hid (((Below.refl (w.heap.size + 4) w1).alloc (by have := B1.out.size; omega) (D.obj ⟨x.1, m⟩)).grown hg2 (by have := B1.out.size; simp; omega) (ownBlock_base O1.out))
            have K2 := Lib.hid (keeps_own hg2 (own_alloc O1.out (D.obj ⟨x.1, m⟩)))
            have D2 := Lib.hid (box_below D1.out B2.out (by omega))
            have O2 := Lib.hid ho2
            have d2 := D2.out.cell
            have f2 := D2.out.frozen
            clear ho2 hg2
            unfold slV
            refine hK.out _ _ ?_ (fun hHeld => ?_)
            · exact R2.out
            clear hK K
            try simp only [Act.put, List.setIfInBounds_toArray, List.set_cons_zero, List.set_cons_succ, List.getElem_toArray, List.getElem_cons_succ, List.getElem_cons_zero]
            refine wpAnyH_ready (rs := [7]) (by kernel_rfl) (by simp) ?_
            refine AllReadyH.cons rfl (fun K hK => ?_) AllReadyH.nil
            go_simp
            refine hK.out _ _ ?_ (fun hHeld => ?_)
            · exact id_set_other R2.out (by show W.heap.size ≠ w.heap.size + 2; omega) _
            clear hK K
            try simp only [Act.put, List.setIfInBounds_toArray, List.set_cons_zero, List.set_cons_succ, List.getElem_toArray, List.getElem_cons_succ, List.getElem_cons_zero]
            refine wpAnyH_done (by kernel_rfl) ?_ _
            simp only [OnlyN, Exit.inBlock]
            gi_wp2
            exact round_end rfl HS0.out HW.out B1.out K2.out B2.out O2.out D2.out HDx.out (by omega) (by simp) (by simp)
          · go_simp
            refine (clone_any x.1 _ x.2).mono ?_
            rintro e w1 ⟨rfl, hb1⟩
            have R1 := Lib.hid (Id.IdRow.step (W := wr.drew) RB.out hb1 hRBlt)
            have B1 := Lib.hid (HB.out.drew.trans (hb1.mono hbs))
            have D1 := Lib.hid (box_below (W := wr.drew) HD1.out hb1 HD1.out.lt)
            have O1 := Lib.hid (own_step (w := wr.drew) HO1.out hb1 (Nat.le_refl _))
            have d1 := D1.out.cell
            have d1a := (D1.out.alloc (D.obj ⟨x.1, m⟩)).cell
            clear hb1
            refine hK.out _ _ ?_ (fun hHeld => ?_)
            · exact R1.out
            clear hK K
            try simp only [Act.put, List.setIfInBounds_toArray, List.set_cons_zero, List.set_cons_succ, List.getElem_toArray, List.getElem_cons_succ, List.getElem_cons_zero]
            refine wpAnyH_take (i := 4) (v := ?_) rfl (by kernel_rfl) (by kernel_rfl) (by kernel_rfl) (fun _ _ _ h => h) (Or.inl ⟨by rfl, ?_⟩) hHeld ?_
            rotate_left
            · intro V hSw
              go_simp
              try with_reducible rfl
            try simp only [Act.put, List.setIfInBounds_toArray, List.set_cons_zero, List.set_cons_succ, List.getElem_toArray, List.getElem_cons_succ, List.getElem_cons_zero]
            refine wpAnyH_ready (rs := [0, 5]) (by kernel_rfl) (by simp) ?_
            refine AllReadyH.cons rfl (fun K hK => ?_) (AllReadyH.cons rfl (fun K hK => ?_) AllReadyH.nil)
            · go_simp
              refine hK.out _ _ ?_ (fun hHeld => ?_)
              · exact hHeld
              clear hK K
              try simp only [Act.put, List.setIfInBounds_toArray, List.set_cons_zero, List.set_cons_succ, List.getElem_toArray, List.getElem_cons_succ, List.getElem_cons_zero]
              refine wpAnyH_ready (rs := [5]) (by kernel_rfl) (by simp) ?_
              refine AllReadyH.cons rfl (fun K hK => ?_) AllReadyH.nil
              go_simp
              refine hK.out _ _ ?_ (fun hHeld => ?_)
              · exact R1.out.alloc _
              clear hK K
              try simp only [Act.put, List.setIfInBounds_toArray, List.set_cons_zero, List.set_cons_succ, List.getElem_toArray, List.getElem_cons_succ, List.getElem_cons_zero]
              refine wpAnyH_ready (rs := [6]) (by kernel_rfl) (by simp) ?_
              refine AllReadyH.cons rfl (fun K hK => ?_) AllReadyH.nil
              refine wanted_in (by rfl) ?_
              refine wp_append_deps rfl rfl [⟨x.1, m⟩] rfl rfl rfl (own_alloc O1.out (D.obj ⟨x.1, m⟩)) (one_lies _ ⟨x.1, m⟩) (by simp; omega) (by have := B1.out.size; simp; omega) ?_
              intro v2 w2 ho2 hg2
              obtain ⟨hn2, A2, c2, rfl, hc2, _⟩ := own_lies ho2
              have R2 := Lib.hid ((hg2.block W.heap.size (R1.out.alloc (D.obj ⟨x.1, m⟩)).lt (id_not_row (R1.out.alloc (D.obj ⟨x.1, m⟩)) (own_alloc O1.out (D.obj ⟨x.1, m⟩)))).trans (R1.out.alloc (D.obj ⟨x.1, m⟩)))
              have B2 := Lib.hid (((Below.refl (w.heap.size + 4) w1).alloc (by have := B1.out.size; omega) (D.obj ⟨x.1, m⟩)).grown hg2 (by have := B1.out.size; simp; omega) (ownBlock_base O1.out))
              have K2 := Lib.hid (keeps_own hg2 (own_alloc O1.out (D.obj ⟨x.1, m⟩)))
              have D2 := Lib.hid (box_below D1.out B2.out (by omega))
              have O2 := Lib.hid ho2
              have d2 := D2.out.cell
              have f2 := D2.out.frozen
              clear ho2 hg2
              unfold slV
              refine hK.out _ _ ?_ (fun hHeld => ?_)
              · exact R2.out
              clear hK K
              try simp only [Act.put, List.setIfInBounds_toArray, List.set_cons_zero, List.set_cons_succ, List.getElem_toArray, List.getElem_cons_succ, List.getElem_cons_zero]
              refine wpAnyH_ready (rs := [7]) (by kernel_rfl) (by simp) ?_
              refine AllReadyH.cons rfl (fun K hK => ?_) AllReadyH.nil
              go_simp
              refine hK.out _ _ ?_ (fun hHeld => ?_)
              · exact id_set_other R2.out (by show W.heap.size ≠ w.heap.size + 2; omega) _
              clear hK K
              try simp only [Act.put, List.setIfInBounds_toArray, List.set_cons_zero, List.set_cons_succ, List.getElem_toArray, List.getElem_cons_succ, List.getElem_cons_zero]
              refine wpAnyH_done (by kernel_rfl) ?_ _
              simp only [OnlyN, Exit.inBlock]
              gi_wp2
              exact round_end rfl HS0.out HW.out B1.out K2.out B2.out O2.out D2.out HDx.out (by omega) (by simp) (by simp)
            · go_simp
              refine hK.out _ _ ?_ (fun hHeld => ?_)
              · exact R1.out.alloc _
              clear hK K
              try simp only [Act.put, List.setIfInBounds_toArray, List.set_cons_zero, List.set_cons_succ, List.getElem_toArray, List.getElem_cons_succ, List.getElem_cons_zero]
              refine wpAnyH_ready (rs := [0]) (by kernel_rfl) (by simp) ?_
              refine AllReadyH.cons rfl (fun K hK => ?_) AllReadyH.nil
              go_simp
              refine hK.out _ _ ?_ (fun hHeld => ?_)
              · exact hHeld
              clear hK K
              try simp only [Act.put, List.setIfInBounds_toArray, List.set_cons_zero, List.set_cons_succ, List.getElem_toArray, List.getElem_cons_succ, List.getElem_cons_zero]
              refine wpAnyH_ready (rs := [6]) (by kernel_rfl) (by simp) ?_
              refine AllReadyH.cons rfl (fun K hK => ?_) AllReadyH.nil
              refine wanted_in (by rfl) ?_
              refine wp_append_deps rfl rfl [⟨x.1, m⟩] rfl rfl rfl (own_alloc O1.out (D.obj ⟨x.1, m⟩)) (one_lies _ ⟨x.1, m⟩) (by simp; omega) (by have := B1.out.size; simp; omega) ?_
              intro v2 w2 ho2 hg2
              obtain ⟨hn2, A2, c2, rfl, hc2, _⟩ := own_lies ho2
              have R2 := Lib.hid ((hg2.block W.heap.size (R1.out.alloc (D.obj ⟨x.1, m⟩)).lt (id_not_row (R1.out.alloc (D.obj ⟨x.1, m⟩)) (own_alloc O1.out (D.obj ⟨x.1, m⟩)))).trans (R1.out.alloc (D.obj ⟨x.1, m⟩)))
              have B2 := Lib.hid (((Below.refl (w.heap.size + 4) w1).alloc (by have := B1.out.size; omega) (D.obj ⟨x.1, m⟩)).grown hg2 (by have := B1.out.size; simp; omega) (ownBlock_base O1.out))
              have K2 := Lib.hid (keeps_own hg2 (own_alloc O1.out (D.obj ⟨x.1, m⟩)))
              have D2 := Lib.hid (box_below D1.out B2.out (by omega))
              have O2 := Lib.hid ho2
              have d2 := D2.out.cell
              have f2 := D2.out.frozen
              clear ho2 hg2
              unfold slV
              refine hK.out _ _ ?_ (fun hHeld => ?_)
              · exact R2.out
              clear hK K
              try simp only [Act.put, List.setIfInBounds_toArray, List.set_cons_zero, List.set_cons_succ, List.getElem_toArray, List.getElem_cons_succ, List.getElem_cons_zero]
              refine wpAnyH_ready (rs := [7]) (by kernel_rfl) (by simp) ?_
              refine AllReadyH.cons rfl (fun K hK => ?_) AllReadyH.nil
              go_simp
              refine hK.out _ _ ?_ (fun hHeld => ?_)
              · exact id_set_other R2.out (by show W.heap.size ≠ w.heap.size + 2; omega) _
              clear hK K
              try simp only [Act.put, List.setIfInBounds_toArray, List.set_cons_zero, List.set_cons_succ, List.getElem_toArray, List.getElem_cons_succ, List.getElem_cons_zero]
              refine wpAnyH_done (by kernel_rfl) ?_ _
              simp only [OnlyN, Exit.inBlock]
              gi_wp2
              exact round_end rfl HS0.out HW.out B1.out K2.out B2.out O2.out D2.out HDx.out (by omega) (by simp) (by simp)
  case done =>
    rintro DD xs W hD rfl hI hK
    obtain ⟨hb, hr, ⟨A, c, hd, hown⟩, h6, hB, hsz⟩ := hI
    rw [List.length_map] at h6
    have hd0 := hd.cell
    unfold slV at hd0
    rw [List.length_map, List.length_map] at hd0
    obtain ⟨r0, r1⟩ := hr.cells
    have f0 := hr.free 0
    have f1 := hr.free 1
    have HR := Lib.hid hr
    have HB := Lib.hid hB
    have HO := Lib.hid hown
    have hKK := Lib.hid hK
    clear hr hB hown hd
    gi_wp2
    have hnr : ∀ V : World, V.heap[DD]? = some (.deferred (some [])) → ∀ r, some DD = some r → ∃ o : Obj, V.heap[r]? = some o ∧ o.isCells = false := fun V h r e => by cases e; exact ⟨_, h, rfl⟩
    have hK1 := ((KeepsOthers.setCell W ⟨w.heap.size + 1, 0, none⟩ (.slice A xs.length c)).trans (KeepsOthers.setCell _ ⟨w.heap.size + 1, 1, none⟩ (.int .i64 0))).same DD _ hKK.out rfl
    refine ⟨by simp, .inl ⟨_, _, rfl, run_takeDeferred hK1, ?_⟩⟩
    have hR2 := cells_kept (grownBy_putObj' _ DD (.deferred none)) (hnr _ hK1) (orow_put HR.out (.slice A xs.length c) 0)
    obtain ⟨q0, q1⟩ := ORow.cells hR2
    refine ⟨outV (.slice A xs.length c) 0, by simp [results, Try.results63, go_sem, outV, q0, q1], ?_, fun h => absurd h (by omega)⟩
    intro _
    have hO2 := own_kept (grownBy_putObj' _ DD (.deferred none)) (hnr _ hK1) (own_set2 HO.out (b := w.heap.size + 1) (by omega) (.slice A xs.length c) (.int .i64 0))
    have hB2 := ((HB.out.setCell (p := ⟨w.heap.size + 1, 0, none⟩) (Nat.le_succ _) (.slice A xs.length c)).setCell (p := ⟨w.heap.size + 1, 1, none⟩) (Nat.le_succ _) (.int .i64 0)).trans (belowK_b (w := w) (Nat.le_refl _) _ DD _ (.deferred none) (by omega) hK1 rfl rfl)
    have hfin := Answers.row (c := 0) (own_less hO2 (by omega)) hB2
    unfold slV at hfin
    rw [List.length_map, List.length_map] at hfin
    exact hfin
  case stop =>
    rintro DD c pre W hD hp ⟨rfl, hr, h6, hB⟩ hK
    obtain ⟨r0, r1⟩ := hr.cells
    gi_wp2
    have hnr : ∀ V : World, V.heap[DD]? = some (.deferred (some [])) → ∀ r, some DD = some r → ∃ o : Obj, V.heap[r]? = some o ∧ o.isCells = false := fun V h r e => by cases e; exact ⟨_, h, rfl⟩
    refine ⟨by simp, .inl ⟨_, _, rfl, run_takeDeferred hK, ?_⟩⟩
    have hR2 := cells_kept (grownBy_putObj' _ DD (.deferred none)) (hnr _ hK) hr
    obtain ⟨q0, q1⟩ := ORow.cells hR2
    have hlen := hp.length_le
    rw [List.length_map] at h6
    refine ⟨outV (.slice none 0 0) 9, by simp [results, Try.results63, go_sem, outV, q0, q1], fun h => absurd h (by omega), ?_⟩
    intro _
    exact Answers.nil (hB.trans (belowK_b (w := w) (Nat.le_refl _) _ DD _ (.deferred none) (by omega) hK rfl rfl))
end Go.Proofs.Ytegnjbdgeibhfaa.Dep
