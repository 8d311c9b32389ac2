/-
  Of each row key and Id: spec.Digest, impl.Digest.
-/
import Derived.Test.YtlhebgfiljmeiaaRowIRight
import Derived.Test.YtlhebgfiljmeiaaDepIJoin
import Derived.Test.YtlhebgfiljmeiaaDepHeld
import Derived.Deep.DeepCutAuto
namespace Go.Proofs.Ytlhebgfiljmeiaa.Sto
open Go.ChangeShapes Go.WideShapes Go.ChangeAt Go.RowKit
open Dep (I D zero kl list_eq)
set_option linter.unusedVariables false
set_option maxRecDepth 100000
set_option linter.unusedSimpArgs false

noncomputable def digV (l : List R) : List D := if rowsB l = true then deps l else []
theorem dig_true {l : List R} (h : rowsB l = true) : digV l = deps l := by unfold digV; rw [if_pos h]
theorem dig_false {l : List R} (h : rowsB l = false) : digV l = [] := by unfold digV; rw [if_neg (by rw [h]; decide)]
theorem dig_len (l : List R) : (digV l).length ≤ 6 := by
  cases h : rowsB l
  · rw [dig_false h]; simp
  · rw [dig_true h, deps_len]; exact (ok_of h).1

theorem ok_nil : rowsB [] = true := rowsB_true ⟨by simp, fun r hr => (by cases hr), List.Pairwise.nil⟩
theorem dig_take {l : List R} {k : Nat} (hk : k < l.length) : deps (l.take (k + 1)) = deps (l.take k) ++ [⟨l[k].k, l[k].i⟩] := deps_step l k hk

set_option maxHeartbeats 8000000 in
theorem specDigest_any (A : Option Addr) (l : List R) (cap : Nat) (w : World) (h : Lies w w.heap.size A l) (hl : l.length ≤ maxLen) (hk : ∀ d ∈ l, Fits d) :
    Calls Try.prog 29 #[slV A l cap] w fun e w' => ∃ A' c, e = .returned (Dep.slV A' (digV l) c) ∧ Dep.Held w' A' (digV l) w.heap.size w'.heap.size ∧ Below w.heap.size w w' := by
  have hl2 := hl
  unfold maxLen at hl2
  have H := Lib.hid h
  have HS := Lib.hid (fun W (hW : Below w.heap.size w W) => specStore_any A l cap W ((h.below hW (Nat.le_refl _)).more hW.size) hl hk)
  clear h hk
  unfold slV at *
  have B0 := Lib.hid ((Below.refl w.heap.size w).alloc (Nat.le_refl _) (Obj.cells #[] 70))
  have O0 := Lib.hid (Dep.own_none w)
  cases hr : rowsB l
  · have HV := Lib.hid (dig_false hr)
    have hp : 0 < l.length := by
      cases l with
      | nil => rw [ok_nil] at hr; cases hr
      | cons x l => simp
    rw [hr] at HS
    clear hr
    go_enter Try.func29, Try.ntmps29
    go_wp2_with fail
    generalize World.alloc w _ = W0 at B0 O0 ⊢
    refine wp_loop_rounds 1 ?_
    rw [rounds_succ]
    have hp0 : (0 : Int) < l.length := by omega
    go_wp2_with fail
    refine (HS.out _ B0.out).mono ?_
    rintro e w1 ⟨rfl, hb1⟩
    have O1 := Lib.hid (Dep.own_step O0.out hb1 (Nat.le_refl _))
    have B1 := Lib.hid (B0.out.trans (hb1.mono B0.out.size))
    clear hb1
    go_wp2_with fail
    go_ret
    rw [HV.out]
    exact ⟨_, 0, rfl, Dep.Held.of_own (l := []) O1.out, B1.out⟩
  · have HV := Lib.hid (dig_true hr)
    have HO6 := Lib.hid (ok_of hr)
    have hl6 : l.length ≤ 6 := HO6.out.1
    rw [hr] at HS
    clear hr
    go_enter Try.func29, Try.ntmps29
    go_wp2_with fail
    generalize World.alloc w _ = W0 at B0 O0 ⊢
    go_loopw [3, 4] (fun o i wr => ∃ k : Nat, k ≤ l.length ∧ i = .int .i64 k ∧ Hid (wr.ownsRow w.heap.size 70 4 o k (Dep.flat (deps (l.take k))) ∧ Below w.heap.size w wr)) (fun _ i _ => l.length - (intOf i).toNat)
    case atStart => exact ⟨0, by omega, rfl, Lib.hid ⟨O0.out, B0.out⟩⟩
    case round =>
      obtain ⟨k, hk, rfl, HR⟩ := hrel
      by_cases hlt : k < l.length
      · have hlti : (k : Int) < l.length := by omega
        go_wp2_with fail
        refine (HS.out _ HR.out.2).mono ?_
        rintro e w1 ⟨rfl, hb1⟩
        have O1 := Lib.hid (Dep.own_step HR.out.1 hb1 (Nat.le_refl _))
        have B1 := Lib.hid (HR.out.2.trans (hb1.mono HR.out.2.size))
        clear hb1
        obtain ⟨ad, rfl, _, _⟩ := (H.out.below B1.out (Nat.le_refl _)).at_ hlt
        have HST := Lib.hid (dig_take hlt)
        have HL : Hid (∀ W, Below w.heap.size w W → At W (ad.add (k * 5)) l[k]) := Lib.hid fun W hW => by
          obtain ⟨ad', e, _, hat⟩ := (H.out.below hW (Nat.le_refl _)).at_ hlt
          cases e
          exact hat
        obtain ⟨y, hy⟩ : ∃ y, l[k] = y := ⟨_, rfl⟩
        rw [hy] at HST HL
        clear hy
        go_wp2_with fail
        refine wp_region_held_drew (S := (fun W => Below w.heap.size w W)) (by kernel_rfl) ?_ (fun hHeld => ?_)
        · exact B1.out.drew
        refine wpAnyH_take (i := 0) (v := ?_) rfl (by kernel_rfl) (by kernel_rfl) (by kernel_rfl) (fun _ _ _ h => h) (Or.inl ⟨by rfl, ?_⟩) hHeld ?_
        rotate_left
        · intro W hSw
          obtain ⟨hs1, hs2, hs3, hs4, hs5⟩ := HL.out W hSw
          go_simp
          try with_reducible rfl
        try simp only [Act.put, List.setIfInBounds_toArray, List.set_cons_zero, List.set_cons_succ, List.getElem_toArray, List.getElem_cons_zero]
        refine wpAnyH_take (i := 1) (v := ?_) rfl (by kernel_rfl) (by kernel_rfl) (by kernel_rfl) (fun _ _ _ h => h) (Or.inl ⟨by rfl, ?_⟩) hHeld ?_
        rotate_left
        · intro W hSw
          obtain ⟨hs1, hs2, hs3, hs4, hs5⟩ := HL.out W hSw
          go_simp
          try with_reducible rfl
        try simp only [Act.put, List.setIfInBounds_toArray, List.set_cons_zero, List.set_cons_succ, List.getElem_toArray, List.getElem_cons_succ, List.getElem_cons_zero]
        refine wpAnyH_take (i := 2) (v := ?_) rfl (by kernel_rfl) (by kernel_rfl) (by kernel_rfl) (fun _ _ _ h => h) (Or.inl ⟨by rfl, ?_⟩) hHeld ?_
        rotate_left
        · intro W hSw
          obtain ⟨hs1, hs2, hs3, hs4, hs5⟩ := HL.out W hSw
          go_simp
          try with_reducible rfl
        try simp only [Act.put, List.setIfInBounds_toArray, List.set_cons_zero, List.set_cons_succ, List.getElem_toArray, List.getElem_cons_succ, List.getElem_cons_zero]
        refine wpAnyH_take (i := 3) (v := ?_) rfl (by kernel_rfl) (by kernel_rfl) (by kernel_rfl) (fun _ _ _ h => h) (Or.inl ⟨by rfl, ?_⟩) hHeld ?_
        rotate_left
        · intro W hSw
          obtain ⟨hs1, hs2, hs3, hs4, hs5⟩ := HL.out W hSw
          go_simp
          try with_reducible rfl
        try simp only [Act.put, List.setIfInBounds_toArray, List.set_cons_zero, List.set_cons_succ, List.getElem_toArray, List.getElem_cons_succ, List.getElem_cons_zero]
        refine wpAnyH_take (i := 4) (v := ?_) rfl (by kernel_rfl) (by kernel_rfl) (by kernel_rfl) (fun _ _ _ h => h) (Or.inl ⟨by rfl, ?_⟩) hHeld ?_
        rotate_left
        · intro W hSw
          obtain ⟨hs1, hs2, hs3, hs4, hs5⟩ := HL.out W hSw
          go_simp
          try with_reducible rfl
        try simp only [Act.put, List.setIfInBounds_toArray, List.set_cons_zero, List.set_cons_succ, List.getElem_toArray, List.getElem_cons_succ, List.getElem_cons_zero]
        refine wpAnyH_take (i := 5) (v := ?_) rfl (by kernel_rfl) (by kernel_rfl) (by kernel_rfl) (fun _ _ _ h => h) (Or.inl ⟨by rfl, ?_⟩) hHeld ?_
        rotate_left
        · intro W hSw
          obtain ⟨hs1, hs2, hs3, hs4, hs5⟩ := HL.out W hSw
          go_simp
          try with_reducible rfl
        try simp only [Act.put, List.setIfInBounds_toArray, List.set_cons_zero, List.set_cons_succ, List.getElem_toArray, List.getElem_cons_succ, List.getElem_cons_zero]
        refine wpAnyH_take (i := 6) (v := ?_) rfl (by kernel_rfl) (by kernel_rfl) (by kernel_rfl) (fun _ _ _ h => h) (Or.inl ⟨by rfl, ?_⟩) hHeld ?_
        rotate_left
        · intro W hSw
          obtain ⟨hs1, hs2, hs3, hs4, hs5⟩ := HL.out W hSw
          go_simp
          try with_reducible rfl
        try simp only [Act.put, List.setIfInBounds_toArray, List.set_cons_zero, List.set_cons_succ, List.getElem_toArray, List.getElem_cons_succ, List.getElem_cons_zero]
        refine wpAnyH_take (i := 7) (v := ?_) rfl (by kernel_rfl) (by kernel_rfl) (by kernel_rfl) (fun _ _ _ h => h) (Or.inl ⟨by rfl, ?_⟩) hHeld ?_
        rotate_left
        · intro W hSw
          obtain ⟨hs1, hs2, hs3, hs4, hs5⟩ := HL.out W hSw
          go_simp
          try with_reducible rfl
        try simp only [Act.put, List.setIfInBounds_toArray, List.set_cons_zero, List.set_cons_succ, List.getElem_toArray, List.getElem_cons_succ, List.getElem_cons_zero]
        refine wpAnyH_take (i := 8) (v := ?_) rfl (by kernel_rfl) (by kernel_rfl) (by kernel_rfl) (fun _ _ _ h => h) (Or.inl ⟨by rfl, ?_⟩) hHeld ?_
        rotate_left
        · intro W hSw
          obtain ⟨hs1, hs2, hs3, hs4, hs5⟩ := HL.out W hSw
          go_simp
          try with_reducible rfl
        try simp only [Act.put, List.setIfInBounds_toArray, List.set_cons_zero, List.set_cons_succ, List.getElem_toArray, List.getElem_cons_succ, List.getElem_cons_zero]
        refine wpAnyH_take (i := 9) (v := ?_) rfl (by kernel_rfl) (by kernel_rfl) (by kernel_rfl) (fun _ _ _ h => h) (Or.inl ⟨by rfl, ?_⟩) hHeld ?_
        rotate_left
        · intro W hSw
          obtain ⟨hs1, hs2, hs3, hs4, hs5⟩ := HL.out W hSw
          go_simp
          try with_reducible rfl
        try simp only [Act.put, List.setIfInBounds_toArray, List.set_cons_zero, List.set_cons_succ, List.getElem_toArray, List.getElem_cons_succ, List.getElem_cons_zero]
        refine wpAnyH_take (i := 10) (v := ?_) rfl (by kernel_rfl) (by kernel_rfl) (by kernel_rfl) (fun _ _ _ h => h) (Or.inl ⟨by rfl, ?_⟩) hHeld ?_
        rotate_left
        · intro W hSw
          obtain ⟨hs1, hs2, hs3, hs4, hs5⟩ := HL.out W hSw
          go_simp
          try with_reducible rfl
        try simp only [Act.put, List.setIfInBounds_toArray, List.set_cons_zero, List.set_cons_succ, List.getElem_toArray, List.getElem_cons_succ, List.getElem_cons_zero]
        refine wpAnyH_take (i := 11) (v := ?_) rfl (by kernel_rfl) (by kernel_rfl) (by kernel_rfl) (fun _ _ _ h => h) (Or.inl ⟨by rfl, ?_⟩) hHeld ?_
        rotate_left
        · intro W hSw
          obtain ⟨hs1, hs2, hs3, hs4, hs5⟩ := HL.out W hSw
          go_simp
          try with_reducible rfl
        try simp only [Act.put, List.setIfInBounds_toArray, List.set_cons_zero, List.set_cons_succ, List.getElem_toArray, List.getElem_cons_succ, List.getElem_cons_zero]
        refine wpAnyH_ready (rs := [12]) (by kernel_rfl) (by simp) ?_
        refine AllReadyH.cons rfl (fun K hK => ?_) AllReadyH.nil
        have HB8 := B1
        have HO := Lib.hid O1.out
        go_simp
        refine hK.out _ _ ?_ (fun hHeld => ?_)
        · exact hHeld.alloc hHeld.size _
        clear hK K
        try simp only [Act.put, List.setIfInBounds_toArray, List.set_cons_zero, List.set_cons_succ, List.getElem_toArray, List.getElem_cons_succ, List.getElem_cons_zero]
        refine wpAnyH_ready (rs := [13]) (by kernel_rfl) (by simp) ?_
        refine AllReadyH.cons rfl (fun K hK => ?_) AllReadyH.nil
        refine Dep.wanted_in (by rfl) ?_
        refine Dep.wp_append_deps rfl rfl [⟨y.k, y.i⟩] rfl rfl rfl (Dep.own_alloc HO.out (Dep.D.obj ⟨y.k, y.i⟩)) (Dep.one_lies _ ⟨y.k, y.i⟩) (by simp; omega) (by have := HB8.out.size; simp; omega) ?_
        intro v2 w2 ho2 hg2
        have hbel := (HB8.out.alloc HB8.out.size (Dep.D.obj ⟨y.k, y.i⟩)).drew.grown hg2 (by have := HB8.out.size; simp; omega) (Dep.ownBlock_base HO.out)
        rw [← HST.out] at ho2
        have O2 := Lib.hid ho2
        clear ho2 hg2
        refine hK.out _ _ ?_ (fun hHeld => ?_)
        · exact hbel
        clear hK K
        try simp only [Act.put, List.setIfInBounds_toArray, List.set_cons_zero, List.set_cons_succ, List.getElem_toArray, List.getElem_cons_succ, List.getElem_cons_zero]
        refine wpAnyH_take (i := 14) (v := ?_) rfl (by kernel_rfl) (by kernel_rfl) (by kernel_rfl) (fun _ _ _ h => h) (Or.inl ⟨by rfl, ?_⟩) hHeld ?_
        rotate_left
        · intro W hSw
          obtain ⟨hs1, hs2, hs3, hs4, hs5⟩ := HL.out W hSw
          go_simp
          try with_reducible rfl
        try simp only [Act.put, List.setIfInBounds_toArray, List.set_cons_zero, List.set_cons_succ, List.getElem_toArray, List.getElem_cons_succ, List.getElem_cons_zero]
        refine wpAnyH_done (by kernel_rfl) ?_ _
        go_wp2_with fail
        go_roundw
        case rel => exact ⟨k + 1, by omega, by go_num, Lib.hid ⟨O2.out, hHeld⟩⟩
        case measure => simp [intOf]; omega
      · have hlti : ¬ (k : Int) < l.length := by omega
        have e : k = l.length := by omega
        go_wp2_with fail
        go_ret
        have h1 := HR.out.1
        rw [List.take_of_length_le (by omega), e, ← deps_len] at h1
        obtain ⟨_, A', c', ev, hc, hL⟩ := Dep.own_lies h1
        rw [ev] at h1
        rw [HV.out]
        refine ⟨A', ⟨c', ?_⟩, Dep.Held.of_own h1, HR.out.2⟩
        rw [← ev]
        rfl

theorem one_lists {w W : World} {A : Option Addr} {a : List D} {ca : Nat} (ha : Dep.Lies w w.heap.size A a) (hW : Below w.heap.size w W) :
    Dep.Lists (W.alloc (Obj.cells #[Value.slice A a.length ca] 50)) (W.alloc (Obj.cells #[Value.slice A a.length ca] 50)).heap.size ⟨W.heap.size, 0, none⟩ [⟨A, a, ca⟩] := by
  have hr := heap_alloc_new W (Obj.cells #[Value.slice A a.length ca] 50)
  have hB : Below w.heap.size w (W.alloc (Obj.cells #[Value.slice A a.length ca] 50)) := hW.alloc hW.size _
  have hs := hB.size
  refine ⟨by simp, fun j hj => ?_, fun j hj => ?_⟩
  · obtain rfl : j = 0 := by simp at hj; omega
    exact cell_of_row _ _ 0 _ _ (0, 0) hr
  · obtain rfl : j = 0 := by simp at hj; omega
    exact (ha.below hB (Nat.le_refl _)).more hs
theorem most_one {l : List D} (hs : Dep.Sorted l) (hg : Dep.Good l) : (l.map D.k).map (Dep.withMost [l]) = l := by
  rw [List.map_map]
  conv => rhs; rw [← List.map_id l]
  refine List.map_congr_left fun d hd => ?_
  have e : Dep.mostV [l] d.k = d.i := by
    show Dep.zero.max (Dep.ofV l d.k) = d.i
    rw [Dep.ofV_mem hs hd, I.zero_max (hg d hd).2]
  show (⟨d.k, Dep.mostV [l] d.k⟩ : D) = d
  rw [e]
theorem field_deps (A : Option Addr) (n c : Nat) (k : Int) (V : World) : (Instr.field 72 (.agg #[.slice A n c, .int .i64 k]) 0).run Try.prog V = .ok (.slice A n c) V := by kernel_rfl

set_option maxHeartbeats 2000000 in
theorem implDigest_any (A : Option Addr) (l : List R) (cap : Nat) (w : World) (h : Lies w w.heap.size A l) (hl : l.length ≤ 1048576) (hk : ∀ d ∈ l, Fits d) :
    Calls Try.prog 30 #[slV A l cap] w fun e w' => ∃ A' c, e = .returned (Dep.slV A' (digV l) c) ∧ Dep.Held w' A' (digV l) w.heap.size w'.heap.size ∧ Below w.heap.size w w' := by
  have H := Lib.hid h
  have HS := Lib.hid (implStore_any A l cap w h hl hk)
  have HM := Lib.hid (fun W (hW : Below w.heap.size w W) => marksOf_any A l cap W ((h.below hW (Nat.le_refl _)).more hW.size) hl)
  clear h hk
  unfold slV at *
  cases hr : rowsB l
  · have HV := Lib.hid (dig_false hr)
    rw [hr] at HS
    clear hr
    go_enter Try.func30, Try.ntmps30
    go_wp2_with fail
    refine HS.out.mono ?_
    rintro e w1 ⟨rfl, hb1⟩
    have B1 := Lib.hid hb1
    clear hb1
    go_wp2_with fail
    go_ret
    rw [HV.out]
    exact ⟨none, 0, rfl, .inl ⟨rfl, rfl⟩, B1.out⟩
  · have HV := Lib.hid (dig_true hr)
    have hok := (ok_iff l).1 (ok_of hr)
    have HO := Lib.hid hok.1
    have hl6 : l.length ≤ 6 := (ok_of hr).1
    rw [hr] at HS
    clear hr hok
    obtain ⟨ks, hks⟩ := Dep.short_keys HO.out.2.1
    have HKS := Lib.hid hks
    have hkl : ks.length ≤ 6 := by
      have := congrArg List.length hks
      simp only [List.length_map, deps_len] at this
      omega
    have HJ : Hid (∀ (A' : Option Addr) (c : Nat) W, Dep.Lies W W.heap.size A' (deps l) → Calls Try.prog 53 #[.slice (some ⟨W.heap.size, 0, none⟩) 1 1] (W.alloc (Obj.cells #[Value.slice A' (deps l).length c] 50)) fun e w' =>
        Dep.Answers (W.alloc (Obj.cells #[Value.slice A' (deps l).length c] 50)) e w' (deps l) 0) := by
      refine Lib.hid fun A' c W hA => ?_
      have hch := Dep.chain_join HO.out (b := []) ⟨by simp, fun d hd => (by cases hd), List.Pairwise.nil⟩
      rw [List.append_nil] at hch
      have hch2 : Dep.Chain (Dep.allOf [⟨A', deps l, c⟩]) (ks.map (·.1)) := by
        rw [hks]
        simpa [Dep.allOf, Dep.joinV] using hch
      have := Dep.all_any ⟨W.heap.size, 0, none⟩ [⟨A', deps l, c⟩] 1 ks hch2 (by simp) (fun j hj => by
        obtain rfl : j = 0 := by simp at hj; omega
        show (deps l).length ≤ maxLen
        rw [deps_len]; unfold maxLen; omega) (W.alloc (Obj.cells #[Value.slice A' (deps l).length c] 50)) (one_lists hA (Below.refl _ _))
      refine this.mono fun e w' hh => ?_
      have h1 := hh.1 hkl
      rw [hks] at h1
      simp only [List.map_cons, List.map_nil] at h1
      rwa [most_one HO.out.2.2 HO.out.2.1] at h1
    go_enter Try.func30, Try.ntmps30
    go_wp2_with fail
    refine HS.out.mono ?_
    rintro e w1 ⟨rfl, hb1⟩
    have B1 := Lib.hid hb1
    clear hb1
    go_wp2_with fail
    refine (HM.out _ B1.out).mono ?_
    rintro e w2 ⟨A', c, rfl, hc, hL, _, hb2⟩
    have B2 := Lib.hid (B1.out.trans (hb2.mono B1.out.size))
    have HJ2 := Lib.hid (HJ.out A' c w2 hL)
    clear hb2 hL hc
    unfold Dep.slV
    go_wp2_with fail
    refine HJ2.out.mono ?_
    rintro e w4 ⟨A2, c2, rfl, ho4, hc4, hL4, hb4⟩
    have HB4 := Lib.hid ((B2.out.alloc B2.out.size (Obj.cells #[Value.slice A' (deps l).length c] 50)).trans (hb4.mono (by have := B2.out.size; simp; omega)))
    have HH := Lib.hid ((Dep.Held.of_own ho4).wide (lo' := w.heap.size) (by have := B2.out.size; simp; omega) (Nat.le_refl _))
    have hfd := fun n k V => field_deps A2 n c2 k V
    unfold Dep.outV Dep.slV
    clear ho4 hc4 hL4 hb4
    go_wp2_with fail
    go_ret
    rw [HV.out]
    exact ⟨A2, c2, rfl, HH.out, HB4.out⟩
end Go.Proofs.Ytlhebgfiljmeiaa.Sto
