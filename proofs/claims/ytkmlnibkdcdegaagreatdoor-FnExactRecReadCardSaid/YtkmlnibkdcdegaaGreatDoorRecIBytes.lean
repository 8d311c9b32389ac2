/-
  A record's bytes: impl.RecBytes.
-/
import Derived.Test.YtkmlnibkdcdegaaGreatDoorRecBytes
import Derived.Test.YtkmlnibkdcdegaaGreatDoorRecIRight
namespace Go.Proofs.YtkmlnibkdcdegaaGreatDoor.Rec
open Go.ChangeShapes Go.WideShapes Go.ChangeAt Go.RowKit
open Dep (D I)
set_option linter.unusedVariables false
set_option maxRecDepth 100000
set_option linter.unusedSimpArgs false

theorem rcdBytes_r (r : R) (w : World) (hi : r.i.right = true) (hk : r.k.size ≤ 8000) (hd : r.d.size ≤ 8000) :
    Calls Tryz.prog 38 #[.agg #[.int .i64 r.i.c, .int .i64 r.i.s, .int .i64 r.i.e, .string r.k, .string r.d, .bool r.g]] w fun x w' => x = .returned (.string (str (hdL r))) ∧ Below w.heap.size w w' := rcdBytes_any r.k r.i r.d r.g r.l r.b w hi hk hd
theorem cells4 {W : World} {b t : Nat} {a0 a1 a2 a3 : Value} (h : Blk W b t #[a0, a1, a2, a3]) : W.cell? ⟨b, 0, none⟩ = some a0 ∧ W.cell? ⟨b, 1, none⟩ = some a1 ∧ W.cell? ⟨b, 2, none⟩ = some a2 ∧ W.cell? ⟨b, 3, none⟩ = some a3 :=
  ⟨h.cell 0, h.cell 1, h.cell 2, h.cell 3⟩
theorem own_eq {w : World} {base n m : Nat} {v : Value} {l l' : List ByteArray} (h : w.ownsRow base 9 1 v n (Str.flat l)) (hn : n = m) (hl : l = l') : w.ownsRow base 9 1 v m (Str.flat l') := by subst hn hl; exact h

set_option maxHeartbeats 8000000 in
theorem implBytes_any (r : R) (p : P) (w : World) (h : Lies w w.heap.size r p) (hs : Sound r) :
    Calls Tryz.prog 16 #[recV r p] w fun x w' => x = .returned (.string (bytesV r)) ∧ Below w.heap.size w w' := by
  have HRC := Lib.hid (fun W (hW : Below w.heap.size w W) => implRec_any r p W (h.step hW (Nat.le_refl _) hW.size) hs)
  have HRO := Lib.hid (fun W => recordOf_any r p W)
  obtain ⟨pA, pca, pB, pcb⟩ := p
  have HLD : Hid (Dep.Lies w w.heap.size pA r.l) := Lib.hid h.1
  have HLS : Hid (Str.Lies w w.heap.size pB r.b) := Lib.hid h.2
  have HB := Lib.hid ((Below.refl w.heap.size w).alloc (Nat.le_refl _) (.cells (cellsV r ⟨pA, pca, pB, pcb⟩) 27))
  have HX := Lib.hid (Blk.new w 27 (cellsV r ⟨pA, pca, pB, pcb⟩))
  clear h hs
  unfold recV at *
  cases er : recB r
  · rw [er] at HRC
    rw [bytes_no er]
    clear er
    go_enter Tryz.func16, Tryz.ntmps16
    go_wp2_with fail
    refine (HRC.out _ HB.out).mono ?_
    rintro e w1 ⟨rfl, hb1⟩
    have HB := Lib.hid (HB.out.trans (hb1.mono HB.out.size))
    clear hb1
    go_wp2_with fail
    go_ret
    exact ⟨rfl, HB.out⟩
  have ho := rec_of er
  rw [er] at HRC
  rw [bytes_ok ho]
  clear er
  have HOK := Lib.hid ho
  have hk4 := key_le ho.1
  have hd8 := (dat_of ho.2.2.1).1
  have hl6 := (Dep.ok_of ho.2.2.2.2.1).1
  have hb4 := (keys_of ho.2.2.2.2.2.1).1
  have HBY := Lib.hid (fun W => rcdBytes_r r W ho.2.1 (by omega) (by omega))
  obtain ⟨p1, hp1⟩ : ∃ p, str (hdL r) = p := ⟨_, rfl⟩
  obtain ⟨p2, hp2⟩ : ∃ p, Num.putS r.l.length = p := ⟨_, rfl⟩
  have HP1 := Lib.hid hp1
  have HP2 := Lib.hid hp2
  have HPS := Lib.hid (show [p1, p2] = psD r 0 by rw [← hp1, ← hp2, put_str]; simp [psD])
  have HL0 := Lib.hid (psD_len r)
  have HLK := Lib.hid (psK_len r)
  clear hp1 hp2 ho
  go_enter Tryz.func16, Tryz.ntmps16
  go_wp2_with fail
  refine (HRC.out _ HB.out).mono ?_
  rintro e w1 ⟨rfl, hb1⟩
  have HB := Lib.hid (HB.out.trans (hb1.mono HB.out.size))
  have HX := Lib.hid (HX.out.on hb1)
  clear hb1
  go_wp2_with fail
  refine wp_region_held_drew (S := (fun W => Blk W w.heap.size 27 (cellsV r ⟨pA, pca, pB, pcb⟩) ∧ Below w.heap.size w W)) (by kernel_rfl) ?_ (fun hHeld => ?_)
  · exact ⟨HX.out, HB.out.drew⟩
  refine wpAnyH_take (i := 0) (v := ?_) rfl (by kernel_rfl) (by kernel_rfl) (by kernel_rfl) (fun _ _ _ h => h) (Or.inl ⟨by rfl, ?_⟩) hHeld ?_
  rotate_left
  · intro W hSw
    obtain ⟨q1, _⟩ := hSw
    obtain ⟨hs1, hs2, hs3, hs4, hs5, hs6, hs7, hs8⟩ := cells8 q1
    go_simp
    try with_reducible rfl
  try simp only [Act.put, List.setIfInBounds_toArray, List.set_cons_zero, List.set_cons_succ, List.getElem_toArray, List.getElem_cons_zero]
  refine wpAnyH_take (i := 3) (v := ?_) rfl (by kernel_rfl) (by kernel_rfl) (by kernel_rfl) (fun _ _ _ h => h) (Or.inl ⟨by rfl, ?_⟩) hHeld ?_
  rotate_left
  · intro W hSw
    obtain ⟨q1, _⟩ := hSw
    obtain ⟨hs1, hs2, hs3, hs4, hs5, hs6, hs7, hs8⟩ := cells8 q1
    go_simp
    try with_reducible rfl
  try simp only [Act.put, List.setIfInBounds_toArray, List.set_cons_zero, List.set_cons_succ, List.getElem_toArray, List.getElem_cons_succ, List.getElem_cons_zero]
  refine wpAnyH_take (i := 4) (v := ?_) rfl (by kernel_rfl) (by kernel_rfl) (by kernel_rfl) (fun _ _ _ h => h) (Or.inl ⟨by rfl, ?_⟩) hHeld ?_
  rotate_left
  · intro W hSw
    obtain ⟨q1, _⟩ := hSw
    obtain ⟨hs1, hs2, hs3, hs4, hs5, hs6, hs7, hs8⟩ := cells8 q1
    go_simp
    try with_reducible rfl
  try simp only [Act.put, List.setIfInBounds_toArray, List.set_cons_zero, List.set_cons_succ, List.getElem_toArray, List.getElem_cons_succ, List.getElem_cons_zero]
  refine wpAnyH_take (i := 5) (v := ?_) rfl (by kernel_rfl) (by kernel_rfl) (by kernel_rfl) (fun _ _ _ h => h) (Or.inl ⟨by rfl, ?_⟩) hHeld ?_
  rotate_left
  · intro W hSw
    obtain ⟨q1, _⟩ := hSw
    obtain ⟨hs1, hs2, hs3, hs4, hs5, hs6, hs7, hs8⟩ := cells8 q1
    go_simp
    try with_reducible rfl
  try simp only [Act.put, List.setIfInBounds_toArray, List.set_cons_zero, List.set_cons_succ, List.getElem_toArray, List.getElem_cons_succ, List.getElem_cons_zero]
  refine wpAnyH_ready (rs := [1]) (by kernel_rfl) (by simp) ?_
  refine AllReadyH.cons rfl (fun K hK => ?_) AllReadyH.nil
  go_simp
  refine (HRO.out _).mono ?_
  rintro e v1 ⟨rfl, hb⟩
  unfold rcdV
  refine hK.out _ _ ?_ (fun hHeld => ?_)
  · first | exact ⟨hHeld.1.on hb, hHeld.2.trans (hb.mono hHeld.2.size)⟩ | assumption
  clear hK K
  try simp only [Act.put, List.setIfInBounds_toArray, List.set_cons_zero, List.set_cons_succ, List.getElem_toArray, List.getElem_cons_succ, List.getElem_cons_zero]
  refine wpAnyH_ready (rs := [2]) (by kernel_rfl) (by simp) ?_
  refine AllReadyH.cons rfl (fun K hK => ?_) AllReadyH.nil
  go_simp
  refine (HBY.out _).mono ?_
  rintro e v2 ⟨rfl, hb⟩
  rw [HP1.out]
  refine hK.out _ _ ?_ (fun hHeld => ?_)
  · first | exact ⟨hHeld.1.on hb, hHeld.2.trans (hb.mono hHeld.2.size)⟩ | assumption
  clear hK K
  try simp only [Act.put, List.setIfInBounds_toArray, List.set_cons_zero, List.set_cons_succ, List.getElem_toArray, List.getElem_cons_succ, List.getElem_cons_zero]
  refine wpAnyH_ready (rs := [6]) (by kernel_rfl) (by simp) ?_
  refine AllReadyH.cons rfl (fun K hK => ?_) AllReadyH.nil
  go_simp
  refine (Num.implPutNum_any r.l.length _ (by omega) (by omega)).mono ?_
  rintro e v3 ⟨rfl, hb⟩
  rw [HP2.out]
  refine hK.out _ _ ?_ (fun hHeld => ?_)
  · first | exact ⟨hHeld.1.on hb, hHeld.2.trans (hb.mono hHeld.2.size)⟩ | assumption
  clear hK K
  try simp only [Act.put, List.setIfInBounds_toArray, List.set_cons_zero, List.set_cons_succ, List.getElem_toArray, List.getElem_cons_succ, List.getElem_cons_zero]
  refine wpAnyH_ready (rs := [7]) (by kernel_rfl) (by simp) ?_
  refine AllReadyH.cons rfl (fun K hK => ?_) AllReadyH.nil
  have HB7 := Lib.hid hHeld.2
  have HX7 := Lib.hid hHeld.1
  go_simp
  refine hK.out _ _ ?_ (fun hHeld => ?_)
  · exact ⟨hHeld.1.alloc _, hHeld.2.alloc hHeld.2.size _⟩
  clear hK K
  try simp only [Act.put, List.setIfInBounds_toArray, List.set_cons_zero, List.set_cons_succ, List.getElem_toArray, List.getElem_cons_succ, List.getElem_cons_zero]
  refine wpAnyH_take (i := 8) (v := ?_) rfl (by kernel_rfl) (by kernel_rfl) (by kernel_rfl) (fun _ _ _ h => h) (Or.inl ⟨by rfl, ?_⟩) hHeld ?_
  rotate_left
  · intro W hSw
    obtain ⟨q1, _⟩ := hSw
    obtain ⟨hs1, hs2, hs3, hs4, hs5, hs6, hs7, hs8⟩ := cells8 q1
    go_simp
    try with_reducible rfl
  try simp only [Act.put, List.setIfInBounds_toArray, List.set_cons_zero, List.set_cons_succ, List.getElem_toArray, List.getElem_cons_succ, List.getElem_cons_zero]
  refine wpAnyH_done (by kernel_rfl) ?_ _
  have HOW := Lib.hid (own_eq (Str.new_own v3 [p1, p2] (by simp) w.heap.size HB7.out.size) (by rw [HPS.out]) HPS.out)
  have HB := Lib.hid hHeld.2
  have HX := Lib.hid hHeld.1
  clear hHeld hb HB7 HX7
  have HOW2 : Hid ((v3.alloc (Obj.cells #[.string p1, .string p2] 9)).ownsRow w.heap.size 9 1 (.slice (some ⟨v3.heap.size, 0, none⟩) 2 2) (psD r 0).length (Str.flat (psD r 0))) := HOW
  clear HOW
  obtain ⟨x0, x1, x2, x3, x4, x5, x6, x7⟩ := cells8 HX.out
  dsimp only at x6 x7
  generalize v3.heap.size = g0 at HOW2 ⊢
  generalize World.alloc v3 _ = vz at HOW2 HB HX x0 x1 x2 x3 x4 x5 x6 x7 ⊢
  go_wp2_with fail
  clear x0 x1 x2 x3 x4 x5 x6 x7
  go_loopw [3, 22] (fun u i wr => ∃ k : Nat, k ≤ r.l.length ∧ i = .int .i64 k ∧ Hid (wr.ownsRow w.heap.size 9 1 u (psD r k).length (Str.flat (psD r k)) ∧ Below w.heap.size w wr ∧ Blk wr w.heap.size 27 (cellsV r ⟨pA, pca, pB, pcb⟩))) (fun _ i _ => r.l.length - (intOf i).toNat)
  case atStart => exact ⟨0, by omega, rfl, Lib.hid ⟨HOW2.out, HB.out, HX.out⟩⟩
  case round =>
    obtain ⟨k, hk, rfl, HR⟩ := hrel
    have hlen := HL0.out k hk
    by_cases hlt : k < r.l.length
    · obtain ⟨ad, rfl, _, hat⟩ := (HLD.out.below HR.out.2.1 (Nat.le_refl _)).at_ hlt
      have hgd := (Dep.ok_of HOK.out.2.2.2.2.1).2.1 r.l[k] (List.getElem_mem hlt)
      have HST := Lib.hid (psD_step r k hlt)
      obtain ⟨y, hy⟩ : ∃ y, r.l[k] = y := ⟨_, rfl⟩
      rw [hy] at hat hgd HST
      have hyk := key_le hgd.1
      have HK2 := Lib.hid (fun W => Text.implPutText_any y.k W (by unfold maxLen; omega))
      have HI2 := Lib.hid (fun W => numbers_any y.i W hgd.2)
      unfold Dep.I.val Id.idV at HI2
      rw [← putT_str (show y.k.size ≤ 8000 by omega)] at HST
      obtain ⟨q1, hq1⟩ : ∃ p, Text.putT y.k = p := ⟨_, rfl⟩
      obtain ⟨q2, hq2⟩ : ∃ p, str (idL y.i) = p := ⟨_, rfl⟩
      rw [hq1, hq2] at HST
      have HQ1 := Lib.hid hq1
      have HQ2 := Lib.hid hq2
      have HOA : Hid ((World.drew (wr.alloc (Obj.cells #[.string y.k, .int .i64 y.i.c, .int .i64 y.i.s, .int .i64 y.i.e] 44))).ownsRow w.heap.size 9 1 u3 (psD r k).length (Str.flat (psD r k))) := Lib.hid (Str.own_alloc HR.out.1 (Obj.cells #[.string y.k, .int .i64 y.i.c, .int .i64 y.i.s, .int .i64 y.i.e] 44))
      have HBA := Lib.hid (HR.out.2.1.alloc HR.out.2.1.size (.cells #[.string y.k, .int .i64 y.i.c, .int .i64 y.i.s, .int .i64 y.i.e] 44))
      have HXA := Lib.hid (HR.out.2.2.alloc (.cells #[.string y.k, .int .i64 y.i.c, .int .i64 y.i.s, .int .i64 y.i.e] 44))
      have DX := Lib.hid (Blk.new wr 44 #[.string y.k, .int .i64 y.i.c, .int .i64 y.i.s, .int .i64 y.i.e])
      obtain ⟨c0, c1, c2, c3⟩ := hat
      clear hq1 hq2 hgd hy
      go_upto_region 7 with fail
      clear c0 c1 c2 c3
      refine wp_region_held_drew (S := (fun W => Blk W wr.heap.size 44 #[.string y.k, .int .i64 y.i.c, .int .i64 y.i.s, .int .i64 y.i.e] ∧ Blk W w.heap.size 27 (cellsV r ⟨some ad, pca, pB, pcb⟩) ∧ Below w.heap.size w W)) (by kernel_rfl) ?_ (fun hHeld => ?_)
      · exact ⟨DX.out, HXA.out, HBA.out.drew⟩
      refine wpAnyH_take (i := 0) (v := ?_) rfl (by kernel_rfl) (by kernel_rfl) (by kernel_rfl) (fun _ _ _ h => h) (Or.inl ⟨by rfl, ?_⟩) hHeld ?_
      rotate_left
      · intro W hSw
        obtain ⟨q0, q1, _⟩ := hSw
        obtain ⟨hd1, hd2, hd3, hd4⟩ := cells4 q0
        obtain ⟨hs1, hs2, hs3, hs4, hs5, hs6, hs7, hs8⟩ := cells8 q1
        go_simp
        try with_reducible rfl
      try simp only [Act.put, List.setIfInBounds_toArray, List.set_cons_zero, List.set_cons_succ, List.getElem_toArray, List.getElem_cons_zero]
      refine wpAnyH_take (i := 1) (v := ?_) rfl (by kernel_rfl) (by kernel_rfl) (by kernel_rfl) (fun _ _ _ h => h) (Or.inl ⟨by rfl, ?_⟩) hHeld ?_
      rotate_left
      · intro W hSw
        obtain ⟨q0, q1, _⟩ := hSw
        obtain ⟨hd1, hd2, hd3, hd4⟩ := cells4 q0
        obtain ⟨hs1, hs2, hs3, hs4, hs5, hs6, hs7, hs8⟩ := cells8 q1
        go_simp
        try with_reducible rfl
      try simp only [Act.put, List.setIfInBounds_toArray, List.set_cons_zero, List.set_cons_succ, List.getElem_toArray, List.getElem_cons_succ, List.getElem_cons_zero]
      refine wpAnyH_take (i := 2) (v := ?_) rfl (by kernel_rfl) (by kernel_rfl) (by kernel_rfl) (fun _ _ _ h => h) (Or.inl ⟨by rfl, ?_⟩) hHeld ?_
      rotate_left
      · intro W hSw
        obtain ⟨q0, q1, _⟩ := hSw
        obtain ⟨hd1, hd2, hd3, hd4⟩ := cells4 q0
        obtain ⟨hs1, hs2, hs3, hs4, hs5, hs6, hs7, hs8⟩ := cells8 q1
        go_simp
        try with_reducible rfl
      try simp only [Act.put, List.setIfInBounds_toArray, List.set_cons_zero, List.set_cons_succ, List.getElem_toArray, List.getElem_cons_succ, List.getElem_cons_zero]
      refine wpAnyH_take (i := 4) (v := ?_) rfl (by kernel_rfl) (by kernel_rfl) (by kernel_rfl) (fun _ _ _ h => h) (Or.inl ⟨by rfl, ?_⟩) hHeld ?_
      rotate_left
      · intro W hSw
        obtain ⟨q0, q1, _⟩ := hSw
        obtain ⟨hd1, hd2, hd3, hd4⟩ := cells4 q0
        obtain ⟨hs1, hs2, hs3, hs4, hs5, hs6, hs7, hs8⟩ := cells8 q1
        go_simp
        try with_reducible rfl
      try simp only [Act.put, List.setIfInBounds_toArray, List.set_cons_zero, List.set_cons_succ, List.getElem_toArray, List.getElem_cons_succ, List.getElem_cons_zero]
      refine wpAnyH_take (i := 5) (v := ?_) rfl (by kernel_rfl) (by kernel_rfl) (by kernel_rfl) (fun _ _ _ h => h) (Or.inl ⟨by rfl, ?_⟩) hHeld ?_
      rotate_left
      · intro W hSw
        obtain ⟨q0, q1, _⟩ := hSw
        obtain ⟨hd1, hd2, hd3, hd4⟩ := cells4 q0
        obtain ⟨hs1, hs2, hs3, hs4, hs5, hs6, hs7, hs8⟩ := cells8 q1
        go_simp
        try with_reducible rfl
      try simp only [Act.put, List.setIfInBounds_toArray, List.set_cons_zero, List.set_cons_succ, List.getElem_toArray, List.getElem_cons_succ, List.getElem_cons_zero]
      refine wpAnyH_ready (rs := [3]) (by kernel_rfl) (by simp) ?_
      refine AllReadyH.cons rfl (fun K hK => ?_) AllReadyH.nil
      go_simp
      refine (HK2.out _).mono ?_
      rintro e v4 ⟨rfl, hb⟩
      rw [HQ1.out]
      have HO := Lib.hid (Str.own_step HOA.out hb (Nat.le_refl _))
      refine hK.out _ _ ?_ (fun hHeld => ?_)
      · first | exact ⟨hHeld.1.on hb, hHeld.2.1.on hb, hHeld.2.2.trans (hb.mono hHeld.2.2.size)⟩ | assumption
      clear hK K
      try simp only [Act.put, List.setIfInBounds_toArray, List.set_cons_zero, List.set_cons_succ, List.getElem_toArray, List.getElem_cons_succ, List.getElem_cons_zero]
      refine wpAnyH_ready (rs := [6]) (by kernel_rfl) (by simp) ?_
      refine AllReadyH.cons rfl (fun K hK => ?_) AllReadyH.nil
      go_simp
      refine (HI2.out _).mono ?_
      rintro e v5 ⟨rfl, hb⟩
      rw [HQ2.out]
      have HO := Lib.hid (Str.own_step HO.out hb (Nat.le_refl _))
      refine hK.out _ _ ?_ (fun hHeld => ?_)
      · first | exact ⟨hHeld.1.on hb, hHeld.2.1.on hb, hHeld.2.2.trans (hb.mono hHeld.2.2.size)⟩ | assumption
      clear hK K
      try simp only [Act.put, List.setIfInBounds_toArray, List.set_cons_zero, List.set_cons_succ, List.getElem_toArray, List.getElem_cons_succ, List.getElem_cons_zero]
      refine wpAnyH_ready (rs := [7]) (by kernel_rfl) (by simp) ?_
      refine AllReadyH.cons rfl (fun K hK => ?_) AllReadyH.nil
      have HB8 := Lib.hid hHeld.2.2
      have HX8 := Lib.hid hHeld.2.1
      have HD8 := Lib.hid hHeld.1
      go_simp
      refine hK.out _ _ ?_ (fun hHeld => ?_)
      · exact ⟨hHeld.1.alloc _, hHeld.2.1.alloc _, hHeld.2.2.alloc hHeld.2.2.size _⟩
      clear hK K
      try simp only [Act.put, List.setIfInBounds_toArray, List.set_cons_zero, List.set_cons_succ, List.getElem_toArray, List.getElem_cons_succ, List.getElem_cons_zero]
      refine wpAnyH_ready (rs := [8]) (by kernel_rfl) (by simp) ?_
      refine AllReadyH.cons rfl (fun K hK => ?_) AllReadyH.nil
      refine Dep.wanted_in (by rfl) ?_
      refine Str.wp_append_strs rfl rfl [q1, q2] rfl rfl rfl (Str.own_alloc HO.out (.cells (Str.flat [q1, q2]).toArray 9)) (Str.new_lies _ [q1, q2]) (by simp; omega) (by have := HB8.out.size; simp; omega) ?_
      intro u2 w2 ho2 hg2
      have hbel := (HB8.out.alloc HB8.out.size (.cells (Str.flat [q1, q2]).toArray 9)).grown hg2 (by have := HB8.out.size; simp; omega) (Str.ownBlock_base HO.out)
      have hxd := (hg2.block _ (HD8.out.alloc (.cells (Str.flat [q1, q2]).toArray 9)).lt (Str.blk_not_row (HD8.out.alloc (.cells (Str.flat [q1, q2]).toArray 9)) (by decide) (Str.own_alloc HO.out (.cells (Str.flat [q1, q2]).toArray 9)))).trans (HD8.out.alloc (.cells (Str.flat [q1, q2]).toArray 9))
      have hxb := (hg2.block _ (HX8.out.alloc (.cells (Str.flat [q1, q2]).toArray 9)).lt (Str.blk_not_row (HX8.out.alloc (.cells (Str.flat [q1, q2]).toArray 9)) (by decide) (Str.own_alloc HO.out (.cells (Str.flat [q1, q2]).toArray 9)))).trans (HX8.out.alloc (.cells (Str.flat [q1, q2]).toArray 9))
      have O2 := Lib.hid ho2
      clear ho2 hg2
      refine hK.out _ _ ?_ (fun hHeld => ?_)
      · exact ⟨hxd, hxb, hbel⟩
      clear hK K
      try simp only [Act.put, List.setIfInBounds_toArray, List.set_cons_zero, List.set_cons_succ, List.getElem_toArray, List.getElem_cons_succ, List.getElem_cons_zero]
      refine wpAnyH_take (i := 9) (v := ?_) rfl (by kernel_rfl) (by kernel_rfl) (by kernel_rfl) (fun _ _ _ h => h) (Or.inl ⟨by rfl, ?_⟩) hHeld ?_
      rotate_left
      · intro W hSw
        obtain ⟨q0, q1, _⟩ := hSw
        obtain ⟨hd1, hd2, hd3, hd4⟩ := cells4 q0
        obtain ⟨hs1, hs2, hs3, hs4, hs5, hs6, hs7, hs8⟩ := cells8 q1
        go_simp
        try with_reducible rfl
      try simp only [Act.put, List.setIfInBounds_toArray, List.set_cons_zero, List.set_cons_succ, List.getElem_toArray, List.getElem_cons_succ, List.getElem_cons_zero]
      refine wpAnyH_done (by kernel_rfl) ?_ _
      have HE := Lib.hid hHeld
      have HF := Lib.hid (own_eq (m := (psD r (k + 1)).length) O2.out (by rw [HST.out]; simp) HST.out.symm)
      clear hHeld hb hxd hxb hbel
      go_wp2_with fail
      go_roundw
      case rel => exact ⟨k + 1, by omega, by go_num, Lib.hid ⟨HF.out, HE.out.2.2, HE.out.2.1⟩⟩
      case measure => simp [intOf]; omega
    · have hke : k = r.l.length := by omega
      subst hke
      obtain ⟨q, hq⟩ : ∃ p, Num.putS r.b.length = p := ⟨_, rfl⟩
      have HQ := Lib.hid hq
      have HZ := Lib.hid (show psD r r.l.length ++ [q] = psK r 0 by rw [psK_zero, ← hq, put_str])
      clear hq
      obtain ⟨x0, x1, x2, x3, x4, x5, x6, x7⟩ := cells8 HR.out.2.2
      dsimp only at x6 x7
      go_wp2_with fail
      refine (Num.implPutNum_any r.b.length _ (by omega) (by omega)).mono ?_
      rintro e w3 ⟨rfl, hb3⟩
      rw [HQ.out]
      have HB9 := Lib.hid (HR.out.2.1.trans (hb3.mono HR.out.2.1.size))
      have HX9 := Lib.hid (HR.out.2.2.on hb3)
      have HO9 := Lib.hid (Str.own_step HR.out.1 hb3 (Nat.le_refl _))
      clear hb3 x0 x1 x2 x3 x4 x5 x6 x7
      go_wp2_with (at_builtin; refine Str.wpList_append_strs rfl rfl rfl [q] rfl rfl rfl (Str.own_alloc HO9.out (.cells (Str.flat [q]).toArray 9)) (Str.new_lies _ [q]) (by simp; omega) (by have := HB9.out.size; simp; omega) ?_; intro u2 w2 ho2 hg2; have hbel := (HB9.out.alloc HB9.out.size (.cells (Str.flat [q]).toArray 9)).grown hg2 (by have := HB9.out.size; simp; omega) (Str.ownBlock_base HO9.out); have hxb := (hg2.block _ (HX9.out.alloc (.cells (Str.flat [q]).toArray 9)).lt (Str.blk_not_row (HX9.out.alloc (.cells (Str.flat [q]).toArray 9)) (by decide) (Str.own_alloc HO9.out (.cells (Str.flat [q]).toArray 9)))).trans (HX9.out.alloc (.cells (Str.flat [q]).toArray 9)); have O2 := Lib.hid ho2; have B2 := Lib.hid hbel; have X2 := Lib.hid (show Blk w2 w.heap.size 27 (cellsV r ⟨pA, pca, pB, pcb⟩) from hxb); clear ho2 hg2 hbel hxb; obtain ⟨x0, x1, x2, x3, x4, x5, x6, x7⟩ := cells8 X2.out; dsimp only at x6 x7)
      clear x0 x1 x2 x3 x4 x5 x6 x7
      have HOK2 := Lib.hid (own_eq (m := (psK r 0).length) O2.out (by rw [← HZ.out]; simp) HZ.out)
      go_loopw [3, 46] (fun u i wr => ∃ k : Nat, k ≤ r.b.length ∧ i = .int .i64 k ∧ Hid (wr.ownsRow w.heap.size 9 1 u (psK r k).length (Str.flat (psK r k)) ∧ Below w.heap.size w wr ∧ Blk wr w.heap.size 27 (cellsV r ⟨pA, pca, pB, pcb⟩))) (fun _ i _ => r.b.length - (intOf i).toNat)
      case atStart => exact ⟨0, by omega, rfl, Lib.hid ⟨HOK2.out, B2.out, X2.out⟩⟩
      case round =>
        obtain ⟨j, hj, rfl, HU⟩ := hrel
        have hlenk := HLK.out j hj
        by_cases hjt : j < r.b.length
        · obtain ⟨bd, rfl, _, c0⟩ := (HLS.out.below HU.out.2.1 (Nat.le_refl _)).at_ hjt
          have hgd := (keys_of HOK.out.2.2.2.2.2.1).2.1 r.b[j] (List.getElem_mem hjt)
          have HST := Lib.hid (psK_step r j hjt)
          obtain ⟨y, hy⟩ : ∃ y, r.b[j] = y := ⟨_, rfl⟩
          rw [hy] at c0 hgd HST
          have hyk := key_le hgd
          rw [← putT_str (show y.size ≤ 8000 by omega)] at HST
          obtain ⟨q1, hq1⟩ : ∃ p, Text.putT y = p := ⟨_, rfl⟩
          rw [hq1] at HST
          have HQ1 := Lib.hid hq1
          clear hq1 hgd hy
          go_wp2_with fail
          refine (Text.implPutText_any y _ (by unfold maxLen; omega)).mono ?_
          rintro e w4 ⟨rfl, hb4⟩
          rw [HQ1.out]
          have HB4 := Lib.hid (HU.out.2.1.trans (hb4.mono HU.out.2.1.size))
          have HX4 := Lib.hid (HU.out.2.2.on hb4)
          have HO4 := Lib.hid (Str.own_step HU.out.1 hb4 (Nat.le_refl _))
          clear hb4
          go_wp2_with (at_builtin; refine Str.wpList_append_strs rfl rfl rfl [q1] rfl rfl rfl (Str.own_alloc HO4.out (.cells (Str.flat [q1]).toArray 9)) (Str.new_lies _ [q1]) (by simp; omega) (by have := HB4.out.size; simp; omega) ?_; intro u2 w2 ho2 hg2; have hbel := (HB4.out.alloc HB4.out.size (.cells (Str.flat [q1]).toArray 9)).grown hg2 (by have := HB4.out.size; simp; omega) (Str.ownBlock_base HO4.out); have hxb := (hg2.block _ (HX4.out.alloc (.cells (Str.flat [q1]).toArray 9)).lt (Str.blk_not_row (HX4.out.alloc (.cells (Str.flat [q1]).toArray 9)) (by decide) (Str.own_alloc HO4.out (.cells (Str.flat [q1]).toArray 9)))).trans (HX4.out.alloc (.cells (Str.flat [q1]).toArray 9)); have O2 := Lib.hid ho2; have B2 := Lib.hid hbel; have X2 := Lib.hid (show Blk w2 w.heap.size 27 (cellsV r ⟨pA, pca, some bd, pcb⟩) from hxb); clear ho2 hg2 hbel hxb)
          have HF := Lib.hid (own_eq (m := (psK r (j + 1)).length) O2.out (by rw [HST.out]; simp) HST.out.symm)
          go_roundw
          case rel => exact ⟨j + 1, by omega, by go_num, Lib.hid ⟨HF.out, B2.out, X2.out⟩⟩
          case measure => simp [intOf]; omega
        · have hje : j = r.b.length := by omega
          subst hje
          have hU := HU.out.1
          have hF := psK_all r
          have HBW := Lib.hid HU.out.2.1
          clear HU
          obtain ⟨ps, hps⟩ : ∃ ps, psK r r.b.length = ps := ⟨_, rfl⟩
          rw [hps] at hU hF hlenk
          clear hps
          obtain ⟨g, c, rfl, hc, hcell, hg⟩ := Str.own_some hU (by omega)
          have HC := Lib.hid hcell
          have HF := Lib.hid hF
          have hbl := bodyL_le HOK.out
          have hps1 : 1 ≤ ps.length := by omega
          have hps2 : ps.length ≤ 1000 := by omega
          have HJC := Lib.hid (fun W (hW : ∀ k (h : k < ps.length), W.cell? ⟨g, k, none⟩ = some (.string ps[k])) => Join.joinedC_any ps g c W hps1 hps2 (by rw [HF.out]; omega) hW)
          clear hcell hU hF hlenk
          go_wp2_with fail
          refine (HJC.out _ HC.out).mono ?_
          rintro e w5 ⟨rfl, hb5⟩
          have HB5 := Lib.hid (HBW.out.trans (hb5.mono HBW.out.size))
          rw [HF.out]
          clear hb5
          go_wp2_with fail
          refine (Seal.implSeal_any (str (bodyL r)) _ (by rw [str_size]; unfold maxLen; omega)).mono ?_
          rintro e w6 ⟨rfl, hb6⟩
          have HB6 := Lib.hid (HB5.out.trans (hb6.mono HB5.out.size))
          clear hb6
          go_wp2_with fail
          go_ret
          exact ⟨rfl, HB6.out⟩
end Go.Proofs.YtkmlnibkdcdegaaGreatDoor.Rec
