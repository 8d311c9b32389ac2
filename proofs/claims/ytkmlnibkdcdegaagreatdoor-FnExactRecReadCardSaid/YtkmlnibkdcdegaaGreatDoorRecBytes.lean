/-
  A record's bytes: spec.RecBytes.
-/
import Derived.Test.YtkmlnibkdcdegaaGreatDoorRecNum
import Derived.Test.YtkmlnibkdcdegaaGreatDoorRecRight
import Derived.Deep.DeepCutAuto
namespace Go.Proofs.YtkmlnibkdcdegaaGreatDoor.Rec
open Go.ChangeShapes Go.WideShapes Go.ChangeAt Go.RowKit
open Dep (D I)
set_option linter.unusedVariables false
set_option maxRecDepth 100000
set_option linter.unusedSimpArgs false

theorem tL_str {s : ByteArray} {n : Nat} (h : s.size ≤ n) (hn : n ≤ 8000) : Text.putT s = str (tL s) ∧ (Text.putT s).size ≤ n + 10 := by
  have e := putT_str (s := s) (by omega)
  refine ⟨e, ?_⟩
  rw [e, str_size]
  have := tL_le s
  omega
theorem head_str {r : R} {p1 p2 p3 p4 p5 : ByteArray} {gn : Int} (hk : r.k.size ≤ 4) (hd : r.d.size ≤ 8) (hg : goneN r.g = gn) (h1 : Text.putT r.k = p1) (h2 : str (idL r.i) = p2) (h3 : Text.putT r.d = p3) (h4 : Num.putS gn = p4) (h5 : Num.putS r.l.length = p5) : p1 ++ p2 ++ p3 ++ p4 ++ p5 = str (upDeps r 0) := by
  rw [← h1, ← h2, ← h3, ← h4, ← h5, ← hg, putT_str (by omega), putT_str (by omega), put_str, put_str, str_append, str_append, str_append, str_append, upDeps_zero]
  unfold hdL
  simp only [List.append_assoc]
theorem step_str {r : R} {k : Nat} {t q1 q2 : ByteArray} {y : D} (hk : k < r.l.length) (hy : r.l[k] = y) (ht : t = str (upDeps r k)) (hs : y.k.size ≤ 4) (h1 : Text.putT y.k = q1) (h2 : str (idL y.i) = q2) : t ++ q1 ++ q2 = str (upDeps r (k + 1)) := by
  rw [upDeps_step r k hk, hy, ht, ← h1, ← h2, putT_str (by omega), str_append, str_append, List.append_assoc]
theorem keys_str {r : R} {t q : ByteArray} (ht : t = str (upDeps r r.l.length)) (h : Num.putS r.b.length = q) : t ++ q = str (upKeys r 0) := by
  rw [upKeys_zero, ht, ← h, put_str, str_append]
theorem key_str {r : R} {k : Nat} {t q : ByteArray} {y : ByteArray} (hk : k < r.b.length) (hy : r.b[k] = y) (ht : t = str (upKeys r k)) (hs : y.size ≤ 4) (h1 : Text.putT y = q) : t ++ q = str (upKeys r (k + 1)) := by
  rw [upKeys_step r k hk, hy, ht, ← h1, putT_str (by omega), str_append]

set_option maxHeartbeats 8000000 in
theorem specBytes_any (r : R) (p : P) (w : World) (h : Lies w w.heap.size r p) (hs : Sound r) :
    Calls Tryz.prog 13 #[recV r p] w fun x w' => x = .returned (.string (bytesV r)) ∧ Below w.heap.size w w' := by
  have HRC := Lib.hid (fun W (hW : Below w.heap.size w W) => specRec_any r p W (h.step hW (Nat.le_refl _) hW.size) hs)
  obtain ⟨pA, pca, pB, pcb⟩ := p
  have HLD : Hid (Dep.Lies w w.heap.size pA r.l) := Lib.hid h.1
  have HLS : Hid (Str.Lies w w.heap.size pB r.b) := Lib.hid h.2
  have HB := Lib.hid ((Below.refl w.heap.size w).alloc (Nat.le_refl _) (.cells (cellsV r ⟨pA, pca, pB, pcb⟩) 27))
  have HX := Lib.hid (Blk.new w 27 (cellsV r ⟨pA, pca, pB, pcb⟩))
  clear h hs
  unfold recV at *
  cases er : recB r
  · rw [er] at HRC
    rw [bytes_no er]
    clear er
    go_enter Tryz.func13, Tryz.ntmps13
    go_wp2_with fail
    refine (HRC.out _ HB.out).mono ?_
    rintro e w1 ⟨rfl, hb1⟩
    have HB := Lib.hid (HB.out.trans (hb1.mono HB.out.size))
    clear hb1
    go_wp2_with fail
    go_ret
    exact ⟨rfl, HB.out⟩
  have ho := rec_of er
  rw [er] at HRC
  rw [bytes_ok ho]
  clear er
  have HO := Lib.hid ho
  have hk4 := key_le ho.1
  have hd8 := (dat_of ho.2.2.1).1
  have hl6 := (Dep.ok_of ho.2.2.2.2.1).1
  have hb4 := (keys_of ho.2.2.2.2.2.1).1
  have HK := Lib.hid (fun W => Text.specPutText_any r.k W (by unfold maxLen; omega))
  have HD := Lib.hid (fun W => Text.specPutText_any r.d W (by unfold maxLen; omega))
  have HI := Lib.hid (fun W => specId_any r.i W ho.2.1)
  unfold Dep.I.val Id.idV at HI
  obtain ⟨gg, hgg⟩ : ∃ g, r.g = g := ⟨_, rfl⟩
  obtain ⟨gn, hgn⟩ : ∃ n, goneN r.g = n := ⟨_, rfl⟩
  have HGG := Lib.hid hgg
  have HGN := Lib.hid hgn
  have hgn0 : -9223372036854775808 ≤ gn := by rw [← hgn]; unfold goneN; split <;> omega
  have hgn1 : gn ≤ 9223372036854775807 := by rw [← hgn]; unfold goneN; split <;> omega
  obtain ⟨p1, hp1⟩ : ∃ p, Text.putT r.k = p := ⟨_, rfl⟩
  obtain ⟨p2, hp2⟩ : ∃ p, str (idL r.i) = p := ⟨_, rfl⟩
  obtain ⟨p3, hp3⟩ : ∃ p, Text.putT r.d = p := ⟨_, rfl⟩
  obtain ⟨p4, hp4⟩ : ∃ p, Num.putS gn = p := ⟨_, rfl⟩
  obtain ⟨p5, hp5⟩ : ∃ p, Num.putS r.l.length = p := ⟨_, rfl⟩
  have z1 : p1.size ≤ 14 := by rw [← hp1]; exact (tL_str hk4 (by omega)).2
  have z2 : p2.size ≤ 30 := by rw [← hp2, str_size]; exact idL_le _
  have z3 : p3.size ≤ 18 := by rw [← hp3]; exact (tL_str hd8 (by omega)).2
  have z4 : p4.size ≤ 10 := by rw [← hp4]; exact (Num.putS_size _).2
  have z5 : p5.size ≤ 10 := by rw [← hp5]; exact (Num.putS_size _).2
  have y1 : ¬ 9223372036854775807 < p1.size + p2.size := by omega
  have y2 : ¬ 9223372036854775807 < p1.size + p2.size + p3.size := by omega
  have y3 : ¬ 9223372036854775807 < p1.size + p2.size + p3.size + p4.size := by omega
  have y4 : ¬ 9223372036854775807 < p1.size + p2.size + p3.size + p4.size + p5.size := by omega
  have HP1 := Lib.hid hp1
  have HP2 := Lib.hid hp2
  have HP3 := Lib.hid hp3
  have HP4 := Lib.hid hp4
  have HP5 := Lib.hid hp5
  have HT0 := Lib.hid (head_str hk4 hd8 hgn hp1 hp2 hp3 hp4 hp5)
  clear hp1 hp2 hp3 hp4 hp5 hgg hgn ho
  go_enter Tryz.func13, Tryz.ntmps13
  go_wp2_with fail
  refine (HRC.out _ HB.out).mono ?_
  rintro e w1 ⟨rfl, hb1⟩
  have HB := Lib.hid (HB.out.trans (hb1.mono HB.out.size))
  have HX := Lib.hid (HX.out.on hb1)
  clear hb1
  obtain ⟨x0, x1, x2, x3, x4, x5, x6, x7⟩ := cells8 HX.out
  dsimp only at x6 x7
  rw [HGG.out] at x5
  go_upto_if 11 with fail
  clear x0 x1 x2 x3 x4 x5 x6 x7
  go_cut [3] (fun s wx => s = .int .i64 gn ∧ wx = w1)
  case first =>
    cases gg
    · have e := HGN.out
      rw [HGG.out] at e
      have HE := Lib.hid e
      clear e
      go_wp2_with fail
      go_meet
      exact ⟨by rw [← HE.out]; rfl, rfl⟩
    · have e := HGN.out
      rw [HGG.out] at e
      have HE := Lib.hid e
      clear e
      go_wp2_with fail
      go_meet
      exact ⟨by rw [← HE.out]; rfl, rfl⟩
  case rest =>
    obtain ⟨rfl, rfl⟩ := hcut
    go_wp2_with fail
    refine wp_region_held_drew (S := (fun W => Blk W w.heap.size 27 (cellsV r ⟨pA, pca, pB, pcb⟩) ∧ Below w.heap.size w W)) (by kernel_rfl) ?_ (fun hHeld => ?_)
    · exact ⟨HX.out, HB.out.drew⟩
    refine wpAnyH_take (i := 0) (v := ?_) rfl (by kernel_rfl) (by kernel_rfl) (by kernel_rfl) (fun _ _ _ h => h) (Or.inl ⟨by rfl, ?_⟩) hHeld ?_
    rotate_left
    · intro W hSw
      obtain ⟨q1, _⟩ := hSw
      obtain ⟨hs1, hs2, hs3, hs4, hs5, hs6, hs7, hs8⟩ := cells8 q1
      go_simp
      try with_reducible rfl
    try simp only [Act.put, List.setIfInBounds_toArray, List.set_cons_zero, List.set_cons_succ, List.getElem_toArray, List.getElem_cons_zero]
    refine wpAnyH_take (i := 1) (v := ?_) rfl (by kernel_rfl) (by kernel_rfl) (by kernel_rfl) (fun _ _ _ h => h) (Or.inl ⟨by rfl, ?_⟩) hHeld ?_
    rotate_left
    · intro W hSw
      obtain ⟨q1, _⟩ := hSw
      obtain ⟨hs1, hs2, hs3, hs4, hs5, hs6, hs7, hs8⟩ := cells8 q1
      go_simp
      try with_reducible rfl
    try simp only [Act.put, List.setIfInBounds_toArray, List.set_cons_zero, List.set_cons_succ, List.getElem_toArray, List.getElem_cons_succ, List.getElem_cons_zero]
    refine wpAnyH_take (i := 3) (v := ?_) rfl (by kernel_rfl) (by kernel_rfl) (by kernel_rfl) (fun _ _ _ h => h) (Or.inl ⟨by rfl, ?_⟩) hHeld ?_
    rotate_left
    · intro W hSw
      obtain ⟨q1, _⟩ := hSw
      obtain ⟨hs1, hs2, hs3, hs4, hs5, hs6, hs7, hs8⟩ := cells8 q1
      go_simp
      try with_reducible rfl
    try simp only [Act.put, List.setIfInBounds_toArray, List.set_cons_zero, List.set_cons_succ, List.getElem_toArray, List.getElem_cons_succ, List.getElem_cons_zero]
    refine wpAnyH_take (i := 4) (v := ?_) rfl (by kernel_rfl) (by kernel_rfl) (by kernel_rfl) (fun _ _ _ h => h) (Or.inl ⟨by rfl, ?_⟩) hHeld ?_
    rotate_left
    · intro W hSw
      obtain ⟨q1, _⟩ := hSw
      obtain ⟨hs1, hs2, hs3, hs4, hs5, hs6, hs7, hs8⟩ := cells8 q1
      go_simp
      try with_reducible rfl
    try simp only [Act.put, List.setIfInBounds_toArray, List.set_cons_zero, List.set_cons_succ, List.getElem_toArray, List.getElem_cons_succ, List.getElem_cons_zero]
    refine wpAnyH_take (i := 7) (v := ?_) rfl (by kernel_rfl) (by kernel_rfl) (by kernel_rfl) (fun _ _ _ h => h) (Or.inl ⟨by rfl, ?_⟩) hHeld ?_
    rotate_left
    · intro W hSw
      obtain ⟨q1, _⟩ := hSw
      obtain ⟨hs1, hs2, hs3, hs4, hs5, hs6, hs7, hs8⟩ := cells8 q1
      go_simp
      try with_reducible rfl
    try simp only [Act.put, List.setIfInBounds_toArray, List.set_cons_zero, List.set_cons_succ, List.getElem_toArray, List.getElem_cons_succ, List.getElem_cons_zero]
    refine wpAnyH_take (i := 8) (v := ?_) rfl (by kernel_rfl) (by kernel_rfl) (by kernel_rfl) (fun _ _ _ h => h) (Or.inl ⟨by rfl, ?_⟩) hHeld ?_
    rotate_left
    · intro W hSw
      obtain ⟨q1, _⟩ := hSw
      obtain ⟨hs1, hs2, hs3, hs4, hs5, hs6, hs7, hs8⟩ := cells8 q1
      go_simp
      try with_reducible rfl
    try simp only [Act.put, List.setIfInBounds_toArray, List.set_cons_zero, List.set_cons_succ, List.getElem_toArray, List.getElem_cons_succ, List.getElem_cons_zero]
    refine wpAnyH_take (i := 11) (v := ?_) rfl (by kernel_rfl) (by kernel_rfl) (by kernel_rfl) (fun _ _ _ h => h) (Or.inl ⟨by rfl, ?_⟩) hHeld ?_
    rotate_left
    · intro W hSw
      obtain ⟨q1, _⟩ := hSw
      obtain ⟨hs1, hs2, hs3, hs4, hs5, hs6, hs7, hs8⟩ := cells8 q1
      go_simp
      try with_reducible rfl
    try simp only [Act.put, List.setIfInBounds_toArray, List.set_cons_zero, List.set_cons_succ, List.getElem_toArray, List.getElem_cons_succ, List.getElem_cons_zero]
    refine wpAnyH_take (i := 14) (v := ?_) rfl (by kernel_rfl) (by kernel_rfl) (by kernel_rfl) (fun _ _ _ h => h) (Or.inl ⟨by rfl, ?_⟩) hHeld ?_
    rotate_left
    · intro W hSw
      obtain ⟨q1, _⟩ := hSw
      obtain ⟨hs1, hs2, hs3, hs4, hs5, hs6, hs7, hs8⟩ := cells8 q1
      go_simp
      try with_reducible rfl
    try simp only [Act.put, List.setIfInBounds_toArray, List.set_cons_zero, List.set_cons_succ, List.getElem_toArray, List.getElem_cons_succ, List.getElem_cons_zero]
    refine wpAnyH_take (i := 15) (v := ?_) rfl (by kernel_rfl) (by kernel_rfl) (by kernel_rfl) (fun _ _ _ h => h) (Or.inl ⟨by rfl, ?_⟩) hHeld ?_
    rotate_left
    · intro W hSw
      obtain ⟨q1, _⟩ := hSw
      obtain ⟨hs1, hs2, hs3, hs4, hs5, hs6, hs7, hs8⟩ := cells8 q1
      go_simp
      try with_reducible rfl
    try simp only [Act.put, List.setIfInBounds_toArray, List.set_cons_zero, List.set_cons_succ, List.getElem_toArray, List.getElem_cons_succ, List.getElem_cons_zero]
    refine wpAnyH_take (i := 16) (v := ?_) rfl (by kernel_rfl) (by kernel_rfl) (by kernel_rfl) (fun _ _ _ h => h) (Or.inl ⟨by rfl, ?_⟩) hHeld ?_
    rotate_left
    · intro W hSw
      obtain ⟨q1, _⟩ := hSw
      obtain ⟨hs1, hs2, hs3, hs4, hs5, hs6, hs7, hs8⟩ := cells8 q1
      go_simp
      try with_reducible rfl
    try simp only [Act.put, List.setIfInBounds_toArray, List.set_cons_zero, List.set_cons_succ, List.getElem_toArray, List.getElem_cons_succ, List.getElem_cons_zero]
    refine wpAnyH_ready (rs := [2]) (by kernel_rfl) (by simp) ?_
    refine AllReadyH.cons rfl (fun K hK => ?_) AllReadyH.nil
    go_simp
    refine (HK.out _).mono ?_
    rintro e v1 ⟨rfl, hb⟩
    rw [HP1.out]
    refine hK.out _ _ ?_ (fun hHeld => ?_)
    · first | exact ⟨hHeld.1.on hb, hHeld.2.trans (hb.mono hHeld.2.size)⟩ | assumption
    clear hK K
    try simp only [Act.put, List.setIfInBounds_toArray, List.set_cons_zero, List.set_cons_succ, List.getElem_toArray, List.getElem_cons_succ, List.getElem_cons_zero]
    refine wpAnyH_ready (rs := [5]) (by kernel_rfl) (by simp) ?_
    refine AllReadyH.cons rfl (fun K hK => ?_) AllReadyH.nil
    go_simp
    refine (HI.out _).mono ?_
    rintro e v2 ⟨rfl, hb⟩
    rw [HP2.out]
    refine hK.out _ _ ?_ (fun hHeld => ?_)
    · first | exact ⟨hHeld.1.on hb, hHeld.2.trans (hb.mono hHeld.2.size)⟩ | assumption
    clear hK K
    try simp only [Act.put, List.setIfInBounds_toArray, List.set_cons_zero, List.set_cons_succ, List.getElem_toArray, List.getElem_cons_succ, List.getElem_cons_zero]
    refine wpAnyH_take (i := 6) (v := ?_) rfl (by kernel_rfl) (by kernel_rfl) (by kernel_rfl) (fun _ _ _ h => h) (Or.inl ⟨by rfl, ?_⟩) hHeld ?_
    rotate_left
    · intro W hSw
      obtain ⟨q1, _⟩ := hSw
      obtain ⟨hs1, hs2, hs3, hs4, hs5, hs6, hs7, hs8⟩ := cells8 q1
      go_simp
      try with_reducible rfl
    try simp only [Act.put, List.setIfInBounds_toArray, List.set_cons_zero, List.set_cons_succ, List.getElem_toArray, List.getElem_cons_succ, List.getElem_cons_zero]
    refine wpAnyH_ready (rs := [9]) (by kernel_rfl) (by simp) ?_
    refine AllReadyH.cons rfl (fun K hK => ?_) AllReadyH.nil
    go_simp
    refine (HD.out _).mono ?_
    rintro e v3 ⟨rfl, hb⟩
    rw [HP3.out]
    refine hK.out _ _ ?_ (fun hHeld => ?_)
    · first | exact ⟨hHeld.1.on hb, hHeld.2.trans (hb.mono hHeld.2.size)⟩ | assumption
    clear hK K
    try simp only [Act.put, List.setIfInBounds_toArray, List.set_cons_zero, List.set_cons_succ, List.getElem_toArray, List.getElem_cons_succ, List.getElem_cons_zero]
    refine wpAnyH_take (i := 10) (v := ?_) rfl (by kernel_rfl) (by kernel_rfl) (by kernel_rfl) (fun _ _ _ h => h) (Or.inl ⟨by rfl, ?_⟩) hHeld ?_
    rotate_left
    · intro W hSw
      obtain ⟨q1, _⟩ := hSw
      obtain ⟨hs1, hs2, hs3, hs4, hs5, hs6, hs7, hs8⟩ := cells8 q1
      go_simp
      try with_reducible rfl
    try simp only [Act.put, List.setIfInBounds_toArray, List.set_cons_zero, List.set_cons_succ, List.getElem_toArray, List.getElem_cons_succ, List.getElem_cons_zero]
    refine wpAnyH_ready (rs := [12]) (by kernel_rfl) (by simp) ?_
    refine AllReadyH.cons rfl (fun K hK => ?_) AllReadyH.nil
    go_simp
    refine (Num.specPutNum_any gn _ hgn0 hgn1).mono ?_
    rintro e v4 ⟨rfl, hb⟩
    rw [HP4.out]
    refine hK.out _ _ ?_ (fun hHeld => ?_)
    · first | exact ⟨hHeld.1.on hb, hHeld.2.trans (hb.mono hHeld.2.size)⟩ | assumption
    clear hK K
    try simp only [Act.put, List.setIfInBounds_toArray, List.set_cons_zero, List.set_cons_succ, List.getElem_toArray, List.getElem_cons_succ, List.getElem_cons_zero]
    refine wpAnyH_take (i := 13) (v := ?_) rfl (by kernel_rfl) (by kernel_rfl) (by kernel_rfl) (fun _ _ _ h => h) (Or.inl ⟨by rfl, ?_⟩) hHeld ?_
    rotate_left
    · intro W hSw
      obtain ⟨q1, _⟩ := hSw
      obtain ⟨hs1, hs2, hs3, hs4, hs5, hs6, hs7, hs8⟩ := cells8 q1
      go_simp
      try with_reducible rfl
    try simp only [Act.put, List.setIfInBounds_toArray, List.set_cons_zero, List.set_cons_succ, List.getElem_toArray, List.getElem_cons_succ, List.getElem_cons_zero]
    refine wpAnyH_ready (rs := [17]) (by kernel_rfl) (by simp) ?_
    refine AllReadyH.cons rfl (fun K hK => ?_) AllReadyH.nil
    go_simp
    refine (Num.specPutNum_any r.l.length _ (by omega) (by omega)).mono ?_
    rintro e v5 ⟨rfl, hb⟩
    rw [HP5.out]
    refine hK.out _ _ ?_ (fun hHeld => ?_)
    · first | exact ⟨hHeld.1.on hb, hHeld.2.trans (hb.mono hHeld.2.size)⟩ | assumption
    clear hK K
    try simp only [Act.put, List.setIfInBounds_toArray, List.set_cons_zero, List.set_cons_succ, List.getElem_toArray, List.getElem_cons_succ, List.getElem_cons_zero]
    refine wpAnyH_take (i := 18) (v := ?_) rfl (by kernel_rfl) (by kernel_rfl) (by kernel_rfl) (fun _ _ _ h => h) (Or.inl ⟨by rfl, ?_⟩) hHeld ?_
    rotate_left
    · intro W hSw
      obtain ⟨q1, _⟩ := hSw
      obtain ⟨hs1, hs2, hs3, hs4, hs5, hs6, hs7, hs8⟩ := cells8 q1
      go_simp
      try with_reducible rfl
    try simp only [Act.put, List.setIfInBounds_toArray, List.set_cons_zero, List.set_cons_succ, List.getElem_toArray, List.getElem_cons_succ, List.getElem_cons_zero]
    refine wpAnyH_take (i := 19) (v := ?_) rfl (by kernel_rfl) (by kernel_rfl) (by kernel_rfl) (fun _ _ _ h => h) (Or.inl ⟨by rfl, ?_⟩) hHeld ?_
    rotate_left
    · intro W hSw
      obtain ⟨q1, _⟩ := hSw
      obtain ⟨hs1, hs2, hs3, hs4, hs5, hs6, hs7, hs8⟩ := cells8 q1
      go_simp
      try with_reducible rfl
    try simp only [Act.put, List.setIfInBounds_toArray, List.set_cons_zero, List.set_cons_succ, List.getElem_toArray, List.getElem_cons_succ, List.getElem_cons_zero]
    refine wpAnyH_done (by kernel_rfl) ?_ _
    have HB := Lib.hid hHeld.2
    have HX := Lib.hid hHeld.1
    clear hHeld hb
    generalize hv5 : v5 = vz at HB HX ⊢
    clear hv5
    have ZT := Lib.hid (show (p1 ++ p2 ++ p3 ++ p4 ++ p5).size ≤ 500 by rw [HT0.out, str_size]; exact upDeps_le HO.out 0)
    generalize p1 ++ p2 ++ p3 ++ p4 ++ p5 = t0 at HT0 ZT ⊢
    go_wp2_with fail
    go_loopw [4, 5] (fun u i wr => ∃ k : Nat, k ≤ r.l.length ∧ i = .int .i64 k ∧ ∃ t : ByteArray, u = .string t ∧ Hid (t = str (upDeps r k) ∧ Below w.heap.size w wr ∧ Blk wr w.heap.size 27 (cellsV r ⟨pA, pca, pB, pcb⟩))) (fun _ i _ => r.l.length - (intOf i).toNat)
    case atStart => exact ⟨0, by omega, rfl, t0, rfl, Lib.hid ⟨HT0.out, HB.out, HX.out⟩⟩
    case round =>
      obtain ⟨k, hk, rfl, t, rfl, HR⟩ := hrel
      obtain ⟨x0, x1, x2, x3, x4, x5, x6, x7⟩ := cells8 HR.out.2.2
      dsimp only at x6 x7
      have zt : t.size ≤ 500 := by rw [HR.out.1, str_size]; exact upDeps_le HO.out k
      by_cases hlt : k < r.l.length
      · obtain ⟨ad, rfl, _, hat⟩ := (HLD.out.below HR.out.2.1 (Nat.le_refl _)).at_ hlt
        have hgd := (Dep.ok_of HO.out.2.2.2.2.1).2.1 r.l[k] (List.getElem_mem hlt)
        obtain ⟨y, hy⟩ : ∃ y, r.l[k] = y := ⟨_, rfl⟩
        rw [hy] at hat hgd
        have hyk := key_le hgd.1
        have HK2 := Lib.hid (fun W => Text.specPutText_any y.k W (by unfold maxLen; omega))
        have HI2 := Lib.hid (fun W => specId_any y.i W hgd.2)
        unfold Dep.I.val Id.idV at HI2
        obtain ⟨q1, hq1⟩ : ∃ p, Text.putT y.k = p := ⟨_, rfl⟩
        obtain ⟨q2, hq2⟩ : ∃ p, str (idL y.i) = p := ⟨_, rfl⟩
        have z6 : q1.size ≤ 14 := by rw [← hq1]; exact (tL_str hyk (by omega)).2
        have z7 : q2.size ≤ 30 := by rw [← hq2, str_size]; exact idL_le _
        have y5 : ¬ 9223372036854775807 < t.size + q1.size := by omega
        have y6 : ¬ 9223372036854775807 < t.size + q1.size + q2.size := by omega
        have HQ1 := Lib.hid hq1
        have HQ2 := Lib.hid hq2
        have HST := Lib.hid (step_str hlt hy HR.out.1 hyk hq1 hq2)
        clear hq1 hq2 hgd hy
        go_upto_region 10 with fail
        clear x0 x1 x2 x3 x4 x5 x6 x7
        refine wp_region_held_drew (S := (fun W => Blk W w.heap.size 27 (cellsV r ⟨some ad, pca, pB, pcb⟩) ∧ Dep.At W (ad.add (k * 4)) y ∧ Below w.heap.size w W)) (by kernel_rfl) ?_ (fun hHeld => ?_)
        · exact ⟨HR.out.2.2, hat, HR.out.2.1.drew⟩
        refine wpAnyH_take (i := 0) (v := ?_) rfl (by kernel_rfl) (by kernel_rfl) (by kernel_rfl) (fun _ _ _ h => h) (Or.inl ⟨by rfl, ?_⟩) hHeld ?_
        rotate_left
        · intro W hSw
          obtain ⟨q1, ⟨hs9, hs10, hs11, hs12⟩, _⟩ := hSw
          obtain ⟨hs1, hs2, hs3, hs4, hs5, hs6, hs7, hs8⟩ := cells8 q1
          go_simp
          try with_reducible rfl
        try simp only [Act.put, List.setIfInBounds_toArray, List.set_cons_zero, List.set_cons_succ, List.getElem_toArray, List.getElem_cons_zero]
        refine wpAnyH_take (i := 1) (v := ?_) rfl (by kernel_rfl) (by kernel_rfl) (by kernel_rfl) (fun _ _ _ h => h) (Or.inl ⟨by rfl, ?_⟩) hHeld ?_
        rotate_left
        · intro W hSw
          obtain ⟨q1, ⟨hs9, hs10, hs11, hs12⟩, _⟩ := hSw
          obtain ⟨hs1, hs2, hs3, hs4, hs5, hs6, hs7, hs8⟩ := cells8 q1
          go_simp
          try with_reducible rfl
        try simp only [Act.put, List.setIfInBounds_toArray, List.set_cons_zero, List.set_cons_succ, List.getElem_toArray, List.getElem_cons_succ, List.getElem_cons_zero]
        refine wpAnyH_take (i := 2) (v := ?_) rfl (by kernel_rfl) (by kernel_rfl) (by kernel_rfl) (fun _ _ _ h => h) (Or.inl ⟨by rfl, ?_⟩) hHeld ?_
        rotate_left
        · intro W hSw
          obtain ⟨q1, ⟨hs9, hs10, hs11, hs12⟩, _⟩ := hSw
          obtain ⟨hs1, hs2, hs3, hs4, hs5, hs6, hs7, hs8⟩ := cells8 q1
          go_simp
          try with_reducible rfl
        try simp only [Act.put, List.setIfInBounds_toArray, List.set_cons_zero, List.set_cons_succ, List.getElem_toArray, List.getElem_cons_succ, List.getElem_cons_zero]
        refine wpAnyH_take (i := 3) (v := ?_) rfl (by kernel_rfl) (by kernel_rfl) (by kernel_rfl) (fun _ _ _ h => h) (Or.inl ⟨by rfl, ?_⟩) hHeld ?_
        rotate_left
        · intro W hSw
          obtain ⟨q1, ⟨hs9, hs10, hs11, hs12⟩, _⟩ := hSw
          obtain ⟨hs1, hs2, hs3, hs4, hs5, hs6, hs7, hs8⟩ := cells8 q1
          go_simp
          try with_reducible rfl
        try simp only [Act.put, List.setIfInBounds_toArray, List.set_cons_zero, List.set_cons_succ, List.getElem_toArray, List.getElem_cons_succ, List.getElem_cons_zero]
        refine wpAnyH_take (i := 4) (v := ?_) rfl (by kernel_rfl) (by kernel_rfl) (by kernel_rfl) (fun _ _ _ h => h) (Or.inl ⟨by rfl, ?_⟩) hHeld ?_
        rotate_left
        · intro W hSw
          obtain ⟨q1, ⟨hs9, hs10, hs11, hs12⟩, _⟩ := hSw
          obtain ⟨hs1, hs2, hs3, hs4, hs5, hs6, hs7, hs8⟩ := cells8 q1
          go_simp
          try with_reducible rfl
        try simp only [Act.put, List.setIfInBounds_toArray, List.set_cons_zero, List.set_cons_succ, List.getElem_toArray, List.getElem_cons_succ, List.getElem_cons_zero]
        refine wpAnyH_take (i := 5) (v := ?_) rfl (by kernel_rfl) (by kernel_rfl) (by kernel_rfl) (fun _ _ _ h => h) (Or.inl ⟨by rfl, ?_⟩) hHeld ?_
        rotate_left
        · intro W hSw
          obtain ⟨q1, ⟨hs9, hs10, hs11, hs12⟩, _⟩ := hSw
          obtain ⟨hs1, hs2, hs3, hs4, hs5, hs6, hs7, hs8⟩ := cells8 q1
          go_simp
          try with_reducible rfl
        try simp only [Act.put, List.setIfInBounds_toArray, List.set_cons_zero, List.set_cons_succ, List.getElem_toArray, List.getElem_cons_succ, List.getElem_cons_zero]
        refine wpAnyH_take (i := 6) (v := ?_) rfl (by kernel_rfl) (by kernel_rfl) (by kernel_rfl) (fun _ _ _ h => h) (Or.inl ⟨by rfl, ?_⟩) hHeld ?_
        rotate_left
        · intro W hSw
          obtain ⟨q1, ⟨hs9, hs10, hs11, hs12⟩, _⟩ := hSw
          obtain ⟨hs1, hs2, hs3, hs4, hs5, hs6, hs7, hs8⟩ := cells8 q1
          go_simp
          try with_reducible rfl
        try simp only [Act.put, List.setIfInBounds_toArray, List.set_cons_zero, List.set_cons_succ, List.getElem_toArray, List.getElem_cons_succ, List.getElem_cons_zero]
        refine wpAnyH_take (i := 9) (v := ?_) rfl (by kernel_rfl) (by kernel_rfl) (by kernel_rfl) (fun _ _ _ h => h) (Or.inl ⟨by rfl, ?_⟩) hHeld ?_
        rotate_left
        · intro W hSw
          obtain ⟨q1, ⟨hs9, hs10, hs11, hs12⟩, _⟩ := hSw
          obtain ⟨hs1, hs2, hs3, hs4, hs5, hs6, hs7, hs8⟩ := cells8 q1
          go_simp
          try with_reducible rfl
        try simp only [Act.put, List.setIfInBounds_toArray, List.set_cons_zero, List.set_cons_succ, List.getElem_toArray, List.getElem_cons_succ, List.getElem_cons_zero]
        refine wpAnyH_take (i := 10) (v := ?_) rfl (by kernel_rfl) (by kernel_rfl) (by kernel_rfl) (fun _ _ _ h => h) (Or.inl ⟨by rfl, ?_⟩) hHeld ?_
        rotate_left
        · intro W hSw
          obtain ⟨q1, ⟨hs9, hs10, hs11, hs12⟩, _⟩ := hSw
          obtain ⟨hs1, hs2, hs3, hs4, hs5, hs6, hs7, hs8⟩ := cells8 q1
          go_simp
          try with_reducible rfl
        try simp only [Act.put, List.setIfInBounds_toArray, List.set_cons_zero, List.set_cons_succ, List.getElem_toArray, List.getElem_cons_succ, List.getElem_cons_zero]
        refine wpAnyH_take (i := 11) (v := ?_) rfl (by kernel_rfl) (by kernel_rfl) (by kernel_rfl) (fun _ _ _ h => h) (Or.inl ⟨by rfl, ?_⟩) hHeld ?_
        rotate_left
        · intro W hSw
          obtain ⟨q1, ⟨hs9, hs10, hs11, hs12⟩, _⟩ := hSw
          obtain ⟨hs1, hs2, hs3, hs4, hs5, hs6, hs7, hs8⟩ := cells8 q1
          go_simp
          try with_reducible rfl
        try simp only [Act.put, List.setIfInBounds_toArray, List.set_cons_zero, List.set_cons_succ, List.getElem_toArray, List.getElem_cons_succ, List.getElem_cons_zero]
        refine wpAnyH_take (i := 12) (v := ?_) rfl (by kernel_rfl) (by kernel_rfl) (by kernel_rfl) (fun _ _ _ h => h) (Or.inl ⟨by rfl, ?_⟩) hHeld ?_
        rotate_left
        · intro W hSw
          obtain ⟨q1, ⟨hs9, hs10, hs11, hs12⟩, _⟩ := hSw
          obtain ⟨hs1, hs2, hs3, hs4, hs5, hs6, hs7, hs8⟩ := cells8 q1
          go_simp
          try with_reducible rfl
        try simp only [Act.put, List.setIfInBounds_toArray, List.set_cons_zero, List.set_cons_succ, List.getElem_toArray, List.getElem_cons_succ, List.getElem_cons_zero]
        refine wpAnyH_take (i := 13) (v := ?_) rfl (by kernel_rfl) (by kernel_rfl) (by kernel_rfl) (fun _ _ _ h => h) (Or.inl ⟨by rfl, ?_⟩) hHeld ?_
        rotate_left
        · intro W hSw
          obtain ⟨q1, ⟨hs9, hs10, hs11, hs12⟩, _⟩ := hSw
          obtain ⟨hs1, hs2, hs3, hs4, hs5, hs6, hs7, hs8⟩ := cells8 q1
          go_simp
          try with_reducible rfl
        try simp only [Act.put, List.setIfInBounds_toArray, List.set_cons_zero, List.set_cons_succ, List.getElem_toArray, List.getElem_cons_succ, List.getElem_cons_zero]
        refine wpAnyH_take (i := 14) (v := ?_) rfl (by kernel_rfl) (by kernel_rfl) (by kernel_rfl) (fun _ _ _ h => h) (Or.inl ⟨by rfl, ?_⟩) hHeld ?_
        rotate_left
        · intro W hSw
          obtain ⟨q1, ⟨hs9, hs10, hs11, hs12⟩, _⟩ := hSw
          obtain ⟨hs1, hs2, hs3, hs4, hs5, hs6, hs7, hs8⟩ := cells8 q1
          go_simp
          try with_reducible rfl
        try simp only [Act.put, List.setIfInBounds_toArray, List.set_cons_zero, List.set_cons_succ, List.getElem_toArray, List.getElem_cons_succ, List.getElem_cons_zero]
        refine wpAnyH_ready (rs := [7]) (by kernel_rfl) (by simp) ?_
        refine AllReadyH.cons rfl (fun K hK => ?_) AllReadyH.nil
        go_simp
        refine (HK2.out _).mono ?_
        rintro e v6 ⟨rfl, hb⟩
        rw [HQ1.out]
        refine hK.out _ _ ?_ (fun hHeld => ?_)
        · first | exact ⟨hHeld.1.on hb, Dep.at_step hHeld.2.1 hb, hHeld.2.2.trans (hb.mono hHeld.2.2.size)⟩ | assumption
        clear hK K
        try simp only [Act.put, List.setIfInBounds_toArray, List.set_cons_zero, List.set_cons_succ, List.getElem_toArray, List.getElem_cons_succ, List.getElem_cons_zero]
        refine wpAnyH_take (i := 8) (v := ?_) rfl (by kernel_rfl) (by kernel_rfl) (by kernel_rfl) (fun _ _ _ h => h) (Or.inl ⟨by rfl, ?_⟩) hHeld ?_
        rotate_left
        · intro W hSw
          obtain ⟨q1, ⟨hs9, hs10, hs11, hs12⟩, _⟩ := hSw
          obtain ⟨hs1, hs2, hs3, hs4, hs5, hs6, hs7, hs8⟩ := cells8 q1
          go_simp
          try with_reducible rfl
        try simp only [Act.put, List.setIfInBounds_toArray, List.set_cons_zero, List.set_cons_succ, List.getElem_toArray, List.getElem_cons_succ, List.getElem_cons_zero]
        refine wpAnyH_ready (rs := [15]) (by kernel_rfl) (by simp) ?_
        refine AllReadyH.cons rfl (fun K hK => ?_) AllReadyH.nil
        go_simp
        refine (HI2.out _).mono ?_
        rintro e v7 ⟨rfl, hb⟩
        rw [HQ2.out]
        refine hK.out _ _ ?_ (fun hHeld => ?_)
        · first | exact ⟨hHeld.1.on hb, Dep.at_step hHeld.2.1 hb, hHeld.2.2.trans (hb.mono hHeld.2.2.size)⟩ | assumption
        clear hK K
        try simp only [Act.put, List.setIfInBounds_toArray, List.set_cons_zero, List.set_cons_succ, List.getElem_toArray, List.getElem_cons_succ, List.getElem_cons_zero]
        refine wpAnyH_take (i := 16) (v := ?_) rfl (by kernel_rfl) (by kernel_rfl) (by kernel_rfl) (fun _ _ _ h => h) (Or.inl ⟨by rfl, ?_⟩) hHeld ?_
        rotate_left
        · intro W hSw
          obtain ⟨q1, ⟨hs9, hs10, hs11, hs12⟩, _⟩ := hSw
          obtain ⟨hs1, hs2, hs3, hs4, hs5, hs6, hs7, hs8⟩ := cells8 q1
          go_simp
          try with_reducible rfl
        try simp only [Act.put, List.setIfInBounds_toArray, List.set_cons_zero, List.set_cons_succ, List.getElem_toArray, List.getElem_cons_succ, List.getElem_cons_zero]
        refine wpAnyH_take (i := 17) (v := ?_) rfl (by kernel_rfl) (by kernel_rfl) (by kernel_rfl) (fun _ _ _ h => h) (Or.inl ⟨by rfl, ?_⟩) hHeld ?_
        rotate_left
        · intro W hSw
          obtain ⟨q1, ⟨hs9, hs10, hs11, hs12⟩, _⟩ := hSw
          obtain ⟨hs1, hs2, hs3, hs4, hs5, hs6, hs7, hs8⟩ := cells8 q1
          go_simp
          try with_reducible rfl
        try simp only [Act.put, List.setIfInBounds_toArray, List.set_cons_zero, List.set_cons_succ, List.getElem_toArray, List.getElem_cons_succ, List.getElem_cons_zero]
        refine wpAnyH_done (by kernel_rfl) ?_ _
        have HE := Lib.hid hHeld
        clear hHeld hb
        go_wp2_with fail
        go_roundw
        case rel => exact ⟨k + 1, by omega, by go_num, _, rfl, Lib.hid ⟨HST.out, HE.out.2.2, HE.out.1⟩⟩
        case measure => simp [intOf]; omega
      · have hke : k = r.l.length := by omega
        have HT := Lib.hid (show t = str (upDeps r r.l.length) by have e := HR.out.1; rw [hke] at e; exact e)
        clear hke
        obtain ⟨q, hq⟩ : ∃ p, Num.putS r.b.length = p := ⟨_, rfl⟩
        have zq : q.size ≤ 10 := by rw [← hq]; exact (Num.putS_size _).2
        have HQ := Lib.hid hq
        have HKS := Lib.hid (keys_str HT.out hq)
        clear hq
        have HB := Lib.hid HR.out.2.1
        have HX := Lib.hid HR.out.2.2
        go_wp2_with fail
        refine (Num.specPutNum_any r.b.length _ (by omega) (by omega)).mono ?_
        rintro e w3 ⟨rfl, hb3⟩
        rw [HQ.out]
        have HB := Lib.hid (HB.out.trans (hb3.mono HB.out.size))
        have HX := Lib.hid (HX.out.on hb3)
        clear hb3 x0 x1 x2 x3 x4 x5 x6 x7
        have y7 : ¬ 9223372036854775807 < t.size + q.size := by omega
        go_wp2_with fail
        have ZK := Lib.hid (show (t ++ q).size ≤ 1000 by rw [HKS.out, str_size]; exact upKeys_le HO.out 0)
        generalize t ++ q = t1 at HKS ZK ⊢
        go_loopw [4, 6] (fun u i wr => ∃ k : Nat, k ≤ r.b.length ∧ i = .int .i64 k ∧ ∃ t : ByteArray, u = .string t ∧ Hid (t = str (upKeys r k) ∧ Below w.heap.size w wr ∧ Blk wr w.heap.size 27 (cellsV r ⟨pA, pca, pB, pcb⟩))) (fun _ i _ => r.b.length - (intOf i).toNat)
        case atStart => exact ⟨0, by omega, rfl, t1, rfl, Lib.hid ⟨HKS.out, HB.out, HX.out⟩⟩
        case round =>
          obtain ⟨j, hj, rfl, u, rfl, HU⟩ := hrel
          obtain ⟨x0, x1, x2, x3, x4, x5, x6, x7⟩ := cells8 HU.out.2.2
          dsimp only at x6 x7
          have zu : u.size ≤ 1000 := by rw [HU.out.1, str_size]; exact upKeys_le HO.out j
          by_cases hjt : j < r.b.length
          · obtain ⟨bd, rfl, _, c0⟩ := (HLS.out.below HU.out.2.1 (Nat.le_refl _)).at_ hjt
            have hgd := (keys_of HO.out.2.2.2.2.2.1).2.1 r.b[j] (List.getElem_mem hjt)
            obtain ⟨y, hy⟩ : ∃ y, r.b[j] = y := ⟨_, rfl⟩
            rw [hy] at c0 hgd
            have hyk := key_le hgd
            obtain ⟨q1, hq1⟩ : ∃ p, Text.putT y = p := ⟨_, rfl⟩
            have z6 : q1.size ≤ 14 := by rw [← hq1]; exact (tL_str hyk (by omega)).2
            have y5 : ¬ 9223372036854775807 < u.size + q1.size := by omega
            have HQ1 := Lib.hid hq1
            have HST := Lib.hid (key_str hjt hy HU.out.1 hyk hq1)
            clear hq1 hgd hy
            go_wp2_with fail
            refine (Text.specPutText_any y _ (by unfold maxLen; omega)).mono ?_
            rintro e w4 ⟨rfl, hb4⟩
            rw [HQ1.out]
            have HB4 := Lib.hid (HU.out.2.1.trans (hb4.mono HU.out.2.1.size))
            have HX4 := Lib.hid (HU.out.2.2.on hb4)
            clear hb4 x0 x1 x2 x3 x4 x5 x6 x7
            go_wp2_with fail
            go_roundw
            case rel => exact ⟨j + 1, by omega, by go_num, _, rfl, Lib.hid ⟨HST.out, HB4.out, HX4.out⟩⟩
            case measure => simp [intOf]; omega
          · have hje : j = r.b.length := by omega
            have HF := Lib.hid (show u = str (bodyL r) by have e := HU.out.1; rw [hje, upKeys_all] at e; exact e)
            clear hje
            go_wp2_with fail
            refine (Seal.specSeal_any u _ (by unfold maxLen; omega)).mono ?_
            rintro e w5 ⟨rfl, hb5⟩
            have HB5 := Lib.hid (HU.out.2.1.trans (hb5.mono HU.out.2.1.size))
            clear hb5
            go_wp2_with fail
            go_ret
            exact ⟨ret_str (by rw [HF.out]), HB5.out⟩
end Go.Proofs.YtkmlnibkdcdegaaGreatDoor.Rec
