/-
  The Go law FnId answers true for all bytes: of two unlike drawn Ids just one is less; the greater one of two is one of them, and not less; a right one comes back from its text.
-/
import Derived.Test.YtbkgampfehjpaaaDoorIdBox
namespace Go.Proofs.YtbkgampfehjpaaaDoor.FnId
open Go.ChangeShapes Go.WideShapes Go.ChangeAt Go.RowKit
open Go.Proofs.YtbkgampfehjpaaaDoor.Id (IdRow idV OutRow outV Ready)
set_option linter.unusedVariables false

theorem less_self (a b c : Int) : Id.lessB a b c a b c = false := by simp [Id.lessB]
theorem max_first {p0 p1 p2 q0 q1 q2 m0 m1 m2 : Int} (h : Id.lessB p0 p1 p2 q0 q1 q2 = false) (hm : Id.maxV p0 p1 p2 q0 q1 q2 = idV m0 m1 m2) : p0 = m0 ∧ p1 = m1 ∧ p2 = m2 := by
  unfold Id.maxV at hm
  rw [h, if_neg (by simp)] at hm
  simpa [idV] using hm
theorem max_second {p0 p1 p2 q0 q1 q2 m0 m1 m2 : Int} (h : Id.lessB p0 p1 p2 q0 q1 q2 = true) (hm : Id.maxV p0 p1 p2 q0 q1 q2 = idV m0 m1 m2) : q0 = m0 ∧ q1 = m1 ∧ q2 = m2 := by
  unfold Id.maxV at hm
  rw [if_pos h] at hm
  simpa [idV] using hm
/-- What is read is the Id whose text was read. -/
theorem text_of_rd {u : ByteArray} {x0 x1 x2 : Int} (h : Id.rdV u = outV x0 x1 x2 0) : Id.textB x0 x1 x2 = u := by
  classical
  unfold Id.rdV at h
  split at h
  · simp [outV] at h
  · split at h
    · rename_i h1 h2
      have h3 := h2.choose_spec
      simp only [outV, Value.agg.injEq, Array.mk.injEq, List.cons.injEq, Value.int.injEq, true_and, and_true] at h
      rw [← h.1, ← h.2.1, ← h.2.2]
      exact h3.2
    · simp [outV] at h
/-- A right Id's text is read as that Id. -/
theorem rd_of_text {t : ByteArray} {c0 c1 c2 : Int} (h : Id.textB c0 c1 c2 = t) (he : ¬ t.data.toList = []) : Id.rdV t = outV c0 c1 c2 0 :=
  Id.rdV_ok (by have := Src.textB_size c0 c1 c2; rw [h] at this; omega) (Id.right_of_text h he) h
theorem less_other {a b c a' b' c' : Int} (h : ¬ (a = a' ∧ b = b' ∧ c = c')) : Id.lessB a' b' c' a b c = !(Id.lessB a b c a' b' c') := by
  unfold Id.lessB
  by_cases h1 : a < a' ∨ (a = a' ∧ (b < b' ∨ (b = b' ∧ c < c')))
  · rw [decide_eq_true h1, decide_eq_false (by omega)]; rfl
  · rw [decide_eq_false h1, decide_eq_true (by omega)]; rfl

set_option maxRecDepth 100000 in
set_option maxHeartbeats 20000000 in
theorem law (a0 : Option Addr) (len0 cap0 : Nat) (z0 : List Int) (a1 : Option Addr) (len1 cap1 : Nat) (z1 : List Int) (w : World) (w0 : IsRow .u8 w a0 len0 cap0 z0) (w1 : IsRow .u8 w a1 len1 cap1 z1) (hrd : Ready w) :
    Calls Tryd.prog 3 #[.slice a0 len0 cap0, .slice a1 len1 cap1] w fun e w' => e = .returned (.bool true) ∧ Below w.heap.size w w' := by
  by_cases hl0 : 1048576 < len0
  · have h : (1048576 : Int) < (len0 : Int) := by omega
    clear w0 w1 hrd
    go_enter Tryd.func3, Tryd.ntmps3
    go_wp2_with fail
    go_ret
    exact ⟨rfl, Below.refl _ _⟩
  by_cases hl1 : 1048576 < len1
  · have h : (1048576 : Int) < (len1 : Int) := by omega
    have h0 : ¬ (1048576 : Int) < (len0 : Int) := by omega
    clear w0 w1 hrd
    go_enter Tryd.func3, Tryd.ntmps3
    go_wp2_with fail
    go_ret
    exact ⟨rfl, Below.refl _ _⟩
  have h0 : ¬ (1048576 : Int) < (len0 : Int) := by omega
  have h1 : ¬ (1048576 : Int) < (len1 : Int) := by omega
  have HB0 := Lib.hid (bytes_of_row w0 (by omega))
  have HB1 := Lib.hid (bytes_of_row w1 (by omega))
  have RD := Lib.hid hrd
  clear w0 w1 hrd hl0 hl1
  go_enter Tryd.func3, Tryd.ntmps3
  go_wp2_with fail
  refine (Src.drawIdLess_any a0 len0 cap0 w HB0.out).mono ?_
  rintro x w1 ⟨p0, p1, p2, q0, q1, q2, rfl, hb⟩
  have B1 := Lib.hid hb
  unfold idV
  clear hb
  obtain ⟨m0, m1, m2, hm⟩ : ∃ x y z, Id.maxV p0 p1 p2 q0 q1 q2 = idV x y z := by unfold Id.maxV; split; exact ⟨_, _, _, rfl⟩; exact ⟨_, _, _, rfl⟩
  have HM := Lib.hid hm
  clear hm
  go_wp2_with fail
  have A2 := Lib.hid (((IdRow.new w1 24 p0 p1 p2).alloc (Obj.cells #[Value.int .i64 q0, .int .i64 q1, .int .i64 q2] 24)).cells)
  have Q2 : Hid (C3 ((w1.alloc (Obj.cells #[Value.int .i64 p0, .int .i64 p1, .int .i64 p2] 24)).alloc (Obj.cells #[Value.int .i64 q0, .int .i64 q1, .int .i64 q2] 24)) (w1.heap.size + 1) q0 q1 q2) := Lib.hid (by
    have hs : (w1.alloc (Obj.cells #[Value.int .i64 p0, .int .i64 p1, .int .i64 p2] 24)).heap.size = w1.heap.size + 1 := by simp
    have h := IdRow.new (w1.alloc (Obj.cells #[Value.int .i64 p0, .int .i64 p1, .int .i64 p2] 24)) 24 q0 q1 q2
    rw [hs] at h
    exact h.cells)
  have B2 := Lib.hid ((B1.out.alloc B1.out.size (Obj.cells #[Value.int .i64 p0, .int .i64 p1, .int .i64 p2] 24)).alloc (by have := B1.out.size; simp; omega) (Obj.cells #[Value.int .i64 q0, .int .i64 q1, .int .i64 q2] 24))
  generalize World.alloc (World.alloc w1 _) _ = W2 at A2 Q2 B2 ⊢
  generalize w1.heap.size = ga at *
  refine (Id.implMax_any p0 p1 p2 q0 q1 q2 W2).mono ?_
  rintro x w3 ⟨rfl, hb3⟩
  rw [HM.out]
  unfold idV
  have A3 := Lib.hid (C3.step A2.out hb3)
  have Q3 := Lib.hid (C3.step Q2.out hb3)
  have B3 := Lib.hid (B2.out.trans (hb3.mono B2.out.size))
  clear hb3
  go_wp2_with fail
  have K4 := (Below.refl w3.heap.size w3).alloc (Nat.le_refl _) (Obj.cells #[Value.int .i64 m0, .int .i64 m1, .int .i64 m2] 24)
  have A4 := Lib.hid (C3.step A3.out K4)
  have Q4 := Lib.hid (C3.step Q3.out K4)
  have M4 := Lib.hid (IdRow.new w3 24 m0 m1 m2).cells
  have B4 := Lib.hid (B3.out.trans (K4.mono B3.out.size))
  clear K4
  generalize World.alloc w3 _ = W4 at A4 Q4 M4 B4 ⊢
  generalize w3.heap.size = gm at *
  refine (Src.drawIdText_any a1 len1 cap1 W4 (by
    have h5 := HB1.out.below B4.out
    exact ⟨h5.1, fun hp => by
      obtain ⟨cb, co, e1, e2, e3⟩ := h5.2 hp
      exact ⟨cb, co, e1, by have := B4.out.size; omega, e3⟩⟩)).mono ?_
  rintro x w5 ⟨c0, c1, c2, rfl, hb5⟩
  unfold idV
  have A5 := Lib.hid (C3.step A4.out hb5)
  have Q5 := Lib.hid (C3.step Q4.out hb5)
  have M5 := Lib.hid (C3.step M4.out hb5)
  have B5 := Lib.hid (B4.out.trans (hb5.mono B4.out.size))
  clear hb5
  go_wp2_with fail
  have K6 := (Below.refl w5.heap.size w5).alloc (Nat.le_refl _) (Obj.cells #[Value.int .i64 c0, .int .i64 c1, .int .i64 c2] 24)
  have A6 := Lib.hid (C3.step A5.out K6)
  have Q6 := Lib.hid (C3.step Q5.out K6)
  have M6 := Lib.hid (C3.step M5.out K6)
  have C6 := Lib.hid (IdRow.new w5 24 c0 c1 c2).cells
  have B6 := Lib.hid (B5.out.trans (K6.mono B5.out.size))
  clear K6
  generalize World.alloc w5 _ = W6 at A6 Q6 M6 C6 B6 ⊢
  generalize w5.heap.size = gc at *
  refine (Id.implText_any c0 c1 c2 W6 (RD.out.tab.on B6.out (Nat.le_refl _))).mono ?_
  rintro x w7 ⟨rfl, hb7⟩
  have A7 := Lib.hid (C3.step A6.out hb7)
  have Q7 := Lib.hid (C3.step Q6.out hb7)
  have M7 := Lib.hid (C3.step M6.out hb7)
  have C7 := Lib.hid (C3.step C6.out hb7)
  have B7 := Lib.hid (B6.out.trans (hb7.mono B6.out.size))
  clear hb7
  generalize ht : Id.textB c0 c1 c2 = t
  have HT := Lib.hid ht
  clear ht
  go_wp2_with fail
  refine (Src.drawIdRead_any a1 len1 cap1 w7 (by
    have h5 := HB1.out.below B7.out
    exact ⟨h5.1, fun hp => by
      obtain ⟨cb, co, e1, e2, e3⟩ := h5.2 hp
      exact ⟨cb, co, e1, by have := B7.out.size; omega, e3⟩⟩)).mono ?_
  rintro x w8 ⟨u, rfl, hu, hb8⟩
  have A8 := Lib.hid (C3.step A7.out hb8)
  have Q8 := Lib.hid (C3.step Q7.out hb8)
  have M8 := Lib.hid (C3.step M7.out hb8)
  have C8 := Lib.hid (C3.step C7.out hb8)
  have B8 := Lib.hid (B7.out.trans (hb8.mono B7.out.size))
  have HU := Lib.hid hu
  clear hb8 hu
  obtain ⟨x0, x1, x2, x3, hx⟩ := Id.rdV_form u
  have HX := Lib.hid hx
  clear hx
  go_wp2_with fail
  refine (Id.implRead_any u w8 HU.out (RD.out.on B8.out (Nat.le_refl _))).mono ?_
  rintro x w9 ⟨rfl, hb9⟩
  rw [HX.out]
  unfold outV
  have A9 := Lib.hid (C3.step A8.out hb9)
  have Q9 := Lib.hid (C3.step Q8.out hb9)
  have M9 := Lib.hid (C3.step M8.out hb9)
  have C9 := Lib.hid (C3.step C8.out hb9)
  have B9 := Lib.hid (B8.out.trans (hb9.mono B8.out.size))
  clear hb9
  go_wp2_with fail
  have K10 := (Below.refl w9.heap.size w9).alloc (Nat.le_refl _) (Obj.cells #[Value.int .i64 x0, .int .i64 x1, .int .i64 x2, .int .i64 x3] 32)
  have h10 : Five w ga (ga + 1) gm gc w9.heap.size p0 p1 p2 q0 q1 q2 m0 m1 m2 c0 c1 c2 x0 x1 x2 x3 (w9.alloc (Obj.cells #[Value.int .i64 x0, .int .i64 x1, .int .i64 x2, .int .i64 x3] 32)) :=
    ⟨C3.step A9.out K10, C3.step Q9.out K10, C3.step M9.out K10, C3.step C9.out K10, (OutRow.new w9 32 x0 x1 x2 x3).cells.1, B9.out.trans (K10.mono B9.out.size)⟩
  clear K10
  generalize World.alloc w9 _ = W at h10 ⊢
  generalize w9.heap.size = gx at *
  have H10 := Lib.hid h10
  clear A2 A3 A4 A5 A6 A7 A8 A9 Q2 Q3 Q4 Q5 Q6 Q7 Q8 Q9 M4 M5 M6 M7 M8 M9 C6 C7 C8 C9 B1 B2 B3 B4 B5 B6 B7 B8 B9 h10 HB0 HB1
  obtain ⟨l, hl⟩ : ∃ l, Id.lessB p0 p1 p2 q0 q1 q2 = l := ⟨_, rfl⟩
  have HL := Lib.hid hl
  obtain ⟨r, hr⟩ : ∃ r, Id.rightB c0 c1 c2 = r := ⟨_, rfl⟩
  have HR := Lib.hid hr
  clear hl hr
  go_upto_region 9 with fail
  go_cut [68] (fun s68 wx => s68 = .bool false ∧ Five w ga (ga + 1) gm gc gx p0 p1 p2 q0 q1 q2 m0 m1 m2 c0 c1 c2 x0 x1 x2 x3 wx)
  case first =>
    have h10 := H10.out
    have e1 : (l == l) = true := beq_self_eq_true _
    have e2 : (r == r) = true := beq_self_eq_true _
    have e3 : (t.toList == t.toList) = true := beq_self_eq_true _
    go_region_held3 (fun W => C3 W ga p0 p1 p2 ∧ C3 W (ga + 1) q0 q1 q2 ∧ C3 W gm m0 m1 m2 ∧ C3 W gc c0 c1 c2 ∧ C4 W gx x0 x1 x2 x3 ∧ Below w.heap.size w W)
      (first | assumption | exact Five.drew (by assumption) | exact Five.step (by assumption) hb)
      (first | (go_at_call 12; refine (Id.implLess_any p0 p1 p2 q0 q1 q2 _).mono ?_; rintro x w' ⟨rfl, hb⟩; rw [HL.out]; (try unfold idV); (try unfold outV)) | (go_at_call 13; refine (Id.specLess_any p0 p1 p2 q0 q1 q2 _).mono ?_; rintro x w' ⟨rfl, hb⟩; rw [HL.out]; (try unfold idV); (try unfold outV)) | (go_at_call 14; refine (Id.specMax_any p0 p1 p2 q0 q1 q2 _).mono ?_; rintro x w' ⟨rfl, hb⟩; rw [HM.out]; (try unfold idV); (try unfold outV)) | (go_at_call 15; refine (Id.specText_any c0 c1 c2 _).mono ?_; rintro x w' ⟨rfl, hb⟩; rw [HT.out]; (try unfold idV); (try unfold outV)) | (go_at_call 16; refine (Id.specRead_any u _ HU.out).mono ?_; rintro x w' ⟨rfl, hb⟩; rw [HX.out]; (try unfold idV); (try unfold outV)) | (go_at_call 17; refine (Id.implRight_any c0 c1 c2 _).mono ?_; rintro x w' ⟨rfl, hb⟩; rw [HR.out]; (try unfold idV); (try unfold outV)) | (go_at_call 18; refine (Id.specRight_any c0 c1 c2 _).mono ?_; rintro x w' ⟨rfl, hb⟩; rw [HR.out]; (try unfold idV); (try unfold outV)))
    all_goals
      go_wp2_with fail
      go_meet
      exact ⟨rfl, by assumption⟩
  case rest =>
    obtain ⟨rfl, h10⟩ := hcut
    clear H10
    have H11 := Lib.hid h10
    clear h10
    go_upto_region 11 with fail
    go_cut [90] (fun s90 wx => s90 = .bool false ∧ Five w ga (ga + 1) gm gc gx p0 p1 p2 q0 q1 q2 m0 m1 m2 c0 c1 c2 x0 x1 x2 x3 wx)
    case first =>
      have h10 := H11.out
      clear H11
      by_cases hd0 : p0 = q0
      · by_cases hd1 : p1 = q1
        · by_cases hd2 : p2 = q2
          · subst hd0
            subst hd1
            subst hd2
            have d0 : (p0 == p0) = true := beq_self_eq_true _
            have d1 : (p1 == p1) = true := beq_self_eq_true _
            have d2 : (p2 == p2) = true := beq_self_eq_true _
            have HE := Lib.hid (less_self p0 p1 p2)
            refine wp_region_held_drew (S := (fun W => C3 W ga p0 p1 p2 ∧ C3 W (ga + 1) p0 p1 p2 ∧ C3 W gm m0 m1 m2 ∧ C3 W gc c0 c1 c2 ∧ C4 W gx x0 x1 x2 x3 ∧ Below w.heap.size w W)) (by kernel_rfl) ?_ (fun hHeld => ?_)
            · exact Five.drew h10
            refine wpAnyH_take (i := 0) (v := ?_) rfl (by kernel_rfl) (by kernel_rfl) (by kernel_rfl) (fun _ _ _ h => h) (Or.inl ⟨by rfl, ?_⟩) hHeld ?_
            rotate_left
            · intro W hSw
              obtain ⟨⟨hs1, hs2, hs3⟩, ⟨hs4, hs5, hs6⟩, ⟨hs7, hs8, hs9⟩, ⟨hs10, hs11, hs12⟩, ⟨hs13, hs14, hs15, hs16⟩, _⟩ := hSw
              go_simp
              try with_reducible rfl
            try simp only [Act.put, List.setIfInBounds_toArray, List.set_cons_zero, List.set_cons_succ, List.getElem_toArray, List.getElem_cons_zero]
            refine wpAnyH_take (i := 1) (v := ?_) rfl (by kernel_rfl) (by kernel_rfl) (by kernel_rfl) (fun _ _ _ h => h) (Or.inl ⟨by rfl, ?_⟩) hHeld ?_
            rotate_left
            · intro W hSw
              obtain ⟨⟨hs1, hs2, hs3⟩, ⟨hs4, hs5, hs6⟩, ⟨hs7, hs8, hs9⟩, ⟨hs10, hs11, hs12⟩, ⟨hs13, hs14, hs15, hs16⟩, _⟩ := hSw
              go_simp
              try with_reducible rfl
            try simp only [Act.put, List.setIfInBounds_toArray, List.set_cons_zero, List.set_cons_succ, List.getElem_toArray, List.getElem_cons_succ, List.getElem_cons_zero]
            refine wpAnyH_take (i := 2) (v := ?_) rfl (by kernel_rfl) (by kernel_rfl) (by kernel_rfl) (fun _ _ _ h => h) (Or.inl ⟨by rfl, ?_⟩) hHeld ?_
            rotate_left
            · intro W hSw
              obtain ⟨⟨hs1, hs2, hs3⟩, ⟨hs4, hs5, hs6⟩, ⟨hs7, hs8, hs9⟩, ⟨hs10, hs11, hs12⟩, ⟨hs13, hs14, hs15, hs16⟩, _⟩ := hSw
              go_simp
              try with_reducible rfl
            try simp only [Act.put, List.setIfInBounds_toArray, List.set_cons_zero, List.set_cons_succ, List.getElem_toArray, List.getElem_cons_succ, List.getElem_cons_zero]
            refine wpAnyH_take (i := 3) (v := ?_) rfl (by kernel_rfl) (by kernel_rfl) (by kernel_rfl) (fun _ _ _ h => h) (Or.inl ⟨by rfl, ?_⟩) hHeld ?_
            rotate_left
            · intro W hSw
              obtain ⟨⟨hs1, hs2, hs3⟩, ⟨hs4, hs5, hs6⟩, ⟨hs7, hs8, hs9⟩, ⟨hs10, hs11, hs12⟩, ⟨hs13, hs14, hs15, hs16⟩, _⟩ := hSw
              go_simp
              try with_reducible rfl
            try simp only [Act.put, List.setIfInBounds_toArray, List.set_cons_zero, List.set_cons_succ, List.getElem_toArray, List.getElem_cons_succ, List.getElem_cons_zero]
            refine wpAnyH_take (i := 4) (v := undef) rfl (by kernel_rfl) (by kernel_rfl) (by kernel_rfl) (fun _ _ _ h => h) (Or.inr ⟨by rfl, rfl⟩) hHeld ?_
            try simp only [Act.put, List.setIfInBounds_toArray, List.set_cons_zero, List.set_cons_succ, List.getElem_toArray, List.getElem_cons_succ, List.getElem_cons_zero]
            refine wpAnyH_take (i := 5) (v := undef) rfl (by kernel_rfl) (by kernel_rfl) (by kernel_rfl) (fun _ _ _ h => h) (Or.inr ⟨by rfl, rfl⟩) hHeld ?_
            try simp only [Act.put, List.setIfInBounds_toArray, List.set_cons_zero, List.set_cons_succ, List.getElem_toArray, List.getElem_cons_succ, List.getElem_cons_zero]
            refine wpAnyH_take (i := 7) (v := undef) rfl (by kernel_rfl) (by kernel_rfl) (by kernel_rfl) (fun _ _ _ h => h) (Or.inr ⟨by rfl, rfl⟩) hHeld ?_
            try simp only [Act.put, List.setIfInBounds_toArray, List.set_cons_zero, List.set_cons_succ, List.getElem_toArray, List.getElem_cons_succ, List.getElem_cons_zero]
            refine wpAnyH_take (i := 8) (v := undef) rfl (by kernel_rfl) (by kernel_rfl) (by kernel_rfl) (fun _ _ _ h => h) (Or.inr ⟨by rfl, rfl⟩) hHeld ?_
            try simp only [Act.put, List.setIfInBounds_toArray, List.set_cons_zero, List.set_cons_succ, List.getElem_toArray, List.getElem_cons_succ, List.getElem_cons_zero]
            refine wpAnyH_ready (rs := [6]) (by kernel_rfl) (by simp) ?_
            refine AllReadyH.cons rfl (fun K hK => ?_) AllReadyH.nil
            go_simp
            refine hK.out _ _ ?_ (fun hHeld => ?_)
            · assumption
            clear hK K
            try simp only [Act.put, List.setIfInBounds_toArray, List.set_cons_zero, List.set_cons_succ, List.getElem_toArray, List.getElem_cons_succ, List.getElem_cons_zero]
            refine wpAnyH_ready (rs := [9]) (by kernel_rfl) (by simp) ?_
            refine AllReadyH.cons rfl (fun K hK => ?_) AllReadyH.nil
            go_simp
            refine hK.out _ _ ?_ (fun hHeld => ?_)
            · assumption
            clear hK K
            try simp only [Act.put, List.setIfInBounds_toArray, List.set_cons_zero, List.set_cons_succ, List.getElem_toArray, List.getElem_cons_succ, List.getElem_cons_zero]
            refine wpAnyH_take (i := 10) (v := undef) rfl (by kernel_rfl) (by kernel_rfl) (by kernel_rfl) (fun _ _ _ h => h) (Or.inr ⟨by rfl, rfl⟩) hHeld ?_
            try simp only [Act.put, List.setIfInBounds_toArray, List.set_cons_zero, List.set_cons_succ, List.getElem_toArray, List.getElem_cons_succ, List.getElem_cons_zero]
            refine wpAnyH_take (i := 11) (v := ?_) rfl (by kernel_rfl) (by kernel_rfl) (by kernel_rfl) (fun _ _ _ h => h) (Or.inl ⟨by rfl, ?_⟩) hHeld ?_
            rotate_left
            · intro W hSw
              obtain ⟨⟨hs1, hs2, hs3⟩, ⟨hs4, hs5, hs6⟩, ⟨hs7, hs8, hs9⟩, ⟨hs10, hs11, hs12⟩, ⟨hs13, hs14, hs15, hs16⟩, _⟩ := hSw
              go_simp
              try with_reducible rfl
            try simp only [Act.put, List.setIfInBounds_toArray, List.set_cons_zero, List.set_cons_succ, List.getElem_toArray, List.getElem_cons_succ, List.getElem_cons_zero]
            refine wpAnyH_take (i := 12) (v := ?_) rfl (by kernel_rfl) (by kernel_rfl) (by kernel_rfl) (fun _ _ _ h => h) (Or.inl ⟨by rfl, ?_⟩) hHeld ?_
            rotate_left
            · intro W hSw
              obtain ⟨⟨hs1, hs2, hs3⟩, ⟨hs4, hs5, hs6⟩, ⟨hs7, hs8, hs9⟩, ⟨hs10, hs11, hs12⟩, ⟨hs13, hs14, hs15, hs16⟩, _⟩ := hSw
              go_simp
              try with_reducible rfl
            try simp only [Act.put, List.setIfInBounds_toArray, List.set_cons_zero, List.set_cons_succ, List.getElem_toArray, List.getElem_cons_succ, List.getElem_cons_zero]
            refine wpAnyH_take (i := 13) (v := ?_) rfl (by kernel_rfl) (by kernel_rfl) (by kernel_rfl) (fun _ _ _ h => h) (Or.inl ⟨by rfl, ?_⟩) hHeld ?_
            rotate_left
            · intro W hSw
              obtain ⟨⟨hs1, hs2, hs3⟩, ⟨hs4, hs5, hs6⟩, ⟨hs7, hs8, hs9⟩, ⟨hs10, hs11, hs12⟩, ⟨hs13, hs14, hs15, hs16⟩, _⟩ := hSw
              go_simp
              try with_reducible rfl
            try simp only [Act.put, List.setIfInBounds_toArray, List.set_cons_zero, List.set_cons_succ, List.getElem_toArray, List.getElem_cons_succ, List.getElem_cons_zero]
            refine wpAnyH_take (i := 14) (v := ?_) rfl (by kernel_rfl) (by kernel_rfl) (by kernel_rfl) (fun _ _ _ h => h) (Or.inl ⟨by rfl, ?_⟩) hHeld ?_
            rotate_left
            · intro W hSw
              obtain ⟨⟨hs1, hs2, hs3⟩, ⟨hs4, hs5, hs6⟩, ⟨hs7, hs8, hs9⟩, ⟨hs10, hs11, hs12⟩, ⟨hs13, hs14, hs15, hs16⟩, _⟩ := hSw
              go_simp
              try with_reducible rfl
            try simp only [Act.put, List.setIfInBounds_toArray, List.set_cons_zero, List.set_cons_succ, List.getElem_toArray, List.getElem_cons_succ, List.getElem_cons_zero]
            refine wpAnyH_take (i := 15) (v := ?_) rfl (by kernel_rfl) (by kernel_rfl) (by kernel_rfl) (fun _ _ _ h => h) (Or.inl ⟨by rfl, ?_⟩) hHeld ?_
            rotate_left
            · intro W hSw
              obtain ⟨⟨hs1, hs2, hs3⟩, ⟨hs4, hs5, hs6⟩, ⟨hs7, hs8, hs9⟩, ⟨hs10, hs11, hs12⟩, ⟨hs13, hs14, hs15, hs16⟩, _⟩ := hSw
              go_simp
              try with_reducible rfl
            try simp only [Act.put, List.setIfInBounds_toArray, List.set_cons_zero, List.set_cons_succ, List.getElem_toArray, List.getElem_cons_succ, List.getElem_cons_zero]
            refine wpAnyH_take (i := 16) (v := ?_) rfl (by kernel_rfl) (by kernel_rfl) (by kernel_rfl) (fun _ _ _ h => h) (Or.inl ⟨by rfl, ?_⟩) hHeld ?_
            rotate_left
            · intro W hSw
              obtain ⟨⟨hs1, hs2, hs3⟩, ⟨hs4, hs5, hs6⟩, ⟨hs7, hs8, hs9⟩, ⟨hs10, hs11, hs12⟩, ⟨hs13, hs14, hs15, hs16⟩, _⟩ := hSw
              go_simp
              try with_reducible rfl
            try simp only [Act.put, List.setIfInBounds_toArray, List.set_cons_zero, List.set_cons_succ, List.getElem_toArray, List.getElem_cons_succ, List.getElem_cons_zero]
            refine wpAnyH_take (i := 17) (v := ?_) rfl (by kernel_rfl) (by kernel_rfl) (by kernel_rfl) (fun _ _ _ h => h) (Or.inl ⟨by rfl, ?_⟩) hHeld ?_
            rotate_left
            · intro W hSw
              obtain ⟨⟨hs1, hs2, hs3⟩, ⟨hs4, hs5, hs6⟩, ⟨hs7, hs8, hs9⟩, ⟨hs10, hs11, hs12⟩, ⟨hs13, hs14, hs15, hs16⟩, _⟩ := hSw
              go_simp
              try with_reducible rfl
            try simp only [Act.put, List.setIfInBounds_toArray, List.set_cons_zero, List.set_cons_succ, List.getElem_toArray, List.getElem_cons_succ, List.getElem_cons_zero]
            refine wpAnyH_take (i := 18) (v := ?_) rfl (by kernel_rfl) (by kernel_rfl) (by kernel_rfl) (fun _ _ _ h => h) (Or.inl ⟨by rfl, ?_⟩) hHeld ?_
            rotate_left
            · intro W hSw
              obtain ⟨⟨hs1, hs2, hs3⟩, ⟨hs4, hs5, hs6⟩, ⟨hs7, hs8, hs9⟩, ⟨hs10, hs11, hs12⟩, ⟨hs13, hs14, hs15, hs16⟩, _⟩ := hSw
              go_simp
              try with_reducible rfl
            try simp only [Act.put, List.setIfInBounds_toArray, List.set_cons_zero, List.set_cons_succ, List.getElem_toArray, List.getElem_cons_succ, List.getElem_cons_zero]
            refine wpAnyH_ready (rs := [19]) (by kernel_rfl) (by simp) ?_
            refine AllReadyH.cons rfl (fun K hK => ?_) AllReadyH.nil
            go_simp
            refine (Id.implLess_any p0 p1 p2 p0 p1 p2 _).mono ?_
            rintro x w' ⟨rfl, hb⟩
            rw [HE.out]
            refine hK.out _ _ ?_ (fun hHeld => ?_)
            · exact Five.step (by assumption) hb
            clear hK K
            try simp only [Act.put, List.setIfInBounds_toArray, List.set_cons_zero, List.set_cons_succ, List.getElem_toArray, List.getElem_cons_succ, List.getElem_cons_zero]
            refine wpAnyH_take (i := 20) (v := ?_) rfl (by kernel_rfl) (by kernel_rfl) (by kernel_rfl) (fun _ _ _ h => h) (Or.inl ⟨by rfl, ?_⟩) hHeld ?_
            rotate_left
            · intro W hSw
              obtain ⟨⟨hs1, hs2, hs3⟩, ⟨hs4, hs5, hs6⟩, ⟨hs7, hs8, hs9⟩, ⟨hs10, hs11, hs12⟩, ⟨hs13, hs14, hs15, hs16⟩, _⟩ := hSw
              go_simp
              try with_reducible rfl
            try simp only [Act.put, List.setIfInBounds_toArray, List.set_cons_zero, List.set_cons_succ, List.getElem_toArray, List.getElem_cons_succ, List.getElem_cons_zero]
            refine wpAnyH_take (i := 21) (v := ?_) rfl (by kernel_rfl) (by kernel_rfl) (by kernel_rfl) (fun _ _ _ h => h) (Or.inl ⟨by rfl, ?_⟩) hHeld ?_
            rotate_left
            · intro W hSw
              obtain ⟨⟨hs1, hs2, hs3⟩, ⟨hs4, hs5, hs6⟩, ⟨hs7, hs8, hs9⟩, ⟨hs10, hs11, hs12⟩, ⟨hs13, hs14, hs15, hs16⟩, _⟩ := hSw
              go_simp
              try with_reducible rfl
            try simp only [Act.put, List.setIfInBounds_toArray, List.set_cons_zero, List.set_cons_succ, List.getElem_toArray, List.getElem_cons_succ, List.getElem_cons_zero]
            refine wpAnyH_done (by kernel_rfl) ?_ _
            go_wp2_with fail
            go_meet
            exact ⟨rfl, by assumption⟩
          · subst hd0
            subst hd1
            have d0 : (p0 == p0) = true := beq_self_eq_true _
            have d1 : (p1 == p1) = true := beq_self_eq_true _
            have d2 : (p2 == q2) = false := beq_eq_false_iff_ne.2 hd2
            have HE := Lib.hid (show Id.lessB p0 p1 q2 p0 p1 p2 = !l by rw [← HL.out]; exact less_other (by simp [hd2]))
            have hl2 : (l == !l) = false := by cases l <;> rfl
            refine wp_region_held_drew (S := (fun W => C3 W ga p0 p1 p2 ∧ C3 W (ga + 1) p0 p1 q2 ∧ C3 W gm m0 m1 m2 ∧ C3 W gc c0 c1 c2 ∧ C4 W gx x0 x1 x2 x3 ∧ Below w.heap.size w W)) (by kernel_rfl) ?_ (fun hHeld => ?_)
            · exact Five.drew h10
            refine wpAnyH_take (i := 0) (v := ?_) rfl (by kernel_rfl) (by kernel_rfl) (by kernel_rfl) (fun _ _ _ h => h) (Or.inl ⟨by rfl, ?_⟩) hHeld ?_
            rotate_left
            · intro W hSw
              obtain ⟨⟨hs1, hs2, hs3⟩, ⟨hs4, hs5, hs6⟩, ⟨hs7, hs8, hs9⟩, ⟨hs10, hs11, hs12⟩, ⟨hs13, hs14, hs15, hs16⟩, _⟩ := hSw
              go_simp
              try with_reducible rfl
            try simp only [Act.put, List.setIfInBounds_toArray, List.set_cons_zero, List.set_cons_succ, List.getElem_toArray, List.getElem_cons_zero]
            refine wpAnyH_take (i := 1) (v := ?_) rfl (by kernel_rfl) (by kernel_rfl) (by kernel_rfl) (fun _ _ _ h => h) (Or.inl ⟨by rfl, ?_⟩) hHeld ?_
            rotate_left
            · intro W hSw
              obtain ⟨⟨hs1, hs2, hs3⟩, ⟨hs4, hs5, hs6⟩, ⟨hs7, hs8, hs9⟩, ⟨hs10, hs11, hs12⟩, ⟨hs13, hs14, hs15, hs16⟩, _⟩ := hSw
              go_simp
              try with_reducible rfl
            try simp only [Act.put, List.setIfInBounds_toArray, List.set_cons_zero, List.set_cons_succ, List.getElem_toArray, List.getElem_cons_succ, List.getElem_cons_zero]
            refine wpAnyH_take (i := 2) (v := ?_) rfl (by kernel_rfl) (by kernel_rfl) (by kernel_rfl) (fun _ _ _ h => h) (Or.inl ⟨by rfl, ?_⟩) hHeld ?_
            rotate_left
            · intro W hSw
              obtain ⟨⟨hs1, hs2, hs3⟩, ⟨hs4, hs5, hs6⟩, ⟨hs7, hs8, hs9⟩, ⟨hs10, hs11, hs12⟩, ⟨hs13, hs14, hs15, hs16⟩, _⟩ := hSw
              go_simp
              try with_reducible rfl
            try simp only [Act.put, List.setIfInBounds_toArray, List.set_cons_zero, List.set_cons_succ, List.getElem_toArray, List.getElem_cons_succ, List.getElem_cons_zero]
            refine wpAnyH_take (i := 3) (v := ?_) rfl (by kernel_rfl) (by kernel_rfl) (by kernel_rfl) (fun _ _ _ h => h) (Or.inl ⟨by rfl, ?_⟩) hHeld ?_
            rotate_left
            · intro W hSw
              obtain ⟨⟨hs1, hs2, hs3⟩, ⟨hs4, hs5, hs6⟩, ⟨hs7, hs8, hs9⟩, ⟨hs10, hs11, hs12⟩, ⟨hs13, hs14, hs15, hs16⟩, _⟩ := hSw
              go_simp
              try with_reducible rfl
            try simp only [Act.put, List.setIfInBounds_toArray, List.set_cons_zero, List.set_cons_succ, List.getElem_toArray, List.getElem_cons_succ, List.getElem_cons_zero]
            refine wpAnyH_take (i := 4) (v := ?_) rfl (by kernel_rfl) (by kernel_rfl) (by kernel_rfl) (fun _ _ _ h => h) (Or.inl ⟨by rfl, ?_⟩) hHeld ?_
            rotate_left
            · intro W hSw
              obtain ⟨⟨hs1, hs2, hs3⟩, ⟨hs4, hs5, hs6⟩, ⟨hs7, hs8, hs9⟩, ⟨hs10, hs11, hs12⟩, ⟨hs13, hs14, hs15, hs16⟩, _⟩ := hSw
              go_simp
              try with_reducible rfl
            try simp only [Act.put, List.setIfInBounds_toArray, List.set_cons_zero, List.set_cons_succ, List.getElem_toArray, List.getElem_cons_succ, List.getElem_cons_zero]
            refine wpAnyH_take (i := 5) (v := ?_) rfl (by kernel_rfl) (by kernel_rfl) (by kernel_rfl) (fun _ _ _ h => h) (Or.inl ⟨by rfl, ?_⟩) hHeld ?_
            rotate_left
            · intro W hSw
              obtain ⟨⟨hs1, hs2, hs3⟩, ⟨hs4, hs5, hs6⟩, ⟨hs7, hs8, hs9⟩, ⟨hs10, hs11, hs12⟩, ⟨hs13, hs14, hs15, hs16⟩, _⟩ := hSw
              go_simp
              try with_reducible rfl
            try simp only [Act.put, List.setIfInBounds_toArray, List.set_cons_zero, List.set_cons_succ, List.getElem_toArray, List.getElem_cons_succ, List.getElem_cons_zero]
            refine wpAnyH_take (i := 7) (v := ?_) rfl (by kernel_rfl) (by kernel_rfl) (by kernel_rfl) (fun _ _ _ h => h) (Or.inl ⟨by rfl, ?_⟩) hHeld ?_
            rotate_left
            · intro W hSw
              obtain ⟨⟨hs1, hs2, hs3⟩, ⟨hs4, hs5, hs6⟩, ⟨hs7, hs8, hs9⟩, ⟨hs10, hs11, hs12⟩, ⟨hs13, hs14, hs15, hs16⟩, _⟩ := hSw
              go_simp
              try with_reducible rfl
            try simp only [Act.put, List.setIfInBounds_toArray, List.set_cons_zero, List.set_cons_succ, List.getElem_toArray, List.getElem_cons_succ, List.getElem_cons_zero]
            refine wpAnyH_take (i := 8) (v := ?_) rfl (by kernel_rfl) (by kernel_rfl) (by kernel_rfl) (fun _ _ _ h => h) (Or.inl ⟨by rfl, ?_⟩) hHeld ?_
            rotate_left
            · intro W hSw
              obtain ⟨⟨hs1, hs2, hs3⟩, ⟨hs4, hs5, hs6⟩, ⟨hs7, hs8, hs9⟩, ⟨hs10, hs11, hs12⟩, ⟨hs13, hs14, hs15, hs16⟩, _⟩ := hSw
              go_simp
              try with_reducible rfl
            try simp only [Act.put, List.setIfInBounds_toArray, List.set_cons_zero, List.set_cons_succ, List.getElem_toArray, List.getElem_cons_succ, List.getElem_cons_zero]
            refine wpAnyH_ready (rs := [6]) (by kernel_rfl) (by simp) ?_
            refine AllReadyH.cons rfl (fun K hK => ?_) AllReadyH.nil
            go_simp
            refine (Id.implLess_any p0 p1 p2 p0 p1 q2 _).mono ?_
            rintro x w' ⟨rfl, hb⟩
            rw [HL.out]
            refine hK.out _ _ ?_ (fun hHeld => ?_)
            · exact Five.step (by assumption) hb
            clear hK K
            try simp only [Act.put, List.setIfInBounds_toArray, List.set_cons_zero, List.set_cons_succ, List.getElem_toArray, List.getElem_cons_succ, List.getElem_cons_zero]
            refine wpAnyH_ready (rs := [9]) (by kernel_rfl) (by simp) ?_
            refine AllReadyH.cons rfl (fun K hK => ?_) AllReadyH.nil
            go_simp
            refine (Id.implLess_any p0 p1 q2 p0 p1 p2 _).mono ?_
            rintro x w' ⟨rfl, hb⟩
            rw [HE.out]
            refine hK.out _ _ ?_ (fun hHeld => ?_)
            · exact Five.step (by assumption) hb
            clear hK K
            try simp only [Act.put, List.setIfInBounds_toArray, List.set_cons_zero, List.set_cons_succ, List.getElem_toArray, List.getElem_cons_succ, List.getElem_cons_zero]
            refine wpAnyH_take (i := 10) (v := ?_) rfl (by kernel_rfl) (by kernel_rfl) (by kernel_rfl) (fun _ _ _ h => h) (Or.inl ⟨by rfl, ?_⟩) hHeld ?_
            rotate_left
            · intro W hSw
              obtain ⟨⟨hs1, hs2, hs3⟩, ⟨hs4, hs5, hs6⟩, ⟨hs7, hs8, hs9⟩, ⟨hs10, hs11, hs12⟩, ⟨hs13, hs14, hs15, hs16⟩, _⟩ := hSw
              go_simp
              try with_reducible rfl
            try simp only [Act.put, List.setIfInBounds_toArray, List.set_cons_zero, List.set_cons_succ, List.getElem_toArray, List.getElem_cons_succ, List.getElem_cons_zero]
            refine wpAnyH_take (i := 11) (v := ?_) rfl (by kernel_rfl) (by kernel_rfl) (by kernel_rfl) (fun _ _ _ h => h) (Or.inl ⟨by rfl, ?_⟩) hHeld ?_
            rotate_left
            · intro W hSw
              obtain ⟨⟨hs1, hs2, hs3⟩, ⟨hs4, hs5, hs6⟩, ⟨hs7, hs8, hs9⟩, ⟨hs10, hs11, hs12⟩, ⟨hs13, hs14, hs15, hs16⟩, _⟩ := hSw
              go_simp
              try with_reducible rfl
            try simp only [Act.put, List.setIfInBounds_toArray, List.set_cons_zero, List.set_cons_succ, List.getElem_toArray, List.getElem_cons_succ, List.getElem_cons_zero]
            refine wpAnyH_take (i := 12) (v := ?_) rfl (by kernel_rfl) (by kernel_rfl) (by kernel_rfl) (fun _ _ _ h => h) (Or.inl ⟨by rfl, ?_⟩) hHeld ?_
            rotate_left
            · intro W hSw
              obtain ⟨⟨hs1, hs2, hs3⟩, ⟨hs4, hs5, hs6⟩, ⟨hs7, hs8, hs9⟩, ⟨hs10, hs11, hs12⟩, ⟨hs13, hs14, hs15, hs16⟩, _⟩ := hSw
              go_simp
              try with_reducible rfl
            try simp only [Act.put, List.setIfInBounds_toArray, List.set_cons_zero, List.set_cons_succ, List.getElem_toArray, List.getElem_cons_succ, List.getElem_cons_zero]
            refine wpAnyH_take (i := 13) (v := ?_) rfl (by kernel_rfl) (by kernel_rfl) (by kernel_rfl) (fun _ _ _ h => h) (Or.inl ⟨by rfl, ?_⟩) hHeld ?_
            rotate_left
            · intro W hSw
              obtain ⟨⟨hs1, hs2, hs3⟩, ⟨hs4, hs5, hs6⟩, ⟨hs7, hs8, hs9⟩, ⟨hs10, hs11, hs12⟩, ⟨hs13, hs14, hs15, hs16⟩, _⟩ := hSw
              go_simp
              try with_reducible rfl
            try simp only [Act.put, List.setIfInBounds_toArray, List.set_cons_zero, List.set_cons_succ, List.getElem_toArray, List.getElem_cons_succ, List.getElem_cons_zero]
            refine wpAnyH_take (i := 14) (v := ?_) rfl (by kernel_rfl) (by kernel_rfl) (by kernel_rfl) (fun _ _ _ h => h) (Or.inl ⟨by rfl, ?_⟩) hHeld ?_
            rotate_left
            · intro W hSw
              obtain ⟨⟨hs1, hs2, hs3⟩, ⟨hs4, hs5, hs6⟩, ⟨hs7, hs8, hs9⟩, ⟨hs10, hs11, hs12⟩, ⟨hs13, hs14, hs15, hs16⟩, _⟩ := hSw
              go_simp
              try with_reducible rfl
            try simp only [Act.put, List.setIfInBounds_toArray, List.set_cons_zero, List.set_cons_succ, List.getElem_toArray, List.getElem_cons_succ, List.getElem_cons_zero]
            refine wpAnyH_take (i := 15) (v := ?_) rfl (by kernel_rfl) (by kernel_rfl) (by kernel_rfl) (fun _ _ _ h => h) (Or.inl ⟨by rfl, ?_⟩) hHeld ?_
            rotate_left
            · intro W hSw
              obtain ⟨⟨hs1, hs2, hs3⟩, ⟨hs4, hs5, hs6⟩, ⟨hs7, hs8, hs9⟩, ⟨hs10, hs11, hs12⟩, ⟨hs13, hs14, hs15, hs16⟩, _⟩ := hSw
              go_simp
              try with_reducible rfl
            try simp only [Act.put, List.setIfInBounds_toArray, List.set_cons_zero, List.set_cons_succ, List.getElem_toArray, List.getElem_cons_succ, List.getElem_cons_zero]
            refine wpAnyH_take (i := 16) (v := ?_) rfl (by kernel_rfl) (by kernel_rfl) (by kernel_rfl) (fun _ _ _ h => h) (Or.inl ⟨by rfl, ?_⟩) hHeld ?_
            rotate_left
            · intro W hSw
              obtain ⟨⟨hs1, hs2, hs3⟩, ⟨hs4, hs5, hs6⟩, ⟨hs7, hs8, hs9⟩, ⟨hs10, hs11, hs12⟩, ⟨hs13, hs14, hs15, hs16⟩, _⟩ := hSw
              go_simp
              try with_reducible rfl
            try simp only [Act.put, List.setIfInBounds_toArray, List.set_cons_zero, List.set_cons_succ, List.getElem_toArray, List.getElem_cons_succ, List.getElem_cons_zero]
            refine wpAnyH_take (i := 17) (v := undef) rfl (by kernel_rfl) (by kernel_rfl) (by kernel_rfl) (fun _ _ _ h => h) (Or.inr ⟨by rfl, rfl⟩) hHeld ?_
            try simp only [Act.put, List.setIfInBounds_toArray, List.set_cons_zero, List.set_cons_succ, List.getElem_toArray, List.getElem_cons_succ, List.getElem_cons_zero]
            refine wpAnyH_take (i := 18) (v := undef) rfl (by kernel_rfl) (by kernel_rfl) (by kernel_rfl) (fun _ _ _ h => h) (Or.inr ⟨by rfl, rfl⟩) hHeld ?_
            try simp only [Act.put, List.setIfInBounds_toArray, List.set_cons_zero, List.set_cons_succ, List.getElem_toArray, List.getElem_cons_succ, List.getElem_cons_zero]
            refine wpAnyH_ready (rs := [19]) (by kernel_rfl) (by simp) ?_
            refine AllReadyH.cons rfl (fun K hK => ?_) AllReadyH.nil
            go_simp
            refine hK.out _ _ ?_ (fun hHeld => ?_)
            · assumption
            clear hK K
            try simp only [Act.put, List.setIfInBounds_toArray, List.set_cons_zero, List.set_cons_succ, List.getElem_toArray, List.getElem_cons_succ, List.getElem_cons_zero]
            refine wpAnyH_take (i := 20) (v := ?_) rfl (by kernel_rfl) (by kernel_rfl) (by kernel_rfl) (fun _ _ _ h => h) (Or.inl ⟨by rfl, ?_⟩) hHeld ?_
            rotate_left
            · intro W hSw
              obtain ⟨⟨hs1, hs2, hs3⟩, ⟨hs4, hs5, hs6⟩, ⟨hs7, hs8, hs9⟩, ⟨hs10, hs11, hs12⟩, ⟨hs13, hs14, hs15, hs16⟩, _⟩ := hSw
              go_simp
              try with_reducible rfl
            try simp only [Act.put, List.setIfInBounds_toArray, List.set_cons_zero, List.set_cons_succ, List.getElem_toArray, List.getElem_cons_succ, List.getElem_cons_zero]
            refine wpAnyH_take (i := 21) (v := ?_) rfl (by kernel_rfl) (by kernel_rfl) (by kernel_rfl) (fun _ _ _ h => h) (Or.inl ⟨by rfl, ?_⟩) hHeld ?_
            rotate_left
            · intro W hSw
              obtain ⟨⟨hs1, hs2, hs3⟩, ⟨hs4, hs5, hs6⟩, ⟨hs7, hs8, hs9⟩, ⟨hs10, hs11, hs12⟩, ⟨hs13, hs14, hs15, hs16⟩, _⟩ := hSw
              go_simp
              try with_reducible rfl
            try simp only [Act.put, List.setIfInBounds_toArray, List.set_cons_zero, List.set_cons_succ, List.getElem_toArray, List.getElem_cons_succ, List.getElem_cons_zero]
            refine wpAnyH_done (by kernel_rfl) ?_ _
            go_wp2_with fail
            go_meet
            exact ⟨rfl, by assumption⟩
        · subst hd0
          have d0 : (p0 == p0) = true := beq_self_eq_true _
          have d1 : (p1 == q1) = false := beq_eq_false_iff_ne.2 hd1
          have HE := Lib.hid (show Id.lessB p0 q1 q2 p0 p1 p2 = !l by rw [← HL.out]; exact less_other (by simp [hd1]))
          have hl2 : (l == !l) = false := by cases l <;> rfl
          refine wp_region_held_drew (S := (fun W => C3 W ga p0 p1 p2 ∧ C3 W (ga + 1) p0 q1 q2 ∧ C3 W gm m0 m1 m2 ∧ C3 W gc c0 c1 c2 ∧ C4 W gx x0 x1 x2 x3 ∧ Below w.heap.size w W)) (by kernel_rfl) ?_ (fun hHeld => ?_)
          · exact Five.drew h10
          refine wpAnyH_take (i := 0) (v := ?_) rfl (by kernel_rfl) (by kernel_rfl) (by kernel_rfl) (fun _ _ _ h => h) (Or.inl ⟨by rfl, ?_⟩) hHeld ?_
          rotate_left
          · intro W hSw
            obtain ⟨⟨hs1, hs2, hs3⟩, ⟨hs4, hs5, hs6⟩, ⟨hs7, hs8, hs9⟩, ⟨hs10, hs11, hs12⟩, ⟨hs13, hs14, hs15, hs16⟩, _⟩ := hSw
            go_simp
            try with_reducible rfl
          try simp only [Act.put, List.setIfInBounds_toArray, List.set_cons_zero, List.set_cons_succ, List.getElem_toArray, List.getElem_cons_zero]
          refine wpAnyH_take (i := 1) (v := ?_) rfl (by kernel_rfl) (by kernel_rfl) (by kernel_rfl) (fun _ _ _ h => h) (Or.inl ⟨by rfl, ?_⟩) hHeld ?_
          rotate_left
          · intro W hSw
            obtain ⟨⟨hs1, hs2, hs3⟩, ⟨hs4, hs5, hs6⟩, ⟨hs7, hs8, hs9⟩, ⟨hs10, hs11, hs12⟩, ⟨hs13, hs14, hs15, hs16⟩, _⟩ := hSw
            go_simp
            try with_reducible rfl
          try simp only [Act.put, List.setIfInBounds_toArray, List.set_cons_zero, List.set_cons_succ, List.getElem_toArray, List.getElem_cons_succ, List.getElem_cons_zero]
          refine wpAnyH_take (i := 2) (v := ?_) rfl (by kernel_rfl) (by kernel_rfl) (by kernel_rfl) (fun _ _ _ h => h) (Or.inl ⟨by rfl, ?_⟩) hHeld ?_
          rotate_left
          · intro W hSw
            obtain ⟨⟨hs1, hs2, hs3⟩, ⟨hs4, hs5, hs6⟩, ⟨hs7, hs8, hs9⟩, ⟨hs10, hs11, hs12⟩, ⟨hs13, hs14, hs15, hs16⟩, _⟩ := hSw
            go_simp
            try with_reducible rfl
          try simp only [Act.put, List.setIfInBounds_toArray, List.set_cons_zero, List.set_cons_succ, List.getElem_toArray, List.getElem_cons_succ, List.getElem_cons_zero]
          refine wpAnyH_take (i := 3) (v := ?_) rfl (by kernel_rfl) (by kernel_rfl) (by kernel_rfl) (fun _ _ _ h => h) (Or.inl ⟨by rfl, ?_⟩) hHeld ?_
          rotate_left
          · intro W hSw
            obtain ⟨⟨hs1, hs2, hs3⟩, ⟨hs4, hs5, hs6⟩, ⟨hs7, hs8, hs9⟩, ⟨hs10, hs11, hs12⟩, ⟨hs13, hs14, hs15, hs16⟩, _⟩ := hSw
            go_simp
            try with_reducible rfl
          try simp only [Act.put, List.setIfInBounds_toArray, List.set_cons_zero, List.set_cons_succ, List.getElem_toArray, List.getElem_cons_succ, List.getElem_cons_zero]
          refine wpAnyH_take (i := 4) (v := ?_) rfl (by kernel_rfl) (by kernel_rfl) (by kernel_rfl) (fun _ _ _ h => h) (Or.inl ⟨by rfl, ?_⟩) hHeld ?_
          rotate_left
          · intro W hSw
            obtain ⟨⟨hs1, hs2, hs3⟩, ⟨hs4, hs5, hs6⟩, ⟨hs7, hs8, hs9⟩, ⟨hs10, hs11, hs12⟩, ⟨hs13, hs14, hs15, hs16⟩, _⟩ := hSw
            go_simp
            try with_reducible rfl
          try simp only [Act.put, List.setIfInBounds_toArray, List.set_cons_zero, List.set_cons_succ, List.getElem_toArray, List.getElem_cons_succ, List.getElem_cons_zero]
          refine wpAnyH_take (i := 5) (v := ?_) rfl (by kernel_rfl) (by kernel_rfl) (by kernel_rfl) (fun _ _ _ h => h) (Or.inl ⟨by rfl, ?_⟩) hHeld ?_
          rotate_left
          · intro W hSw
            obtain ⟨⟨hs1, hs2, hs3⟩, ⟨hs4, hs5, hs6⟩, ⟨hs7, hs8, hs9⟩, ⟨hs10, hs11, hs12⟩, ⟨hs13, hs14, hs15, hs16⟩, _⟩ := hSw
            go_simp
            try with_reducible rfl
          try simp only [Act.put, List.setIfInBounds_toArray, List.set_cons_zero, List.set_cons_succ, List.getElem_toArray, List.getElem_cons_succ, List.getElem_cons_zero]
          refine wpAnyH_take (i := 7) (v := ?_) rfl (by kernel_rfl) (by kernel_rfl) (by kernel_rfl) (fun _ _ _ h => h) (Or.inl ⟨by rfl, ?_⟩) hHeld ?_
          rotate_left
          · intro W hSw
            obtain ⟨⟨hs1, hs2, hs3⟩, ⟨hs4, hs5, hs6⟩, ⟨hs7, hs8, hs9⟩, ⟨hs10, hs11, hs12⟩, ⟨hs13, hs14, hs15, hs16⟩, _⟩ := hSw
            go_simp
            try with_reducible rfl
          try simp only [Act.put, List.setIfInBounds_toArray, List.set_cons_zero, List.set_cons_succ, List.getElem_toArray, List.getElem_cons_succ, List.getElem_cons_zero]
          refine wpAnyH_take (i := 8) (v := ?_) rfl (by kernel_rfl) (by kernel_rfl) (by kernel_rfl) (fun _ _ _ h => h) (Or.inl ⟨by rfl, ?_⟩) hHeld ?_
          rotate_left
          · intro W hSw
            obtain ⟨⟨hs1, hs2, hs3⟩, ⟨hs4, hs5, hs6⟩, ⟨hs7, hs8, hs9⟩, ⟨hs10, hs11, hs12⟩, ⟨hs13, hs14, hs15, hs16⟩, _⟩ := hSw
            go_simp
            try with_reducible rfl
          try simp only [Act.put, List.setIfInBounds_toArray, List.set_cons_zero, List.set_cons_succ, List.getElem_toArray, List.getElem_cons_succ, List.getElem_cons_zero]
          refine wpAnyH_ready (rs := [6]) (by kernel_rfl) (by simp) ?_
          refine AllReadyH.cons rfl (fun K hK => ?_) AllReadyH.nil
          go_simp
          refine (Id.implLess_any p0 p1 p2 p0 q1 q2 _).mono ?_
          rintro x w' ⟨rfl, hb⟩
          rw [HL.out]
          refine hK.out _ _ ?_ (fun hHeld => ?_)
          · exact Five.step (by assumption) hb
          clear hK K
          try simp only [Act.put, List.setIfInBounds_toArray, List.set_cons_zero, List.set_cons_succ, List.getElem_toArray, List.getElem_cons_succ, List.getElem_cons_zero]
          refine wpAnyH_ready (rs := [9]) (by kernel_rfl) (by simp) ?_
          refine AllReadyH.cons rfl (fun K hK => ?_) AllReadyH.nil
          go_simp
          refine (Id.implLess_any p0 q1 q2 p0 p1 p2 _).mono ?_
          rintro x w' ⟨rfl, hb⟩
          rw [HE.out]
          refine hK.out _ _ ?_ (fun hHeld => ?_)
          · exact Five.step (by assumption) hb
          clear hK K
          try simp only [Act.put, List.setIfInBounds_toArray, List.set_cons_zero, List.set_cons_succ, List.getElem_toArray, List.getElem_cons_succ, List.getElem_cons_zero]
          refine wpAnyH_take (i := 10) (v := ?_) rfl (by kernel_rfl) (by kernel_rfl) (by kernel_rfl) (fun _ _ _ h => h) (Or.inl ⟨by rfl, ?_⟩) hHeld ?_
          rotate_left
          · intro W hSw
            obtain ⟨⟨hs1, hs2, hs3⟩, ⟨hs4, hs5, hs6⟩, ⟨hs7, hs8, hs9⟩, ⟨hs10, hs11, hs12⟩, ⟨hs13, hs14, hs15, hs16⟩, _⟩ := hSw
            go_simp
            try with_reducible rfl
          try simp only [Act.put, List.setIfInBounds_toArray, List.set_cons_zero, List.set_cons_succ, List.getElem_toArray, List.getElem_cons_succ, List.getElem_cons_zero]
          refine wpAnyH_take (i := 11) (v := ?_) rfl (by kernel_rfl) (by kernel_rfl) (by kernel_rfl) (fun _ _ _ h => h) (Or.inl ⟨by rfl, ?_⟩) hHeld ?_
          rotate_left
          · intro W hSw
            obtain ⟨⟨hs1, hs2, hs3⟩, ⟨hs4, hs5, hs6⟩, ⟨hs7, hs8, hs9⟩, ⟨hs10, hs11, hs12⟩, ⟨hs13, hs14, hs15, hs16⟩, _⟩ := hSw
            go_simp
            try with_reducible rfl
          try simp only [Act.put, List.setIfInBounds_toArray, List.set_cons_zero, List.set_cons_succ, List.getElem_toArray, List.getElem_cons_succ, List.getElem_cons_zero]
          refine wpAnyH_take (i := 12) (v := ?_) rfl (by kernel_rfl) (by kernel_rfl) (by kernel_rfl) (fun _ _ _ h => h) (Or.inl ⟨by rfl, ?_⟩) hHeld ?_
          rotate_left
          · intro W hSw
            obtain ⟨⟨hs1, hs2, hs3⟩, ⟨hs4, hs5, hs6⟩, ⟨hs7, hs8, hs9⟩, ⟨hs10, hs11, hs12⟩, ⟨hs13, hs14, hs15, hs16⟩, _⟩ := hSw
            go_simp
            try with_reducible rfl
          try simp only [Act.put, List.setIfInBounds_toArray, List.set_cons_zero, List.set_cons_succ, List.getElem_toArray, List.getElem_cons_succ, List.getElem_cons_zero]
          refine wpAnyH_take (i := 13) (v := ?_) rfl (by kernel_rfl) (by kernel_rfl) (by kernel_rfl) (fun _ _ _ h => h) (Or.inl ⟨by rfl, ?_⟩) hHeld ?_
          rotate_left
          · intro W hSw
            obtain ⟨⟨hs1, hs2, hs3⟩, ⟨hs4, hs5, hs6⟩, ⟨hs7, hs8, hs9⟩, ⟨hs10, hs11, hs12⟩, ⟨hs13, hs14, hs15, hs16⟩, _⟩ := hSw
            go_simp
            try with_reducible rfl
          try simp only [Act.put, List.setIfInBounds_toArray, List.set_cons_zero, List.set_cons_succ, List.getElem_toArray, List.getElem_cons_succ, List.getElem_cons_zero]
          refine wpAnyH_take (i := 14) (v := ?_) rfl (by kernel_rfl) (by kernel_rfl) (by kernel_rfl) (fun _ _ _ h => h) (Or.inl ⟨by rfl, ?_⟩) hHeld ?_
          rotate_left
          · intro W hSw
            obtain ⟨⟨hs1, hs2, hs3⟩, ⟨hs4, hs5, hs6⟩, ⟨hs7, hs8, hs9⟩, ⟨hs10, hs11, hs12⟩, ⟨hs13, hs14, hs15, hs16⟩, _⟩ := hSw
            go_simp
            try with_reducible rfl
          try simp only [Act.put, List.setIfInBounds_toArray, List.set_cons_zero, List.set_cons_succ, List.getElem_toArray, List.getElem_cons_succ, List.getElem_cons_zero]
          refine wpAnyH_take (i := 15) (v := ?_) rfl (by kernel_rfl) (by kernel_rfl) (by kernel_rfl) (fun _ _ _ h => h) (Or.inl ⟨by rfl, ?_⟩) hHeld ?_
          rotate_left
          · intro W hSw
            obtain ⟨⟨hs1, hs2, hs3⟩, ⟨hs4, hs5, hs6⟩, ⟨hs7, hs8, hs9⟩, ⟨hs10, hs11, hs12⟩, ⟨hs13, hs14, hs15, hs16⟩, _⟩ := hSw
            go_simp
            try with_reducible rfl
          try simp only [Act.put, List.setIfInBounds_toArray, List.set_cons_zero, List.set_cons_succ, List.getElem_toArray, List.getElem_cons_succ, List.getElem_cons_zero]
          refine wpAnyH_take (i := 16) (v := ?_) rfl (by kernel_rfl) (by kernel_rfl) (by kernel_rfl) (fun _ _ _ h => h) (Or.inl ⟨by rfl, ?_⟩) hHeld ?_
          rotate_left
          · intro W hSw
            obtain ⟨⟨hs1, hs2, hs3⟩, ⟨hs4, hs5, hs6⟩, ⟨hs7, hs8, hs9⟩, ⟨hs10, hs11, hs12⟩, ⟨hs13, hs14, hs15, hs16⟩, _⟩ := hSw
            go_simp
            try with_reducible rfl
          try simp only [Act.put, List.setIfInBounds_toArray, List.set_cons_zero, List.set_cons_succ, List.getElem_toArray, List.getElem_cons_succ, List.getElem_cons_zero]
          refine wpAnyH_take (i := 17) (v := undef) rfl (by kernel_rfl) (by kernel_rfl) (by kernel_rfl) (fun _ _ _ h => h) (Or.inr ⟨by rfl, rfl⟩) hHeld ?_
          try simp only [Act.put, List.setIfInBounds_toArray, List.set_cons_zero, List.set_cons_succ, List.getElem_toArray, List.getElem_cons_succ, List.getElem_cons_zero]
          refine wpAnyH_take (i := 18) (v := undef) rfl (by kernel_rfl) (by kernel_rfl) (by kernel_rfl) (fun _ _ _ h => h) (Or.inr ⟨by rfl, rfl⟩) hHeld ?_
          try simp only [Act.put, List.setIfInBounds_toArray, List.set_cons_zero, List.set_cons_succ, List.getElem_toArray, List.getElem_cons_succ, List.getElem_cons_zero]
          refine wpAnyH_ready (rs := [19]) (by kernel_rfl) (by simp) ?_
          refine AllReadyH.cons rfl (fun K hK => ?_) AllReadyH.nil
          go_simp
          refine hK.out _ _ ?_ (fun hHeld => ?_)
          · assumption
          clear hK K
          try simp only [Act.put, List.setIfInBounds_toArray, List.set_cons_zero, List.set_cons_succ, List.getElem_toArray, List.getElem_cons_succ, List.getElem_cons_zero]
          refine wpAnyH_take (i := 20) (v := ?_) rfl (by kernel_rfl) (by kernel_rfl) (by kernel_rfl) (fun _ _ _ h => h) (Or.inl ⟨by rfl, ?_⟩) hHeld ?_
          rotate_left
          · intro W hSw
            obtain ⟨⟨hs1, hs2, hs3⟩, ⟨hs4, hs5, hs6⟩, ⟨hs7, hs8, hs9⟩, ⟨hs10, hs11, hs12⟩, ⟨hs13, hs14, hs15, hs16⟩, _⟩ := hSw
            go_simp
            try with_reducible rfl
          try simp only [Act.put, List.setIfInBounds_toArray, List.set_cons_zero, List.set_cons_succ, List.getElem_toArray, List.getElem_cons_succ, List.getElem_cons_zero]
          refine wpAnyH_take (i := 21) (v := ?_) rfl (by kernel_rfl) (by kernel_rfl) (by kernel_rfl) (fun _ _ _ h => h) (Or.inl ⟨by rfl, ?_⟩) hHeld ?_
          rotate_left
          · intro W hSw
            obtain ⟨⟨hs1, hs2, hs3⟩, ⟨hs4, hs5, hs6⟩, ⟨hs7, hs8, hs9⟩, ⟨hs10, hs11, hs12⟩, ⟨hs13, hs14, hs15, hs16⟩, _⟩ := hSw
            go_simp
            try with_reducible rfl
          try simp only [Act.put, List.setIfInBounds_toArray, List.set_cons_zero, List.set_cons_succ, List.getElem_toArray, List.getElem_cons_succ, List.getElem_cons_zero]
          refine wpAnyH_done (by kernel_rfl) ?_ _
          go_wp2_with fail
          go_meet
          exact ⟨rfl, by assumption⟩
      · have d0 : (p0 == q0) = false := beq_eq_false_iff_ne.2 hd0
        have HE := Lib.hid (show Id.lessB q0 q1 q2 p0 p1 p2 = !l by rw [← HL.out]; exact less_other (by simp [hd0]))
        have hl2 : (l == !l) = false := by cases l <;> rfl
        refine wp_region_held_drew (S := (fun W => C3 W ga p0 p1 p2 ∧ C3 W (ga + 1) q0 q1 q2 ∧ C3 W gm m0 m1 m2 ∧ C3 W gc c0 c1 c2 ∧ C4 W gx x0 x1 x2 x3 ∧ Below w.heap.size w W)) (by kernel_rfl) ?_ (fun hHeld => ?_)
        · exact Five.drew h10
        refine wpAnyH_take (i := 0) (v := ?_) rfl (by kernel_rfl) (by kernel_rfl) (by kernel_rfl) (fun _ _ _ h => h) (Or.inl ⟨by rfl, ?_⟩) hHeld ?_
        rotate_left
        · intro W hSw
          obtain ⟨⟨hs1, hs2, hs3⟩, ⟨hs4, hs5, hs6⟩, ⟨hs7, hs8, hs9⟩, ⟨hs10, hs11, hs12⟩, ⟨hs13, hs14, hs15, hs16⟩, _⟩ := hSw
          go_simp
          try with_reducible rfl
        try simp only [Act.put, List.setIfInBounds_toArray, List.set_cons_zero, List.set_cons_succ, List.getElem_toArray, List.getElem_cons_zero]
        refine wpAnyH_take (i := 1) (v := ?_) rfl (by kernel_rfl) (by kernel_rfl) (by kernel_rfl) (fun _ _ _ h => h) (Or.inl ⟨by rfl, ?_⟩) hHeld ?_
        rotate_left
        · intro W hSw
          obtain ⟨⟨hs1, hs2, hs3⟩, ⟨hs4, hs5, hs6⟩, ⟨hs7, hs8, hs9⟩, ⟨hs10, hs11, hs12⟩, ⟨hs13, hs14, hs15, hs16⟩, _⟩ := hSw
          go_simp
          try with_reducible rfl
        try simp only [Act.put, List.setIfInBounds_toArray, List.set_cons_zero, List.set_cons_succ, List.getElem_toArray, List.getElem_cons_succ, List.getElem_cons_zero]
        refine wpAnyH_take (i := 2) (v := ?_) rfl (by kernel_rfl) (by kernel_rfl) (by kernel_rfl) (fun _ _ _ h => h) (Or.inl ⟨by rfl, ?_⟩) hHeld ?_
        rotate_left
        · intro W hSw
          obtain ⟨⟨hs1, hs2, hs3⟩, ⟨hs4, hs5, hs6⟩, ⟨hs7, hs8, hs9⟩, ⟨hs10, hs11, hs12⟩, ⟨hs13, hs14, hs15, hs16⟩, _⟩ := hSw
          go_simp
          try with_reducible rfl
        try simp only [Act.put, List.setIfInBounds_toArray, List.set_cons_zero, List.set_cons_succ, List.getElem_toArray, List.getElem_cons_succ, List.getElem_cons_zero]
        refine wpAnyH_take (i := 3) (v := ?_) rfl (by kernel_rfl) (by kernel_rfl) (by kernel_rfl) (fun _ _ _ h => h) (Or.inl ⟨by rfl, ?_⟩) hHeld ?_
        rotate_left
        · intro W hSw
          obtain ⟨⟨hs1, hs2, hs3⟩, ⟨hs4, hs5, hs6⟩, ⟨hs7, hs8, hs9⟩, ⟨hs10, hs11, hs12⟩, ⟨hs13, hs14, hs15, hs16⟩, _⟩ := hSw
          go_simp
          try with_reducible rfl
        try simp only [Act.put, List.setIfInBounds_toArray, List.set_cons_zero, List.set_cons_succ, List.getElem_toArray, List.getElem_cons_succ, List.getElem_cons_zero]
        refine wpAnyH_take (i := 4) (v := ?_) rfl (by kernel_rfl) (by kernel_rfl) (by kernel_rfl) (fun _ _ _ h => h) (Or.inl ⟨by rfl, ?_⟩) hHeld ?_
        rotate_left
        · intro W hSw
          obtain ⟨⟨hs1, hs2, hs3⟩, ⟨hs4, hs5, hs6⟩, ⟨hs7, hs8, hs9⟩, ⟨hs10, hs11, hs12⟩, ⟨hs13, hs14, hs15, hs16⟩, _⟩ := hSw
          go_simp
          try with_reducible rfl
        try simp only [Act.put, List.setIfInBounds_toArray, List.set_cons_zero, List.set_cons_succ, List.getElem_toArray, List.getElem_cons_succ, List.getElem_cons_zero]
        refine wpAnyH_take (i := 5) (v := ?_) rfl (by kernel_rfl) (by kernel_rfl) (by kernel_rfl) (fun _ _ _ h => h) (Or.inl ⟨by rfl, ?_⟩) hHeld ?_
        rotate_left
        · intro W hSw
          obtain ⟨⟨hs1, hs2, hs3⟩, ⟨hs4, hs5, hs6⟩, ⟨hs7, hs8, hs9⟩, ⟨hs10, hs11, hs12⟩, ⟨hs13, hs14, hs15, hs16⟩, _⟩ := hSw
          go_simp
          try with_reducible rfl
        try simp only [Act.put, List.setIfInBounds_toArray, List.set_cons_zero, List.set_cons_succ, List.getElem_toArray, List.getElem_cons_succ, List.getElem_cons_zero]
        refine wpAnyH_take (i := 7) (v := ?_) rfl (by kernel_rfl) (by kernel_rfl) (by kernel_rfl) (fun _ _ _ h => h) (Or.inl ⟨by rfl, ?_⟩) hHeld ?_
        rotate_left
        · intro W hSw
          obtain ⟨⟨hs1, hs2, hs3⟩, ⟨hs4, hs5, hs6⟩, ⟨hs7, hs8, hs9⟩, ⟨hs10, hs11, hs12⟩, ⟨hs13, hs14, hs15, hs16⟩, _⟩ := hSw
          go_simp
          try with_reducible rfl
        try simp only [Act.put, List.setIfInBounds_toArray, List.set_cons_zero, List.set_cons_succ, List.getElem_toArray, List.getElem_cons_succ, List.getElem_cons_zero]
        refine wpAnyH_take (i := 8) (v := ?_) rfl (by kernel_rfl) (by kernel_rfl) (by kernel_rfl) (fun _ _ _ h => h) (Or.inl ⟨by rfl, ?_⟩) hHeld ?_
        rotate_left
        · intro W hSw
          obtain ⟨⟨hs1, hs2, hs3⟩, ⟨hs4, hs5, hs6⟩, ⟨hs7, hs8, hs9⟩, ⟨hs10, hs11, hs12⟩, ⟨hs13, hs14, hs15, hs16⟩, _⟩ := hSw
          go_simp
          try with_reducible rfl
        try simp only [Act.put, List.setIfInBounds_toArray, List.set_cons_zero, List.set_cons_succ, List.getElem_toArray, List.getElem_cons_succ, List.getElem_cons_zero]
        refine wpAnyH_ready (rs := [6]) (by kernel_rfl) (by simp) ?_
        refine AllReadyH.cons rfl (fun K hK => ?_) AllReadyH.nil
        go_simp
        refine (Id.implLess_any p0 p1 p2 q0 q1 q2 _).mono ?_
        rintro x w' ⟨rfl, hb⟩
        rw [HL.out]
        refine hK.out _ _ ?_ (fun hHeld => ?_)
        · exact Five.step (by assumption) hb
        clear hK K
        try simp only [Act.put, List.setIfInBounds_toArray, List.set_cons_zero, List.set_cons_succ, List.getElem_toArray, List.getElem_cons_succ, List.getElem_cons_zero]
        refine wpAnyH_ready (rs := [9]) (by kernel_rfl) (by simp) ?_
        refine AllReadyH.cons rfl (fun K hK => ?_) AllReadyH.nil
        go_simp
        refine (Id.implLess_any q0 q1 q2 p0 p1 p2 _).mono ?_
        rintro x w' ⟨rfl, hb⟩
        rw [HE.out]
        refine hK.out _ _ ?_ (fun hHeld => ?_)
        · exact Five.step (by assumption) hb
        clear hK K
        try simp only [Act.put, List.setIfInBounds_toArray, List.set_cons_zero, List.set_cons_succ, List.getElem_toArray, List.getElem_cons_succ, List.getElem_cons_zero]
        refine wpAnyH_take (i := 10) (v := ?_) rfl (by kernel_rfl) (by kernel_rfl) (by kernel_rfl) (fun _ _ _ h => h) (Or.inl ⟨by rfl, ?_⟩) hHeld ?_
        rotate_left
        · intro W hSw
          obtain ⟨⟨hs1, hs2, hs3⟩, ⟨hs4, hs5, hs6⟩, ⟨hs7, hs8, hs9⟩, ⟨hs10, hs11, hs12⟩, ⟨hs13, hs14, hs15, hs16⟩, _⟩ := hSw
          go_simp
          try with_reducible rfl
        try simp only [Act.put, List.setIfInBounds_toArray, List.set_cons_zero, List.set_cons_succ, List.getElem_toArray, List.getElem_cons_succ, List.getElem_cons_zero]
        refine wpAnyH_take (i := 11) (v := ?_) rfl (by kernel_rfl) (by kernel_rfl) (by kernel_rfl) (fun _ _ _ h => h) (Or.inl ⟨by rfl, ?_⟩) hHeld ?_
        rotate_left
        · intro W hSw
          obtain ⟨⟨hs1, hs2, hs3⟩, ⟨hs4, hs5, hs6⟩, ⟨hs7, hs8, hs9⟩, ⟨hs10, hs11, hs12⟩, ⟨hs13, hs14, hs15, hs16⟩, _⟩ := hSw
          go_simp
          try with_reducible rfl
        try simp only [Act.put, List.setIfInBounds_toArray, List.set_cons_zero, List.set_cons_succ, List.getElem_toArray, List.getElem_cons_succ, List.getElem_cons_zero]
        refine wpAnyH_take (i := 12) (v := ?_) rfl (by kernel_rfl) (by kernel_rfl) (by kernel_rfl) (fun _ _ _ h => h) (Or.inl ⟨by rfl, ?_⟩) hHeld ?_
        rotate_left
        · intro W hSw
          obtain ⟨⟨hs1, hs2, hs3⟩, ⟨hs4, hs5, hs6⟩, ⟨hs7, hs8, hs9⟩, ⟨hs10, hs11, hs12⟩, ⟨hs13, hs14, hs15, hs16⟩, _⟩ := hSw
          go_simp
          try with_reducible rfl
        try simp only [Act.put, List.setIfInBounds_toArray, List.set_cons_zero, List.set_cons_succ, List.getElem_toArray, List.getElem_cons_succ, List.getElem_cons_zero]
        refine wpAnyH_take (i := 13) (v := ?_) rfl (by kernel_rfl) (by kernel_rfl) (by kernel_rfl) (fun _ _ _ h => h) (Or.inl ⟨by rfl, ?_⟩) hHeld ?_
        rotate_left
        · intro W hSw
          obtain ⟨⟨hs1, hs2, hs3⟩, ⟨hs4, hs5, hs6⟩, ⟨hs7, hs8, hs9⟩, ⟨hs10, hs11, hs12⟩, ⟨hs13, hs14, hs15, hs16⟩, _⟩ := hSw
          go_simp
          try with_reducible rfl
        try simp only [Act.put, List.setIfInBounds_toArray, List.set_cons_zero, List.set_cons_succ, List.getElem_toArray, List.getElem_cons_succ, List.getElem_cons_zero]
        refine wpAnyH_take (i := 14) (v := ?_) rfl (by kernel_rfl) (by kernel_rfl) (by kernel_rfl) (fun _ _ _ h => h) (Or.inl ⟨by rfl, ?_⟩) hHeld ?_
        rotate_left
        · intro W hSw
          obtain ⟨⟨hs1, hs2, hs3⟩, ⟨hs4, hs5, hs6⟩, ⟨hs7, hs8, hs9⟩, ⟨hs10, hs11, hs12⟩, ⟨hs13, hs14, hs15, hs16⟩, _⟩ := hSw
          go_simp
          try with_reducible rfl
        try simp only [Act.put, List.setIfInBounds_toArray, List.set_cons_zero, List.set_cons_succ, List.getElem_toArray, List.getElem_cons_succ, List.getElem_cons_zero]
        refine wpAnyH_take (i := 15) (v := ?_) rfl (by kernel_rfl) (by kernel_rfl) (by kernel_rfl) (fun _ _ _ h => h) (Or.inl ⟨by rfl, ?_⟩) hHeld ?_
        rotate_left
        · intro W hSw
          obtain ⟨⟨hs1, hs2, hs3⟩, ⟨hs4, hs5, hs6⟩, ⟨hs7, hs8, hs9⟩, ⟨hs10, hs11, hs12⟩, ⟨hs13, hs14, hs15, hs16⟩, _⟩ := hSw
          go_simp
          try with_reducible rfl
        try simp only [Act.put, List.setIfInBounds_toArray, List.set_cons_zero, List.set_cons_succ, List.getElem_toArray, List.getElem_cons_succ, List.getElem_cons_zero]
        refine wpAnyH_take (i := 16) (v := ?_) rfl (by kernel_rfl) (by kernel_rfl) (by kernel_rfl) (fun _ _ _ h => h) (Or.inl ⟨by rfl, ?_⟩) hHeld ?_
        rotate_left
        · intro W hSw
          obtain ⟨⟨hs1, hs2, hs3⟩, ⟨hs4, hs5, hs6⟩, ⟨hs7, hs8, hs9⟩, ⟨hs10, hs11, hs12⟩, ⟨hs13, hs14, hs15, hs16⟩, _⟩ := hSw
          go_simp
          try with_reducible rfl
        try simp only [Act.put, List.setIfInBounds_toArray, List.set_cons_zero, List.set_cons_succ, List.getElem_toArray, List.getElem_cons_succ, List.getElem_cons_zero]
        refine wpAnyH_take (i := 17) (v := undef) rfl (by kernel_rfl) (by kernel_rfl) (by kernel_rfl) (fun _ _ _ h => h) (Or.inr ⟨by rfl, rfl⟩) hHeld ?_
        try simp only [Act.put, List.setIfInBounds_toArray, List.set_cons_zero, List.set_cons_succ, List.getElem_toArray, List.getElem_cons_succ, List.getElem_cons_zero]
        refine wpAnyH_take (i := 18) (v := undef) rfl (by kernel_rfl) (by kernel_rfl) (by kernel_rfl) (fun _ _ _ h => h) (Or.inr ⟨by rfl, rfl⟩) hHeld ?_
        try simp only [Act.put, List.setIfInBounds_toArray, List.set_cons_zero, List.set_cons_succ, List.getElem_toArray, List.getElem_cons_succ, List.getElem_cons_zero]
        refine wpAnyH_ready (rs := [19]) (by kernel_rfl) (by simp) ?_
        refine AllReadyH.cons rfl (fun K hK => ?_) AllReadyH.nil
        go_simp
        refine hK.out _ _ ?_ (fun hHeld => ?_)
        · assumption
        clear hK K
        try simp only [Act.put, List.setIfInBounds_toArray, List.set_cons_zero, List.set_cons_succ, List.getElem_toArray, List.getElem_cons_succ, List.getElem_cons_zero]
        refine wpAnyH_take (i := 20) (v := ?_) rfl (by kernel_rfl) (by kernel_rfl) (by kernel_rfl) (fun _ _ _ h => h) (Or.inl ⟨by rfl, ?_⟩) hHeld ?_
        rotate_left
        · intro W hSw
          obtain ⟨⟨hs1, hs2, hs3⟩, ⟨hs4, hs5, hs6⟩, ⟨hs7, hs8, hs9⟩, ⟨hs10, hs11, hs12⟩, ⟨hs13, hs14, hs15, hs16⟩, _⟩ := hSw
          go_simp
          try with_reducible rfl
        try simp only [Act.put, List.setIfInBounds_toArray, List.set_cons_zero, List.set_cons_succ, List.getElem_toArray, List.getElem_cons_succ, List.getElem_cons_zero]
        refine wpAnyH_take (i := 21) (v := ?_) rfl (by kernel_rfl) (by kernel_rfl) (by kernel_rfl) (fun _ _ _ h => h) (Or.inl ⟨by rfl, ?_⟩) hHeld ?_
        rotate_left
        · intro W hSw
          obtain ⟨⟨hs1, hs2, hs3⟩, ⟨hs4, hs5, hs6⟩, ⟨hs7, hs8, hs9⟩, ⟨hs10, hs11, hs12⟩, ⟨hs13, hs14, hs15, hs16⟩, _⟩ := hSw
          go_simp
          try with_reducible rfl
        try simp only [Act.put, List.setIfInBounds_toArray, List.set_cons_zero, List.set_cons_succ, List.getElem_toArray, List.getElem_cons_succ, List.getElem_cons_zero]
        refine wpAnyH_done (by kernel_rfl) ?_ _
        go_wp2_with fail
        go_meet
        exact ⟨rfl, by assumption⟩
    case rest =>
      obtain ⟨rfl, h10⟩ := hcut
      clear H11
      have H12 := Lib.hid h10
      clear h10
      go_upto_region 13 with fail
      go_cut [108] (fun s108 wx => s108 = .bool false ∧ Five w ga (ga + 1) gm gc gx p0 p1 p2 q0 q1 q2 m0 m1 m2 c0 c1 c2 x0 x1 x2 x3 wx)
      case first =>
        have h10 := H12.out
        clear H12
        cases l
        · have hm := max_first HL.out HM.out
          obtain ⟨rfl, rfl, rfl⟩ : p0 = m0 ∧ p1 = m1 ∧ p2 = m2 := hm
          have d0 : (p0 == p0) = true := beq_self_eq_true _
          have d1 : (p1 == p1) = true := beq_self_eq_true _
          have d2 : (p2 == p2) = true := beq_self_eq_true _
          have HE := Lib.hid (less_self p0 p1 p2)
          have Ha := Lib.hid h10
          clear h10
          obtain ⟨⟨hs1, hs2, hs3⟩, ⟨hs4, hs5, hs6⟩, ⟨hs7, hs8, hs9⟩, ⟨hs10, hs11, hs12⟩, ⟨hs13, hs14, hs15, hs16⟩, hs17⟩ := Ha.out
          have HB0 := Lib.hid hs17
          clear hs17
          go_wp2_with fail
          refine (Id.implLess_any p0 p1 p2 p0 p1 p2 _).mono ?_
          rintro x w' ⟨rfl, hb⟩
          rw [HE.out]
          have Hb := Lib.hid (Five.step Ha.out hb)
          clear hb hs1 hs2 hs3 hs4 hs5 hs6 hs7 hs8 hs9 hs10 hs11 hs12 hs13 hs14 hs15 hs16
          obtain ⟨⟨hs1, hs2, hs3⟩, ⟨hs4, hs5, hs6⟩, ⟨hs7, hs8, hs9⟩, ⟨hs10, hs11, hs12⟩, ⟨hs13, hs14, hs15, hs16⟩, hs17⟩ := Hb.out
          have HB1 := Lib.hid hs17
          clear hs17
          go_wp2_with fail
          refine (Id.implLess_any p0 p1 p2 q0 q1 q2 _).mono ?_
          rintro x w' ⟨rfl, hb⟩
          rw [HL.out]
          have Hc := Lib.hid (Five.step Hb.out hb)
          clear hb hs1 hs2 hs3 hs4 hs5 hs6 hs7 hs8 hs9 hs10 hs11 hs12 hs13 hs14 hs15 hs16
          go_wp2_with fail
          go_meet
          exact ⟨rfl, Hc.out⟩
        · have hm := max_second HL.out HM.out
          by_cases hd0 : p0 = q0
          · by_cases hd1 : p1 = q1
            · by_cases hd2 : p2 = q2
              · exact absurd HL.out (by subst hd0; subst hd1; subst hd2; rw [less_self]; exact Bool.false_ne_true)
              · obtain ⟨rfl, rfl, rfl⟩ : q0 = m0 ∧ q1 = m1 ∧ q2 = m2 := hm
                subst hd0
                subst hd1
                have d0 : (p0 == p0) = true := beq_self_eq_true _
                have d1 : (p1 == p1) = true := beq_self_eq_true _
                have d2 : (q2 == p2) = false := beq_eq_false_iff_ne.2 (fun e => hd2 e.symm)
                have c2e : (q2 == q2) = true := beq_self_eq_true _
                have HE := Lib.hid (show Id.lessB p0 p1 q2 p0 p1 p2 = false by rw [less_other (a := p0) (b := p1) (c := p2) (by simp [hd2]), HL.out]; rfl)
                have HS := Lib.hid (less_self p0 p1 q2)
                have Ha := Lib.hid h10
                clear h10
                obtain ⟨⟨hs1, hs2, hs3⟩, ⟨hs4, hs5, hs6⟩, ⟨hs7, hs8, hs9⟩, ⟨hs10, hs11, hs12⟩, ⟨hs13, hs14, hs15, hs16⟩, hs17⟩ := Ha.out
                have HB0 := Lib.hid hs17
                clear hs17
                go_wp2_with fail
                refine (Id.implLess_any p0 p1 q2 p0 p1 p2 _).mono ?_
                rintro x w' ⟨rfl, hb⟩
                rw [HE.out]
                have Hb := Lib.hid (Five.step Ha.out hb)
                clear hb hs1 hs2 hs3 hs4 hs5 hs6 hs7 hs8 hs9 hs10 hs11 hs12 hs13 hs14 hs15 hs16
                obtain ⟨⟨hs1, hs2, hs3⟩, ⟨hs4, hs5, hs6⟩, ⟨hs7, hs8, hs9⟩, ⟨hs10, hs11, hs12⟩, ⟨hs13, hs14, hs15, hs16⟩, hs17⟩ := Hb.out
                have HB1 := Lib.hid hs17
                clear hs17
                go_wp2_with fail
                refine (Id.implLess_any p0 p1 q2 p0 p1 q2 _).mono ?_
                rintro x w' ⟨rfl, hb⟩
                rw [HS.out]
                have Hc := Lib.hid (Five.step Hb.out hb)
                clear hb hs1 hs2 hs3 hs4 hs5 hs6 hs7 hs8 hs9 hs10 hs11 hs12 hs13 hs14 hs15 hs16
                go_wp2_with fail
                go_meet
                exact ⟨rfl, Hc.out⟩
            · obtain ⟨rfl, rfl, rfl⟩ : q0 = m0 ∧ q1 = m1 ∧ q2 = m2 := hm
              subst hd0
              have d0 : (p0 == p0) = true := beq_self_eq_true _
              have d1 : (q1 == p1) = false := beq_eq_false_iff_ne.2 (fun e => hd1 e.symm)
              have c1e : (q1 == q1) = true := beq_self_eq_true _
              have c2e : (q2 == q2) = true := beq_self_eq_true _
              have HE := Lib.hid (show Id.lessB p0 q1 q2 p0 p1 p2 = false by rw [less_other (a := p0) (b := p1) (c := p2) (by simp [hd1]), HL.out]; rfl)
              have HS := Lib.hid (less_self p0 q1 q2)
              have Ha := Lib.hid h10
              clear h10
              obtain ⟨⟨hs1, hs2, hs3⟩, ⟨hs4, hs5, hs6⟩, ⟨hs7, hs8, hs9⟩, ⟨hs10, hs11, hs12⟩, ⟨hs13, hs14, hs15, hs16⟩, hs17⟩ := Ha.out
              have HB0 := Lib.hid hs17
              clear hs17
              go_wp2_with fail
              refine (Id.implLess_any p0 q1 q2 p0 p1 p2 _).mono ?_
              rintro x w' ⟨rfl, hb⟩
              rw [HE.out]
              have Hb := Lib.hid (Five.step Ha.out hb)
              clear hb hs1 hs2 hs3 hs4 hs5 hs6 hs7 hs8 hs9 hs10 hs11 hs12 hs13 hs14 hs15 hs16
              obtain ⟨⟨hs1, hs2, hs3⟩, ⟨hs4, hs5, hs6⟩, ⟨hs7, hs8, hs9⟩, ⟨hs10, hs11, hs12⟩, ⟨hs13, hs14, hs15, hs16⟩, hs17⟩ := Hb.out
              have HB1 := Lib.hid hs17
              clear hs17
              go_wp2_with fail
              refine (Id.implLess_any p0 q1 q2 p0 q1 q2 _).mono ?_
              rintro x w' ⟨rfl, hb⟩
              rw [HS.out]
              have Hc := Lib.hid (Five.step Hb.out hb)
              clear hb hs1 hs2 hs3 hs4 hs5 hs6 hs7 hs8 hs9 hs10 hs11 hs12 hs13 hs14 hs15 hs16
              go_wp2_with fail
              go_meet
              exact ⟨rfl, Hc.out⟩
          · obtain ⟨rfl, rfl, rfl⟩ : q0 = m0 ∧ q1 = m1 ∧ q2 = m2 := hm
            have d0 : (q0 == p0) = false := beq_eq_false_iff_ne.2 (fun e => hd0 e.symm)
            have c0e : (q0 == q0) = true := beq_self_eq_true _
            have c1e : (q1 == q1) = true := beq_self_eq_true _
            have c2e : (q2 == q2) = true := beq_self_eq_true _
            have HE := Lib.hid (show Id.lessB q0 q1 q2 p0 p1 p2 = false by rw [less_other (a := p0) (b := p1) (c := p2) (by simp [hd0]), HL.out]; rfl)
            have HS := Lib.hid (less_self q0 q1 q2)
            have Ha := Lib.hid h10
            clear h10
            obtain ⟨⟨hs1, hs2, hs3⟩, ⟨hs4, hs5, hs6⟩, ⟨hs7, hs8, hs9⟩, ⟨hs10, hs11, hs12⟩, ⟨hs13, hs14, hs15, hs16⟩, hs17⟩ := Ha.out
            have HB0 := Lib.hid hs17
            clear hs17
            go_wp2_with fail
            refine (Id.implLess_any q0 q1 q2 p0 p1 p2 _).mono ?_
            rintro x w' ⟨rfl, hb⟩
            rw [HE.out]
            have Hb := Lib.hid (Five.step Ha.out hb)
            clear hb hs1 hs2 hs3 hs4 hs5 hs6 hs7 hs8 hs9 hs10 hs11 hs12 hs13 hs14 hs15 hs16
            obtain ⟨⟨hs1, hs2, hs3⟩, ⟨hs4, hs5, hs6⟩, ⟨hs7, hs8, hs9⟩, ⟨hs10, hs11, hs12⟩, ⟨hs13, hs14, hs15, hs16⟩, hs17⟩ := Hb.out
            have HB1 := Lib.hid hs17
            clear hs17
            go_wp2_with fail
            refine (Id.implLess_any q0 q1 q2 q0 q1 q2 _).mono ?_
            rintro x w' ⟨rfl, hb⟩
            rw [HS.out]
            have Hc := Lib.hid (Five.step Hb.out hb)
            clear hb hs1 hs2 hs3 hs4 hs5 hs6 hs7 hs8 hs9 hs10 hs11 hs12 hs13 hs14 hs15 hs16
            go_wp2_with fail
            go_meet
            exact ⟨rfl, Hc.out⟩
      case rest =>
        obtain ⟨rfl, h10⟩ := hcut
        clear H12
        have HTS : Hid (t.size ≤ 1048576) := Lib.hid (by rw [← HT.out]; exact Nat.le_trans (Src.textB_size c0 c1 c2) (by omega))
        have H13 := Lib.hid h10
        clear h10
        go_upto_region 15 with fail
        have h10 := H13.out
        clear H13
        by_cases hk : x3 = 0
        · by_cases he : t.data.toList = []
          · subst hk
            have e1 : (u.toList == u.toList) = true := beq_self_eq_true _
            have HXT := Lib.hid (text_of_rd HX.out)
            have e2 : (t.toList == []) = true := by rw [ByteArray.toList_eq, he]; rfl
            clear he
            refine wp_region_held_drew (S := (fun W => C3 W ga p0 p1 p2 ∧ C3 W (ga + 1) q0 q1 q2 ∧ C3 W gm m0 m1 m2 ∧ C3 W gc c0 c1 c2 ∧ C4 W gx x0 x1 x2 0 ∧ Below w.heap.size w W)) (by kernel_rfl) ?_ (fun hHeld => ?_)
            · exact Five.drew h10
            refine wpAnyH_take (i := 0) (v := ?_) rfl (by kernel_rfl) (by kernel_rfl) (by kernel_rfl) (fun _ _ _ h => h) (Or.inl ⟨by rfl, ?_⟩) hHeld ?_
            rotate_left
            · intro W hSw
              obtain ⟨⟨hs1, hs2, hs3⟩, ⟨hs4, hs5, hs6⟩, ⟨hs7, hs8, hs9⟩, ⟨hs10, hs11, hs12⟩, ⟨hs13, hs14, hs15, hs16⟩, _⟩ := hSw
              go_simp
              try with_reducible rfl
            try simp only [Act.put, List.setIfInBounds_toArray, List.set_cons_zero, List.set_cons_succ, List.getElem_toArray, List.getElem_cons_zero]
            refine wpAnyH_take (i := 1) (v := ?_) rfl (by kernel_rfl) (by kernel_rfl) (by kernel_rfl) (fun _ _ _ h => h) (Or.inl ⟨by rfl, ?_⟩) hHeld ?_
            rotate_left
            · intro W hSw
              obtain ⟨⟨hs1, hs2, hs3⟩, ⟨hs4, hs5, hs6⟩, ⟨hs7, hs8, hs9⟩, ⟨hs10, hs11, hs12⟩, ⟨hs13, hs14, hs15, hs16⟩, _⟩ := hSw
              go_simp
              try with_reducible rfl
            try simp only [Act.put, List.setIfInBounds_toArray, List.set_cons_zero, List.set_cons_succ, List.getElem_toArray, List.getElem_cons_succ, List.getElem_cons_zero]
            refine wpAnyH_take (i := 2) (v := ?_) rfl (by kernel_rfl) (by kernel_rfl) (by kernel_rfl) (fun _ _ _ h => h) (Or.inl ⟨by rfl, ?_⟩) hHeld ?_
            rotate_left
            · intro W hSw
              obtain ⟨⟨hs1, hs2, hs3⟩, ⟨hs4, hs5, hs6⟩, ⟨hs7, hs8, hs9⟩, ⟨hs10, hs11, hs12⟩, ⟨hs13, hs14, hs15, hs16⟩, _⟩ := hSw
              go_simp
              try with_reducible rfl
            try simp only [Act.put, List.setIfInBounds_toArray, List.set_cons_zero, List.set_cons_succ, List.getElem_toArray, List.getElem_cons_succ, List.getElem_cons_zero]
            refine wpAnyH_take (i := 3) (v := ?_) rfl (by kernel_rfl) (by kernel_rfl) (by kernel_rfl) (fun _ _ _ h => h) (Or.inl ⟨by rfl, ?_⟩) hHeld ?_
            rotate_left
            · intro W hSw
              obtain ⟨⟨hs1, hs2, hs3⟩, ⟨hs4, hs5, hs6⟩, ⟨hs7, hs8, hs9⟩, ⟨hs10, hs11, hs12⟩, ⟨hs13, hs14, hs15, hs16⟩, _⟩ := hSw
              go_simp
              try with_reducible rfl
            try simp only [Act.put, List.setIfInBounds_toArray, List.set_cons_zero, List.set_cons_succ, List.getElem_toArray, List.getElem_cons_succ, List.getElem_cons_zero]
            refine wpAnyH_take (i := 4) (v := ?_) rfl (by kernel_rfl) (by kernel_rfl) (by kernel_rfl) (fun _ _ _ h => h) (Or.inl ⟨by rfl, ?_⟩) hHeld ?_
            rotate_left
            · intro W hSw
              obtain ⟨⟨hs1, hs2, hs3⟩, ⟨hs4, hs5, hs6⟩, ⟨hs7, hs8, hs9⟩, ⟨hs10, hs11, hs12⟩, ⟨hs13, hs14, hs15, hs16⟩, _⟩ := hSw
              go_simp
              try with_reducible rfl
            try simp only [Act.put, List.setIfInBounds_toArray, List.set_cons_zero, List.set_cons_succ, List.getElem_toArray, List.getElem_cons_succ, List.getElem_cons_zero]
            refine wpAnyH_take (i := 5) (v := ?_) rfl (by kernel_rfl) (by kernel_rfl) (by kernel_rfl) (fun _ _ _ h => h) (Or.inl ⟨by rfl, ?_⟩) hHeld ?_
            rotate_left
            · intro W hSw
              obtain ⟨⟨hs1, hs2, hs3⟩, ⟨hs4, hs5, hs6⟩, ⟨hs7, hs8, hs9⟩, ⟨hs10, hs11, hs12⟩, ⟨hs13, hs14, hs15, hs16⟩, _⟩ := hSw
              go_simp
              try with_reducible rfl
            try simp only [Act.put, List.setIfInBounds_toArray, List.set_cons_zero, List.set_cons_succ, List.getElem_toArray, List.getElem_cons_succ, List.getElem_cons_zero]
            refine wpAnyH_take (i := 7) (v := ?_) rfl (by kernel_rfl) (by kernel_rfl) (by kernel_rfl) (fun _ _ _ h => h) (Or.inl ⟨by rfl, ?_⟩) hHeld ?_
            rotate_left
            · intro W hSw
              obtain ⟨⟨hs1, hs2, hs3⟩, ⟨hs4, hs5, hs6⟩, ⟨hs7, hs8, hs9⟩, ⟨hs10, hs11, hs12⟩, ⟨hs13, hs14, hs15, hs16⟩, _⟩ := hSw
              go_simp
              try with_reducible rfl
            try simp only [Act.put, List.setIfInBounds_toArray, List.set_cons_zero, List.set_cons_succ, List.getElem_toArray, List.getElem_cons_succ, List.getElem_cons_zero]
            refine wpAnyH_ready (rs := [6]) (by kernel_rfl) (by simp) ?_
            refine AllReadyH.cons rfl (fun K hK => ?_) AllReadyH.nil
            go_simp
            refine (Id.implText_any x0 x1 x2 _ (RD.out.tab.on hHeld.2.2.2.2.2 (Nat.le_refl _))).mono ?_
            rintro x w' ⟨rfl, hb⟩
            rw [HXT.out]
            refine hK.out _ _ ?_ (fun hHeld => ?_)
            · exact Five.step (by assumption) hb
            clear hK K
            try simp only [Act.put, List.setIfInBounds_toArray, List.set_cons_zero, List.set_cons_succ, List.getElem_toArray, List.getElem_cons_succ, List.getElem_cons_zero]
            refine wpAnyH_take (i := 8) (v := ?_) rfl (by kernel_rfl) (by kernel_rfl) (by kernel_rfl) (fun _ _ _ h => h) (Or.inl ⟨by rfl, ?_⟩) hHeld ?_
            rotate_left
            · intro W hSw
              obtain ⟨⟨hs1, hs2, hs3⟩, ⟨hs4, hs5, hs6⟩, ⟨hs7, hs8, hs9⟩, ⟨hs10, hs11, hs12⟩, ⟨hs13, hs14, hs15, hs16⟩, _⟩ := hSw
              go_simp
              try with_reducible rfl
            try simp only [Act.put, List.setIfInBounds_toArray, List.set_cons_zero, List.set_cons_succ, List.getElem_toArray, List.getElem_cons_succ, List.getElem_cons_zero]
            refine wpAnyH_take (i := 9) (v := ?_) rfl (by kernel_rfl) (by kernel_rfl) (by kernel_rfl) (fun _ _ _ h => h) (Or.inl ⟨by rfl, ?_⟩) hHeld ?_
            rotate_left
            · intro W hSw
              obtain ⟨⟨hs1, hs2, hs3⟩, ⟨hs4, hs5, hs6⟩, ⟨hs7, hs8, hs9⟩, ⟨hs10, hs11, hs12⟩, ⟨hs13, hs14, hs15, hs16⟩, _⟩ := hSw
              go_simp
              try with_reducible rfl
            try simp only [Act.put, List.setIfInBounds_toArray, List.set_cons_zero, List.set_cons_succ, List.getElem_toArray, List.getElem_cons_succ, List.getElem_cons_zero]
            refine wpAnyH_take (i := 10) (v := ?_) rfl (by kernel_rfl) (by kernel_rfl) (by kernel_rfl) (fun _ _ _ h => h) (Or.inl ⟨by rfl, ?_⟩) hHeld ?_
            rotate_left
            · intro W hSw
              obtain ⟨⟨hs1, hs2, hs3⟩, ⟨hs4, hs5, hs6⟩, ⟨hs7, hs8, hs9⟩, ⟨hs10, hs11, hs12⟩, ⟨hs13, hs14, hs15, hs16⟩, _⟩ := hSw
              go_simp
              try with_reducible rfl
            try simp only [Act.put, List.setIfInBounds_toArray, List.set_cons_zero, List.set_cons_succ, List.getElem_toArray, List.getElem_cons_succ, List.getElem_cons_zero]
            refine wpAnyH_take (i := 11) (v := ?_) rfl (by kernel_rfl) (by kernel_rfl) (by kernel_rfl) (fun _ _ _ h => h) (Or.inl ⟨by rfl, ?_⟩) hHeld ?_
            rotate_left
            · intro W hSw
              obtain ⟨⟨hs1, hs2, hs3⟩, ⟨hs4, hs5, hs6⟩, ⟨hs7, hs8, hs9⟩, ⟨hs10, hs11, hs12⟩, ⟨hs13, hs14, hs15, hs16⟩, _⟩ := hSw
              go_simp
              try with_reducible rfl
            try simp only [Act.put, List.setIfInBounds_toArray, List.set_cons_zero, List.set_cons_succ, List.getElem_toArray, List.getElem_cons_succ, List.getElem_cons_zero]
            refine wpAnyH_take (i := 12) (v := ?_) rfl (by kernel_rfl) (by kernel_rfl) (by kernel_rfl) (fun _ _ _ h => h) (Or.inl ⟨by rfl, ?_⟩) hHeld ?_
            rotate_left
            · intro W hSw
              obtain ⟨⟨hs1, hs2, hs3⟩, ⟨hs4, hs5, hs6⟩, ⟨hs7, hs8, hs9⟩, ⟨hs10, hs11, hs12⟩, ⟨hs13, hs14, hs15, hs16⟩, _⟩ := hSw
              go_simp
              try with_reducible rfl
            try simp only [Act.put, List.setIfInBounds_toArray, List.set_cons_zero, List.set_cons_succ, List.getElem_toArray, List.getElem_cons_succ, List.getElem_cons_zero]
            refine wpAnyH_take (i := 13) (v := ?_) rfl (by kernel_rfl) (by kernel_rfl) (by kernel_rfl) (fun _ _ _ h => h) (Or.inl ⟨by rfl, ?_⟩) hHeld ?_
            rotate_left
            · intro W hSw
              obtain ⟨⟨hs1, hs2, hs3⟩, ⟨hs4, hs5, hs6⟩, ⟨hs7, hs8, hs9⟩, ⟨hs10, hs11, hs12⟩, ⟨hs13, hs14, hs15, hs16⟩, _⟩ := hSw
              go_simp
              try with_reducible rfl
            try simp only [Act.put, List.setIfInBounds_toArray, List.set_cons_zero, List.set_cons_succ, List.getElem_toArray, List.getElem_cons_succ, List.getElem_cons_zero]
            refine wpAnyH_take (i := 14) (v := undef) rfl (by kernel_rfl) (by kernel_rfl) (by kernel_rfl) (fun _ _ _ h => h) (Or.inr ⟨by rfl, rfl⟩) hHeld ?_
            try simp only [Act.put, List.setIfInBounds_toArray, List.set_cons_zero, List.set_cons_succ, List.getElem_toArray, List.getElem_cons_succ, List.getElem_cons_zero]
            refine wpAnyH_take (i := 16) (v := undef) rfl (by kernel_rfl) (by kernel_rfl) (by kernel_rfl) (fun _ _ _ h => h) (Or.inr ⟨by rfl, rfl⟩) hHeld ?_
            try simp only [Act.put, List.setIfInBounds_toArray, List.set_cons_zero, List.set_cons_succ, List.getElem_toArray, List.getElem_cons_succ, List.getElem_cons_zero]
            refine wpAnyH_take (i := 17) (v := undef) rfl (by kernel_rfl) (by kernel_rfl) (by kernel_rfl) (fun _ _ _ h => h) (Or.inr ⟨by rfl, rfl⟩) hHeld ?_
            try simp only [Act.put, List.setIfInBounds_toArray, List.set_cons_zero, List.set_cons_succ, List.getElem_toArray, List.getElem_cons_succ, List.getElem_cons_zero]
            refine wpAnyH_ready (rs := [15]) (by kernel_rfl) (by simp) ?_
            refine AllReadyH.cons rfl (fun K hK => ?_) AllReadyH.nil
            go_simp
            refine hK.out _ _ ?_ (fun hHeld => ?_)
            · assumption
            clear hK K
            try simp only [Act.put, List.setIfInBounds_toArray, List.set_cons_zero, List.set_cons_succ, List.getElem_toArray, List.getElem_cons_succ, List.getElem_cons_zero]
            refine wpAnyH_take (i := 18) (v := undef) rfl (by kernel_rfl) (by kernel_rfl) (by kernel_rfl) (fun _ _ _ h => h) (Or.inr ⟨by rfl, rfl⟩) hHeld ?_
            try simp only [Act.put, List.setIfInBounds_toArray, List.set_cons_zero, List.set_cons_succ, List.getElem_toArray, List.getElem_cons_succ, List.getElem_cons_zero]
            refine wpAnyH_take (i := 19) (v := ?_) rfl (by kernel_rfl) (by kernel_rfl) (by kernel_rfl) (fun _ _ _ h => h) (Or.inl ⟨by rfl, ?_⟩) hHeld ?_
            rotate_left
            · intro W hSw
              obtain ⟨⟨hs1, hs2, hs3⟩, ⟨hs4, hs5, hs6⟩, ⟨hs7, hs8, hs9⟩, ⟨hs10, hs11, hs12⟩, ⟨hs13, hs14, hs15, hs16⟩, _⟩ := hSw
              go_simp
              try with_reducible rfl
            try simp only [Act.put, List.setIfInBounds_toArray, List.set_cons_zero, List.set_cons_succ, List.getElem_toArray, List.getElem_cons_succ, List.getElem_cons_zero]
            refine wpAnyH_take (i := 20) (v := ?_) rfl (by kernel_rfl) (by kernel_rfl) (by kernel_rfl) (fun _ _ _ h => h) (Or.inl ⟨by rfl, ?_⟩) hHeld ?_
            rotate_left
            · intro W hSw
              obtain ⟨⟨hs1, hs2, hs3⟩, ⟨hs4, hs5, hs6⟩, ⟨hs7, hs8, hs9⟩, ⟨hs10, hs11, hs12⟩, ⟨hs13, hs14, hs15, hs16⟩, _⟩ := hSw
              go_simp
              try with_reducible rfl
            try simp only [Act.put, List.setIfInBounds_toArray, List.set_cons_zero, List.set_cons_succ, List.getElem_toArray, List.getElem_cons_succ, List.getElem_cons_zero]
            refine wpAnyH_take (i := 21) (v := ?_) rfl (by kernel_rfl) (by kernel_rfl) (by kernel_rfl) (fun _ _ _ h => h) (Or.inl ⟨by rfl, ?_⟩) hHeld ?_
            rotate_left
            · intro W hSw
              obtain ⟨⟨hs1, hs2, hs3⟩, ⟨hs4, hs5, hs6⟩, ⟨hs7, hs8, hs9⟩, ⟨hs10, hs11, hs12⟩, ⟨hs13, hs14, hs15, hs16⟩, _⟩ := hSw
              go_simp
              try with_reducible rfl
            try simp only [Act.put, List.setIfInBounds_toArray, List.set_cons_zero, List.set_cons_succ, List.getElem_toArray, List.getElem_cons_succ, List.getElem_cons_zero]
            refine wpAnyH_done (by kernel_rfl) ?_ _
            go_wp2_with fail
            go_ret
            exact ⟨rfl, hHeld.2.2.2.2.2⟩
          · subst hk
            have e1 : (u.toList == u.toList) = true := beq_self_eq_true _
            have HXT := Lib.hid (text_of_rd HX.out)
            have e2 : (t.toList == []) = false := by rw [ByteArray.toList_eq]; exact beq_eq_false_iff_ne.2 he
            have HTR := Lib.hid (rd_of_text HT.out he)
            have f0 : (c0 == c0) = true := beq_self_eq_true _
            have f1 : (c1 == c1) = true := beq_self_eq_true _
            have f2 : (c2 == c2) = true := beq_self_eq_true _
            clear he
            refine wp_region_held_drew (S := (fun W => C3 W ga p0 p1 p2 ∧ C3 W (ga + 1) q0 q1 q2 ∧ C3 W gm m0 m1 m2 ∧ C3 W gc c0 c1 c2 ∧ C4 W gx x0 x1 x2 0 ∧ Below w.heap.size w W)) (by kernel_rfl) ?_ (fun hHeld => ?_)
            · exact Five.drew h10
            refine wpAnyH_take (i := 0) (v := ?_) rfl (by kernel_rfl) (by kernel_rfl) (by kernel_rfl) (fun _ _ _ h => h) (Or.inl ⟨by rfl, ?_⟩) hHeld ?_
            rotate_left
            · intro W hSw
              obtain ⟨⟨hs1, hs2, hs3⟩, ⟨hs4, hs5, hs6⟩, ⟨hs7, hs8, hs9⟩, ⟨hs10, hs11, hs12⟩, ⟨hs13, hs14, hs15, hs16⟩, _⟩ := hSw
              go_simp
              try with_reducible rfl
            try simp only [Act.put, List.setIfInBounds_toArray, List.set_cons_zero, List.set_cons_succ, List.getElem_toArray, List.getElem_cons_zero]
            refine wpAnyH_take (i := 1) (v := ?_) rfl (by kernel_rfl) (by kernel_rfl) (by kernel_rfl) (fun _ _ _ h => h) (Or.inl ⟨by rfl, ?_⟩) hHeld ?_
            rotate_left
            · intro W hSw
              obtain ⟨⟨hs1, hs2, hs3⟩, ⟨hs4, hs5, hs6⟩, ⟨hs7, hs8, hs9⟩, ⟨hs10, hs11, hs12⟩, ⟨hs13, hs14, hs15, hs16⟩, _⟩ := hSw
              go_simp
              try with_reducible rfl
            try simp only [Act.put, List.setIfInBounds_toArray, List.set_cons_zero, List.set_cons_succ, List.getElem_toArray, List.getElem_cons_succ, List.getElem_cons_zero]
            refine wpAnyH_take (i := 2) (v := ?_) rfl (by kernel_rfl) (by kernel_rfl) (by kernel_rfl) (fun _ _ _ h => h) (Or.inl ⟨by rfl, ?_⟩) hHeld ?_
            rotate_left
            · intro W hSw
              obtain ⟨⟨hs1, hs2, hs3⟩, ⟨hs4, hs5, hs6⟩, ⟨hs7, hs8, hs9⟩, ⟨hs10, hs11, hs12⟩, ⟨hs13, hs14, hs15, hs16⟩, _⟩ := hSw
              go_simp
              try with_reducible rfl
            try simp only [Act.put, List.setIfInBounds_toArray, List.set_cons_zero, List.set_cons_succ, List.getElem_toArray, List.getElem_cons_succ, List.getElem_cons_zero]
            refine wpAnyH_take (i := 3) (v := ?_) rfl (by kernel_rfl) (by kernel_rfl) (by kernel_rfl) (fun _ _ _ h => h) (Or.inl ⟨by rfl, ?_⟩) hHeld ?_
            rotate_left
            · intro W hSw
              obtain ⟨⟨hs1, hs2, hs3⟩, ⟨hs4, hs5, hs6⟩, ⟨hs7, hs8, hs9⟩, ⟨hs10, hs11, hs12⟩, ⟨hs13, hs14, hs15, hs16⟩, _⟩ := hSw
              go_simp
              try with_reducible rfl
            try simp only [Act.put, List.setIfInBounds_toArray, List.set_cons_zero, List.set_cons_succ, List.getElem_toArray, List.getElem_cons_succ, List.getElem_cons_zero]
            refine wpAnyH_take (i := 4) (v := ?_) rfl (by kernel_rfl) (by kernel_rfl) (by kernel_rfl) (fun _ _ _ h => h) (Or.inl ⟨by rfl, ?_⟩) hHeld ?_
            rotate_left
            · intro W hSw
              obtain ⟨⟨hs1, hs2, hs3⟩, ⟨hs4, hs5, hs6⟩, ⟨hs7, hs8, hs9⟩, ⟨hs10, hs11, hs12⟩, ⟨hs13, hs14, hs15, hs16⟩, _⟩ := hSw
              go_simp
              try with_reducible rfl
            try simp only [Act.put, List.setIfInBounds_toArray, List.set_cons_zero, List.set_cons_succ, List.getElem_toArray, List.getElem_cons_succ, List.getElem_cons_zero]
            refine wpAnyH_take (i := 5) (v := ?_) rfl (by kernel_rfl) (by kernel_rfl) (by kernel_rfl) (fun _ _ _ h => h) (Or.inl ⟨by rfl, ?_⟩) hHeld ?_
            rotate_left
            · intro W hSw
              obtain ⟨⟨hs1, hs2, hs3⟩, ⟨hs4, hs5, hs6⟩, ⟨hs7, hs8, hs9⟩, ⟨hs10, hs11, hs12⟩, ⟨hs13, hs14, hs15, hs16⟩, _⟩ := hSw
              go_simp
              try with_reducible rfl
            try simp only [Act.put, List.setIfInBounds_toArray, List.set_cons_zero, List.set_cons_succ, List.getElem_toArray, List.getElem_cons_succ, List.getElem_cons_zero]
            refine wpAnyH_take (i := 7) (v := ?_) rfl (by kernel_rfl) (by kernel_rfl) (by kernel_rfl) (fun _ _ _ h => h) (Or.inl ⟨by rfl, ?_⟩) hHeld ?_
            rotate_left
            · intro W hSw
              obtain ⟨⟨hs1, hs2, hs3⟩, ⟨hs4, hs5, hs6⟩, ⟨hs7, hs8, hs9⟩, ⟨hs10, hs11, hs12⟩, ⟨hs13, hs14, hs15, hs16⟩, _⟩ := hSw
              go_simp
              try with_reducible rfl
            try simp only [Act.put, List.setIfInBounds_toArray, List.set_cons_zero, List.set_cons_succ, List.getElem_toArray, List.getElem_cons_succ, List.getElem_cons_zero]
            refine wpAnyH_ready (rs := [6]) (by kernel_rfl) (by simp) ?_
            refine AllReadyH.cons rfl (fun K hK => ?_) AllReadyH.nil
            go_simp
            refine (Id.implText_any x0 x1 x2 _ (RD.out.tab.on hHeld.2.2.2.2.2 (Nat.le_refl _))).mono ?_
            rintro x w' ⟨rfl, hb⟩
            rw [HXT.out]
            refine hK.out _ _ ?_ (fun hHeld => ?_)
            · exact Five.step (by assumption) hb
            clear hK K
            try simp only [Act.put, List.setIfInBounds_toArray, List.set_cons_zero, List.set_cons_succ, List.getElem_toArray, List.getElem_cons_succ, List.getElem_cons_zero]
            refine wpAnyH_take (i := 8) (v := ?_) rfl (by kernel_rfl) (by kernel_rfl) (by kernel_rfl) (fun _ _ _ h => h) (Or.inl ⟨by rfl, ?_⟩) hHeld ?_
            rotate_left
            · intro W hSw
              obtain ⟨⟨hs1, hs2, hs3⟩, ⟨hs4, hs5, hs6⟩, ⟨hs7, hs8, hs9⟩, ⟨hs10, hs11, hs12⟩, ⟨hs13, hs14, hs15, hs16⟩, _⟩ := hSw
              go_simp
              try with_reducible rfl
            try simp only [Act.put, List.setIfInBounds_toArray, List.set_cons_zero, List.set_cons_succ, List.getElem_toArray, List.getElem_cons_succ, List.getElem_cons_zero]
            refine wpAnyH_take (i := 9) (v := ?_) rfl (by kernel_rfl) (by kernel_rfl) (by kernel_rfl) (fun _ _ _ h => h) (Or.inl ⟨by rfl, ?_⟩) hHeld ?_
            rotate_left
            · intro W hSw
              obtain ⟨⟨hs1, hs2, hs3⟩, ⟨hs4, hs5, hs6⟩, ⟨hs7, hs8, hs9⟩, ⟨hs10, hs11, hs12⟩, ⟨hs13, hs14, hs15, hs16⟩, _⟩ := hSw
              go_simp
              try with_reducible rfl
            try simp only [Act.put, List.setIfInBounds_toArray, List.set_cons_zero, List.set_cons_succ, List.getElem_toArray, List.getElem_cons_succ, List.getElem_cons_zero]
            refine wpAnyH_take (i := 10) (v := ?_) rfl (by kernel_rfl) (by kernel_rfl) (by kernel_rfl) (fun _ _ _ h => h) (Or.inl ⟨by rfl, ?_⟩) hHeld ?_
            rotate_left
            · intro W hSw
              obtain ⟨⟨hs1, hs2, hs3⟩, ⟨hs4, hs5, hs6⟩, ⟨hs7, hs8, hs9⟩, ⟨hs10, hs11, hs12⟩, ⟨hs13, hs14, hs15, hs16⟩, _⟩ := hSw
              go_simp
              try with_reducible rfl
            try simp only [Act.put, List.setIfInBounds_toArray, List.set_cons_zero, List.set_cons_succ, List.getElem_toArray, List.getElem_cons_succ, List.getElem_cons_zero]
            refine wpAnyH_take (i := 11) (v := ?_) rfl (by kernel_rfl) (by kernel_rfl) (by kernel_rfl) (fun _ _ _ h => h) (Or.inl ⟨by rfl, ?_⟩) hHeld ?_
            rotate_left
            · intro W hSw
              obtain ⟨⟨hs1, hs2, hs3⟩, ⟨hs4, hs5, hs6⟩, ⟨hs7, hs8, hs9⟩, ⟨hs10, hs11, hs12⟩, ⟨hs13, hs14, hs15, hs16⟩, _⟩ := hSw
              go_simp
              try with_reducible rfl
            try simp only [Act.put, List.setIfInBounds_toArray, List.set_cons_zero, List.set_cons_succ, List.getElem_toArray, List.getElem_cons_succ, List.getElem_cons_zero]
            refine wpAnyH_take (i := 12) (v := ?_) rfl (by kernel_rfl) (by kernel_rfl) (by kernel_rfl) (fun _ _ _ h => h) (Or.inl ⟨by rfl, ?_⟩) hHeld ?_
            rotate_left
            · intro W hSw
              obtain ⟨⟨hs1, hs2, hs3⟩, ⟨hs4, hs5, hs6⟩, ⟨hs7, hs8, hs9⟩, ⟨hs10, hs11, hs12⟩, ⟨hs13, hs14, hs15, hs16⟩, _⟩ := hSw
              go_simp
              try with_reducible rfl
            try simp only [Act.put, List.setIfInBounds_toArray, List.set_cons_zero, List.set_cons_succ, List.getElem_toArray, List.getElem_cons_succ, List.getElem_cons_zero]
            refine wpAnyH_take (i := 13) (v := ?_) rfl (by kernel_rfl) (by kernel_rfl) (by kernel_rfl) (fun _ _ _ h => h) (Or.inl ⟨by rfl, ?_⟩) hHeld ?_
            rotate_left
            · intro W hSw
              obtain ⟨⟨hs1, hs2, hs3⟩, ⟨hs4, hs5, hs6⟩, ⟨hs7, hs8, hs9⟩, ⟨hs10, hs11, hs12⟩, ⟨hs13, hs14, hs15, hs16⟩, _⟩ := hSw
              go_simp
              try with_reducible rfl
            try simp only [Act.put, List.setIfInBounds_toArray, List.set_cons_zero, List.set_cons_succ, List.getElem_toArray, List.getElem_cons_succ, List.getElem_cons_zero]
            refine wpAnyH_take (i := 14) (v := ?_) rfl (by kernel_rfl) (by kernel_rfl) (by kernel_rfl) (fun _ _ _ h => h) (Or.inl ⟨by rfl, ?_⟩) hHeld ?_
            rotate_left
            · intro W hSw
              obtain ⟨⟨hs1, hs2, hs3⟩, ⟨hs4, hs5, hs6⟩, ⟨hs7, hs8, hs9⟩, ⟨hs10, hs11, hs12⟩, ⟨hs13, hs14, hs15, hs16⟩, _⟩ := hSw
              go_simp
              try with_reducible rfl
            try simp only [Act.put, List.setIfInBounds_toArray, List.set_cons_zero, List.set_cons_succ, List.getElem_toArray, List.getElem_cons_succ, List.getElem_cons_zero]
            refine wpAnyH_take (i := 16) (v := ?_) rfl (by kernel_rfl) (by kernel_rfl) (by kernel_rfl) (fun _ _ _ h => h) (Or.inl ⟨by rfl, ?_⟩) hHeld ?_
            rotate_left
            · intro W hSw
              obtain ⟨⟨hs1, hs2, hs3⟩, ⟨hs4, hs5, hs6⟩, ⟨hs7, hs8, hs9⟩, ⟨hs10, hs11, hs12⟩, ⟨hs13, hs14, hs15, hs16⟩, _⟩ := hSw
              go_simp
              try with_reducible rfl
            try simp only [Act.put, List.setIfInBounds_toArray, List.set_cons_zero, List.set_cons_succ, List.getElem_toArray, List.getElem_cons_succ, List.getElem_cons_zero]
            refine wpAnyH_take (i := 17) (v := ?_) rfl (by kernel_rfl) (by kernel_rfl) (by kernel_rfl) (fun _ _ _ h => h) (Or.inl ⟨by rfl, ?_⟩) hHeld ?_
            rotate_left
            · intro W hSw
              obtain ⟨⟨hs1, hs2, hs3⟩, ⟨hs4, hs5, hs6⟩, ⟨hs7, hs8, hs9⟩, ⟨hs10, hs11, hs12⟩, ⟨hs13, hs14, hs15, hs16⟩, _⟩ := hSw
              go_simp
              try with_reducible rfl
            try simp only [Act.put, List.setIfInBounds_toArray, List.set_cons_zero, List.set_cons_succ, List.getElem_toArray, List.getElem_cons_succ, List.getElem_cons_zero]
            refine wpAnyH_ready (rs := [15]) (by kernel_rfl) (by simp) ?_
            refine AllReadyH.cons rfl (fun K hK => ?_) AllReadyH.nil
            go_simp
            refine (Id.implRead_any t _ HTS.out (RD.out.on hHeld.2.2.2.2.2 (Nat.le_refl _))).mono ?_
            rintro x w' ⟨rfl, hb⟩
            rw [HTR.out]
            unfold outV
            refine hK.out _ _ ?_ (fun hHeld => ?_)
            · exact Five.step (by assumption) hb
            clear hK K
            try simp only [Act.put, List.setIfInBounds_toArray, List.set_cons_zero, List.set_cons_succ, List.getElem_toArray, List.getElem_cons_succ, List.getElem_cons_zero]
            refine wpAnyH_take (i := 18) (v := ?_) rfl (by kernel_rfl) (by kernel_rfl) (by kernel_rfl) (fun _ _ _ h => h) (Or.inl ⟨by rfl, ?_⟩) hHeld ?_
            rotate_left
            · intro W hSw
              obtain ⟨⟨hs1, hs2, hs3⟩, ⟨hs4, hs5, hs6⟩, ⟨hs7, hs8, hs9⟩, ⟨hs10, hs11, hs12⟩, ⟨hs13, hs14, hs15, hs16⟩, _⟩ := hSw
              go_simp
              try with_reducible rfl
            try simp only [Act.put, List.setIfInBounds_toArray, List.set_cons_zero, List.set_cons_succ, List.getElem_toArray, List.getElem_cons_succ, List.getElem_cons_zero]
            refine wpAnyH_take (i := 19) (v := ?_) rfl (by kernel_rfl) (by kernel_rfl) (by kernel_rfl) (fun _ _ _ h => h) (Or.inl ⟨by rfl, ?_⟩) hHeld ?_
            rotate_left
            · intro W hSw
              obtain ⟨⟨hs1, hs2, hs3⟩, ⟨hs4, hs5, hs6⟩, ⟨hs7, hs8, hs9⟩, ⟨hs10, hs11, hs12⟩, ⟨hs13, hs14, hs15, hs16⟩, _⟩ := hSw
              go_simp
              try with_reducible rfl
            try simp only [Act.put, List.setIfInBounds_toArray, List.set_cons_zero, List.set_cons_succ, List.getElem_toArray, List.getElem_cons_succ, List.getElem_cons_zero]
            refine wpAnyH_take (i := 20) (v := ?_) rfl (by kernel_rfl) (by kernel_rfl) (by kernel_rfl) (fun _ _ _ h => h) (Or.inl ⟨by rfl, ?_⟩) hHeld ?_
            rotate_left
            · intro W hSw
              obtain ⟨⟨hs1, hs2, hs3⟩, ⟨hs4, hs5, hs6⟩, ⟨hs7, hs8, hs9⟩, ⟨hs10, hs11, hs12⟩, ⟨hs13, hs14, hs15, hs16⟩, _⟩ := hSw
              go_simp
              try with_reducible rfl
            try simp only [Act.put, List.setIfInBounds_toArray, List.set_cons_zero, List.set_cons_succ, List.getElem_toArray, List.getElem_cons_succ, List.getElem_cons_zero]
            refine wpAnyH_take (i := 21) (v := ?_) rfl (by kernel_rfl) (by kernel_rfl) (by kernel_rfl) (fun _ _ _ h => h) (Or.inl ⟨by rfl, ?_⟩) hHeld ?_
            rotate_left
            · intro W hSw
              obtain ⟨⟨hs1, hs2, hs3⟩, ⟨hs4, hs5, hs6⟩, ⟨hs7, hs8, hs9⟩, ⟨hs10, hs11, hs12⟩, ⟨hs13, hs14, hs15, hs16⟩, _⟩ := hSw
              go_simp
              try with_reducible rfl
            try simp only [Act.put, List.setIfInBounds_toArray, List.set_cons_zero, List.set_cons_succ, List.getElem_toArray, List.getElem_cons_succ, List.getElem_cons_zero]
            refine wpAnyH_done (by kernel_rfl) ?_ _
            go_wp2_with fail
            go_ret
            exact ⟨rfl, hHeld.2.2.2.2.2⟩
        · by_cases he : t.data.toList = []
          · have e1 : (x3 == 0) = false := beq_eq_false_iff_ne.2 hk
            have e1b : (x3 != 0) = true := by simp [hk]
            have e2 : (t.toList == []) = true := by rw [ByteArray.toList_eq, he]; rfl
            clear he
            refine wp_region_held_drew (S := (fun W => C3 W ga p0 p1 p2 ∧ C3 W (ga + 1) q0 q1 q2 ∧ C3 W gm m0 m1 m2 ∧ C3 W gc c0 c1 c2 ∧ C4 W gx x0 x1 x2 x3 ∧ Below w.heap.size w W)) (by kernel_rfl) ?_ (fun hHeld => ?_)
            · exact Five.drew h10
            refine wpAnyH_take (i := 0) (v := ?_) rfl (by kernel_rfl) (by kernel_rfl) (by kernel_rfl) (fun _ _ _ h => h) (Or.inl ⟨by rfl, ?_⟩) hHeld ?_
            rotate_left
            · intro W hSw
              obtain ⟨⟨hs1, hs2, hs3⟩, ⟨hs4, hs5, hs6⟩, ⟨hs7, hs8, hs9⟩, ⟨hs10, hs11, hs12⟩, ⟨hs13, hs14, hs15, hs16⟩, _⟩ := hSw
              go_simp
              try with_reducible rfl
            try simp only [Act.put, List.setIfInBounds_toArray, List.set_cons_zero, List.set_cons_succ, List.getElem_toArray, List.getElem_cons_zero]
            refine wpAnyH_take (i := 1) (v := ?_) rfl (by kernel_rfl) (by kernel_rfl) (by kernel_rfl) (fun _ _ _ h => h) (Or.inl ⟨by rfl, ?_⟩) hHeld ?_
            rotate_left
            · intro W hSw
              obtain ⟨⟨hs1, hs2, hs3⟩, ⟨hs4, hs5, hs6⟩, ⟨hs7, hs8, hs9⟩, ⟨hs10, hs11, hs12⟩, ⟨hs13, hs14, hs15, hs16⟩, _⟩ := hSw
              go_simp
              try with_reducible rfl
            try simp only [Act.put, List.setIfInBounds_toArray, List.set_cons_zero, List.set_cons_succ, List.getElem_toArray, List.getElem_cons_succ, List.getElem_cons_zero]
            refine wpAnyH_take (i := 2) (v := ?_) rfl (by kernel_rfl) (by kernel_rfl) (by kernel_rfl) (fun _ _ _ h => h) (Or.inl ⟨by rfl, ?_⟩) hHeld ?_
            rotate_left
            · intro W hSw
              obtain ⟨⟨hs1, hs2, hs3⟩, ⟨hs4, hs5, hs6⟩, ⟨hs7, hs8, hs9⟩, ⟨hs10, hs11, hs12⟩, ⟨hs13, hs14, hs15, hs16⟩, _⟩ := hSw
              go_simp
              try with_reducible rfl
            try simp only [Act.put, List.setIfInBounds_toArray, List.set_cons_zero, List.set_cons_succ, List.getElem_toArray, List.getElem_cons_succ, List.getElem_cons_zero]
            refine wpAnyH_take (i := 3) (v := ?_) rfl (by kernel_rfl) (by kernel_rfl) (by kernel_rfl) (fun _ _ _ h => h) (Or.inl ⟨by rfl, ?_⟩) hHeld ?_
            rotate_left
            · intro W hSw
              obtain ⟨⟨hs1, hs2, hs3⟩, ⟨hs4, hs5, hs6⟩, ⟨hs7, hs8, hs9⟩, ⟨hs10, hs11, hs12⟩, ⟨hs13, hs14, hs15, hs16⟩, _⟩ := hSw
              go_simp
              try with_reducible rfl
            try simp only [Act.put, List.setIfInBounds_toArray, List.set_cons_zero, List.set_cons_succ, List.getElem_toArray, List.getElem_cons_succ, List.getElem_cons_zero]
            refine wpAnyH_take (i := 4) (v := undef) rfl (by kernel_rfl) (by kernel_rfl) (by kernel_rfl) (fun _ _ _ h => h) (Or.inr ⟨by rfl, rfl⟩) hHeld ?_
            try simp only [Act.put, List.setIfInBounds_toArray, List.set_cons_zero, List.set_cons_succ, List.getElem_toArray, List.getElem_cons_succ, List.getElem_cons_zero]
            refine wpAnyH_take (i := 5) (v := undef) rfl (by kernel_rfl) (by kernel_rfl) (by kernel_rfl) (fun _ _ _ h => h) (Or.inr ⟨by rfl, rfl⟩) hHeld ?_
            try simp only [Act.put, List.setIfInBounds_toArray, List.set_cons_zero, List.set_cons_succ, List.getElem_toArray, List.getElem_cons_succ, List.getElem_cons_zero]
            refine wpAnyH_take (i := 7) (v := undef) rfl (by kernel_rfl) (by kernel_rfl) (by kernel_rfl) (fun _ _ _ h => h) (Or.inr ⟨by rfl, rfl⟩) hHeld ?_
            try simp only [Act.put, List.setIfInBounds_toArray, List.set_cons_zero, List.set_cons_succ, List.getElem_toArray, List.getElem_cons_succ, List.getElem_cons_zero]
            refine wpAnyH_ready (rs := [6]) (by kernel_rfl) (by simp) ?_
            refine AllReadyH.cons rfl (fun K hK => ?_) AllReadyH.nil
            go_simp
            refine hK.out _ _ ?_ (fun hHeld => ?_)
            · assumption
            clear hK K
            try simp only [Act.put, List.setIfInBounds_toArray, List.set_cons_zero, List.set_cons_succ, List.getElem_toArray, List.getElem_cons_succ, List.getElem_cons_zero]
            refine wpAnyH_take (i := 8) (v := undef) rfl (by kernel_rfl) (by kernel_rfl) (by kernel_rfl) (fun _ _ _ h => h) (Or.inr ⟨by rfl, rfl⟩) hHeld ?_
            try simp only [Act.put, List.setIfInBounds_toArray, List.set_cons_zero, List.set_cons_succ, List.getElem_toArray, List.getElem_cons_succ, List.getElem_cons_zero]
            refine wpAnyH_take (i := 9) (v := ?_) rfl (by kernel_rfl) (by kernel_rfl) (by kernel_rfl) (fun _ _ _ h => h) (Or.inl ⟨by rfl, ?_⟩) hHeld ?_
            rotate_left
            · intro W hSw
              obtain ⟨⟨hs1, hs2, hs3⟩, ⟨hs4, hs5, hs6⟩, ⟨hs7, hs8, hs9⟩, ⟨hs10, hs11, hs12⟩, ⟨hs13, hs14, hs15, hs16⟩, _⟩ := hSw
              go_simp
              try with_reducible rfl
            try simp only [Act.put, List.setIfInBounds_toArray, List.set_cons_zero, List.set_cons_succ, List.getElem_toArray, List.getElem_cons_succ, List.getElem_cons_zero]
            refine wpAnyH_take (i := 10) (v := ?_) rfl (by kernel_rfl) (by kernel_rfl) (by kernel_rfl) (fun _ _ _ h => h) (Or.inl ⟨by rfl, ?_⟩) hHeld ?_
            rotate_left
            · intro W hSw
              obtain ⟨⟨hs1, hs2, hs3⟩, ⟨hs4, hs5, hs6⟩, ⟨hs7, hs8, hs9⟩, ⟨hs10, hs11, hs12⟩, ⟨hs13, hs14, hs15, hs16⟩, _⟩ := hSw
              go_simp
              try with_reducible rfl
            try simp only [Act.put, List.setIfInBounds_toArray, List.set_cons_zero, List.set_cons_succ, List.getElem_toArray, List.getElem_cons_succ, List.getElem_cons_zero]
            refine wpAnyH_take (i := 11) (v := ?_) rfl (by kernel_rfl) (by kernel_rfl) (by kernel_rfl) (fun _ _ _ h => h) (Or.inl ⟨by rfl, ?_⟩) hHeld ?_
            rotate_left
            · intro W hSw
              obtain ⟨⟨hs1, hs2, hs3⟩, ⟨hs4, hs5, hs6⟩, ⟨hs7, hs8, hs9⟩, ⟨hs10, hs11, hs12⟩, ⟨hs13, hs14, hs15, hs16⟩, _⟩ := hSw
              go_simp
              try with_reducible rfl
            try simp only [Act.put, List.setIfInBounds_toArray, List.set_cons_zero, List.set_cons_succ, List.getElem_toArray, List.getElem_cons_succ, List.getElem_cons_zero]
            refine wpAnyH_take (i := 12) (v := ?_) rfl (by kernel_rfl) (by kernel_rfl) (by kernel_rfl) (fun _ _ _ h => h) (Or.inl ⟨by rfl, ?_⟩) hHeld ?_
            rotate_left
            · intro W hSw
              obtain ⟨⟨hs1, hs2, hs3⟩, ⟨hs4, hs5, hs6⟩, ⟨hs7, hs8, hs9⟩, ⟨hs10, hs11, hs12⟩, ⟨hs13, hs14, hs15, hs16⟩, _⟩ := hSw
              go_simp
              try with_reducible rfl
            try simp only [Act.put, List.setIfInBounds_toArray, List.set_cons_zero, List.set_cons_succ, List.getElem_toArray, List.getElem_cons_succ, List.getElem_cons_zero]
            refine wpAnyH_take (i := 13) (v := ?_) rfl (by kernel_rfl) (by kernel_rfl) (by kernel_rfl) (fun _ _ _ h => h) (Or.inl ⟨by rfl, ?_⟩) hHeld ?_
            rotate_left
            · intro W hSw
              obtain ⟨⟨hs1, hs2, hs3⟩, ⟨hs4, hs5, hs6⟩, ⟨hs7, hs8, hs9⟩, ⟨hs10, hs11, hs12⟩, ⟨hs13, hs14, hs15, hs16⟩, _⟩ := hSw
              go_simp
              try with_reducible rfl
            try simp only [Act.put, List.setIfInBounds_toArray, List.set_cons_zero, List.set_cons_succ, List.getElem_toArray, List.getElem_cons_succ, List.getElem_cons_zero]
            refine wpAnyH_take (i := 14) (v := undef) rfl (by kernel_rfl) (by kernel_rfl) (by kernel_rfl) (fun _ _ _ h => h) (Or.inr ⟨by rfl, rfl⟩) hHeld ?_
            try simp only [Act.put, List.setIfInBounds_toArray, List.set_cons_zero, List.set_cons_succ, List.getElem_toArray, List.getElem_cons_succ, List.getElem_cons_zero]
            refine wpAnyH_take (i := 16) (v := undef) rfl (by kernel_rfl) (by kernel_rfl) (by kernel_rfl) (fun _ _ _ h => h) (Or.inr ⟨by rfl, rfl⟩) hHeld ?_
            try simp only [Act.put, List.setIfInBounds_toArray, List.set_cons_zero, List.set_cons_succ, List.getElem_toArray, List.getElem_cons_succ, List.getElem_cons_zero]
            refine wpAnyH_take (i := 17) (v := undef) rfl (by kernel_rfl) (by kernel_rfl) (by kernel_rfl) (fun _ _ _ h => h) (Or.inr ⟨by rfl, rfl⟩) hHeld ?_
            try simp only [Act.put, List.setIfInBounds_toArray, List.set_cons_zero, List.set_cons_succ, List.getElem_toArray, List.getElem_cons_succ, List.getElem_cons_zero]
            refine wpAnyH_ready (rs := [15]) (by kernel_rfl) (by simp) ?_
            refine AllReadyH.cons rfl (fun K hK => ?_) AllReadyH.nil
            go_simp
            refine hK.out _ _ ?_ (fun hHeld => ?_)
            · assumption
            clear hK K
            try simp only [Act.put, List.setIfInBounds_toArray, List.set_cons_zero, List.set_cons_succ, List.getElem_toArray, List.getElem_cons_succ, List.getElem_cons_zero]
            refine wpAnyH_take (i := 18) (v := undef) rfl (by kernel_rfl) (by kernel_rfl) (by kernel_rfl) (fun _ _ _ h => h) (Or.inr ⟨by rfl, rfl⟩) hHeld ?_
            try simp only [Act.put, List.setIfInBounds_toArray, List.set_cons_zero, List.set_cons_succ, List.getElem_toArray, List.getElem_cons_succ, List.getElem_cons_zero]
            refine wpAnyH_take (i := 19) (v := ?_) rfl (by kernel_rfl) (by kernel_rfl) (by kernel_rfl) (fun _ _ _ h => h) (Or.inl ⟨by rfl, ?_⟩) hHeld ?_
            rotate_left
            · intro W hSw
              obtain ⟨⟨hs1, hs2, hs3⟩, ⟨hs4, hs5, hs6⟩, ⟨hs7, hs8, hs9⟩, ⟨hs10, hs11, hs12⟩, ⟨hs13, hs14, hs15, hs16⟩, _⟩ := hSw
              go_simp
              try with_reducible rfl
            try simp only [Act.put, List.setIfInBounds_toArray, List.set_cons_zero, List.set_cons_succ, List.getElem_toArray, List.getElem_cons_succ, List.getElem_cons_zero]
            refine wpAnyH_take (i := 20) (v := ?_) rfl (by kernel_rfl) (by kernel_rfl) (by kernel_rfl) (fun _ _ _ h => h) (Or.inl ⟨by rfl, ?_⟩) hHeld ?_
            rotate_left
            · intro W hSw
              obtain ⟨⟨hs1, hs2, hs3⟩, ⟨hs4, hs5, hs6⟩, ⟨hs7, hs8, hs9⟩, ⟨hs10, hs11, hs12⟩, ⟨hs13, hs14, hs15, hs16⟩, _⟩ := hSw
              go_simp
              try with_reducible rfl
            try simp only [Act.put, List.setIfInBounds_toArray, List.set_cons_zero, List.set_cons_succ, List.getElem_toArray, List.getElem_cons_succ, List.getElem_cons_zero]
            refine wpAnyH_take (i := 21) (v := ?_) rfl (by kernel_rfl) (by kernel_rfl) (by kernel_rfl) (fun _ _ _ h => h) (Or.inl ⟨by rfl, ?_⟩) hHeld ?_
            rotate_left
            · intro W hSw
              obtain ⟨⟨hs1, hs2, hs3⟩, ⟨hs4, hs5, hs6⟩, ⟨hs7, hs8, hs9⟩, ⟨hs10, hs11, hs12⟩, ⟨hs13, hs14, hs15, hs16⟩, _⟩ := hSw
              go_simp
              try with_reducible rfl
            try simp only [Act.put, List.setIfInBounds_toArray, List.set_cons_zero, List.set_cons_succ, List.getElem_toArray, List.getElem_cons_succ, List.getElem_cons_zero]
            refine wpAnyH_done (by kernel_rfl) ?_ _
            go_wp2_with fail
            go_ret
            exact ⟨rfl, hHeld.2.2.2.2.2⟩
          · have e1 : (x3 == 0) = false := beq_eq_false_iff_ne.2 hk
            have e1b : (x3 != 0) = true := by simp [hk]
            have e2 : (t.toList == []) = false := by rw [ByteArray.toList_eq]; exact beq_eq_false_iff_ne.2 he
            have HTR := Lib.hid (rd_of_text HT.out he)
            have f0 : (c0 == c0) = true := beq_self_eq_true _
            have f1 : (c1 == c1) = true := beq_self_eq_true _
            have f2 : (c2 == c2) = true := beq_self_eq_true _
            clear he
            refine wp_region_held_drew (S := (fun W => C3 W ga p0 p1 p2 ∧ C3 W (ga + 1) q0 q1 q2 ∧ C3 W gm m0 m1 m2 ∧ C3 W gc c0 c1 c2 ∧ C4 W gx x0 x1 x2 x3 ∧ Below w.heap.size w W)) (by kernel_rfl) ?_ (fun hHeld => ?_)
            · exact Five.drew h10
            refine wpAnyH_take (i := 0) (v := ?_) rfl (by kernel_rfl) (by kernel_rfl) (by kernel_rfl) (fun _ _ _ h => h) (Or.inl ⟨by rfl, ?_⟩) hHeld ?_
            rotate_left
            · intro W hSw
              obtain ⟨⟨hs1, hs2, hs3⟩, ⟨hs4, hs5, hs6⟩, ⟨hs7, hs8, hs9⟩, ⟨hs10, hs11, hs12⟩, ⟨hs13, hs14, hs15, hs16⟩, _⟩ := hSw
              go_simp
              try with_reducible rfl
            try simp only [Act.put, List.setIfInBounds_toArray, List.set_cons_zero, List.set_cons_succ, List.getElem_toArray, List.getElem_cons_zero]
            refine wpAnyH_take (i := 1) (v := ?_) rfl (by kernel_rfl) (by kernel_rfl) (by kernel_rfl) (fun _ _ _ h => h) (Or.inl ⟨by rfl, ?_⟩) hHeld ?_
            rotate_left
            · intro W hSw
              obtain ⟨⟨hs1, hs2, hs3⟩, ⟨hs4, hs5, hs6⟩, ⟨hs7, hs8, hs9⟩, ⟨hs10, hs11, hs12⟩, ⟨hs13, hs14, hs15, hs16⟩, _⟩ := hSw
              go_simp
              try with_reducible rfl
            try simp only [Act.put, List.setIfInBounds_toArray, List.set_cons_zero, List.set_cons_succ, List.getElem_toArray, List.getElem_cons_succ, List.getElem_cons_zero]
            refine wpAnyH_take (i := 2) (v := ?_) rfl (by kernel_rfl) (by kernel_rfl) (by kernel_rfl) (fun _ _ _ h => h) (Or.inl ⟨by rfl, ?_⟩) hHeld ?_
            rotate_left
            · intro W hSw
              obtain ⟨⟨hs1, hs2, hs3⟩, ⟨hs4, hs5, hs6⟩, ⟨hs7, hs8, hs9⟩, ⟨hs10, hs11, hs12⟩, ⟨hs13, hs14, hs15, hs16⟩, _⟩ := hSw
              go_simp
              try with_reducible rfl
            try simp only [Act.put, List.setIfInBounds_toArray, List.set_cons_zero, List.set_cons_succ, List.getElem_toArray, List.getElem_cons_succ, List.getElem_cons_zero]
            refine wpAnyH_take (i := 3) (v := ?_) rfl (by kernel_rfl) (by kernel_rfl) (by kernel_rfl) (fun _ _ _ h => h) (Or.inl ⟨by rfl, ?_⟩) hHeld ?_
            rotate_left
            · intro W hSw
              obtain ⟨⟨hs1, hs2, hs3⟩, ⟨hs4, hs5, hs6⟩, ⟨hs7, hs8, hs9⟩, ⟨hs10, hs11, hs12⟩, ⟨hs13, hs14, hs15, hs16⟩, _⟩ := hSw
              go_simp
              try with_reducible rfl
            try simp only [Act.put, List.setIfInBounds_toArray, List.set_cons_zero, List.set_cons_succ, List.getElem_toArray, List.getElem_cons_succ, List.getElem_cons_zero]
            refine wpAnyH_take (i := 4) (v := undef) rfl (by kernel_rfl) (by kernel_rfl) (by kernel_rfl) (fun _ _ _ h => h) (Or.inr ⟨by rfl, rfl⟩) hHeld ?_
            try simp only [Act.put, List.setIfInBounds_toArray, List.set_cons_zero, List.set_cons_succ, List.getElem_toArray, List.getElem_cons_succ, List.getElem_cons_zero]
            refine wpAnyH_take (i := 5) (v := undef) rfl (by kernel_rfl) (by kernel_rfl) (by kernel_rfl) (fun _ _ _ h => h) (Or.inr ⟨by rfl, rfl⟩) hHeld ?_
            try simp only [Act.put, List.setIfInBounds_toArray, List.set_cons_zero, List.set_cons_succ, List.getElem_toArray, List.getElem_cons_succ, List.getElem_cons_zero]
            refine wpAnyH_take (i := 7) (v := undef) rfl (by kernel_rfl) (by kernel_rfl) (by kernel_rfl) (fun _ _ _ h => h) (Or.inr ⟨by rfl, rfl⟩) hHeld ?_
            try simp only [Act.put, List.setIfInBounds_toArray, List.set_cons_zero, List.set_cons_succ, List.getElem_toArray, List.getElem_cons_succ, List.getElem_cons_zero]
            refine wpAnyH_ready (rs := [6]) (by kernel_rfl) (by simp) ?_
            refine AllReadyH.cons rfl (fun K hK => ?_) AllReadyH.nil
            go_simp
            refine hK.out _ _ ?_ (fun hHeld => ?_)
            · assumption
            clear hK K
            try simp only [Act.put, List.setIfInBounds_toArray, List.set_cons_zero, List.set_cons_succ, List.getElem_toArray, List.getElem_cons_succ, List.getElem_cons_zero]
            refine wpAnyH_take (i := 8) (v := undef) rfl (by kernel_rfl) (by kernel_rfl) (by kernel_rfl) (fun _ _ _ h => h) (Or.inr ⟨by rfl, rfl⟩) hHeld ?_
            try simp only [Act.put, List.setIfInBounds_toArray, List.set_cons_zero, List.set_cons_succ, List.getElem_toArray, List.getElem_cons_succ, List.getElem_cons_zero]
            refine wpAnyH_take (i := 9) (v := ?_) rfl (by kernel_rfl) (by kernel_rfl) (by kernel_rfl) (fun _ _ _ h => h) (Or.inl ⟨by rfl, ?_⟩) hHeld ?_
            rotate_left
            · intro W hSw
              obtain ⟨⟨hs1, hs2, hs3⟩, ⟨hs4, hs5, hs6⟩, ⟨hs7, hs8, hs9⟩, ⟨hs10, hs11, hs12⟩, ⟨hs13, hs14, hs15, hs16⟩, _⟩ := hSw
              go_simp
              try with_reducible rfl
            try simp only [Act.put, List.setIfInBounds_toArray, List.set_cons_zero, List.set_cons_succ, List.getElem_toArray, List.getElem_cons_succ, List.getElem_cons_zero]
            refine wpAnyH_take (i := 10) (v := ?_) rfl (by kernel_rfl) (by kernel_rfl) (by kernel_rfl) (fun _ _ _ h => h) (Or.inl ⟨by rfl, ?_⟩) hHeld ?_
            rotate_left
            · intro W hSw
              obtain ⟨⟨hs1, hs2, hs3⟩, ⟨hs4, hs5, hs6⟩, ⟨hs7, hs8, hs9⟩, ⟨hs10, hs11, hs12⟩, ⟨hs13, hs14, hs15, hs16⟩, _⟩ := hSw
              go_simp
              try with_reducible rfl
            try simp only [Act.put, List.setIfInBounds_toArray, List.set_cons_zero, List.set_cons_succ, List.getElem_toArray, List.getElem_cons_succ, List.getElem_cons_zero]
            refine wpAnyH_take (i := 11) (v := ?_) rfl (by kernel_rfl) (by kernel_rfl) (by kernel_rfl) (fun _ _ _ h => h) (Or.inl ⟨by rfl, ?_⟩) hHeld ?_
            rotate_left
            · intro W hSw
              obtain ⟨⟨hs1, hs2, hs3⟩, ⟨hs4, hs5, hs6⟩, ⟨hs7, hs8, hs9⟩, ⟨hs10, hs11, hs12⟩, ⟨hs13, hs14, hs15, hs16⟩, _⟩ := hSw
              go_simp
              try with_reducible rfl
            try simp only [Act.put, List.setIfInBounds_toArray, List.set_cons_zero, List.set_cons_succ, List.getElem_toArray, List.getElem_cons_succ, List.getElem_cons_zero]
            refine wpAnyH_take (i := 12) (v := ?_) rfl (by kernel_rfl) (by kernel_rfl) (by kernel_rfl) (fun _ _ _ h => h) (Or.inl ⟨by rfl, ?_⟩) hHeld ?_
            rotate_left
            · intro W hSw
              obtain ⟨⟨hs1, hs2, hs3⟩, ⟨hs4, hs5, hs6⟩, ⟨hs7, hs8, hs9⟩, ⟨hs10, hs11, hs12⟩, ⟨hs13, hs14, hs15, hs16⟩, _⟩ := hSw
              go_simp
              try with_reducible rfl
            try simp only [Act.put, List.setIfInBounds_toArray, List.set_cons_zero, List.set_cons_succ, List.getElem_toArray, List.getElem_cons_succ, List.getElem_cons_zero]
            refine wpAnyH_take (i := 13) (v := ?_) rfl (by kernel_rfl) (by kernel_rfl) (by kernel_rfl) (fun _ _ _ h => h) (Or.inl ⟨by rfl, ?_⟩) hHeld ?_
            rotate_left
            · intro W hSw
              obtain ⟨⟨hs1, hs2, hs3⟩, ⟨hs4, hs5, hs6⟩, ⟨hs7, hs8, hs9⟩, ⟨hs10, hs11, hs12⟩, ⟨hs13, hs14, hs15, hs16⟩, _⟩ := hSw
              go_simp
              try with_reducible rfl
            try simp only [Act.put, List.setIfInBounds_toArray, List.set_cons_zero, List.set_cons_succ, List.getElem_toArray, List.getElem_cons_succ, List.getElem_cons_zero]
            refine wpAnyH_take (i := 14) (v := ?_) rfl (by kernel_rfl) (by kernel_rfl) (by kernel_rfl) (fun _ _ _ h => h) (Or.inl ⟨by rfl, ?_⟩) hHeld ?_
            rotate_left
            · intro W hSw
              obtain ⟨⟨hs1, hs2, hs3⟩, ⟨hs4, hs5, hs6⟩, ⟨hs7, hs8, hs9⟩, ⟨hs10, hs11, hs12⟩, ⟨hs13, hs14, hs15, hs16⟩, _⟩ := hSw
              go_simp
              try with_reducible rfl
            try simp only [Act.put, List.setIfInBounds_toArray, List.set_cons_zero, List.set_cons_succ, List.getElem_toArray, List.getElem_cons_succ, List.getElem_cons_zero]
            refine wpAnyH_take (i := 16) (v := ?_) rfl (by kernel_rfl) (by kernel_rfl) (by kernel_rfl) (fun _ _ _ h => h) (Or.inl ⟨by rfl, ?_⟩) hHeld ?_
            rotate_left
            · intro W hSw
              obtain ⟨⟨hs1, hs2, hs3⟩, ⟨hs4, hs5, hs6⟩, ⟨hs7, hs8, hs9⟩, ⟨hs10, hs11, hs12⟩, ⟨hs13, hs14, hs15, hs16⟩, _⟩ := hSw
              go_simp
              try with_reducible rfl
            try simp only [Act.put, List.setIfInBounds_toArray, List.set_cons_zero, List.set_cons_succ, List.getElem_toArray, List.getElem_cons_succ, List.getElem_cons_zero]
            refine wpAnyH_take (i := 17) (v := ?_) rfl (by kernel_rfl) (by kernel_rfl) (by kernel_rfl) (fun _ _ _ h => h) (Or.inl ⟨by rfl, ?_⟩) hHeld ?_
            rotate_left
            · intro W hSw
              obtain ⟨⟨hs1, hs2, hs3⟩, ⟨hs4, hs5, hs6⟩, ⟨hs7, hs8, hs9⟩, ⟨hs10, hs11, hs12⟩, ⟨hs13, hs14, hs15, hs16⟩, _⟩ := hSw
              go_simp
              try with_reducible rfl
            try simp only [Act.put, List.setIfInBounds_toArray, List.set_cons_zero, List.set_cons_succ, List.getElem_toArray, List.getElem_cons_succ, List.getElem_cons_zero]
            refine wpAnyH_ready (rs := [15]) (by kernel_rfl) (by simp) ?_
            refine AllReadyH.cons rfl (fun K hK => ?_) AllReadyH.nil
            go_simp
            refine (Id.implRead_any t _ HTS.out (RD.out.on hHeld.2.2.2.2.2 (Nat.le_refl _))).mono ?_
            rintro x w' ⟨rfl, hb⟩
            rw [HTR.out]
            unfold outV
            refine hK.out _ _ ?_ (fun hHeld => ?_)
            · exact Five.step (by assumption) hb
            clear hK K
            try simp only [Act.put, List.setIfInBounds_toArray, List.set_cons_zero, List.set_cons_succ, List.getElem_toArray, List.getElem_cons_succ, List.getElem_cons_zero]
            refine wpAnyH_take (i := 18) (v := ?_) rfl (by kernel_rfl) (by kernel_rfl) (by kernel_rfl) (fun _ _ _ h => h) (Or.inl ⟨by rfl, ?_⟩) hHeld ?_
            rotate_left
            · intro W hSw
              obtain ⟨⟨hs1, hs2, hs3⟩, ⟨hs4, hs5, hs6⟩, ⟨hs7, hs8, hs9⟩, ⟨hs10, hs11, hs12⟩, ⟨hs13, hs14, hs15, hs16⟩, _⟩ := hSw
              go_simp
              try with_reducible rfl
            try simp only [Act.put, List.setIfInBounds_toArray, List.set_cons_zero, List.set_cons_succ, List.getElem_toArray, List.getElem_cons_succ, List.getElem_cons_zero]
            refine wpAnyH_take (i := 19) (v := ?_) rfl (by kernel_rfl) (by kernel_rfl) (by kernel_rfl) (fun _ _ _ h => h) (Or.inl ⟨by rfl, ?_⟩) hHeld ?_
            rotate_left
            · intro W hSw
              obtain ⟨⟨hs1, hs2, hs3⟩, ⟨hs4, hs5, hs6⟩, ⟨hs7, hs8, hs9⟩, ⟨hs10, hs11, hs12⟩, ⟨hs13, hs14, hs15, hs16⟩, _⟩ := hSw
              go_simp
              try with_reducible rfl
            try simp only [Act.put, List.setIfInBounds_toArray, List.set_cons_zero, List.set_cons_succ, List.getElem_toArray, List.getElem_cons_succ, List.getElem_cons_zero]
            refine wpAnyH_take (i := 20) (v := ?_) rfl (by kernel_rfl) (by kernel_rfl) (by kernel_rfl) (fun _ _ _ h => h) (Or.inl ⟨by rfl, ?_⟩) hHeld ?_
            rotate_left
            · intro W hSw
              obtain ⟨⟨hs1, hs2, hs3⟩, ⟨hs4, hs5, hs6⟩, ⟨hs7, hs8, hs9⟩, ⟨hs10, hs11, hs12⟩, ⟨hs13, hs14, hs15, hs16⟩, _⟩ := hSw
              go_simp
              try with_reducible rfl
            try simp only [Act.put, List.setIfInBounds_toArray, List.set_cons_zero, List.set_cons_succ, List.getElem_toArray, List.getElem_cons_succ, List.getElem_cons_zero]
            refine wpAnyH_take (i := 21) (v := ?_) rfl (by kernel_rfl) (by kernel_rfl) (by kernel_rfl) (fun _ _ _ h => h) (Or.inl ⟨by rfl, ?_⟩) hHeld ?_
            rotate_left
            · intro W hSw
              obtain ⟨⟨hs1, hs2, hs3⟩, ⟨hs4, hs5, hs6⟩, ⟨hs7, hs8, hs9⟩, ⟨hs10, hs11, hs12⟩, ⟨hs13, hs14, hs15, hs16⟩, _⟩ := hSw
              go_simp
              try with_reducible rfl
            try simp only [Act.put, List.setIfInBounds_toArray, List.set_cons_zero, List.set_cons_succ, List.getElem_toArray, List.getElem_cons_succ, List.getElem_cons_zero]
            refine wpAnyH_done (by kernel_rfl) ?_ _
            go_wp2_with fail
            go_ret
            exact ⟨rfl, hHeld.2.2.2.2.2⟩
end Go.Proofs.YtbkgampfehjpaaaDoor.FnId
