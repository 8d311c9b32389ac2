/-
  The Go function impl.readNum answers what the plain function rd tells, for every text of at most 8000 bytes and every place that is not below 0.
-/
import Derived.Test.YtbdmildlcgecjaaDoorRd
import Derived.Test.YtbdmildlcgecjaaDoorScope
namespace Go.Proofs.YtbdmildlcgecjaaDoor.Gn
open Go.ChangeShapes Go.WideShapes Go.ChangeAt Go.RowKit
set_option linter.unusedVariables false

/-- What stands at a jump: at 'wrong' (0) the code; at 'more' (1) k bytes are read; at 'last' (2) the byte is c. -/
def JR (s : ByteArray) (a : Nat) (l : Nat) (x : Act) : Prop :=
  x.defers = [] ∧ x.tmps.size = 59 ∧ x.tmps[0]? = some (.string s) ∧
  ((l = 0 ∧ ∃ c : Int, x.tmps[10]? = some (.int .i64 c) ∧ Hid (c ≠ 0 ∧ rd 10 (s.data.toList.drop a) 0 0 a = (0, 0, c))) ∨
   (l = 1 ∧ ∃ (k : Nat) (u : Int), k ≤ 9 ∧ 0 ≤ u ∧ u < 18446744073709551616 ∧ x.tmps[1]? = some (.int .i64 ((a : Int) + k)) ∧ x.tmps[7]? = some (.int .u64 u) ∧ x.tmps[9]? = some (.int .i64 k) ∧ x.tmps[10]? = some (.int .i64 4) ∧
     Hid (rd (10 - k) (s.data.toList.drop (a + k)) k u ((a : Int) + k) = rd 10 (s.data.toList.drop a) 0 0 a ∧ u < 128 ^ k)) ∨
   (l = 2 ∧ ∃ (k : Nat) (u u' : Int) (c : UInt8), k ≤ 9 ∧ 0 ≤ u' ∧ u' < 18446744073709551616 ∧ c.toNat < 128 ∧ x.tmps[1]? = some (.int .i64 ((a : Int) + k + 1)) ∧ x.tmps[7]? = some (.int .u64 u') ∧ x.tmps[8]? = some (.int .u8 c.toNat) ∧
     x.tmps[9]? = some (.int .i64 ((k : Int) + 1)) ∧ Hid (a + k < s.size ∧ (∃ l, rd (10 - k) (c :: l) k u ((a : Int) + k) = rd 10 (s.data.toList.drop a) 0 0 a) ∧ (¬ (k = 9 ∧ 1 < c.toNat) → u' = u + (c.toNat : Int) % 128 * 128 ^ k))))
def JM (l : Nat) (x : Act) : Nat := if l = 1 then 12 - (intOf (x.tmps.getD 9 undef)).toNat else if l = 2 then 1 else 0
theorem JR_le (s : ByteArray) (a : Nat) (l : Nat) (x : Act) (h : JR s a l x) : l ≤ 2 := by
  obtain ⟨_, _, _, h | h | h⟩ := h <;> omega

set_option maxRecDepth 100000 in
set_option maxHeartbeats 4000000 in
theorem readNum_any (s : ByteArray) (a : Nat) (w : World) (h1 : ¬ 8000 < s.size) (ha : a ≤ 9223372036854775807) (n e c : Int) (hr : rd 10 (s.data.toList.drop a) 0 0 a = (n, e, c)) (V : Value)
    (hV : V = if c = 0 then .tuple #[.int .i64 n, .int .i64 e, .nilIface] else .tuple #[.int .i64 0, .int .i64 0, .iface 55 (.agg #[.int .i64 c])]) :
    Calls Tryd.prog 21 #[.string s, .int .i64 a] w fun ev w' => ev = .returned V ∧ w = w' := by
  have HR := Lib.hid hr
  clear hr
  have HV := Lib.hid hV
  clear hV
  go_enter Tryd.func21, Tryd.ntmps21
  try go_wp2
  refine Scope.wp_scope_three (fun l x w' => JR s a l x ∧ w' = w) (fun l x _ => JM l x) rfl rfl rfl (fun l x w' h => JR_le s a l x h.1) ?first ?p0 ?p1 ?p2
  case first =>
    intro P1
    go_wp2
    go_step3
    rename_i K hK
    refine hK _ _ (P1 _ _ ⟨⟨rfl, rfl, rfl, .inr (.inl ⟨rfl, 0, 0, by omega, by omega, by omega, by simp, rfl, rfl, rfl, Lib.hid ⟨by simp, by decide⟩⟩)⟩, rfl⟩)
  case p0 =>
    rintro ⟨t, d⟩ w' ⟨⟨hd, hz, t0, h | ⟨h, _⟩ | ⟨h, _⟩⟩, rfl⟩
    · obtain ⟨-, q, t10, HQ⟩ := h
      obtain ⟨u0, u1, u2, u3, u4, u5, u6, u7, u8, u9, u10, u11, u12, u13, u14, u15, u16, u17, u18, u19, u20, u21, u22, u23, u24, u25, u26, u27, u28, u29, u30, u31, u32, u33, u34, u35, u36, u37, u38, u39, u40, u41, u42, u43, u44, u45, u46, u47, u48, u49, u50, u51, u52, u53, u54, u55, u56, u57, u58, rfl⟩ := Scope.lit59 t hz
      obtain rfl : d = [] := hd
      obtain rfl := Option.some.inj t0
      obtain rfl := Option.some.inj t10
      clear hz
      have HV0 : Hid (V = .tuple #[.int .i64 0, .int .i64 0, .iface 55 (.agg #[.int .i64 q])]) := by
        refine Lib.hid ?_
        have h2 := HQ.out.2
        rw [HR.out] at h2
        simp only [Prod.mk.injEq] at h2
        rw [HV.out, if_neg (by rw [h2.2.2]; exact HQ.out.1), h2.2.2]
      clear t0 t10
      go_wp2
      simp only [Scope.jumps]
      go_ret3
      exact ⟨by rw [HV0.out]; rfl, rfl⟩
    · exact absurd h (by decide)
    · exact absurd h (by decide)
  case p1 =>
    rintro ⟨t, d⟩ w' ⟨⟨hd, hz, t0, ⟨h, _⟩ | h | ⟨h, _⟩⟩, rfl⟩
    · exact absurd h (by decide)
    · obtain ⟨-, k, u, hk, hu0, hu1, t1, t7, t9, t10, HQ⟩ := h
      obtain ⟨u0, u1, u2, u3, u4, u5, u6, u7, u8, u9, u10, u11, u12, u13, u14, u15, u16, u17, u18, u19, u20, u21, u22, u23, u24, u25, u26, u27, u28, u29, u30, u31, u32, u33, u34, u35, u36, u37, u38, u39, u40, u41, u42, u43, u44, u45, u46, u47, u48, u49, u50, u51, u52, u53, u54, u55, u56, u57, u58, rfl⟩ := Scope.lit59 t hz
      obtain rfl : d = [] := hd
      obtain rfl := Option.some.inj t0
      obtain rfl := Option.some.inj t1
      obtain rfl := Option.some.inj t7
      obtain rfl := Option.some.inj t9
      obtain rfl := Option.some.inj t10
      clear hz t0 t1 t7 t9 t10
      by_cases hl : a + k < s.size
      · have HD := Lib.hid (drop_cons s (a + k) hl)
        have hb := byte_le s[a + k]
        have HO := Lib.hid (orU_eq u s[a + k] k hk hu0 HQ.out.2)
        have HG := Lib.hid (orU_range u s[a + k] k)
        by_cases hc : s[a + k].toNat < 128
        · have HC := Lib.hid hc
          go_wp2
          go_step3
          refine ⟨⟨⟨rfl, rfl, rfl, .inr (.inr ⟨rfl, k, u, orU u s[a + k] k, s[a + k], hk, HG.out.1, HG.out.2, HC.out, rfl, rfl, rfl, rfl, Lib.hid ⟨hl, ⟨s.data.toList.drop (a + k + 1), ?_⟩, HO.out⟩⟩)⟩, rfl⟩, ?_⟩
          · rw [← HD.out]; exact HQ.out.1
          · show 1 < 12 - ((k : Int)).toNat
            omega
        · by_cases h9 : k = 9
          · have HW : Hid (rd 10 (s.data.toList.drop a) 0 0 a = (0, 0, 3)) := by
              refine Lib.hid ?_
              rw [← HQ.out.1, HD.out]
              subst h9
              exact rd_nine 0 _ _ _ (by omega)
            subst h9
            clear HD HO HG HQ
            have hci : (1 : Int) < ((s[a + 9].toNat : Nat) : Int) := by omega
            have hcj : ¬ ((s[a + 9].toNat : Nat) : Int) < 128 := by omega
            clear hc
            go_wp2
            go_step3
            go_wp2
            go_step3
            refine ⟨⟨⟨rfl, rfl, rfl, .inl ⟨rfl, 3, rfl, Lib.hid ⟨by decide, HW.out⟩⟩⟩, rfl⟩, ?_⟩
            show 0 < 12 - (((9 : Nat) : Int)).toNat
            decide
          · have hcj : ¬ ((s[a + k].toNat : Nat) : Int) < 128 := by omega
            have hk9 : k < 9 := by omega
            have HN : Hid (rd (10 - (k + 1)) (s.data.toList.drop (a + (k + 1))) (k + 1) (orU u s[a + k] k) ((a : Int) + ((k + 1 : Nat) : Int)) = rd 10 (s.data.toList.drop a) 0 0 a ∧ orU u s[a + k] k < 128 ^ (k + 1)) := by
              refine Lib.hid ?_
              rw [HO.out (fun x => h9 x.1)]
              refine ⟨?_, (next_lt k hu0 HQ.out.2).2⟩
              rw [← HQ.out.1, HD.out, show 10 - k = (10 - (k + 1)) + 1 by omega, rd_next _ _ _ _ _ (by omega) h9]
              rw [show (a : Int) + ((k + 1 : Nat) : Int) = (a : Int) + k + 1 by omega]
              rfl
            clear hc h9
            go_wp2
            go_step3
            refine ⟨⟨⟨rfl, rfl, rfl, .inr (.inl ⟨rfl, k + 1, orU u s[a + k] k, by omega, HG.out.1, HG.out.2, ?_, rfl, ?_, rfl, HN⟩)⟩, rfl⟩, ?_⟩
            · rw [show (a : Int) + ((k + 1 : Nat) : Int) = (a : Int) + k + 1 by omega]; rfl
            · rw [show ((k + 1 : Nat) : Int) = (k : Int) + 1 by omega]; rfl
            · show 12 - ((k : Int) + 1).toNat < 12 - ((k : Int)).toNat
              omega
      · have HW : Hid (rd 10 (s.data.toList.drop a) 0 0 a = (0, 0, 4)) := by
          refine Lib.hid ?_
          rw [← HQ.out.1, drop_nil s (a + k) (by omega), show 10 - k = (9 - k) + 1 by omega]
          exact rd_short _ _ _ _
        go_wp2
        go_step3
        refine ⟨⟨⟨rfl, rfl, rfl, .inl ⟨rfl, 4, rfl, Lib.hid ⟨by decide, HW.out⟩⟩⟩, rfl⟩, ?_⟩
        show 0 < 12 - ((k : Int)).toNat
        omega
    · exact absurd h (by decide)
  case p2 =>
    rintro ⟨t, d⟩ w' ⟨⟨hd, hz, t0, ⟨h, _⟩ | ⟨h, _⟩ | h⟩, rfl⟩
    · exact absurd h (by decide)
    · exact absurd h (by decide)
    · obtain ⟨-, k, u, u', b, hk, hu0, hu1, hb, t1, t7, t8, t9, HQ⟩ := h
      obtain ⟨u0, u1, u2, u3, u4, u5, u6, u7, u8, u9, u10, u11, u12, u13, u14, u15, u16, u17, u18, u19, u20, u21, u22, u23, u24, u25, u26, u27, u28, u29, u30, u31, u32, u33, u34, u35, u36, u37, u38, u39, u40, u41, u42, u43, u44, u45, u46, u47, u48, u49, u50, u51, u52, u53, u54, u55, u56, u57, u58, rfl⟩ := Scope.lit59 t hz
      obtain rfl : d = [] := hd
      obtain rfl := Option.some.inj t0
      obtain rfl := Option.some.inj t1
      obtain rfl := Option.some.inj t7
      obtain rfl := Option.some.inj t8
      obtain rfl := Option.some.inj t9
      clear hz t0 t1 t7 t8 t9
      have hal : a + k < 8001 := by have := HQ.out.1; omega
      obtain ⟨l, hl⟩ := HQ.out.2.1
      have HRD := Lib.hid hl
      clear hl
      have hbb := byte_le b
      by_cases h9 : k = 9
      · subst h9
        by_cases hc : 1 < b.toNat
        · have HW : Hid (rd 10 (s.data.toList.drop a) 0 0 a = (0, 0, 3)) := by
            refine Lib.hid ?_
            rw [← HRD.out]
            exact rd_nine 0 _ _ _ hc
          have hci : (1 : Int) < ((b.toNat : Nat) : Int) := by omega
          clear hc
          go_wp2
          go_step3
          exact ⟨⟨⟨rfl, rfl, rfl, .inl ⟨rfl, 3, rfl, Lib.hid ⟨by decide, HW.out⟩⟩⟩, rfl⟩, by show 0 < 1; decide⟩
        · by_cases h0 : b.toNat = 0
          · have HW : Hid (rd 10 (s.data.toList.drop a) 0 0 a = (0, 0, 3)) := by
              refine Lib.hid ?_
              rw [← HRD.out]
              exact rd_zero 0 _ 9 _ _ h0 (by decide)
            have hz : ((b.toNat : Nat) : Int) = 0 := by omega
            clear hc h0
            go_wp2
            go_step3
            exact ⟨⟨⟨rfl, rfl, rfl, .inl ⟨rfl, 3, rfl, Lib.hid ⟨by decide, HW.out⟩⟩⟩, rfl⟩, by show 0 < 1; decide⟩
          · have HW : Hid (V = .tuple #[.int .i64 (val u'), .int .i64 ((a : Int) + 9 + 1), .nilIface]) := by
              refine Lib.hid ?_
              have h3 : rd 10 (s.data.toList.drop a) 0 0 a = (val u', (a : Int) + 9 + 1, 0) := by
                rw [← HRD.out, HQ.out.2.2 (fun x => hc x.2)]
                exact rd_val 0 _ 9 _ _ hb (fun x => h0 x.1) (fun _ => by omega)
              rw [HR.out] at h3
              simp only [Prod.mk.injEq] at h3
              rw [HV.out, if_pos h3.2.2, h3.1, h3.2.1]
            have hz : (((b.toNat : Nat) : Int) == 0) = false := by rw [beq_eq_false_iff_ne]; omega
            have hc1 : ¬ (1 : Int) < ((b.toNat : Nat) : Int) := by omega
            have ha1 := and_one u' hu0 hu1
            have HX := Lib.hid (xor_val u' hu0 hu1)
            clear hc h0
            go_wp2
            simp only [Scope.jumps]
            go_ret3
            exact ⟨by rw [HW.out, ← HX.out]; rfl, rfl⟩
      · have h10 : ((k : Int) + 1 == 10) = false := by rw [beq_eq_false_iff_ne]; omega
        by_cases h0 : b.toNat = 0 ∧ 0 < k
        · have HW : Hid (rd 10 (s.data.toList.drop a) 0 0 a = (0, 0, 3)) := by
            refine Lib.hid ?_
            rw [← HRD.out, show 10 - k = (9 - k) + 1 by omega]
            exact rd_zero _ _ k _ _ h0.1 h0.2
          have hz : ((b.toNat : Nat) : Int) = 0 := by have := h0.1; omega
          have hk0 : (1 : Int) < (k : Int) + 1 := by have := h0.2; omega
          clear h0 h9
          go_wp2
          go_step3
          exact ⟨⟨⟨rfl, rfl, rfl, .inl ⟨rfl, 3, rfl, Lib.hid ⟨by decide, HW.out⟩⟩⟩, rfl⟩, by show 0 < 1; decide⟩
        · have HW : Hid (V = .tuple #[.int .i64 (val u'), .int .i64 ((a : Int) + k + 1), .nilIface]) := by
            refine Lib.hid ?_
            have h3 : rd 10 (s.data.toList.drop a) 0 0 a = (val u', (a : Int) + k + 1, 0) := by
              rw [← HRD.out, HQ.out.2.2 (fun x => h9 x.1), show 10 - k = (9 - k) + 1 by omega]
              exact rd_val _ _ k _ _ hb h0 (fun x => absurd x h9)
            rw [HR.out] at h3
            simp only [Prod.mk.injEq] at h3
            rw [HV.out, if_pos h3.2.2, h3.1, h3.2.1]
          have ha1 := and_one u' hu0 hu1
          have HX := Lib.hid (xor_val u' hu0 hu1)
          have HH := Lib.hid h0
          clear h0 h9
          by_cases hk0 : 0 < k
          · have hz : (((b.toNat : Nat) : Int) == 0) = false := by
              rw [beq_eq_false_iff_ne]
              have := HH.out
              omega
            have hk1 : (1 : Int) < (k : Int) + 1 := by omega
            go_wp2
            simp only [Scope.jumps]
            go_ret3
            exact ⟨by rw [HW.out, ← HX.out]; rfl, rfl⟩
          · have hk1 : ¬ (1 : Int) < (k : Int) + 1 := by omega
            clear hk0
            go_wp2
            simp only [Scope.jumps]
            go_ret3
            exact ⟨by rw [HW.out, ← HX.out]; rfl, rfl⟩
end Go.Proofs.YtbdmildlcgecjaaDoor.Gn
