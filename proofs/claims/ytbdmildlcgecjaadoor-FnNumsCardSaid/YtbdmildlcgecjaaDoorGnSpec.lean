/-
  The Go function spec.GetNum answers what the plain function gn tells, for every string and every place.
  No condition beside the form's own bound on a string's length.
-/
import Derived.Test.YtbdmildlcgecjaaDoorRd
namespace Go.Proofs.YtbdmildlcgecjaaDoor.Gn
open Go.ChangeShapes Go.WideShapes Go.ChangeAt Go.RowKit
set_option linter.unusedVariables false

set_option maxRecDepth 100000 in
set_option maxHeartbeats 8000000 in
theorem specGetNum_at (s : ByteArray) (a : Nat) (w : World) (h1 : ¬ 8000 < s.size) (ha : a ≤ 9223372036854775807) :
    Calls Tryd.prog 14 #[.string s, .int .i64 a] w fun e w' => e = .returned (gnV s a) ∧ Below w.heap.size w w' := by
  go_enter Tryd.func14, Tryd.ntmps14
  go_wp2
  go_loop [5, 6] (fun x i => ∃ k : Nat, k ≤ 9 ∧ i = .int .i64 k ∧ ∃ u : Int, 0 ≤ u ∧ u < 18446744073709551616 ∧ x = .int .u64 u ∧ Hid (rd (10 - k) (s.data.toList.drop (a + k)) k u ((a : Int) + k) = rd 10 (s.data.toList.drop a) 0 0 a ∧ u < 128 ^ k)) (fun _ i => 10 - (intOf i).toNat)
  case atStart => exact ⟨0, by omega, rfl, 0, by omega, by omega, rfl, Lib.hid ⟨by simp, by decide⟩⟩
  case round =>
    obtain ⟨k, hk, rfl, u, hu0, hu1, rfl, HR⟩ := hrel
    rcases (by omega : k = 0 ∨ k = 1 ∨ k = 2 ∨ k = 3 ∨ k = 4 ∨ k = 5 ∨ k = 6 ∨ k = 7 ∨ k = 8 ∨ k = 9) with rfl | rfl | rfl | rfl | rfl | rfl | rfl | rfl | rfl | rfl
    · -- k = 0
      have HR0 : Hid (rd 10 (s.data.toList.drop (a)) 0 u ((a : Int)) = rd 10 (s.data.toList.drop a) 0 0 a) := by have h := HR.out.1; rw [show ((a : Int) + ((0 : Nat) : Int)) = (a : Int) by omega] at h; exact Lib.hid h
      have hu2 : u < 1 := by have := HR.out.2; simpa using this
      clear HR
      by_cases hl : a < s.size
      · have hb := byte_le s[a]
        by_cases hc : s[a].toNat < 128
        · have h0 : ¬ (s[a].toNat = 0 ∧ 0 < 0) := by omega
          by_cases hzc : s[a].toNat = 0
          · have hzb : (((s[a].toNat : Nat) : Int) == 0) = true := by rw [beq_iff_eq]; omega
            have HZ := Lib.hid hzc
            clear hzc
            by_cases hpar : (u + ((s[a].toNat : Nat) : Int) % 128) % 2 = 1
            · have HF : Hid (gnV s a = .agg #[.int .i64 (-((u + ((s[a].toNat : Nat) : Int) % 128) / 2) - 1), .int .i64 ((a : Int) + 1), .int .i64 0]) := by
                refine Lib.hid (gn_rd h1 (HR0.out.symm.trans ?_))
                rw [drop_cons s (a) hl, rd_val 9 _ 0 _ _ hc h0 (by omega), show (128 : Int) ^ 0 = 1 by decide, Int.mul_one, val_odd hpar]
              have hb2 : ((u + ((s[a].toNat : Nat) : Int) % 128) % 2 == 1) = true := by rw [beq_iff_eq]; exact hpar
              have HP := Lib.hid hpar
              clear hpar
              go_wp2
              exact bodyPost_ret (v := .agg #[.int .i64 (-((u + ((s[a].toNat : Nat) : Int) % 128) / 2) - 1), .int .i64 ((a : Int) + 1), .int .i64 0]) (by simp [results, Tryd.results14, go_sem]) rfl ⟨by rw [HF.out], (Below.refl _ _).alloc (Nat.le_refl _) _⟩
            · have HF : Hid (gnV s a = .agg #[.int .i64 ((u + ((s[a].toNat : Nat) : Int) % 128) / 2), .int .i64 ((a : Int) + 1), .int .i64 0]) := by
                refine Lib.hid (gn_rd h1 (HR0.out.symm.trans ?_))
                rw [drop_cons s (a) hl, rd_val 9 _ 0 _ _ hc h0 (by omega), show (128 : Int) ^ 0 = 1 by decide, Int.mul_one, val_even hpar]
              have hb2 : ((u + ((s[a].toNat : Nat) : Int) % 128) % 2 == 1) = false := by rw [beq_eq_false_iff_ne]; exact hpar
              have HP := Lib.hid hpar
              clear hpar
              go_wp2
              exact bodyPost_ret (v := .agg #[.int .i64 ((u + ((s[a].toNat : Nat) : Int) % 128) / 2), .int .i64 ((a : Int) + 1), .int .i64 0]) (by simp [results, Tryd.results14, go_sem]) rfl ⟨by rw [HF.out], (Below.refl _ _).alloc (Nat.le_refl _) _⟩
          · have hzb : (((s[a].toNat : Nat) : Int) == 0) = false := by rw [beq_eq_false_iff_ne]; omega
            have HZ := Lib.hid hzc
            clear hzc
            by_cases hpar : (u + ((s[a].toNat : Nat) : Int) % 128) % 2 = 1
            · have HF : Hid (gnV s a = .agg #[.int .i64 (-((u + ((s[a].toNat : Nat) : Int) % 128) / 2) - 1), .int .i64 ((a : Int) + 1), .int .i64 0]) := by
                refine Lib.hid (gn_rd h1 (HR0.out.symm.trans ?_))
                rw [drop_cons s (a) hl, rd_val 9 _ 0 _ _ hc h0 (by omega), show (128 : Int) ^ 0 = 1 by decide, Int.mul_one, val_odd hpar]
              have hb2 : ((u + ((s[a].toNat : Nat) : Int) % 128) % 2 == 1) = true := by rw [beq_iff_eq]; exact hpar
              have HP := Lib.hid hpar
              clear hpar
              go_wp2
              exact bodyPost_ret (v := .agg #[.int .i64 (-((u + ((s[a].toNat : Nat) : Int) % 128) / 2) - 1), .int .i64 ((a : Int) + 1), .int .i64 0]) (by simp [results, Tryd.results14, go_sem]) rfl ⟨by rw [HF.out], (Below.refl _ _).alloc (Nat.le_refl _) _⟩
            · have HF : Hid (gnV s a = .agg #[.int .i64 ((u + ((s[a].toNat : Nat) : Int) % 128) / 2), .int .i64 ((a : Int) + 1), .int .i64 0]) := by
                refine Lib.hid (gn_rd h1 (HR0.out.symm.trans ?_))
                rw [drop_cons s (a) hl, rd_val 9 _ 0 _ _ hc h0 (by omega), show (128 : Int) ^ 0 = 1 by decide, Int.mul_one, val_even hpar]
              have hb2 : ((u + ((s[a].toNat : Nat) : Int) % 128) % 2 == 1) = false := by rw [beq_eq_false_iff_ne]; exact hpar
              have HP := Lib.hid hpar
              clear hpar
              go_wp2
              exact bodyPost_ret (v := .agg #[.int .i64 ((u + ((s[a].toNat : Nat) : Int) % 128) / 2), .int .i64 ((a : Int) + 1), .int .i64 0]) (by simp [results, Tryd.results14, go_sem]) rfl ⟨by rw [HF.out], (Below.refl _ _).alloc (Nat.le_refl _) _⟩
        · have HN : Hid (rd 9 (s.data.toList.drop (a + 1)) 1 (u + ((s[a].toNat : Nat) : Int) % 128) ((a : Int) + 1) = rd 10 (s.data.toList.drop a) 0 0 a) := by
            refine Lib.hid (Eq.trans ?_ HR0.out)
            rw [drop_cons s (a) hl, rd_next 9 _ 0 _ _ (by omega) (by decide), show (128 : Int) ^ 0 = 1 by decide]
            rw [Int.mul_one]
          have HL : Hid (0 ≤ u + ((s[a].toNat : Nat) : Int) % 128 ∧ u + ((s[a].toNat : Nat) : Int) % 128 < 128 ^ (0 + 1)) := by exact Lib.hid (by omega)
          go_wp2
          go_round
          case rel => exact ⟨1, by omega, rfl, _, HL.out.1, by have := HL.out.2; omega, rfl, Lib.hid ⟨HN.out, HL.out.2⟩⟩
          case measure => simp [intOf]
      · have HF : Hid (gnV s a = .agg #[.int .i64 0, .int .i64 0, .int .i64 4]) := by
          refine Lib.hid (gn_rd h1 (HR0.out.symm.trans ?_))
          rw [drop_nil s (a) (by omega), rd_short]
        have hl2 : (s.size : Int) - 0 ≤ a := by omega
        go_wp2
        exact bodyPost_ret (v := .agg #[.int .i64 (0), .int .i64 (0), .int .i64 4]) (by simp [results, Tryd.results14, go_sem]) rfl ⟨by rw [HF.out], (Below.refl _ _).alloc (Nat.le_refl _) _⟩
    · -- k = 1
      have HR0 : Hid (rd 9 (s.data.toList.drop (a + 1)) 1 u ((a : Int) + 1) = rd 10 (s.data.toList.drop a) 0 0 a) := by exact Lib.hid HR.out.1
      have hu2 : u < 128 := by have := HR.out.2; simpa using this
      clear HR
      by_cases hl : a + 1 < s.size
      · have hb := byte_le s[a + 1]
        by_cases hc : s[a + 1].toNat < 128
        · by_cases h0 : s[a + 1].toNat = 0 ∧ 0 < 1
          · have HF : Hid (gnV s a = .agg #[.int .i64 0, .int .i64 0, .int .i64 3]) := by
              refine Lib.hid (gn_rd h1 (HR0.out.symm.trans ?_))
              rw [drop_cons s (a + 1) hl, rd_zero 8 _ 1 _ _ h0.1 (by decide)]
            have hz : ((s[a + 1].toNat : Nat) : Int) = 0 := by have := h0.1; omega
            have hzb : (((s[a + 1].toNat : Nat) : Int) == 0) = true := by rw [beq_iff_eq]; exact hz
            have HZ := Lib.hid hz
            clear hz h0 hc
            have hci : ((s[a + 1].toNat : Nat) : Int) < 128 := by rw [HZ.out]; decide
            go_wp2
            exact bodyPost_ret (v := .agg #[.int .i64 (0), .int .i64 (0), .int .i64 3]) (by simp [results, Tryd.results14, go_sem]) rfl ⟨by rw [HF.out], (Below.refl _ _).alloc (Nat.le_refl _) _⟩
          · have hzb : (((s[a + 1].toNat : Nat) : Int) == 0) = false := by
              rw [beq_eq_false_iff_ne]; intro x; exact h0 ⟨by omega, by decide⟩
            by_cases hpar : (u + ((s[a + 1].toNat : Nat) : Int) % 128 * 128) % 2 = 1
            · have HF : Hid (gnV s a = .agg #[.int .i64 (-((u + ((s[a + 1].toNat : Nat) : Int) % 128 * 128) / 2) - 1), .int .i64 ((a : Int) + 1 + 1), .int .i64 0]) := by
                refine Lib.hid (gn_rd h1 (HR0.out.symm.trans ?_))
                rw [drop_cons s (a + 1) hl, rd_val 8 _ 1 _ _ hc h0 (by omega), show (128 : Int) ^ 1 = 128 by decide, val_odd hpar]
              have hb2 : ((u + ((s[a + 1].toNat : Nat) : Int) % 128 * 128) % 2 == 1) = true := by rw [beq_iff_eq]; exact hpar
              have HP := Lib.hid hpar
              clear hpar
              go_wp2
              exact bodyPost_ret (v := .agg #[.int .i64 (-((u + ((s[a + 1].toNat : Nat) : Int) % 128 * 128) / 2) - 1), .int .i64 ((a : Int) + 1 + 1), .int .i64 0]) (by simp [results, Tryd.results14, go_sem]) rfl ⟨by rw [HF.out], (Below.refl _ _).alloc (Nat.le_refl _) _⟩
            · have HF : Hid (gnV s a = .agg #[.int .i64 ((u + ((s[a + 1].toNat : Nat) : Int) % 128 * 128) / 2), .int .i64 ((a : Int) + 1 + 1), .int .i64 0]) := by
                refine Lib.hid (gn_rd h1 (HR0.out.symm.trans ?_))
                rw [drop_cons s (a + 1) hl, rd_val 8 _ 1 _ _ hc h0 (by omega), show (128 : Int) ^ 1 = 128 by decide, val_even hpar]
              have hb2 : ((u + ((s[a + 1].toNat : Nat) : Int) % 128 * 128) % 2 == 1) = false := by rw [beq_eq_false_iff_ne]; exact hpar
              have HP := Lib.hid hpar
              clear hpar
              go_wp2
              exact bodyPost_ret (v := .agg #[.int .i64 ((u + ((s[a + 1].toNat : Nat) : Int) % 128 * 128) / 2), .int .i64 ((a : Int) + 1 + 1), .int .i64 0]) (by simp [results, Tryd.results14, go_sem]) rfl ⟨by rw [HF.out], (Below.refl _ _).alloc (Nat.le_refl _) _⟩
        · have HN : Hid (rd 8 (s.data.toList.drop (a + 2)) 2 (u + ((s[a + 1].toNat : Nat) : Int) % 128 * 128) ((a : Int) + 2) = rd 10 (s.data.toList.drop a) 0 0 a) := by
            refine Lib.hid (Eq.trans ?_ HR0.out)
            rw [drop_cons s (a + 1) hl, rd_next 8 _ 1 _ _ (by omega) (by decide), show (128 : Int) ^ 1 = 128 by decide]
            rw [Int.add_assoc]; rfl
          have HL : Hid (0 ≤ u + ((s[a + 1].toNat : Nat) : Int) % 128 * 128 ∧ u + ((s[a + 1].toNat : Nat) : Int) % 128 * 128 < 128 ^ (1 + 1)) := by exact Lib.hid (by omega)
          go_wp2
          go_round
          case rel => exact ⟨2, by omega, rfl, _, HL.out.1, by have := HL.out.2; omega, rfl, Lib.hid ⟨HN.out, HL.out.2⟩⟩
          case measure => simp [intOf]
      · have HF : Hid (gnV s a = .agg #[.int .i64 0, .int .i64 0, .int .i64 4]) := by
          refine Lib.hid (gn_rd h1 (HR0.out.symm.trans ?_))
          rw [drop_nil s (a + 1) (by omega), rd_short]
        have hl2 : (s.size : Int) - 1 ≤ a := by omega
        go_wp2
        exact bodyPost_ret (v := .agg #[.int .i64 (0), .int .i64 (0), .int .i64 4]) (by simp [results, Tryd.results14, go_sem]) rfl ⟨by rw [HF.out], (Below.refl _ _).alloc (Nat.le_refl _) _⟩
    · -- k = 2
      have HR0 : Hid (rd 8 (s.data.toList.drop (a + 2)) 2 u ((a : Int) + 2) = rd 10 (s.data.toList.drop a) 0 0 a) := by exact Lib.hid HR.out.1
      have hu2 : u < 16384 := by have := HR.out.2; simpa using this
      clear HR
      by_cases hl : a + 2 < s.size
      · have hb := byte_le s[a + 2]
        by_cases hc : s[a + 2].toNat < 128
        · by_cases h0 : s[a + 2].toNat = 0 ∧ 0 < 2
          · have HF : Hid (gnV s a = .agg #[.int .i64 0, .int .i64 0, .int .i64 3]) := by
              refine Lib.hid (gn_rd h1 (HR0.out.symm.trans ?_))
              rw [drop_cons s (a + 2) hl, rd_zero 7 _ 2 _ _ h0.1 (by decide)]
            have hz : ((s[a + 2].toNat : Nat) : Int) = 0 := by have := h0.1; omega
            have hzb : (((s[a + 2].toNat : Nat) : Int) == 0) = true := by rw [beq_iff_eq]; exact hz
            have HZ := Lib.hid hz
            clear hz h0 hc
            have hci : ((s[a + 2].toNat : Nat) : Int) < 128 := by rw [HZ.out]; decide
            go_wp2
            exact bodyPost_ret (v := .agg #[.int .i64 (0), .int .i64 (0), .int .i64 3]) (by simp [results, Tryd.results14, go_sem]) rfl ⟨by rw [HF.out], (Below.refl _ _).alloc (Nat.le_refl _) _⟩
          · have hzb : (((s[a + 2].toNat : Nat) : Int) == 0) = false := by
              rw [beq_eq_false_iff_ne]; intro x; exact h0 ⟨by omega, by decide⟩
            by_cases hpar : (u + ((s[a + 2].toNat : Nat) : Int) % 128 * 16384) % 2 = 1
            · have HF : Hid (gnV s a = .agg #[.int .i64 (-((u + ((s[a + 2].toNat : Nat) : Int) % 128 * 16384) / 2) - 1), .int .i64 ((a : Int) + 2 + 1), .int .i64 0]) := by
                refine Lib.hid (gn_rd h1 (HR0.out.symm.trans ?_))
                rw [drop_cons s (a + 2) hl, rd_val 7 _ 2 _ _ hc h0 (by omega), show (128 : Int) ^ 2 = 16384 by decide, val_odd hpar]
              have hb2 : ((u + ((s[a + 2].toNat : Nat) : Int) % 128 * 16384) % 2 == 1) = true := by rw [beq_iff_eq]; exact hpar
              have HP := Lib.hid hpar
              clear hpar
              go_wp2
              exact bodyPost_ret (v := .agg #[.int .i64 (-((u + ((s[a + 2].toNat : Nat) : Int) % 128 * 16384) / 2) - 1), .int .i64 ((a : Int) + 2 + 1), .int .i64 0]) (by simp [results, Tryd.results14, go_sem]) rfl ⟨by rw [HF.out], (Below.refl _ _).alloc (Nat.le_refl _) _⟩
            · have HF : Hid (gnV s a = .agg #[.int .i64 ((u + ((s[a + 2].toNat : Nat) : Int) % 128 * 16384) / 2), .int .i64 ((a : Int) + 2 + 1), .int .i64 0]) := by
                refine Lib.hid (gn_rd h1 (HR0.out.symm.trans ?_))
                rw [drop_cons s (a + 2) hl, rd_val 7 _ 2 _ _ hc h0 (by omega), show (128 : Int) ^ 2 = 16384 by decide, val_even hpar]
              have hb2 : ((u + ((s[a + 2].toNat : Nat) : Int) % 128 * 16384) % 2 == 1) = false := by rw [beq_eq_false_iff_ne]; exact hpar
              have HP := Lib.hid hpar
              clear hpar
              go_wp2
              exact bodyPost_ret (v := .agg #[.int .i64 ((u + ((s[a + 2].toNat : Nat) : Int) % 128 * 16384) / 2), .int .i64 ((a : Int) + 2 + 1), .int .i64 0]) (by simp [results, Tryd.results14, go_sem]) rfl ⟨by rw [HF.out], (Below.refl _ _).alloc (Nat.le_refl _) _⟩
        · have HN : Hid (rd 7 (s.data.toList.drop (a + 3)) 3 (u + ((s[a + 2].toNat : Nat) : Int) % 128 * 16384) ((a : Int) + 3) = rd 10 (s.data.toList.drop a) 0 0 a) := by
            refine Lib.hid (Eq.trans ?_ HR0.out)
            rw [drop_cons s (a + 2) hl, rd_next 7 _ 2 _ _ (by omega) (by decide), show (128 : Int) ^ 2 = 16384 by decide]
            rw [Int.add_assoc]; rfl
          have HL : Hid (0 ≤ u + ((s[a + 2].toNat : Nat) : Int) % 128 * 16384 ∧ u + ((s[a + 2].toNat : Nat) : Int) % 128 * 16384 < 128 ^ (2 + 1)) := by exact Lib.hid (by omega)
          go_wp2
          go_round
          case rel => exact ⟨3, by omega, rfl, _, HL.out.1, by have := HL.out.2; omega, rfl, Lib.hid ⟨HN.out, HL.out.2⟩⟩
          case measure => simp [intOf]
      · have HF : Hid (gnV s a = .agg #[.int .i64 0, .int .i64 0, .int .i64 4]) := by
          refine Lib.hid (gn_rd h1 (HR0.out.symm.trans ?_))
          rw [drop_nil s (a + 2) (by omega), rd_short]
        have hl2 : (s.size : Int) - 2 ≤ a := by omega
        go_wp2
        exact bodyPost_ret (v := .agg #[.int .i64 (0), .int .i64 (0), .int .i64 4]) (by simp [results, Tryd.results14, go_sem]) rfl ⟨by rw [HF.out], (Below.refl _ _).alloc (Nat.le_refl _) _⟩
    · -- k = 3
      have HR0 : Hid (rd 7 (s.data.toList.drop (a + 3)) 3 u ((a : Int) + 3) = rd 10 (s.data.toList.drop a) 0 0 a) := by exact Lib.hid HR.out.1
      have hu2 : u < 2097152 := by have := HR.out.2; simpa using this
      clear HR
      by_cases hl : a + 3 < s.size
      · have hb := byte_le s[a + 3]
        by_cases hc : s[a + 3].toNat < 128
        · by_cases h0 : s[a + 3].toNat = 0 ∧ 0 < 3
          · have HF : Hid (gnV s a = .agg #[.int .i64 0, .int .i64 0, .int .i64 3]) := by
              refine Lib.hid (gn_rd h1 (HR0.out.symm.trans ?_))
              rw [drop_cons s (a + 3) hl, rd_zero 6 _ 3 _ _ h0.1 (by decide)]
            have hz : ((s[a + 3].toNat : Nat) : Int) = 0 := by have := h0.1; omega
            have hzb : (((s[a + 3].toNat : Nat) : Int) == 0) = true := by rw [beq_iff_eq]; exact hz
            have HZ := Lib.hid hz
            clear hz h0 hc
            have hci : ((s[a + 3].toNat : Nat) : Int) < 128 := by rw [HZ.out]; decide
            go_wp2
            exact bodyPost_ret (v := .agg #[.int .i64 (0), .int .i64 (0), .int .i64 3]) (by simp [results, Tryd.results14, go_sem]) rfl ⟨by rw [HF.out], (Below.refl _ _).alloc (Nat.le_refl _) _⟩
          · have hzb : (((s[a + 3].toNat : Nat) : Int) == 0) = false := by
              rw [beq_eq_false_iff_ne]; intro x; exact h0 ⟨by omega, by decide⟩
            by_cases hpar : (u + ((s[a + 3].toNat : Nat) : Int) % 128 * 2097152) % 2 = 1
            · have HF : Hid (gnV s a = .agg #[.int .i64 (-((u + ((s[a + 3].toNat : Nat) : Int) % 128 * 2097152) / 2) - 1), .int .i64 ((a : Int) + 3 + 1), .int .i64 0]) := by
                refine Lib.hid (gn_rd h1 (HR0.out.symm.trans ?_))
                rw [drop_cons s (a + 3) hl, rd_val 6 _ 3 _ _ hc h0 (by omega), show (128 : Int) ^ 3 = 2097152 by decide, val_odd hpar]
              have hb2 : ((u + ((s[a + 3].toNat : Nat) : Int) % 128 * 2097152) % 2 == 1) = true := by rw [beq_iff_eq]; exact hpar
              have HP := Lib.hid hpar
              clear hpar
              go_wp2
              exact bodyPost_ret (v := .agg #[.int .i64 (-((u + ((s[a + 3].toNat : Nat) : Int) % 128 * 2097152) / 2) - 1), .int .i64 ((a : Int) + 3 + 1), .int .i64 0]) (by simp [results, Tryd.results14, go_sem]) rfl ⟨by rw [HF.out], (Below.refl _ _).alloc (Nat.le_refl _) _⟩
            · have HF : Hid (gnV s a = .agg #[.int .i64 ((u + ((s[a + 3].toNat : Nat) : Int) % 128 * 2097152) / 2), .int .i64 ((a : Int) + 3 + 1), .int .i64 0]) := by
                refine Lib.hid (gn_rd h1 (HR0.out.symm.trans ?_))
                rw [drop_cons s (a + 3) hl, rd_val 6 _ 3 _ _ hc h0 (by omega), show (128 : Int) ^ 3 = 2097152 by decide, val_even hpar]
              have hb2 : ((u + ((s[a + 3].toNat : Nat) : Int) % 128 * 2097152) % 2 == 1) = false := by rw [beq_eq_false_iff_ne]; exact hpar
              have HP := Lib.hid hpar
              clear hpar
              go_wp2
              exact bodyPost_ret (v := .agg #[.int .i64 ((u + ((s[a + 3].toNat : Nat) : Int) % 128 * 2097152) / 2), .int .i64 ((a : Int) + 3 + 1), .int .i64 0]) (by simp [results, Tryd.results14, go_sem]) rfl ⟨by rw [HF.out], (Below.refl _ _).alloc (Nat.le_refl _) _⟩
        · have HN : Hid (rd 6 (s.data.toList.drop (a + 4)) 4 (u + ((s[a + 3].toNat : Nat) : Int) % 128 * 2097152) ((a : Int) + 4) = rd 10 (s.data.toList.drop a) 0 0 a) := by
            refine Lib.hid (Eq.trans ?_ HR0.out)
            rw [drop_cons s (a + 3) hl, rd_next 6 _ 3 _ _ (by omega) (by decide), show (128 : Int) ^ 3 = 2097152 by decide]
            rw [Int.add_assoc]; rfl
          have HL : Hid (0 ≤ u + ((s[a + 3].toNat : Nat) : Int) % 128 * 2097152 ∧ u + ((s[a + 3].toNat : Nat) : Int) % 128 * 2097152 < 128 ^ (3 + 1)) := by exact Lib.hid (by omega)
          go_wp2
          go_round
          case rel => exact ⟨4, by omega, rfl, _, HL.out.1, by have := HL.out.2; omega, rfl, Lib.hid ⟨HN.out, HL.out.2⟩⟩
          case measure => simp [intOf]
      · have HF : Hid (gnV s a = .agg #[.int .i64 0, .int .i64 0, .int .i64 4]) := by
          refine Lib.hid (gn_rd h1 (HR0.out.symm.trans ?_))
          rw [drop_nil s (a + 3) (by omega), rd_short]
        have hl2 : (s.size : Int) - 3 ≤ a := by omega
        go_wp2
        exact bodyPost_ret (v := .agg #[.int .i64 (0), .int .i64 (0), .int .i64 4]) (by simp [results, Tryd.results14, go_sem]) rfl ⟨by rw [HF.out], (Below.refl _ _).alloc (Nat.le_refl _) _⟩
    · -- k = 4
      have HR0 : Hid (rd 6 (s.data.toList.drop (a + 4)) 4 u ((a : Int) + 4) = rd 10 (s.data.toList.drop a) 0 0 a) := by exact Lib.hid HR.out.1
      have hu2 : u < 268435456 := by have := HR.out.2; simpa using this
      clear HR
      by_cases hl : a + 4 < s.size
      · have hb := byte_le s[a + 4]
        by_cases hc : s[a + 4].toNat < 128
        · by_cases h0 : s[a + 4].toNat = 0 ∧ 0 < 4
          · have HF : Hid (gnV s a = .agg #[.int .i64 0, .int .i64 0, .int .i64 3]) := by
              refine Lib.hid (gn_rd h1 (HR0.out.symm.trans ?_))
              rw [drop_cons s (a + 4) hl, rd_zero 5 _ 4 _ _ h0.1 (by decide)]
            have hz : ((s[a + 4].toNat : Nat) : Int) = 0 := by have := h0.1; omega
            have hzb : (((s[a + 4].toNat : Nat) : Int) == 0) = true := by rw [beq_iff_eq]; exact hz
            have HZ := Lib.hid hz
            clear hz h0 hc
            have hci : ((s[a + 4].toNat : Nat) : Int) < 128 := by rw [HZ.out]; decide
            go_wp2
            exact bodyPost_ret (v := .agg #[.int .i64 (0), .int .i64 (0), .int .i64 3]) (by simp [results, Tryd.results14, go_sem]) rfl ⟨by rw [HF.out], (Below.refl _ _).alloc (Nat.le_refl _) _⟩
          · have hzb : (((s[a + 4].toNat : Nat) : Int) == 0) = false := by
              rw [beq_eq_false_iff_ne]; intro x; exact h0 ⟨by omega, by decide⟩
            by_cases hpar : (u + ((s[a + 4].toNat : Nat) : Int) % 128 * 268435456) % 2 = 1
            · have HF : Hid (gnV s a = .agg #[.int .i64 (-((u + ((s[a + 4].toNat : Nat) : Int) % 128 * 268435456) / 2) - 1), .int .i64 ((a : Int) + 4 + 1), .int .i64 0]) := by
                refine Lib.hid (gn_rd h1 (HR0.out.symm.trans ?_))
                rw [drop_cons s (a + 4) hl, rd_val 5 _ 4 _ _ hc h0 (by omega), show (128 : Int) ^ 4 = 268435456 by decide, val_odd hpar]
              have hb2 : ((u + ((s[a + 4].toNat : Nat) : Int) % 128 * 268435456) % 2 == 1) = true := by rw [beq_iff_eq]; exact hpar
              have HP := Lib.hid hpar
              clear hpar
              go_wp2
              exact bodyPost_ret (v := .agg #[.int .i64 (-((u + ((s[a + 4].toNat : Nat) : Int) % 128 * 268435456) / 2) - 1), .int .i64 ((a : Int) + 4 + 1), .int .i64 0]) (by simp [results, Tryd.results14, go_sem]) rfl ⟨by rw [HF.out], (Below.refl _ _).alloc (Nat.le_refl _) _⟩
            · have HF : Hid (gnV s a = .agg #[.int .i64 ((u + ((s[a + 4].toNat : Nat) : Int) % 128 * 268435456) / 2), .int .i64 ((a : Int) + 4 + 1), .int .i64 0]) := by
                refine Lib.hid (gn_rd h1 (HR0.out.symm.trans ?_))
                rw [drop_cons s (a + 4) hl, rd_val 5 _ 4 _ _ hc h0 (by omega), show (128 : Int) ^ 4 = 268435456 by decide, val_even hpar]
              have hb2 : ((u + ((s[a + 4].toNat : Nat) : Int) % 128 * 268435456) % 2 == 1) = false := by rw [beq_eq_false_iff_ne]; exact hpar
              have HP := Lib.hid hpar
              clear hpar
              go_wp2
              exact bodyPost_ret (v := .agg #[.int .i64 ((u + ((s[a + 4].toNat : Nat) : Int) % 128 * 268435456) / 2), .int .i64 ((a : Int) + 4 + 1), .int .i64 0]) (by simp [results, Tryd.results14, go_sem]) rfl ⟨by rw [HF.out], (Below.refl _ _).alloc (Nat.le_refl _) _⟩
        · have HN : Hid (rd 5 (s.data.toList.drop (a + 5)) 5 (u + ((s[a + 4].toNat : Nat) : Int) % 128 * 268435456) ((a : Int) + 5) = rd 10 (s.data.toList.drop a) 0 0 a) := by
            refine Lib.hid (Eq.trans ?_ HR0.out)
            rw [drop_cons s (a + 4) hl, rd_next 5 _ 4 _ _ (by omega) (by decide), show (128 : Int) ^ 4 = 268435456 by decide]
            rw [Int.add_assoc]; rfl
          have HL : Hid (0 ≤ u + ((s[a + 4].toNat : Nat) : Int) % 128 * 268435456 ∧ u + ((s[a + 4].toNat : Nat) : Int) % 128 * 268435456 < 128 ^ (4 + 1)) := by exact Lib.hid (by omega)
          go_wp2
          go_round
          case rel => exact ⟨5, by omega, rfl, _, HL.out.1, by have := HL.out.2; omega, rfl, Lib.hid ⟨HN.out, HL.out.2⟩⟩
          case measure => simp [intOf]
      · have HF : Hid (gnV s a = .agg #[.int .i64 0, .int .i64 0, .int .i64 4]) := by
          refine Lib.hid (gn_rd h1 (HR0.out.symm.trans ?_))
          rw [drop_nil s (a + 4) (by omega), rd_short]
        have hl2 : (s.size : Int) - 4 ≤ a := by omega
        go_wp2
        exact bodyPost_ret (v := .agg #[.int .i64 (0), .int .i64 (0), .int .i64 4]) (by simp [results, Tryd.results14, go_sem]) rfl ⟨by rw [HF.out], (Below.refl _ _).alloc (Nat.le_refl _) _⟩
    · -- k = 5
      have HR0 : Hid (rd 5 (s.data.toList.drop (a + 5)) 5 u ((a : Int) + 5) = rd 10 (s.data.toList.drop a) 0 0 a) := by exact Lib.hid HR.out.1
      have hu2 : u < 34359738368 := by have := HR.out.2; simpa using this
      clear HR
      by_cases hl : a + 5 < s.size
      · have hb := byte_le s[a + 5]
        by_cases hc : s[a + 5].toNat < 128
        · by_cases h0 : s[a + 5].toNat = 0 ∧ 0 < 5
          · have HF : Hid (gnV s a = .agg #[.int .i64 0, .int .i64 0, .int .i64 3]) := by
              refine Lib.hid (gn_rd h1 (HR0.out.symm.trans ?_))
              rw [drop_cons s (a + 5) hl, rd_zero 4 _ 5 _ _ h0.1 (by decide)]
            have hz : ((s[a + 5].toNat : Nat) : Int) = 0 := by have := h0.1; omega
            have hzb : (((s[a + 5].toNat : Nat) : Int) == 0) = true := by rw [beq_iff_eq]; exact hz
            have HZ := Lib.hid hz
            clear hz h0 hc
            have hci : ((s[a + 5].toNat : Nat) : Int) < 128 := by rw [HZ.out]; decide
            go_wp2
            exact bodyPost_ret (v := .agg #[.int .i64 (0), .int .i64 (0), .int .i64 3]) (by simp [results, Tryd.results14, go_sem]) rfl ⟨by rw [HF.out], (Below.refl _ _).alloc (Nat.le_refl _) _⟩
          · have hzb : (((s[a + 5].toNat : Nat) : Int) == 0) = false := by
              rw [beq_eq_false_iff_ne]; intro x; exact h0 ⟨by omega, by decide⟩
            by_cases hpar : (u + ((s[a + 5].toNat : Nat) : Int) % 128 * 34359738368) % 2 = 1
            · have HF : Hid (gnV s a = .agg #[.int .i64 (-((u + ((s[a + 5].toNat : Nat) : Int) % 128 * 34359738368) / 2) - 1), .int .i64 ((a : Int) + 5 + 1), .int .i64 0]) := by
                refine Lib.hid (gn_rd h1 (HR0.out.symm.trans ?_))
                rw [drop_cons s (a + 5) hl, rd_val 4 _ 5 _ _ hc h0 (by omega), show (128 : Int) ^ 5 = 34359738368 by decide, val_odd hpar]
              have hb2 : ((u + ((s[a + 5].toNat : Nat) : Int) % 128 * 34359738368) % 2 == 1) = true := by rw [beq_iff_eq]; exact hpar
              have HP := Lib.hid hpar
              clear hpar
              go_wp2
              exact bodyPost_ret (v := .agg #[.int .i64 (-((u + ((s[a + 5].toNat : Nat) : Int) % 128 * 34359738368) / 2) - 1), .int .i64 ((a : Int) + 5 + 1), .int .i64 0]) (by simp [results, Tryd.results14, go_sem]) rfl ⟨by rw [HF.out], (Below.refl _ _).alloc (Nat.le_refl _) _⟩
            · have HF : Hid (gnV s a = .agg #[.int .i64 ((u + ((s[a + 5].toNat : Nat) : Int) % 128 * 34359738368) / 2), .int .i64 ((a : Int) + 5 + 1), .int .i64 0]) := by
                refine Lib.hid (gn_rd h1 (HR0.out.symm.trans ?_))
                rw [drop_cons s (a + 5) hl, rd_val 4 _ 5 _ _ hc h0 (by omega), show (128 : Int) ^ 5 = 34359738368 by decide, val_even hpar]
              have hb2 : ((u + ((s[a + 5].toNat : Nat) : Int) % 128 * 34359738368) % 2 == 1) = false := by rw [beq_eq_false_iff_ne]; exact hpar
              have HP := Lib.hid hpar
              clear hpar
              go_wp2
              exact bodyPost_ret (v := .agg #[.int .i64 ((u + ((s[a + 5].toNat : Nat) : Int) % 128 * 34359738368) / 2), .int .i64 ((a : Int) + 5 + 1), .int .i64 0]) (by simp [results, Tryd.results14, go_sem]) rfl ⟨by rw [HF.out], (Below.refl _ _).alloc (Nat.le_refl _) _⟩
        · have HN : Hid (rd 4 (s.data.toList.drop (a + 6)) 6 (u + ((s[a + 5].toNat : Nat) : Int) % 128 * 34359738368) ((a : Int) + 6) = rd 10 (s.data.toList.drop a) 0 0 a) := by
            refine Lib.hid (Eq.trans ?_ HR0.out)
            rw [drop_cons s (a + 5) hl, rd_next 4 _ 5 _ _ (by omega) (by decide), show (128 : Int) ^ 5 = 34359738368 by decide]
            rw [Int.add_assoc]; rfl
          have HL : Hid (0 ≤ u + ((s[a + 5].toNat : Nat) : Int) % 128 * 34359738368 ∧ u + ((s[a + 5].toNat : Nat) : Int) % 128 * 34359738368 < 128 ^ (5 + 1)) := by exact Lib.hid (by omega)
          go_wp2
          go_round
          case rel => exact ⟨6, by omega, rfl, _, HL.out.1, by have := HL.out.2; omega, rfl, Lib.hid ⟨HN.out, HL.out.2⟩⟩
          case measure => simp [intOf]
      · have HF : Hid (gnV s a = .agg #[.int .i64 0, .int .i64 0, .int .i64 4]) := by
          refine Lib.hid (gn_rd h1 (HR0.out.symm.trans ?_))
          rw [drop_nil s (a + 5) (by omega), rd_short]
        have hl2 : (s.size : Int) - 5 ≤ a := by omega
        go_wp2
        exact bodyPost_ret (v := .agg #[.int .i64 (0), .int .i64 (0), .int .i64 4]) (by simp [results, Tryd.results14, go_sem]) rfl ⟨by rw [HF.out], (Below.refl _ _).alloc (Nat.le_refl _) _⟩
    · -- k = 6
      have HR0 : Hid (rd 4 (s.data.toList.drop (a + 6)) 6 u ((a : Int) + 6) = rd 10 (s.data.toList.drop a) 0 0 a) := by exact Lib.hid HR.out.1
      have hu2 : u < 4398046511104 := by have := HR.out.2; simpa using this
      clear HR
      by_cases hl : a + 6 < s.size
      · have hb := byte_le s[a + 6]
        by_cases hc : s[a + 6].toNat < 128
        · by_cases h0 : s[a + 6].toNat = 0 ∧ 0 < 6
          · have HF : Hid (gnV s a = .agg #[.int .i64 0, .int .i64 0, .int .i64 3]) := by
              refine Lib.hid (gn_rd h1 (HR0.out.symm.trans ?_))
              rw [drop_cons s (a + 6) hl, rd_zero 3 _ 6 _ _ h0.1 (by decide)]
            have hz : ((s[a + 6].toNat : Nat) : Int) = 0 := by have := h0.1; omega
            have hzb : (((s[a + 6].toNat : Nat) : Int) == 0) = true := by rw [beq_iff_eq]; exact hz
            have HZ := Lib.hid hz
            clear hz h0 hc
            have hci : ((s[a + 6].toNat : Nat) : Int) < 128 := by rw [HZ.out]; decide
            go_wp2
            exact bodyPost_ret (v := .agg #[.int .i64 (0), .int .i64 (0), .int .i64 3]) (by simp [results, Tryd.results14, go_sem]) rfl ⟨by rw [HF.out], (Below.refl _ _).alloc (Nat.le_refl _) _⟩
          · have hzb : (((s[a + 6].toNat : Nat) : Int) == 0) = false := by
              rw [beq_eq_false_iff_ne]; intro x; exact h0 ⟨by omega, by decide⟩
            by_cases hpar : (u + ((s[a + 6].toNat : Nat) : Int) % 128 * 4398046511104) % 2 = 1
            · have HF : Hid (gnV s a = .agg #[.int .i64 (-((u + ((s[a + 6].toNat : Nat) : Int) % 128 * 4398046511104) / 2) - 1), .int .i64 ((a : Int) + 6 + 1), .int .i64 0]) := by
                refine Lib.hid (gn_rd h1 (HR0.out.symm.trans ?_))
                rw [drop_cons s (a + 6) hl, rd_val 3 _ 6 _ _ hc h0 (by omega), show (128 : Int) ^ 6 = 4398046511104 by decide, val_odd hpar]
              have hb2 : ((u + ((s[a + 6].toNat : Nat) : Int) % 128 * 4398046511104) % 2 == 1) = true := by rw [beq_iff_eq]; exact hpar
              have HP := Lib.hid hpar
              clear hpar
              go_wp2
              exact bodyPost_ret (v := .agg #[.int .i64 (-((u + ((s[a + 6].toNat : Nat) : Int) % 128 * 4398046511104) / 2) - 1), .int .i64 ((a : Int) + 6 + 1), .int .i64 0]) (by simp [results, Tryd.results14, go_sem]) rfl ⟨by rw [HF.out], (Below.refl _ _).alloc (Nat.le_refl _) _⟩
            · have HF : Hid (gnV s a = .agg #[.int .i64 ((u + ((s[a + 6].toNat : Nat) : Int) % 128 * 4398046511104) / 2), .int .i64 ((a : Int) + 6 + 1), .int .i64 0]) := by
                refine Lib.hid (gn_rd h1 (HR0.out.symm.trans ?_))
                rw [drop_cons s (a + 6) hl, rd_val 3 _ 6 _ _ hc h0 (by omega), show (128 : Int) ^ 6 = 4398046511104 by decide, val_even hpar]
              have hb2 : ((u + ((s[a + 6].toNat : Nat) : Int) % 128 * 4398046511104) % 2 == 1) = false := by rw [beq_eq_false_iff_ne]; exact hpar
              have HP := Lib.hid hpar
              clear hpar
              go_wp2
              exact bodyPost_ret (v := .agg #[.int .i64 ((u + ((s[a + 6].toNat : Nat) : Int) % 128 * 4398046511104) / 2), .int .i64 ((a : Int) + 6 + 1), .int .i64 0]) (by simp [results, Tryd.results14, go_sem]) rfl ⟨by rw [HF.out], (Below.refl _ _).alloc (Nat.le_refl _) _⟩
        · have HN : Hid (rd 3 (s.data.toList.drop (a + 7)) 7 (u + ((s[a + 6].toNat : Nat) : Int) % 128 * 4398046511104) ((a : Int) + 7) = rd 10 (s.data.toList.drop a) 0 0 a) := by
            refine Lib.hid (Eq.trans ?_ HR0.out)
            rw [drop_cons s (a + 6) hl, rd_next 3 _ 6 _ _ (by omega) (by decide), show (128 : Int) ^ 6 = 4398046511104 by decide]
            rw [Int.add_assoc]; rfl
          have HL : Hid (0 ≤ u + ((s[a + 6].toNat : Nat) : Int) % 128 * 4398046511104 ∧ u + ((s[a + 6].toNat : Nat) : Int) % 128 * 4398046511104 < 128 ^ (6 + 1)) := by exact Lib.hid (by omega)
          go_wp2
          go_round
          case rel => exact ⟨7, by omega, rfl, _, HL.out.1, by have := HL.out.2; omega, rfl, Lib.hid ⟨HN.out, HL.out.2⟩⟩
          case measure => simp [intOf]
      · have HF : Hid (gnV s a = .agg #[.int .i64 0, .int .i64 0, .int .i64 4]) := by
          refine Lib.hid (gn_rd h1 (HR0.out.symm.trans ?_))
          rw [drop_nil s (a + 6) (by omega), rd_short]
        have hl2 : (s.size : Int) - 6 ≤ a := by omega
        go_wp2
        exact bodyPost_ret (v := .agg #[.int .i64 (0), .int .i64 (0), .int .i64 4]) (by simp [results, Tryd.results14, go_sem]) rfl ⟨by rw [HF.out], (Below.refl _ _).alloc (Nat.le_refl _) _⟩
    · -- k = 7
      have HR0 : Hid (rd 3 (s.data.toList.drop (a + 7)) 7 u ((a : Int) + 7) = rd 10 (s.data.toList.drop a) 0 0 a) := by exact Lib.hid HR.out.1
      have hu2 : u < 562949953421312 := by have := HR.out.2; simpa using this
      clear HR
      by_cases hl : a + 7 < s.size
      · have hb := byte_le s[a + 7]
        by_cases hc : s[a + 7].toNat < 128
        · by_cases h0 : s[a + 7].toNat = 0 ∧ 0 < 7
          · have HF : Hid (gnV s a = .agg #[.int .i64 0, .int .i64 0, .int .i64 3]) := by
              refine Lib.hid (gn_rd h1 (HR0.out.symm.trans ?_))
              rw [drop_cons s (a + 7) hl, rd_zero 2 _ 7 _ _ h0.1 (by decide)]
            have hz : ((s[a + 7].toNat : Nat) : Int) = 0 := by have := h0.1; omega
            have hzb : (((s[a + 7].toNat : Nat) : Int) == 0) = true := by rw [beq_iff_eq]; exact hz
            have HZ := Lib.hid hz
            clear hz h0 hc
            have hci : ((s[a + 7].toNat : Nat) : Int) < 128 := by rw [HZ.out]; decide
            go_wp2
            exact bodyPost_ret (v := .agg #[.int .i64 (0), .int .i64 (0), .int .i64 3]) (by simp [results, Tryd.results14, go_sem]) rfl ⟨by rw [HF.out], (Below.refl _ _).alloc (Nat.le_refl _) _⟩
          · have hzb : (((s[a + 7].toNat : Nat) : Int) == 0) = false := by
              rw [beq_eq_false_iff_ne]; intro x; exact h0 ⟨by omega, by decide⟩
            by_cases hpar : (u + ((s[a + 7].toNat : Nat) : Int) % 128 * 562949953421312) % 2 = 1
            · have HF : Hid (gnV s a = .agg #[.int .i64 (-((u + ((s[a + 7].toNat : Nat) : Int) % 128 * 562949953421312) / 2) - 1), .int .i64 ((a : Int) + 7 + 1), .int .i64 0]) := by
                refine Lib.hid (gn_rd h1 (HR0.out.symm.trans ?_))
                rw [drop_cons s (a + 7) hl, rd_val 2 _ 7 _ _ hc h0 (by omega), show (128 : Int) ^ 7 = 562949953421312 by decide, val_odd hpar]
              have hb2 : ((u + ((s[a + 7].toNat : Nat) : Int) % 128 * 562949953421312) % 2 == 1) = true := by rw [beq_iff_eq]; exact hpar
              have HP := Lib.hid hpar
              clear hpar
              go_wp2
              exact bodyPost_ret (v := .agg #[.int .i64 (-((u + ((s[a + 7].toNat : Nat) : Int) % 128 * 562949953421312) / 2) - 1), .int .i64 ((a : Int) + 7 + 1), .int .i64 0]) (by simp [results, Tryd.results14, go_sem]) rfl ⟨by rw [HF.out], (Below.refl _ _).alloc (Nat.le_refl _) _⟩
            · have HF : Hid (gnV s a = .agg #[.int .i64 ((u + ((s[a + 7].toNat : Nat) : Int) % 128 * 562949953421312) / 2), .int .i64 ((a : Int) + 7 + 1), .int .i64 0]) := by
                refine Lib.hid (gn_rd h1 (HR0.out.symm.trans ?_))
                rw [drop_cons s (a + 7) hl, rd_val 2 _ 7 _ _ hc h0 (by omega), show (128 : Int) ^ 7 = 562949953421312 by decide, val_even hpar]
              have hb2 : ((u + ((s[a + 7].toNat : Nat) : Int) % 128 * 562949953421312) % 2 == 1) = false := by rw [beq_eq_false_iff_ne]; exact hpar
              have HP := Lib.hid hpar
              clear hpar
              go_wp2
              exact bodyPost_ret (v := .agg #[.int .i64 ((u + ((s[a + 7].toNat : Nat) : Int) % 128 * 562949953421312) / 2), .int .i64 ((a : Int) + 7 + 1), .int .i64 0]) (by simp [results, Tryd.results14, go_sem]) rfl ⟨by rw [HF.out], (Below.refl _ _).alloc (Nat.le_refl _) _⟩
        · have HN : Hid (rd 2 (s.data.toList.drop (a + 8)) 8 (u + ((s[a + 7].toNat : Nat) : Int) % 128 * 562949953421312) ((a : Int) + 8) = rd 10 (s.data.toList.drop a) 0 0 a) := by
            refine Lib.hid (Eq.trans ?_ HR0.out)
            rw [drop_cons s (a + 7) hl, rd_next 2 _ 7 _ _ (by omega) (by decide), show (128 : Int) ^ 7 = 562949953421312 by decide]
            rw [Int.add_assoc]; rfl
          have HL : Hid (0 ≤ u + ((s[a + 7].toNat : Nat) : Int) % 128 * 562949953421312 ∧ u + ((s[a + 7].toNat : Nat) : Int) % 128 * 562949953421312 < 128 ^ (7 + 1)) := by exact Lib.hid (by omega)
          go_wp2
          go_round
          case rel => exact ⟨8, by omega, rfl, _, HL.out.1, by have := HL.out.2; omega, rfl, Lib.hid ⟨HN.out, HL.out.2⟩⟩
          case measure => simp [intOf]
      · have HF : Hid (gnV s a = .agg #[.int .i64 0, .int .i64 0, .int .i64 4]) := by
          refine Lib.hid (gn_rd h1 (HR0.out.symm.trans ?_))
          rw [drop_nil s (a + 7) (by omega), rd_short]
        have hl2 : (s.size : Int) - 7 ≤ a := by omega
        go_wp2
        exact bodyPost_ret (v := .agg #[.int .i64 (0), .int .i64 (0), .int .i64 4]) (by simp [results, Tryd.results14, go_sem]) rfl ⟨by rw [HF.out], (Below.refl _ _).alloc (Nat.le_refl _) _⟩
    · -- k = 8
      have HR0 : Hid (rd 2 (s.data.toList.drop (a + 8)) 8 u ((a : Int) + 8) = rd 10 (s.data.toList.drop a) 0 0 a) := by exact Lib.hid HR.out.1
      have hu2 : u < 72057594037927936 := by have := HR.out.2; simpa using this
      clear HR
      by_cases hl : a + 8 < s.size
      · have hb := byte_le s[a + 8]
        by_cases hc : s[a + 8].toNat < 128
        · by_cases h0 : s[a + 8].toNat = 0 ∧ 0 < 8
          · have HF : Hid (gnV s a = .agg #[.int .i64 0, .int .i64 0, .int .i64 3]) := by
              refine Lib.hid (gn_rd h1 (HR0.out.symm.trans ?_))
              rw [drop_cons s (a + 8) hl, rd_zero 1 _ 8 _ _ h0.1 (by decide)]
            have hz : ((s[a + 8].toNat : Nat) : Int) = 0 := by have := h0.1; omega
            have hzb : (((s[a + 8].toNat : Nat) : Int) == 0) = true := by rw [beq_iff_eq]; exact hz
            have HZ := Lib.hid hz
            clear hz h0 hc
            have hci : ((s[a + 8].toNat : Nat) : Int) < 128 := by rw [HZ.out]; decide
            go_wp2
            exact bodyPost_ret (v := .agg #[.int .i64 (0), .int .i64 (0), .int .i64 3]) (by simp [results, Tryd.results14, go_sem]) rfl ⟨by rw [HF.out], (Below.refl _ _).alloc (Nat.le_refl _) _⟩
          · have hzb : (((s[a + 8].toNat : Nat) : Int) == 0) = false := by
              rw [beq_eq_false_iff_ne]; intro x; exact h0 ⟨by omega, by decide⟩
            by_cases hpar : (u + ((s[a + 8].toNat : Nat) : Int) % 128 * 72057594037927936) % 2 = 1
            · have HF : Hid (gnV s a = .agg #[.int .i64 (-((u + ((s[a + 8].toNat : Nat) : Int) % 128 * 72057594037927936) / 2) - 1), .int .i64 ((a : Int) + 8 + 1), .int .i64 0]) := by
                refine Lib.hid (gn_rd h1 (HR0.out.symm.trans ?_))
                rw [drop_cons s (a + 8) hl, rd_val 1 _ 8 _ _ hc h0 (by omega), show (128 : Int) ^ 8 = 72057594037927936 by decide, val_odd hpar]
              have hb2 : ((u + ((s[a + 8].toNat : Nat) : Int) % 128 * 72057594037927936) % 2 == 1) = true := by rw [beq_iff_eq]; exact hpar
              have HP := Lib.hid hpar
              clear hpar
              go_wp2
              exact bodyPost_ret (v := .agg #[.int .i64 (-((u + ((s[a + 8].toNat : Nat) : Int) % 128 * 72057594037927936) / 2) - 1), .int .i64 ((a : Int) + 8 + 1), .int .i64 0]) (by simp [results, Tryd.results14, go_sem]) rfl ⟨by rw [HF.out], (Below.refl _ _).alloc (Nat.le_refl _) _⟩
            · have HF : Hid (gnV s a = .agg #[.int .i64 ((u + ((s[a + 8].toNat : Nat) : Int) % 128 * 72057594037927936) / 2), .int .i64 ((a : Int) + 8 + 1), .int .i64 0]) := by
                refine Lib.hid (gn_rd h1 (HR0.out.symm.trans ?_))
                rw [drop_cons s (a + 8) hl, rd_val 1 _ 8 _ _ hc h0 (by omega), show (128 : Int) ^ 8 = 72057594037927936 by decide, val_even hpar]
              have hb2 : ((u + ((s[a + 8].toNat : Nat) : Int) % 128 * 72057594037927936) % 2 == 1) = false := by rw [beq_eq_false_iff_ne]; exact hpar
              have HP := Lib.hid hpar
              clear hpar
              go_wp2
              exact bodyPost_ret (v := .agg #[.int .i64 ((u + ((s[a + 8].toNat : Nat) : Int) % 128 * 72057594037927936) / 2), .int .i64 ((a : Int) + 8 + 1), .int .i64 0]) (by simp [results, Tryd.results14, go_sem]) rfl ⟨by rw [HF.out], (Below.refl _ _).alloc (Nat.le_refl _) _⟩
        · have HN : Hid (rd 1 (s.data.toList.drop (a + 9)) 9 (u + ((s[a + 8].toNat : Nat) : Int) % 128 * 72057594037927936) ((a : Int) + 9) = rd 10 (s.data.toList.drop a) 0 0 a) := by
            refine Lib.hid (Eq.trans ?_ HR0.out)
            rw [drop_cons s (a + 8) hl, rd_next 1 _ 8 _ _ (by omega) (by decide), show (128 : Int) ^ 8 = 72057594037927936 by decide]
            rw [Int.add_assoc]; rfl
          have HL : Hid (0 ≤ u + ((s[a + 8].toNat : Nat) : Int) % 128 * 72057594037927936 ∧ u + ((s[a + 8].toNat : Nat) : Int) % 128 * 72057594037927936 < 128 ^ (8 + 1)) := by exact Lib.hid (by omega)
          go_wp2
          go_round
          case rel => exact ⟨9, by omega, rfl, _, HL.out.1, by have := HL.out.2; omega, rfl, Lib.hid ⟨HN.out, HL.out.2⟩⟩
          case measure => simp [intOf]
      · have HF : Hid (gnV s a = .agg #[.int .i64 0, .int .i64 0, .int .i64 4]) := by
          refine Lib.hid (gn_rd h1 (HR0.out.symm.trans ?_))
          rw [drop_nil s (a + 8) (by omega), rd_short]
        have hl2 : (s.size : Int) - 8 ≤ a := by omega
        go_wp2
        exact bodyPost_ret (v := .agg #[.int .i64 (0), .int .i64 (0), .int .i64 4]) (by simp [results, Tryd.results14, go_sem]) rfl ⟨by rw [HF.out], (Below.refl _ _).alloc (Nat.le_refl _) _⟩
    · -- k = 9
      have HR0 : Hid (rd 1 (s.data.toList.drop (a + 9)) 9 u ((a : Int) + 9) = rd 10 (s.data.toList.drop a) 0 0 a) := by exact Lib.hid HR.out.1
      have hu2 : u < 9223372036854775808 := by have := HR.out.2; simpa using this
      clear HR
      by_cases hl : a + 9 < s.size
      · have hb := byte_le s[a + 9]
        by_cases hc : 1 < s[a + 9].toNat
        · have HF : Hid (gnV s a = .agg #[.int .i64 0, .int .i64 0, .int .i64 3]) := by
            refine Lib.hid (gn_rd h1 (HR0.out.symm.trans ?_))
            rw [drop_cons s (a + 9) hl, rd_nine 0 _ _ _ hc]
          have hci : (1 : Int) < ((s[a + 9].toNat : Nat) : Int) := by omega
          go_wp2
          exact bodyPost_ret (v := .agg #[.int .i64 (0), .int .i64 (0), .int .i64 3]) (by simp [results, Tryd.results14, go_sem]) rfl ⟨by rw [HF.out], (Below.refl _ _).alloc (Nat.le_refl _) _⟩
        · by_cases h0 : s[a + 9].toNat = 0
          · have HF : Hid (gnV s a = .agg #[.int .i64 0, .int .i64 0, .int .i64 3]) := by
              refine Lib.hid (gn_rd h1 (HR0.out.symm.trans ?_))
              rw [drop_cons s (a + 9) hl, rd_zero 0 _ 9 _ _ h0 (by decide)]
            have hz : ((s[a + 9].toNat : Nat) : Int) = 0 := by omega
            clear hc h0
            go_wp2
            exact bodyPost_ret (v := .agg #[.int .i64 (0), .int .i64 (0), .int .i64 3]) (by simp [results, Tryd.results14, go_sem]) rfl ⟨by rw [HF.out], (Below.refl _ _).alloc (Nat.le_refl _) _⟩
          · have hz1 : ((s[a + 9].toNat : Nat) : Int) = 1 := by omega
            by_cases hpar : (u + 9223372036854775808) % 2 = 1
            · have HF : Hid (gnV s a = .agg #[.int .i64 (-((u + 9223372036854775808) / 2) - 1), .int .i64 ((a : Int) + 9 + 1), .int .i64 0]) := by
                refine Lib.hid (gn_rd h1 (HR0.out.symm.trans ?_))
                rw [drop_cons s (a + 9) hl, rd_val 0 _ 9 _ _ (by omega) (by omega) (by omega), hz1, show (1 : Int) % 128 * 128 ^ 9 = 9223372036854775808 by decide, val_odd hpar]
              have hb2 : ((u + 9223372036854775808) % 2 == 1) = true := by rw [beq_iff_eq]; exact hpar
              have HP := Lib.hid hpar
              clear hpar
              go_wp2
              exact bodyPost_ret (v := .agg #[.int .i64 (-((u + 9223372036854775808) / 2) - 1), .int .i64 ((a : Int) + 9 + 1), .int .i64 0]) (by simp [results, Tryd.results14, go_sem]) rfl ⟨by rw [HF.out], (Below.refl _ _).alloc (Nat.le_refl _) _⟩
            · have HF : Hid (gnV s a = .agg #[.int .i64 ((u + 9223372036854775808) / 2), .int .i64 ((a : Int) + 9 + 1), .int .i64 0]) := by
                refine Lib.hid (gn_rd h1 (HR0.out.symm.trans ?_))
                rw [drop_cons s (a + 9) hl, rd_val 0 _ 9 _ _ (by omega) (by omega) (by omega), hz1, show (1 : Int) % 128 * 128 ^ 9 = 9223372036854775808 by decide, val_even hpar]
              have hb2 : ((u + 9223372036854775808) % 2 == 1) = false := by rw [beq_eq_false_iff_ne]; exact hpar
              have HP := Lib.hid hpar
              clear hpar
              go_wp2
              exact bodyPost_ret (v := .agg #[.int .i64 ((u + 9223372036854775808) / 2), .int .i64 ((a : Int) + 9 + 1), .int .i64 0]) (by simp [results, Tryd.results14, go_sem]) rfl ⟨by rw [HF.out], (Below.refl _ _).alloc (Nat.le_refl _) _⟩
      · have HF : Hid (gnV s a = .agg #[.int .i64 0, .int .i64 0, .int .i64 4]) := by
          refine Lib.hid (gn_rd h1 (HR0.out.symm.trans ?_))
          rw [drop_nil s (a + 9) (by omega), rd_short]
        have hl2 : (s.size : Int) - 9 ≤ a := by omega
        go_wp2
        exact bodyPost_ret (v := .agg #[.int .i64 (0), .int .i64 (0), .int .i64 4]) (by simp [results, Tryd.results14, go_sem]) rfl ⟨by rw [HF.out], (Below.refl _ _).alloc (Nat.le_refl _) _⟩

end Go.Proofs.YtbdmildlcgecjaaDoor.Gn
