/-
  A number comes back from its bytes, with the place behind them; of bytes that end too early nothing comes back; and so a text. Plain facts on bytes; no Go text is walked here.
-/
import Derived.Test.YtbdmildlcgecjaaDoorGetText
import Derived.Test.YtbdmildlcgecjaaDoorText
namespace Go.Proofs.YtbdmildlcgecjaaDoor.Gn
open Go.ChangeShapes Go.WideShapes Go.ChangeAt Go.RowKit
set_option linter.unusedVariables false

theorem ofNat_toNat {x : Int} (h0 : 0 ≤ x) (h1 : x < 256) : ((UInt8.ofNat x.toNat).toNat : Int) = x := by
  rw [UInt8.toNat_ofNat_of_lt' (by show x.toNat < 256; omega)]; omega
theorem pow_pos (k : Nat) : (0 : Int) < 128 ^ k := Int.pow_pos (by decide)
/-- A number's bytes are read whole. -/
theorem rd_vb (f : Nat) : ∀ (k : Nat) (v u a : Int) (rest : List UInt8), k + f = 9 → 0 ≤ v → v < Num.bnd k → (0 < k → 1 ≤ v) →
    rd (f + 1) (Num.vb f v ++ rest) k u a = (val (u + v * 128 ^ k), a + (Num.vb f v).length, 0) := by
  induction f with
  | zero =>
    intro k v u a rest hk h0 h1 h2
    obtain rfl : k = 9 := by omega
    rw [Num.bnd_nine] at h1
    have hv : v = 1 := by have := h2 (by omega); omega
    subst hv
    have hc : (UInt8.ofNat (1 : Int).toNat).toNat = 1 := by decide
    show rd 1 (UInt8.ofNat (1 : Int).toNat :: rest) 9 u a = _
    rw [rd_val 0 rest 9 u a (by rw [hc]; omega) (by rw [hc]; omega) (by rw [hc]; omega), hc]
    rfl
  | succ f ih =>
    intro k v u a rest hk h0 h1 h2
    by_cases hv : v < 128
    · have hc := ofNat_toNat h0 (by omega)
      rw [Num.vb_small _ hv]
      show rd (f + 1 + 1) (UInt8.ofNat v.toNat :: rest) k u a = _
      rw [rd_val (f + 1) rest k u a (by omega) (by rintro ⟨x, y⟩; have := h2 y; omega) (by omega), hc]
      have hm : v % 128 = v := by omega
      rw [hm]; rfl
    · have hc := ofNat_toNat (show 0 ≤ v % 128 + 128 by omega) (by omega)
      rw [Num.vb_big _ (by omega)]
      show rd (f + 1 + 1) (UInt8.ofNat (v % 128 + 128).toNat :: (Num.vb f (v / 128) ++ rest)) k u a = _
      rw [rd_next (f + 1) _ k u a (by omega) (by omega), hc, ih (k + 1) (v / 128) _ _ rest (by omega) (by omega) (Num.bnd_step (by omega) h1) (by omega)]
      have hm : (v % 128 + 128) % 128 = v % 128 := by omega
      have hp : u + (v % 128 + 128) % 128 * 128 ^ k + v / 128 * 128 ^ (k + 1) = u + v * 128 ^ k := by
        rw [hm, Int.pow_succ]
        generalize (128 : Int) ^ k = q
        have e : v * q = (128 * (v / 128) + v % 128) * q := by rw [Int.mul_ediv_add_emod]
        rw [e, Int.add_mul, Int.add_assoc]
        congr 1
        rw [Int.add_comm]
        congr 1
        rw [Int.mul_comm 128 (v / 128), Int.mul_assoc, Int.mul_comm 128 q]
      rw [hp]
      simp only [List.length_cons, Prod.mk.injEq, and_true, true_and]
      omega
/-- A number's bytes without the last. -/
theorem rd_cut (f : Nat) : ∀ (k : Nat) (v u a : Int), k + f = 9 → 0 ≤ v → rd (f + 1) (Num.vb f v).dropLast k u a = (0, 0, 4) := by
  induction f with
  | zero => intro k v u a hk h0; rfl
  | succ f ih =>
    intro k v u a hk h0
    by_cases hv : v < 128
    · rw [Num.vb_small _ hv]; rfl
    · have hc := ofNat_toNat (show 0 ≤ v % 128 + 128 by omega) (by omega)
      have hl := (Num.vb_length f (v / 128)).1
      rw [Num.vb_big _ (by omega), List.dropLast_cons_of_ne_nil (by intro e; rw [e] at hl; simp at hl), rd_next (f + 1) _ k u a (by omega) (by omega), ih (k + 1) (v / 128) _ _ (by omega) (by omega)]
theorem val_fold (n : Int) : val (Num.foldI n) = n := by
  unfold val Num.foldI
  split <;> split <;> omega
theorem rd_put (n : Int) (h0 : -9223372036854775808 ≤ n) (h1 : n ≤ 9223372036854775807) (a : Int) (rest : List UInt8) :
    rd 10 (Num.putB n ++ rest) 0 0 a = (n, a + (Num.putB n).length, 0) := by
  have hr := Num.foldI_range h0 h1
  unfold Num.putB
  rw [rd_vb 9 0 _ 0 a rest rfl hr.1 (by rw [Num.bnd_zero]; exact hr.2) (by omega)]
  rw [show (0 : Int) + Num.foldI n * 128 ^ 0 = Num.foldI n by omega, val_fold]
theorem putS_list (n : Int) : (Num.putS n).data.toList = Num.putB n := by simp [Num.putS]
theorem putB_len (n : Int) : (Num.putB n).length = (Num.putS n).size := by rw [← putS_list]; simp
/-- Behind p, ahead of q. -/
theorem gn_at (p q : ByteArray) (n : Int) (h0 : -9223372036854775808 ≤ n) (h1 : n ≤ 9223372036854775807) (hs : p.size + 10 + q.size ≤ 8000) :
    gn (p ++ Num.putS n ++ q) (p.size : Int) = (n, (p.size : Int) + (Num.putS n).size, 0) := by
  have hz := (Num.putS_size n).2
  unfold gn
  rw [if_neg (by simp only [ByteArray.size_append]; omega), if_neg (by omega), Int.toNat_natCast]
  have e : (p ++ Num.putS n ++ q).data.toList.drop p.size = Num.putB n ++ q.data.toList := by
    have e1 : (p ++ Num.putS n ++ q).data.toList = p.data.toList ++ (Num.putB n ++ q.data.toList) := by
      rw [← putS_list]; simp
    have e2 : p.data.toList.length = p.size := by simp
    rw [e1, ← e2, List.drop_left]
  rw [e, rd_put n h0 h1, putB_len]
theorem ext_list (s : ByteArray) (k : Nat) : (s.extract 0 k).data.toList = s.data.toList.take k := by simp
theorem ext_mid (s : ByteArray) (i k : Nat) : (s.extract i (i + k)).data.toList = (s.data.toList.drop i).take k := by
  rw [ByteArray.data_extract, Array.toList_extract, List.extract_eq_take_drop, Nat.add_sub_cancel_left]
theorem gn_cut (n : Int) (h0 : -9223372036854775808 ≤ n) (h1 : n ≤ 9223372036854775807) : gn ((Num.putS n).extract 0 ((Num.putS n).size - 1)) 0 = (0, 0, 4) := by
  have hz := (Num.putS_size n).2
  have hl : ((Num.putS n).extract 0 ((Num.putS n).size - 1)).data.toList = (Num.putB n).dropLast := by
    rw [ext_list, putS_list, List.dropLast_eq_take, putB_len]
  unfold gn
  rw [if_neg (by rw [ByteArray.size_extract]; omega), if_neg (by omega)]
  rw [show (0 : Int).toNat = 0 from rfl, List.drop_zero, hl]
  exact rd_cut 9 0 _ 0 0 rfl (Num.foldI_range h0 h1).1

theorem putT_list {u : ByteArray} (h : u.size ≤ 8000) : (Text.putT u).data.toList = Num.putB u.size ++ u.data.toList := by unfold Text.putT; rw [if_pos h]
theorem putT_size {u : ByteArray} (h : u.size ≤ 8000) : (Text.putT u).size = (Num.putB u.size).length + u.size := by
  have e : (Text.putT u).data.toList.length = (Text.putT u).size := by simp
  rw [← e, putT_list h, List.length_append]; simp
theorem ext_bytes {a b : ByteArray} (h : a.data.toList = b.data.toList) : a = b := ByteArray.ext (Array.toList_inj.1 h)
theorem gt_put {u p : ByteArray} (h : u.size ≤ 8000) (hp : p.size + (Text.putT u).size ≤ 8000) :
    gtV (p ++ Text.putT u) (p.size : Int) = .agg #[.string u, .int .i64 ((p.size : Int) + (Text.putT u).size), .int .i64 0] := by
  have hz := putT_size h
  have hl : (p ++ Text.putT u).data.toList = p.data.toList ++ (Num.putB u.size ++ u.data.toList) := by rw [← putT_list h]; simp
  have e2 : p.data.toList.length = p.size := by simp
  have hsz : (p ++ Text.putT u).size = p.size + (Text.putT u).size := by simp
  have hg : gn (p ++ Text.putT u) (p.size : Int) = ((u.size : Int), (p.size : Int) + (Num.putB u.size).length, 0) := by
    unfold gn
    rw [if_neg (by omega), if_neg (by omega), Int.toNat_natCast, hl, ← e2, List.drop_left, rd_put _ (by omega) (by omega)]
  rw [gt_ok hg (by omega) (by omega)]
  have hx : (p ++ Text.putT u).extract ((p.size : Int) + (Num.putB u.size).length).toNat ((p.size : Int) + (Num.putB u.size).length + u.size).toNat = u := by
    apply ext_bytes
    rw [show ((p.size : Int) + (Num.putB u.size).length).toNat = p.size + (Num.putB u.size).length by omega, show ((p.size : Int) + (Num.putB u.size).length + u.size).toNat = p.size + (Num.putB u.size).length + u.size by omega]
    have hu : u.data.toList.length = u.size := by simp
    have hd : (p.data.toList ++ (Num.putB u.size ++ u.data.toList)).drop (p.size + (Num.putB u.size).length) = u.data.toList := by
      rw [← List.append_assoc, ← e2, ← List.length_append, List.drop_left]
    have ht := ext_mid (p ++ Text.putT u) (p.size + (Num.putB u.size).length) u.size
    rw [ht, hl, hd, ← hu, List.take_length]
  rw [hx, show (p.size : Int) + (Num.putB u.size).length + u.size = (p.size : Int) + (Text.putT u).size by omega]
theorem gt_cut {u : ByteArray} (h : u.size ≤ 8000) (hp : (Text.putT u).size ≤ 8000) :
    gtV ((Text.putT u).extract 0 ((Text.putT u).size - 1)) 0 = .agg #[.string ⟨#[]⟩, .int .i64 0, .int .i64 4] := by
  have hz := putT_size h
  have hsz : ((Text.putT u).extract 0 ((Text.putT u).size - 1)).size = (Text.putT u).size - 1 := by rw [ByteArray.size_extract]; omega
  have hl : ((Text.putT u).extract 0 ((Text.putT u).size - 1)).data.toList = (Num.putB u.size ++ u.data.toList).take ((Num.putB u.size).length + u.size - 1) := by rw [ext_list, putT_list h, hz]
  by_cases h0 : u.size = 0
  · have hg : gn ((Text.putT u).extract 0 ((Text.putT u).size - 1)) 0 = (0, 0, 4) := by
      have hu : u.data.toList = [] := List.length_eq_zero_iff.1 (by simpa using h0)
      unfold gn
      rw [if_neg (by omega), if_neg (by omega), show (0 : Int).toNat = 0 from rfl, List.drop_zero, hl, hu, List.append_nil, h0, Nat.add_zero, ← List.dropLast_eq_take]
      exact rd_cut 9 0 _ 0 0 rfl (by decide)
    exact gt_code hg (by omega)
  · have hg : gn ((Text.putT u).extract 0 ((Text.putT u).size - 1)) 0 = ((u.size : Int), (0 : Int) + (Num.putB u.size).length, 0) := by
      unfold gn
      rw [if_neg (by omega), if_neg (by omega), show (0 : Int).toNat = 0 from rfl, List.drop_zero, hl, show (Num.putB u.size).length + u.size - 1 = (Num.putB u.size).length + (u.size - 1) by omega, List.take_length_add_append, rd_put _ (by omega) (by omega)]
    exact gt_short hg (by omega) (by omega)
end Go.Proofs.YtbdmildlcgecjaaDoor.Gn
