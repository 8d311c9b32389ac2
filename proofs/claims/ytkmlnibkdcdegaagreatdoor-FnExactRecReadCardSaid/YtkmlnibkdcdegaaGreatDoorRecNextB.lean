/-
  The reader of a record's text: the keys that were written together.
-/
import Derived.Test.YtkmlnibkdcdegaaGreatDoorRecNextId
import Derived.Test.YtkmlnibkdcdegaaGreatDoorPackSeal
namespace Go.Proofs.YtkmlnibkdcdegaaGreatDoor.Rec
open Go.ChangeShapes Go.WideShapes Go.ChangeAt Go.RowKit
open Dep (D I)
set_option linter.unusedVariables false
set_option maxRecDepth 100000
set_option linter.unusedSimpArgs false

theorem own_grown {w w' : World} {base n b t m : Nat} {v : Value} {xs : List Value} (h : w.ownsRow base t m v n xs) (hg : w.grownBy w' (some b)) (hlt : b < base) : w'.ownsRow base t m v n xs := by
  refine ⟨h.1, h.2.imp id ?_⟩
  rintro ⟨g, cap, cur, e, hb', hh, r⟩
  exact ⟨g, cap, cur, e, hb', (hg.block g (Array.getElem?_eq_some_iff.1 hh).1 (by simp; omega)).trans hh, r⟩
theorem grown_append {w W W' : World} {b : Nat} {v : Option Nat} (h : w.grownBy W (some b)) (hg : W.grownBy W' v) (hv : ∀ k, v = some k → w.heap.size ≤ k) : w.grownBy W' (some b) :=
  ⟨hg.os.trans h.os, hg.tape.trans h.tape, hg.output.trans h.output, Nat.le_trans h.size hg.size, fun k hk hne => (hg.block k (Nat.lt_of_lt_of_le hk h.size) (fun e => by have := hv k e.symm; omega)).trans (h.block k hk hne)⟩
theorem grown_alloc {w W : World} {b : Nat} (h : w.grownBy W (some b)) (o : Obj) : w.grownBy (W.alloc o) (some b) :=
  ⟨h.os, h.tape, h.output, Nat.le_trans h.size (by simp), fun k hk hne => (heap_alloc_old W o (Nat.lt_of_lt_of_le hk h.size)).trans (h.block k hk hne)⟩
theorem rKs_place (s : ByteArray) (a : Int) (ha : 0 ≤ a ∧ a ≤ 8000) : ∀ k, (rKs s k a).1.length = k ∧ 0 ≤ (rKs s k a).2 ∧ (rKs s k a).2 ≤ 8000 := by
  intro k
  induction k with
  | zero => exact ⟨rfl, ha⟩
  | succ k ih =>
    have h := gt_all s (rKs s k a).2
    exact ⟨by simp [rKs, ih.1], h.2.1, h.2.2.1⟩

set_option maxHeartbeats 4000000 in
theorem nextBundle_any (b : Nat) (s : ByteArray) (a : Int) (w : World) (h : Rdr w b s a) (hs : s.size ≤ maxLen) (ha0 : -9223372036854775808 ≤ a) (ha1 : a ≤ 9223372036854775807) (hw : Gn.Handle w) (hb0 : 0 < b) :
    Calls Tryz.prog 35 #[.pointer (some ⟨b, 0, none⟩)] w fun e w' => ∃ v, e = .returned v ∧ w'.ownsRow w.heap.size 9 1 v (many (rN s a).1 4) (Str.flat (rKs s (many (rN s a).1 4) (rN s a).2).1) ∧ Rdr w' b s (rKs s (many (rN s a).1 4) (rN s a).2).2 ∧ w.grownBy w' (some b) := by
  have hl := h.lt
  have HK := Lib.hid (rKs_place s (rN s a).2 (gn_place s a))
  have hn1 : -9223372036854775808 ≤ (rN s a).1 ∧ (rN s a).1 ≤ 9223372036854775807 := gn_range s a
  have HW := Lib.hid hw
  have HX := Lib.hid h
  have HC := Lib.hid (fun W hX hW => nextNum_any b s a W hX hs ha0 ha1 hW)
  clear h hw
  obtain ⟨n, hn⟩ : ∃ n, (rN s a).1 = n := ⟨_, rfl⟩
  obtain ⟨pl, hpl⟩ : ∃ p, (rN s a).2 = p := ⟨_, rfl⟩
  rw [hpl] at HC HK ⊢
  rw [hn] at HC hn1 ⊢
  clear hn hpl
  go_enter Tryz.func35, Tryz.ntmps35
  go_wp2_with fail
  refine (HC.out _ HX.out HW.out).mono ?_
  rintro e w1 ⟨rfl, hr, hg⟩
  have HX0 := Lib.hid hr
  have HG0 := Lib.hid hg
  clear hr hg HX HC
  go_wp2_with fail
  go_loopw [3, 7] (fun o i wr => ∃ k : Nat, k ≤ many n 4 ∧ i = .int .i64 k ∧ Hid (wr.ownsRow w.heap.size 9 1 o k (Str.flat (rKs s k pl).1) ∧ Rdr wr b s (rKs s k pl).2 ∧ w.grownBy wr (some b))) (fun _ i _ => many n 4 - (intOf i).toNat)
  case atStart => exact ⟨0, by omega, rfl, Lib.hid ⟨Str.own_none _ _, HX0.out, HG0.out⟩⟩
  case round =>
    obtain ⟨k, hk, rfl, HR⟩ := hrel
    have hm : many n 4 ≤ 4 := by unfold many; omega
    by_cases hlt : k < many n 4
    · have hlt2 : (k : Int) < min n 4 := by unfold many at hlt; omega
      go_wp2_with fail
      have hp := HK.out k
      refine (nextText_any b s _ _ HR.out.2.1 hs (by omega) (by omega) (handle_grown HW.out HR.out.2.2 hb0)).mono ?_
      rintro e w2 ⟨rfl, hr, hg⟩
      have HX1 := Lib.hid hr
      have HG1 := Lib.hid (Src.grown_trans HR.out.2.2 hg)
      have HO := Lib.hid (own_grown HR.out.1 hg hl)
      clear hr hg
      have HST : Hid ((rKs s (k + 1) pl).1 = (rKs s k pl).1 ++ [(rT s (rKs s k pl).2).1] ∧ (rKs s (k + 1) pl).2 = (rT s (rKs s k pl).2).2) := Lib.hid ⟨rfl, rfl⟩
      generalize (rT s (rKs s k pl).2).1 = y at *
      generalize (rT s (rKs s k pl).2).2 = q at *
      go_wp2_with (at_builtin; refine Str.wpList_append_strs rfl rfl rfl [y] rfl rfl rfl (Str.own_alloc HO.out (.cells (Str.flat [y]).toArray 9)) (Str.new_lies _ [y]) (by simp; omega) (by have := HG1.out.size; simp; omega) ?_; intro v2 W2 ho2 hg2; have hx2 := (hg2.block _ (by have := HX1.out.lt; simp; omega) (Str.blk_not_row HX1.out (by decide) HO.out)).trans (HX1.out.alloc (.cells (Str.flat [y]).toArray 9)); have X2 := Lib.hid hx2; have G2 := Lib.hid (grown_append (grown_alloc HG1.out _) hg2 (Str.ownBlock_base HO.out)); rw [← HST.out.1] at ho2; have O2 := Lib.hid ho2; clear ho2 hg2 hx2)
      go_roundw
      case rel => exact ⟨k + 1, by omega, by go_num, Lib.hid ⟨O2.out, by rw [HST.out.2]; exact X2.out, G2.out⟩⟩
      case measure => simp [intOf]; omega
    · have e : k = many n 4 := by omega
      have hlt2 : ¬ (k : Int) < min n 4 := by unfold many at hlt; omega
      go_wp2_with fail
      go_ret
      subst e
      exact ⟨_, rfl, HR.out⟩
end Go.Proofs.YtkmlnibkdcdegaaGreatDoor.Rec
