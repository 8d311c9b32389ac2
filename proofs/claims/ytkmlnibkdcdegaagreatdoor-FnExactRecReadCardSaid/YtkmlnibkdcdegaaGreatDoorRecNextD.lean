/-
  The reader of a record's text: deps.
-/
import Derived.Test.YtkmlnibkdcdegaaGreatDoorRecNextB
import Derived.Test.YtkmlnibkdcdegaaGreatDoorPackPut
namespace Go.Proofs.YtkmlnibkdcdegaaGreatDoor.Rec
open Go.ChangeShapes Go.WideShapes Go.ChangeAt Go.RowKit
open Dep (D I)
set_option linter.unusedVariables false
set_option maxRecDepth 100000
set_option linter.unusedSimpArgs false

theorem rdr_not_dep {W : World} {b base n : Nat} {s : ByteArray} {a : Int} {v : Value} {xs : List Value} (h : Rdr W b s a) (ho : W.ownsRow base 44 4 v n xs) : some b ≠ v.ownBlock := by
  rcases ho.2 with ⟨rfl, _⟩ | ⟨g, cap, cur, rfl, _, hg, _⟩
  · intro e; cases e
  · intro e
    cases e
    rw [show W.heap[g]? = _ from h] at hg
    injection hg with hg
    injection hg with _ h2
    exact absurd h2 (by decide)
theorem rI_place (s : ByteArray) (a : Int) : 0 ≤ (rI s a).2 ∧ (rI s a).2 ≤ 8000 := gn_place s _
theorem rDs_place (s : ByteArray) (a : Int) (ha : 0 ≤ a ∧ a ≤ 8000) : ∀ k, (rDs s k a).1.length = k ∧ 0 ≤ (rDs s k a).2 ∧ (rDs s k a).2 ≤ 8000 := by
  intro k
  induction k with
  | zero => exact ⟨rfl, ha⟩
  | succ k ih => exact ⟨by simp [rDs, ih.1], rI_place s _⟩

set_option maxHeartbeats 4000000 in
theorem nextDeps_any (b : Nat) (s : ByteArray) (a : Int) (w : World) (h : Rdr w b s a) (hs : s.size ≤ maxLen) (ha0 : -9223372036854775808 ≤ a) (ha1 : a ≤ 9223372036854775807) (hw : Gn.Handle w) (hb0 : 0 < b) :
    Calls Tryz.prog 34 #[.pointer (some ⟨b, 0, none⟩)] w fun e w' => ∃ v, e = .returned v ∧ w'.ownsRow w.heap.size 44 4 v (many (rN s a).1 6) (Dep.flat (rDs s (many (rN s a).1 6) (rN s a).2).1) ∧ Rdr w' b s (rDs s (many (rN s a).1 6) (rN s a).2).2 ∧ w.grownBy w' (some b) := by
  have hl := h.lt
  have HK := Lib.hid (rDs_place s (rN s a).2 (gn_place s a))
  have hn1 : -9223372036854775808 ≤ (rN s a).1 ∧ (rN s a).1 ≤ 9223372036854775807 := gn_range s a
  have HW := Lib.hid hw
  have HX := Lib.hid h
  have HC := Lib.hid (fun W hX hW => nextNum_any b s a W hX hs ha0 ha1 hW)
  clear h hw
  obtain ⟨n, hn⟩ : ∃ n, (rN s a).1 = n := ⟨_, rfl⟩
  obtain ⟨pl, hpl⟩ : ∃ p, (rN s a).2 = p := ⟨_, rfl⟩
  rw [hpl] at HC HK ⊢
  rw [hn] at HC hn1 ⊢
  clear hn hpl
  go_enter Tryz.func34, Tryz.ntmps34
  go_wp2_with fail
  refine (HC.out _ HX.out HW.out).mono ?_
  rintro e w1 ⟨rfl, hr, hg⟩
  have HX0 := Lib.hid hr
  have HG0 := Lib.hid hg
  clear hr hg HX HC
  go_wp2_with fail
  go_loopw [3, 7] (fun o i wr => ∃ k : Nat, k ≤ many n 6 ∧ i = .int .i64 k ∧ Hid (wr.ownsRow w.heap.size 44 4 o k (Dep.flat (rDs s k pl).1) ∧ Rdr wr b s (rDs s k pl).2 ∧ w.grownBy wr (some b))) (fun _ i _ => many n 6 - (intOf i).toNat)
  case atStart => exact ⟨0, by omega, rfl, Lib.hid ⟨Dep.own_nil _ _, HX0.out, HG0.out⟩⟩
  case round =>
    obtain ⟨k, hk, rfl, HR⟩ := hrel
    have hm : many n 6 ≤ 6 := by unfold many; omega
    by_cases hlt : k < many n 6
    · have hlt2 : (k : Int) < min n 6 := by unfold many at hlt; omega
      go_wp2_with fail
      have hp := HK.out k
      refine (nextText_any b s _ _ HR.out.2.1 hs (by omega) (by omega) (handle_grown HW.out HR.out.2.2 hb0)).mono ?_
      rintro e w2 ⟨rfl, hr, hg⟩
      have hp2 : 0 ≤ (rT s (rDs s k pl).2).2 ∧ (rT s (rDs s k pl).2).2 ≤ 8000 := ⟨(gt_all s (rDs s k pl).2).2.1, (gt_all s (rDs s k pl).2).2.2.1⟩
      have HX1 := Lib.hid hr
      have HG1 := Lib.hid (Src.grown_trans HR.out.2.2 hg)
      have HO := Lib.hid (own_grown HR.out.1 hg hl)
      clear hr hg
      have HST : Hid ((rDs s (k + 1) pl).1 = (rDs s k pl).1 ++ [⟨(rT s (rDs s k pl).2).1, (rI s (rT s (rDs s k pl).2).2).1⟩] ∧ (rDs s (k + 1) pl).2 = (rI s (rT s (rDs s k pl).2).2).2) := Lib.hid ⟨rfl, rfl⟩
      generalize (rT s (rDs s k pl).2).1 = y at *
      generalize (rT s (rDs s k pl).2).2 = q at *
      go_wp2_with fail
      refine (nextId_any b s _ _ HX1.out hs (by omega) (by omega) (handle_grown HW.out HG1.out hb0) hb0).mono ?_
      rintro e w3 ⟨rfl, hr, hg⟩
      have HX1 := Lib.hid hr
      have HG1 := Lib.hid (Src.grown_trans HG1.out hg)
      have HO := Lib.hid (own_grown HO.out hg hl)
      clear hr hg
      generalize (rI s q).2 = q2 at *
      generalize (rI s q).1 = z at *
      go_wp2_with (at_builtin; refine Dep.wpList_append_deps rfl rfl rfl [⟨y, z⟩] rfl rfl rfl (Dep.own_alloc HO.out (Dep.D.obj ⟨y, z⟩)) (Dep.one_lies _ ⟨y, z⟩) (by simp; omega) (by have := HG1.out.size; simp; omega) ?_; intro v2 W2 ho2 hg2; have hx2 := (hg2.block _ (by have := HX1.out.lt; simp; omega) (rdr_not_dep HX1.out HO.out)).trans (HX1.out.alloc (Dep.D.obj ⟨y, z⟩)); have X2 := Lib.hid hx2; have G2 := Lib.hid (grown_append (grown_alloc HG1.out _) hg2 (Dep.ownBlock_base HO.out)); rw [← HST.out.1] at ho2; have O2 := Lib.hid ho2; clear ho2 hg2 hx2)
      go_roundw
      case rel => exact ⟨k + 1, by omega, by go_num, Lib.hid ⟨O2.out, by rw [HST.out.2]; exact X2.out, G2.out⟩⟩
      case measure => simp [intOf]; omega
    · have e : k = many n 6 := by omega
      have hlt2 : ¬ (k : Int) < min n 6 := by unfold many at hlt; omega
      go_wp2_with fail
      go_ret
      subst e
      exact ⟨_, rfl, HR.out⟩
end Go.Proofs.YtkmlnibkdcdegaaGreatDoor.Rec
