/-
  impl.recMarks, impl.recWrong, slices.IndexFunc and slices.ContainsFunc at records, impl.recsRight, impl.Closed.
-/
import Derived.Test.YtegnjbdgeibhfaaRsMath
import Derived.Test.YtegnjbdgeibhfaaPackRsA
import Derived.Test.YtegnjbdgeibhfaaPackCov
namespace Go.Proofs.Ytegnjbdgeibhfaa.Rs
open Go.ChangeShapes Go.WideShapes Go.ChangeAt Go.RowKit
open Rec (R P Sound Small recV cellsV recB needsR)
open Net (Cl Bk HeldV)
open Dep (D I depsB coversB covB)
set_option linter.unusedVariables false
set_option maxRecDepth 100000

theorem mk_pr_step (l : List Q) (k : Nat) (h : k < l.length) : mk (pr (l.take (k + 1))) = mk (pr (l.take k)) ++ [⟨l[k].r.k, l[k].r.i⟩] := by
  rw [take_snoc l k h]; unfold pr mk; rw [List.map_append, List.map_append]; rfl
theorem one_lies_at (W : World) (d : D) {g : Nat} (h : W.heap.size = g) : Dep.Lies (W.alloc d.obj) (W.alloc d.obj).heap.size (some ⟨g, 0, none⟩) [d] := by subst h; exact Dep.one_lies W d
theorem mk_pr_len (l : List Q) : (mk (pr l)).length = l.length := by rw [mk_len, pr_len]

set_option maxHeartbeats 2000000 in
theorem recMarks_any (A : Option Addr) (l : List Q) (cap : Nat) (w : World) (h : LRs w w.heap.size A l) (hl : l.length ≤ 1048576) :
    Calls Try.prog 46 #[.slice A l.length cap] w fun e w' => ∃ A' c, e = .returned (Dep.slV A' (mk (pr l)) c) ∧ (mk (pr l)).length ≤ c ∧ Dep.Lies w' w'.heap.size A' (mk (pr l)) ∧ w'.ownsRow w.heap.size 80 4 (Dep.slV A' (mk (pr l)) c) (mk (pr l)).length (Dep.flat (mk (pr l))) ∧ Below w.heap.size w w' := by
  have H := Lib.hid h
  have HDL := Lib.hid (mk_pr_len l)
  clear h
  go_enter Try.func46, Try.ntmps46
  go_wp2_with fail
  go_loopw [3, 8] (fun o i wr => ∃ k : Nat, k ≤ l.length ∧ i = .int .i64 k ∧ Hid (wr.ownsRow w.heap.size 80 4 o k (Dep.flat (mk (pr (l.take k)))) ∧ Below w.heap.size w wr)) (fun _ i _ => l.length - (intOf i).toNat)
  case atStart => exact ⟨0, by omega, rfl, Lib.hid ⟨Dep.own_nil _ _, Below.refl _ _⟩⟩
  case round =>
    obtain ⟨k, hk, rfl, HR⟩ := hrel
    by_cases hlt : k < l.length
    · obtain ⟨ad, rfl, _, ⟨c0, c1, c2, c3, c4, c5, c6, c7⟩, -⟩ := (H.out.below HR.out.2 (Nat.le_refl _)).at_ hlt
      have HST := Lib.hid (mk_pr_step l k hlt)
      obtain ⟨y, hy⟩ : ∃ y, l[k] = y := ⟨_, rfl⟩
      rw [hy] at c0 c1 c2 c3 c4 c5 c6 c7 HST
      clear hy
      obtain ⟨r, p⟩ := y
      simp only at c0 c1 c2 c3 c4 c5 c6 c7 HST
      go_wp2_with (at_builtin; refine Dep.wpList_append_deps rfl rfl rfl [⟨r.k, r.i⟩] rfl rfl rfl (Dep.own_alloc (Dep.own_alloc HR.out.1 (Obj.cells (cellsV r p) 61)) (Dep.D.obj ⟨r.k, r.i⟩)) (one_lies_at (wr.alloc (Obj.cells (cellsV r p) 61)) ⟨r.k, r.i⟩ (by simp)) (by simp; omega) (by have := HR.out.2.size; simp; omega) ?_; intro v2 W2 ho2 hg2; have hBg := ((HR.out.2.alloc HR.out.2.size (Obj.cells (cellsV r p) 61)).alloc (by have := HR.out.2.size; simp; omega) (Dep.D.obj ⟨r.k, r.i⟩)).grown hg2 (by have := HR.out.2.size; simp; omega) (Dep.ownBlock_base HR.out.1); have B2 := Lib.hid hBg; rw [← HST.out] at ho2; have O2 := Lib.hid ho2; clear ho2 hg2 hBg)
      go_roundw
      case rel => exact ⟨k + 1, by omega, by go_num, Lib.hid ⟨O2.out, B2.out⟩⟩
      case measure => simp [intOf]; omega
    · have e : k = l.length := by omega
      go_wp2_with fail
      go_ret
      have h1 := HR.out.1
      rw [List.take_of_length_le (by omega), e] at h1
      rw [← HDL.out] at h1
      obtain ⟨_, A, c, ev, hc, hL⟩ := Dep.own_lies h1
      rw [ev] at h1
      refine ⟨A, c, ?_, hc, hL, h1, HR.out.2⟩
      rw [← ev]
      rfl

theorem recWrong_any (r : R) (p : P) (w : World) (h : Rec.Lies w w.heap.size r p) (hs : Sound r) :
    Calls Try.prog 61 #[recV r p] w fun e w' => e = .returned (.bool (!recB r)) ∧ Below w.heap.size w w' := by
  have B0 := Lib.hid ((Below.refl w.heap.size w).alloc (Nat.le_refl _) (Obj.cells (cellsV r p) 61))
  have HC := Lib.hid (Rec.implRec_any r p _ (h.step B0.out (Nat.le_refl _) B0.out.size) hs)
  unfold recV at *
  clear h hs
  go_enter Try.func61, Try.ntmps61
  go_wp2_with fail
  refine HC.out.mono ?_
  rintro e w1 ⟨rfl, hb1⟩
  have HB := Lib.hid (B0.out.trans (hb1.mono B0.out.size))
  clear hb1
  go_wp2_with fail
  go_ret
  exact ⟨rfl, HB.out⟩

set_option maxHeartbeats 2000000 in
theorem indexFunc_any (A : Option Addr) (l : List Q) (cap : Nat) (w : World) (h : LRs w w.heap.size A l) (hl : l.length ≤ 1048576) (hk : ∀ q ∈ l, Sound q.r) :
    Calls Try.prog 88 #[.slice A l.length cap, .func (.func 61) #[] #[]] w fun e w' =>
      (∃ n : Int, e = .returned (.int .i64 n) ∧ ((n = -1 ∧ (pr l).any (fun r => !recB r) = false) ∨ (0 ≤ n ∧ (pr l).any (fun r => !recB r) = true))) ∧ Below w.heap.size w w' := by
  have H := Lib.hid h
  have HK := Lib.hid hk
  clear h hk
  go_enter Try.func88, Try.ntmps88
  go_wp2_with fail
  go_loopw [8] (fun i wr => ∃ k : Nat, k ≤ l.length ∧ i = .int .i64 k ∧ Hid ((∀ j (hj : j < l.length), j < k → recB l[j].r = true) ∧ Below w.heap.size w wr)) (fun i _ => l.length - (intOf i).toNat)
  case atStart => exact ⟨0, by omega, rfl, Lib.hid ⟨fun j hj hjk => absurd hjk (by omega), Below.refl _ _⟩⟩
  case round =>
    obtain ⟨k, hk, rfl, HR⟩ := hrel
    by_cases hlt : k < l.length
    · obtain ⟨ad, rfl, _, ⟨c0, c1, c2, c3, c4, c5, c6, c7⟩, hL⟩ := (H.out.below HR.out.2 (Nat.le_refl _)).at_ hlt
      have hky := HK.out l[k] (List.getElem_mem hlt)
      obtain ⟨y, hy⟩ : ∃ y, l[k] = y := ⟨_, rfl⟩
      have HY := Lib.hid hy
      rw [hy] at c0 c1 c2 c3 c4 c5 c6 c7 hky hL
      clear hy
      obtain ⟨r, p⟩ := y
      simp only at c0 c1 c2 c3 c4 c5 c6 c7 hky hL
      have HA := Lib.hid (recWrong_any r p wr (hL.step (Below.refl w.heap.size wr) (Nat.le_refl _) HR.out.2.size) hky)
      clear hky hL
      unfold recV at HA
      cases he : recB r
      · have HE := Lib.hid he
        rw [he] at HA
        clear he
        go_wp2_with fail
        refine HA.out.mono ?_
        rintro e w1 ⟨rfl, hb1⟩
        have HB := Lib.hid (HR.out.2.trans (hb1.mono HR.out.2.size))
        clear hb1 c0 c1 c2 c3 c4 c5 c6 c7
        go_wp2_with fail
        go_ret
        exact ⟨⟨k, rfl, .inr ⟨by omega, by rw [List.any_eq_true]; exact ⟨l[k].r, List.mem_map.2 ⟨_, List.getElem_mem hlt, rfl⟩, by rw [HY.out]; simp only; rw [HE.out]; rfl⟩⟩⟩, HB.out⟩
      · have HE := Lib.hid he
        rw [he] at HA
        clear he
        go_wp2_with fail
        refine HA.out.mono ?_
        rintro e w1 ⟨rfl, hb1⟩
        have HB := Lib.hid (HR.out.2.trans (hb1.mono HR.out.2.size))
        clear hb1 c0 c1 c2 c3 c4 c5 c6 c7
        go_wp2_with fail
        go_roundw
        case rel =>
          refine ⟨k + 1, by omega, by go_num, Lib.hid ⟨fun j hj hjk => ?_, HB.out⟩⟩
          by_cases e : j = k
          · subst e; rw [HY.out]; exact HE.out
          · exact HR.out.1 j hj (by omega)
        case measure => simp [intOf]; omega
    · have HN := Lib.hid (show (pr l).any (fun r => !recB r) = false by
        rw [List.any_eq_false]
        intro d hd
        obtain ⟨q, hq, rfl⟩ := List.mem_map.1 hd
        obtain ⟨j, hj, rfl⟩ := List.getElem_of_mem hq
        have := HR.out.1 j hj (by omega)
        simp [this])
      go_wp2_with fail
      go_ret
      exact ⟨⟨-1, rfl, .inl ⟨rfl, HN.out⟩⟩, HR.out.2⟩

theorem containsFunc_any (A : Option Addr) (l : List Q) (cap : Nat) (w : World) (h : LRs w w.heap.size A l) (hl : l.length ≤ 1048576) (hk : ∀ q ∈ l, Sound q.r) :
    Calls Try.prog 60 #[.slice A l.length cap, .func (.func 61) #[] #[]] w fun e w' =>
      e = .returned (.bool ((pr l).any fun r => !recB r)) ∧ Below w.heap.size w w' := by
  have HI := Lib.hid (indexFunc_any A l cap w h hl hk)
  clear h hk
  go_enter Try.func60, Try.ntmps60
  go_wp2_with fail
  refine HI.out.mono ?_
  rintro e w1 ⟨⟨n, rfl, hn⟩, hb1⟩
  have HB := Lib.hid hb1
  clear hb1
  rcases hn with ⟨rfl, hn⟩ | ⟨h0, hn⟩
  · have HN := Lib.hid hn
    clear hn
    go_wp2_with fail
    go_ret
    exact ⟨Key.ret_bool HN.out.symm, HB.out⟩
  · have HN := Lib.hid hn
    clear hn
    go_wp2_with fail
    go_ret
    exact ⟨Key.ret_bool HN.out.symm, HB.out⟩

theorem recsRight_any (A : Option Addr) (l : List Q) (cap : Nat) (w : World) (h : LRs w w.heap.size A l) (hl : l.length ≤ 1048576) (hk : ∀ q ∈ l, Sound q.r) :
    Calls Try.prog 38 #[.slice A l.length cap] w fun x w' => x = .returned (.bool (listB (pr l))) ∧ Below w.heap.size w w' := by
  have H := Lib.hid h
  have HK := Lib.hid hk
  have HV := Lib.hid (listB_mk (pr l))
  have HM := Lib.hid (recMarks_any A l cap w h hl)
  have HD : Hid (∀ d ∈ mk (pr l), d.k.size ≤ maxLen) := Lib.hid fun d hd => by
    obtain ⟨r, hr, rfl⟩ := List.mem_map.1 hd
    obtain ⟨q, hq, rfl⟩ := List.mem_map.1 hr
    exact (hk q hq).1
  have hlm : (mk (pr l)).length ≤ maxLen := by rw [mk_pr_len]; unfold maxLen; omega
  have HC := Lib.hid (fun W (hW : Below w.heap.size w W) => containsFunc_any A l cap W ((H.out.below hW (Nat.le_refl _)).more hW.size) hl HK.out)
  clear h hk
  go_enter Try.func38, Try.ntmps38
  go_wp2_with fail
  refine HM.out.mono ?_
  rintro e w1 ⟨A', c, rfl, hc, hL, _, hb1⟩
  have B1 := Lib.hid hb1
  have HI := Lib.hid (Dep.implDeps_any A' (mk (pr l)) c w1 hL hlm HD.out)
  clear hb1 hL hc
  unfold Dep.slV at *
  go_wp2_with fail
  refine HI.out.mono ?_
  rintro e w2 ⟨rfl, hb2⟩
  have B2 := Lib.hid (B1.out.trans (hb2.mono B1.out.size))
  clear hb2
  cases hd : Dep.depsB (mk (pr l))
  · have HD2 := Lib.hid hd
    clear hd
    go_wp2_with fail
    go_ret
    exact ⟨Key.ret_bool (by rw [HV.out, HD2.out]; rfl), B2.out⟩
  · have HD2 := Lib.hid hd
    clear hd
    go_wp2_with fail
    refine (HC.out w2 B2.out).mono ?_
    rintro e w3 ⟨rfl, hb3⟩
    have B3 := Lib.hid (B2.out.trans (hb3.mono B2.out.size))
    clear hb3
    obtain ⟨t, ht⟩ : ∃ t, ((pr l).any fun r => !recB r) = t := ⟨_, rfl⟩
    have HT := Lib.hid ht
    rw [ht]
    clear ht
    go_wp2_with fail
    go_ret
    exact ⟨Key.ret_bool (by rw [HV.out, HD2.out, HT.out]; rfl), B3.out⟩

set_option maxHeartbeats 2000000 in
theorem implClosed_any (A : Option Addr) (l : List Q) (cap : Nat) (w : World) (h : LRs w w.heap.size A l) (hl : l.length ≤ 1048576) (hk : ∀ q ∈ l, Sound q.r) :
    Calls Try.prog 19 #[.slice A l.length cap] w fun x w' => x = .returned (.bool (closedB (pr l))) ∧ Below w.heap.size w w' := by
  have H := Lib.hid h
  have HK := Lib.hid hk
  have HRR := Lib.hid (recsRight_any A l cap w h hl hk)
  have HM := Lib.hid (fun W (hW : Below w.heap.size w W) => recMarks_any A l cap W ((H.out.below hW (Nat.le_refl _)).more hW.size) hl)
  clear h hk
  go_enter Try.func19, Try.ntmps19
  go_wp2_with fail
  refine HRR.out.mono ?_
  rintro e w1 ⟨rfl, hb1⟩
  have B1 := Lib.hid hb1
  clear hb1 HRR
  cases hr : listB (pr l)
  · have HN := Lib.hid (closed_no hr)
    clear hr
    go_wp2_with fail
    go_ret
    exact ⟨Key.ret_bool HN.out.symm, B1.out⟩
  have HLB := Lib.hid hr
  have HDB := Lib.hid (mk_ok (list_of hr))
  have HNB := Lib.hid (show ∀ k (h : k < l.length), depsB (needsR l[k].r) = true from fun k h => needs_depsB ((list_of hr).2.1 _ (List.mem_map.2 ⟨_, List.getElem_mem h, rfl⟩)))
  clear hr
  go_wp2_with fail
  refine (HM.out w1 B1.out).mono ?_
  rintro e w2 ⟨A', c, rfl, hc, hL, _, hb2⟩
  have B2 := Lib.hid (B1.out.trans (hb2.mono B1.out.size))
  have HL2 := Lib.hid hL
  have hlen := mk_pr_len l
  obtain ⟨M, hM⟩ : ∃ M, mk (pr l) = M := ⟨_, rfl⟩
  have HMM := Lib.hid hM
  have HMK := Lib.hid (show ∀ d ∈ M, d.k.size ≤ maxLen from fun d hd => by
    rw [← hM] at hd
    obtain ⟨r, hr, rfl⟩ := List.mem_map.1 hd
    obtain ⟨q, hq, rfl⟩ := List.mem_map.1 hr
    exact (HK.out q hq).1)
  rw [hM] at HL2 HDB hlen ⊢
  clear hb2 hL hc HM hM
  have hlm : M.length ≤ maxLen := by rw [hlen]; unfold maxLen; omega
  have HZ := Lib.hid (show w.heap.size ≤ w2.heap.size from B2.out.size)
  clear hlen
  unfold Dep.slV
  go_wp2_with fail
  go_loopw [13] (fun i wr => ∃ k : Nat, k ≤ l.length ∧ i = .int .i64 k ∧ Hid ((∀ j (hj : j < l.length), j < k → coversB M (needsR l[j].r) = true) ∧ Below w2.heap.size w2 wr)) (fun i _ => l.length - (intOf i).toNat)
  case atStart => exact ⟨0, by omega, rfl, Lib.hid ⟨fun j hj hjk => absurd hjk (by omega), Below.refl _ _⟩⟩
  case round =>
    obtain ⟨k, hk, rfl, HR⟩ := hrel
    by_cases hlt : k < l.length
    · obtain ⟨bd, rfl, _, ⟨c0, c1, c2, c3, c4, c5, c6, c7⟩, hL0⟩ := (H.out.below (B2.out.trans (HR.out.2.mono HZ.out)) (Nat.le_refl _)).at_ hlt
      have hsd := HK.out l[k] (List.getElem_mem hlt)
      have HND := Lib.hid (HNB.out k hlt)
      have HKK := Lib.hid (show (pr l)[k]'(by rw [pr_len]; exact hlt) = l[k].r from pr_at hlt)
      have HYY := Lib.hid (show ∀ j (hj : j < l.length), j = k → l[j].r = l[k].r from fun j hj e => by subst e; rfl)
      obtain ⟨y, hy⟩ : ∃ y, l[k] = y := ⟨_, rfl⟩
      rw [hy] at c0 c1 c2 c3 c4 c5 c6 c7 hL0 HND HKK HYY hsd
      clear hy
      obtain ⟨r, p⟩ := y
      simp only at c0 c1 c2 c3 c4 c5 c6 c7 hL0 HND HKK HYY hsd
      have hwz : w.heap.size ≤ wr.heap.size := by have := HZ.out; have := HR.out.2.size; omega
      have B0 := Lib.hid ((Below.refl wr.heap.size wr).alloc (Nat.le_refl _) (Obj.cells (cellsV r p) 61))
      have HC := Lib.hid (Rec.implNeeds_any r p _ (hL0.step B0.out hwz (Nat.le_trans hwz B0.out.size)) hsd)
      unfold recV at HC
      have HNL := Lib.hid (Rec.needsR_len r)
      clear hL0 hsd
      obtain ⟨nr, hnr⟩ : ∃ n, needsR r = n := ⟨_, rfl⟩
      have HNR := Lib.hid hnr
      rw [hnr] at HC HNL HND
      have HNK := Lib.hid (show ∀ d ∈ nr, d.k.size ≤ maxLen from fun d hd => by
        have := Key.ok_of ((Dep.ok_of HND.out).2.1 d hd).1
        have := this.2.1
        unfold maxLen; omega)
      clear hnr
      go_wp2_with fail
      refine HC.out.mono ?_
      rintro e w3 ⟨A3, c3', rfl, hh3, hb3⟩
      have B3 := Lib.hid (HR.out.2.trans ((B0.out.trans (hb3.mono B0.out.size)).mono HR.out.2.size))
      have HCV := Lib.hid (Dep.implCovers_any A' A3 M nr c c3' w3 ((HL2.out.below B3.out (Nat.le_refl _)).more B3.out.size) (hh3.lies (Nat.le_refl _)) hlm (by have := HNL.out; unfold maxLen; omega) HMK.out HNK.out)
      rw [show covB M nr = coversB M nr from by unfold covB; rw [HDB.out, HND.out]; rfl] at HCV
      unfold Dep.slV at HCV
      clear hh3 hb3 c0 c1 c2 c3 c4 c5 c6 c7 hwz
      go_wp2_with fail
      refine HCV.out.mono ?_
      rintro e w4 ⟨rfl, hb4⟩
      have B4 := Lib.hid (B3.out.trans (hb4.mono B3.out.size))
      clear hb4
      cases hcv : coversB M nr
      · have HN := Lib.hid (show closedB (pr l) = false from closed_here (k := k) (by rw [pr_len]; exact hlt) (by rw [HMM.out, HKK.out, HNR.out]; exact hcv))
        clear hcv
        go_wp2_with fail
        go_ret
        exact ⟨Key.ret_bool HN.out.symm, B2.out.trans (B4.out.mono HZ.out)⟩
      · have HT := Lib.hid hcv
        clear hcv
        go_wp2_with fail
        go_roundw
        case rel =>
          refine ⟨k + 1, by omega, by go_num, Lib.hid ⟨fun j hj hjk => ?_, B4.out⟩⟩
          by_cases e : j = k
          · rw [HYY.out j hj e, HNR.out]; exact HT.out
          · exact HR.out.1 j hj (by omega)
        case measure => simp [intOf]; omega
    · have HN := Lib.hid (show closedB (pr l) = true from closed_all HLB.out fun j hj => by
        rw [pr_len] at hj
        rw [HMM.out, show (pr l)[j]'(by rw [pr_len]; exact hj) = l[j].r from pr_at hj]
        exact HR.out.1 j hj (by omega))
      go_wp2_with fail
      go_ret
      exact ⟨Key.ret_bool HN.out.symm, B2.out.trans (HR.out.2.mono HZ.out)⟩
end Go.Proofs.Ytegnjbdgeibhfaa.Rs
