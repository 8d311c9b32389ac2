/-
  The law's own marks of a net: markNet, markNetOut, heldNet, heldNetOut, and what they call.
-/
import Derived.Test.YtoagdpbbojlgfaaGreatNetTo
namespace Go.Proofs.YtoagdpbbojlgfaaGreat.Net
open Go.ChangeShapes Go.WideShapes Go.ChangeAt Go.RowKit
open Sto (R Sl Held Turned marks)
open Dep (add_block add_add)
set_option linter.unusedVariables false
set_option maxRecDepth 100000

def tot (s : List Sl) : Nat := (s.map fun x => x.l.length).sum
theorem tot_snoc (s : List Sl) (x : Sl) : tot (s ++ [x]) = tot s + x.l.length := by simp [tot]
theorem tot_append (s t : List Sl) : tot (s ++ t) = tot s + tot t := by simp [tot]
def mkS : Nat → List Sl → List Sl
  | _, [] => []
  | k, x :: s => ⟨x.A, marks k x.l.length, x.c⟩ :: mkS (k + 5 * x.l.length) s
def mkM : Nat → List Ml → List Ml
  | _, [] => []
  | k, y :: m => ⟨(k : Int), (k : Int) + 1, ⟨y.x.A, marks (k + 2) y.x.l.length, y.x.c⟩⟩ :: mkM (k + 2 + 5 * y.x.l.length) m
def kM (k : Nat) (m : List Ml) : Nat := k + 2 * m.length + 5 * tot (m.map (·.x))
theorem marks_len (k n : Nat) : (marks k n).length = n := by simp [marks]
theorem mkS_len (k : Nat) (s : List Sl) : (mkS k s).length = s.length := by
  induction s generalizing k with
  | nil => rfl
  | cons x s ih => simp [mkS, ih]
theorem mkM_len (k : Nat) (m : List Ml) : (mkM k m).length = m.length := by
  induction m generalizing k with
  | nil => rfl
  | cons x s ih => simp [mkM, ih]
theorem mkS_snoc (k : Nat) (s : List Sl) (x : Sl) : mkS k (s ++ [x]) = mkS k s ++ [⟨x.A, marks (k + 5 * tot s) x.l.length, x.c⟩] := by
  induction s generalizing k with
  | nil => simp [mkS, tot]
  | cons y s ih =>
    simp only [List.cons_append, mkS, ih]
    have e : k + 5 * y.l.length + 5 * tot s = k + 5 * tot (y :: s) := by simp [tot]; omega
    rw [e]
theorem mkM_snoc (k : Nat) (m : List Ml) (y : Ml) : mkM k (m ++ [y]) = mkM k m ++ [⟨(kM k m : Nat), (kM k m : Nat) + 1, ⟨y.x.A, marks (kM k m + 2) y.x.l.length, y.x.c⟩⟩] := by
  induction m generalizing k with
  | nil => simp [mkM, kM, tot]
  | cons z m ih =>
    simp only [List.cons_append, mkM, ih]
    have e : kM (k + 2 + 5 * z.x.l.length) m = kM k (z :: m) := by simp [kM, tot]; omega
    rw [e]
theorem kM_snoc (k : Nat) (m : List Ml) (y : Ml) : kM k (m ++ [y]) = kM k m + 2 + 5 * y.x.l.length := by simp [kM, tot]; omega
theorem sval_marks (A : Option Addr) (l : List R) (c k : Nat) : sval ⟨A, marks k l.length, c⟩ = sval ⟨A, l, c⟩ := by simp [sval, marks_len]
theorem sv_mk (k : Nat) (s : List Sl) : sv (mkS k s) = sv s := by
  induction s generalizing k with
  | nil => rfl
  | cons x s ih => have := ih (k + 5 * x.l.length); unfold sv at this ⊢; simp only [mkS, List.map_cons, this, sval_marks]
theorem tot_mkS (k : Nat) (s : List Sl) : tot (mkS k s) = tot s := by
  induction s generalizing k with
  | nil => rfl
  | cons x s ih => have := ih (k + 5 * x.l.length); unfold tot at this ⊢; simp only [mkS, List.map_cons, List.sum_cons, this, marks_len]
theorem drop_at {α : Type} {l : List α} {j : Nat} (h : j < l.length) : l.drop j = l[j] :: l.drop (j + 1) := List.drop_eq_getElem_cons h
theorem tot_take {s : List Sl} (j : Nat) : tot (s.take j) ≤ tot s := by
  have := tot_append (s.take j) (s.drop j)
  rw [List.take_append_drop] at this
  omega
theorem tot_mem {s : List Sl} {x : Sl} (h : x ∈ s) : x.l.length ≤ tot s := by
  induction s with
  | nil => cases h
  | cons y s ih =>
    have e : tot (y :: s) = y.l.length + tot s := by simp [tot]
    rcases List.mem_cons.1 h with rfl | h
    · omega
    · have := ih h; omega
theorem kM_take (k : Nat) (m : List Ml) (j : Nat) : kM k (m.take j) ≤ kM k m := by
  unfold kM
  have h1 : tot ((m.take j).map (·.x)) ≤ tot (m.map (·.x)) := by rw [List.map_take]; exact tot_take j
  have h2 : (m.take j).length ≤ m.length := by rw [List.length_take]; omega
  omega

theorem HeldL.turn {w w1 : World} {P Q : List Sl} {x : Sl} {a b : Nat} {l' : List R} (h : HeldL w (P ++ x :: Q) a b) (ht : Turned w w1 (lo x) (hi x)) (hm : Held w1 x.A l' (lo x) (hi x)) : HeldL w1 (P ++ ⟨x.A, l', x.c⟩ :: Q) a b := by
  obtain ⟨p1, p2, p3⟩ := List.pairwise_append.1 h.apart
  obtain ⟨q1, q2⟩ := List.pairwise_cons.1 p2
  refine ⟨fun y hy => ?_, List.pairwise_append.2 ⟨p1, List.pairwise_cons.2 ⟨fun z hz => q1 z hz, q2⟩, fun y hy z hz => ?_⟩⟩
  · rcases List.mem_append.1 hy with hy | hy
    · have hx := h.each y (List.mem_append_left _ hy)
      have ha := p3 y hy x List.mem_cons_self
      exact ⟨ht.held hx.1 ha, hx.2⟩
    · rcases List.mem_cons.1 hy with rfl | hy
      · exact ⟨hm, (h.each x (List.mem_append_right _ List.mem_cons_self)).2⟩
      · have hx := h.each y (List.mem_append_right _ (List.mem_cons_of_mem _ hy))
        have ha := q1 y hy
        exact ⟨ht.held hx.1 ha.symm, hx.2⟩
  · rcases List.mem_cons.1 hz with rfl | hz
    · exact p3 y hy x List.mem_cons_self
    · exact p3 y hy z (List.mem_cons_of_mem _ hz)
theorem TurnedN.of_x {W W' : World} {x : Sl} {a b : Nat} (h : Turned W W' (lo x) (hi x)) (hx : hi x = 0 ∨ (a ≤ lo x ∧ hi x ≤ b)) : TurnedN W W' a b := by
  have h1 := TurnedN.of h
  exact ⟨h1.os, h1.tape, h1.output, h1.size, fun k hk hab => h1.block k hk (by rcases hx with e | e <;> omega), h1.types⟩
theorem HeldV.turned {w w' : World} {A : Option Addr} {t : Nat} {vs : List Value} {a b c d : Nat} (h : HeldV w A t vs a b) (ht : Turned w w' c d) (hne : t ≠ 42) : HeldV w' A t vs a b := by
  obtain ⟨row, hg, hr⟩ := ht
  refine h.keep fun g cs hc _ _ => hg.block g (Array.getElem?_eq_some_iff.1 hc).1 fun e => ?_
  obtain ⟨_, _, cs', hc'⟩ := hr g e.symm
  rw [hc'] at hc
  injection hc with hc
  injection hc with _ h2
  exact hne h2.symm

set_option maxHeartbeats 400000 in
theorem markRowSS_any (A : Option Addr) (s Q : List Sl) (cap k a b : Nat) (w : World) (h0 : HeldV w A 98 (sv s) a b) (h : HeldL w (s ++ Q) a b) (hl : s.length ≤ 1048576) (hk : k + 5 * tot s ≤ 10000000) (ht : tot s ≤ 1048576) :
    Calls Tryz.prog 114 #[.slice A s.length cap, .int .i64 k] w fun e w' => e = .returned (.int .i64 ((k + 5 * tot s : Nat) : Int)) ∧ HeldV w' A 98 (sv s) a b ∧ HeldL w' (mkS k s ++ Q) a b ∧ TurnedN w w' a b ∧ ∀ A' vs, HeldV w A' 141 vs a b → HeldV w' A' 141 vs a b := by
  have H0 := Lib.hid h0
  have H := Lib.hid h
  have HK := Lib.hid (show ∀ j, k + 5 * tot (s.take j) ≤ 10000000 from fun j => by have := tot_take (s := s) j; omega)
  have HT := Lib.hid (show ∀ x ∈ s, x.l.length ≤ 1048576 from fun x hx => by have := tot_mem hx; omega)
  clear h h0 ht hk
  go_enter Tryz.func114, Tryz.ntmps114
  go_wp2_with fail
  go_loopw [1, 5] (fun z i wr => ∃ j : Nat, j ≤ s.length ∧ i = .int .i64 j ∧ z = .int .i64 ((k + 5 * tot (s.take j) : Nat) : Int) ∧ Hid (HeldV wr A 98 (sv s) a b ∧ HeldL wr (mkS k (s.take j) ++ s.drop j ++ Q) a b ∧ TurnedN w wr a b ∧ ∀ A' vs, HeldV w A' 141 vs a b → HeldV wr A' 141 vs a b)) (fun _ i _ => s.length - (intOf i).toNat)
  case atStart => exact ⟨0, by omega, rfl, by simp [tot], Lib.hid ⟨H0.out, by simpa [mkS] using H.out, TurnedN.refl _ _ _, fun _ _ h => h⟩⟩
  case round =>
    obtain ⟨j, hj, rfl, rfl, HR⟩ := hrel
    by_cases hlt : j < s.length
    · have hK := HK.out j
      have hxl := HT.out s[j] (List.getElem_mem hlt)
      have hst := HR.out.2.1
      rw [drop_at hlt, List.append_assoc, List.cons_append] at hst
      have hX := hst.each s[j] (List.mem_append_right _ List.mem_cons_self)
      have HTS := Lib.hid (take_snoc s j hlt)
      obtain ⟨ad, rfl, _, hcell⟩ := HR.out.1.cl (Nat.le_refl _) (by rw [sv_len]; omega)
      have c0 := hcell j _ (sv_at hlt)
      clear hcell
      obtain ⟨x, hx⟩ : ∃ x, s[j] = x := ⟨_, rfl⟩
      rw [hx] at hst hX hxl HTS c0
      clear hx
      obtain ⟨q, hq⟩ : ∃ q, k + 5 * tot (s.take j) = q := ⟨_, rfl⟩
      have HQ := Lib.hid hq
      rw [hq] at hK ⊢
      clear hq
      have HC := Lib.hid (Sto.mark_any x.A x.l x.c q (lo x) (hi x) wr hX.1 hxl hK)
      have HST := Lib.hid hst
      have HXX := Lib.hid hX.2
      clear hst hX
      unfold sval at c0
      go_wp2_with fail
      refine HC.out.mono ?_
      rintro e w1 ⟨rfl, hh, ht⟩
      have HL1 := Lib.hid (HST.out.turn ht hh)
      have HV1 := Lib.hid (HR.out.1.turned ht (by decide))
      have HT1 := Lib.hid (HR.out.2.2.1.trans (TurnedN.of_x ht HXX.out))
      have HM1 := Lib.hid (show ∀ A' vs, HeldV w A' 141 vs a b → HeldV w1 A' 141 vs a b from fun A' vs h => (HR.out.2.2.2 A' vs h).turned ht (by decide))
      clear hh ht c0
      go_wp2_with fail
      go_roundw
      case rel =>
        refine ⟨j + 1, by omega, by go_num, ?_, Lib.hid ⟨HV1.out, ?_, HT1.out, HM1.out⟩⟩
        · rw [HTS.out, tot_snoc]; have := HQ.out; congr 1; omega
        · rw [HTS.out, mkS_snoc, HQ.out]; simpa using HL1.out
      case measure => simp [intOf]; omega
    · have h1 := HR.out
      have ej : s.take j = s := List.take_of_length_le (by omega)
      rw [ej, List.drop_of_length_le (by omega), List.append_nil] at h1
      have HF := Lib.hid h1
      have EJ := Lib.hid ej
      clear h1 ej
      go_wp2_with fail
      go_ret
      exact ⟨by rw [EJ.out]; rfl, HF.out.1, HF.out.2.1, HF.out.2.2⟩

theorem mv_set2 (P Q : List Ml) (y : Ml) (f t : Int) (j : Nat) (hj : P.length = j) : ((mv (P ++ y :: Q)).set (j * 3) (.int .i64 f)).set (j * 3 + 1) (.int .i64 t) = mv (P ++ ⟨f, t, y.x⟩ :: Q) := by
  subst hj
  rw [mv_append, mv_cons, mv_append, mv_cons, List.set_append_right _ _ (by rw [mv_len]; omega), List.set_append_right _ _ (by rw [mv_len]; omega)]
  have e1 : P.length * 3 - (mv P).length = 0 := by rw [mv_len]; omega
  have e2 : P.length * 3 + 1 - (mv P).length = 1 := by rw [mv_len]; omega
  rw [e1, e2]
  rfl
theorem mv_x (P Q : List Ml) (f t : Int) (A : Option Addr) (l : List R) (c k : Nat) : mv (P ++ ⟨f, t, ⟨A, marks k l.length, c⟩⟩ :: Q) = mv (P ++ ⟨f, t, ⟨A, l, c⟩⟩ :: Q) := by
  rw [mv_append, mv_cons, mv_append, mv_cons, sval_marks]

set_option maxHeartbeats 1000000 in
set_option maxRecDepth 100000 in
theorem markMailS_any (A : Option Addr) (m : List Ml) (P : List Sl) (cap k a b : Nat) (w : World) (h0 : HeldV w A 141 (mv m) a b) (h : HeldL w (P ++ m.map (·.x)) a b) (hl : m.length ≤ 1048576) (hk : kM k m ≤ 10000000) (ht : tot (m.map (·.x)) ≤ 1048576) :
    Calls Tryz.prog 115 #[.slice A m.length cap, .int .i64 k] w fun e w' => e = .returned (.int .i64 ((kM k m : Nat) : Int)) ∧ HeldV w' A 141 (mv (mkM k m)) a b ∧ HeldL w' (P ++ (mkM k m).map (·.x)) a b ∧ TurnedN w w' a b := by
  have H0 := Lib.hid h0
  have H := Lib.hid h
  have HK := Lib.hid (show ∀ j (h : j < m.length), kM k (m.take j) + 2 ≤ 10000000 from fun j h => by
    have h1 := kM_take k m (j + 1)
    rw [take_snoc m j h, kM_snoc] at h1
    omega)
  have HKe := Lib.hid (show ∀ j, kM k (m.take j) ≤ 10000000 from fun j => by have := kM_take k m j; omega)
  have HT := Lib.hid (show ∀ y ∈ m, y.x.l.length ≤ 1048576 from fun y hy => by have := tot_mem (List.mem_map.2 ⟨y, hy, rfl⟩ : y.x ∈ m.map (·.x)); omega)
  clear h h0 ht hk
  go_enter Tryz.func115, Tryz.ntmps115
  go_wp2_with fail
  go_loopw [1, 5] (fun z i wr => ∃ j : Nat, j ≤ m.length ∧ i = .int .i64 j ∧ z = .int .i64 ((kM k (m.take j) : Nat) : Int) ∧ Hid (HeldV wr A 141 (mv (mkM k (m.take j) ++ m.drop j)) a b ∧ HeldL wr (P ++ (mkM k (m.take j) ++ m.drop j).map (·.x)) a b ∧ TurnedN w wr a b)) (fun _ i _ => m.length - (intOf i).toNat)
  case atStart => exact ⟨0, by omega, rfl, by simp [kM, tot], Lib.hid ⟨by simpa [mkM] using H0.out, by simpa [mkM] using H.out, TurnedN.refl _ _ _⟩⟩
  case round =>
    obtain ⟨j, hj, rfl, rfl, HR⟩ := hrel
    by_cases hlt : j < m.length
    · have hK := HK.out j hlt
      have hxl := HT.out m[j] (List.getElem_mem hlt)
      have hst := HR.out.2.1
      have hv0 := HR.out.1
      rw [drop_at hlt] at hst hv0
      have HTS := Lib.hid (take_snoc m j hlt)
      have hPl : (mkM k (m.take j)).length = j := by rw [mkM_len, List.length_take]; omega
      obtain ⟨y, hy⟩ : ∃ y, m[j] = y := ⟨_, rfl⟩
      rw [hy] at hst hxl HTS hv0
      clear hy
      obtain ⟨q, hq⟩ : ∃ q, kM k (m.take j) = q := ⟨_, rfl⟩
      have HQ := Lib.hid hq
      rw [hq] at hK ⊢
      clear hq
      obtain ⟨PP, hPP⟩ : ∃ PP, mkM k (m.take j) = PP := ⟨_, rfl⟩
      have HPP := Lib.hid hPP
      rw [hPP] at hst hv0 hPl
      clear hPP
      obtain ⟨QQ, hQQ⟩ : ∃ QQ, m.drop (j + 1) = QQ := ⟨_, rfl⟩
      have HQQ := Lib.hid hQQ
      rw [hQQ] at hst hv0
      clear hQQ
      have HT0 := Lib.hid HR.out.2.2
      clear HR
      rcases hv0 with hv0 | ⟨g, n, e, hB, hg1, hg2⟩
      · have := congrArg List.length hv0
        rw [mv_len] at this
        simp at this
      · subst e
        have hlen : (mv (PP ++ y :: QQ)).length ≤ n := by obtain ⟨cs, _, _, h3, _⟩ := hB; exact h3
        rw [mv_len, List.length_append, List.length_cons, hPl] at hlen
        obtain ⟨u0, e0⟩ := hB.cell (j := j * 3) (by omega)
        have f0 := hB.free (j * 3)
        have hB1 := hB.set (k := j * 3) (.int .i64 q)
        obtain ⟨u1, e1⟩ := hB1.cell (j := j * 3 + 1) (by omega)
        have f1 := hB1.free (j * 3 + 1)
        have hB2 := hB1.set (k := j * 3 + 1) (.int .i64 ((q : Int) + 1))
        rw [mv_set2 PP QQ y _ _ j hPl] at hB2
        have e2 := hB2.at_ (j := j * 3 + 2) (u := sval y.x) (by
          have := (mv_at (m := PP ++ ⟨(q : Int), (q : Int) + 1, y.x⟩ :: QQ) (k := j) (by simp; omega)).2.2
          rw [this]
          simp [← hPl])
        have t1 := TurnedN.set hB hg1 hg2 (j * 3) (.int .i64 q)
        have t2 := TurnedN.set hB1 hg1 hg2 (j * 3 + 1) (.int .i64 ((q : Int) + 1))
        have hst2 : HeldL ((wr.setCell ⟨g, j * 3, none⟩ (.int .i64 q)).setCell ⟨g, j * 3 + 1, none⟩ (.int .i64 ((q : Int) + 1))) ((P ++ PP.map (·.x)) ++ y.x :: QQ.map (·.x)) a b := by
          have := (hst.set hB (by decide) (j * 3) (.int .i64 q)).set hB1 (by decide) (j * 3 + 1) (.int .i64 ((q : Int) + 1))
          simpa using this
        have HX := hst2.each y.x (List.mem_append_right _ List.mem_cons_self)
        have HC := Lib.hid (Sto.mark_any y.x.A y.x.l y.x.c (q + 2) (lo y.x) (hi y.x) _ HX.1 hxl hK)
        have HB2 := Lib.hid hB2
        have HT2 := Lib.hid ((HT0.out.trans t1).trans t2)
        have HST := Lib.hid hst2
        have HXX := Lib.hid HX.2
        have hq2 : (((q + 2 : Nat)) : Int) = (q : Int) + 1 + 1 := by omega
        rw [hq2] at HC
        unfold sval at e2
        clear hB hB1 hB2 t1 t2 hst hst2 HX hlen hPl hq2
        go_wp2_with fail
        refine HC.out.mono ?_
        rintro e w1 ⟨rfl, hh, ht⟩
        have HL1 := Lib.hid (HST.out.turn ht hh)
        have HV1 := Lib.hid ((HeldV.of_bk HB2.out hg1 hg2).turned ht (by decide))
        have HT1 := Lib.hid (HT2.out.trans (TurnedN.of_x ht HXX.out))
        clear hh ht e0 e1 e2 f0 f1
        go_wp2_with fail
        go_roundw
        case rel =>
          refine ⟨j + 1, by omega, by go_num, ?_, Lib.hid ⟨?_, ?_, HT1.out⟩⟩
          · rw [HTS.out, kM_snoc, HQ.out]; first | rfl | go_num
          · rw [HTS.out, mkM_snoc, HQ.out, HPP.out, HQQ.out]
            have := HV1.out
            rw [← mv_x PP QQ _ _ _ _ _ (q + 2)] at this
            simpa using this
          · rw [HTS.out, mkM_snoc, HQ.out, HPP.out, HQQ.out]; simpa using HL1.out
        case measure => simp [intOf]; omega
    · have h1 := HR.out
      have ej : m.take j = m := List.take_of_length_le (by omega)
      rw [ej, List.drop_of_length_le (by omega), List.append_nil] at h1
      have HF := Lib.hid h1
      have EJ := Lib.hid ej
      clear h1 ej
      go_wp2_with fail
      go_ret
      exact ⟨by rw [EJ.out]; rfl, HF.out.1, HF.out.2.1, HF.out.2.2⟩

def mkN (k : Nat) (n : Nt) : Nt := ⟨n.A, mkS k n.s, n.ca, n.B, mkM (k + 5 * tot n.s) n.m, n.cb⟩
def kN (k : Nat) (n : Nt) : Nat := kM (k + 5 * tot n.s) n.m
/-- Few enough to be marked. -/
def Short (k : Nat) (n : Nt) : Prop := n.s.length ≤ 1048576 ∧ n.m.length ≤ 1048576 ∧ tot n.all ≤ 1048576 ∧ kN k n ≤ 10000000

theorem markNet_any (n : Nt) (k a b : Nat) (w : World) (h : HeldN w n a b) (hb : b ≤ w.heap.size) (hs : Short k n) :
    Calls Tryz.prog 21 #[n.val, .int .i64 k] w fun e w' => e = .returned (.int .i64 ((kN k n : Nat) : Int)) ∧ HeldN w' (mkN k n) a b ∧ TurnedN w w' a b := by
  obtain ⟨A, s, ca, B, m, cb⟩ := n
  obtain ⟨h1, h2, h3, h4⟩ := hs
  unfold Nt.all at h3
  rw [tot_append] at h3
  simp only at h1 h2 h3
  unfold kN at h4 ⊢
  simp only at h4 ⊢
  have hk1 : k + 5 * tot s ≤ 10000000 := by unfold kM at h4; omega
  unfold Nt.val
  have B0 := (Below.refl w.heap.size w).alloc (Nat.le_refl _) (Obj.cells #[.slice A s.length ca, .slice B m.length cb] 35)
  have HH := Lib.hid (h.step B0 (.inl hb))
  have p := Blk.new w 35 #[.slice A s.length ca, .slice B m.length cb]
  have HC := Lib.hid (markRowSS_any A s (m.map fun y : Ml => y.x) ca k a b _ HH.out.s0 (by have := HH.out.r0; exact this) h1 hk1 (by omega))
  clear h
  go_enter Tryz.func21, Tryz.ntmps21
  go_wp2_with fail
  refine HC.out.mono ?_
  rintro e w1 ⟨rfl, hv, hl, ht, hm⟩
  obtain ⟨p0, p1⟩ := blk2 (ht.blk p (by decide) (by decide))
  have HV := Lib.hid hv
  have HT := Lib.hid ((TurnedN.of_below a b B0).trans ht)
  have HC2 := Lib.hid (markMailS_any B m (mkS k s) cb (k + 5 * tot s) a b w1 (hm _ _ HH.out.m0) hl h2 h4 (by omega))
  obtain ⟨z, hz⟩ : ∃ z, k + 5 * tot s = z := ⟨_, rfl⟩
  have HZ := Lib.hid hz
  rw [hz] at HC2 ⊢
  clear hv hl ht hm p B0 hz
  go_wp2_with fail
  refine HC2.out.mono ?_
  rintro e w2 ⟨rfl, hv, hl, ht⟩
  have HV2 := Lib.hid hv
  have HL2 := Lib.hid hl
  have HT2 := Lib.hid (HT.out.trans ht)
  have HS2 := Lib.hid (HV.out.keep (w' := w2) fun g cs hc _ _ => ht.types g cs _ hc (by decide) (by decide))
  clear hv hl ht p0 p1
  go_wp2_with fail
  go_ret
  refine ⟨by rw [HZ.out]; rfl, ⟨?_, ?_, ?_⟩, HT2.out⟩
  · unfold mkN; simp only; rw [sv_mk]; exact HS2.out
  · unfold mkN; simp only; rw [HZ.out]; exact HV2.out
  · unfold mkN Nt.all; simp only; rw [HZ.out]; exact HL2.out

theorem markNetOut_any (n : Nt) (c : Int) (k a b : Nat) (w : World) (h : HeldN w n a b) (hb : b ≤ w.heap.size) (hs : Short k n) :
    Calls Tryz.prog 22 #[n.out c, .int .i64 k] w fun e w' => e = .returned (.int .i64 ((kN k n : Nat) : Int)) ∧ HeldN w' (mkN k n) a b ∧ TurnedN w w' a b := by
  have B0 := (Below.refl w.heap.size w).alloc (Nat.le_refl _) (Obj.cells #[.slice n.A n.s.length n.ca, .slice n.B n.m.length n.cb, .int .i64 c] 37)
  have HC := Lib.hid (markNet_any n k a b _ (h.step B0 (.inl hb)) (Nat.le_trans hb B0.size) hs)
  have HB := Lib.hid B0
  obtain ⟨z, hz⟩ : ∃ z, kN k n = z := ⟨_, rfl⟩
  have HZ := Lib.hid hz
  rw [hz] at HC ⊢
  clear h hs hz B0
  unfold Nt.val at HC
  unfold Nt.out
  go_enter Tryz.func22, Tryz.ntmps22
  go_wp2_with fail
  refine HC.out.mono ?_
  rintro e w1 ⟨rfl, hh, ht⟩
  have HH := Lib.hid hh
  have HT := Lib.hid ((TurnedN.of_below a b HB.out).trans ht)
  clear hh ht
  go_wp2_with fail
  go_ret
  exact ⟨rfl, HH.out, HT.out⟩

theorem mkS_get (k : Nat) (s : List Sl) (j : Nat) (h : j < s.length) (h2 : j < (mkS k s).length) : (mkS k s)[j] = ⟨s[j].A, marks (k + 5 * tot (s.take j)) s[j].l.length, s[j].c⟩ := by
  induction s generalizing k j with
  | nil => simp at h
  | cons x s ih =>
    cases j with
    | zero => simp [mkS, tot]
    | succ j =>
      simp only [mkS, List.getElem_cons_succ, List.take_succ_cons]
      rw [ih _ j (by simpa using h)]
      have e : k + 5 * x.l.length + 5 * tot (s.take j) = k + 5 * tot (x :: s.take j) := by simp [tot]; omega
      rw [e]
theorem mkM_get (k : Nat) (m : List Ml) (j : Nat) (h : j < m.length) (h2 : j < (mkM k m).length) : (mkM k m)[j] = ⟨(kM k (m.take j) : Nat), (kM k (m.take j) : Nat) + 1, ⟨m[j].x.A, marks (kM k (m.take j) + 2) m[j].x.l.length, m[j].x.c⟩⟩ := by
  induction m generalizing k j with
  | nil => simp at h
  | cons x s ih =>
    cases j with
    | zero => simp [mkM, kM, tot]
    | succ j =>
      simp only [mkM, List.getElem_cons_succ, List.take_succ_cons]
      rw [ih _ j (by simpa using h)]
      have e : kM (k + 2 + 5 * x.x.l.length) (s.take j) = kM k (x :: s.take j) := by simp [kM, tot]; omega
      rw [e]

set_option maxHeartbeats 400000 in
theorem heldRowSS_any (A : Option Addr) (s : List Sl) (cap k : Nat) (w : World) (h : LSs w w.heap.size A (mkS k s)) (hl : s.length ≤ 1048576) (hk : k + 5 * tot s ≤ 10000000) (ht : tot s ≤ 1048576) :
    Calls Tryz.prog 214 #[.slice A s.length cap, .int .i64 k] w fun e w' => e = .returned (.int .i64 ((k + 5 * tot s : Nat) : Int)) ∧ Below w.heap.size w w' := by
  have H := Lib.hid h
  have HK := Lib.hid (show ∀ j, k + 5 * tot (s.take j) ≤ 10000000 from fun j => by have := tot_take (s := s) j; omega)
  have HT := Lib.hid (show ∀ x ∈ s, x.l.length ≤ 1048576 from fun x hx => by have := tot_mem hx; omega)
  clear h ht hk
  go_enter Tryz.func214, Tryz.ntmps214
  go_wp2_with fail
  go_loopw [1, 5] (fun z i wr => ∃ j : Nat, j ≤ s.length ∧ i = .int .i64 j ∧ z = .int .i64 ((k + 5 * tot (s.take j) : Nat) : Int) ∧ Hid (Below w.heap.size w wr)) (fun _ i _ => s.length - (intOf i).toNat)
  case atStart => exact ⟨0, by omega, rfl, by simp [tot], Lib.hid (Below.refl _ _)⟩
  case round =>
    obtain ⟨j, hj, rfl, rfl, HR⟩ := hrel
    by_cases hlt : j < s.length
    · have hK := HK.out j
      have hxl := HT.out s[j] (List.getElem_mem hlt)
      have HTS := Lib.hid (take_snoc s j hlt)
      have hlt2 : j < (mkS k s).length := by rw [mkS_len]; exact hlt
      obtain ⟨ad, rfl, _, c0, -⟩ := (H.out.below HR.out (Nat.le_refl _)).at_ hlt2
      have hL := H.out.2 _ (List.getElem_mem hlt2)
      rw [mkS_get k s j hlt hlt2] at c0 hL
      simp only [marks_len] at c0 hL
      clear hlt2
      obtain ⟨x, hx⟩ : ∃ x, s[j] = x := ⟨_, rfl⟩
      rw [hx] at hL hxl HTS c0
      clear hx
      obtain ⟨q, hq⟩ : ∃ q, k + 5 * tot (s.take j) = q := ⟨_, rfl⟩
      have HQ := Lib.hid hq
      rw [hq] at hK hL ⊢
      clear hq
      have HC := Lib.hid (Sto.heldRowS_any x.A x.l.length x.c q wr ((hL.below HR.out (Nat.le_refl _)).more HR.out.size) hxl hK)
      have hpos : ¬ ((q + 5 * x.l.length : Nat) : Int) < 0 := by omega
      clear hL
      obtain ⟨z, hz⟩ : ∃ z, q + 5 * x.l.length = z := ⟨_, rfl⟩
      have HZ := Lib.hid hz
      rw [hz] at HC hpos
      clear hz
      go_wp2_with fail
      refine HC.out.mono ?_
      rintro e w1 ⟨rfl, hb⟩
      have HB := Lib.hid (HR.out.trans (hb.mono HR.out.size))
      clear hb c0
      go_wp2_with fail
      go_roundw
      case rel =>
        refine ⟨j + 1, by omega, by go_num, ?_, HB⟩
        rw [HTS.out, tot_snoc]
        have := HQ.out
        have := HZ.out
        congr 1
        omega
      case measure => simp [intOf]; omega
    · have EJ := Lib.hid (show s.take j = s from List.take_of_length_le (by omega))
      go_wp2_with fail
      go_ret
      exact ⟨by rw [EJ.out]; rfl, HR.out⟩

set_option maxHeartbeats 1000000 in
set_option maxRecDepth 100000 in
theorem heldMailS_any (A : Option Addr) (m : List Ml) (cap k : Nat) (w : World) (h : LMs w w.heap.size A (mkM k m)) (hl : m.length ≤ 1048576) (hk : kM k m ≤ 10000000) (ht : tot (m.map (·.x)) ≤ 1048576) :
    Calls Tryz.prog 215 #[.slice A m.length cap, .int .i64 k] w fun e w' => e = .returned (.int .i64 ((kM k m : Nat) : Int)) ∧ Below w.heap.size w w' := by
  have H := Lib.hid h
  have HK := Lib.hid (show ∀ j (h : j < m.length), kM k (m.take j) + 2 ≤ 10000000 from fun j h => by
    have h1 := kM_take k m (j + 1)
    rw [take_snoc m j h, kM_snoc] at h1
    omega)
  have HT := Lib.hid (show ∀ y ∈ m, y.x.l.length ≤ 1048576 from fun y hy => by have := tot_mem (List.mem_map.2 ⟨y, hy, rfl⟩ : y.x ∈ m.map (·.x)); omega)
  clear h ht hk
  go_enter Tryz.func215, Tryz.ntmps215
  go_wp2_with fail
  go_loopw [1, 5] (fun z i wr => ∃ j : Nat, j ≤ m.length ∧ i = .int .i64 j ∧ z = .int .i64 ((kM k (m.take j) : Nat) : Int) ∧ Hid (Below w.heap.size w wr)) (fun _ i _ => m.length - (intOf i).toNat)
  case atStart => exact ⟨0, by omega, rfl, by simp [kM, tot], Lib.hid (Below.refl _ _)⟩
  case round =>
    obtain ⟨j, hj, rfl, rfl, HR⟩ := hrel
    by_cases hlt : j < m.length
    · have hK := HK.out j hlt
      have hxl := HT.out m[j] (List.getElem_mem hlt)
      have HTS := Lib.hid (take_snoc m j hlt)
      have hlt2 : j < (mkM k m).length := by rw [mkM_len]; exact hlt
      obtain ⟨ad, rfl, _, ⟨c0, c1, c2⟩, -⟩ := (H.out.below HR.out (Nat.le_refl _)).at_ hlt2
      have hL := H.out.2 _ (List.getElem_mem hlt2)
      rw [mkM_get k m j hlt hlt2] at c0 c1 c2 hL
      simp only [marks_len] at c0 c1 c2 hL
      clear hlt2
      obtain ⟨y, hy⟩ : ∃ y, m[j] = y := ⟨_, rfl⟩
      rw [hy] at hL hxl HTS c2
      clear hy
      obtain ⟨q, hq⟩ : ∃ q, kM k (m.take j) = q := ⟨_, rfl⟩
      have HQ := Lib.hid hq
      rw [hq] at hK hL c0 c1 ⊢
      clear hq
      have HC := Lib.hid (Sto.heldRowS_any y.x.A y.x.l.length y.x.c (q + 2) wr ((hL.below HR.out (Nat.le_refl _)).more HR.out.size) hxl hK)
      have hpos : ¬ ((q + 2 + 5 * y.x.l.length : Nat) : Int) < 0 := by omega
      have hq2 : (((q + 2 : Nat)) : Int) = (q : Int) + 1 + 1 := by omega
      clear hL
      obtain ⟨z, hz⟩ : ∃ z, q + 2 + 5 * y.x.l.length = z := ⟨_, rfl⟩
      have HZ := Lib.hid hz
      rw [hz] at HC hpos
      rw [hq2] at HC
      have hb1 : ((q : Int) != (q : Int)) = false := by simp
      have hb2 : ((q : Int) + 1 != (q : Int) + 1) = false := by simp
      clear hz hq2
      go_wp2_with fail
      refine HC.out.mono ?_
      rintro e w1 ⟨rfl, hb⟩
      have HB := Lib.hid (HR.out.trans (hb.mono HR.out.size))
      clear hb c0 c1 c2
      go_wp2_with fail
      go_roundw
      case rel =>
        refine ⟨j + 1, by omega, by go_num, ?_, HB⟩
        rw [HTS.out, kM_snoc, HQ.out, HZ.out]
        try (first | rfl | go_num)
      case measure => simp [intOf]; omega
    · have EJ := Lib.hid (show m.take j = m from List.take_of_length_le (by omega))
      go_wp2_with fail
      go_ret
      exact ⟨by rw [EJ.out]; rfl, HR.out⟩

theorem heldNet_any (n : Nt) (k : Nat) (w : World) (h : NLies w w.heap.size (mkN k n)) (hs : Short k n) :
    Calls Tryz.prog 116 #[n.val, .int .i64 k] w fun e w' => e = .returned (.int .i64 ((kN k n : Nat) : Int)) ∧ Below w.heap.size w w' := by
  obtain ⟨A, s, ca, B, m, cb⟩ := n
  obtain ⟨h1, h2, h3, h4⟩ := hs
  unfold Nt.all at h3
  rw [tot_append] at h3
  simp only at h1 h2 h3
  unfold kN at h4 ⊢
  unfold mkN at h
  simp only at h4 h ⊢
  have hk1 : k + 5 * tot s ≤ 10000000 := by unfold kM at h4; omega
  unfold Nt.val
  have B0 := (Below.refl w.heap.size w).alloc (Nat.le_refl _) (Obj.cells #[.slice A s.length ca, .slice B m.length cb] 35)
  have p := Blk.new w 35 #[.slice A s.length ca, .slice B m.length cb]
  have HC := Lib.hid (fun W (hW : Below w.heap.size w W) => heldRowSS_any A s ca k W (h.1.on hW) h1 hk1 (by omega))
  have HC2 := Lib.hid (fun W (hW : Below w.heap.size w W) => heldMailS_any B m cb (k + 5 * tot s) W (h.2.on hW) h2 h4 (by omega))
  have hp1 : ¬ ((k + 5 * tot s : Nat) : Int) < 0 := by omega
  have hp2 : ¬ ((kM (k + 5 * tot s) m : Nat) : Int) < 0 := by omega
  obtain ⟨z, hz⟩ : ∃ z, k + 5 * tot s = z := ⟨_, rfl⟩
  have HZ := Lib.hid hz
  rw [hz] at HC HC2 hp1 hp2
  obtain ⟨y, hy⟩ : ∃ y, kM z m = y := ⟨_, rfl⟩
  have HY := Lib.hid hy
  rw [hy] at HC2 hp2
  clear h hz hy h1 h2 h3 h4 hk1
  go_enter Tryz.func116, Tryz.ntmps116
  go_wp2_with fail
  refine (HC.out _ B0).mono ?_
  rintro e w1 ⟨rfl, hb⟩
  have B1 := B0.trans (hb.mono B0.size)
  obtain ⟨p0, p1⟩ := blk2 (p.on hb)
  clear hb p B0
  go_wp2_with fail
  refine (HC2.out _ B1).mono ?_
  rintro e w2 ⟨rfl, hb⟩
  have B2 := Lib.hid (B1.trans (hb.mono B1.size))
  clear hb p0 p1 B1
  go_wp2_with fail
  go_ret
  exact ⟨by rw [HZ.out, HY.out]; rfl, B2.out⟩

theorem heldNetOut_any (n : Nt) (c : Int) (k : Nat) (w : World) (h : NLies w w.heap.size (mkN k n)) (hs : Short k n) :
    Calls Tryz.prog 23 #[n.out c, .int .i64 k] w fun e w' => e = .returned (.int .i64 ((kN k n : Nat) : Int)) ∧ Below w.heap.size w w' := by
  have B0 := (Below.refl w.heap.size w).alloc (Nat.le_refl _) (Obj.cells #[.slice n.A n.s.length n.ca, .slice n.B n.m.length n.cb, .int .i64 c] 37)
  have HC := Lib.hid (heldNet_any n k _ (h.on B0) hs)
  have HB := Lib.hid B0
  have hp : ¬ ((kN k n : Nat) : Int) < 0 := by omega
  obtain ⟨z, hz⟩ : ∃ z, kN k n = z := ⟨_, rfl⟩
  have HZ := Lib.hid hz
  rw [hz] at HC hp ⊢
  clear h hs hz B0
  unfold Nt.val at HC
  unfold Nt.out
  go_enter Tryz.func23, Tryz.ntmps23
  go_wp2_with fail
  refine HC.out.mono ?_
  rintro e w1 ⟨rfl, hb⟩
  have HB1 := Lib.hid (HB.out.trans (hb.mono HB.out.size))
  clear hb
  go_wp2_with fail
  go_ret
  exact ⟨rfl, HB1.out⟩
end Go.Proofs.YtoagdpbbojlgfaaGreat.Net
