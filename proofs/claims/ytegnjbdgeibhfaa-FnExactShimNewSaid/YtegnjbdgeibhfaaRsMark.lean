/-
  The law's own marks on a list of records: markRecS.
-/
import Derived.Test.YtegnjbdgeibhfaaRsTch
namespace Go.Proofs.Ytegnjbdgeibhfaa.Rs
open Go.ChangeShapes Go.WideShapes Go.ChangeAt Go.RowKit
open Rec (R P Sound Small recV cellsV)
open Net (Cl Bk HeldV)
set_option linter.unusedVariables false
set_option maxRecDepth 100000
set_option linter.unusedSimpArgs false

/-- The types that a mark on records turns. -/
abbrev tsR : List Nat := [80, 9, 61]
/-- How many marks a record takes. -/
def wQ (q : Q) : Nat := 6 + 4 * q.r.l.length + q.r.b.length
def kR (l : List Q) : Nat := (l.map wQ).sum
theorem kR_cons (q : Q) (l : List Q) : kR (q :: l) = wQ q + kR l := by simp [kR]
theorem kR_append (a b : List Q) : kR (a ++ b) = kR a + kR b := by simp [kR]
theorem kR_le (l : List Q) : kR l ≤ 6 * (l.length + tot l) := by
  induction l with
  | nil => simp [kR]
  | cons q l ih =>
    rw [kR_cons]
    have e : tot (q :: l) = q.r.l.length + q.r.b.length + tot l := by simp [tot]
    rw [e, List.length_cons]
    unfold wQ
    omega
/-- A marked record. -/
def mkQ (k : Nat) (q : Q) : Q := ⟨⟨Dep.markV k, ⟨(k : Int) + 1, (k : Int) + 2, (k : Int) + 3⟩, Dep.markV (k + 4), (k + 5) % 3 == 0, Dep.marks (k + 6) q.r.l.length, Str.marks (k + 6 + 4 * q.r.l.length) q.r.b.length⟩, q.p⟩
def mkRs : Nat → List Q → List Q
  | _, [] => []
  | k, q :: l => mkQ k q :: mkRs (k + wQ q) l
theorem mkRs_len (k : Nat) (l : List Q) : (mkRs k l).length = l.length := by
  induction l generalizing k with
  | nil => rfl
  | cons q l ih => simp [mkRs, ih]
theorem mkRs_snoc (k : Nat) (l : List Q) (q : Q) : mkRs k (l ++ [q]) = mkRs k l ++ [mkQ (k + kR l) q] := by
  induction l generalizing k with
  | nil => simp [mkRs, kR]
  | cons x l ih =>
    simp only [List.cons_append, mkRs, ih]
    rw [kR_cons, Nat.add_assoc]
theorem dmarks_len (k n : Nat) : (Dep.marks k n).length = n := by simp [Dep.marks]
theorem smarks_len (k n : Nat) : (Str.marks k n).length = n := by simp [Str.marks]
/-- The first six cells of one record are turned. -/
theorem rv_turn (S T : List Q) (x y : Q) (h6 : (qc y)[6]? = (qc x)[6]?) (h7 : (qc y)[7]? = (qc x)[7]?) {j : Nat} (hj : S.length = j) :
    ((((((rv (S ++ x :: T)).set (j * 8) (.string y.r.k)).set (j * 8 + 1) (.int .i64 y.r.i.c)).set (j * 8 + 2) (.int .i64 y.r.i.s)).set (j * 8 + 3) (.int .i64 y.r.i.e)).set (j * 8 + 4) (.string y.r.d)).set (j * 8 + 5) (.bool y.r.g) = rv (S ++ y :: T) := by
  subst hj
  have hl : (rv S).length = S.length * 8 := rv_len S
  simp only [qc, List.getElem?_cons_succ, List.getElem?_cons_zero, Option.some.injEq] at h6 h7
  rw [rv_append, rv_append, rv_cons, rv_cons]
  generalize hrs : rv S = rs at hl ⊢
  generalize rv T = rt
  rw [List.set_append_right _ _ (by omega), List.set_append_right _ _ (by omega), List.set_append_right _ _ (by omega), List.set_append_right _ _ (by omega), List.set_append_right _ _ (by omega), List.set_append_right _ _ (by omega)]
  congr 1
  rw [hl]
  simp only [Nat.sub_self, Nat.add_sub_cancel_left, qc, List.cons_append, List.nil_append, List.set_cons_zero, List.set_cons_succ]
  rw [h6, h7]

theorem rv_ne (S T : List Q) (x : Q) : rv (S ++ x :: T) ≠ [] := by
  intro h
  have := congrArg List.length h
  rw [rv_len] at this
  simp at this
theorem held_bk {w : World} {A : Option Addr} {S T : List Q} {x : Q} {lo hi : Nat} (h : HeldRs w A (S ++ x :: T) lo hi) :
    ∃ g n, A = some ⟨g, 0, none⟩ ∧ Bk w g 61 n (rv (S ++ x :: T)) ∧ lo ≤ g ∧ g < hi ∧ (S.length + 1) * 8 ≤ n := by
  rcases h.v with h | ⟨g, n, e, hB, h1, h2⟩
  · exact absurd h (rv_ne S T x)
  · refine ⟨g, n, e, hB, h1, h2, ?_⟩
    obtain ⟨cs, _, _, hl, _⟩ := hB
    rw [rv_len, List.length_append, List.length_cons] at hl
    omega
theorem rv_mid (S T : List Q) (x : Q) {j r : Nat} (hj : S.length = j) (hr : r < 8) : (rv (S ++ x :: T))[j * 8 + r]? = (qc x)[r]? := by
  rw [rv_at (by simp; omega) hr]
  subst hj
  simp

/-- A block of records stands, with the lists of the records; what was marked. -/
structure Mid (w W : World) (g n lo hi : Nat) (vs : List Value) (l : List Q) : Prop where
  bk : Bk W g 61 n vs
  q : HeldQ W l lo hi
  t : Tch tsR w W lo hi
theorem Tch.setBk {ts : List Nat} {W W' : World} {lo hi g t n : Nat} {vs : List Value} (h : Tch ts W W' lo hi) (hb : Bk W' g t n vs) (ht : t ∈ ts) (h1 : lo ≤ g) (h2 : g < hi) (i : Nat) (u : Value) : Tch ts W (W'.setCell ⟨g, i, none⟩ u) lo hi := by
  obtain ⟨cs, hc, _⟩ := hb
  exact h.set hc ht h1 h2 i u
theorem Mid.set {w W : World} {g n lo hi : Nat} {vs : List Value} {l : List Q} (h : Mid w W g n lo hi vs l) (h1 : lo ≤ g) (h2 : g < hi) (i : Nat) (u : Value) : Mid w (W.setCell ⟨g, i, none⟩ u) g n lo hi (vs.set i u) l :=
  ⟨h.bk.set u, heldQ_set h.q h.bk i u, h.t.setBk h.bk (by decide) h1 h2 i u⟩
theorem Mid.step {w W W' : World} {g n lo hi : Nat} {vs : List Value} {l : List Q} (h : Mid w W g n lo hi vs l) (hb : Below W.heap.size W W') : Mid w W' g n lo hi vs l :=
  ⟨h.bk.on hb, h.q.step hb (.inr (Nat.le_refl _)), h.t.trans (Tch.ofBelow hb)⟩
theorem Mid.vs {w W : World} {g n lo hi : Nat} {vs vs' : List Value} {l : List Q} (h : Mid w W g n lo hi vs l) (e : vs = vs') : Mid w W g n lo hi vs' l := e ▸ h
/-- The deps of one record are marked. -/
theorem Mid.deps {w W W' : World} {g n lo hi a b : Nat} {S T : List Q} {x : Q} {m : Nat} {vs : List Value} (h : Mid w W g n lo hi vs (S ++ x :: T)) (hS : HeldQ W S lo a) (hT : HeldQ W T b hi) (hab : a ≤ b) (hx : Str.Held W x.p.B x.r.b a b)
    (ht : Dep.Turned W W' a b) (hd : Dep.Held W' x.p.A (Dep.marks m x.r.l.length) a b) :
    Bk W' g 61 n vs ∧ HeldQ W' S lo a ∧ HeldQ W' T b hi ∧ Str.Held W' x.p.B x.r.b a b ∧ Tch tsR w W' lo hi := by
  have h1 : Tch [80] W W' a b := Tch.ofDeps ht (by simp)
  have la := hS.le
  have lb := hT.le
  exact ⟨h1.bk h.bk (by decide), h1.recs hS (by omega), h1.recs hT (by omega), hx.turned ht, h.t.trans (h1.wide (by decide) (by omega) (by omega))⟩

set_option maxHeartbeats 8000000 in
set_option maxRecDepth 100000 in
theorem markRecS_any (A : Option Addr) (l : List Q) (cap k lo hi : Nat) (w : World) (h : HeldRs w A l lo hi) (hl : l.length ≤ 1048576) (hll : ∀ q ∈ l, q.r.l.length ≤ 1048576 ∧ q.r.b.length ≤ 1048576) (hk : k + kR l ≤ 9000000) :
    Calls Try.prog 27 #[.slice A l.length cap, .int .i64 k] w fun e w' => e = .returned (.int .i64 ((k + kR l : Nat) : Int)) ∧ HeldRs w' A (mkRs k l) lo hi ∧ Tch tsR w w' lo hi := by
  have H := Lib.hid h
  have HKB := Lib.hid hk
  have HLL := Lib.hid hll
  clear h hk hll
  go_enter Try.func27, Try.ntmps27
  go_wp2_with fail
  go_loopw [1, 5] (fun z i wr => ∃ j : Nat, j ≤ l.length ∧ i = .int .i64 j ∧ ∃ m : Nat, m ≤ 9000000 ∧ z = .int .i64 m ∧ Hid (m = k + kR (l.take j) ∧ HeldRs wr A (mkRs k (l.take j) ++ l.drop j) lo hi ∧ Tch tsR w wr lo hi)) (fun _ i _ => l.length - (intOf i).toNat)
  case atStart => exact ⟨0, by omega, rfl, k, by have := HKB.out; omega, rfl, Lib.hid ⟨by simp [kR], by simpa [mkRs] using H.out, Tch.refl _ _ _ _⟩⟩
  case round =>
    obtain ⟨j, hj, rfl, m, hm, rfl, HR⟩ := hrel
    by_cases hlt : j < l.length
    · obtain ⟨hm1, hH, hT⟩ := HR.out
      rw [List.drop_eq_getElem_cons hlt] at hH
      have HST := Lib.hid (show mkRs k (l.take (j + 1)) = mkRs k (l.take j) ++ [mkQ m l[j]] from by rw [take_snoc l j hlt, mkRs_snoc, hm1])
      have HKS := Lib.hid (show k + kR (l.take (j + 1)) = m + wQ l[j] from by rw [take_snoc l j hlt, kR_append, hm1]; simp [kR]; omega)
      have hkb : k + kR (l.take (j + 1)) ≤ k + kR l := by
        have := kR_append (l.take (j + 1)) (l.drop (j + 1))
        rw [List.take_append_drop] at this
        omega
      have hPl : (mkRs k (l.take j)).length = j := by rw [mkRs_len, List.length_take]; omega
      have hwb : m + wQ l[j] ≤ 9000000 := by have := HKS.out; have := HKB.out; omega
      have HXL := Lib.hid (HLL.out l[j] (List.getElem_mem hlt))
      have HPL := Lib.hid hPl
      have HWB := Lib.hid hwb
      obtain ⟨S, hS⟩ : ∃ S, mkRs k (l.take j) = S := ⟨_, rfl⟩
      obtain ⟨T, hT2⟩ : ∃ T, l.drop (j + 1) = T := ⟨_, rfl⟩
      have HDT := Lib.hid hT2
      obtain ⟨x, hx⟩ : ∃ x, l[j] = x := ⟨_, rfl⟩
      rw [hx] at hH HST HKS HWB HXL
      rw [hS] at hH HST HPL
      rw [hT2] at hH
      clear hkb hPl hwb hS hT2 hx hm1
      obtain ⟨g, n, rfl, hB, hg1, hg2, hn⟩ := held_bk hH
      rw [HPL.out] at hn
      have HG := Lib.hid (show lo ≤ g ∧ g < hi from ⟨hg1, hg2⟩)
      have HM0 := Lib.hid (show Mid w wr g n lo hi (rv (S ++ x :: T)) (S ++ x :: T) from ⟨hB, hH.q, hT⟩)
      have HN := Lib.hid hn
      clear hB hH hT hg1 hg2 hn
      go_wp2_with fail
      refine (Dep.markText_any m _ (by omega)).mono ?_
      rintro e w1 ⟨rfl, hb1⟩
      have HM1 := Lib.hid (HM0.out.step hb1)
      obtain ⟨mv, hmv⟩ : ∃ mv, Dep.markV m = mv := ⟨_, rfl⟩
      have HMV := Lib.hid hmv
      rw [hmv]
      obtain ⟨u0, e0⟩ := HM1.out.bk.cell (j := j * 8) (by have := HN.out; omega)
      obtain ⟨u1, e1⟩ := HM1.out.bk.cell (j := j * 8 + 1) (by have := HN.out; omega)
      obtain ⟨u2, e2⟩ := HM1.out.bk.cell (j := j * 8 + 2) (by have := HN.out; omega)
      obtain ⟨u3, e3⟩ := HM1.out.bk.cell (j := j * 8 + 3) (by have := HN.out; omega)
      have f0 := HM1.out.bk.free (j * 8)
      have f1 := HM1.out.bk.free (j * 8 + 1)
      have f2 := HM1.out.bk.free (j * 8 + 2)
      have f3 := HM1.out.bk.free (j * 8 + 3)
      clear hb1 hmv
      go_wp2_with fail
      have HM4 := Lib.hid ((((HM1.out.set HG.out.1 HG.out.2 (j * 8) (.string mv)).set HG.out.1 HG.out.2 (j * 8 + 1) (.int .i64 ((m : Int) + 1))).set HG.out.1 HG.out.2 (j * 8 + 1 + 1) (.int .i64 ((m : Int) + 1 + 1))).set HG.out.1 HG.out.2 (j * 8 + 1 + 2) (.int .i64 ((m : Int) + 1 + 1 + 1)))
      have hc2 := fun W => Dep.markText_any (m + 4) W (by omega)
      rw [show ((m + 4 : Nat) : Int) = (m : Int) + 1 + 1 + 1 + 1 by omega] at hc2
      obtain ⟨mv4, hmv4⟩ : ∃ mv, Dep.markV (m + 4) = mv := ⟨_, rfl⟩
      have HMV4 := Lib.hid hmv4
      rw [hmv4] at hc2
      refine (hc2 _).mono ?_
      rintro e w5 ⟨rfl, hb5⟩
      have HM5 := Lib.hid (HM4.out.step hb5)
      obtain ⟨u4, e4⟩ := HM5.out.bk.cell (j := j * 8 + 4) (by have := HN.out; omega)
      obtain ⟨u5, e5⟩ := HM5.out.bk.cell (j := j * 8 + 5) (by have := HN.out; omega)
      have f4 := HM5.out.bk.free (j * 8 + 4)
      have f5 := HM5.out.bk.free (j * 8 + 5)
      clear hb5 hmv4 hc2 e0 e1 e2 e3 f0 f1 f2 f3
      obtain ⟨gb, hgb⟩ : ∃ gb, ((m + 5) % 3 == 0) = gb := ⟨_, rfl⟩
      have HGB := Lib.hid hgb
      have hrem : ((m : Int) + 1 + 1 + 1 + 1 + 1).tmod 3 = (((m + 5) % 3 : Nat) : Int) := by rw [Int.tmod_eq_emod_of_nonneg (by omega)]; omega
      have hgz : ((((m + 5) % 3 : Nat) : Int) == 0) = gb := by
        rw [← hgb]
        by_cases e : (m + 5) % 3 = 0
        · rw [e]; rfl
        · have e2 : ¬ (((m + 5) % 3 : Nat) : Int) = 0 := by omega
          rw [beq_eq_false_iff_ne.2 e, beq_eq_false_iff_ne.2 e2]
      obtain ⟨t5, ht5⟩ : ∃ t : Int, (((m + 5) % 3 : Nat) : Int) = t := ⟨_, rfl⟩
      rw [ht5] at hrem hgz
      clear hgb ht5
      have HTU := Lib.hid (rv_turn S T x ⟨⟨mv, ⟨(m : Int) + 1, (m : Int) + 1 + 1, (m : Int) + 1 + 1 + 1⟩, mv4, gb, x.r.l, x.r.b⟩, x.p⟩ rfl rfl HPL.out)
      have h6 : w5.cell? ⟨g, j * 8 + 6, none⟩ = some (.slice x.p.A x.r.l.length x.p.ca) := HM5.out.bk.at_ (by
        rw [List.getElem?_set_ne (by omega), List.getElem?_set_ne (by omega), List.getElem?_set_ne (by omega), List.getElem?_set_ne (by omega)]
        exact (rv_mid S T x HPL.out (by omega)).trans rfl)
      go_wp2_with fail
      have hm6 := ((HM5.out.set HG.out.1 HG.out.2 (j * 8 + 4) (.string mv4)).set HG.out.1 HG.out.2 (j * 8 + 5) (.bool gb)).vs HTU.out
      obtain ⟨a, b, hS, hab, hxh, hTT⟩ := hm6.q.split
      have HM6 := Lib.hid hm6
      have HSA := Lib.hid hS
      have HTB := Lib.hid hTT
      have HAB := Lib.hid hab
      have HXS := Lib.hid hxh.2
      have hd2 := Dep.mark_any x.p.A x.r.l x.p.ca (m + 6) a b _ hxh.1 HXL.out.1 (by omega)
      rw [show ((m + 6 : Nat) : Int) = (m : Int) + 1 + 1 + 1 + 1 + 1 + 1 by omega] at hd2
      clear hm6 hS hab hxh hTT e4 e5 f4 f5 h6 hrem hgz
      obtain ⟨z2, hz2⟩ : ∃ z2 : Nat, m + 6 + 4 * x.r.l.length = z2 := ⟨_, rfl⟩
      have HZ2 := Lib.hid hz2
      rw [hz2] at hd2
      clear hz2
      refine hd2.mono ?_
      rintro e w7 ⟨rfl, hdd, hdt⟩
      have hd7 := HM6.out.deps HSA.out HTB.out HAB.out HXS.out hdt hdd
      have HB7 := Lib.hid hd7.1
      have HS7 := Lib.hid hd7.2.1
      have HT7 := Lib.hid hd7.2.2.1
      have HXS7 := Lib.hid hd7.2.2.2.1
      have HTC7 := Lib.hid hd7.2.2.2.2
      have HDD := Lib.hid hdd
      have h7 : w7.cell? ⟨g, j * 8 + 7, none⟩ = some (.slice x.p.B x.r.b.length x.p.cb) := HB7.out.at_ ((rv_mid S T _ HPL.out (by omega)).trans rfl)
      have hz3 : z2 ≤ 9000000 := by have := HZ2.out; have := HWB.out; unfold wQ at this; omega
      have hst := Str.mark_any x.p.B x.r.b x.p.cb z2 a b w7 HXS7.out HXL.out.2 (by omega)
      obtain ⟨z4, hz4⟩ : ∃ z4 : Nat, z2 + x.r.b.length = z4 := ⟨_, rfl⟩
      have HZ4 := Lib.hid hz4
      rw [hz4] at hst
      have HST2 := Lib.hid hst
      clear hd7 hdt hdd hz4 hst
      go_wp2_with fail
      refine HST2.out.mono ?_
      rintro e w8 ⟨rfl, hss, hstt⟩
      have h8 : Tch [9] w7 w8 a b := Tch.ofStrs hstt (by simp)
      have la := HS7.out.le
      have lb := HT7.out.le
      have hlab := HAB.out
      have HB8 := Lib.hid (h8.bk HB7.out (by decide))
      have HQ8 := Lib.hid (HeldQ.join (x := mkQ m x) HAB.out ⟨by unfold mkQ; exact hstt.deps HDD.out, by unfold mkQ; rw [HZ2.out]; exact hss⟩ (h8.recs HT7.out (by omega)) (h8.recs HS7.out (by omega)))
      have HTC8 := Lib.hid (HTC7.out.trans (h8.wide (by decide) (by omega) (by omega)))
      have hz5 : z4 ≤ 9000000 := by have := HZ4.out; have := HZ2.out; have := HWB.out; unfold wQ at this; omega
      have HZW := Lib.hid (show z4 = m + wQ x from by have := HZ4.out; have := HZ2.out; unfold wQ; omega)
      clear h7 hss hstt h8 la lb hlab hz3
      go_wp2_with fail
      go_roundw
      case rel =>
        refine ⟨j + 1, by omega, by go_num, z4, hz5, rfl, Lib.hid ⟨by rw [HKS.out, HZW.out], ?_, HTC8.out⟩⟩
        rw [HST.out, List.append_assoc, List.singleton_append, HDT.out]
        refine ⟨HeldV.of_bk (n := n) ?_ HG.out.1 HG.out.2, HQ8.out⟩
        have hb := HB8.out
        have hq : qc (⟨⟨mv, ⟨(m : Int) + 1, (m : Int) + 1 + 1, (m : Int) + 1 + 1 + 1⟩, mv4, gb, x.r.l, x.r.b⟩, x.p⟩ : Q) = qc (mkQ m x) := by
          unfold qc mkQ
          simp only [dmarks_len, smarks_len, HMV.out, HMV4.out, HGB.out]
          rw [show (m : Int) + 1 + 1 = (m : Int) + 2 by omega, show (m : Int) + 2 + 1 = (m : Int) + 3 by omega]
        rw [rv_append, rv_cons, hq, ← rv_cons, ← rv_append] at hb
        exact hb
      case measure => simp [intOf]; omega
    · have HE := Lib.hid (show l.take j = l from List.take_of_length_le (by omega))
      have HD := Lib.hid (show l.drop j = [] from List.drop_eq_nil_of_le (by omega))
      go_wp2_with fail
      go_ret
      have h1 := HR.out.1
      have h2 := HR.out.2.1
      rw [HE.out] at h1 h2
      rw [HD.out, List.append_nil] at h2
      exact ⟨by rw [h1]; rfl, h2, HR.out.2.2⟩
end Go.Proofs.Ytegnjbdgeibhfaa.Rs
