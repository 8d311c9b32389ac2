/-
  The law's own toRecS, szRecS, eqRecS.
-/
import Derived.Test.YtoagdpbbojlgfaaRsLies
import Derived.Test.YtoagdpbbojlgfaaRecSame
namespace Go.Proofs.Ytoagdpbbojlgfaa.Rs
open Go.ChangeShapes Go.WideShapes Go.ChangeAt Go.RowKit
open Rec (R P Sound Small recV cellsV)
open Net (Cl Bk HeldV)
open Dep (add_block add_add)
set_option linter.unusedVariables false
set_option maxRecDepth 100000

theorem rec_info : (Try.prog.info? 47).map (fun i => (i.zero, i.size, i.bytes)) = some (some (.agg #[.string ⟨#[]⟩, .int .i64 0, .int .i64 0, .int .i64 0, .string ⟨#[]⟩, .bool false, .slice none 0 0, .slice none 0 0]), 8, 112) := by kernel_rfl
theorem take_snoc {α : Type} (l : List α) (k : Nat) (h : k < l.length) : l.take (k + 1) = l.take k ++ [l[k]] := by simp

theorem heldQ_set {w : World} {l : List Q} {a b g n : Nat} {vs : List Value} (h : HeldQ w l a b) (hB : Bk w g 47 n vs) (i : Nat) (u : Value) : HeldQ (w.setCell ⟨g, i, none⟩ u) l a b :=
  h.types fun k cs t hc ht => heap_setCell_other w _ k u fun e => by
    obtain ⟨cs', hc', _⟩ := hB
    rw [show k = g from e, hc'] at hc
    injection hc with hc
    injection hc with _ h5
    exact ht h5.symm

set_option maxHeartbeats 1000000 in
theorem toRecS_any (A : Option Addr) (l : List Q) (cap : Nat) (w : World) (h : LRs w w.heap.size A l) (hl : l.length ≤ 1048576) (hll : ∀ q ∈ l, q.r.l.length ≤ 1048576 ∧ q.r.b.length ≤ 1048576) :
    Calls Try.prog 12 #[.slice A l.length cap] w fun e w' => ∃ g l', e = .returned (.slice (some ⟨g, 0, none⟩) l'.length l'.length) ∧ pr l' = pr l ∧ w.heap.size ≤ g ∧ Bk w' g 47 (l'.length * 8) (rv l') ∧ HeldQ w' l' w.heap.size w'.heap.size ∧ Below w.heap.size w w' := by
  have H := Lib.hid h
  have HL := Lib.hid hll
  clear h hll
  obtain ⟨i0, hi0, hz0, hz1, hz2⟩ := info_parts rec_info
  have hmk := run_make (P := Try.prog) w 27 47 i0 _ Try.underlying27 hi0 hz0 .i64 .i64 l.length l.length (by omega) (Int.le_refl _) (by rw [hz2]; omega) (by omega)
  rw [hz1] at hmk
  clear hi0 hz0 hz1 hz2
  go_enter Try.func12, Try.ntmps12
  go_wp2_with fail
  rw [Int.toNat_natCast] at hmk
  have HO := Lib.hid (Bk.new w (Value.agg #[.string ⟨#[]⟩, .int .i64 0, .int .i64 0, .int .i64 0, .string ⟨#[]⟩, .bool false, .slice none 0 0, .slice none 0 0]).cells 47 (l.length * 8))
  generalize hg : w.heap.size = g at *
  go_loopw [4] (fun i wr => ∃ k : Nat, k ≤ l.length ∧ i = .int .i64 k ∧ ∃ l' : List Q, Hid (pr l' = pr (l.take k) ∧ Bk wr g 47 (l.length * 8) (rv l') ∧ HeldQ wr l' g wr.heap.size ∧ Below g w wr)) (fun i _ => l.length - (intOf i).toNat)
  case atStart => exact ⟨0, by omega, rfl, [], Lib.hid ⟨rfl, HO.out, by show g ≤ _; simp; omega, (Below.refl _ _).alloc (by omega) _⟩⟩
  case round =>
    obtain ⟨k, hk, rfl, l', HR⟩ := hrel
    by_cases hlt : k < l.length
    · obtain ⟨ad, rfl, hb, ⟨c0, c1, c2, c3, c4, c5, c6, c7⟩, hLs⟩ := (H.out.below HR.out.2.2.2 (Nat.le_refl _)).at_ hlt
      obtain ⟨hx1, hx2⟩ := HL.out l[k] (List.getElem_mem hlt)
      have HT := Lib.hid (take_snoc l k hlt)
      obtain ⟨x, hx⟩ : ∃ x, l[k] = x := ⟨_, rfl⟩
      rw [hx] at c0 c1 c2 c3 c4 c5 c6 c7 hLs hx1 hx2 HT
      clear hx
      obtain ⟨r, p⟩ := x
      simp only at c0 c1 c2 c3 c4 c5 c6 c7 hLs hx1 hx2
      have HC := Lib.hid (Rec.toRec_any r p wr (hLs.step (Below.refl g wr) (Nat.le_refl _) (by have := HR.out.2.2.2.size; omega)) hx1 hx2)
      unfold recV at HC
      clear hLs
      go_wp2_with fail
      refine HC.out.mono ?_
      rintro e w1 ⟨p', rfl, hh1, -, -, hb1⟩
      have hbk := HR.out.2.1.on hb1
      have hlen : l'.length = k := by have := congrArg List.length HR.out.1; simpa [pr_len, Nat.min_eq_left hk] using this
      obtain ⟨u0, e0⟩ := hbk.cell (j := k * 8) (by omega)
      obtain ⟨u1, e1⟩ := hbk.cell (j := k * 8 + 1) (by omega)
      obtain ⟨u2, e2⟩ := hbk.cell (j := k * 8 + 2) (by omega)
      obtain ⟨u3, e3⟩ := hbk.cell (j := k * 8 + 3) (by omega)
      obtain ⟨u4, e4⟩ := hbk.cell (j := k * 8 + 4) (by omega)
      obtain ⟨u5, e5⟩ := hbk.cell (j := k * 8 + 5) (by omega)
      obtain ⟨u6, e6⟩ := hbk.cell (j := k * 8 + 6) (by omega)
      obtain ⟨u7, e7⟩ := hbk.cell (j := k * 8 + 7) (by omega)
      have f0 := hbk.free (k * 8)
      have f1 := hbk.free (k * 8 + 1)
      have f2 := hbk.free (k * 8 + 2)
      have f3 := hbk.free (k * 8 + 3)
      have f4 := hbk.free (k * 8 + 4)
      have f5 := hbk.free (k * 8 + 5)
      have f6 := hbk.free (k * 8 + 6)
      have f7 := hbk.free (k * 8 + 7)
      have HN := Lib.hid (show HeldQ w1 (l' ++ [⟨r, p'⟩]) g w1.heap.size from HeldQ.snoc (q := ⟨r, p'⟩) hh1 hb1.size (HR.out.2.2.1.step hb1 (.inr (Nat.le_refl _))) (Nat.le_refl _))
      have HB := Lib.hid (HR.out.2.2.2.trans (hb1.mono (by have := HR.out.2.2.2.size; omega)))
      have h1 := hbk.put (k := k * 8) (by rw [rv_len, hlen]) (by omega) (.string r.k)
      have h2 := h1.put (k := k * 8 + 1) (by simp [rv_len, hlen]) (by omega) (.int .i64 r.i.c)
      have h3 := h2.put (k := k * 8 + 2) (by simp [rv_len, hlen]) (by omega) (.int .i64 r.i.s)
      have h4 := h3.put (k := k * 8 + 3) (by simp [rv_len, hlen]) (by omega) (.int .i64 r.i.e)
      have h5 := h4.put (k := k * 8 + 4) (by simp [rv_len, hlen]) (by omega) (.string r.d)
      have h6 := h5.put (k := k * 8 + 5) (by simp [rv_len, hlen]) (by omega) (.bool r.g)
      have h7 := h6.put (k := k * 8 + 6) (by simp [rv_len, hlen]) (by omega) (.slice p'.A r.l.length p'.ca)
      have h8 := h7.put (k := k * 8 + 7) (by simp [rv_len, hlen]) (by omega) (.slice p'.B r.b.length p'.cb)
      have HP := Lib.hid HR.out.1
      have K0 := Lib.hid hbk
      have K1 := Lib.hid h1
      have K2 := Lib.hid h2
      have K3 := Lib.hid h3
      have K4 := Lib.hid h4
      have K5 := Lib.hid h5
      have K6 := Lib.hid h6
      have K7 := Lib.hid h7
      have K8 := Lib.hid h8
      clear hbk hb1 hh1 c0 c1 c2 c3 c4 c5 c6 c7 h1 h2 h3 h4 h5 h6 h7 h8 hlen HC
      go_wp2_with fail
      go_roundw
      case rel =>
        refine ⟨k + 1, by omega, by go_num, l' ++ [⟨r, p'⟩], Lib.hid ⟨?_, ?_, ?_, (((((((HB.out.setCell (Nat.le_refl _) _).setCell (Nat.le_refl _) _).setCell (Nat.le_refl _) _).setCell (Nat.le_refl _) _).setCell (Nat.le_refl _) _).setCell (Nat.le_refl _) _).setCell (Nat.le_refl _) _).setCell (Nat.le_refl _) _⟩⟩
        · rw [HT.out]; simp only [pr, List.map_append]; have := HP.out; unfold pr at this; rw [this]; rfl
        · rw [rv_append]; have := K8.out; simpa [rv, qc] using this
        · simp only [World.size_setCell]
          exact heldQ_set (heldQ_set (heldQ_set (heldQ_set (heldQ_set (heldQ_set (heldQ_set (heldQ_set HN.out K0.out _ _) K1.out _ _) K2.out _ _) K3.out _ _) K4.out _ _) K5.out _ _) K6.out _ _) K7.out _ _
      case measure => simp [intOf]; omega
    · go_wp2_with fail
      go_ret
      have e1 := HR.out.1
      rw [List.take_of_length_le (by omega)] at e1
      have e2 : l'.length = l.length := by have := congrArg List.length e1; simpa [pr_len] using this
      exact ⟨g, l', by rw [e2]; rfl, e1, by omega, by rw [e2]; exact HR.out.2.1, hg ▸ HR.out.2.2.1, hg ▸ HR.out.2.2.2⟩

set_option maxHeartbeats 1000000 in
theorem szRecS_any (A : Option Addr) (l : List Q) (cap : Nat) (n : Int) (w : World) (h : LRs w w.heap.size A l) (hl : l.length ≤ maxLen) (hk : ∀ q ∈ l, Sound q.r) (h0 : 0 ≤ n) (h1 : n ≤ 1048576) :
    Calls Try.prog 10 #[.slice A l.length cap, .int .i64 n] w fun e w' => ∃ r : Int, e = .returned (.int .i64 r) ∧ (r = -1 ∨ (0 ≤ r ∧ r ≤ n ∧ (l.length : Int) ≤ n ∧ ∀ q ∈ l, Small q.r n)) ∧ Below w.heap.size w w' := by
  have hl2 := hl
  unfold maxLen at hl2
  have H := Lib.hid h
  have HK := Lib.hid hk
  clear h hk
  by_cases hn : n < l.length
  · have hn2 : n - (l.length : Int) < 0 := by omega
    go_enter Try.func10, Try.ntmps10
    go_wp2_with fail
    go_ret
    exact ⟨-1, rfl, .inl rfl, Below.refl _ _⟩
  · have hn2 : ¬ n - (l.length : Int) < 0 := by omega
    go_enter Try.func10, Try.ntmps10
    go_wp2_with fail
    go_loopw [1, 5] (fun z i wr => ∃ k : Nat, k ≤ l.length ∧ i = .int .i64 k ∧ ∃ m : Int, 0 ≤ m ∧ m ≤ n ∧ z = .int .i64 m ∧ Hid ((∀ j (hj : j < l.length), j < k → Small l[j].r n) ∧ Below w.heap.size w wr)) (fun _ i _ => l.length - (intOf i).toNat)
    case atStart => exact ⟨0, by omega, rfl, n - l.length, by omega, by omega, rfl, Lib.hid ⟨fun j hj hjk => absurd hjk (by omega), Below.refl _ _⟩⟩
    case round =>
      obtain ⟨k, hk, rfl, m, hm0, hm1, rfl, HR⟩ := hrel
      by_cases hlt : k < l.length
      · obtain ⟨ad, rfl, hb, ⟨c0, c1, c2, c3, c4, c5, c6, c7⟩, hL⟩ := (H.out.below HR.out.2 (Nat.le_refl _)).at_ hlt
        have hf := HK.out l[k] (List.getElem_mem hlt)
        have HSX := Lib.hid (show ∀ j (hj : j < l.length), j = k → l[j].r = l[k].r from fun j hj e => by subst e; rfl)
        obtain ⟨x, hx⟩ : ∃ x, l[k] = x := ⟨_, rfl⟩
        rw [hx] at c0 c1 c2 c3 c4 c5 c6 c7 hL hf HSX
        clear hx
        obtain ⟨r, p⟩ := x
        simp only at c0 c1 c2 c3 c4 c5 c6 c7 hL hf HSX
        have HC := Lib.hid (Rec.szRec_any r p m wr (hL.step (Below.refl w.heap.size wr) (Nat.le_refl _) HR.out.2.size) hf hm0 (by omega))
        unfold recV at HC
        clear hL hf
        go_wp2_with fail
        refine HC.out.mono ?_
        rintro e w1 ⟨y, rfl, hr, hb1⟩
        have HB1 := Lib.hid (HR.out.2.trans (hb1.mono HR.out.2.size))
        clear hb1 c0 c1 c2 c3 c4 c5 c6 c7
        rcases hr with rfl | ⟨hr0, hr1, hr3⟩
        · go_wp2_with fail
          go_ret
          exact ⟨-1, rfl, .inl rfl, HB1.out⟩
        · have hs0 : ¬ y < 0 := by omega
          have HR3 := Lib.hid (show Small r n from ⟨by have := hr3.1; omega, by have := hr3.2.1; omega, by have := hr3.2.2.1; omega, fun d hd => by have := hr3.2.2.2.1 d hd; omega, by have := hr3.2.2.2.2.1; omega, fun x hx => by have := hr3.2.2.2.2.2 x hx; omega⟩)
          clear hr3
          go_wp2_with fail
          go_roundw
          case rel =>
            refine ⟨k + 1, by omega, by go_num, y, by omega, by omega, rfl, Lib.hid ⟨fun j hj hjk => ?_, HB1.out⟩⟩
            by_cases e : j = k
            · rw [HSX.out j hj e]; exact HR3.out
            · exact HR.out.1 j hj (by omega)
          case measure => simp [intOf]; omega
      · go_wp2_with fail
        go_ret
        refine ⟨m, rfl, .inr ⟨hm0, hm1, by omega, fun x hx => ?_⟩, HR.out.2⟩
        obtain ⟨j, hj, rfl⟩ := List.getElem_of_mem hx
        exact HR.out.1 j hj (by omega)

/-- Two records stand, and nothing below is written. -/
abbrev PairQ (w : World) (p q : Addr) (r : R) (y z : P) (W : World) : Prop := RPAt W p r y ∧ RPAt W q r z ∧ Below w.heap.size w W
theorem PairQ.step {w W W' : World} {p q : Addr} {r : R} {y z : P} (h : PairQ w p q r y z W) (hb : Below W.heap.size W W') : PairQ w p q r y z W' :=
  ⟨QAt.step (q := ⟨r, y⟩) h.1 hb, QAt.step (q := ⟨r, z⟩) h.2.1 hb, h.2.2.trans (hb.mono h.2.2.size)⟩
theorem PairQ.drew {w W : World} {p q : Addr} {r : R} {y z : P} (h : PairQ w p q r y z W) : PairQ w p q r y z W.drew := ⟨h.1, h.2.1, h.2.2.drew⟩
theorem PairQ.below {w W : World} {p q : Addr} {r : R} {y z : P} (h : PairQ w p q r y z W) : Below w.heap.size w W := h.2.2

set_option maxHeartbeats 2000000 in
theorem eqRecS_same (A B : Option Addr) (l l' : List Q) (ca cb : Nat) (w : World) (ha : LRs w w.heap.size A l) (hb : LRs w w.heap.size B l') (he : pr l = pr l') (hl : l.length ≤ maxLen) (hll : ∀ q ∈ l, q.r.l.length ≤ maxLen ∧ q.r.b.length ≤ maxLen) :
    Calls Try.prog 14 #[.slice A l.length ca, .slice B l'.length cb] w fun x w' => x = .returned (.bool true) ∧ Below w.heap.size w w' := by
  have hl2 := hl
  unfold maxLen at hl2
  have hlen : l'.length = l.length := by have := congrArg List.length he; simpa [pr_len] using this.symm
  have HA := Lib.hid ha
  have HB := Lib.hid hb
  have HL := Lib.hid hll
  have HLEN := Lib.hid hlen
  have HE := Lib.hid (show ∀ k (h1 : k < l.length) (h2 : k < l'.length), l[k].r = l'[k].r from fun k h1 h2 => by
    have e1 := pr_at h1
    have e2 := pr_at h2
    rw [← e1, ← e2]
    congr 1)
  rw [hlen]
  clear ha hb hll he hlen
  go_enter Try.func14, Try.ntmps14
  go_wp2_with fail
  go_loopw [5] (fun i wr => ∃ k : Nat, k ≤ l.length ∧ i = .int .i64 k ∧ Hid (Below w.heap.size w wr)) (fun i _ => l.length - (intOf i).toNat)
  case atStart => exact ⟨0, by omega, rfl, Lib.hid (Below.refl _ _)⟩
  case round =>
    obtain ⟨k, hk, rfl, HR⟩ := hrel
    by_cases hlt : k < l.length
    · have hlt2 : k < l'.length := by rw [HLEN.out]; exact hlt
      obtain ⟨a1, rfl, hb1, c0, -⟩ := (HA.out.below HR.out (Nat.le_refl _)).at_ hlt
      obtain ⟨a2, rfl, hb2, d0, -⟩ := (HB.out.below HR.out (Nat.le_refl _)).at_ hlt2
      have hL1 := HA.out.2 l[k] (List.getElem_mem hlt)
      have hL2 := HB.out.2 l'[k] (List.getElem_mem hlt2)
      have hxy := HE.out k hlt hlt2
      have hxl := HL.out l[k] (List.getElem_mem hlt)
      obtain ⟨x, hx⟩ : ∃ x, l[k] = x := ⟨_, rfl⟩
      obtain ⟨y, hy⟩ : ∃ y, l'[k] = y := ⟨_, rfl⟩
      rw [hx] at c0 hL1 hxy hxl
      rw [hy] at d0 hL2 hxy
      clear hx hy hlt2
      obtain ⟨r, p⟩ := x
      obtain ⟨r', q⟩ := y
      simp only at hxy hxl hL1 hL2
      subst hxy
      have HC := Lib.hid (fun W (hW : Below w.heap.size w W) => Rec.eqRec_same r p q W (hL1.step hW (Nat.le_refl _) hW.size) (hL2.step hW (Nat.le_refl _) hW.size) hxl.1 hxl.2)
      unfold recV at HC
      clear hL1 hL2
      have hp : PairQ w (a1.add (k * 8)) (a2.add (k * 8)) r p q wr := ⟨c0, d0, HR.out⟩
      clear c0 d0
      go_wp2_with fail
      go_region_held3 (fun W => RPAt W (a1.add (k * 8)) r p ∧ RPAt W (a2.add (k * 8)) r q ∧ Below w.heap.size w W)
        (first | exact PairQ.drew (by assumption) | exact PairQ.step (by assumption) hb)
        (first | (go_at_call 32; refine (HC.out _ (PairQ.below (by assumption))).mono ?_; rintro x w' ⟨rfl, hb⟩))
      have h2 : PairQ w (a1.add (k * 8)) (a2.add (k * 8)) r p q w' := by assumption
      have HB1 := Lib.hid h2.2.2
      clear h2 hp
      go_wp2_with fail
      go_roundw
      case rel => exact ⟨k + 1, by omega, by go_num, HB1⟩
      case measure => simp [intOf]; omega
    · go_wp2_with fail
      go_ret
      exact ⟨rfl, HR.out⟩
end Go.Proofs.Ytoagdpbbojlgfaa.Rs
