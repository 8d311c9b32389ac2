/-
  Several texts in one: NetSz, NetEq.
-/
import Derived.Test.YtoagdpbbojlgfaaGreatNetMark
import Derived.Test.YtoagdpbbojlgfaaGreatRowOpen
import Derived.Test.YtoagdpbbojlgfaaGreatNetTo
/-
  The law's own szNet, and what it calls.
-/
namespace Go.Proofs.YtoagdpbbojlgfaaGreat.Net
open Go.ChangeShapes Go.WideShapes Go.ChangeAt Go.RowKit
open Sto (R Sl Held Turned marks Small)
open Dep (add_block add_add)
set_option linter.unusedVariables false
set_option maxRecDepth 100000

/-- What a store's rows hold, as they come in. -/
def Fine (x : Sl) : Prop := x.l.length ≤ maxLen ∧ ∀ d ∈ x.l, d.k.size ≤ maxLen ∧ d.b.size ≤ maxLen

set_option maxHeartbeats 400000 in
theorem szRowSS_any (A : Option Addr) (s : List Sl) (cap : Nat) (n : Int) (w : World) (h : LSs w w.heap.size A s) (hl : s.length ≤ maxLen) (hk : ∀ x ∈ s, Fine x) (h0 : 0 ≤ n) (h1 : n ≤ 1048576) :
    Calls Tryz.prog 100 #[.slice A s.length cap, .int .i64 n] w fun e w' => ∃ r : Int, e = .returned (.int .i64 r) ∧ (r = -1 ∨ (0 ≤ r ∧ r ≤ n - s.length - tot s ∧ (s.length : Int) ≤ n ∧ ∀ x ∈ s, ∀ d ∈ x.l, Small n d)) ∧ Below w.heap.size w w' := by
  have hl2 := hl
  unfold maxLen at hl2
  have H := Lib.hid h
  have HK := Lib.hid hk
  clear h hk
  by_cases hn : n < s.length
  · have hn2 : n - (s.length : Int) < 0 := by omega
    go_enter Tryz.func100, Tryz.ntmps100
    go_wp2_with fail
    go_ret
    exact ⟨-1, rfl, .inl rfl, Below.refl _ _⟩
  · have hn2 : ¬ n - (s.length : Int) < 0 := by omega
    go_enter Tryz.func100, Tryz.ntmps100
    go_wp2_with fail
    go_loopw [1, 5] (fun z i wr => ∃ k : Nat, k ≤ s.length ∧ i = .int .i64 k ∧ ∃ m : Int, 0 ≤ m ∧ z = .int .i64 m ∧ Hid (m ≤ n - s.length - tot (s.take k) ∧ (∀ j (hj : j < s.length), j < k → ∀ d ∈ s[j].l, Small n d) ∧ Below w.heap.size w wr)) (fun _ i _ => s.length - (intOf i).toNat)
    case atStart => exact ⟨0, by omega, rfl, n - s.length, by omega, rfl, Lib.hid ⟨by simp [tot], fun j hj hjk => absurd hjk (by omega), Below.refl _ _⟩⟩
    case round =>
      obtain ⟨k, hk, rfl, m, hm0, rfl, HR⟩ := hrel
      by_cases hlt : k < s.length
      · obtain ⟨ad, rfl, hb, c0, -⟩ := (H.out.below HR.out.2.2 (Nat.le_refl _)).at_ hlt
        have hL := (H.out.2 s[k] (List.getElem_mem hlt)).below HR.out.2.2 (Nat.le_refl _)
        have hf := HK.out s[k] (List.getElem_mem hlt)
        have HTS := Lib.hid (take_snoc s k hlt)
        have hm1 : m ≤ n := by have := HR.out.1; omega
        have HSX := Lib.hid (show ∀ j (hj : j < s.length), j = k → s[j].l = s[k].l from fun j hj e => by subst e; rfl)
        obtain ⟨x, hx⟩ : ∃ x, s[k] = x := ⟨_, rfl⟩
        rw [hx] at c0 hL hf HTS HSX
        clear hx
        have HC := Lib.hid (Sto.szRowS_any x.A x.l x.c m wr (hL.more HR.out.2.2.size) hf.1 hf.2 hm0 (by omega))
        unfold Sto.slV at HC
        clear hL hf
        go_wp2_with fail
        refine HC.out.mono ?_
        rintro e w1 ⟨r, rfl, hr, hb1⟩
        have HB1 := Lib.hid (HR.out.2.2.trans (hb1.mono HR.out.2.2.size))
        clear hb1 c0
        rcases hr with rfl | ⟨hr0, hr1, hr2, hr3⟩
        · go_wp2_with fail
          go_ret
          exact ⟨-1, rfl, .inl rfl, HB1.out⟩
        · have hs0 : ¬ r < 0 := by omega
          have HR3 := Lib.hid hr3
          have HR1 := Lib.hid hr1
          clear hr1 hr2 hr3
          go_wp2_with fail
          go_roundw
          case rel =>
            refine ⟨k + 1, by omega, by go_num, r, by omega, rfl, Lib.hid ⟨?_, fun j hj hjk d hd => ?_, HB1.out⟩⟩
            · rw [HTS.out, tot_snoc]; have := HR.out.1; have := HR1.out; omega
            · by_cases e : j = k
              · rw [HSX.out j hj e] at hd
                have := HR3.out d hd
                exact ⟨by have := this.1; omega, by have := this.2; omega⟩
              · exact HR.out.2.1 j hj (by omega) d hd
          case measure => simp [intOf]; omega
      · have EJ := Lib.hid (show s.take k = s from List.take_of_length_le (by omega))
        go_wp2_with fail
        go_ret
        refine ⟨m, rfl, .inr ⟨hm0, ?_, by omega, fun x hx d hd => ?_⟩, HR.out.2.2⟩
        · have := HR.out.1; rwa [EJ.out] at this
        · obtain ⟨j, hj, rfl⟩ := List.getElem_of_mem hx
          exact HR.out.2.1 j hj (by omega) d hd

theorem szMail_any (f t : Int) (A : Option Addr) (l : List R) (c : Nat) (n : Int) (w : World) (h : Sto.Lies w w.heap.size A l) (hl : l.length ≤ maxLen) (hk : ∀ d ∈ l, d.k.size ≤ maxLen ∧ d.b.size ≤ maxLen) (h0 : 0 ≤ n) (h1 : n ≤ 1048576) :
    Calls Tryz.prog 204 #[.agg #[.int .i64 f, .int .i64 t, .slice A l.length c], .int .i64 n] w fun e w' => ∃ r : Int, e = .returned (.int .i64 r) ∧ (r = -1 ∨ (0 ≤ r ∧ r ≤ n - l.length ∧ (l.length : Int) ≤ n ∧ ∀ d ∈ l, Small n d)) ∧ Below w.heap.size w w' := by
  have B0 := (Below.refl w.heap.size w).alloc (Nat.le_refl _) (Obj.cells #[.int .i64 f, .int .i64 t, .slice A l.length c] 205)
  have HC := Lib.hid (Sto.szRowS_any A l c n _ ((h.below B0 (Nat.le_refl _)).more B0.size) hl hk h0 h1)
  unfold Sto.slV at HC
  have HB := Lib.hid B0
  clear h hk B0
  go_enter Tryz.func204, Tryz.ntmps204
  go_wp2_with fail
  refine HC.out.mono ?_
  rintro e w1 ⟨r, rfl, hr, hb⟩
  have HB1 := Lib.hid (HB.out.trans (hb.mono HB.out.size))
  clear hb
  rcases hr with rfl | ⟨hr0, hr1, hr2, hr3⟩
  · go_wp2_with fail
    go_ret
    exact ⟨-1, rfl, .inl rfl, HB1.out⟩
  · have hs0 : ¬ r < 0 := by omega
    have HR3 := Lib.hid hr3
    clear hr3
    go_wp2_with fail
    go_ret
    exact ⟨r, rfl, .inr ⟨hr0, hr1, hr2, HR3.out⟩, HB1.out⟩

set_option maxHeartbeats 400000 in
theorem szMailS_any (A : Option Addr) (s : List Ml) (cap : Nat) (n : Int) (w : World) (h : LMs w w.heap.size A s) (hl : s.length ≤ maxLen) (hk : ∀ y ∈ s, Fine y.x) (h0 : 0 ≤ n) (h1 : n ≤ 1048576) :
    Calls Tryz.prog 101 #[.slice A s.length cap, .int .i64 n] w fun e w' => ∃ r : Int, e = .returned (.int .i64 r) ∧ (r = -1 ∨ (0 ≤ r ∧ r ≤ n - s.length - tot (s.map (·.x)) ∧ (s.length : Int) ≤ n ∧ ∀ y ∈ s, ∀ d ∈ y.x.l, Small n d)) ∧ Below w.heap.size w w' := by
  have hl2 := hl
  unfold maxLen at hl2
  have H := Lib.hid h
  have HK := Lib.hid hk
  clear h hk
  by_cases hn : n < s.length
  · have hn2 : n - (s.length : Int) < 0 := by omega
    go_enter Tryz.func101, Tryz.ntmps101
    go_wp2_with fail
    go_ret
    exact ⟨-1, rfl, .inl rfl, Below.refl _ _⟩
  · have hn2 : ¬ n - (s.length : Int) < 0 := by omega
    go_enter Tryz.func101, Tryz.ntmps101
    go_wp2_with fail
    go_loopw [1, 5] (fun z i wr => ∃ k : Nat, k ≤ s.length ∧ i = .int .i64 k ∧ ∃ m : Int, 0 ≤ m ∧ z = .int .i64 m ∧ Hid (m ≤ n - s.length - tot ((s.take k).map (·.x)) ∧ (∀ j (hj : j < s.length), j < k → ∀ d ∈ s[j].x.l, Small n d) ∧ Below w.heap.size w wr)) (fun _ i _ => s.length - (intOf i).toNat)
    case atStart => exact ⟨0, by omega, rfl, n - s.length, by omega, rfl, Lib.hid ⟨by simp [tot], fun j hj hjk => absurd hjk (by omega), Below.refl _ _⟩⟩
    case round =>
      obtain ⟨k, hk, rfl, m, hm0, rfl, HR⟩ := hrel
      by_cases hlt : k < s.length
      · obtain ⟨ad, rfl, hb, ⟨c0, c1, c2⟩, -⟩ := (H.out.below HR.out.2.2 (Nat.le_refl _)).at_ hlt
        have hL := (H.out.2 s[k] (List.getElem_mem hlt)).below HR.out.2.2 (Nat.le_refl _)
        have hf := HK.out s[k] (List.getElem_mem hlt)
        have HTS := Lib.hid (take_snoc s k hlt)
        have hm1 : m ≤ n := by have := HR.out.1; omega
        have HSX := Lib.hid (show ∀ j (hj : j < s.length), j = k → s[j].x.l = s[k].x.l from fun j hj e => by subst e; rfl)
        obtain ⟨x, hx⟩ : ∃ x, s[k] = x := ⟨_, rfl⟩
        rw [hx] at c0 c1 c2 hL hf HTS HSX
        clear hx
        have HC := Lib.hid (szMail_any x.f x.t x.x.A x.x.l x.x.c m wr (hL.more HR.out.2.2.size) hf.1 hf.2 hm0 (by omega))
        clear hL hf
        go_wp2_with fail
        refine HC.out.mono ?_
        rintro e w1 ⟨r, rfl, hr, hb1⟩
        have HB1 := Lib.hid (HR.out.2.2.trans (hb1.mono HR.out.2.2.size))
        clear hb1 c0 c1 c2
        rcases hr with rfl | ⟨hr0, hr1, hr2, hr3⟩
        · go_wp2_with fail
          go_ret
          exact ⟨-1, rfl, .inl rfl, HB1.out⟩
        · have hs0 : ¬ r < 0 := by omega
          have HR3 := Lib.hid hr3
          have HR1 := Lib.hid hr1
          clear hr1 hr2 hr3
          go_wp2_with fail
          go_roundw
          case rel =>
            refine ⟨k + 1, by omega, by go_num, r, by omega, rfl, Lib.hid ⟨?_, fun j hj hjk d hd => ?_, HB1.out⟩⟩
            · rw [HTS.out, List.map_append, List.map_singleton, tot_snoc]; have := HR.out.1; have := HR1.out; omega
            · by_cases e : j = k
              · rw [HSX.out j hj e] at hd
                have := HR3.out d hd
                exact ⟨by have := this.1; omega, by have := this.2; omega⟩
              · exact HR.out.2.1 j hj (by omega) d hd
          case measure => simp [intOf]; omega
      · have EJ := Lib.hid (show s.take k = s from List.take_of_length_le (by omega))
        go_wp2_with fail
        go_ret
        refine ⟨m, rfl, .inr ⟨hm0, ?_, by omega, fun x hx d hd => ?_⟩, HR.out.2.2⟩
        · have := HR.out.1; rwa [EJ.out] at this
        · obtain ⟨j, hj, rfl⟩ := List.getElem_of_mem hx
          exact HR.out.2.1 j hj (by omega) d hd

/-- A net that is small enough. -/
def Little (n : Nt) : Prop := n.s.length + n.m.length + tot n.all ≤ 1048576 ∧ ∀ x ∈ n.all, ∀ d ∈ x.l, d.k.size ≤ 1048576 ∧ d.b.size ≤ 1048576

theorem szNet_any (n : Nt) (w : World) (h : NLies w w.heap.size n) (h1 : n.s.length ≤ maxLen) (h2 : n.m.length ≤ maxLen) (hf : ∀ x ∈ n.all, Fine x) :
    Calls Tryz.prog 13 #[n.val, .int .i64 1048576] w fun e w' => ∃ r : Int, e = .returned (.int .i64 r) ∧ (r = -1 ∨ (0 ≤ r ∧ r ≤ 1048576 ∧ Little n)) ∧ Below w.heap.size w w' := by
  obtain ⟨A, s, ca, B, m, cb⟩ := n
  have hs1 : ∀ x ∈ s, Fine x := fun x hx => hf x (List.mem_append_left _ hx)
  have hs2 : ∀ y ∈ m, Fine y.x := fun y hy => hf y.x (List.mem_append_right _ (List.mem_map.2 ⟨y, hy, rfl⟩))
  have HC := Lib.hid (fun W (hW : Below w.heap.size w W) => szRowSS_any A s ca 1048576 W (h.1.on hW) h1 hs1 (by omega) (by omega))
  have HC2 := Lib.hid (fun (r : Int) W (hW : Below w.heap.size w W) (h3 : 0 ≤ r) (h4 : r ≤ 1048576) => szMailS_any B m cb r W (h.2.on hW) h2 hs2 h3 h4)
  clear h hf hs1 hs2
  unfold Nt.val Little Nt.all
  have B0 := (Below.refl w.heap.size w).alloc (Nat.le_refl _) (Obj.cells #[.slice A s.length ca, .slice B m.length cb] 25)
  have p := Blk.new w 25 #[.slice A s.length ca, .slice B m.length cb]
  go_enter Tryz.func13, Tryz.ntmps13
  go_wp2_with fail
  refine (HC.out _ B0).mono ?_
  rintro e w1 ⟨r, rfl, hr, hb⟩
  have B1 := B0.trans (hb.mono B0.size)
  obtain ⟨p0, p1⟩ := blk2 (p.on hb)
  clear hb p B0
  rcases hr with rfl | ⟨hr0, hr1, hr2, hr3⟩
  · go_wp2_with fail
    go_ret
    exact ⟨-1, rfl, .inl rfl, B1⟩
  · have hs0 : ¬ r < 0 := by omega
    have HR3 := Lib.hid hr3
    have HR1 := Lib.hid hr1
    have HC3 := Lib.hid (HC2.out r _ B1 hr0 (by omega))
    have HB1 := Lib.hid B1
    clear hr1 hr2 hr3 B1
    go_wp2_with fail
    refine HC3.out.mono ?_
    rintro e w2 ⟨r2, rfl, hr, hb⟩
    have B2 := Lib.hid (HB1.out.trans (hb.mono HB1.out.size))
    clear hb p0 p1
    rcases hr with rfl | ⟨hr4, hr5, hr6, hr7⟩
    · go_wp2_with fail
      go_ret
      exact ⟨-1, rfl, .inl rfl, B2.out⟩
    · have hs1 : ¬ r2 < 0 := by omega
      have HR5 := Lib.hid hr5
      have HR7 := Lib.hid hr7
      clear hr5 hr6 hr7
      go_wp2_with fail
      go_ret
      have a1 := HR1.out
      have a5 := HR5.out
      refine ⟨r2, rfl, .inr ⟨by omega, by omega, ?_, fun x hx d hd => ?_⟩, B2.out⟩
      · rw [tot_append]; omega
      · rcases List.mem_append.1 hx with hx | hx
        · have := HR3.out x hx d hd
          exact ⟨by have := this.1; omega, by have := this.2; omega⟩
        · obtain ⟨y, hy, rfl⟩ := List.mem_map.1 hx
          have := HR7.out y hy d hd
          exact ⟨by have := this.1; omega, by have := this.2; omega⟩
end Go.Proofs.YtoagdpbbojlgfaaGreat.Net

/-
  The law's own eqNet, eqNetOut, and what they call.
-/
namespace Go.Proofs.YtoagdpbbojlgfaaGreat.Net
open Go.ChangeShapes Go.WideShapes Go.ChangeAt Go.RowKit
open Sto (R Sl Held Turned marks)
open Dep (add_block add_add)
set_option linter.unusedVariables false
set_option maxRecDepth 100000

/-- Two cells stand, and nothing below is written. -/
abbrev Pair2 (w : World) (p q : Addr) (u v : Value) (W : World) : Prop := W.cell? p = some u ∧ W.cell? q = some v ∧ Below w.heap.size w W
theorem Pair2.step {w W W' : World} {p q : Addr} {u v : Value} (h : Pair2 w p q u v W) (hb : Below W.heap.size W W') : Pair2 w p q u v W' :=
  ⟨Lib.Below.cellOf hb h.1 (Nat.le_refl _), Lib.Below.cellOf hb h.2.1 (Nat.le_refl _), h.2.2.trans (hb.mono h.2.2.size)⟩
theorem Pair2.drew {w W : World} {p q : Addr} {u v : Value} (h : Pair2 w p q u v W) : Pair2 w p q u v W.drew := ⟨h.1, h.2.1, h.2.2.drew⟩
theorem Pair2.below {w W : World} {p q : Addr} {u v : Value} (h : Pair2 w p q u v W) : Below w.heap.size w W := h.2.2
theorem mat_step {W W' : World} {p : Addr} {y : Ml} (h : MAt W p y) (hb : Below W.heap.size W W') : MAt W' p y :=
  ⟨Lib.Below.cellOf hb h.1 (Nat.le_refl _), Lib.Below.cellOf hb h.2.1 (Nat.le_refl _), Lib.Below.cellOf hb h.2.2 (Nat.le_refl _)⟩
abbrev PairM (w : World) (p q : Addr) (y z : Ml) (W : World) : Prop := MAt W p y ∧ MAt W q z ∧ Below w.heap.size w W
theorem PairM.step {w W W' : World} {p q : Addr} {y z : Ml} (h : PairM w p q y z W) (hb : Below W.heap.size W W') : PairM w p q y z W' :=
  ⟨mat_step h.1 hb, mat_step h.2.1 hb, h.2.2.trans (hb.mono h.2.2.size)⟩
theorem PairM.drew {w W : World} {p q : Addr} {y z : Ml} (h : PairM w p q y z W) : PairM w p q y z W.drew := ⟨h.1, h.2.1, h.2.2.drew⟩
theorem PairM.below {w W : World} {p q : Addr} {y z : Ml} (h : PairM w p q y z W) : Below w.heap.size w W := h.2.2

theorem eqRowSS_same (A B : Option Addr) (s s' : List Sl) (ca cb : Nat) (w : World) (ha : LSs w w.heap.size A s) (hb : LSs w w.heap.size B s') (he : ps s = ps s') (hl : s.length ≤ maxLen) (hll : ∀ x ∈ s, x.l.length ≤ maxLen) :
    Calls Tryz.prog 112 #[.slice A s.length ca, .slice B s'.length cb] w fun x w' => x = .returned (.bool true) ∧ Below w.heap.size w w' := by
  have hl2 := hl
  unfold maxLen at hl2
  have hlen : s'.length = s.length := by have := congrArg List.length he; simpa [ps_len] using this.symm
  have HA := Lib.hid ha
  have HB := Lib.hid hb
  have HL := Lib.hid hll
  have HLEN := Lib.hid hlen
  have HE := Lib.hid (show ∀ k (h1 : k < s.length) (h2 : k < s'.length), s[k].l = s'[k].l from fun k h1 h2 => by
    have e1 := ps_at h1
    have e2 := ps_at h2
    rw [← e1, ← e2]
    congr 1)
  rw [hlen]
  clear ha hb hll he hlen
  go_enter Tryz.func112, Tryz.ntmps112
  go_wp2_with fail
  go_loopw [5] (fun i wr => ∃ k : Nat, k ≤ s.length ∧ i = .int .i64 k ∧ Hid (Below w.heap.size w wr)) (fun i _ => s.length - (intOf i).toNat)
  case atStart => exact ⟨0, by omega, rfl, Lib.hid (Below.refl _ _)⟩
  case round =>
    obtain ⟨k, hk, rfl, HR⟩ := hrel
    by_cases hlt : k < s.length
    · have hlt2 : k < s'.length := by rw [HLEN.out]; exact hlt
      obtain ⟨a1, rfl, hb1, c0, -⟩ := (HA.out.below HR.out (Nat.le_refl _)).at_ hlt
      obtain ⟨a2, rfl, hb2, d0, -⟩ := (HB.out.below HR.out (Nat.le_refl _)).at_ hlt2
      have hL1 := HA.out.2 s[k] (List.getElem_mem hlt)
      have hL2 := HB.out.2 s'[k] (List.getElem_mem hlt2)
      have hxy := HE.out k hlt hlt2
      have hxl := HL.out s[k] (List.getElem_mem hlt)
      obtain ⟨x, hx⟩ : ∃ x, s[k] = x := ⟨_, rfl⟩
      obtain ⟨y, hy⟩ : ∃ y, s'[k] = y := ⟨_, rfl⟩
      rw [hx] at c0 hL1 hxy hxl
      rw [hy] at d0 hL2 hxy
      clear hx hy hlt2
      obtain ⟨xA, xl, xc⟩ := x
      obtain ⟨yA, yl, yc⟩ := y
      simp only at hxy hxl c0 d0 hL1 hL2
      subst hxy
      have HC := Lib.hid (fun W (hW : Below w.heap.size w W) => Sto.eqRowS_same xA yA xl xc yc W ((hL1.below hW (Nat.le_refl _)).more hW.size) ((hL2.below hW (Nat.le_refl _)).more hW.size) hxl)
      unfold Sto.slV at HC
      clear hL1 hL2
      have hp : Pair2 w (a1.add k) (a2.add k) (.slice xA xl.length xc) (.slice yA xl.length yc) wr := ⟨c0, d0, HR.out⟩
      clear c0 d0
      go_wp2_with fail
      go_region_held3 (fun W => W.cell? (a1.add k) = some (Value.slice xA xl.length xc) ∧ W.cell? (a2.add k) = some (Value.slice yA xl.length yc) ∧ Below w.heap.size w W)
        (first | exact Pair2.drew (by assumption) | exact Pair2.step (by assumption) hb)
        (first | (go_at_call 211; refine (HC.out _ (Pair2.below (by assumption))).mono ?_; rintro x w' ⟨rfl, hb⟩))
      have h2 : Pair2 w (a1.add k) (a2.add k) (.slice xA xl.length xc) (.slice yA xl.length yc) w' := by assumption
      have HB1 := Lib.hid h2.2.2
      clear h2 hp
      go_wp2_with fail
      go_roundw
      case rel => exact ⟨k + 1, by omega, by go_num, HB1⟩
      case measure => simp [intOf]; omega
    · go_wp2_with fail
      go_ret
      exact ⟨rfl, HR.out⟩

theorem eqMail_same (f t : Int) (A B : Option Addr) (l : List R) (ca cb : Nat) (w : World) (ha : Sto.Lies w w.heap.size A l) (hb : Sto.Lies w w.heap.size B l) (hl : l.length ≤ maxLen) :
    Calls Tryz.prog 212 #[.agg #[.int .i64 f, .int .i64 t, .slice A l.length ca], .agg #[.int .i64 f, .int .i64 t, .slice B l.length cb]] w fun x w' => x = .returned (.bool true) ∧ Below w.heap.size w w' := by
  have hf : (f != f) = false := by simp
  have ht : (t != t) = false := by simp
  have HC := Lib.hid (fun W (hW : Below w.heap.size w W) => Sto.eqRowS_same A B l ca cb W ((ha.below hW (Nat.le_refl _)).more hW.size) ((hb.below hW (Nat.le_refl _)).more hW.size) hl)
  unfold Sto.slV at HC
  clear ha hb
  have B0 := (((Below.refl w.heap.size w).alloc (Nat.le_refl _) (Obj.cells #[.int .i64 f, .int .i64 t, .slice A l.length ca] 141)).alloc (by simp) (Obj.cells #[.int .i64 f, .int .i64 t, .slice B l.length cb] 141))
  go_enter Tryz.func212, Tryz.ntmps212
  go_wp2_with fail
  refine (HC.out _ B0).mono ?_
  rintro x w1 ⟨rfl, hb⟩
  have B1 := Lib.hid (B0.trans (hb.mono (by simp; omega)))
  clear hb B0
  go_wp2_with fail
  go_ret
  exact ⟨rfl, B1.out⟩

theorem eqMailS_same (A B : Option Addr) (s s' : List Ml) (ca cb : Nat) (w : World) (ha : LMs w w.heap.size A s) (hb : LMs w w.heap.size B s') (he : pm s = pm s') (hl : s.length ≤ maxLen) (hll : ∀ y ∈ s, y.x.l.length ≤ maxLen) :
    Calls Tryz.prog 113 #[.slice A s.length ca, .slice B s'.length cb] w fun x w' => x = .returned (.bool true) ∧ Below w.heap.size w w' := by
  have hl2 := hl
  unfold maxLen at hl2
  have hlen : s'.length = s.length := by have := congrArg List.length he; simpa [pm_len] using this.symm
  have HA := Lib.hid ha
  have HB := Lib.hid hb
  have HL := Lib.hid hll
  have HLEN := Lib.hid hlen
  have HE := Lib.hid (show ∀ k (h1 : k < s.length) (h2 : k < s'.length), (⟨s[k].f, s[k].t, s[k].x.l⟩ : Pm) = ⟨s'[k].f, s'[k].t, s'[k].x.l⟩ from fun k h1 h2 => by
    have e1 := pm_at h1
    have e2 := pm_at h2
    rw [← e1, ← e2]
    congr 1)
  rw [hlen]
  clear ha hb hll he hlen
  go_enter Tryz.func113, Tryz.ntmps113
  go_wp2_with fail
  go_loopw [5] (fun i wr => ∃ k : Nat, k ≤ s.length ∧ i = .int .i64 k ∧ Hid (Below w.heap.size w wr)) (fun i _ => s.length - (intOf i).toNat)
  case atStart => exact ⟨0, by omega, rfl, Lib.hid (Below.refl _ _)⟩
  case round =>
    obtain ⟨k, hk, rfl, HR⟩ := hrel
    by_cases hlt : k < s.length
    · have hlt2 : k < s'.length := by rw [HLEN.out]; exact hlt
      obtain ⟨a1, rfl, hb1, c0, -⟩ := (HA.out.below HR.out (Nat.le_refl _)).at_ hlt
      obtain ⟨a2, rfl, hb2, d0, -⟩ := (HB.out.below HR.out (Nat.le_refl _)).at_ hlt2
      have hL1 := HA.out.2 s[k] (List.getElem_mem hlt)
      have hL2 := HB.out.2 s'[k] (List.getElem_mem hlt2)
      have hxy := HE.out k hlt hlt2
      have hxl := HL.out s[k] (List.getElem_mem hlt)
      obtain ⟨x, hx⟩ : ∃ x, s[k] = x := ⟨_, rfl⟩
      obtain ⟨y, hy⟩ : ∃ y, s'[k] = y := ⟨_, rfl⟩
      rw [hx] at c0 hL1 hxy hxl
      rw [hy] at d0 hL2 hxy
      clear hx hy hlt2
      obtain ⟨xf, xt, xA, xl, xc⟩ := x
      obtain ⟨yf, yt, yA, yl, yc⟩ := y
      simp only [Pm.mk.injEq] at hxy hxl hL1 hL2
      obtain ⟨rfl, rfl, rfl⟩ := hxy
      have HC := Lib.hid (fun W (hW : Below w.heap.size w W) => eqMail_same xf xt xA yA xl xc yc W ((hL1.below hW (Nat.le_refl _)).more hW.size) ((hL2.below hW (Nat.le_refl _)).more hW.size) hxl)
      clear hL1 hL2
      have hp : PairM w (a1.add (k * 3)) (a2.add (k * 3)) ⟨xf, xt, xA, xl, xc⟩ ⟨xf, xt, yA, xl, yc⟩ wr := ⟨c0, d0, HR.out⟩
      clear c0 d0
      go_wp2_with fail
      go_region_held3 (fun W => MAt W (a1.add (k * 3)) ⟨xf, xt, xA, xl, xc⟩ ∧ MAt W (a2.add (k * 3)) ⟨xf, xt, yA, xl, yc⟩ ∧ Below w.heap.size w W)
        (first | exact PairM.drew (by assumption) | exact PairM.step (by assumption) hb)
        (first | (go_at_call 212; refine (HC.out _ (PairM.below (by assumption))).mono ?_; rintro x w' ⟨rfl, hb⟩))
      have h2 : PairM w (a1.add (k * 3)) (a2.add (k * 3)) ⟨xf, xt, xA, xl, xc⟩ ⟨xf, xt, yA, xl, yc⟩ w' := by assumption
      have HB1 := Lib.hid h2.2.2
      clear h2 hp
      go_wp2_with fail
      go_roundw
      case rel => exact ⟨k + 1, by omega, by go_num, HB1⟩
      case measure => simp [intOf]; omega
    · go_wp2_with fail
      go_ret
      exact ⟨rfl, HR.out⟩

/-- Few enough to be compared. -/
def Few (n : Nt) : Prop := n.s.length ≤ maxLen ∧ n.m.length ≤ maxLen ∧ (∀ x ∈ n.s, x.l.length ≤ maxLen) ∧ ∀ y ∈ n.m, y.x.l.length ≤ maxLen

theorem eqNet_same (n n' : Nt) (w : World) (ha : NLies w w.heap.size n) (hb : NLies w w.heap.size n') (he : pl n = pl n') (hl : Few n) :
    Calls Tryz.prog 20 #[n.val, n'.val] w fun x w' => x = .returned (.bool true) ∧ Below w.heap.size w w' := by
  obtain ⟨A, s, ca, B, m, cb⟩ := n
  obtain ⟨A', s', ca', B', m', cb'⟩ := n'
  have hps : ps s = ps s' := congrArg Prod.fst he
  have hpm : pm m = pm m' := congrArg Prod.snd he
  have HS := Lib.hid (fun W (hW : Below w.heap.size w W) => eqRowSS_same A A' s s' ca ca' W ((ha.1.below hW (Nat.le_refl _)).more hW.size) ((hb.1.below hW (Nat.le_refl _)).more hW.size) hps hl.1 hl.2.2.1)
  have HM := Lib.hid (fun W (hW : Below w.heap.size w W) => eqMailS_same B B' m m' cb cb' W ((ha.2.below hW (Nat.le_refl _)).more hW.size) ((hb.2.below hW (Nat.le_refl _)).more hW.size) hpm hl.2.1 hl.2.2.2)
  clear ha hb hl he hps hpm
  unfold Nt.val
  have B0 := (((Below.refl w.heap.size w).alloc (Nat.le_refl _) (Obj.cells #[.slice A s.length ca, .slice B m.length cb] 35)).alloc (by simp) (Obj.cells #[.slice A' s'.length ca', .slice B' m'.length cb'] 35))
  go_enter Tryz.func20, Tryz.ntmps20
  go_wp2_with fail
  refine (HS.out _ B0).mono ?_
  rintro x w1 ⟨rfl, hb⟩
  have p := ((Blk.new w 35 #[.slice A s.length ca, .slice B m.length cb]).alloc (Obj.cells #[.slice A' s'.length ca', .slice B' m'.length cb'] 35)).step hb (by simp; omega)
  have q := (Blk.new (World.alloc w (Obj.cells #[.slice A s.length ca, .slice B m.length cb] 35)) 35 #[.slice A' s'.length ca', .slice B' m'.length cb']).step hb (by simp)
  have B1 := B0.trans (hb.mono (by simp; omega))
  simp only [World.size_alloc] at p q
  obtain ⟨p0, p1⟩ := blk2 p
  obtain ⟨q0, q1⟩ := blk2 q
  clear hb B0 p q
  go_wp2_with fail
  refine (HM.out _ B1).mono ?_
  rintro x w2 ⟨rfl, hb⟩
  have B2 := Lib.hid (B1.trans (hb.mono B1.size))
  clear hb B1 p0 p1 q0 q1
  go_wp2_with fail
  go_ret
  exact ⟨rfl, B2.out⟩

theorem eqNetOut_same (n n' : Nt) (c : Int) (w : World) (ha : NLies w w.heap.size n) (hb : NLies w w.heap.size n') (he : pl n = pl n') (hl : Few n) :
    Calls Tryz.prog 19 #[n.out c, n'.out c] w fun x w' => x = .returned (.bool true) ∧ Below w.heap.size w w' := by
  have hcc : (c == c) = true := beq_self_eq_true c
  have hcn : (c != c) = false := by simp
  have HN := Lib.hid (fun W (hW : Below w.heap.size w W) => eqNet_same n n' W ((ha.below hW (Nat.le_refl _)).more hW.size) ((hb.below hW (Nat.le_refl _)).more hW.size) he hl)
  clear ha hb hl he
  obtain ⟨A, s, ca, B, m, cb⟩ := n
  obtain ⟨A', s', ca', B', m', cb'⟩ := n'
  unfold Nt.val at HN
  unfold Nt.out
  have B0 := (((Below.refl w.heap.size w).alloc (Nat.le_refl _) (Obj.cells #[.slice A s.length ca, .slice B m.length cb, .int .i64 c] 37)).alloc (by simp) (Obj.cells #[.slice A' s'.length ca', .slice B' m'.length cb', .int .i64 c] 37))
  go_enter Tryz.func19, Tryz.ntmps19
  go_wp2_with fail
  refine (HN.out _ B0).mono ?_
  rintro x w1 ⟨rfl, hb⟩
  have p := ((Blk.new w 37 #[.slice A s.length ca, .slice B m.length cb, .int .i64 c]).alloc (Obj.cells #[.slice A' s'.length ca', .slice B' m'.length cb', .int .i64 c] 37)).step hb (by simp; omega)
  have q := (Blk.new (World.alloc w (Obj.cells #[.slice A s.length ca, .slice B m.length cb, .int .i64 c] 37)) 37 #[.slice A' s'.length ca', .slice B' m'.length cb', .int .i64 c]).step hb (by simp)
  have B1 := Lib.hid (B0.trans (hb.mono (by simp; omega)))
  simp only [World.size_alloc] at p q
  obtain ⟨p0, p1, p2⟩ := blk3 p
  obtain ⟨q0, q1, q2⟩ := blk3 q
  clear hb B0 p q
  go_wp2_with fail
  go_ret
  exact ⟨rfl, B1.out⟩
end Go.Proofs.YtoagdpbbojlgfaaGreat.Net
