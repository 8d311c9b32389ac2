/-
  The law's own szNet, and what it calls.
-/
import Derived.Test.YthagkjofpfafiaaNetMark
import Derived.Test.YthagkjofpfafiaaRowOpen
namespace Go.Proofs.Ythagkjofpfafiaa.Net
open Go.ChangeShapes Go.WideShapes Go.ChangeAt Go.RowKit
open Sto (R Sl Held Turned marks Small)
open Dep (add_block add_add)
set_option linter.unusedVariables false
set_option maxRecDepth 100000

/-- What a store's rows hold, as they come in. -/
def Fine (x : Sl) : Prop := x.l.length ≤ maxLen ∧ ∀ d ∈ x.l, d.k.size ≤ maxLen ∧ d.b.size ≤ maxLen

set_option maxHeartbeats 400000 in
theorem szRowSS_any (A : Option Addr) (s : List Sl) (cap : Nat) (n : Int) (w : World) (h : LSs w w.heap.size A s) (hl : s.length ≤ maxLen) (hk : ∀ x ∈ s, Fine x) (h0 : 0 ≤ n) (h1 : n ≤ 1048576) :
    Calls Try.prog 25 #[.slice A s.length cap, .int .i64 n] w fun e w' => ∃ r : Int, e = .returned (.int .i64 r) ∧ (r = -1 ∨ (0 ≤ r ∧ r ≤ n - s.length - tot s ∧ (s.length : Int) ≤ n ∧ ∀ x ∈ s, ∀ d ∈ x.l, Small n d)) ∧ Below w.heap.size w w' := by
  have hl2 := hl
  unfold maxLen at hl2
  have H := Lib.hid h
  have HK := Lib.hid hk
  clear h hk
  by_cases hn : n < s.length
  · have hn2 : n - (s.length : Int) < 0 := by omega
    go_enter Try.func25, Try.ntmps25
    go_wp2_with fail
    go_ret
    exact ⟨-1, rfl, .inl rfl, Below.refl _ _⟩
  · have hn2 : ¬ n - (s.length : Int) < 0 := by omega
    go_enter Try.func25, Try.ntmps25
    go_wp2_with fail
    go_loopw [1, 5] (fun z i wr => ∃ k : Nat, k ≤ s.length ∧ i = .int .i64 k ∧ ∃ m : Int, 0 ≤ m ∧ z = .int .i64 m ∧ Hid (m ≤ n - s.length - tot (s.take k) ∧ (∀ j (hj : j < s.length), j < k → ∀ d ∈ s[j].l, Small n d) ∧ Below w.heap.size w wr)) (fun _ i _ => s.length - (intOf i).toNat)
    case atStart => exact ⟨0, by omega, rfl, n - s.length, by omega, rfl, Lib.hid ⟨by simp [tot], fun j hj hjk => absurd hjk (by omega), Below.refl _ _⟩⟩
    case round =>
      obtain ⟨k, hk, rfl, m, hm0, rfl, HR⟩ := hrel
      by_cases hlt : k < s.length
      · obtain ⟨ad, rfl, hb, c0, -⟩ := (H.out.below HR.out.2.2 (Nat.le_refl _)).at_ hlt
        have hL := (H.out.2 s[k] (List.getElem_mem hlt)).below HR.out.2.2 (Nat.le_refl _)
        have hf := HK.out s[k] (List.getElem_mem hlt)
        have HTS := Lib.hid (take_snoc s k hlt)
        have hm1 : m ≤ n := by have := HR.out.1; omega
        have HSX := Lib.hid (show ∀ j (hj : j < s.length), j = k → s[j].l = s[k].l from fun j hj e => by subst e; rfl)
        obtain ⟨x, hx⟩ : ∃ x, s[k] = x := ⟨_, rfl⟩
        rw [hx] at c0 hL hf HTS HSX
        clear hx
        have HC := Lib.hid (Sto.szRowS_any x.A x.l x.c m wr (hL.more HR.out.2.2.size) hf.1 hf.2 hm0 (by omega))
        unfold Sto.slV at HC
        clear hL hf
        go_wp2_with fail
        refine HC.out.mono ?_
        rintro e w1 ⟨r, rfl, hr, hb1⟩
        have HB1 := Lib.hid (HR.out.2.2.trans (hb1.mono HR.out.2.2.size))
        clear hb1 c0
        rcases hr with rfl | ⟨hr0, hr1, hr2, hr3⟩
        · go_wp2_with fail
          go_ret
          exact ⟨-1, rfl, .inl rfl, HB1.out⟩
        · have hs0 : ¬ r < 0 := by omega
          have HR3 := Lib.hid hr3
          have HR1 := Lib.hid hr1
          clear hr1 hr2 hr3
          go_wp2_with fail
          go_roundw
          case rel =>
            refine ⟨k + 1, by omega, by go_num, r, by omega, rfl, Lib.hid ⟨?_, fun j hj hjk d hd => ?_, HB1.out⟩⟩
            · rw [HTS.out, tot_snoc]; have := HR.out.1; have := HR1.out; omega
            · by_cases e : j = k
              · rw [HSX.out j hj e] at hd
                have := HR3.out d hd
                exact ⟨by have := this.1; omega, by have := this.2; omega⟩
              · exact HR.out.2.1 j hj (by omega) d hd
          case measure => simp [intOf]; omega
      · have EJ := Lib.hid (show s.take k = s from List.take_of_length_le (by omega))
        go_wp2_with fail
        go_ret
        refine ⟨m, rfl, .inr ⟨hm0, ?_, by omega, fun x hx d hd => ?_⟩, HR.out.2.2⟩
        · have := HR.out.1; rwa [EJ.out] at this
        · obtain ⟨j, hj, rfl⟩ := List.getElem_of_mem hx
          exact HR.out.2.1 j hj (by omega) d hd

theorem szMail_any (f t : Int) (A : Option Addr) (l : List R) (c : Nat) (n : Int) (w : World) (h : Sto.Lies w w.heap.size A l) (hl : l.length ≤ maxLen) (hk : ∀ d ∈ l, d.k.size ≤ maxLen ∧ d.b.size ≤ maxLen) (h0 : 0 ≤ n) (h1 : n ≤ 1048576) :
    Calls Try.prog 53 #[.agg #[.int .i64 f, .int .i64 t, .slice A l.length c], .int .i64 n] w fun e w' => ∃ r : Int, e = .returned (.int .i64 r) ∧ (r = -1 ∨ (0 ≤ r ∧ r ≤ n - l.length ∧ (l.length : Int) ≤ n ∧ ∀ d ∈ l, Small n d)) ∧ Below w.heap.size w w' := by
  have B0 := (Below.refl w.heap.size w).alloc (Nat.le_refl _) (Obj.cells #[.int .i64 f, .int .i64 t, .slice A l.length c] 78)
  have HC := Lib.hid (Sto.szRowS_any A l c n _ ((h.below B0 (Nat.le_refl _)).more B0.size) hl hk h0 h1)
  unfold Sto.slV at HC
  have HB := Lib.hid B0
  clear h hk B0
  go_enter Try.func53, Try.ntmps53
  go_wp2_with fail
  refine HC.out.mono ?_
  rintro e w1 ⟨r, rfl, hr, hb⟩
  have HB1 := Lib.hid (HB.out.trans (hb.mono HB.out.size))
  clear hb
  rcases hr with rfl | ⟨hr0, hr1, hr2, hr3⟩
  · go_wp2_with fail
    go_ret
    exact ⟨-1, rfl, .inl rfl, HB1.out⟩
  · have hs0 : ¬ r < 0 := by omega
    have HR3 := Lib.hid hr3
    clear hr3
    go_wp2_with fail
    go_ret
    exact ⟨r, rfl, .inr ⟨hr0, hr1, hr2, HR3.out⟩, HB1.out⟩

set_option maxHeartbeats 400000 in
theorem szMailS_any (A : Option Addr) (s : List Ml) (cap : Nat) (n : Int) (w : World) (h : LMs w w.heap.size A s) (hl : s.length ≤ maxLen) (hk : ∀ y ∈ s, Fine y.x) (h0 : 0 ≤ n) (h1 : n ≤ 1048576) :
    Calls Try.prog 26 #[.slice A s.length cap, .int .i64 n] w fun e w' => ∃ r : Int, e = .returned (.int .i64 r) ∧ (r = -1 ∨ (0 ≤ r ∧ r ≤ n - s.length - tot (s.map (·.x)) ∧ (s.length : Int) ≤ n ∧ ∀ y ∈ s, ∀ d ∈ y.x.l, Small n d)) ∧ Below w.heap.size w w' := by
  have hl2 := hl
  unfold maxLen at hl2
  have H := Lib.hid h
  have HK := Lib.hid hk
  clear h hk
  by_cases hn : n < s.length
  · have hn2 : n - (s.length : Int) < 0 := by omega
    go_enter Try.func26, Try.ntmps26
    go_wp2_with fail
    go_ret
    exact ⟨-1, rfl, .inl rfl, Below.refl _ _⟩
  · have hn2 : ¬ n - (s.length : Int) < 0 := by omega
    go_enter Try.func26, Try.ntmps26
    go_wp2_with fail
    go_loopw [1, 5] (fun z i wr => ∃ k : Nat, k ≤ s.length ∧ i = .int .i64 k ∧ ∃ m : Int, 0 ≤ m ∧ z = .int .i64 m ∧ Hid (m ≤ n - s.length - tot ((s.take k).map (·.x)) ∧ (∀ j (hj : j < s.length), j < k → ∀ d ∈ s[j].x.l, Small n d) ∧ Below w.heap.size w wr)) (fun _ i _ => s.length - (intOf i).toNat)
    case atStart => exact ⟨0, by omega, rfl, n - s.length, by omega, rfl, Lib.hid ⟨by simp [tot], fun j hj hjk => absurd hjk (by omega), Below.refl _ _⟩⟩
    case round =>
      obtain ⟨k, hk, rfl, m, hm0, rfl, HR⟩ := hrel
      by_cases hlt : k < s.length
      · obtain ⟨ad, rfl, hb, ⟨c0, c1, c2⟩, -⟩ := (H.out.below HR.out.2.2 (Nat.le_refl _)).at_ hlt
        have hL := (H.out.2 s[k] (List.getElem_mem hlt)).below HR.out.2.2 (Nat.le_refl _)
        have hf := HK.out s[k] (List.getElem_mem hlt)
        have HTS := Lib.hid (take_snoc s k hlt)
        have hm1 : m ≤ n := by have := HR.out.1; omega
        have HSX := Lib.hid (show ∀ j (hj : j < s.length), j = k → s[j].x.l = s[k].x.l from fun j hj e => by subst e; rfl)
        obtain ⟨x, hx⟩ : ∃ x, s[k] = x := ⟨_, rfl⟩
        rw [hx] at c0 c1 c2 hL hf HTS HSX
        clear hx
        have HC := Lib.hid (szMail_any x.f x.t x.x.A x.x.l x.x.c m wr (hL.more HR.out.2.2.size) hf.1 hf.2 hm0 (by omega))
        clear hL hf
        go_wp2_with fail
        refine HC.out.mono ?_
        rintro e w1 ⟨r, rfl, hr, hb1⟩
        have HB1 := Lib.hid (HR.out.2.2.trans (hb1.mono HR.out.2.2.size))
        clear hb1 c0 c1 c2
        rcases hr with rfl | ⟨hr0, hr1, hr2, hr3⟩
        · go_wp2_with fail
          go_ret
          exact ⟨-1, rfl, .inl rfl, HB1.out⟩
        · have hs0 : ¬ r < 0 := by omega
          have HR3 := Lib.hid hr3
          have HR1 := Lib.hid hr1
          clear hr1 hr2 hr3
          go_wp2_with fail
          go_roundw
          case rel =>
            refine ⟨k + 1, by omega, by go_num, r, by omega, rfl, Lib.hid ⟨?_, fun j hj hjk d hd => ?_, HB1.out⟩⟩
            · rw [HTS.out, List.map_append, List.map_singleton, tot_snoc]; have := HR.out.1; have := HR1.out; omega
            · by_cases e : j = k
              · rw [HSX.out j hj e] at hd
                have := HR3.out d hd
                exact ⟨by have := this.1; omega, by have := this.2; omega⟩
              · exact HR.out.2.1 j hj (by omega) d hd
          case measure => simp [intOf]; omega
      · have EJ := Lib.hid (show s.take k = s from List.take_of_length_le (by omega))
        go_wp2_with fail
        go_ret
        refine ⟨m, rfl, .inr ⟨hm0, ?_, by omega, fun x hx d hd => ?_⟩, HR.out.2.2⟩
        · have := HR.out.1; rwa [EJ.out] at this
        · obtain ⟨j, hj, rfl⟩ := List.getElem_of_mem hx
          exact HR.out.2.1 j hj (by omega) d hd

/-- A net that is small enough. -/
def Little (n : Nt) : Prop := n.s.length + n.m.length + tot n.all ≤ 1048576 ∧ ∀ x ∈ n.all, ∀ d ∈ x.l, d.k.size ≤ 1048576 ∧ d.b.size ≤ 1048576

theorem szNet_any (n : Nt) (w : World) (h : NLies w w.heap.size n) (h1 : n.s.length ≤ maxLen) (h2 : n.m.length ≤ maxLen) (hf : ∀ x ∈ n.all, Fine x) :
    Calls Try.prog 8 #[n.val, .int .i64 1048576] w fun e w' => ∃ r : Int, e = .returned (.int .i64 r) ∧ (r = -1 ∨ (0 ≤ r ∧ r ≤ 1048576 ∧ Little n)) ∧ Below w.heap.size w w' := by
  obtain ⟨A, s, ca, B, m, cb⟩ := n
  have hs1 : ∀ x ∈ s, Fine x := fun x hx => hf x (List.mem_append_left _ hx)
  have hs2 : ∀ y ∈ m, Fine y.x := fun y hy => hf y.x (List.mem_append_right _ (List.mem_map.2 ⟨y, hy, rfl⟩))
  have HC := Lib.hid (fun W (hW : Below w.heap.size w W) => szRowSS_any A s ca 1048576 W (h.1.on hW) h1 hs1 (by omega) (by omega))
  have HC2 := Lib.hid (fun (r : Int) W (hW : Below w.heap.size w W) (h3 : 0 ≤ r) (h4 : r ≤ 1048576) => szMailS_any B m cb r W (h.2.on hW) h2 hs2 h3 h4)
  clear h hf hs1 hs2
  unfold Nt.val Little Nt.all
  have B0 := (Below.refl w.heap.size w).alloc (Nat.le_refl _) (Obj.cells #[.slice A s.length ca, .slice B m.length cb] 25)
  have p := Blk.new w 25 #[.slice A s.length ca, .slice B m.length cb]
  go_enter Try.func8, Try.ntmps8
  go_wp2_with fail
  refine (HC.out _ B0).mono ?_
  rintro e w1 ⟨r, rfl, hr, hb⟩
  have B1 := B0.trans (hb.mono B0.size)
  obtain ⟨p0, p1⟩ := blk2 (p.on hb)
  clear hb p B0
  rcases hr with rfl | ⟨hr0, hr1, hr2, hr3⟩
  · go_wp2_with fail
    go_ret
    exact ⟨-1, rfl, .inl rfl, B1⟩
  · have hs0 : ¬ r < 0 := by omega
    have HR3 := Lib.hid hr3
    have HR1 := Lib.hid hr1
    have HC3 := Lib.hid (HC2.out r _ B1 hr0 (by omega))
    have HB1 := Lib.hid B1
    clear hr1 hr2 hr3 B1
    go_wp2_with fail
    refine HC3.out.mono ?_
    rintro e w2 ⟨r2, rfl, hr, hb⟩
    have B2 := Lib.hid (HB1.out.trans (hb.mono HB1.out.size))
    clear hb p0 p1
    rcases hr with rfl | ⟨hr4, hr5, hr6, hr7⟩
    · go_wp2_with fail
      go_ret
      exact ⟨-1, rfl, .inl rfl, B2.out⟩
    · have hs1 : ¬ r2 < 0 := by omega
      have HR5 := Lib.hid hr5
      have HR7 := Lib.hid hr7
      clear hr5 hr6 hr7
      go_wp2_with fail
      go_ret
      have a1 := HR1.out
      have a5 := HR5.out
      refine ⟨r2, rfl, .inr ⟨by omega, by omega, ?_, fun x hx d hd => ?_⟩, B2.out⟩
      · rw [tot_append]; omega
      · rcases List.mem_append.1 hx with hx | hx
        · have := HR3.out x hx d hd
          exact ⟨by have := this.1; omega, by have := this.2; omega⟩
        · obtain ⟨y, hy, rfl⟩ := List.mem_map.1 hx
          have := HR7.out y hy d hd
          exact ⟨by have := this.1; omega, by have := this.2; omega⟩
end Go.Proofs.Ythagkjofpfafiaa.Net
