/-
  The law's own toRow, szRow, eqRow, and at slices of rows.
-/
import Derived.Test.YtoagdpbbojlgfaaGreatRowLies
import Derived.Laws.MakeOwn
import Derived.Laws.Entries
import Derived.Deep.RegionHeld3
import Derived.Lib.SlBuf
namespace Go.Proofs.YtoagdpbbojlgfaaGreat.Sto
open Go.ChangeShapes Go.WideShapes Go.ChangeAt Go.RowKit
open Dep (I D zero kl add_block add_add row_set get_ne get_eq)
set_option linter.unusedVariables false
set_option maxRecDepth 100000

theorem toRow_any (d : R) (w : World) :
    Calls Tryz.prog 17 #[d.val] w fun x w' => x = .returned d.val ∧ Below w.heap.size w w' := by
  unfold R.val
  go_enter Tryz.func17, Tryz.ntmps17
  go_wp2_with fail
  refine (Id.toId_any d.i.c d.i.s d.i.e _).mono ?_
  rintro x w1 ⟨rfl, hb⟩
  unfold Id.idV
  have p := (((RowRow.new w 29 d).alloc _).alloc _).step hb (by simp; omega)
  have r := (RowRow.new (World.alloc (World.alloc w _) _) 42 ⟨d.k, Dep.zero, ⟨#[]⟩⟩).step hb (by simp)
  have q := ((RowRow.new (World.alloc w _) 42 zeroR).alloc _).step hb (by simp)
  simp only [World.size_alloc, zeroR, Dep.zero] at p r q
  have B1 := Lib.hid ((((Below.refl w.heap.size w).alloc (Nat.le_refl _) _).alloc (by simp) _).alloc (by simp; omega) _ |>.trans (hb.mono (by simp; omega)))
  obtain ⟨p0, p1, p2, p3, p4⟩ := p.cells
  obtain ⟨r0, r1, r2, r3, r4⟩ := r.cells
  have f0 := r.free 0
  have f1 := r.free 1
  have f2 := r.free 2
  have f3 := r.free 3
  have f4 := r.free 4
  obtain ⟨q0, q1, q2, q3, q4⟩ := q.cells
  have g0 := q.free 0
  have g1 := q.free 1
  have g2 := q.free 2
  have g3 := q.free 3
  have g4 := q.free 4
  clear hb r q p
  go_wp2_with fail
  refine bodyPost_ret (v := .agg #[.string d.k, .int .i64 d.i.c, .int .i64 d.i.s, .int .i64 d.i.e, .string d.b]) (by simp [results, Tryz.results17, go_sem, q0, q1, q2, q3, q4]) rfl ⟨rfl, ?_⟩
  exact (((((((((B1.out.setCell (by simp; omega) _).setCell (by simp; omega) _).setCell (by simp; omega) _).setCell (by simp; omega) _).setCell (by simp) _).setCell (by simp) _).setCell (by simp) _).setCell (by simp) _).setCell (by simp) _)

theorem szRow_any (d : R) (n : Int) (w : World) (h0 : 0 ≤ n) (h1 : n ≤ 1048576) (hk : d.k.size ≤ maxLen) (hb : d.b.size ≤ maxLen) :
    Calls Tryz.prog 14 #[d.val, .int .i64 n] w fun x w' => ∃ r : Int, x = .returned (.int .i64 r) ∧ (r = -1 ∨ (0 ≤ r ∧ r ≤ n ∧ (d.k.size : Int) ≤ n ∧ (d.b.size : Int) ≤ n)) ∧ Below w.heap.size w w' := by
  unfold R.val
  unfold maxLen at hk hb
  by_cases h : n < d.k.size
  · go_enter Tryz.func14, Tryz.ntmps14
    go_wp2
    go_ret
    exact ⟨-1, rfl, .inl rfl, (Below.refl _ _).alloc (Nat.le_refl _) _⟩
  · have h2 : ¬ n - (d.k.size : Int) < 0 := by omega
    by_cases h3 : n - (d.k.size : Int) < d.b.size
    · have h4 : n - (d.k.size : Int) - d.b.size < 0 := by omega
      go_enter Tryz.func14, Tryz.ntmps14
      go_wp2
      go_ret
      exact ⟨-1, rfl, .inl rfl, (Below.refl _ _).alloc (Nat.le_refl _) _⟩
    · have h4 : ¬ n - (d.k.size : Int) - d.b.size < 0 := by omega
      go_enter Tryz.func14, Tryz.ntmps14
      go_wp2
      go_ret
      refine ⟨_, rfl, ?_, (Below.refl _ _).alloc (Nat.le_refl _) _⟩
      first | omega | (simp; omega)

theorem eqRow_same (d : R) (w : World) :
    Calls Tryz.prog 268 #[d.val, d.val] w fun x w' => x = .returned (.bool true) ∧ Below w.heap.size w w' := by
  unfold R.val
  have hk : (d.k.toList == d.k.toList) = true := beq_self_eq_true _
  have hk2 : (d.b.toList == d.b.toList) = true := beq_self_eq_true _
  go_enter Tryz.func268, Tryz.ntmps268
  go_wp2_with fail
  refine (Id.eqId_same d.i.c d.i.s d.i.e _).mono ?_
  rintro x w1 ⟨rfl, hb⟩
  have B1 := Lib.hid (((Below.refl w.heap.size w).alloc (Nat.le_refl _) _).alloc (by simp) _ |>.trans (hb.mono (by simp; omega)))
  have p := ((RowRow.new w 42 d).alloc (.cells #[.string d.k, .int .i64 d.i.c, .int .i64 d.i.s, .int .i64 d.i.e, .string d.b] 42)).step hb (by simp; omega)
  have q := (RowRow.new (World.alloc w (.cells #[.string d.k, .int .i64 d.i.c, .int .i64 d.i.s, .int .i64 d.i.e, .string d.b] 42)) 42 d).step hb (by simp)
  simp only [World.size_alloc] at p q
  obtain ⟨p0, p1, p2, p3, p4⟩ := p.cells
  obtain ⟨q0, q1, q2, q3, q4⟩ := q.cells
  clear hb p q
  go_wp2_with fail
  go_ret
  exact ⟨rfl, B1.out⟩

theorem toRowS_any (A : Option Addr) (l : List R) (cap : Nat) (w : World) (h : Lies w w.heap.size A l) (hl : l.length ≤ 1048576) :
    Calls Tryz.prog 207 #[slV A l cap] w fun x w' => ∃ g, x = .returned (.slice (some ⟨g, 0, none⟩) l.length l.length) ∧ w.heap.size ≤ g ∧ Own w' g l.length l ∧ Below w.heap.size w w' := by
  unfold slV
  have H := Lib.hid h
  clear h
  obtain ⟨i0, hi0, hz0, hz1, hz2⟩ := info_parts row_info
  have hmk := run_make (P := Tryz.prog) w 98 42 i0 _ Tryz.underlying98 hi0 hz0 .i64 .i64 l.length l.length (by omega) (Int.le_refl _) (by rw [hz2]; omega) (by omega)
  rw [hz1] at hmk
  clear hi0 hz0 hz1 hz2
  go_enter Tryz.func207, Tryz.ntmps207
  go_wp2_with fail
  rw [Int.toNat_natCast] at hmk
  have HO := Lib.hid (Own.new w zeroR.val.cells l.length)
  generalize hg : w.heap.size = g at *
  go_loopw [4] (fun i wr => ∃ k : Nat, k ≤ l.length ∧ i = .int .i64 k ∧ Hid (Own wr g l.length (l.take k) ∧ Below g w wr)) (fun i _ => l.length - (intOf i).toNat)
  case atStart => exact ⟨0, by omega, rfl, Lib.hid ⟨HO.out, (Below.refl _ _).alloc (by omega) _⟩⟩
  case round =>
    obtain ⟨k, hk, rfl, HR⟩ := hrel
    by_cases hlt : k < l.length
    · obtain ⟨ad, rfl, hb, c0, c1, c2, c3, c4⟩ := (H.out.below HR.out.2 (Nat.le_refl _)).at_ hlt
      go_wp2_with fail
      have HB := Lib.hid HR.out.2.size
      refine (toRow_any l[k] _).mono ?_
      rintro x w1 ⟨rfl, hb1⟩
      unfold R.val
      have hlg := HR.out.1.lt
      have ho := HR.out.1.step hb1 hlg
      have HO1 := Lib.hid ho
      have HB1 := Lib.hid (HR.out.2.trans (hb1.mono (by have := HR.out.2.size; omega)))
      obtain ⟨u0, e0⟩ := ho.cell (j := k * 5) (by omega)
      obtain ⟨u1, e1⟩ := ho.cell (j := k * 5 + 1) (by omega)
      obtain ⟨u2, e2⟩ := ho.cell (j := k * 5 + 2) (by omega)
      obtain ⟨u3, e3⟩ := ho.cell (j := k * 5 + 3) (by omega)
      obtain ⟨u4, e4⟩ := ho.cell (j := k * 5 + 4) (by omega)
      have f0 := ho.free (k * 5)
      have f1 := ho.free (k * 5 + 1)
      have f2 := ho.free (k * 5 + 2)
      have f3 := ho.free (k * 5 + 3)
      have f4 := ho.free (k * 5 + 4)
      clear ho hb1 c0 c1 c2 c3 c4
      go_wp2_with fail
      go_roundw
      case rel =>
        refine ⟨k + 1, by omega, by go_num, Lib.hid ⟨?_, ?_⟩⟩
        · rw [show l.take (k + 1) = l.take k ++ [l[k]] by simp]
          exact HO1.out.put l[k] (by rw [List.length_take]; omega) (by rw [List.length_take]; omega)
        · exact ((((HB1.out.setCell (Nat.le_refl _) _).setCell (Nat.le_refl _) _).setCell (Nat.le_refl _) _).setCell (Nat.le_refl _) _).setCell (Nat.le_refl _) _
      case measure => simp [intOf]; omega
    · go_wp2_with fail
      go_ret
      refine ⟨g, rfl, by omega, ?_, hg ▸ HR.out.2⟩
      have := HR.out.1
      rwa [List.take_of_length_le (by omega)] at this

/-- What a row holds of texts, at most n. -/
def Small (n : Int) (d : R) : Prop := (d.k.size : Int) ≤ n ∧ (d.b.size : Int) ≤ n

theorem szRowS_any (A : Option Addr) (l : List R) (cap : Nat) (n : Int) (w : World) (h : Lies w w.heap.size A l) (hl : l.length ≤ maxLen) (hk : ∀ d ∈ l, d.k.size ≤ maxLen ∧ d.b.size ≤ maxLen) (h0 : 0 ≤ n) (h1 : n ≤ 1048576) :
    Calls Tryz.prog 203 #[slV A l cap, .int .i64 n] w fun x w' => ∃ r : Int, x = .returned (.int .i64 r) ∧ (r = -1 ∨ (0 ≤ r ∧ r ≤ n - l.length ∧ (l.length : Int) ≤ n ∧ ∀ d ∈ l, Small n d)) ∧ Below w.heap.size w w' := by
  have hl2 := hl
  unfold maxLen at hl2
  unfold slV
  have H := Lib.hid h
  have HK := Lib.hid hk
  clear h hk
  by_cases hn : n < l.length
  · go_enter Tryz.func203, Tryz.ntmps203
    go_wp2_with fail
    go_ret
    exact ⟨-1, rfl, .inl rfl, Below.refl _ _⟩
  · go_enter Tryz.func203, Tryz.ntmps203
    go_wp2_with fail
    go_loopw [1, 5] (fun z i wr => ∃ k : Nat, k ≤ l.length ∧ i = .int .i64 k ∧ ∃ m : Int, 0 ≤ m ∧ m ≤ n - l.length ∧ z = .int .i64 m ∧ Hid ((∀ j (hj : j < l.length), j < k → Small n l[j]) ∧ Below w.heap.size w wr)) (fun _ i _ => l.length - (intOf i).toNat)
    case atStart => exact ⟨0, by omega, rfl, n - l.length, by omega, by omega, rfl, Lib.hid ⟨fun j hj hjk => absurd hjk (by omega), Below.refl _ _⟩⟩
    case round =>
      obtain ⟨k, hk, rfl, m, hm0, hm1, rfl, HR⟩ := hrel
      by_cases hlt : k < l.length
      · obtain ⟨ad, rfl, hb, c0, c1, c2, c3, c4⟩ := (H.out.below HR.out.2 (Nat.le_refl _)).at_ hlt
        have hks := HK.out l[k] (List.getElem_mem hlt)
        go_wp2_with fail
        refine (szRow_any l[k] m _ hm0 (by omega) hks.1 hks.2).mono ?_
        rintro x w1 ⟨r, rfl, hr, hb1⟩
        have HB1 := Lib.hid (HR.out.2.trans (hb1.mono HR.out.2.size))
        clear hb1 c0 c1 c2 c3 c4
        rcases hr with rfl | ⟨hr0, hr1, hr2, hr3⟩
        · go_wp2_with fail
          go_ret
          exact ⟨-1, rfl, .inl rfl, HB1.out⟩
        · have hs0 : ¬ r < 0 := by omega
          go_wp2_with fail
          go_roundw
          case rel =>
            exact ⟨k + 1, by omega, by go_num, r, by omega, by omega, rfl, Lib.hid ⟨fun j hj hjk => by
              by_cases e : j = k
              · subst e; exact ⟨by omega, by omega⟩
              · exact HR.out.1 j hj (by omega), HB1.out⟩⟩
          case measure => simp [intOf]; omega
      · go_wp2_with fail
        go_ret
        refine ⟨m, rfl, .inr ⟨hm0, hm1, by omega, fun d hd => ?_⟩, HR.out.2⟩
        obtain ⟨j, hj, rfl⟩ := List.getElem_of_mem hd
        exact HR.out.1 j hj (by omega)

/-- Two rows stand, and nothing below is written. -/
abbrev Pair (w : World) (p q : Addr) (d e : R) (W : World) : Prop := At W p d ∧ At W q e ∧ Below w.heap.size w W
theorem Pair.step {w W W' : World} {p q : Addr} {d e : R} (h : Pair w p q d e W) (hb : Below W.heap.size W W') : Pair w p q d e W' :=
  ⟨at_step h.1 hb, at_step h.2.1 hb, h.2.2.trans (hb.mono h.2.2.size)⟩
theorem Pair.drew {w W : World} {p q : Addr} {d e : R} (h : Pair w p q d e W) : Pair w p q d e W.drew := ⟨h.1, h.2.1, h.2.2.drew⟩

theorem eqRowS_same (A B : Option Addr) (l : List R) (ca cb : Nat) (w : World) (ha : Lies w w.heap.size A l) (hb : Lies w w.heap.size B l) (hl : l.length ≤ maxLen) :
    Calls Tryz.prog 211 #[slV A l ca, slV B l cb] w fun x w' => x = .returned (.bool true) ∧ Below w.heap.size w w' := by
  have hl2 := hl
  unfold maxLen at hl2
  unfold slV
  have HA := Lib.hid ha
  have HB := Lib.hid hb
  clear ha hb
  go_enter Tryz.func211, Tryz.ntmps211
  go_wp2_with fail
  go_loopw [5] (fun i wr => ∃ k : Nat, k ≤ l.length ∧ i = .int .i64 k ∧ Hid (Below w.heap.size w wr)) (fun i _ => l.length - (intOf i).toNat)
  case atStart => exact ⟨0, by omega, rfl, Lib.hid (Below.refl _ _)⟩
  case round =>
    obtain ⟨k, hk, rfl, HR⟩ := hrel
    by_cases hlt : k < l.length
    · obtain ⟨a1, rfl, hb1, c0, c1, c2, c3, c4⟩ := (HA.out.below HR.out (Nat.le_refl _)).at_ hlt
      obtain ⟨a2, rfl, hb2, d0, d1, d2, d3, d4⟩ := (HB.out.below HR.out (Nat.le_refl _)).at_ hlt
      have hp : Pair w (a1.add (k * 5)) (a2.add (k * 5)) l[k] l[k] wr := ⟨⟨c0, c1, c2, c3, c4⟩, ⟨d0, d1, d2, d3, d4⟩, HR.out⟩
      clear c0 c1 c2 c3 c4 d0 d1 d2 d3 d4
      generalize l[k] = d at hp ⊢
      go_wp2_with fail
      go_region_held3 (fun W => At W (a1.add (k * 5)) d ∧ At W (a2.add (k * 5)) d ∧ Below w.heap.size w W)
        (first | exact Pair.drew (by assumption) | exact Pair.step (by assumption) hb)
        (first | (go_at_call 268; refine (eqRow_same d _).mono ?_; rintro x w' ⟨rfl, hb⟩))
      have h2 : Pair w (a1.add (k * 5)) (a2.add (k * 5)) d d w' := by assumption
      have HB1 := Lib.hid h2.2.2
      clear h2 hp
      go_wp2_with fail
      go_roundw
      case rel => exact ⟨k + 1, by omega, by go_num, HB1⟩
      case measure => simp [intOf]; omega
    · go_wp2_with fail
      go_ret
      exact ⟨rfl, HR.out⟩
end Go.Proofs.YtoagdpbbojlgfaaGreat.Sto
