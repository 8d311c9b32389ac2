/-
  The draws of the given package spec, on: two Ids; an Id; a text that may be an Id's. Of what was there nothing is written.
-/
import Derived.Test.YtbkgampfehjpaaaDoorDrawI
import Derived.Test.YtbkgampfehjpaaaDoorDrawSp
import Derived.Deep.RegionHeld3
namespace Go.Proofs.YtbkgampfehjpaaaDoor.Src
open Go.ChangeShapes Go.WideShapes Go.ChangeAt Go.RowKit
open Go.Proofs.YtbkgampfehjpaaaDoor.Id (IdRow idV)
set_option linter.unusedVariables false

theorem below_of {w w1 w' : World} {b : Nat} (h1 : Below w.heap.size w w1) (hg : w1.grownBy w' (some b)) (hb : w.heap.size ≤ b) : Below w.heap.size w w' :=
  ⟨hg.os.trans h1.os, hg.tape.trans h1.tape, hg.output.trans h1.output, Nat.le_trans h1.size hg.size, fun k hk => (hg.block k (Nat.lt_of_lt_of_le hk h1.size) (fun e => by cases e; omega)).trans (h1.block k hk)⟩
theorem textB_size (c s e : Int) : (Id.textB c s e).size ≤ 8000 := by
  cases hr : Id.rightB c s e
  · rw [Id.textB_no hr]; exact Nat.zero_le _
  · obtain ⟨x, y, z, rfl, rfl, rfl, hx0, hx, hy0, hy, hz⟩ := Id.right_nat hr
    have h1 := Id.dec_len 6 x (by omega)
    have h2 := Id.dec_len 6 y (by omega)
    have h3 := Id.dec_len 6 z (by omega)
    rw [← Id.list_len]
    unfold Id.textB
    rw [if_pos hr]
    simp only [Id.textL, Int.toNat_natCast]
    simp
    omega

theorem drawIdText_any (a : Option Addr) (len cap : Nat) (w : World) (hc : Bytes w.heap.size w a len cap) :
    Calls Tryd.prog 8 #[.slice a len cap] w fun x w' => ∃ c s e : Int, x = .returned (idV c s e) ∧ Below w.heap.size w w' := by
  have HC := Lib.hid hc
  clear hc
  go_enter Tryd.func8, Tryd.ntmps8
  go_wp2_with fail
  have A0 := Lib.hid ((Below.refl w.heap.size w).alloc (Nat.le_refl _) (Obj.cells #[Value.int .i64 0, .int .i64 0, .int .i64 0] 24))
  have R0 := Lib.hid (IdRow.new w 24 0 0 0)
  have hz0 : w.heap.size < (w.alloc (Obj.cells #[Value.int .i64 0, .int .i64 0, .int .i64 0] 24)).heap.size := by simp
  generalize World.alloc w _ = W0 at A0 R0 hz0 ⊢
  refine (source_any w.heap.size a len cap W0 (by omega) (HC.out.below A0.out)).mono ?_
  rintro x w1 ⟨rfl, hst1, hb1⟩
  have R1 := Lib.hid (R0.out.step hb1 R0.out.lt)
  have S1 := Lib.hid hst1
  have B1 := Lib.hid (A0.out.trans (hb1.mono (by omega)))
  clear hst1 hb1
  generalize W0.heap.size = b at *
  go_wp2_with fail
  refine (id_st w.heap.size b len cap a w1 S1.out).mono ?_
  rintro x w2 ⟨c, s, e, rfl, hst2, hg2⟩
  have R2 := idrow_grown R1.out hg2 (by omega)
  have B2 := Lib.hid (below_of B1.out hg2 (by omega))
  obtain ⟨r0, r1, r2⟩ := R2.cells
  obtain ⟨f0, f1, f2⟩ := R2.frozen
  obtain ⟨d0, d1, d2⟩ := (Id.IdRow.put (x := c) (y := s) (z := e) R2).cells
  unfold idV
  clear hst2 hg2
  go_wp2_with fail
  refine bodyPost_ret (v := idV c s e) (by simp [results, Tryd.results8, go_sem, idV, d0, d1, d2]) rfl ?_
  exact ⟨c, s, e, rfl, B2.out.trans (put_above w2 w.heap.size w.heap.size (Nat.le_refl _) _ _ _)⟩

/-- The texts of which one is picked. -/
def picks : List ByteArray := [⟨#[]⟩, ⟨#[49, 46, 49, 46, 48]⟩, ⟨#[48, 49, 46, 49, 46, 48]⟩, ⟨#[49, 46, 49]⟩, ⟨#[49, 46, 52, 46, 48]⟩, ⟨#[49, 46, 49, 46, 48, 46, 48]⟩, ⟨#[48, 46, 49, 46, 48]⟩, ⟨#[49, 46, 46, 48]⟩]

set_option maxHeartbeats 1000000 in
set_option maxRecDepth 100000 in
theorem drawIdRead_any (a : Option Addr) (len cap : Nat) (w : World) (hc : Bytes w.heap.size w a len cap) :
    Calls Tryd.prog 10 #[.slice a len cap] w fun x w' => ∃ u : ByteArray, x = .returned (.string u) ∧ u.size ≤ 1048576 ∧ Below w.heap.size w w' := by
  have HC := Lib.hid hc
  clear hc
  go_enter Tryd.func10, Tryd.ntmps10
  go_wp2_with fail
  refine (source_any w.heap.size a len cap w (Nat.le_refl _) HC.out).mono ?_
  rintro x w1 ⟨rfl, hst1, hb1⟩
  have hlt : w.heap.size < w1.heap.size := hst1.2.1
  have S1 := Lib.hid hst1
  have B1 := Lib.hid hb1
  clear hst1 hb1
  go_wp2_with fail
  refine (id_st w.heap.size w.heap.size len cap a w1 S1.out).mono ?_
  rintro x w2 ⟨c, s, e, rfl, hst2, hg2⟩
  have S2 := Lib.hid hst2
  have B2 := Lib.hid (below_of B1.out hg2 (Nat.le_refl _))
  clear hst2 hg2
  go_wp2_with fail
  refine (Id.specText_any c s e _).mono ?_
  rintro x w3 ⟨rfl, hb3⟩
  have S3 := Lib.hid (S2.out.above (hb3.mono (by have := S2.out.2.1; omega)))
  have B3 := Lib.hid (B2.out.trans (hb3.mono B2.out.size))
  have HT := Lib.hid (Nat.le_trans (textB_size c s e) (by omega : 8000 ≤ 100000))
  clear hb3
  generalize Id.textB c s e = tx at HT ⊢
  go_wp2_with fail
  refine (n_st w.heap.size w.heap.size len cap a 4 w3 (by omega) S3.out).mono ?_
  rintro x w4 ⟨r, rfl, hr0, hr1, hst4, hg4⟩
  have hr : r = 0 ∨ r = 1 ∨ (r ≠ 0 ∧ r ≠ 1) := by omega
  have S4 := Lib.hid hst4
  have B4 := Lib.hid (below_of B3.out hg4 (Nat.le_refl _))
  clear hst4 hg4 hr0 hr1
  rcases hr with rfl | rfl | ⟨n0, n1⟩
  · go_wp2_with fail
    refine (spoil_st w.heap.size w.heap.size len cap a tx w4 S4.out HT.out).mono ?_
    rintro x w5 ⟨u, rfl, hu, hst5, hg5⟩
    have B5 := Lib.hid (below_of B4.out hg5 (Nat.le_refl _))
    clear hst5 hg5
    go_wp2_with fail
    go_ret
    exact ⟨u, rfl, by omega, B5.out⟩
  · go_wp2_with fail
    have hl4 : w.heap.size < w4.heap.size := S4.out.2.1
    have B5 := Lib.hid (B4.out.alloc (Nat.le_of_lt hl4) (Obj.cells (picks.map Value.string).toArray 9))
    refine (pick_st w.heap.size w.heap.size len cap w4.heap.size 9 100 a picks (w4.alloc (Obj.cells (picks.map Value.string).toArray 9)) (S4.out.above ((Below.refl _ _).alloc (by omega) _)) (by omega) (heap_alloc_new w4 _) (by decide) (by decide) (by decide)).mono ?_
    rintro x w5 ⟨u, rfl, hu, hst5, hg5⟩
    have B6 := Lib.hid (below_of B5.out hg5 (Nat.le_refl _))
    clear hst5 hg5
    go_wp2_with fail
    go_ret
    exact ⟨u, rfl, by omega, B6.out⟩
  · have e0 : (r == 0) = false := beq_eq_false_iff_ne.2 n0
    have e1 : (r == 1) = false := beq_eq_false_iff_ne.2 n1
    clear n0 n1
    go_wp2_with fail
    go_ret
    exact ⟨tx, rfl, by have := HT.out; omega, B4.out⟩

/-- Two Ids in blocks of their own, the blocks of the results none; the source goes on. -/
def Pair (len cap : Nat) (a : Option Addr) (w : World) (ga gb : Nat) (W : World) : Prop :=
  ((∃ c s e, IdRow W ga 24 c s e) ∧ (∃ c s e, IdRow W gb 24 c s e)) ∧ (IdRow W w.heap.size 24 0 0 0 ∧ IdRow W (w.heap.size + 1) 24 0 0 0) ∧
  St w.heap.size (w.heap.size + 1 + 1) a len cap W ∧ Below w.heap.size w W
theorem Pair.grown {len cap ga gb : Nat} {a : Option Addr} {w W w1 : World} (h : Pair len cap a w ga gb W) (h1 : w.heap.size + 1 + 1 < ga) (h2 : w.heap.size + 1 + 1 < gb) (hs : St w.heap.size (w.heap.size + 1 + 1) a len cap w1) (hg : W.grownBy w1 (some (w.heap.size + 1 + 1))) : Pair len cap a w ga gb w1 := by
  obtain ⟨⟨⟨c, s, e, k1⟩, ⟨c', s', e', k2⟩⟩, ⟨k3, k4⟩, k5, k6⟩ := h
  exact ⟨⟨⟨c, s, e, idrow_grown k1 hg (by omega)⟩, ⟨c', s', e', idrow_grown k2 hg (by omega)⟩⟩, ⟨idrow_grown k3 hg (by omega), idrow_grown k4 hg (by omega)⟩, hs, below_of k6 hg (by omega)⟩
theorem Pair.put {len cap ga gb : Nat} {a : Option Addr} {w W : World} (h : Pair len cap a w ga gb W) (h1 : w.heap.size + 1 + 1 < ga) (h2 : ga < gb) (x y z : Int) :
    Pair len cap a w ga gb (((W.setCell ⟨gb, 0, none⟩ (.int .i64 x)).setCell ⟨gb, 1, none⟩ (.int .i64 y)).setCell ⟨gb, 2, none⟩ (.int .i64 z)) := by
  obtain ⟨⟨⟨c, s, e, k1⟩, ⟨c', s', e', k2⟩⟩, ⟨k3, k4⟩, k5, k6⟩ := h
  have hb := Id.below_put W gb (.int .i64 x) (.int .i64 y) (.int .i64 z)
  exact ⟨⟨⟨c, s, e, k1.step hb h2⟩, ⟨x, y, z, k2.put⟩⟩, ⟨k3.step hb (by omega), k4.step hb (by omega)⟩, k5.above (hb.mono (by omega)), k6.trans (hb.mono (by omega))⟩
theorem Pair.set0 {len cap ga gb : Nat} {a : Option Addr} {w W : World} (h : Pair len cap a w ga gb W) (h1 : w.heap.size + 1 + 1 < ga) (h2 : ga < gb) (x : Int) :
    Pair len cap a w ga gb (W.setCell ⟨gb, 0, none⟩ (.int .i64 x)) := by
  obtain ⟨⟨⟨c, s, e, k1⟩, ⟨c', s', e', k2⟩⟩, ⟨k3, k4⟩, k5, k6⟩ := h
  have hb : Below gb W (W.setCell ⟨gb, 0, none⟩ (.int .i64 x)) := (Below.refl gb W).setCell (p := ⟨gb, 0, none⟩) (Nat.le_refl gb) _
  refine ⟨⟨⟨c, s, e, k1.step hb h2⟩, ⟨x, s', e', ?_⟩⟩, ⟨k3.step hb (by omega), k4.step hb (by omega)⟩, k5.above (hb.mono (by omega)), k6.trans (hb.mono (by omega))⟩
  unfold IdRow at k2 ⊢
  simp [World.setCell, Array.getElem?_modify, k2]

set_option maxHeartbeats 2000000 in
set_option maxRecDepth 100000 in
theorem drawIdLess_any (a : Option Addr) (len cap : Nat) (w : World) (hc : Bytes w.heap.size w a len cap) :
    Calls Tryd.prog 6 #[.slice a len cap] w fun x w' => ∃ c s e c' s' e' : Int, x = .returned (.tuple #[idV c s e, idV c' s' e']) ∧ Below w.heap.size w w' := by
  have HC := Lib.hid hc
  clear hc
  go_enter Tryd.func6, Tryd.ntmps6
  go_wp2_with fail
  have A0 := Lib.hid (((Below.refl w.heap.size w).alloc (Nat.le_refl _) (Obj.cells #[Value.int .i64 0, .int .i64 0, .int .i64 0] 24)).alloc (by simp) (Obj.cells #[Value.int .i64 0, .int .i64 0, .int .i64 0] 24))
  have R0 := Lib.hid ((IdRow.new w 24 0 0 0).alloc (Obj.cells #[Value.int .i64 0, .int .i64 0, .int .i64 0] 24))
  have Q0 : Hid (IdRow ((w.alloc (Obj.cells #[Value.int .i64 0, .int .i64 0, .int .i64 0] 24)).alloc (Obj.cells #[Value.int .i64 0, .int .i64 0, .int .i64 0] 24)) (w.heap.size + 1) 24 0 0 0) := Lib.hid (by
    have := IdRow.new (w.alloc (Obj.cells #[Value.int .i64 0, .int .i64 0, .int .i64 0] 24)) 24 0 0 0
    simpa using this)
  have hz0 : ((w.alloc (Obj.cells #[Value.int .i64 0, .int .i64 0, .int .i64 0] 24)).alloc (Obj.cells #[Value.int .i64 0, .int .i64 0, .int .i64 0] 24)).heap.size = w.heap.size + 1 + 1 := by simp
  generalize World.alloc (World.alloc w _) _ = W0 at A0 R0 Q0 hz0 ⊢
  refine (source_any w.heap.size a len cap W0 (by omega) (HC.out.below A0.out)).mono ?_
  rintro x w1 ⟨rfl, hst1, hb1⟩
  rw [hz0] at hst1 ⊢
  have R1 := Lib.hid (R0.out.step hb1 (by omega))
  have Q1 := Lib.hid (Q0.out.step hb1 (by omega))
  have S1 := Lib.hid hst1
  have B1 := Lib.hid (A0.out.trans (hb1.mono (by omega)))
  clear hst1 hb1 hz0
  go_wp2_with fail
  refine (id_st w.heap.size (w.heap.size + 1 + 1) len cap a w1 S1.out).mono ?_
  rintro x w2 ⟨c, s, e, rfl, hst2, hg2⟩
  have R2 := Lib.hid (idrow_grown R1.out hg2 (by omega))
  have Q2 := Lib.hid (idrow_grown Q1.out hg2 (by omega))
  have S2 := Lib.hid hst2
  have B2 := Lib.hid (below_of B1.out hg2 (by omega))
  unfold idV
  clear hst2 hg2
  go_wp2_with fail
  have hga : w.heap.size + 1 + 1 < w2.heap.size := S2.out.2.1
  have I3 := Lib.hid (IdRow.new w2 24 c s e)
  have R3 := Lib.hid (R2.out.alloc (Obj.cells #[Value.int .i64 c, .int .i64 s, .int .i64 e] 24))
  have Q3 := Lib.hid (Q2.out.alloc (Obj.cells #[Value.int .i64 c, .int .i64 s, .int .i64 e] 24))
  have S3 := Lib.hid (S2.out.above ((Below.refl _ _).alloc (by omega) (Obj.cells #[Value.int .i64 c, .int .i64 s, .int .i64 e] 24)))
  have B3 := Lib.hid (B2.out.alloc (by omega) (Obj.cells #[Value.int .i64 c, .int .i64 s, .int .i64 e] 24))
  have hsz3 : (w2.alloc (Obj.cells #[Value.int .i64 c, .int .i64 s, .int .i64 e] 24)).heap.size = w2.heap.size + 1 := by simp
  generalize World.alloc w2 _ = W3 at I3 R3 Q3 S3 B3 hsz3 ⊢
  generalize w2.heap.size = ga at *
  refine (id_st w.heap.size (w.heap.size + 1 + 1) len cap a W3 S3.out).mono ?_
  rintro x w4 ⟨c', s', e', rfl, hst4, hg4⟩
  have hs4 := hg4.size
  have P4 : Pair len cap a w ga w4.heap.size (w4.alloc (Obj.cells #[Value.int .i64 c', .int .i64 s', .int .i64 e'] 24)) :=
    ⟨⟨⟨c, s, e, (idrow_grown I3.out hg4 (by omega)).alloc _⟩, ⟨c', s', e', IdRow.new _ _ _ _ _⟩⟩, ⟨(idrow_grown R3.out hg4 (by omega)).alloc _, (idrow_grown Q3.out hg4 (by omega)).alloc _⟩, hst4.above ((Below.refl _ _).alloc (by omega) _), (below_of B3.out hg4 (by omega)).alloc (by omega) _⟩
  have hgb : ga < w4.heap.size := by omega
  have P5 := Lib.hid P4
  unfold idV
  clear hst4 hg4 hs4 P4 hsz3
  go_wp2_with fail
  generalize World.alloc w4 _ = W5 at P5 ⊢
  generalize w4.heap.size = gb at *
  refine (one_st w.heap.size (w.heap.size + 1 + 1) len cap a 3 W5 (by omega) P5.out.2.2.1).mono ?_
  rintro x w6 ⟨t1, rfl, hst6, hg6⟩
  have P6 := Lib.hid (P5.out.grown hga (by omega) hst6 hg6)
  clear hst6 hg6
  go_upto_if 14 with fail
  go_cut [5] (fun s5 wx => s5 = .pointer (some ⟨ga, 0, none⟩) ∧ Pair len cap a w ga gb wx)
  case first =>
    obtain ⟨⟨⟨x0, y0, z0, ha⟩, ⟨x1, y1, z1, hb⟩⟩, _⟩ := P6.out
    obtain ⟨a0, a1, a2⟩ := ha.cells
    obtain ⟨b0, b1, b2⟩ := hb.cells
    obtain ⟨f0, f1, f2⟩ := hb.frozen
    clear ha hb
    cases t1
    · go_wp2_with fail
      go_meet
      exact ⟨rfl, P6.out⟩
    · go_wp2_with fail
      go_meet
      exact ⟨rfl, P6.out.set0 hga hgb x0⟩
  case rest =>
    obtain ⟨rfl, hp⟩ := hcut
    have P7 := Lib.hid hp
    clear hp
    go_wp2_with fail
    refine (one_st w.heap.size (w.heap.size + 1 + 1) len cap a 4 _ (by omega) P7.out.2.2.1).mono ?_
    rintro x w8 ⟨t2, rfl, hst8, hg8⟩
    have P8 := Lib.hid (P7.out.grown hga (by omega) hst8 hg8)
    clear hst8 hg8
    go_upto_if 19 with fail
    go_cut [5] (fun s5 wx => s5 = .pointer (some ⟨ga, 0, none⟩) ∧ Pair len cap a w ga gb wx)
    case first =>
      obtain ⟨⟨⟨x0, y0, z0, ha⟩, ⟨x1, y1, z1, hb⟩⟩, _⟩ := P8.out
      obtain ⟨a0, a1, a2⟩ := ha.cells
      obtain ⟨b0, b1, b2⟩ := hb.cells
      obtain ⟨f0, f1, f2⟩ := hb.frozen
      clear ha hb
      cases t2
      · go_wp2_with fail
        go_meet
        exact ⟨rfl, P8.out⟩
      · go_wp2_with fail
        go_meet
        exact ⟨rfl, P8.out.put hga hgb x0 y0 z0⟩
    case rest =>
      obtain ⟨rfl, hp⟩ := hcut
      have P9 := Lib.hid hp
      obtain ⟨⟨⟨x0, y0, z0, ha⟩, ⟨x1, y1, z1, hb⟩⟩, ⟨hr, hq⟩, _⟩ := hp
      obtain ⟨a0, a1, a2⟩ := ha.cells
      obtain ⟨b0, b1, b2⟩ := hb.cells
      obtain ⟨r0, r1, r2⟩ := hr.cells
      obtain ⟨f0, f1, f2⟩ := hr.frozen
      obtain ⟨q0, q1, q2⟩ := hq.cells
      obtain ⟨g0, g1, g2⟩ := hq.frozen
      have n1 : w.heap.size ≠ ga := by omega
      have n2 : w.heap.size ≠ gb := by omega
      have n3 : w.heap.size + 1 ≠ ga := by omega
      have n4 : w.heap.size + 1 ≠ gb := by omega
      have HR := Lib.hid hr
      have HQ := Lib.hid hq
      clear ha hb hr hq
      go_wp2_with fail
      go_region_held3 (fun W => (W.cell? ⟨ga, 0, none⟩ = some (.int .i64 x0) ∧ W.cell? ⟨ga, 1, none⟩ = some (.int .i64 y0) ∧ W.cell? ⟨ga, 2, none⟩ = some (.int .i64 z0)) ∧ (W.cell? ⟨gb, 0, none⟩ = some (.int .i64 x1) ∧ W.cell? ⟨gb, 1, none⟩ = some (.int .i64 y1) ∧ W.cell? ⟨gb, 2, none⟩ = some (.int .i64 z1)))
        (go_keep) (fail)
      go_wp2_with fail
      have hr' := Id.IdRow.put (x := x0) (y := y0) (z := z0) HR.out
      have hq' : IdRow (((wc.setCell ⟨w.heap.size, 0, none⟩ (.int .i64 x0)).setCell ⟨w.heap.size, 1, none⟩ (.int .i64 y0)).setCell ⟨w.heap.size, 2, none⟩ (.int .i64 z0)) (w.heap.size + 1) 24 0 0 0 := by
        have := HQ.out
        unfold IdRow at this ⊢
        simp [World.setCell, Array.getElem?_modify, this]
      have hq2 := Id.IdRow.put (x := x1) (y := y1) (z := z1) hq'
      have hr2 := hr'.step (Id.below_put (((wc.setCell ⟨w.heap.size, 0, none⟩ (.int .i64 x0)).setCell ⟨w.heap.size, 1, none⟩ (.int .i64 y0)).setCell ⟨w.heap.size, 2, none⟩ (.int .i64 z0)) (w.heap.size + 1) (.int .i64 x1) (.int .i64 y1) (.int .i64 z1)) (by omega)
      obtain ⟨d0, d1, d2⟩ := hr2.cells
      obtain ⟨e0, e1, e2⟩ := hq2.cells
      refine bodyPost_ret (v := .tuple #[idV x0 y0 z0, idV x1 y1 z1]) (by simp [results, Tryd.results6, go_sem, idV, d0, d1, d2, e0, e1, e2]) rfl ?_
      exact ⟨x0, y0, z0, x1, y1, z1, rfl, ((P9.out.2.2.2.trans (put_above wc w.heap.size w.heap.size (Nat.le_refl _) _ _ _)).trans (put_above _ (w.heap.size + 1) w.heap.size (by omega) _ _ _)).drew⟩
end Go.Proofs.YtbkgampfehjpaaaDoor.Src
