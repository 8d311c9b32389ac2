/-
  The law's own marks of rows: markRowS, heldRowS; rows that a call handed back, with the block they lie in.
-/
import Derived.Test.YtoagdpbbojlgfaaGreatRowRight
import Derived.Test.YtoagdpbbojlgfaaGreatRowApp
import Derived.Test.YtoagdpbbojlgfaaGreatPackHeld
namespace Go.Proofs.YtoagdpbbojlgfaaGreat.Sto
open Go.ChangeShapes Go.WideShapes Go.ChangeAt Go.RowKit
open Dep (I D zero kl list_eq row_set get_ne get_eq markV markText_any grown_trans grown_of_below grown_set)
set_option linter.unusedVariables false
set_option maxRecDepth 100000

/-- Block g begins with these rows. -/
def Row (w : World) (g : Nat) (l : List R) : Prop :=
  ∃ cs : Array Value, w.heap[g]? = some (.cells cs 42 (0, 0)) ∧ l.length * 5 ≤ cs.size ∧
    ∀ j (h : j < l.length), cs[j * 5]? = some (.string l[j].k) ∧ cs[j * 5 + 1]? = some (.int .i64 l[j].i.c) ∧ cs[j * 5 + 2]? = some (.int .i64 l[j].i.s) ∧ cs[j * 5 + 3]? = some (.int .i64 l[j].i.e) ∧ cs[j * 5 + 4]? = some (.string l[j].b)
theorem Row.lt {w : World} {g : Nat} {l : List R} (h : Row w g l) : g < w.heap.size := by
  obtain ⟨cs, h, _⟩ := h
  exact (Array.getElem?_eq_some_iff.1 h).1
theorem Row.same {w w1 : World} {g : Nat} {l : List R} (h : Row w g l) (hb : w1.heap[g]? = w.heap[g]?) : Row w1 g l := by
  obtain ⟨cs, h, h2⟩ := h
  exact ⟨cs, hb.trans h, h2⟩
theorem Row.step {w w1 : World} {g N : Nat} {l : List R} (h : Row w g l) (hb : Below N w w1) (hlt : g < N) : Row w1 g l := h.same (hb.block g hlt)
theorem Row.free {w : World} {g : Nat} {l : List R} (h : Row w g l) (j : Nat) : w.frozen? ⟨g, j, none⟩ = false := by
  obtain ⟨cs, h, h2⟩ := h
  simp [World.frozen?, h]
theorem Row.cell {w : World} {g : Nat} {l : List R} (h : Row w g l) {j : Nat} (hj : j < l.length * 5) : ∃ u, w.cell? ⟨g, j, none⟩ = some u := by
  obtain ⟨cs, h, h2, _⟩ := h
  rw [cell_of_row w g j cs _ (0, 0) h]
  exact ⟨cs[j]'(by omega), Array.getElem?_eq_getElem (by omega)⟩
theorem Row.lies {w : World} {g B : Nat} {l : List R} (h : Row w g l) (hB : g < B) : Lies w B (some ⟨g, 0, none⟩) l := by
  obtain ⟨cs, h1, h2, h3⟩ := h
  exact lies_of h1 hB h3
theorem Row.of_own {w : World} {g n : Nat} {l : List R} (h : Own w g n l) (hn : l.length ≤ n) : Row w g l := by
  obtain ⟨cs, h1, h2, h3⟩ := h
  exact ⟨cs, h1, by omega, h3⟩
theorem there1 {cs : Array Value} {k j q : Nat} (h : j ≠ k) (p : Nat) (hp : p < 5) (hq : q < 5) (u : Value) : (cs.setIfInBounds (k * 5 + p) u)[j * 5 + q]? = cs[j * 5 + q]? := get_ne u (by omega)
theorem Row.put4 {w : World} {g : Nat} {l : List R} (h : Row w g l) {k : Nat} (hk : k < l.length) (x : ByteArray) (c s e : Int) :
    Row ((((w.setCell ⟨g, k * 5, none⟩ (.string x)).setCell ⟨g, k * 5 + 1, none⟩ (.int .i64 c)).setCell ⟨g, k * 5 + 2, none⟩ (.int .i64 s)).setCell ⟨g, k * 5 + 3, none⟩ (.int .i64 e)) g (l.set k ⟨x, ⟨c, s, e⟩, l[k].b⟩) := by
  obtain ⟨cs, h1, h2, h3⟩ := h
  refine ⟨_, row_set (row_set (row_set (row_set h1 _ _) _ _) _ _) _ _, by simp; omega, fun j hj => ?_⟩
  rw [List.length_set] at hj
  by_cases e : j = k
  · subst e
    rw [List.getElem_set_self]
    refine ⟨?_, ?_, ?_, ?_, ?_⟩
    · rw [get_ne _ (by omega), get_ne _ (by omega), get_ne _ (by omega), get_eq _ (by omega)]
    · rw [get_ne _ (by omega), get_ne _ (by omega), get_eq _ (by simp; omega)]
    · rw [get_ne _ (by omega), get_eq _ (by simp; omega)]
    · rw [get_eq _ (by simp; omega)]
    · rw [get_ne _ (by omega), get_ne _ (by omega), get_ne _ (by omega), get_ne _ (by omega)]; exact (h3 j hk).2.2.2.2
  · rw [List.getElem_set_ne (by omega)]
    obtain ⟨a0, a1, a2, a3, a4⟩ := h3 j hj
    refine ⟨?_, ?_, ?_, ?_, ?_⟩
    · rw [get_ne _ (by omega), get_ne _ (by omega), get_ne _ (by omega), get_ne _ (by omega)]; exact a0
    · rw [get_ne _ (by omega), get_ne _ (by omega), get_ne _ (by omega), get_ne _ (by omega)]; exact a1
    · rw [get_ne _ (by omega), get_ne _ (by omega), get_ne _ (by omega), get_ne _ (by omega)]; exact a2
    · rw [get_ne _ (by omega), get_ne _ (by omega), get_ne _ (by omega), get_ne _ (by omega)]; exact a3
    · rw [get_ne _ (by omega), get_ne _ (by omega), get_ne _ (by omega), get_ne _ (by omega)]; exact a4
theorem Row.put1 {w : World} {g : Nat} {l : List R} (h : Row w g l) {k : Nat} (hk : k < l.length) (x : ByteArray) :
    Row (w.setCell ⟨g, k * 5 + 4, none⟩ (.string x)) g (l.set k ⟨l[k].k, l[k].i, x⟩) := by
  obtain ⟨cs, h1, h2, h3⟩ := h
  refine ⟨_, row_set h1 _ _, by simp; omega, fun j hj => ?_⟩
  rw [List.length_set] at hj
  by_cases e : j = k
  · subst e
    rw [List.getElem_set_self]
    obtain ⟨a0, a1, a2, a3, a4⟩ := h3 j hk
    refine ⟨?_, ?_, ?_, ?_, ?_⟩
    · rw [get_ne _ (by omega)]; exact a0
    · rw [get_ne _ (by omega)]; exact a1
    · rw [get_ne _ (by omega)]; exact a2
    · rw [get_ne _ (by omega)]; exact a3
    · rw [get_eq _ (by omega)]
  · rw [List.getElem_set_ne (by omega)]
    obtain ⟨a0, a1, a2, a3, a4⟩ := h3 j hj
    refine ⟨?_, ?_, ?_, ?_, ?_⟩
    · rw [get_ne _ (by omega)]; exact a0
    · rw [get_ne _ (by omega)]; exact a1
    · rw [get_ne _ (by omega)]; exact a2
    · rw [get_ne _ (by omega)]; exact a3
    · rw [get_ne _ (by omega)]; exact a4

/-- The mark of place j. -/
def mk (k j : Nat) : R := ⟨markV (k + 5 * j), ⟨((k + 5 * j : Nat) : Int) + 1, ((k + 5 * j : Nat) : Int) + 1 + 1, ((k + 5 * j : Nat) : Int) + 1 + 1 + 1⟩, markV (k + 5 * j + 4)⟩
def marks (k n : Nat) : List R := (List.range n).map (mk k)
/-- The first ones are marked. -/
def part (k : Nat) (l : List R) (j : Nat) : List R := marks k j ++ l.drop j
theorem part_len {k : Nat} {l : List R} {j : Nat} (h : j ≤ l.length) : (part k l j).length = l.length := by simp [part, marks]; omega
theorem part_step {k : Nat} {l : List R} {j : Nat} (h : j < l.length) : (part k l j).set j (mk k j) = part k l (j + 1) := by
  unfold part
  rw [List.set_append_right _ _ (by simp [marks])]
  have e : j - (marks k j).length = 0 := by simp [marks]
  rw [e, List.drop_eq_getElem_cons h, List.set_cons_zero]
  unfold marks
  rw [List.range_succ, List.map_append]
  simp
theorem set_twice {l : List R} {k : Nat} (hk : k < l.length) (a : R) (x : ByteArray) (h2 : k < (l.set k a).length) : (l.set k a).set k ⟨((l.set k a)[k]'h2).k, ((l.set k a)[k]'h2).i, x⟩ = l.set k ⟨a.k, a.i, x⟩ := by
  rw [List.getElem_set_self, List.set_set]

set_option maxHeartbeats 2000000 in
theorem markRow_any (g : Nat) (l : List R) (cap k : Nat) (w : World) (h : Row w g l) (hl : l.length ≤ 1048576) (hk : k ≤ 10000000) :
    Calls Tryz.prog 213 #[.slice (some ⟨g, 0, none⟩) l.length cap, .int .i64 k] w fun e w' => e = .returned (.int .i64 ((k + 5 * l.length : Nat) : Int)) ∧ Row w' g (marks k l.length) ∧ w.grownBy w' (some g) := by
  have H := Lib.hid h
  clear h
  go_enter Tryz.func213, Tryz.ntmps213
  go_wp2_with fail
  go_loopw [1, 5] (fun z i wr => ∃ j : Nat, j ≤ l.length ∧ i = .int .i64 j ∧ z = .int .i64 ((k + 5 * j : Nat) : Int) ∧ Hid (Row wr g (part k l j) ∧ w.grownBy wr (some g))) (fun _ i _ => l.length - (intOf i).toNat)
  case atStart => exact ⟨0, by omega, rfl, rfl, Lib.hid ⟨H.out, World.grownBy.refl w _⟩⟩
  case round =>
    obtain ⟨j, hj, rfl, rfl, HR⟩ := hrel
    by_cases hlt : j < l.length
    · have HC := Lib.hid (markText_any (k + 5 * j) wr (by omega))
      have HC2 : Hid (∀ W, Calls Tryz.prog 139 #[.int .i64 (((k + 5 * j : Nat) : Int) + 1 + 1 + 1 + 1)] W fun e w' => e = .returned (.string (markV (k + 5 * j + 4))) ∧ Below W.heap.size W w') := Lib.hid fun W => by
        have e : ((k + 5 * j : Nat) : Int) + 1 + 1 + 1 + 1 = ((k + 5 * j + 4 : Nat) : Int) := by omega
        rw [e]
        exact markText_any (k + 5 * j + 4) W (by omega)
      have hplt : j < (part k l j).length := by rw [part_len hj]; exact hlt
      have HM : Hid (∀ a : R, ((part k l j).set j a).set j (mk k j) = part k l (j + 1)) := Lib.hid fun a => by rw [List.set_set, part_step hlt]
      have HMK : Hid (mk k j = ⟨markV (k + 5 * j), ⟨((k + 5 * j : Nat) : Int) + 1, ((k + 5 * j : Nat) : Int) + 1 + 1, ((k + 5 * j : Nat) : Int) + 1 + 1 + 1⟩, markV (k + 5 * j + 4)⟩) := Lib.hid rfl
      obtain ⟨q, hq⟩ : ∃ q, k + 5 * j = q := ⟨_, rfl⟩
      have HQ := Lib.hid hq
      rw [hq] at HC HC2 HMK ⊢
      clear hq
      have hq2 : q ≤ 100000000 := by have := HQ.out; omega
      obtain ⟨mv, hmv⟩ : ∃ mv, markV q = mv := ⟨_, rfl⟩
      obtain ⟨mv2, hmv2⟩ : ∃ mv2, markV (q + 4) = mv2 := ⟨_, rfl⟩
      rw [hmv] at HC HMK
      rw [hmv2] at HC2 HMK
      clear hmv hmv2
      have HPL := Lib.hid hplt
      obtain ⟨pl, hpl⟩ : ∃ pl, part k l j = pl := ⟨_, rfl⟩
      have HRow : Hid (Row wr g pl) := Lib.hid (hpl ▸ HR.out.1)
      rw [hpl] at HPL HM
      have HGR := Lib.hid HR.out.2
      clear hpl hplt HR
      go_wp2_with fail
      refine HC.out.mono ?_
      rintro e w1 ⟨rfl, hb⟩
      have hR := HRow.out.step hb HRow.out.lt
      have HR1 := Lib.hid hR
      have HG1 := Lib.hid (grown_trans HGR.out (grown_of_below (some g) hb))
      have hplo := HPL.out
      obtain ⟨u0, e0⟩ := hR.cell (j := j * 5) (by omega)
      obtain ⟨u1, e1⟩ := hR.cell (j := j * 5 + 1) (by omega)
      obtain ⟨u2, e2⟩ := hR.cell (j := j * 5 + 2) (by omega)
      obtain ⟨u3, e3⟩ := hR.cell (j := j * 5 + 3) (by omega)
      have f0 := hR.free (j * 5)
      have f1 := hR.free (j * 5 + 1)
      have f2 := hR.free (j * 5 + 2)
      have f3 := hR.free (j * 5 + 3)
      clear hR hb hplo
      go_wp2_with fail
      refine (HC2.out _).mono ?_
      rintro e w2 ⟨rfl, hb⟩
      have hR4 := HR1.out.put4 HPL.out mv ((q : Int) + 1) ((q : Int) + 1 + 1) ((q : Int) + 1 + 1 + 1)
      have hR5 := hR4.step hb (by have := hR4.lt; exact this)
      have HR5 := Lib.hid hR5
      have HG2 := Lib.hid (grown_trans (grown_trans (grown_trans (grown_trans (grown_trans HG1.out (grown_set _ _ _ _)) (grown_set _ _ _ _)) (grown_set _ _ _ _)) (grown_set _ _ _ _)) (grown_of_below (some g) hb))
      have hsl : j < (pl.set j ⟨mv, ⟨(q : Int) + 1, (q : Int) + 1 + 1, (q : Int) + 1 + 1 + 1⟩, (pl[j]'HPL.out).b⟩).length := by rw [List.length_set]; exact HPL.out
      obtain ⟨u4, e4⟩ := hR5.cell (j := j * 5 + 4) (by omega)
      have f4 := hR5.free (j * 5 + 4)
      have HSL := Lib.hid hsl
      clear hb hR4 hR5 e0 e1 e2 e3 f0 f1 f2 f3 hsl
      go_wp2_with fail
      refine ⟨⟨j + 1, by omega, by go_num, ?_, Lib.hid ⟨?_, grown_trans HG2.out (grown_set _ _ _ _)⟩⟩, by simp [intOf]; omega⟩
      · have := HQ.out; congr 1; omega
      · have h6 := HR5.out.put1 HSL.out mv2
        rw [set_twice HPL.out, ← HMK.out] at h6
        have h7 := HM.out (mk k j)
        rw [List.set_set] at h7
        rw [h7] at h6
        exact h6
    · have e : j = l.length := by omega
      go_wp2_with fail
      go_ret
      refine ⟨by rw [e]; rfl, ?_, HR.out.2⟩
      have := HR.out.1
      unfold part at this
      rw [e, List.drop_length, List.append_nil] at this
      exact this

/-- Rows lie nowhere, being none, or in a block from lo on, below hi. -/
def Held (W : World) (A : Option Addr) (l : List R) (lo hi : Nat) : Prop :=
  (A = none ∧ l = []) ∨ ∃ g, A = some ⟨g, 0, none⟩ ∧ Row W g l ∧ lo ≤ g ∧ g < hi
theorem Held.lies {W : World} {A : Option Addr} {l : List R} {lo hi B : Nat} (h : Held W A l lo hi) (hB : hi ≤ B) : Lies W B A l := by
  rcases h with ⟨rfl, rfl⟩ | ⟨g, rfl, hr, _, hg⟩
  · exact fun h0 => absurd h0 (by simp)
  · exact hr.lies (by omega)
theorem Held.keep {W W' : World} {A : Option Addr} {l : List R} {lo hi : Nat} (h : Held W A l lo hi) (hk : ∀ k, lo ≤ k → k < hi → k < W.heap.size → W'.heap[k]? = W.heap[k]?) : Held W' A l lo hi := by
  rcases h with h | ⟨g, rfl, hr, hlo, hg⟩
  · exact .inl h
  · exact .inr ⟨g, rfl, hr.same (hk g hlo hg hr.lt), hlo, hg⟩
theorem Held.step {W W' : World} {A : Option Addr} {l : List R} {lo hi N : Nat} (h : Held W A l lo hi) (hb : Below N W W') (hN : hi ≤ N ∨ W.heap.size ≤ N) : Held W' A l lo hi := h.keep fun k _ h2 h3 => hb.block k (by omega)
theorem Held.wide {W : World} {A : Option Addr} {l : List R} {lo hi lo' hi' : Nat} (h : Held W A l lo hi) (hl : lo' ≤ lo) (hh : hi ≤ hi') : Held W A l lo' hi' :=
  h.imp id fun ⟨g, e, hr, h1, h2⟩ => ⟨g, e, hr, by omega, by omega⟩
theorem Held.of_row {W : World} {g n : Nat} {l : List R} (h : Own W g n l) (hn : l.length ≤ n) {lo : Nat} (hlo : lo ≤ g) : Held W (some ⟨g, 0, Option.none⟩) l lo W.heap.size :=
  .inr ⟨g, rfl, Row.of_own h hn, hlo, h.lt⟩
theorem Held.of_own {W : World} {A : Option Addr} {l : List R} {base n cap : Nat} (h : W.ownsRow base 42 5 (slV A l cap) n (flat l)) : Held W A l base W.heap.size := by
  have hn : n = l.length := (own_lies h).1
  rcases h.2 with ⟨e, h0⟩ | ⟨g, cap', cur, e, hb, hh, hnc, hcm, hsz, hx⟩
  · unfold slV at e
    injection e with e1 e2 e3
    exact .inl ⟨e1, List.eq_nil_of_length_eq_zero e2⟩
  · unfold slV at e
    injection e with e1 e2 e3
    subst e1
    refine .inr ⟨g, rfl, ⟨cur, hh, by rw [hsz]; omega, fun j hj => ?_⟩, hb, (Array.getElem?_eq_some_iff.1 hh).1⟩
    have key : ∀ r u, r < l.length * 5 → (flat l)[r]? = some u → cur[r]? = some u := fun r u hr hu => by
      rw [← Array.getElem?_toList]
      rw [← hx, hn, List.getElem?_take, if_pos hr] at hu
      exact hu
    obtain ⟨g0, g1, g2, g3, g4⟩ := flat_at hj
    exact ⟨key (j * 5) _ (by omega) g0, key (j * 5 + 1) _ (by omega) g1, key (j * 5 + 2) _ (by omega) g2, key (j * 5 + 3) _ (by omega) g3, key (j * 5 + 4) _ (by omega) g4⟩
/-- Nothing has turned but new blocks, and one block of rows from lo on, below hi. -/
def Turned (W W' : World) (lo hi : Nat) : Prop := ∃ row, W.grownBy W' row ∧ ∀ g, row = some g → lo ≤ g ∧ g < hi ∧ ∃ cs, W.heap[g]? = some (.cells cs 42 (0, 0))
theorem Turned.size {W W' : World} {lo hi : Nat} (h : Turned W W' lo hi) : W.heap.size ≤ W'.heap.size := by obtain ⟨row, hg, _⟩ := h; exact hg.size
theorem Turned.blk {W W' : World} {lo hi b t : Nat} {cs : Array Value} (h : Turned W W' lo hi) (hh : Blk W b t cs) (ht : t ≠ 42) : Blk W' b t cs := by
  obtain ⟨row, hg, hr⟩ := h
  refine (hg.block b hh.lt (fun e => ?_)).trans hh
  obtain ⟨_, _, cs, hc⟩ := hr b e.symm
  rw [show W.heap[b]? = _ from hh] at hc
  injection hc with hc
  injection hc with _ h2
  exact absurd h2 ht
theorem Turned.apart {W W' : World} {lo hi b t : Nat} {cs : Array Value} (h : Turned W W' lo hi) (hh : Blk W b t cs) (hb : b < lo ∨ hi ≤ b) : Blk W' b t cs := by
  obtain ⟨row, hg, hr⟩ := h
  refine (hg.block b hh.lt (fun e => ?_)).trans hh
  have := hr b e.symm
  omega
theorem Turned.below {w W W' : World} {lo hi : Nat} (h : Turned W W' lo hi) (hb : Below w.heap.size w W) (hlo : w.heap.size ≤ lo) : Below w.heap.size w W' := by
  obtain ⟨row, hg, hr⟩ := h
  exact hb.grown hg hb.size (fun k e => by have := hr k e; omega)
theorem Turned.held {W W' : World} {lo hi lo' hi' : Nat} {A : Option Addr} {l : List R} (h : Turned W W' lo hi) (hh : Held W A l lo' hi') (hd : hi' ≤ lo ∨ hi ≤ lo') : Held W' A l lo' hi' := by
  obtain ⟨row, hg, hr⟩ := h
  exact hh.keep fun k h1 h2 h3 => hg.block k h3 (fun e => by have := hr k e.symm; omega)
/-- A mark of rows leaves the deps. -/
theorem Turned.deps {W W' : World} {lo hi lo' hi' : Nat} {A : Option Addr} {l : List D} (h : Turned W W' lo hi) (hh : Dep.Held W A l lo' hi') : Dep.Held W' A l lo' hi' := by
  rcases hh with hh | ⟨g, rfl, hr, hlo, hg⟩
  · exact .inl hh
  · obtain ⟨row, hgr, hrow⟩ := h
    refine .inr ⟨g, rfl, hr.same (hgr.block g hr.lt fun e => ?_), hlo, hg⟩
    obtain ⟨_, _, cs, hc⟩ := hrow g e.symm
    obtain ⟨cs', hc', _⟩ := hr
    rw [hc'] at hc
    injection hc with hc
    injection hc with _ h2
    exact absurd h2 (by decide)
/-- A mark of deps leaves the rows. -/
theorem Held.turned {W W' : World} {lo hi lo' hi' : Nat} {A : Option Addr} {l : List R} (hh : Held W A l lo' hi') (h : Dep.Turned W W' lo hi) : Held W' A l lo' hi' := by
  rcases hh with hh | ⟨g, rfl, hr, hlo, hg⟩
  · exact .inl hh
  · obtain ⟨row, hgr, hrow⟩ := h
    refine .inr ⟨g, rfl, hr.same (hgr.block g hr.lt fun e => ?_), hlo, hg⟩
    obtain ⟨_, _, cs, hc⟩ := hrow g e.symm
    obtain ⟨cs', hc', _⟩ := hr
    rw [hc'] at hc
    injection hc with hc
    injection hc with _ h2
    exact absurd h2 (by decide)

/-- What a mark leaves. -/
theorem mark_any (A : Option Addr) (l : List R) (cap k lo hi : Nat) (w : World) (h : Held w A l lo hi) (hl : l.length ≤ 1048576) (hk : k ≤ 10000000) :
    Calls Tryz.prog 213 #[.slice A l.length cap, .int .i64 k] w fun e w' => e = .returned (.int .i64 ((k + 5 * l.length : Nat) : Int)) ∧ Held w' A (marks k l.length) lo hi ∧ Turned w w' lo hi := by
  rcases h with ⟨rfl, rfl⟩ | ⟨g, rfl, hr, hlo, hhi⟩
  · simp only [List.length_nil, Nat.mul_zero, Nat.add_zero]
    go_enter Tryz.func213, Tryz.ntmps213
    go_wp2_with fail
    refine wp_loop_rounds 1 ?_
    rw [rounds_succ]
    go_wp2_with fail
    go_ret
    exact ⟨rfl, .inl ⟨rfl, rfl⟩, none, World.grownBy.refl _ _, fun g e => by cases e⟩
  · refine (markRow_any g l cap k w hr hl hk).mono ?_
    rintro e w' ⟨rfl, hr', hg⟩
    obtain ⟨cs, hcs, _⟩ := hr
    refine ⟨rfl, .inr ⟨g, rfl, hr', hlo, hhi⟩, some g, hg, fun g' e => ?_⟩
    cases e
    exact ⟨hlo, hhi, cs, hcs⟩

set_option maxHeartbeats 2000000 in
theorem heldRowS_any (A : Option Addr) (n cap k : Nat) (w : World) (h : Lies w w.heap.size A (marks k n)) (hl : n ≤ 1048576) (hk : k ≤ 10000000) :
    Calls Tryz.prog 269 #[.slice A n cap, .int .i64 k] w fun e w' => e = .returned (.int .i64 ((k + 5 * n : Nat) : Int)) ∧ Below w.heap.size w w' := by
  have H := Lib.hid h
  clear h
  have hml : (marks k n).length = n := by simp [marks]
  have hmj : ∀ j (h : j < (marks k n).length), (marks k n)[j] = mk k j := fun j h => by simp [marks]
  have HML := Lib.hid hml
  have HMJ := Lib.hid hmj
  clear hml hmj
  go_enter Tryz.func269, Tryz.ntmps269
  go_wp2_with fail
  go_loopw [1, 5] (fun z i wr => ∃ j : Nat, j ≤ n ∧ i = .int .i64 j ∧ z = .int .i64 ((k + 5 * j : Nat) : Int) ∧ Hid (Below w.heap.size w wr)) (fun _ i _ => n - (intOf i).toNat)
  case atStart => exact ⟨0, by omega, rfl, rfl, Lib.hid (Below.refl _ _)⟩
  case round =>
    obtain ⟨j, hj, rfl, rfl, HR⟩ := hrel
    by_cases hlt : j < n
    · have hjm : j < (marks k n).length := by rw [HML.out]; exact hlt
      obtain ⟨ad, rfl, _, hat⟩ := (H.out.below HR.out (Nat.le_refl _)).at_ hjm
      rw [HMJ.out j hjm] at hat
      clear hjm
      have HC := Lib.hid (fun W => markText_any (k + 5 * j) W (by omega))
      have HC2 : Hid (∀ W, Calls Tryz.prog 139 #[.int .i64 (((k + 5 * j : Nat) : Int) + 1 + 1 + 1 + 1)] W fun e w' => e = .returned (.string (markV (k + 5 * j + 4))) ∧ Below W.heap.size W w') := Lib.hid fun W => by
        have e : ((k + 5 * j : Nat) : Int) + 1 + 1 + 1 + 1 = ((k + 5 * j + 4 : Nat) : Int) := by omega
        rw [e]
        exact markText_any (k + 5 * j + 4) W (by omega)
      unfold mk at hat
      obtain ⟨q, hq⟩ : ∃ q, k + 5 * j = q := ⟨_, rfl⟩
      have HQ := Lib.hid hq
      rw [hq] at HC HC2 hat ⊢
      clear hq
      have hq2 : q ≤ 100000000 := by have := HQ.out; omega
      obtain ⟨mv, hmv⟩ : ∃ mv, markV q = mv := ⟨_, rfl⟩
      obtain ⟨mv2, hmv2⟩ : ∃ mv2, markV (q + 4) = mv2 := ⟨_, rfl⟩
      rw [hmv] at HC hat
      rw [hmv2] at HC2 hat
      clear hmv hmv2
      have hst : One w (ad.add (j * 5)) ⟨mv, ⟨(q : Int) + 1, (q : Int) + 1 + 1, (q : Int) + 1 + 1 + 1⟩, mv2⟩ wr := ⟨hat, HR.out⟩
      have hee : (mv.toList == mv.toList) = true := beq_self_eq_true _
      have hee2 : (mv2.toList == mv2.toList) = true := beq_self_eq_true _
      clear hat
      go_upto_region 4 with fail
      go_region_held3 (fun W => At W (ad.add (j * 5)) ⟨mv, ⟨(q : Int) + 1, (q : Int) + 1 + 1, (q : Int) + 1 + 1 + 1⟩, mv2⟩ ∧ Below w.heap.size w W)
        (first | exact One.drew (by assumption) | exact One.step (by assumption) hb)
        (first | (go_at_call 139; refine (HC.out _).mono ?_; rintro x w' ⟨rfl, hb⟩))
      have hend : One w (ad.add (j * 5)) ⟨mv, ⟨(q : Int) + 1, (q : Int) + 1 + 1, (q : Int) + 1 + 1 + 1⟩, mv2⟩ w' := by assumption
      have HEND := Lib.hid hend
      obtain ⟨c0, c1, c2, c3, c4⟩ := hend.1
      clear hend hst
      go_upto_region 16 with fail
      have hst := HEND.out
      clear c0 c1 c2 c3 c4
      go_region_held3 (fun W => At W (ad.add (j * 5)) ⟨mv, ⟨(q : Int) + 1, (q : Int) + 1 + 1, (q : Int) + 1 + 1 + 1⟩, mv2⟩ ∧ Below w.heap.size w W)
        (first | exact One.drew (by assumption) | exact One.step (by assumption) hb)
        (first | (go_at_call 139; refine (HC2.out _).mono ?_; rintro x w2 ⟨rfl, hb⟩))
      have hend2 : One w (ad.add (j * 5)) ⟨mv, ⟨(q : Int) + 1, (q : Int) + 1 + 1, (q : Int) + 1 + 1 + 1⟩, mv2⟩ w2 := by assumption
      have HE := Lib.hid hend2.2
      clear hend2 hst
      go_wp2_with fail
      refine ⟨⟨j + 1, by omega, by go_num, ?_, HE⟩, by simp [intOf]; omega⟩
      have := HQ.out; congr 1; omega
    · have e : j = n := by omega
      go_wp2_with fail
      go_ret
      exact ⟨by rw [e]; rfl, HR.out⟩
end Go.Proofs.YtoagdpbbojlgfaaGreat.Sto
