/-
  A parameter that is a slice of records, opened.
-/
import Derived.Test.YtegnjbdgeibhfaaPackRsA
import Derived.Test.YtegnjbdgeibhfaaRecOpen
namespace Go.Proofs.Ytegnjbdgeibhfaa.Rs
open Go.ChangeShapes Go.WideShapes Go.ChangeAt Go.RowKit
open Rec (R P Sound Small recV cellsV)
open Dep (add_block add_add cell_lt)
set_option linter.unusedVariables false
set_option maxRecDepth 100000
set_option linter.unusedSimpArgs false

instance : Inhabited Q := ⟨⟨⟨⟨#[]⟩, ⟨0, 0, 0⟩, ⟨#[]⟩, false, [], []⟩, ⟨none, 0, none, 0⟩⟩⟩

set_option maxRecDepth 100000 in
theorem one_rec {H : Type} {enc : TypeId × Value → H} {w : World} {spare : Nat → Bool} {held : Bool} {n : Nat} {cs : List Value} {x : DataW H × List MemPlace}
    (h : DataW.trod enc Try.prog w 0 spare held n 68 cs = some x) : ∃ q : Q, cs = qc q ∧ Rec.Lies w w.heap.size q.r q.p ∧ Sound q.r := by
  obtain ⟨xs, k, _, _, hl, hxl, hg⟩ := DataW.trod_struct Try.underlying68 h
  have hc : Try.prog.cellsOf 68 = 8 := by kernel_rfl
  rw [hc] at hl
  match xs, hxl, cs, hl with
  | [y0, y1, y2, y3, y4, y5], _, [v0, v1, v2, v3, v4, v5, v6, v7], _ =>
    have g0 := hg 0 ⟨"Key", 9, 0, false, "", "", 0⟩ rfl
    have g1 := hg 1 ⟨"Id", 65, 1, false, "", "", 16⟩ rfl
    have g2 := hg 2 ⟨"Data", 9, 4, false, "", "", 40⟩ rfl
    have g3 := hg 3 ⟨"Gone", 4, 5, false, "", "", 56⟩ rfl
    have g4 := hg 4 ⟨"Deps", 66, 6, false, "", "", 64⟩ rfl
    have g5 := hg 5 ⟨"Bundle", 28, 7, false, "", "", 88⟩ rfl
    have c0 : Try.prog.cellsOf 9 = 1 := by kernel_rfl
    have c1 : Try.prog.cellsOf 65 = 3 := by kernel_rfl
    have c2 : Try.prog.cellsOf 4 = 1 := by kernel_rfl
    have c3 : Try.prog.cellsOf 66 = 1 := by kernel_rfl
    have c4 : Try.prog.cellsOf 28 = 1 := by kernel_rfl
    simp [c0, c1, c2, c3, c4] at g0 g1 g2 g3 g4 g5
    obtain ⟨sk, e0, _, hsk⟩ := DataW.trod_string Try.underlying9 g0
    obtain ⟨sd, e2, _, hsd⟩ := DataW.trod_string Try.underlying9 g2
    obtain ⟨bg, e3, _⟩ := DataW.trod_bool Try.underlying4 g3
    obtain ⟨A, l, ca, e4, hd1, hd2, hd3, hd4⟩ := Rec.open_deps g4
    obtain ⟨B, b, cb, e5, hb1, hb2, hb3⟩ := Rec.open_strs g5
    obtain ⟨zs, k2, _, _, hl2, hzl, hi⟩ := DataW.trod_struct Try.underlying65 g1
    match zs, hzl with
    | [z0, z1, z2], _ =>
      have i0 := hi 0 ⟨"Clock", 2, 0, false, "", "", 0⟩ rfl
      have i1 := hi 1 ⟨"Shim", 2, 1, false, "", "", 8⟩ rfl
      have i2 := hi 2 ⟨"Epoch", 2, 2, false, "", "", 16⟩ rfl
      have c5 : Try.prog.cellsOf 2 = 1 := by kernel_rfl
      simp [c5] at i0 i1 i2
      obtain ⟨n0, q0, _, _⟩ := DataW.trod_int Try.underlying2 i0
      obtain ⟨n1, q1, _, _⟩ := DataW.trod_int Try.underlying2 i1
      obtain ⟨n2, q2, _, _⟩ := DataW.trod_int Try.underlying2 i2
      cases e0; cases e2; cases e3; cases e4; cases e5; cases q0; cases q1; cases q2
      exact ⟨⟨⟨sk, ⟨n0, n1, n2⟩, sd, bg, l, b⟩, ⟨A, ca, B, cb⟩⟩, rfl, ⟨hd3, hb2⟩, hsk, hsd, Nat.le_trans hd1 hd2, fun d hd => (hd4 d hd).1, hb1, hb3⟩

/-- A slice of records as it comes in. -/
def IsRecs (w : World) (A : Option Addr) (l : List Q) : Prop := LRs w w.heap.size A l ∧ l.length ≤ maxLen ∧ ∀ q ∈ l, Sound q.r

theorem recs_of {H : Type} {enc : TypeId × Value → H} {w : World} {spare : Nat → Bool} {held : Bool} {fuel : Nat} {cs : List Value} {x : DataW H × List MemPlace}
    (h : DataW.trod enc Try.prog w 0 spare held fuel 35 cs = some x) : ∃ A l cap, cs = [.slice A (l : List Q).length cap] ∧ IsRecs w A l := by
  rcases Go.Deep.open_slice Try.underlying35 h with ⟨h0, _⟩ | ⟨a, len, cap, m, n, Df, Pl, h0, _, hl, hm, hmm, _, hx⟩
  · exact ⟨none, [], 0, h0, LRs.nil _ _ _, by simp [maxLen], fun y hy => absurd hy (by simp)⟩
  · have hlm : len ≤ m := by rw [hmm]; split <;> omega
    have hc : Try.prog.cellsOf 68 = 8 := by kernel_rfl
    obtain ⟨f, hf⟩ := Go.Deep.choose_lt (α := Q) (n := len) (p := fun i y => (∀ j, j < 8 → w.cell? (a.add (i * 8 + j)) = (qc y)[j]?) ∧ Rec.Lies w w.heap.size y.r y.p ∧ Sound y.r) (fun i hi => by
      obtain ⟨cs', h1, h2⟩ := hx i (by omega)
      rw [hc] at h1
      obtain ⟨y, rfl, hy⟩ := one_rec h2
      obtain ⟨_, _, hcell⟩ := World.cells?_some h1
      refine ⟨y, fun j hj => ?_, hy⟩
      have e0 := hcell j hj
      rw [add_add] at e0
      exact e0)
    refine ⟨some a, (List.range len).map f, cap, by simpa using h0, ⟨fun h0 => ⟨a, rfl, ?_, fun j u hu => ?_⟩, fun y hy => ?_⟩, by simp; omega, fun y hy => ?_⟩
    · rw [rv_len] at h0
      have hlen : 0 < len := by simp at h0; omega
      have := (hf 0 hlen).1 0 (by omega)
      have := cell_lt (this.trans (by rfl : (qc (f 0))[0]? = some _))
      rwa [add_block] at this
    · have hj : j < len * 8 := by have := (List.getElem?_eq_some_iff.1 hu).1; rw [rv_len] at this; simpa using this
      have hq : j / 8 < len := by omega
      have g0 := rv_at (l := (List.range len).map f) (k := j / 8) (by simpa using hq) (j := j % 8) (by omega)
      simp only [List.getElem_map, List.getElem_range] at g0
      have k0 := (hf (j / 8) hq).1 (j % 8) (by omega)
      have e : j = j / 8 * 8 + j % 8 := by omega
      rw [e] at hu ⊢
      rw [g0] at hu
      rw [k0]
      exact hu
    · obtain ⟨i, hi, rfl⟩ := List.mem_map.1 hy
      exact (hf i (by simpa using hi)).2.1
    · obtain ⟨i, hi, rfl⟩ := List.mem_map.1 hy
      exact (hf i (by simpa using hi)).2.2
theorem open_recs {H : Type} {enc : TypeId × Value → H} {w : World} {spare : Nat → Bool} {held : Bool} {A : Option Addr} {len cap : Nat} {d : DataW H} {p : List MemPlace}
    (h : DataW.Trod enc Try.prog w 0 spare held 35 (.slice A len cap) d p) : ∃ l : List Q, len = l.length ∧ IsRecs w A l := by
  obtain ⟨fuel, h⟩ := h
  obtain ⟨A', l, cap', e, hi⟩ := recs_of h
  simp only [Value.cells, List.cons.injEq, Value.slice.injEq, and_true] at e
  obtain ⟨rfl, rfl, rfl⟩ := e
  exact ⟨l, rfl, hi⟩
end Go.Proofs.Ytegnjbdgeibhfaa.Rs
