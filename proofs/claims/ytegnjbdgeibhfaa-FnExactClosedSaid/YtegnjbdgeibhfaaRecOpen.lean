/-
  A parameter that is a record, opened: its numbers, its strings, its lists.
-/
import Derived.Test.YtegnjbdgeibhfaaRecBox
import Derived.Test.YtegnjbdgeibhfaaPackPut
import Derived.Lib.SmallJoins
import Derived.SliceStrings
namespace Go.Proofs.Ytegnjbdgeibhfaa.Rec
open Go.ChangeShapes Go.WideShapes Go.ChangeAt Go.RowKit
open Dep (D I)
set_option linter.unusedVariables false
set_option maxRecDepth 100000
set_option linter.unusedSimpArgs false

theorem open_deps {H : Type} {enc : TypeId × Value → H} {w : World} {spare : Nat → Bool} {held : Bool} {fuel : Nat} {cs : List Value} {x : DataW H × List MemPlace}
    (h : DataW.trod enc Try.prog w 0 spare held fuel 66 cs = some x) : ∃ A l cap, cs = [.slice A l.length cap] ∧ Dep.IsDeps w A l cap := by
  rcases Go.Deep.open_slice Try.underlying66 h with ⟨h0, _⟩ | ⟨a, len, cap, m, n, Df, Pl, h0, _, hl, hm, hmm, _, hx⟩
  · exact ⟨none, [], 0, h0, Nat.le_refl _, by simp [maxLen], fun h => absurd h (by simp), fun d hd => absurd hd (by simp)⟩
  · have hlm : len ≤ m := by rw [hmm]; split <;> omega
    have hc : Try.prog.cellsOf 111 = 4 := by kernel_rfl
    obtain ⟨f, hf⟩ := Go.Deep.choose_lt (α := D) (n := len) (p := fun i d => Dep.At w (a.add (i * 4)) d ∧ Dep.Sound d) (fun i hi => by
      obtain ⟨cs', h1, h2⟩ := hx i (by omega)
      rw [hc] at h1
      obtain ⟨d, rfl, hd⟩ := Dep.one_dep h2
      obtain ⟨_, _, hcell⟩ := World.cells?_some h1
      have e0 := hcell 0 (by omega)
      have e1 := hcell 1 (by omega)
      have e2 := hcell 2 (by omega)
      have e3 := hcell 3 (by omega)
      rw [Dep.add_add] at e0 e1 e2 e3
      refine ⟨d, ⟨by simpa using e0, ?_, ?_, ?_⟩, hd⟩
      · rw [Dep.addr_next _ _ 1 (by omega)]; simpa using e1
      · rw [Nat.add_assoc, Dep.addr_next _ _ 2 (by omega)]; simpa using e2
      · rw [Nat.add_assoc, Dep.addr_next _ _ 3 (by omega)]; simpa using e3)
    refine ⟨some a, (List.range len).map f, cap, by simpa using h0, by simpa using hl, hm, fun h0 => ⟨a, rfl, ?_, fun j hj => ?_⟩, fun d hd => ?_⟩
    · have := (hf 0 (by simpa using h0)).1.1
      have := Dep.cell_lt this
      rwa [Dep.add_block] at this
    · simp only [List.getElem_map, List.getElem_range]
      exact (hf j (by simpa using hj)).1
    · obtain ⟨i, hi, rfl⟩ := List.mem_map.1 hd
      exact (hf i (by simpa using hi)).2

theorem open_strs {H : Type} {enc : TypeId × Value → H} {w : World} {spare : Nat → Bool} {held : Bool} {fuel : Nat} {cs : List Value} {x : DataW H × List MemPlace}
    (h : DataW.trod enc Try.prog w 0 spare held fuel 28 cs = some x) : ∃ A l cap, cs = [.slice A l.length cap] ∧ l.length ≤ maxLen ∧ Str.Lies w w.heap.size A l ∧ ∀ s ∈ l, s.size ≤ maxLen := by
  rcases Go.Deep.open_slice1 Try.underlying28 (by kernel_rfl) h with ⟨h0, _⟩ | ⟨a, len, cap, m, n, V, Df, Pl, h0, _, hl, hm, hmm, _, hx⟩
  · exact ⟨none, [], 0, h0, by simp [maxLen], fun h => absurd h (by simp), fun d hd => absurd hd (by simp)⟩
  · have hlm : len ≤ m := by rw [hmm]; split <;> omega
    obtain ⟨f, hf⟩ := Go.Deep.choose_lt (α := ByteArray) (n := len) (p := fun i s => w.cell? (a.add i) = some (.string s) ∧ s.size ≤ maxLen) (fun i hi => by
      obtain ⟨h1, h2⟩ := hx i (by omega)
      obtain ⟨s, e0, _, hs⟩ := DataW.trod_string Try.underlying9 h2
      refine ⟨s, ?_, hs⟩
      rw [h1]
      simpa using e0)
    refine ⟨some a, (List.range len).map f, cap, by simpa using h0, by simp; omega, fun h0 => ⟨a, rfl, ?_, fun j hj => ?_⟩, fun d hd => ?_⟩
    · have := (hf 0 (by simpa using h0)).1
      have := Dep.cell_lt this
      rwa [Dep.add_block] at this
    · simp only [List.getElem_map, List.getElem_range]
      exact (hf j (by simpa using hj)).1
    · obtain ⟨i, hi, rfl⟩ := List.mem_map.1 hd
      exact (hf i (by simpa using hi)).2

theorem open_rec {H : Type} {enc : TypeId × Value → H} {w : World} {spare : Nat → Bool} {held : Bool} {v : Value} {d : DataW H} {pl : List MemPlace} {rr : Reach} {b0 : Nat}
    (hv : Value.okWide Try.prog w rr b0 68 v) (h : DataW.Trod enc Try.prog w 0 spare held 68 v d pl) :
    ∃ (r : R) (p : P), v = recV r p ∧ Lies w w.heap.size r p ∧ Sound r := by
  obtain ⟨cs, rfl, hsz⟩ := okWide_struct Try.underlying68 hv
  obtain ⟨fuel, hf⟩ := h
  obtain ⟨xs, k, _, _, hl, hxl, hg⟩ := DataW.trod_struct Try.underlying68 hf
  have hc : Try.prog.cellsOf 68 = 8 := by kernel_rfl
  rw [hc] at hsz
  have hcells : (Value.agg cs).cells = cs := rfl
  rw [hcells] at hg
  obtain ⟨cl, hcl⟩ : ∃ cl, cs.toList = cl := ⟨_, rfl⟩
  have hlen : cl.length = 8 := by rw [← hcl]; simpa using hsz
  rw [hcl] at hg
  match xs, hxl, cl, hlen with
  | [y0, y1, y2, y3, y4, y5], _, [v0, v1, v2, v3, v4, v5, v6, v7], _ =>
    have g0 := hg 0 ⟨"Key", 9, 0, false, "", "", 0⟩ rfl
    have g1 := hg 1 ⟨"Id", 65, 1, false, "", "", 16⟩ rfl
    have g2 := hg 2 ⟨"Data", 9, 4, false, "", "", 40⟩ rfl
    have g3 := hg 3 ⟨"Gone", 4, 5, false, "", "", 56⟩ rfl
    have g4 := hg 4 ⟨"Deps", 66, 6, false, "", "", 64⟩ rfl
    have g5 := hg 5 ⟨"Bundle", 28, 7, false, "", "", 88⟩ rfl
    have c0 : Try.prog.cellsOf 9 = 1 := by kernel_rfl
    have c1 : Try.prog.cellsOf 65 = 3 := by kernel_rfl
    have c2 : Try.prog.cellsOf 4 = 1 := by kernel_rfl
    have c3 : Try.prog.cellsOf 66 = 1 := by kernel_rfl
    have c4 : Try.prog.cellsOf 28 = 1 := by kernel_rfl
    simp [c0, c1, c2, c3, c4] at g0 g1 g2 g3 g4 g5
    obtain ⟨sk, e0, _, hsk⟩ := DataW.trod_string Try.underlying9 g0
    obtain ⟨sd, e2, _, hsd⟩ := DataW.trod_string Try.underlying9 g2
    obtain ⟨bg, e3, _⟩ := DataW.trod_bool Try.underlying4 g3
    obtain ⟨A, l, ca, e4, hd1, hd2, hd3, hd4⟩ := open_deps g4
    obtain ⟨B, b, cb, e5, hb1, hb2, hb3⟩ := open_strs g5
    obtain ⟨zs, k2, _, _, hl2, hzl, hi⟩ := DataW.trod_struct Try.underlying65 g1
    match zs, hzl with
    | [z0, z1, z2], _ =>
      have i0 := hi 0 ⟨"Clock", 2, 0, false, "", "", 0⟩ rfl
      have i1 := hi 1 ⟨"Shim", 2, 1, false, "", "", 8⟩ rfl
      have i2 := hi 2 ⟨"Epoch", 2, 2, false, "", "", 16⟩ rfl
      have c5 : Try.prog.cellsOf 2 = 1 := by kernel_rfl
      simp [c5] at i0 i1 i2
      obtain ⟨n0, q0, _, _⟩ := DataW.trod_int Try.underlying2 i0
      obtain ⟨n1, q1, _, _⟩ := DataW.trod_int Try.underlying2 i1
      obtain ⟨n2, q2, _, _⟩ := DataW.trod_int Try.underlying2 i2
      cases e0; cases e2; cases e3; cases e4; cases e5; cases q0; cases q1; cases q2
      refine ⟨⟨sk, ⟨n0, n1, n2⟩, sd, bg, l, b⟩, ⟨A, ca, B, cb⟩, ?_, ⟨hd3, hb2⟩, hsk, hsd, Nat.le_trans hd1 hd2, fun d hd => (hd4 d hd).1, hb1, hb3⟩
      unfold recV
      congr 1
      exact Array.toList_inj.1 (by rw [hcl])
end Go.Proofs.Ytegnjbdgeibhfaa.Rec
