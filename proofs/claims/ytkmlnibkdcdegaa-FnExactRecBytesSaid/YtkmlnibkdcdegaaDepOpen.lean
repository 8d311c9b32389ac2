/-
  A parameter that is a slice of deps, opened: it reads as a list.
-/
import Derived.Test.YtkmlnibkdcdegaaDepApp
import Derived.Deep.Slices
import Derived.ChangeArms
namespace Go.Proofs.Ytkmlnibkdcdegaa.Dep
open Go.ChangeShapes Go.WideShapes Go.ChangeAt Go.RowKit
set_option linter.unusedVariables false
set_option maxRecDepth 100000
set_option linter.unusedSimpArgs false

theorem cell_lt {w : World} {a : Addr} {v : Value} (h : w.cell? a = some v) : a.block < w.heap.size := by
  rcases Nat.lt_or_ge a.block w.heap.size with h' | h'
  · exact h'
  · simp [World.cell?, Array.getElem?_eq_none h'] at h

/-- What a number of a dep is within. -/
def I64 (n : Int) : Prop := -9223372036854775808 ≤ n ∧ n ≤ 9223372036854775807
def Sound (d : D) : Prop := d.k.size ≤ maxLen ∧ I64 d.i.c ∧ I64 d.i.s ∧ I64 d.i.e
/-- A slice of deps as it comes in. -/
def IsDeps (w : World) (A : Option Addr) (l : List D) (cap : Nat) : Prop := l.length ≤ cap ∧ cap ≤ maxLen ∧ Lies w w.heap.size A l ∧ ∀ d ∈ l, Sound d

theorem i64_of {n : Int} (h : (Lit.int .i64 n).wf = true) : I64 n := by
  have := bounds_i64 h
  unfold I64; omega

instance : Inhabited D := ⟨⟨ByteArray.empty, zero⟩⟩

set_option maxRecDepth 100000 in
theorem one_dep {H : Type} {enc : TypeId × Value → H} {w : World} {base : Nat} {spare : Nat → Bool} {held : Bool} {n : Nat} {cs : List Value} {x : DataW H × List MemPlace}
    (h : DataW.trod enc Try.prog w base spare held n 80 cs = some x) :
    ∃ d : D, cs = [.string d.k, .int .i64 d.i.c, .int .i64 d.i.s, .int .i64 d.i.e] ∧ Sound d := by
  obtain ⟨xs, k, _, _, hl, hxl, hf⟩ := DataW.trod_struct Try.underlying80 h
  have hc : Try.prog.cellsOf 80 = 4 := by kernel_rfl
  rw [hc] at hl
  match xs, hxl, cs, hl with
  | [y0, y1], _, [v0, v1, v2, v3], _ =>
    have g0 := hf 0 ⟨"Key", 9, 0, false, "", "", 0⟩ rfl
    have g1 := hf 1 ⟨"Id", 47, 1, false, "", "", 16⟩ rfl
    have c0 : Try.prog.cellsOf 9 = 1 := by kernel_rfl
    have c1 : Try.prog.cellsOf 47 = 3 := by kernel_rfl
    simp [c0, c1] at g0 g1
    obtain ⟨s, e0, _, hs⟩ := DataW.trod_string Try.underlying9 g0
    obtain ⟨zs, k2, _, _, hl2, hzl, hg⟩ := DataW.trod_struct Try.underlying47 g1
    match zs, hzl with
    | [z0, z1, z2], _ =>
      have i0 := hg 0 ⟨"Clock", 2, 0, false, "", "", 0⟩ rfl
      have i1 := hg 1 ⟨"Shim", 2, 1, false, "", "", 8⟩ rfl
      have i2 := hg 2 ⟨"Epoch", 2, 2, false, "", "", 16⟩ rfl
      have c2 : Try.prog.cellsOf 2 = 1 := by kernel_rfl
      simp [c2] at i0 i1 i2
      obtain ⟨n0, q0, _, b0⟩ := DataW.trod_int Try.underlying2 i0
      obtain ⟨n1, q1, _, b1⟩ := DataW.trod_int Try.underlying2 i1
      obtain ⟨n2, q2, _, b2⟩ := DataW.trod_int Try.underlying2 i2
      refine ⟨⟨s, ⟨n0, n1, n2⟩⟩, ?_, hs, i64_of b0, i64_of b1, i64_of b2⟩
      cases e0; cases q0; cases q1; cases q2
      rfl

set_option maxRecDepth 100000 in
theorem open_deps {H : Type} {enc : TypeId × Value → H} {w : World} {spare : Nat → Bool} {held : Bool} {A : Option Addr} {len cap : Nat} {d : DataW H} {p : List MemPlace}
    (h : DataW.Trod enc Try.prog w 0 spare held 41 (.slice A len cap) d p) : ∃ l : List D, len = l.length ∧ IsDeps w A l cap := by
  obtain ⟨fuel, h⟩ := h
  rcases Go.Deep.open_slice Try.underlying41 h with ⟨h0, _⟩ | ⟨a, len', cap', m, n, Df, Pl, h0, _, hl, hm, hmm, _, hx⟩
  · simp only [Value.cells, List.cons.injEq, Value.slice.injEq, and_true] at h0
    obtain ⟨rfl, rfl, rfl⟩ := h0
    exact ⟨[], rfl, Nat.le_refl _, by simp [maxLen], fun h => absurd h (by simp), fun d hd => absurd hd (by simp)⟩
  · simp only [Value.cells, List.cons.injEq, Value.slice.injEq, and_true] at h0
    obtain ⟨rfl, rfl, rfl⟩ := h0
    have hlm : len ≤ m := by rw [hmm]; split <;> omega
    have hc : Try.prog.cellsOf 80 = 4 := by kernel_rfl
    obtain ⟨f, hf⟩ := Go.Deep.choose_lt (α := D) (n := len) (p := fun i d => At w (a.add (i * 4)) d ∧ Sound d) (fun i hi => by
      obtain ⟨cs', h1, h2⟩ := hx i (by omega)
      rw [hc] at h1
      obtain ⟨d, rfl, hd⟩ := one_dep h2
      obtain ⟨_, _, hcell⟩ := World.cells?_some h1
      have e0 := hcell 0 (by omega)
      have e1 := hcell 1 (by omega)
      have e2 := hcell 2 (by omega)
      have e3 := hcell 3 (by omega)
      rw [add_add] at e0 e1 e2 e3
      refine ⟨d, ⟨by simpa using e0, ?_, ?_, ?_⟩, hd⟩
      · rw [addr_next _ _ 1 (by omega)]; simpa using e1
      · rw [Nat.add_assoc, addr_next _ _ 2 (by omega)]; simpa using e2
      · rw [Nat.add_assoc, addr_next _ _ 3 (by omega)]; simpa using e3)
    refine ⟨(List.range len).map f, by simp, by simpa using hl, hm, fun h0 => ⟨a, rfl, ?_, fun j hj => ?_⟩, fun d hd => ?_⟩
    · have := (hf 0 (by simpa using h0)).1.1
      have := cell_lt this
      rwa [add_block] at this
    · simp only [List.getElem_map, List.getElem_range]
      exact (hf j (by simpa using hj)).1
    · obtain ⟨i, hi, rfl⟩ := List.mem_map.1 hd
      exact (hf i (by simpa using hi)).2
end Go.Proofs.Ytkmlnibkdcdegaa.Dep
