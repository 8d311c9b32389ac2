/-
  A parameter that is a slice of rows, or a row, opened.
-/
import Derived.Test.YtoagdpbbojlgfaaGreatRowLies
import Derived.Test.YtoagdpbbojlgfaaGreatPackPut
import Derived.Deep.Slices
import Derived.Lib.SmallJoins
import Derived.SliceStrings
import Derived.ChangeArms
namespace Go.Proofs.YtoagdpbbojlgfaaGreat.Sto
open Go.ChangeShapes Go.WideShapes Go.ChangeAt Go.RowKit
open Dep (I D zero kl add_block add_add I64 i64_of cell_lt)
set_option linter.unusedVariables false
set_option maxRecDepth 100000
set_option linter.unusedSimpArgs false

/-- What a number and a text of a row are within. -/
def Sound (d : R) : Prop := d.k.size ≤ maxLen ∧ I64 d.i.c ∧ I64 d.i.s ∧ I64 d.i.e ∧ d.b.size ≤ maxLen
/-- A slice of rows as it comes in. -/
def IsRows (w : World) (A : Option Addr) (l : List R) (cap : Nat) : Prop := l.length ≤ cap ∧ cap ≤ maxLen ∧ Lies w w.heap.size A l ∧ ∀ d ∈ l, Sound d

instance : Inhabited R := ⟨zeroR⟩

set_option maxRecDepth 100000 in
theorem one_row {H : Type} {enc : TypeId × Value → H} {w : World} {base : Nat} {spare : Nat → Bool} {held : Bool} {n : Nat} {cs : List Value} {x : DataW H × List MemPlace}
    (h : DataW.trod enc Tryz.prog w base spare held n 29 cs = some x) :
    ∃ d : R, cs = [.string d.k, .int .i64 d.i.c, .int .i64 d.i.s, .int .i64 d.i.e, .string d.b] ∧ Sound d := by
  obtain ⟨xs, k, _, _, hl, hxl, hf⟩ := DataW.trod_struct Tryz.underlying29 h
  have hc : Tryz.prog.cellsOf 29 = 5 := by kernel_rfl
  rw [hc] at hl
  match xs, hxl, cs, hl with
  | [y0, y1, y2], _, [v0, v1, v2, v3, v4], _ =>
    have g0 := hf 0 ⟨"Key", 9, 0, false, "", "", 0⟩ rfl
    have g1 := hf 1 ⟨"Id", 27, 1, false, "", "", 16⟩ rfl
    have g2 := hf 2 ⟨"Bytes", 9, 4, false, "", "", 40⟩ rfl
    have c0 : Tryz.prog.cellsOf 9 = 1 := by kernel_rfl
    have c1 : Tryz.prog.cellsOf 27 = 3 := by kernel_rfl
    simp [c0, c1] at g0 g1 g2
    obtain ⟨s, e0, _, hs⟩ := DataW.trod_string Tryz.underlying9 g0
    obtain ⟨s2, e2, _, hs2⟩ := DataW.trod_string Tryz.underlying9 g2
    obtain ⟨zs, k2, _, _, hl2, hzl, hg⟩ := DataW.trod_struct Tryz.underlying27 g1
    match zs, hzl with
    | [z0, z1, z2], _ =>
      have i0 := hg 0 ⟨"Clock", 2, 0, false, "", "", 0⟩ rfl
      have i1 := hg 1 ⟨"Shim", 2, 1, false, "", "", 8⟩ rfl
      have i2 := hg 2 ⟨"Epoch", 2, 2, false, "", "", 16⟩ rfl
      have c2 : Tryz.prog.cellsOf 2 = 1 := by kernel_rfl
      simp [c2] at i0 i1 i2
      obtain ⟨n0, q0, _, b0⟩ := DataW.trod_int Tryz.underlying2 i0
      obtain ⟨n1, q1, _, b1⟩ := DataW.trod_int Tryz.underlying2 i1
      obtain ⟨n2, q2, _, b2⟩ := DataW.trod_int Tryz.underlying2 i2
      refine ⟨⟨s, ⟨n0, n1, n2⟩, s2⟩, ?_, hs, i64_of b0, i64_of b1, i64_of b2, hs2⟩
      cases e0; cases q0; cases q1; cases q2; cases e2
      rfl

theorem open_row {H : Type} {enc : TypeId × Value → H} {w : World} {base : Nat} {spare : Nat → Bool} {held : Bool} {v : Value} {d : DataW H} {pl : List MemPlace} {rr : Reach} {b0 : Nat}
    (hv : Value.okWide Tryz.prog w rr b0 29 v) (h : DataW.Trod enc Tryz.prog w base spare held 29 v d pl) : ∃ r : R, v = r.val ∧ Sound r := by
  obtain ⟨cs, rfl, hsz⟩ := okWide_struct Tryz.underlying29 hv
  obtain ⟨fuel, hf⟩ := h
  obtain ⟨r, hr, hs⟩ := one_row hf
  refine ⟨r, ?_, hs⟩
  have : cs = #[.string r.k, .int .i64 r.i.c, .int .i64 r.i.s, .int .i64 r.i.e, .string r.b] := by
    apply Array.toList_inj.1
    exact hr
  rw [this]
  rfl

set_option maxRecDepth 100000 in
theorem open_rows {H : Type} {enc : TypeId × Value → H} {w : World} {spare : Nat → Bool} {held : Bool} {A : Option Addr} {len cap : Nat} {d : DataW H} {p : List MemPlace}
    (h : DataW.Trod enc Tryz.prog w 0 spare held 202 (.slice A len cap) d p) : ∃ l : List R, len = l.length ∧ IsRows w A l cap := by
  obtain ⟨fuel, h⟩ := h
  rcases Go.Deep.open_slice Tryz.underlying202 h with ⟨h0, _⟩ | ⟨a, len', cap', m, n, Df, Pl, h0, _, hl, hm, hmm, _, hx⟩
  · simp only [Value.cells, List.cons.injEq, Value.slice.injEq, and_true] at h0
    obtain ⟨rfl, rfl, rfl⟩ := h0
    exact ⟨[], rfl, Nat.le_refl _, by simp [maxLen], fun h => absurd h (by simp), fun d hd => absurd hd (by simp)⟩
  · simp only [Value.cells, List.cons.injEq, Value.slice.injEq, and_true] at h0
    obtain ⟨rfl, rfl, rfl⟩ := h0
    have hlm : len ≤ m := by rw [hmm]; split <;> omega
    have hc : Tryz.prog.cellsOf 29 = 5 := by kernel_rfl
    obtain ⟨f, hf⟩ := Go.Deep.choose_lt (α := R) (n := len) (p := fun i d => At w (a.add (i * 5)) d ∧ Sound d) (fun i hi => by
      obtain ⟨cs', h1, h2⟩ := hx i (by omega)
      rw [hc] at h1
      obtain ⟨d, rfl, hd⟩ := one_row h2
      obtain ⟨_, _, hcell⟩ := World.cells?_some h1
      have e0 := hcell 0 (by omega)
      have e1 := hcell 1 (by omega)
      have e2 := hcell 2 (by omega)
      have e3 := hcell 3 (by omega)
      have e4 := hcell 4 (by omega)
      rw [add_add] at e0 e1 e2 e3 e4
      refine ⟨d, ⟨by simpa using e0, ?_, ?_, ?_, ?_⟩, hd⟩
      · rw [addr_next _ _ 1 (by omega)]; simpa using e1
      · rw [Nat.add_assoc, addr_next _ _ 2 (by omega)]; simpa using e2
      · rw [Nat.add_assoc, addr_next _ _ 3 (by omega)]; simpa using e3
      · rw [addr_next _ _ 4 (by omega)]; simpa using e4)
    refine ⟨(List.range len).map f, by simp, by simpa using hl, hm, fun h0 => ⟨a, rfl, ?_, fun j hj => ?_⟩, fun d hd => ?_⟩
    · have := (hf 0 (by simpa using h0)).1.1
      have := cell_lt this
      rwa [add_block] at this
    · simp only [List.getElem_map, List.getElem_range]
      exact (hf j (by simpa using hj)).1
    · obtain ⟨i, hi, rfl⟩ := List.mem_map.1 hd
      exact (hf i (by simpa using hi)).2
end Go.Proofs.YtoagdpbbojlgfaaGreat.Sto
