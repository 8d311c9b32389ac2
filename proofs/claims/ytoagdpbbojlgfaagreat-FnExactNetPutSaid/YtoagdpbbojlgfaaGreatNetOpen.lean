/-
  A parameter that is a net, opened.
-/
import Derived.Test.YtoagdpbbojlgfaaGreatNetLies
import Derived.Test.YtoagdpbbojlgfaaGreatRowOpen
namespace Go.Proofs.YtoagdpbbojlgfaaGreat.Net
open Go.ChangeShapes Go.WideShapes Go.ChangeAt Go.RowKit
open Sto (R Sl)
open Dep (add_block add_add cell_lt I64 i64_of)
set_option linter.unusedVariables false
set_option maxRecDepth 100000
set_option linter.unusedSimpArgs false

/-- A slice's header as it comes in. -/
def Rows1 (w : World) (x : Sl) : Prop := Sto.IsRows w x.A x.l x.c
instance : Inhabited Sl := ⟨⟨none, [], 0⟩⟩
instance : Inhabited Ml := ⟨⟨0, 0, default⟩⟩

theorem rows_of {H : Type} {enc : TypeId × Value → H} {w : World} {spare : Nat → Bool} {held : Bool} {fuel : Nat} {cs : List Value} {x : DataW H × List MemPlace}
    (h : DataW.trod enc Tryz.prog w 0 spare held fuel 202 cs = some x) : ∃ y : Sl, cs = [sval y] ∧ Rows1 w y := by
  rcases Go.Deep.open_slice Tryz.underlying202 h with ⟨h0, _⟩ | ⟨a, len, cap, m, n, Df, Pl, h0, _⟩
  · obtain ⟨l, e, hi⟩ := Sto.open_rows (A := none) (len := 0) (cap := 0) (d := x.1) (p := x.2) ⟨fuel, by rw [h0] at h; exact h⟩
    exact ⟨⟨none, l, 0⟩, by rw [h0]; unfold sval; simp only [← e], hi⟩
  · obtain ⟨l, e, hi⟩ := Sto.open_rows (A := some a) (len := len) (cap := cap) (d := x.1) (p := x.2) ⟨fuel, by rw [h0] at h; exact h⟩
    exact ⟨⟨some a, l, cap⟩, by rw [h0]; unfold sval; simp only [← e], hi⟩

theorem stores_of {H : Type} {enc : TypeId × Value → H} {w : World} {spare : Nat → Bool} {held : Bool} {fuel : Nat} {cs : List Value} {x : DataW H × List MemPlace}
    (h : DataW.trod enc Tryz.prog w 0 spare held fuel 22 cs = some x) : ∃ A s cap, cs = [.slice A (s : List Sl).length cap] ∧ LSs w w.heap.size A s ∧ s.length ≤ maxLen ∧ ∀ y ∈ s, Rows1 w y := by
  rcases Go.Deep.open_slice Tryz.underlying22 h with ⟨h0, _⟩ | ⟨a, len, cap, m, n, Df, Pl, h0, _, hl, hm, hmm, _, hx⟩
  · exact ⟨none, [], 0, h0, LSs.nil _ _ _, by simp [maxLen], fun y hy => absurd hy (by simp)⟩
  · have hlm : len ≤ m := by rw [hmm]; split <;> omega
    have hc : Tryz.prog.cellsOf 202 = 1 := by kernel_rfl
    obtain ⟨f, hf⟩ := Go.Deep.choose_lt (α := Sl) (n := len) (p := fun i y => w.cell? (a.add i) = some (sval y) ∧ Rows1 w y) (fun i hi => by
      obtain ⟨cs', h1, h2⟩ := hx i (by omega)
      rw [hc] at h1
      obtain ⟨y, rfl, hy⟩ := rows_of h2
      obtain ⟨_, _, hcell⟩ := World.cells?_some h1
      have e0 := hcell 0 (by omega)
      rw [Nat.mul_one, add_add] at e0
      exact ⟨y, by simpa using e0, hy⟩)
    refine ⟨some a, (List.range len).map f, cap, by simpa using h0, ⟨fun h0 => ⟨a, rfl, ?_, fun j u hu => ?_⟩, fun y hy => ?_⟩, by simp; omega, fun y hy => ?_⟩
    · rw [sv_len] at h0
      have := (hf 0 (by simpa using h0)).1
      have := cell_lt this
      rwa [add_block] at this
    · have hj : j < len := by have := (List.getElem?_eq_some_iff.1 hu).1; rw [sv_len] at this; simpa using this
      rw [sv_at (by simpa using hj)] at hu
      injection hu with hu
      rw [← hu]
      simpa using (hf j hj).1
    · obtain ⟨i, hi, rfl⟩ := List.mem_map.1 hy
      exact (hf i (by simpa using hi)).2.2.2.1
    · obtain ⟨i, hi, rfl⟩ := List.mem_map.1 hy
      exact (hf i (by simpa using hi)).2

set_option maxRecDepth 100000 in
theorem one_mail {H : Type} {enc : TypeId × Value → H} {w : World} {spare : Nat → Bool} {held : Bool} {n : Nat} {cs : List Value} {x : DataW H × List MemPlace}
    (h : DataW.trod enc Tryz.prog w 0 spare held n 205 cs = some x) :
    ∃ y : Ml, cs = [.int .i64 y.f, .int .i64 y.t, sval y.x] ∧ Rows1 w y.x ∧ I64 y.f ∧ I64 y.t := by
  obtain ⟨xs, k, _, _, hl, hxl, hf⟩ := DataW.trod_struct Tryz.underlying205 h
  have hc : Tryz.prog.cellsOf 205 = 3 := by kernel_rfl
  rw [hc] at hl
  match xs, hxl, cs, hl with
  | [y0, y1, y2], _, [v0, v1, v2], _ =>
    have g0 := hf 0 ⟨"From", 2, 0, false, "", "", 0⟩ rfl
    have g1 := hf 1 ⟨"To", 2, 1, false, "", "", 8⟩ rfl
    have g2 := hf 2 ⟨"Store", 202, 2, false, "", "", 16⟩ rfl
    have c0 : Tryz.prog.cellsOf 2 = 1 := by kernel_rfl
    have c1 : Tryz.prog.cellsOf 202 = 1 := by kernel_rfl
    simp [c0, c1] at g0 g1 g2
    obtain ⟨n0, q0, _, b0⟩ := DataW.trod_int Tryz.underlying2 g0
    obtain ⟨n1, q1, _, b1⟩ := DataW.trod_int Tryz.underlying2 g1
    obtain ⟨y, q2, hy⟩ := rows_of g2
    refine ⟨⟨n0, n1, y⟩, ?_, hy, i64_of b0, i64_of b1⟩
    cases q0; cases q1; cases q2
    rfl

theorem letters_of {H : Type} {enc : TypeId × Value → H} {w : World} {spare : Nat → Bool} {held : Bool} {fuel : Nat} {cs : List Value} {x : DataW H × List MemPlace}
    (h : DataW.trod enc Tryz.prog w 0 spare held fuel 23 cs = some x) : ∃ A m cap, cs = [.slice A (m : List Ml).length cap] ∧ LMs w w.heap.size A m ∧ m.length ≤ maxLen ∧ ∀ y ∈ m, Rows1 w y.x ∧ I64 y.f ∧ I64 y.t := by
  rcases Go.Deep.open_slice Tryz.underlying23 h with ⟨h0, _⟩ | ⟨a, len, cap, m, n, Df, Pl, h0, _, hl, hm, hmm, _, hx⟩
  · exact ⟨none, [], 0, h0, LMs.nil _ _ _, by simp [maxLen], fun y hy => absurd hy (by simp)⟩
  · have hlm : len ≤ m := by rw [hmm]; split <;> omega
    have hc : Tryz.prog.cellsOf 205 = 3 := by kernel_rfl
    obtain ⟨f, hf⟩ := Go.Deep.choose_lt (α := Ml) (n := len) (p := fun i y => (w.cell? (a.add (i * 3)) = some (.int .i64 y.f) ∧ w.cell? (a.add (i * 3 + 1)) = some (.int .i64 y.t) ∧ w.cell? (a.add (i * 3 + 2)) = some (sval y.x)) ∧ Rows1 w y.x ∧ I64 y.f ∧ I64 y.t) (fun i hi => by
      obtain ⟨cs', h1, h2⟩ := hx i (by omega)
      rw [hc] at h1
      obtain ⟨y, rfl, hy⟩ := one_mail h2
      obtain ⟨_, _, hcell⟩ := World.cells?_some h1
      have e0 := hcell 0 (by omega)
      have e1 := hcell 1 (by omega)
      have e2 := hcell 2 (by omega)
      rw [add_add] at e0 e1 e2
      exact ⟨y, ⟨by simpa using e0, by simpa using e1, by simpa using e2⟩, hy⟩)
    refine ⟨some a, (List.range len).map f, cap, by simpa using h0, ⟨fun h0 => ⟨a, rfl, ?_, fun j u hu => ?_⟩, fun y hy => ?_⟩, by simp; omega, fun y hy => ?_⟩
    · rw [mv_len] at h0
      have := (hf 0 (by simp at h0; omega)).1.1
      have := cell_lt this
      rwa [add_block] at this
    · have hj : j < len * 3 := by have := (List.getElem?_eq_some_iff.1 hu).1; rw [mv_len] at this; simpa using this
      have hq : j / 3 < len := by omega
      obtain ⟨g0, g1, g2⟩ := mv_at (m := (List.range len).map f) (k := j / 3) (by simpa using hq)
      simp only [List.getElem_map, List.getElem_range] at g0 g1 g2
      obtain ⟨k0, k1, k2⟩ := (hf (j / 3) hq).1
      rcases (show j = j / 3 * 3 ∨ j = j / 3 * 3 + 1 ∨ j = j / 3 * 3 + 2 by omega) with e | e | e
      · rw [e] at hu ⊢; rw [g0] at hu; rw [← hu]; exact k0
      · rw [e] at hu ⊢; rw [g1] at hu; rw [← hu]; exact k1
      · rw [e] at hu ⊢; rw [g2] at hu; rw [← hu]; exact k2
    · obtain ⟨i, hi, rfl⟩ := List.mem_map.1 hy
      exact (hf i (by simpa using hi)).2.1.2.2.1
    · obtain ⟨i, hi, rfl⟩ := List.mem_map.1 hy
      exact (hf i (by simpa using hi)).2

/-- A net as it comes in. -/
def IsNet (w : World) (n : Nt) : Prop := NLies w w.heap.size n ∧ n.s.length ≤ maxLen ∧ n.m.length ≤ maxLen ∧ ∀ x ∈ n.all, Rows1 w x

theorem open_net {H : Type} {enc : TypeId × Value → H} {w : World} {spare : Nat → Bool} {held : Bool} {v : Value} {d : DataW H} {pl : List MemPlace} {rr : Reach} {b0 : Nat}
    (hv : Value.okWide Tryz.prog w rr b0 25 v) (h : DataW.Trod enc Tryz.prog w 0 spare held 25 v d pl) : ∃ n : Nt, v = n.val ∧ IsNet w n := by
  obtain ⟨cs, rfl, hsz⟩ := okWide_struct Tryz.underlying25 hv
  obtain ⟨fuel, hf⟩ := h
  obtain ⟨xs, k, _, _, hl, hxl, hg⟩ := DataW.trod_struct Tryz.underlying25 hf
  have hc : Tryz.prog.cellsOf 25 = 2 := by kernel_rfl
  rw [hc] at hsz
  have hcells : (Value.agg cs).cells = cs := rfl
  rw [hcells] at hg
  obtain ⟨cl, hcl⟩ : ∃ cl, cs.toList = cl := ⟨_, rfl⟩
  have hlen : cl.length = 2 := by rw [← hcl]; simpa using hsz
  rw [hcl] at hg
  match xs, hxl, cl, hlen with
  | [y0, y1], _, [v0, v1], _ =>
    have g0 := hg 0 ⟨"Stores", 22, 0, false, "", "", 0⟩ rfl
    have g1 := hg 1 ⟨"Mail", 23, 1, false, "", "", 24⟩ rfl
    have c0 : Tryz.prog.cellsOf 22 = 1 := by kernel_rfl
    have c1 : Tryz.prog.cellsOf 23 = 1 := by kernel_rfl
    simp [c0, c1] at g0 g1
    obtain ⟨A, s, ca, e0, hs, hsl, hsr⟩ := stores_of g0
    obtain ⟨B, m, cb, e1, hm, hml, hmr⟩ := letters_of g1
    cases e0; cases e1
    refine ⟨⟨A, s, ca, B, m, cb⟩, ?_, ⟨hs, hm⟩, hsl, hml, fun x hx => ?_⟩
    · unfold Nt.val
      congr 1
      exact Array.toList_inj.1 (by rw [hcl])
    · rcases List.mem_append.1 hx with hx | hx
      · exact hsr x hx
      · obtain ⟨y, hy, rfl⟩ := List.mem_map.1 hx
        exact (hmr y hy).1
end Go.Proofs.YtoagdpbbojlgfaaGreat.Net
