/-
  Several texts in one: DepMark, DepHeld, DepMarkOut.
-/
import Derived.Test.YtoagdpbbojlgfaaPackPut
import Derived.Test.YtoagdpbbojlgfaaDepRight
import Derived.Deep.RegionHeld3
import Derived.Deep.DeepCutAuto
import Derived.Deep.QuietTactic
import Derived.Lib.SlBuf
import Derived.Lib.ItoaNum
/-
  The law's own marks: markText, markDepS, heldDepS.
-/
namespace Go.Proofs.Ytoagdpbbojlgfaa.Dep
open Go.ChangeShapes Go.WideShapes Go.ChangeAt Go.RowKit
set_option linter.unusedVariables false
set_option maxRecDepth 100000

/-- The digits of a number, ahead of what is there. -/
def digV (k : Nat) (s : ByteArray) : ByteArray := if h : k = 0 then s else digV (k / 10) (⟨#[UInt8.ofNat (48 + k % 10)]⟩ ++ s)
decreasing_by omega
def markV (k : Nat) : ByteArray := if k = 0 then ⟨#[109, 48]⟩ else ⟨#[109]⟩ ++ digV k ⟨#[]⟩
theorem dig_step {k : Nat} (h : k ≠ 0) (s : ByteArray) : digV k s = digV (k / 10) (⟨#[UInt8.ofNat (48 + k % 10)]⟩ ++ s) := by
  rw [digV, dif_neg h]
theorem dig_zero (s : ByteArray) : digV 0 s = s := by rw [digV, dif_pos rfl]

/-- Block g begins with these deps. -/
def Row (w : World) (g : Nat) (l : List D) : Prop :=
  ∃ cs : Array Value, w.heap[g]? = some (.cells cs 63 (0, 0)) ∧ l.length * 4 ≤ cs.size ∧
    ∀ j (h : j < l.length), cs[j * 4]? = some (.string l[j].k) ∧ cs[j * 4 + 1]? = some (.int .i64 l[j].i.c) ∧ cs[j * 4 + 2]? = some (.int .i64 l[j].i.s) ∧ cs[j * 4 + 3]? = some (.int .i64 l[j].i.e)
theorem Row.lt {w : World} {g : Nat} {l : List D} (h : Row w g l) : g < w.heap.size := by
  obtain ⟨cs, h, _⟩ := h
  exact (Array.getElem?_eq_some_iff.1 h).1
theorem Row.same {w w1 : World} {g : Nat} {l : List D} (h : Row w g l) (hb : w1.heap[g]? = w.heap[g]?) : Row w1 g l := by
  obtain ⟨cs, h, h2⟩ := h
  exact ⟨cs, hb.trans h, h2⟩
theorem Row.step {w w1 : World} {g N : Nat} {l : List D} (h : Row w g l) (hb : Below N w w1) (hlt : g < N) : Row w1 g l := h.same (hb.block g hlt)
theorem Row.free {w : World} {g : Nat} {l : List D} (h : Row w g l) (j : Nat) : w.frozen? ⟨g, j, none⟩ = false := by
  obtain ⟨cs, h, h2⟩ := h
  simp [World.frozen?, h]
theorem Row.cell {w : World} {g : Nat} {l : List D} (h : Row w g l) {j : Nat} (hj : j < l.length * 4) : ∃ u, w.cell? ⟨g, j, none⟩ = some u := by
  obtain ⟨cs, h, h2, _⟩ := h
  rw [cell_of_row w g j cs _ (0, 0) h]
  exact ⟨cs[j]'(by omega), Array.getElem?_eq_getElem (by omega)⟩
theorem Row.lies {w : World} {g B : Nat} {l : List D} (h : Row w g l) (hB : g < B) : Lies w B (some ⟨g, 0, none⟩) l := by
  intro h0
  obtain ⟨cs, h1, h2, h3⟩ := h
  refine ⟨_, rfl, hB, fun j hj => ?_⟩
  obtain ⟨a0, a1, a2, a3⟩ := h3 j hj
  have e : (Addr.add ⟨g, 0, none⟩ (j * 4)) = ⟨g, j * 4, none⟩ := by
    unfold Addr.add
    split
    · rename_i h; rw [h]
    · simp
  rw [e]
  exact ⟨(cell_of_row w g _ cs _ (0, 0) h1).trans a0, (cell_of_row w g _ cs _ (0, 0) h1).trans a1, (cell_of_row w g _ cs _ (0, 0) h1).trans a2, (cell_of_row w g _ cs _ (0, 0) h1).trans a3⟩
/-- Another dep in a place. -/
theorem Row.put {w : World} {g : Nat} {l : List D} (h : Row w g l) (d : D) {k : Nat} (hk : k < l.length) :
    Row ((((w.setCell ⟨g, k * 4, none⟩ (.string d.k)).setCell ⟨g, k * 4 + 1, none⟩ (.int .i64 d.i.c)).setCell ⟨g, k * 4 + 2, none⟩ (.int .i64 d.i.s)).setCell ⟨g, k * 4 + 3, none⟩ (.int .i64 d.i.e)) g (l.set k d) := by
  obtain ⟨cs, h1, h2, h3⟩ := h
  refine ⟨_, row_set (row_set (row_set (row_set h1 _ _) _ _) _ _) _ _, by simp; omega, fun j hj => ?_⟩
  rw [List.length_set] at hj
  by_cases e : j = k
  · subst e
    rw [List.getElem_set_self]
    refine ⟨?_, ?_, ?_, ?_⟩
    · rw [get_ne _ (by omega), get_ne _ (by omega), get_ne _ (by omega), get_eq _ (by omega)]
    · rw [get_ne _ (by omega), get_ne _ (by omega), get_eq _ (by simp; omega)]
    · rw [get_ne _ (by omega), get_eq _ (by simp; omega)]
    · rw [get_eq _ (by simp; omega)]
  · rw [List.getElem_set_ne (by omega)]
    obtain ⟨a0, a1, a2, a3⟩ := h3 j hj
    refine ⟨?_, ?_, ?_, ?_⟩
    · rw [get_ne _ (by omega), get_ne _ (by omega), get_ne _ (by omega), get_ne _ (by omega)]; exact a0
    · rw [get_ne _ (by omega), get_ne _ (by omega), get_ne _ (by omega), get_ne _ (by omega)]; exact a1
    · rw [get_ne _ (by omega), get_ne _ (by omega), get_ne _ (by omega), get_ne _ (by omega)]; exact a2
    · rw [get_ne _ (by omega), get_ne _ (by omega), get_ne _ (by omega), get_ne _ (by omega)]; exact a3
theorem Row.of_own {w : World} {g n : Nat} {l : List D} (h : Own w g n l) (hn : l.length ≤ n) : Row w g l := by
  obtain ⟨cs, h1, h2, h3⟩ := h
  exact ⟨cs, h1, by omega, h3⟩
theorem grown_trans {a b c : World} {row : Option Nat} (h1 : a.grownBy b row) (h2 : b.grownBy c row) : a.grownBy c row :=
  ⟨h2.os.trans h1.os, h2.tape.trans h1.tape, h2.output.trans h1.output, Nat.le_trans h1.size h2.size, fun k hk hne => (h2.block k (Nat.lt_of_lt_of_le hk h1.size) hne).trans (h1.block k hk hne)⟩
theorem grown_of_below {a b : World} (row : Option Nat) (h : Below a.heap.size a b) : a.grownBy b row := ⟨h.os, h.tape, h.output, h.size, fun k hk _ => h.block k hk⟩
theorem grown_set (a : World) (g j : Nat) (v : Value) : a.grownBy (a.setCell ⟨g, j, none⟩ v) (some g) :=
  ⟨rfl, rfl, rfl, by rw [World.size_setCell]; exact Nat.le_refl _, fun k _ hne => heap_setCell_other a _ k v (fun e => hne (by rw [e]))⟩

/-- The mark of place j. -/
def mk (k j : Nat) : D := ⟨markV (k + 4 * j), ⟨(k + 4 * j + 1 : Nat), (k + 4 * j + 2 : Nat), (k + 4 * j + 3 : Nat)⟩⟩
def marks (k n : Nat) : List D := (List.range n).map (mk k)
/-- The first ones are marked. -/
def part (k : Nat) (l : List D) (j : Nat) : List D := marks k j ++ l.drop j
theorem part_len {k : Nat} {l : List D} {j : Nat} (h : j ≤ l.length) : (part k l j).length = l.length := by simp [part, marks]; omega
theorem part_step {k : Nat} {l : List D} {j : Nat} (h : j < l.length) : (part k l j).set j (mk k j) = part k l (j + 1) := by
  unfold part
  rw [List.set_append_right _ _ (by simp [marks])]
  have e : j - (marks k j).length = 0 := by simp [marks]
  rw [e, List.drop_eq_getElem_cons h, List.set_cons_zero]
  unfold marks
  rw [List.range_succ, List.map_append]
  simp

end Go.Proofs.Ytoagdpbbojlgfaa.Dep

/-
  A list that a call handed back, with the blocks it lies in; the law's own marks on an answer.
-/
namespace Go.Proofs.Ytoagdpbbojlgfaa.Dep
open Go.ChangeShapes Go.WideShapes Go.ChangeAt Go.RowKit
set_option linter.unusedVariables false
set_option maxRecDepth 100000

/-- A list lies nowhere, being empty, or in a block from lo on, below hi. -/
def Held (W : World) (A : Option Addr) (l : List D) (lo hi : Nat) : Prop :=
  (A = none ∧ l = []) ∨ ∃ g, A = some ⟨g, 0, none⟩ ∧ Row W g l ∧ lo ≤ g ∧ g < hi
theorem Held.lies {W : World} {A : Option Addr} {l : List D} {lo hi B : Nat} (h : Held W A l lo hi) (hB : hi ≤ B) : Lies W B A l := by
  rcases h with ⟨rfl, rfl⟩ | ⟨g, rfl, hr, _, hg⟩
  · exact fun h0 => absurd h0 (by simp)
  · exact hr.lies (by omega)
theorem Held.keep {W W' : World} {A : Option Addr} {l : List D} {lo hi : Nat} (h : Held W A l lo hi) (hk : ∀ k, lo ≤ k → k < hi → k < W.heap.size → W'.heap[k]? = W.heap[k]?) : Held W' A l lo hi := by
  rcases h with h | ⟨g, rfl, hr, hlo, hg⟩
  · exact .inl h
  · exact .inr ⟨g, rfl, hr.same (hk g hlo hg hr.lt), hlo, hg⟩
theorem Held.step {W W' : World} {A : Option Addr} {l : List D} {lo hi N : Nat} (h : Held W A l lo hi) (hb : Below N W W') (hN : hi ≤ N ∨ W.heap.size ≤ N) : Held W' A l lo hi := h.keep fun k _ h2 h3 => hb.block k (by omega)
theorem Held.other {W W' : World} {A : Option Addr} {l : List D} {lo hi g : Nat} (h : Held W A l lo hi) (hg : W.grownBy W' (some g)) (hne : g < lo ∨ hi ≤ g) : Held W' A l lo hi :=
  h.keep fun k h1 h2 h3 => hg.block k h3 (fun e => by cases e; omega)
theorem Held.none {W W' : World} {A : Option Addr} {l : List D} {lo hi : Nat} (h : Held W A l lo hi) (hg : W.grownBy W' none) : Held W' A l lo hi :=
  h.keep fun k h1 h2 h3 => hg.block k h3 (fun e => by cases e)
theorem Held.wide {W : World} {A : Option Addr} {l : List D} {lo hi lo' hi' : Nat} (h : Held W A l lo hi) (hl : lo' ≤ lo) (hh : hi ≤ hi') : Held W A l lo' hi' :=
  h.imp id fun ⟨g, e, hr, h1, h2⟩ => ⟨g, e, hr, by omega, by omega⟩
theorem Held.of_own {W : World} {A : Option Addr} {l : List D} {base n cap : Nat} (h : W.ownsRow base 63 4 (slV A l cap) n (flat l)) : Held W A l base W.heap.size := by
  have hn : n = l.length := (own_lies h).1
  rcases h.2 with ⟨e, h0⟩ | ⟨g, cap', cur, e, hb, hh, hnc, hcm, hsz, hx⟩
  · unfold slV at e
    injection e with e1 e2 e3
    exact .inl ⟨e1, List.eq_nil_of_length_eq_zero e2⟩
  · unfold slV at e
    injection e with e1 e2 e3
    subst e1
    refine .inr ⟨g, rfl, ⟨cur, hh, by rw [hsz]; omega, fun j hj => ?_⟩, hb, (Array.getElem?_eq_some_iff.1 hh).1⟩
    have key : ∀ r u, r < l.length * 4 → (flat l)[r]? = some u → cur[r]? = some u := fun r u hr hu => by
      rw [← Array.getElem?_toList]
      rw [← hx, hn, List.getElem?_take, if_pos hr] at hu
      exact hu
    obtain ⟨g0, g1, g2, g3⟩ := flat_at hj
    exact ⟨key (j * 4) _ (by omega) g0, key (j * 4 + 1) _ (by omega) g1, key (j * 4 + 2) _ (by omega) g2, key (j * 4 + 3) _ (by omega) g3⟩
theorem Held.of_row {W : World} {g n : Nat} {l : List D} (h : Own W g n l) (hn : l.length ≤ n) {lo : Nat} (hlo : lo ≤ g) : Held W (some ⟨g, 0, Option.none⟩) l lo W.heap.size :=
  .inr ⟨g, rfl, Row.of_own h hn, hlo, h.lt⟩

/-- What a call answered, in its own terms. -/
theorem Answers.held {w w' : World} {e : Ending} {r : List D} {c : Int} (h : Answers w e w' r c) : ∃ A cap, e = .returned (outV (.slice A r.length cap) c) ∧ Held w' A r w.heap.size w'.heap.size ∧ r.length ≤ cap ∧ Below w.heap.size w w' := by
  obtain ⟨A, cap, rfl, ho, hc, hL, hb⟩ := h
  exact ⟨A, cap, rfl, Held.of_own ho, hc, hb⟩

end Go.Proofs.Ytoagdpbbojlgfaa.Dep

/-
  The law's own marks on an answer: markDepsOut, heldDepsOut; what a mark leaves of the rest.
-/
namespace Go.Proofs.Ytoagdpbbojlgfaa.Dep
open Go.ChangeShapes Go.WideShapes Go.ChangeAt Go.RowKit
set_option linter.unusedVariables false
set_option maxRecDepth 100000

/-- Nothing has turned but new blocks, and one block of deps from lo on, below hi. -/
def Turned (W W' : World) (lo hi : Nat) : Prop := ∃ row, W.grownBy W' row ∧ ∀ g, row = some g → lo ≤ g ∧ g < hi ∧ ∃ cs, W.heap[g]? = some (.cells cs 63 (0, 0))
theorem Turned.size {W W' : World} {lo hi : Nat} (h : Turned W W' lo hi) : W.heap.size ≤ W'.heap.size := by obtain ⟨row, hg, _⟩ := h; exact hg.size
theorem Turned.held {W W' : World} {lo hi lo' hi' : Nat} {A : Option Addr} {l : List D} (h : Turned W W' lo hi) (hh : Held W A l lo' hi') (hd : hi' ≤ lo ∨ hi ≤ lo') : Held W' A l lo' hi' := by
  obtain ⟨row, hg, hr⟩ := h
  exact hh.keep fun k h1 h2 h3 => hg.block k h3 (fun e => by have := hr k e.symm; omega)
theorem Turned.orow {W W' : World} {lo hi b : Nat} {s : Value} {c : Int} (h : Turned W W' lo hi) (hh : ORow W b s c) : ORow W' b s c := by
  obtain ⟨row, hg, hr⟩ := h
  refine (hg.block b hh.lt (fun e => ?_)).trans hh
  obtain ⟨_, _, cs, hc⟩ := hr b e.symm
  rw [show W.heap[b]? = _ from hh] at hc
  cases hc
theorem Turned.idrow {W W' : World} {lo hi b : Nat} {x y z : Int} {t : Nat} (h : Turned W W' lo hi) (hh : Id.IdRow W b t x y z) (ht : t ≠ 63) : Id.IdRow W' b t x y z := by
  obtain ⟨row, hg, hr⟩ := h
  refine (hg.block b hh.lt (fun e => ?_)).trans hh
  obtain ⟨_, _, cs, hc⟩ := hr b e.symm
  rw [show W.heap[b]? = _ from hh] at hc
  injection hc with hc
  injection hc with _ h2
  exact absurd h2 ht
theorem Turned.below {w W W' : World} {lo hi : Nat} (h : Turned W W' lo hi) (hb : Below w.heap.size w W) (hlo : w.heap.size ≤ lo) : Below w.heap.size w W' := by
  obtain ⟨row, hg, hr⟩ := h
  exact hb.grown hg hb.size (fun k e => by have := hr k e; omega)
theorem turned_pre {W W1 W' : World} {lo hi : Nat} (hb : Below W.heap.size W W1) (hhi : hi ≤ W.heap.size) (h : Turned W1 W' lo hi) : Turned W W' lo hi := by
  obtain ⟨row, hg, hr⟩ := h
  refine ⟨row, grown_trans (grown_of_below row hb) hg, fun g e => ?_⟩
  obtain ⟨h1, h2, cs, hc⟩ := hr g e
  exact ⟨h1, h2, cs, by rw [← hb.block g (by omega)]; exact hc⟩

theorem joinR_len (a b : List D) : (joinR a b).length ≤ 6 := by
  unfold joinR
  by_cases h : joinC a b = 0
  · rw [if_pos h]
    unfold joinC at h
    by_cases h1 : 400 < a.length ∨ 400 < b.length
    · rw [if_pos h1] at h; omega
    · rw [if_neg h1] at h
      by_cases h2 : depsB a = true ∧ depsB b = true
      · rw [if_pos h2] at h
        by_cases h3 : 6 < (joinV a b).length
        · rw [if_pos h3] at h; omega
        · omega
      · rw [if_neg h2] at h; omega
  · rw [if_neg h]; simp
theorem putR_len (l : List D) (q : ByteArray) (x : I) : (putR l q x).length ≤ 6 := by
  unfold putR
  by_cases h : putC l q x = 0
  · rw [if_pos h]
    unfold putC at h
    by_cases h1 : 400 < l.length ∨ 8000 < q.size
    · rw [if_pos h1] at h; omega
    · rw [if_neg h1] at h
      by_cases h2 : depsB l = true ∧ Key.keyB q = true ∧ x.right = true
      · rw [if_pos h2] at h
        by_cases h3 : 6 < (putV l q x).length
        · rw [if_pos h3] at h; omega
        · omega
      · rw [if_neg h2] at h; omega
  · rw [if_neg h]; simp
end Go.Proofs.Ytoagdpbbojlgfaa.Dep
