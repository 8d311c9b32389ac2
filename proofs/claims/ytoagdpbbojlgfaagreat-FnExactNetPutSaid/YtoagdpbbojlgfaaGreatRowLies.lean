/-
  A slice of rows as a list.
-/
import Derived.Test.YtoagdpbbojlgfaaGreatRowMath
import Derived.Test.YtoagdpbbojlgfaaGreatPackDep
import Derived.Lib.SlBuf
namespace Go.Proofs.YtoagdpbbojlgfaaGreat.Sto
open Go.ChangeShapes Go.WideShapes Go.ChangeAt Go.RowKit
open Dep (I D zero kl kl_iff kl_irrefl kl_trans kl_asymm kl_total kl_ne list_eq add_block add_add row_set get_ne get_eq)
set_option linter.unusedVariables false
set_option maxRecDepth 100000

/-- The row r lies at the address. -/
abbrev At (w : World) (a : Addr) (r : R) : Prop :=
  w.cell? a = some (.string r.k) ∧ w.cell? ⟨a.block, a.off + 1, none⟩ = some (.int .i64 r.i.c) ∧ w.cell? ⟨a.block, a.off + 1 + 1, none⟩ = some (.int .i64 r.i.s) ∧ w.cell? ⟨a.block, a.off + 1 + 2, none⟩ = some (.int .i64 r.i.e) ∧ w.cell? ⟨a.block, a.off + 4, none⟩ = some (.string r.b)
/-- A slice's address and what it reads as; it lies below block B. -/
def Lies (w : World) (B : Nat) (A : Option Addr) (l : List R) : Prop :=
  0 < l.length → ∃ ad, A = some ad ∧ ad.block < B ∧ ∀ j (h : j < l.length), At w (ad.add (j * 5)) l[j]
/-- A slice of rows. -/
def slV (A : Option Addr) (l : List R) (cap : Nat) : Value := .slice A l.length cap
/-- A row by value. -/
def R.cells (r : R) : Array Value := #[.string r.k, .int .i64 r.i.c, .int .i64 r.i.s, .int .i64 r.i.e, .string r.b]
def R.val (r : R) : Value := .agg #[.string r.k, .int .i64 r.i.c, .int .i64 r.i.s, .int .i64 r.i.e, .string r.b]

theorem At.keep {w w' : World} {a : Addr} {d : R} (h : At w a d) (hk : ∀ p : Addr, p.block = a.block → w'.cell? p = w.cell? p) : At w' a d :=
  ⟨(hk a rfl).trans h.1, (hk ⟨a.block, a.off + 1, none⟩ rfl).trans h.2.1, (hk ⟨a.block, a.off + 1 + 1, none⟩ rfl).trans h.2.2.1, (hk ⟨a.block, a.off + 1 + 2, none⟩ rfl).trans h.2.2.2.1, (hk ⟨a.block, a.off + 4, none⟩ rfl).trans h.2.2.2.2⟩
theorem at_step {W W' : World} {p : Addr} {d : R} (h : At W p d) (hb : Below W.heap.size W W') : At W' p d :=
  ⟨Lib.Below.cellOf hb h.1 (Nat.le_refl _), Lib.Below.cellOf hb h.2.1 (Nat.le_refl _), Lib.Below.cellOf hb h.2.2.1 (Nat.le_refl _), Lib.Below.cellOf hb h.2.2.2.1 (Nat.le_refl _), Lib.Below.cellOf hb h.2.2.2.2 (Nat.le_refl _)⟩
theorem Lies.keep {w w' : World} {B : Nat} {A : Option Addr} {l : List R} (h : Lies w B A l) (hk : ∀ p : Addr, p.block < B → w'.cell? p = w.cell? p) : Lies w' B A l := fun h0 => by
  obtain ⟨ad, e, hb, hc⟩ := h h0
  exact ⟨ad, e, hb, fun j hj => (hc j hj).keep fun p hp => hk p (by rw [hp, add_block]; exact hb)⟩
theorem Lies.more {w : World} {B B' : Nat} {A : Option Addr} {l : List R} (h : Lies w B A l) (hB : B ≤ B') : Lies w B' A l := fun h0 => by
  obtain ⟨ad, e, hb, hc⟩ := h h0
  exact ⟨ad, e, by omega, hc⟩
theorem Lies.below {w w' : World} {B N : Nat} {A : Option Addr} {l : List R} (h : Lies w B A l) (hb : Below N w w') (hN : B ≤ N) : Lies w' B A l := h.keep fun p hp => hb.cell (by omega)
theorem Lies.drew {w : World} {B : Nat} {A : Option Addr} {l : List R} (h : Lies w B A l) : Lies w.drew B A l := h
theorem Lies.drewN {w : World} {B : Nat} {A : Option Addr} {l : List R} (h : Lies w B A l) (n : Nat) : Lies (w.drewN n) B A l := h
theorem Lies.alloc {w : World} {B : Nat} {A : Option Addr} {l : List R} (h : Lies w B A l) (hB : B ≤ w.heap.size) (o : Obj) : Lies (w.alloc o) B A l := h.keep fun p hp => World.cell?_alloc_lt w o p (by omega)
theorem Lies.at_ {w : World} {B : Nat} {A : Option Addr} {l : List R} {k : Nat} (h : Lies w B A l) (hk : k < l.length) : ∃ ad, A = some ad ∧ ad.block < B ∧ At w (ad.add (k * 5)) l[k] := by
  obtain ⟨ad, e, hb, hc⟩ := h (by omega)
  exact ⟨ad, e, hb, hc k hk⟩

/-- Block b holds a row. -/
def RowRow (W : World) (b t : Nat) (r : R) : Prop := W.heap[b]? = some (.cells #[.string r.k, .int .i64 r.i.c, .int .i64 r.i.s, .int .i64 r.i.e, .string r.b] t (0, 0))
theorem RowRow.step {W w1 : World} {b t N : Nat} {r : R} (h : RowRow W b t r) (hb : Below N W w1) (hlt : b < N) : RowRow w1 b t r := (hb.block b hlt).trans h
theorem RowRow.lt {W : World} {b t : Nat} {r : R} (h : RowRow W b t r) : b < W.heap.size := (Array.getElem?_eq_some_iff.1 h).1
theorem RowRow.on {W w1 : World} {b t : Nat} {r : R} (h : RowRow W b t r) (hb : Below W.heap.size W w1) : RowRow w1 b t r := h.step hb h.lt
theorem RowRow.alloc {W : World} {b t : Nat} {r : R} (h : RowRow W b t r) (o : Obj) : RowRow (W.alloc o) b t r :=
  (heap_alloc_old W o h.lt).trans h
theorem RowRow.new (W : World) (t : Nat) (r : R) : RowRow (W.alloc (.cells #[.string r.k, .int .i64 r.i.c, .int .i64 r.i.s, .int .i64 r.i.e, .string r.b] t)) W.heap.size t r := heap_alloc_new W _
theorem RowRow.cells {W : World} {b t : Nat} {r : R} (h : RowRow W b t r) :
    W.cell? ⟨b, 0, none⟩ = some (.string r.k) ∧ W.cell? ⟨b, 1, none⟩ = some (.int .i64 r.i.c) ∧ W.cell? ⟨b, 2, none⟩ = some (.int .i64 r.i.s) ∧ W.cell? ⟨b, 3, none⟩ = some (.int .i64 r.i.e) ∧ W.cell? ⟨b, 4, none⟩ = some (.string r.b) :=
  ⟨cell_of_row W b 0 _ t (0, 0) h, cell_of_row W b 1 _ t (0, 0) h, cell_of_row W b 2 _ t (0, 0) h, cell_of_row W b 3 _ t (0, 0) h, cell_of_row W b 4 _ t (0, 0) h⟩
theorem RowRow.free {W : World} {b t : Nat} {r : R} (h : RowRow W b t r) (j : Nat) : W.frozen? ⟨b, j, none⟩ = false := by
  unfold RowRow at h
  simp [World.frozen?, h]

/-- Block g is a row of n rows, the first of which are l. -/
def Own (w : World) (g n : Nat) (l : List R) : Prop :=
  ∃ cs : Array Value, w.heap[g]? = some (.cells cs 42 (0, 0)) ∧ cs.size = n * 5 ∧
    ∀ j (h : j < l.length), cs[j * 5]? = some (.string l[j].k) ∧ cs[j * 5 + 1]? = some (.int .i64 l[j].i.c) ∧ cs[j * 5 + 2]? = some (.int .i64 l[j].i.s) ∧ cs[j * 5 + 3]? = some (.int .i64 l[j].i.e) ∧ cs[j * 5 + 4]? = some (.string l[j].b)

theorem Own.new (w : World) (z : Array Value) (n : Nat) : Own (w.alloc (.cells (madeCells z (n * 5)) 42)) w.heap.size n [] :=
  ⟨_, heap_alloc_new w _, size_madeCells _ _, fun j h => absurd h (by simp)⟩
theorem Own.lt {w : World} {g n : Nat} {l : List R} (h : Own w g n l) : g < w.heap.size := by
  obtain ⟨cs, h, _⟩ := h
  exact (Array.getElem?_eq_some_iff.1 h).1
theorem Own.step {w w1 : World} {g n N : Nat} {l : List R} (h : Own w g n l) (hb : Below N w w1) (hlt : g < N) : Own w1 g n l := by
  obtain ⟨cs, h, h2⟩ := h
  exact ⟨cs, (hb.block g hlt).trans h, h2⟩
theorem Own.free {w : World} {g n : Nat} {l : List R} (h : Own w g n l) (j : Nat) : w.frozen? ⟨g, j, none⟩ = false := by
  obtain ⟨cs, h, h2⟩ := h
  simp [World.frozen?, h]
theorem Own.cell {w : World} {g n : Nat} {l : List R} (h : Own w g n l) {j : Nat} (hj : j < n * 5) : ∃ u, w.cell? ⟨g, j, none⟩ = some u := by
  obtain ⟨cs, h, h2, _⟩ := h
  rw [cell_of_row w g j cs _ (0, 0) h]
  exact ⟨cs[j]'(by omega), Array.getElem?_eq_getElem (by omega)⟩

/-- A row laid into a block of rows. -/
abbrev setRow (w : World) (g k : Nat) (d : R) : World :=
  ((((w.setCell ⟨g, k * 5, none⟩ (.string d.k)).setCell ⟨g, k * 5 + 1, none⟩ (.int .i64 d.i.c)).setCell ⟨g, k * 5 + 2, none⟩ (.int .i64 d.i.s)).setCell ⟨g, k * 5 + 3, none⟩ (.int .i64 d.i.e)).setCell ⟨g, k * 5 + 4, none⟩ (.string d.b)
theorem set_here {cs : Array Value} {k : Nat} (d : R) (h : k * 5 + 5 ≤ cs.size) :
    let c := ((((cs.setIfInBounds (k * 5) (.string d.k)).setIfInBounds (k * 5 + 1) (.int .i64 d.i.c)).setIfInBounds (k * 5 + 2) (.int .i64 d.i.s)).setIfInBounds (k * 5 + 3) (.int .i64 d.i.e)).setIfInBounds (k * 5 + 4) (.string d.b)
    c[k * 5]? = some (.string d.k) ∧ c[k * 5 + 1]? = some (.int .i64 d.i.c) ∧ c[k * 5 + 2]? = some (.int .i64 d.i.s) ∧ c[k * 5 + 3]? = some (.int .i64 d.i.e) ∧ c[k * 5 + 4]? = some (.string d.b) := by
  refine ⟨?_, ?_, ?_, ?_, ?_⟩
  · rw [get_ne _ (by omega), get_ne _ (by omega), get_ne _ (by omega), get_ne _ (by omega), get_eq _ (by omega)]
  · rw [get_ne _ (by omega), get_ne _ (by omega), get_ne _ (by omega), get_eq _ (by simp; omega)]
  · rw [get_ne _ (by omega), get_ne _ (by omega), get_eq _ (by simp; omega)]
  · rw [get_ne _ (by omega), get_eq _ (by simp; omega)]
  · rw [get_eq _ (by simp; omega)]
theorem set_there {cs : Array Value} {k j : Nat} (d : R) (h : j ≠ k) (q : Nat) (hq : q < 5) :
    (((((cs.setIfInBounds (k * 5) (.string d.k)).setIfInBounds (k * 5 + 1) (.int .i64 d.i.c)).setIfInBounds (k * 5 + 2) (.int .i64 d.i.s)).setIfInBounds (k * 5 + 3) (.int .i64 d.i.e)).setIfInBounds (k * 5 + 4) (.string d.b))[j * 5 + q]? = cs[j * 5 + q]? := by
  rw [get_ne _ (by omega), get_ne _ (by omega), get_ne _ (by omega), get_ne _ (by omega), get_ne _ (by omega)]
/-- One row more. -/
theorem Own.put {w : World} {g n : Nat} {l : List R} (h : Own w g n l) (d : R) (hn : l.length < n) {k : Nat} (hk : l.length = k) : Own (setRow w g k d) g n (l ++ [d]) := by
  obtain ⟨cs, h1, h2, h3⟩ := h
  refine ⟨_, row_set (row_set (row_set (row_set (row_set h1 _ _) _ _) _ _) _ _) _ _, by simp [h2], fun j hj => ?_⟩
  rw [List.length_append, List.length_singleton] at hj
  by_cases e : j = k
  · subst e
    have e1 : (l ++ [d])[j] = d := by simp [← hk]
    rw [e1]
    exact set_here d (by omega)
  · have hjl : j < l.length := by omega
    rw [List.getElem_append_left hjl]
    obtain ⟨a0, a1, a2, a3, a4⟩ := h3 j hjl
    exact ⟨(set_there d e 0 (by omega)).trans a0, (set_there d e 1 (by omega)).trans a1, (set_there d e 2 (by omega)).trans a2, (set_there d e 3 (by omega)).trans a3, (set_there d e 4 (by omega)).trans a4⟩
theorem lies_of {w : World} {g B : Nat} {l : List R} {cs : Array Value} {t : Nat} (h1 : w.heap[g]? = some (.cells cs t (0, 0))) (hB : g < B)
    (h3 : ∀ j (h : j < l.length), cs[j * 5]? = some (.string l[j].k) ∧ cs[j * 5 + 1]? = some (.int .i64 l[j].i.c) ∧ cs[j * 5 + 2]? = some (.int .i64 l[j].i.s) ∧ cs[j * 5 + 3]? = some (.int .i64 l[j].i.e) ∧ cs[j * 5 + 4]? = some (.string l[j].b)) :
    Lies w B (some ⟨g, 0, none⟩) l := by
  intro h0
  refine ⟨_, rfl, hB, fun j hj => ?_⟩
  obtain ⟨a0, a1, a2, a3, a4⟩ := h3 j hj
  have e : (Addr.add ⟨g, 0, none⟩ (j * 5)) = ⟨g, j * 5, none⟩ := by
    unfold Addr.add
    split
    · rename_i h; rw [h]
    · simp
  rw [e]
  exact ⟨(cell_of_row w g _ cs _ (0, 0) h1).trans a0, (cell_of_row w g _ cs _ (0, 0) h1).trans a1, (cell_of_row w g _ cs _ (0, 0) h1).trans a2, (cell_of_row w g _ cs _ (0, 0) h1).trans a3, (cell_of_row w g _ cs _ (0, 0) h1).trans a4⟩
/-- A row of one's own reads as what it holds. -/
theorem Own.lies {w : World} {g n B : Nat} {l : List R} (h : Own w g n l) (hB : g < B) : Lies w B (some ⟨g, 0, none⟩) l := by
  obtain ⟨cs, h1, h2, h3⟩ := h
  exact lies_of h1 hB h3

theorem row_info : (Tryz.prog.info? 42).map (fun i => (i.zero, i.size, i.bytes)) = some (some (.agg #[.string ⟨#[]⟩, .int .i64 0, .int .i64 0, .int .i64 0, .string ⟨#[]⟩]), 5, 56) := by kernel_rfl

/-- The cells of rows. -/
def flat (l : List R) : List Value := l.flatMap fun d => [.string d.k, .int .i64 d.i.c, .int .i64 d.i.s, .int .i64 d.i.e, .string d.b]
theorem flat_cons (d : R) (l : List R) : flat (d :: l) = .string d.k :: .int .i64 d.i.c :: .int .i64 d.i.s :: .int .i64 d.i.e :: .string d.b :: flat l := by simp [flat]
theorem flat_append (l m : List R) : flat (l ++ m) = flat l ++ flat m := by simp [flat]
theorem flat_length (l : List R) : (flat l).length = l.length * 5 := by
  induction l with
  | nil => rfl
  | cons d l ih => rw [flat_cons]; simp [ih]; omega
theorem flat_at {l : List R} {q : Nat} (hq : q < l.length) :
    (flat l)[q * 5]? = some (.string l[q].k) ∧ (flat l)[q * 5 + 1]? = some (.int .i64 l[q].i.c) ∧ (flat l)[q * 5 + 2]? = some (.int .i64 l[q].i.s) ∧ (flat l)[q * 5 + 3]? = some (.int .i64 l[q].i.e) ∧ (flat l)[q * 5 + 4]? = some (.string l[q].b) := by
  induction l generalizing q with
  | nil => simp at hq
  | cons d l ih =>
    rw [flat_cons]
    cases q with
    | zero => simp
    | succ q =>
      have := ih (q := q) (by simpa using hq)
      rw [show (q + 1) * 5 = q * 5 + 1 + 1 + 1 + 1 + 1 by omega]
      simpa using this
theorem flat_one (l : List R) : ∀ u ∈ flat l, u.oneCell' = true := by
  intro u hu
  simp only [flat, List.mem_flatMap] at hu
  obtain ⟨d, _, hu⟩ := hu
  rcases List.mem_cons.1 hu with rfl | hu
  · rfl
  rcases List.mem_cons.1 hu with rfl | hu
  · rfl
  rcases List.mem_cons.1 hu with rfl | hu
  · rfl
  rcases List.mem_cons.1 hu with rfl | hu
  · rfl
  rcases List.mem_cons.1 hu with rfl | hu
  · rfl
  · cases hu
theorem addr_next (a : Addr) (i r : Nat) (hr : 0 < r) : (⟨(a.add i).block, (a.add i).off + r, none⟩ : Addr) = a.add (i + r) := by
  unfold Addr.add
  by_cases hi : i = 0
  · subst hi; rw [if_pos rfl, if_neg (by omega)]; simp
  · rw [if_neg hi, if_neg (by omega)]; simp [Nat.add_assoc]
/-- The cells that lie at an address. -/
theorem Lies.cell {w : World} {B : Nat} {ad : Addr} {l : List R} (h : Lies w B (some ad) l) {j : Nat} {u : Value} (hu : (flat l)[j]? = some u) : w.cell? (ad.add j) = some u := by
  have hj : j < l.length * 5 := by rw [← flat_length]; exact (List.getElem?_eq_some_iff.1 hu).1
  have hq : j / 5 < l.length := by omega
  obtain ⟨ad', e, _, c0, c1, c2, c3, c4⟩ := h.at_ hq
  cases e
  obtain ⟨g0, g1, g2, g3, g4⟩ := flat_at hq
  rcases (show j = j / 5 * 5 ∨ j = j / 5 * 5 + 1 ∨ j = j / 5 * 5 + 2 ∨ j = j / 5 * 5 + 3 ∨ j = j / 5 * 5 + 4 by omega) with e | e | e | e | e
  · rw [e] at hu ⊢; rw [g0] at hu; rw [← hu]; exact c0
  · rw [e] at hu ⊢; rw [g1] at hu; rw [← hu, ← addr_next _ _ 1 (by omega)]; exact c1
  · rw [e] at hu ⊢; rw [g2] at hu; rw [← hu, ← addr_next _ _ 2 (by omega)]; exact c2
  · rw [e] at hu ⊢; rw [g3] at hu; rw [← hu, ← addr_next _ _ 3 (by omega)]; exact c3
  · rw [e] at hu ⊢; rw [g4] at hu; rw [← hu, ← addr_next _ _ 4 (by omega)]; exact c4
theorem Lies.take {w : World} {B : Nat} {A : Option Addr} {l : List R} (h : Lies w B A l) (k : Nat) : Lies w B A (l.take k) := fun h0 => by
  rw [List.length_take] at h0
  obtain ⟨ad, e, hb, hc⟩ := h (by omega)
  refine ⟨ad, e, hb, fun j hj => ?_⟩
  rw [List.length_take] at hj
  rw [List.getElem_take]
  exact hc j (by omega)
theorem Lies.drop {w : World} {B cap : Nat} {A : Option Addr} {l : List R} (h : Lies w B A l) (k : Nat) (hcap : l.length ≤ cap) : Lies w B (if cap = k then A else A.map (·.add (k * 5))) (l.drop k) := fun h0 => by
  rw [List.length_drop] at h0
  obtain ⟨ad, rfl, hb, hc⟩ := h (by omega)
  rw [if_neg (by omega)]
  refine ⟨ad.add (k * 5), rfl, by rw [add_block]; exact hb, fun j hj => ?_⟩
  rw [List.length_drop] at hj
  rw [List.getElem_drop, add_add, show k * 5 + j * 5 = (k + j) * 5 by omega]
  exact hc (k + j) (by omega)
end Go.Proofs.YtoagdpbbojlgfaaGreat.Sto
