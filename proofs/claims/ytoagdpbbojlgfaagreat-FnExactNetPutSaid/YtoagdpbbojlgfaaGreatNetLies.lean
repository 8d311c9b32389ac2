/-
  A net: slices of slices of rows, slices of letters; what lies where, and what is a call's own.
-/
import Derived.Test.YtoagdpbbojlgfaaGreatCells
import Derived.Test.YtoagdpbbojlgfaaGreatRowLists
import Derived.Test.YtoagdpbbojlgfaaGreatRowMark
namespace Go.Proofs.YtoagdpbbojlgfaaGreat.Net
open Go.ChangeShapes Go.WideShapes Go.ChangeAt Go.RowKit
open Sto (R Sl Held Turned marks)
open Dep (add_block add_add row_set get_ne get_eq)
set_option linter.unusedVariables false
set_option maxRecDepth 100000

/-- A letter, and where its rows lie. -/
structure Ml where
  f : Int
  t : Int
  x : Sl
def sval (x : Sl) : Value := .slice x.A x.l.length x.c
def sv (s : List Sl) : List Value := s.map sval
def mv (m : List Ml) : List Value := m.flatMap fun y => [.int .i64 y.f, .int .i64 y.t, sval y.x]
theorem sv_len (s : List Sl) : (sv s).length = s.length := by simp [sv]
theorem mv_cons (y : Ml) (m : List Ml) : mv (y :: m) = .int .i64 y.f :: .int .i64 y.t :: sval y.x :: mv m := by simp [mv]
theorem mv_append (a b : List Ml) : mv (a ++ b) = mv a ++ mv b := by simp [mv]
theorem sv_append (a b : List Sl) : sv (a ++ b) = sv a ++ sv b := by simp [sv]
theorem mv_len (m : List Ml) : (mv m).length = m.length * 3 := by
  induction m with
  | nil => rfl
  | cons y m ih => rw [mv_cons]; simp [ih]; omega
theorem sv_at {s : List Sl} {k : Nat} (h : k < s.length) : (sv s)[k]? = some (sval s[k]) := by simp [sv, h]
theorem mv_at {m : List Ml} {k : Nat} (h : k < m.length) : (mv m)[k * 3]? = some (.int .i64 m[k].f) ∧ (mv m)[k * 3 + 1]? = some (.int .i64 m[k].t) ∧ (mv m)[k * 3 + 2]? = some (sval m[k].x) := by
  induction m generalizing k with
  | nil => simp at h
  | cons y m ih =>
    rw [mv_cons]
    cases k with
    | zero => simp
    | succ k =>
      have := ih (k := k) (by simpa using h)
      rw [show (k + 1) * 3 = k * 3 + 1 + 1 + 1 by omega]
      simpa using this

/-- The stores lie there, and their rows. -/
def LSs (w : World) (B : Nat) (A : Option Addr) (s : List Sl) : Prop := Cl w B A (sv s) ∧ ∀ x ∈ s, Sto.Lies w B x.A x.l
/-- The letters lie there, and their rows. -/
def LMs (w : World) (B : Nat) (A : Option Addr) (m : List Ml) : Prop := Cl w B A (mv m) ∧ ∀ y ∈ m, Sto.Lies w B y.x.A y.x.l
theorem LSs.below {w w' : World} {B N : Nat} {A : Option Addr} {s : List Sl} (h : LSs w B A s) (hb : Below N w w') (hN : B ≤ N) : LSs w' B A s := ⟨h.1.below hb hN, fun x hx => (h.2 x hx).below hb hN⟩
theorem LMs.below {w w' : World} {B N : Nat} {A : Option Addr} {s : List Ml} (h : LMs w B A s) (hb : Below N w w') (hN : B ≤ N) : LMs w' B A s := ⟨h.1.below hb hN, fun x hx => (h.2 x hx).below hb hN⟩
theorem LSs.more {w : World} {B B' : Nat} {A : Option Addr} {s : List Sl} (h : LSs w B A s) (hB : B ≤ B') : LSs w B' A s := ⟨h.1.more hB, fun x hx => (h.2 x hx).more hB⟩
theorem LMs.more {w : World} {B B' : Nat} {A : Option Addr} {s : List Ml} (h : LMs w B A s) (hB : B ≤ B') : LMs w B' A s := ⟨h.1.more hB, fun x hx => (h.2 x hx).more hB⟩
theorem LSs.on {w w' : World} {A : Option Addr} {s : List Sl} (h : LSs w w.heap.size A s) (hb : Below w.heap.size w w') : LSs w' w'.heap.size A s := (h.below hb (Nat.le_refl _)).more hb.size
theorem LMs.on {w w' : World} {A : Option Addr} {s : List Ml} (h : LMs w w.heap.size A s) (hb : Below w.heap.size w w') : LMs w' w'.heap.size A s := (h.below hb (Nat.le_refl _)).more hb.size
theorem LSs.at_ {w : World} {B : Nat} {A : Option Addr} {s : List Sl} (h : LSs w B A s) {k : Nat} (hk : k < s.length) :
    ∃ ad, A = some ad ∧ ad.block < B ∧ w.cell? (ad.add k) = some (.slice s[k].A s[k].l.length s[k].c) ∧ Sto.Lies w B s[k].A s[k].l := by
  obtain ⟨ad, e, hb, hc⟩ := h.1 (by rw [sv_len]; omega)
  exact ⟨ad, e, hb, hc k _ (sv_at hk), h.2 _ (List.getElem_mem hk)⟩
/-- A letter lies at an address. -/
abbrev MAt (w : World) (a : Addr) (y : Ml) : Prop := w.cell? a = some (.int .i64 y.f) ∧ w.cell? ⟨a.block, a.off + 1, none⟩ = some (.int .i64 y.t) ∧ w.cell? ⟨a.block, a.off + 2, none⟩ = some (.slice y.x.A y.x.l.length y.x.c)
theorem LMs.at_ {w : World} {B : Nat} {A : Option Addr} {m : List Ml} (h : LMs w B A m) {k : Nat} (hk : k < m.length) :
    ∃ ad, A = some ad ∧ ad.block < B ∧ MAt w (ad.add (k * 3)) m[k] ∧ Sto.Lies w B m[k].x.A m[k].x.l := by
  obtain ⟨ad, e, hb, hc⟩ := h.1 (by rw [mv_len]; omega)
  obtain ⟨g0, g1, g2⟩ := mv_at hk
  refine ⟨ad, e, hb, ⟨hc _ _ g0, ?_, ?_⟩, h.2 _ (List.getElem_mem hk)⟩
  · rw [Sto.addr_next _ _ 1 (by omega)]; exact hc _ _ g1
  · rw [Sto.addr_next _ _ 2 (by omega)]; exact hc _ _ g2
theorem LSs.nil (w : World) (B : Nat) (A : Option Addr) : LSs w B A [] := ⟨Cl.nil _ _ _, fun x hx => absurd hx (by simp)⟩
theorem LMs.nil (w : World) (B : Nat) (A : Option Addr) : LMs w B A [] := ⟨Cl.nil _ _ _, fun x hx => absurd hx (by simp)⟩

/-- A net, and where its lists lie. -/
structure Nt where
  A : Option Addr
  s : List Sl
  ca : Nat
  B : Option Addr
  m : List Ml
  cb : Nat
def Nt.cells (n : Nt) : Array Value := #[.slice n.A n.s.length n.ca, .slice n.B n.m.length n.cb]
def Nt.val (n : Nt) : Value := .agg #[.slice n.A n.s.length n.ca, .slice n.B n.m.length n.cb]
def Nt.out (n : Nt) (c : Int) : Value := .agg #[.slice n.A n.s.length n.ca, .slice n.B n.m.length n.cb, .int .i64 c]
def Nt.all (n : Nt) : List Sl := n.s ++ n.m.map (·.x)
def NLies (w : World) (B : Nat) (n : Nt) : Prop := LSs w B n.A n.s ∧ LMs w B n.B n.m
theorem NLies.below {w w' : World} {B N : Nat} {n : Nt} (h : NLies w B n) (hb : Below N w w') (hN : B ≤ N) : NLies w' B n := ⟨h.1.below hb hN, h.2.below hb hN⟩
theorem NLies.more {w : World} {B B' : Nat} {n : Nt} (h : NLies w B n) (hB : B ≤ B') : NLies w B' n := ⟨h.1.more hB, h.2.more hB⟩
theorem NLies.on {w w' : World} {n : Nt} (h : NLies w w.heap.size n) (hb : Below w.heap.size w w') : NLies w' w'.heap.size n := (h.below hb (Nat.le_refl _)).more hb.size
/-- What a store, a letter, a net tells. -/
def ps (s : List Sl) : List (List R) := s.map (·.l)
structure Pm where
  f : Int
  t : Int
  l : List R
def pm (m : List Ml) : List Pm := m.map fun y => ⟨y.f, y.t, y.x.l⟩
theorem ps_len (s : List Sl) : (ps s).length = s.length := by simp [ps]
theorem pm_len (m : List Ml) : (pm m).length = m.length := by simp [pm]
theorem ps_at {s : List Sl} {k : Nat} (h : k < s.length) : (ps s)[k]'(by rw [ps_len]; exact h) = s[k].l := by simp [ps]
theorem pm_at {m : List Ml} {k : Nat} (h : k < m.length) : (pm m)[k]'(by rw [pm_len]; exact h) = ⟨m[k].f, m[k].t, m[k].x.l⟩ := by simp [pm]

/-- From which block to which the rows of a store lie. -/
def lo (x : Sl) : Nat := match x.A with | none => 0 | some a => a.block
def hi (x : Sl) : Nat := match x.A with | none => 0 | some a => a.block + 1
/-- A store whose rows are a call's own. -/
def HeldX (w : World) (x : Sl) (a b : Nat) : Prop := Held w x.A x.l (lo x) (hi x) ∧ (hi x = 0 ∨ (a ≤ lo x ∧ hi x ≤ b))
def Apart (x y : Sl) : Prop := hi x ≤ lo y ∨ hi y ≤ lo x
theorem HeldX.of {w : World} {A : Option Addr} {l : List R} {c a b : Nat} (h : Held w A l a b) : HeldX w ⟨A, l, c⟩ a b := by
  rcases h with ⟨rfl, rfl⟩ | ⟨g, rfl, hr, h1, h2⟩
  · exact ⟨.inl ⟨rfl, rfl⟩, .inl rfl⟩
  · exact ⟨.inr ⟨g, rfl, hr, Nat.le_refl _, Nat.lt_succ_self _⟩, .inr ⟨h1, h2⟩⟩
theorem HeldX.step {w w' : World} {x : Sl} {a b N : Nat} (h : HeldX w x a b) (hb : Below N w w') (hN : b ≤ N ∨ w.heap.size ≤ N) : HeldX w' x a b :=
  ⟨h.1.keep fun k h1 h2 h3 => hb.block k (by rcases h.2 with e | e <;> omega), h.2⟩
theorem HeldX.wide {w : World} {x : Sl} {a b a' b' : Nat} (h : HeldX w x a b) (h1 : a' ≤ a) (h2 : b ≤ b') : HeldX w x a' b' := ⟨h.1, h.2.imp id fun e => ⟨by omega, by omega⟩⟩
theorem HeldX.lies {w : World} {x : Sl} {a b B : Nat} (h : HeldX w x a b) (hB : b ≤ B) : Sto.Lies w B x.A x.l := h.1.lies (by rcases h.2 with e | e <;> omega)
structure HeldL (w : World) (xs : List Sl) (a b : Nat) : Prop where
  each : ∀ x ∈ xs, HeldX w x a b
  apart : xs.Pairwise Apart
theorem HeldL.nil (w : World) (a b : Nat) : HeldL w [] a b := ⟨fun x hx => absurd hx (by simp), .nil⟩
theorem HeldL.step {w w' : World} {xs : List Sl} {a b N : Nat} (h : HeldL w xs a b) (hb : Below N w w') (hN : b ≤ N ∨ w.heap.size ≤ N) : HeldL w' xs a b := ⟨fun x hx => (h.each x hx).step hb hN, h.apart⟩
theorem HeldL.snoc {w : World} {xs : List Sl} {x : Sl} {a b c d : Nat} (h : HeldL w xs a b) (hx : HeldX w x c d) (hac : a ≤ c) (hbc : b ≤ c) (hbd : b ≤ d) : HeldL w (xs ++ [x]) a d := by
  refine ⟨fun y hy => ?_, List.pairwise_append.2 ⟨h.apart, List.pairwise_singleton _ _, fun y hy z hz => ?_⟩⟩
  · rcases List.mem_append.1 hy with hy | hy
    · exact (h.each y hy).wide (Nat.le_refl _) hbd
    · obtain rfl : y = x := by simpa using hy
      exact hx.wide hac (Nat.le_refl _)
  · obtain rfl : z = x := by simpa using hz
    rcases (h.each y hy).2 with e | e
    · left; omega
    · rcases hx.2 with e2 | e2
      · right; omega
      · left; omega
theorem HeldL.lies {w : World} {xs : List Sl} {a b B : Nat} (h : HeldL w xs a b) (hB : b ≤ B) : ∀ x ∈ xs, Sto.Lies w B x.A x.l := fun x hx => (h.each x hx).lies hB
theorem HeldL.wide {w : World} {xs : List Sl} {a b a' b' : Nat} (h : HeldL w xs a b) (h1 : a' ≤ a) (h2 : b ≤ b') : HeldL w xs a' b' := ⟨fun x hx => (h.each x hx).wide h1 h2, h.apart⟩

/-- What leaves all blocks of rows leaves a store. -/
theorem HeldX.types {w w' : World} {x : Sl} {a b : Nat} (h : HeldX w x a b) (hk : ∀ (g : Nat) (cs : Array Value), w.heap[g]? = some (Obj.cells cs 42 (0, 0)) → w'.heap[g]? = w.heap[g]?) : HeldX w' x a b := by
  refine ⟨?_, h.2⟩
  rcases h.1 with h1 | ⟨g, e, hr, h1, h2⟩
  · exact .inl h1
  · have hr' := hr
    obtain ⟨cs, hc, _⟩ := hr'
    exact .inr ⟨g, e, hr.same (hk g cs hc), h1, h2⟩
theorem HeldL.types {w w' : World} {xs : List Sl} {a b : Nat} (h : HeldL w xs a b) (hk : ∀ (g : Nat) (cs : Array Value), w.heap[g]? = some (Obj.cells cs 42 (0, 0)) → w'.heap[g]? = w.heap[g]?) : HeldL w' xs a b := ⟨fun x hx => (h.each x hx).types hk, h.apart⟩
theorem HeldL.set {w : World} {xs : List Sl} {a b g t n : Nat} {vs : List Value} (h : HeldL w xs a b) (hB : Bk w g t n vs) (ht : t ≠ 42) (i : Nat) (u : Value) : HeldL (w.setCell ⟨g, i, none⟩ u) xs a b :=
  h.types fun k cs hc => heap_setCell_other w _ k u fun e => by
    obtain ⟨cs', hc', _⟩ := hB
    rw [show k = g from e, hc'] at hc
    injection hc with hc
    injection hc with _ h5
    exact ht h5

/-- A net is a call's own. -/
structure HeldN (w : World) (n : Nt) (a b : Nat) : Prop where
  s0 : HeldV w n.A 98 (sv n.s) a b
  m0 : HeldV w n.B 141 (mv n.m) a b
  r0 : HeldL w n.all a b
theorem HeldN.step {w w' : World} {n : Nt} {a b N : Nat} (h : HeldN w n a b) (hb : Below N w w') (hN : b ≤ N ∨ w.heap.size ≤ N) : HeldN w' n a b := ⟨h.s0.step hb hN, h.m0.step hb hN, h.r0.step hb hN⟩
theorem HeldN.drew {w : World} {n : Nt} {a b : Nat} (h : HeldN w n a b) : HeldN w.drew n a b := h.step ((Below.refl w.heap.size w).drew) (.inr (Nat.le_refl _))
theorem HeldN.lies {w : World} {n : Nt} {a b B : Nat} (h : HeldN w n a b) (hB : b ≤ B) : NLies w B n :=
  ⟨⟨h.s0.cl hB, fun x hx => h.r0.lies hB x (List.mem_append_left _ hx)⟩, ⟨h.m0.cl hB, fun y hy => h.r0.lies hB y.x (List.mem_append_right _ (List.mem_map.2 ⟨y, hy, rfl⟩))⟩⟩

/-- Nothing has turned but new blocks, and blocks of rows and letters from a on, below b. -/
structure TurnedN (W W' : World) (a b : Nat) : Prop where
  os : W'.os = W.os
  tape : W'.tape = W.tape
  output : W'.output = W.output
  size : W.heap.size ≤ W'.heap.size
  block : ∀ k, k < W.heap.size → (k < a ∨ b ≤ k) → W'.heap[k]? = W.heap[k]?
  types : ∀ (k : Nat) (cs : Array Value) (t : Nat), W.heap[k]? = some (Obj.cells cs t (0, 0)) → t ≠ 42 → t ≠ 141 → W'.heap[k]? = W.heap[k]?
theorem TurnedN.refl (W : World) (a b : Nat) : TurnedN W W a b := ⟨rfl, rfl, rfl, Nat.le_refl _, fun _ _ _ => rfl, fun _ _ _ _ _ _ => rfl⟩
theorem TurnedN.trans {W W1 W2 : World} {a b : Nat} (h : TurnedN W W1 a b) (k : TurnedN W1 W2 a b) : TurnedN W W2 a b :=
  ⟨k.os.trans h.os, k.tape.trans h.tape, k.output.trans h.output, Nat.le_trans h.size k.size, fun i hi hab => (k.block i (Nat.lt_of_lt_of_le hi h.size) hab).trans (h.block i hi hab),
   fun i cs t hc h1 h2 => (k.types i cs t ((h.types i cs t hc h1 h2).trans hc) h1 h2).trans (h.types i cs t hc h1 h2)⟩
theorem TurnedN.wide {W W1 : World} {a b a' b' : Nat} (h : TurnedN W W1 a b) (h1 : a' ≤ a) (h2 : b ≤ b') : TurnedN W W1 a' b' := ⟨h.os, h.tape, h.output, h.size, fun i hi hab => h.block i hi (by omega), h.types⟩
theorem TurnedN.of {W W' : World} {a b : Nat} (h : Turned W W' a b) : TurnedN W W' a b := by
  obtain ⟨row, hg, hr⟩ := h
  have hB := (Below.refl 0 W).grown hg (by omega) (fun k _ => Nat.zero_le _)
  refine ⟨hB.os, hB.tape, hB.output, hg.size, fun k hk hab => hg.block k hk (fun e => ?_), fun k cs t hc h1 h2 => hg.block k (Array.getElem?_eq_some_iff.1 hc).1 (fun e => ?_)⟩
  · have := hr k e.symm; omega
  · obtain ⟨_, _, cs', hc'⟩ := hr k e.symm
    rw [hc'] at hc
    injection hc with hc
    injection hc with _ h3
    exact h1 h3.symm
theorem TurnedN.of_below {W W' : World} (a b : Nat) (h : Below W.heap.size W W') : TurnedN W W' a b :=
  ⟨h.os, h.tape, h.output, h.size, fun k hk _ => h.block k hk, fun k cs t hc _ _ => h.block k (Array.getElem?_eq_some_iff.1 hc).1⟩
theorem TurnedN.set {W : World} {g n a b : Nat} {vs : List Value} (h : Bk W g 141 n vs) (h1 : a ≤ g) (h2 : g < b) (i : Nat) (u : Value) : TurnedN W (W.setCell ⟨g, i, none⟩ u) a b := by
  have hB := (Below.refl 0 W).setCell (p := ⟨g, i, none⟩) (Nat.zero_le _) u
  refine ⟨hB.os, hB.tape, hB.output, by rw [World.size_setCell]; exact Nat.le_refl _, fun k hk hab => heap_setCell_other W _ k u (by show k ≠ g; omega), fun k cs t hc h3 h4 => heap_setCell_other W _ k u (fun e => ?_)⟩
  obtain ⟨cs', hc', _⟩ := h
  rw [show k = g from e, hc'] at hc
  injection hc with hc
  injection hc with _ h5
  exact h4 h5.symm
theorem TurnedN.blk {W W' : World} {a b k t : Nat} {cs : Array Value} (h : TurnedN W W' a b) (hh : Blk W k t cs) (h1 : t ≠ 42) (h2 : t ≠ 141) : Blk W' k t cs := (h.types k cs t hh h1 h2).trans hh
theorem TurnedN.below {w W W' : World} {a b : Nat} (h : TurnedN W W' a b) (hb : Below w.heap.size w W) (ha : w.heap.size ≤ a) : Below w.heap.size w W' :=
  ⟨h.os.trans hb.os, h.tape.trans hb.tape, h.output.trans hb.output, Nat.le_trans hb.size h.size, fun k hk => (h.block k (Nat.lt_of_lt_of_le hk hb.size) (by omega)).trans (hb.block k hk)⟩
theorem TurnedN.heldX {W W' : World} {a b c d : Nat} {x : Sl} (h : TurnedN W W' a b) (hx : HeldX W x c d) (hd : d ≤ a ∨ b ≤ c) : HeldX W' x c d :=
  ⟨hx.1.keep fun k h1 h2 h3 => h.block k h3 (by rcases hx.2 with e | e <;> omega), hx.2⟩
theorem TurnedN.heldV {W W' : World} {a b c d t : Nat} {A : Option Addr} {vs : List Value} (h : TurnedN W W' a b) (hx : HeldV W A t vs c d) (hd : d ≤ a ∨ b ≤ c) : HeldV W' A t vs c d :=
  hx.keep fun g cs hc h1 h2 => h.block g (Array.getElem?_eq_some_iff.1 hc).1 (by omega)
theorem TurnedN.heldN {W W' : World} {a b c d : Nat} {n : Nt} (h : TurnedN W W' a b) (hx : HeldN W n c d) (hd : d ≤ a ∨ b ≤ c) : HeldN W' n c d :=
  ⟨h.heldV hx.s0 hd, h.heldV hx.m0 hd, ⟨fun x hm => h.heldX (hx.r0.each x hm) hd, hx.r0.apart⟩⟩
theorem HeldX.above {w w' : World} {x : Sl} {a b : Nat} (h : HeldX w x a b) (hk : Above a w w') : HeldX w' x a b := ⟨h.1.keep fun k h1 h2 h3 => hk.2 k (by rcases h.2 with e | e <;> omega), h.2⟩
theorem HeldL.above {w w' : World} {xs : List Sl} {a b : Nat} (h : HeldL w xs a b) (hk : Above a w w') : HeldL w' xs a b := ⟨fun x hx => (h.each x hx).above hk, h.apart⟩
theorem HeldN.above {w w' : World} {n : Nt} {a b : Nat} (h : HeldN w n a b) (hk : Above a w w') : HeldN w' n a b := ⟨h.s0.above hk, h.m0.above hk, h.r0.above hk⟩
theorem HeldN.wide {w : World} {n : Nt} {a b a' b' : Nat} (h : HeldN w n a b) (h1 : a' ≤ a) (h2 : b ≤ b') : HeldN w n a' b' := ⟨h.s0.wide h1 h2, h.m0.wide h1 h2, h.r0.wide h1 h2⟩
end Go.Proofs.YtoagdpbbojlgfaaGreat.Net
