/-
  Several texts in one: RsLies, RsTo, RsApp.
-/
import Derived.Test.YtegnjbdgeibhfaaPackDep
import Derived.Test.YtegnjbdgeibhfaaRecBox
import Derived.Test.YtegnjbdgeibhfaaRecSame
import Derived.Laws.AppendOwn
import Derived.Maps.AppendAt
/-
  A slice of records: what lies where, and what is a call's own.
-/
namespace Go.Proofs.Ytegnjbdgeibhfaa.Rs
open Go.ChangeShapes Go.WideShapes Go.ChangeAt Go.RowKit
open Rec (R P Sound Small recV cellsV)
open Net (Cl Bk HeldV)
open Dep (add_block add_add)
set_option linter.unusedVariables false
set_option maxRecDepth 100000

/-- A record, and where its lists lie. -/
structure Q where
  r : R
  p : P
def qc (q : Q) : List Value := [.string q.r.k, .int .i64 q.r.i.c, .int .i64 q.r.i.s, .int .i64 q.r.i.e, .string q.r.d, .bool q.r.g, .slice q.p.A q.r.l.length q.p.ca, .slice q.p.B q.r.b.length q.p.cb]
def rv (l : List Q) : List Value := l.flatMap qc
theorem rv_cons (q : Q) (l : List Q) : rv (q :: l) = qc q ++ rv l := by simp [rv]
theorem rv_append (a b : List Q) : rv (a ++ b) = rv a ++ rv b := by simp [rv]
theorem qc_len (q : Q) : (qc q).length = 8 := rfl
theorem rv_len (l : List Q) : (rv l).length = l.length * 8 := by
  induction l with
  | nil => rfl
  | cons q l ih => rw [rv_cons, List.length_append, ih, qc_len, List.length_cons]; omega
theorem rv_at {l : List Q} {k : Nat} (h : k < l.length) {j : Nat} (hj : j < 8) : (rv l)[k * 8 + j]? = (qc l[k])[j]? := by
  induction l generalizing k with
  | nil => simp at h
  | cons q l ih =>
    rw [rv_cons]
    cases k with
    | zero => rw [List.getElem?_append_left (by rw [qc_len]; omega)]; simp
    | succ k =>
      rw [List.getElem?_append_right (by rw [qc_len]; omega), qc_len, show (k + 1) * 8 + j - 8 = k * 8 + j by omega, ih (k := k) (by simpa using h)]
      simp
/-- What the records are. -/
def pr (l : List Q) : List R := l.map (·.r)
theorem pr_len (l : List Q) : (pr l).length = l.length := by simp [pr]
theorem pr_at {l : List Q} {k : Nat} (h : k < l.length) : (pr l)[k]'(by rw [pr_len]; exact h) = l[k].r := by simp [pr]

/-- A record lies at an address. -/
abbrev RPAt (w : World) (a : Addr) (r : R) (p : P) : Prop :=
  w.cell? a = some (.string r.k) ∧ w.cell? ⟨a.block, a.off + 1, none⟩ = some (.int .i64 r.i.c) ∧ w.cell? ⟨a.block, a.off + 1 + 1, none⟩ = some (.int .i64 r.i.s) ∧ w.cell? ⟨a.block, a.off + 1 + 2, none⟩ = some (.int .i64 r.i.e) ∧
  w.cell? ⟨a.block, a.off + 4, none⟩ = some (.string r.d) ∧ w.cell? ⟨a.block, a.off + 5, none⟩ = some (.bool r.g) ∧ w.cell? ⟨a.block, a.off + 6, none⟩ = some (.slice p.A r.l.length p.ca) ∧ w.cell? ⟨a.block, a.off + 7, none⟩ = some (.slice p.B r.b.length p.cb)
abbrev QAt (w : World) (a : Addr) (q : Q) : Prop := RPAt w a q.r q.p
theorem addr_next (a : Addr) (i r : Nat) (hr : 0 < r) : (⟨(a.add i).block, (a.add i).off + r, none⟩ : Addr) = a.add (i + r) := by
  unfold Addr.add
  by_cases h : i = 0
  · subst h
    rw [if_pos rfl, if_neg (by omega)]
    simp
  · rw [if_neg h, if_neg (by omega)]
    simp [Nat.add_assoc]
theorem QAt.step {W W' : World} {p : Addr} {q : Q} (h : QAt W p q) (hb : Below W.heap.size W W') : QAt W' p q :=
  ⟨Lib.Below.cellOf hb h.1 (Nat.le_refl _), Lib.Below.cellOf hb h.2.1 (Nat.le_refl _), Lib.Below.cellOf hb h.2.2.1 (Nat.le_refl _), Lib.Below.cellOf hb h.2.2.2.1 (Nat.le_refl _), Lib.Below.cellOf hb h.2.2.2.2.1 (Nat.le_refl _), Lib.Below.cellOf hb h.2.2.2.2.2.1 (Nat.le_refl _), Lib.Below.cellOf hb h.2.2.2.2.2.2.1 (Nat.le_refl _), Lib.Below.cellOf hb h.2.2.2.2.2.2.2 (Nat.le_refl _)⟩
/-- The records lie there, and their lists. -/
def LRs (w : World) (B : Nat) (A : Option Addr) (l : List Q) : Prop := Cl w B A (rv l) ∧ ∀ q ∈ l, Rec.Lies w B q.r q.p
theorem LRs.below {w w' : World} {B N : Nat} {A : Option Addr} {l : List Q} (h : LRs w B A l) (hb : Below N w w') (hN : B ≤ N) : LRs w' B A l := ⟨h.1.below hb hN, fun x hx => (h.2 x hx).step hb hN (Nat.le_refl _)⟩
theorem LRs.more {w : World} {B B' : Nat} {A : Option Addr} {l : List Q} (h : LRs w B A l) (hB : B ≤ B') : LRs w B' A l := ⟨h.1.more hB, fun x hx => ⟨(h.2 x hx).1.more hB, (h.2 x hx).2.more hB⟩⟩
theorem LRs.on {w w' : World} {A : Option Addr} {l : List Q} (h : LRs w w.heap.size A l) (hb : Below w.heap.size w w') : LRs w' w'.heap.size A l := (h.below hb (Nat.le_refl _)).more hb.size
theorem LRs.nil (w : World) (B : Nat) (A : Option Addr) : LRs w B A [] := ⟨Cl.nil _ _ _, fun x hx => absurd hx (by simp)⟩
theorem LRs.at_ {w : World} {B : Nat} {A : Option Addr} {l : List Q} (h : LRs w B A l) {k : Nat} (hk : k < l.length) :
    ∃ ad, A = some ad ∧ ad.block < B ∧ QAt w (ad.add (k * 8)) l[k] ∧ Rec.Lies w B l[k].r l[k].p := by
  obtain ⟨ad, e, hb, hc⟩ := h.1 (by rw [rv_len]; omega)
  refine ⟨ad, e, hb, ⟨?_, ?_, ?_, ?_, ?_, ?_, ?_, ?_⟩, h.2 _ (List.getElem_mem hk)⟩
  · have := hc (k * 8 + 0) _ ((rv_at hk (by omega)).trans (by rfl)); simpa using this
  · rw [addr_next _ _ 1 (by omega)]; exact hc _ _ ((rv_at hk (by omega)).trans (by rfl))
  · rw [Nat.add_assoc, addr_next _ _ 2 (by omega)]; exact hc _ _ ((rv_at hk (by omega)).trans (by rfl))
  · rw [Nat.add_assoc, addr_next _ _ 3 (by omega)]; exact hc _ _ ((rv_at hk (by omega)).trans (by rfl))
  · rw [addr_next _ _ 4 (by omega)]; exact hc _ _ ((rv_at hk (by omega)).trans (by rfl))
  · rw [addr_next _ _ 5 (by omega)]; exact hc _ _ ((rv_at hk (by omega)).trans (by rfl))
  · rw [addr_next _ _ 6 (by omega)]; exact hc _ _ ((rv_at hk (by omega)).trans (by rfl))
  · rw [addr_next _ _ 7 (by omega)]; exact hc _ _ ((rv_at hk (by omega)).trans (by rfl))

/-- The lists of the records are a call's own, one behind the other. -/
def HeldQ (w : World) : List Q → Nat → Nat → Prop
  | [], a, b => a ≤ b
  | q :: l, a, b => ∃ m, a ≤ m ∧ Rec.Held w q.r q.p a m ∧ HeldQ w l m b
theorem HeldQ.le {w : World} : ∀ {l : List Q} {a b : Nat}, HeldQ w l a b → a ≤ b
  | [], _, _, h => h
  | q :: l, _, _, ⟨m, h1, _, h2⟩ => Nat.le_trans h1 (HeldQ.le h2)
theorem HeldQ.step {w w' : World} {N : Nat} (hb : Below N w w') : ∀ {l : List Q} {a b : Nat}, HeldQ w l a b → (b ≤ N ∨ w.heap.size ≤ N) → HeldQ w' l a b
  | [], _, _, h, _ => h
  | q :: l, _, _, ⟨m, h1, h2, h3⟩, hN => ⟨m, h1, h2.step hb (hN.imp (fun h => Nat.le_trans h3.le h) id), HeldQ.step hb h3 hN⟩
theorem HeldQ.wide {w : World} : ∀ {l : List Q} {a b a' b' : Nat}, HeldQ w l a b → a' ≤ a → b ≤ b' → HeldQ w l a' b'
  | [], _, _, _, _, h, h1, h2 => Nat.le_trans h1 (Nat.le_trans h h2)
  | q :: l, _, _, _, _, ⟨m, h0, h3, h4⟩, h1, h2 => ⟨m, Nat.le_trans h1 h0, h3.wide h1 (Nat.le_refl _), h4.wide (Nat.le_refl _) h2⟩
theorem HeldQ.snoc {w : World} {q : Q} {c d : Nat} (hq : Rec.Held w q.r q.p c d) (hcd : c ≤ d) : ∀ {l : List Q} {a b : Nat}, HeldQ w l a b → b ≤ c → HeldQ w (l ++ [q]) a d
  | [], _, _, h, hbc => ⟨d, Nat.le_trans h (Nat.le_trans hbc hcd), hq.wide (Nat.le_trans h hbc) (Nat.le_refl _), Nat.le_refl _⟩
  | x :: l, _, _, ⟨m, h1, h2, h3⟩, hbc => ⟨m, h1, h2, HeldQ.snoc hq hcd h3 hbc⟩
theorem HeldQ.lies {w : World} {B : Nat} : ∀ {l : List Q} {a b : Nat}, HeldQ w l a b → b ≤ B → ∀ q ∈ l, Rec.Lies w B q.r q.p
  | [], _, _, _, _ => fun q hq => absurd hq (by simp)
  | x :: l, _, _, ⟨m, h1, h2, h3⟩, hB => fun q hq => by
    rcases List.mem_cons.1 hq with rfl | hq
    · exact h2.lies (Nat.le_trans h3.le hB)
    · exact h3.lies hB q hq
theorem HeldQ.types {w w' : World} (hk : ∀ (k : Nat) (cs : Array Value) (t : Nat), w.heap[k]? = some (Obj.cells cs t (0, 0)) → t ≠ 61 → w'.heap[k]? = w.heap[k]?) : ∀ {l : List Q} {a b : Nat}, HeldQ w l a b → HeldQ w' l a b
  | [], _, _, h => h
  | q :: l, a, b, ⟨m, h1, h2, h3⟩ => ⟨m, h1, by
      refine ⟨?_, ?_⟩
      · rcases h2.1 with e | ⟨g, e, ho, x, y⟩
        · exact .inl e
        · obtain ⟨cs, hc, hh⟩ := ho
          exact .inr ⟨g, e, ⟨cs, (hk g cs _ hc (by decide)).trans hc, hh⟩, x, y⟩
      · rcases h2.2 with e | ⟨g, e, ho, x, y⟩
        · exact .inl e
        · obtain ⟨cs, hc, hh⟩ := ho
          exact .inr ⟨g, e, ⟨cs, (hk g cs _ hc (by decide)).trans hc, hh⟩, x, y⟩, HeldQ.types hk h3⟩
end Go.Proofs.Ytegnjbdgeibhfaa.Rs

/-
  The law's own toRecS, szRecS, eqRecS.
-/
namespace Go.Proofs.Ytegnjbdgeibhfaa.Rs
open Go.ChangeShapes Go.WideShapes Go.ChangeAt Go.RowKit
open Rec (R P Sound Small recV cellsV)
open Net (Cl Bk HeldV)
open Dep (add_block add_add)
set_option linter.unusedVariables false
set_option maxRecDepth 100000

theorem rec_info : (Try.prog.info? 61).map (fun i => (i.zero, i.size, i.bytes)) = some (some (.agg #[.string ⟨#[]⟩, .int .i64 0, .int .i64 0, .int .i64 0, .string ⟨#[]⟩, .bool false, .slice none 0 0, .slice none 0 0]), 8, 112) := by kernel_rfl
theorem take_snoc {α : Type} (l : List α) (k : Nat) (h : k < l.length) : l.take (k + 1) = l.take k ++ [l[k]] := by simp

theorem heldQ_set {w : World} {l : List Q} {a b g n : Nat} {vs : List Value} (h : HeldQ w l a b) (hB : Bk w g 61 n vs) (i : Nat) (u : Value) : HeldQ (w.setCell ⟨g, i, none⟩ u) l a b :=
  h.types fun k cs t hc ht => heap_setCell_other w _ k u fun e => by
    obtain ⟨cs', hc', _⟩ := hB
    rw [show k = g from e, hc'] at hc
    injection hc with hc
    injection hc with _ h5
    exact ht h5.symm

set_option maxHeartbeats 1000000 in
theorem toRecS_any (A : Option Addr) (l : List Q) (cap : Nat) (w : World) (h : LRs w w.heap.size A l) (hl : l.length ≤ 1048576) (hll : ∀ q ∈ l, q.r.l.length ≤ 1048576 ∧ q.r.b.length ≤ 1048576) :
    Calls Try.prog 18 #[.slice A l.length cap] w fun e w' => ∃ g l', e = .returned (.slice (some ⟨g, 0, none⟩) l'.length l'.length) ∧ pr l' = pr l ∧ w.heap.size ≤ g ∧ Bk w' g 61 (l'.length * 8) (rv l') ∧ HeldQ w' l' w.heap.size w'.heap.size ∧ Below w.heap.size w w' := by
  have H := Lib.hid h
  have HL := Lib.hid hll
  clear h hll
  obtain ⟨i0, hi0, hz0, hz1, hz2⟩ := info_parts rec_info
  have hmk := run_make (P := Try.prog) w 23 61 i0 _ Try.underlying23 hi0 hz0 .i64 .i64 l.length l.length (by omega) (Int.le_refl _) (by rw [hz2]; omega) (by omega)
  rw [hz1] at hmk
  clear hi0 hz0 hz1 hz2
  go_enter Try.func18, Try.ntmps18
  go_wp2_with fail
  rw [Int.toNat_natCast] at hmk
  have HO := Lib.hid (Bk.new w (Value.agg #[.string ⟨#[]⟩, .int .i64 0, .int .i64 0, .int .i64 0, .string ⟨#[]⟩, .bool false, .slice none 0 0, .slice none 0 0]).cells 61 (l.length * 8))
  generalize hg : w.heap.size = g at *
  go_loopw [4] (fun i wr => ∃ k : Nat, k ≤ l.length ∧ i = .int .i64 k ∧ ∃ l' : List Q, Hid (pr l' = pr (l.take k) ∧ Bk wr g 61 (l.length * 8) (rv l') ∧ HeldQ wr l' g wr.heap.size ∧ Below g w wr)) (fun i _ => l.length - (intOf i).toNat)
  case atStart => exact ⟨0, by omega, rfl, [], Lib.hid ⟨rfl, HO.out, by show g ≤ _; simp; omega, (Below.refl _ _).alloc (by omega) _⟩⟩
  case round =>
    obtain ⟨k, hk, rfl, l', HR⟩ := hrel
    by_cases hlt : k < l.length
    · obtain ⟨ad, rfl, hb, ⟨c0, c1, c2, c3, c4, c5, c6, c7⟩, hLs⟩ := (H.out.below HR.out.2.2.2 (Nat.le_refl _)).at_ hlt
      obtain ⟨hx1, hx2⟩ := HL.out l[k] (List.getElem_mem hlt)
      have HT := Lib.hid (take_snoc l k hlt)
      obtain ⟨x, hx⟩ : ∃ x, l[k] = x := ⟨_, rfl⟩
      rw [hx] at c0 c1 c2 c3 c4 c5 c6 c7 hLs hx1 hx2 HT
      clear hx
      obtain ⟨r, p⟩ := x
      simp only at c0 c1 c2 c3 c4 c5 c6 c7 hLs hx1 hx2
      have HC := Lib.hid (Rec.toRec_any r p wr (hLs.step (Below.refl g wr) (Nat.le_refl _) (by have := HR.out.2.2.2.size; omega)) hx1 hx2)
      unfold recV at HC
      clear hLs
      go_wp2_with fail
      refine HC.out.mono ?_
      rintro e w1 ⟨p', rfl, hh1, -, -, hb1⟩
      have hbk := HR.out.2.1.on hb1
      have hlen : l'.length = k := by have := congrArg List.length HR.out.1; simpa [pr_len, Nat.min_eq_left hk] using this
      obtain ⟨u0, e0⟩ := hbk.cell (j := k * 8) (by omega)
      obtain ⟨u1, e1⟩ := hbk.cell (j := k * 8 + 1) (by omega)
      obtain ⟨u2, e2⟩ := hbk.cell (j := k * 8 + 2) (by omega)
      obtain ⟨u3, e3⟩ := hbk.cell (j := k * 8 + 3) (by omega)
      obtain ⟨u4, e4⟩ := hbk.cell (j := k * 8 + 4) (by omega)
      obtain ⟨u5, e5⟩ := hbk.cell (j := k * 8 + 5) (by omega)
      obtain ⟨u6, e6⟩ := hbk.cell (j := k * 8 + 6) (by omega)
      obtain ⟨u7, e7⟩ := hbk.cell (j := k * 8 + 7) (by omega)
      have f0 := hbk.free (k * 8)
      have f1 := hbk.free (k * 8 + 1)
      have f2 := hbk.free (k * 8 + 2)
      have f3 := hbk.free (k * 8 + 3)
      have f4 := hbk.free (k * 8 + 4)
      have f5 := hbk.free (k * 8 + 5)
      have f6 := hbk.free (k * 8 + 6)
      have f7 := hbk.free (k * 8 + 7)
      have HN := Lib.hid (show HeldQ w1 (l' ++ [⟨r, p'⟩]) g w1.heap.size from HeldQ.snoc (q := ⟨r, p'⟩) hh1 hb1.size (HR.out.2.2.1.step hb1 (.inr (Nat.le_refl _))) (Nat.le_refl _))
      have HB := Lib.hid (HR.out.2.2.2.trans (hb1.mono (by have := HR.out.2.2.2.size; omega)))
      have h1 := hbk.put (k := k * 8) (by rw [rv_len, hlen]) (by omega) (.string r.k)
      have h2 := h1.put (k := k * 8 + 1) (by simp [rv_len, hlen]) (by omega) (.int .i64 r.i.c)
      have h3 := h2.put (k := k * 8 + 2) (by simp [rv_len, hlen]) (by omega) (.int .i64 r.i.s)
      have h4 := h3.put (k := k * 8 + 3) (by simp [rv_len, hlen]) (by omega) (.int .i64 r.i.e)
      have h5 := h4.put (k := k * 8 + 4) (by simp [rv_len, hlen]) (by omega) (.string r.d)
      have h6 := h5.put (k := k * 8 + 5) (by simp [rv_len, hlen]) (by omega) (.bool r.g)
      have h7 := h6.put (k := k * 8 + 6) (by simp [rv_len, hlen]) (by omega) (.slice p'.A r.l.length p'.ca)
      have h8 := h7.put (k := k * 8 + 7) (by simp [rv_len, hlen]) (by omega) (.slice p'.B r.b.length p'.cb)
      have HP := Lib.hid HR.out.1
      have K0 := Lib.hid hbk
      have K1 := Lib.hid h1
      have K2 := Lib.hid h2
      have K3 := Lib.hid h3
      have K4 := Lib.hid h4
      have K5 := Lib.hid h5
      have K6 := Lib.hid h6
      have K7 := Lib.hid h7
      have K8 := Lib.hid h8
      clear hbk hb1 hh1 c0 c1 c2 c3 c4 c5 c6 c7 h1 h2 h3 h4 h5 h6 h7 h8 hlen HC
      go_wp2_with fail
      go_roundw
      case rel =>
        refine ⟨k + 1, by omega, by go_num, l' ++ [⟨r, p'⟩], Lib.hid ⟨?_, ?_, ?_, (((((((HB.out.setCell (Nat.le_refl _) _).setCell (Nat.le_refl _) _).setCell (Nat.le_refl _) _).setCell (Nat.le_refl _) _).setCell (Nat.le_refl _) _).setCell (Nat.le_refl _) _).setCell (Nat.le_refl _) _).setCell (Nat.le_refl _) _⟩⟩
        · rw [HT.out]; simp only [pr, List.map_append]; have := HP.out; unfold pr at this; rw [this]; rfl
        · rw [rv_append]; have := K8.out; simpa [rv, qc] using this
        · simp only [World.size_setCell]
          exact heldQ_set (heldQ_set (heldQ_set (heldQ_set (heldQ_set (heldQ_set (heldQ_set (heldQ_set HN.out K0.out _ _) K1.out _ _) K2.out _ _) K3.out _ _) K4.out _ _) K5.out _ _) K6.out _ _) K7.out _ _
      case measure => simp [intOf]; omega
    · go_wp2_with fail
      go_ret
      have e1 := HR.out.1
      rw [List.take_of_length_le (by omega)] at e1
      have e2 : l'.length = l.length := by have := congrArg List.length e1; simpa [pr_len] using this
      exact ⟨g, l', by rw [e2]; rfl, e1, by omega, by rw [e2]; exact HR.out.2.1, hg ▸ HR.out.2.2.1, hg ▸ HR.out.2.2.2⟩

/-- How long the lists of all records are together. -/
def tot (l : List Q) : Nat := (l.map fun q => q.r.l.length + q.r.b.length).sum
theorem tot_step (l : List Q) (k : Nat) (h : k < l.length) : tot (l.take (k + 1)) = tot (l.take k) + (l[k].r.l.length + l[k].r.b.length) := by
  unfold tot; rw [take_snoc l k h, List.map_append, List.sum_append]; simp
set_option maxHeartbeats 1000000 in
theorem szRecS_any (A : Option Addr) (l : List Q) (cap : Nat) (n : Int) (w : World) (h : LRs w w.heap.size A l) (hl : l.length ≤ maxLen) (hk : ∀ q ∈ l, Sound q.r) (h0 : 0 ≤ n) (h1 : n ≤ 1048576) :
    Calls Try.prog 16 #[.slice A l.length cap, .int .i64 n] w fun e w' => ∃ r : Int, e = .returned (.int .i64 r) ∧ (r = -1 ∨ (0 ≤ r ∧ r + (l.length + tot l : Nat) ≤ n ∧ (l.length : Int) ≤ n ∧ ∀ q ∈ l, Small q.r n)) ∧ Below w.heap.size w w' := by
  have hl2 := hl
  unfold maxLen at hl2
  have H := Lib.hid h
  have HK := Lib.hid hk
  clear h hk
  by_cases hn : n < l.length
  · have hn2 : n - (l.length : Int) < 0 := by omega
    go_enter Try.func16, Try.ntmps16
    go_wp2_with fail
    go_ret
    exact ⟨-1, rfl, .inl rfl, Below.refl _ _⟩
  · have hn2 : ¬ n - (l.length : Int) < 0 := by omega
    go_enter Try.func16, Try.ntmps16
    go_wp2_with fail
    go_loopw [1, 5] (fun z i wr => ∃ k : Nat, k ≤ l.length ∧ i = .int .i64 k ∧ ∃ m : Int, 0 ≤ m ∧ m + (l.length + tot (l.take k) : Nat) ≤ n ∧ z = .int .i64 m ∧ Hid ((∀ j (hj : j < l.length), j < k → Small l[j].r n) ∧ Below w.heap.size w wr)) (fun _ i _ => l.length - (intOf i).toNat)
    case atStart => exact ⟨0, by omega, rfl, n - l.length, by omega, by simp [tot], rfl, Lib.hid ⟨fun j hj hjk => absurd hjk (by omega), Below.refl _ _⟩⟩
    case round =>
      obtain ⟨k, hk, rfl, m, hm0, hm1, rfl, HR⟩ := hrel
      by_cases hlt : k < l.length
      · obtain ⟨ad, rfl, hb, ⟨c0, c1, c2, c3, c4, c5, c6, c7⟩, hL⟩ := (H.out.below HR.out.2 (Nat.le_refl _)).at_ hlt
        have hf := HK.out l[k] (List.getElem_mem hlt)
        have HTS := Lib.hid (tot_step l k hlt)
        have HSX := Lib.hid (show ∀ j (hj : j < l.length), j = k → l[j].r = l[k].r from fun j hj e => by subst e; rfl)
        obtain ⟨x, hx⟩ : ∃ x, l[k] = x := ⟨_, rfl⟩
        rw [hx] at c0 c1 c2 c3 c4 c5 c6 c7 hL hf HSX HTS
        clear hx
        obtain ⟨r, p⟩ := x
        simp only at c0 c1 c2 c3 c4 c5 c6 c7 hL hf HSX HTS
        have HC := Lib.hid (Rec.szRec_any r p m wr (hL.step (Below.refl w.heap.size wr) (Nat.le_refl _) HR.out.2.size) hf hm0 (by omega))
        unfold recV at HC
        clear hL hf
        go_wp2_with fail
        refine HC.out.mono ?_
        rintro e w1 ⟨y, rfl, hr, hb1⟩
        have HB1 := Lib.hid (HR.out.2.trans (hb1.mono HR.out.2.size))
        clear hb1 c0 c1 c2 c3 c4 c5 c6 c7
        rcases hr with rfl | ⟨hr0, hr1, hr3⟩
        · go_wp2_with fail
          go_ret
          exact ⟨-1, rfl, .inl rfl, HB1.out⟩
        · have hs0 : ¬ y < 0 := by omega
          have HR3 := Lib.hid (show Small r n from ⟨by have := hr3.1; omega, by have := hr3.2.1; omega, by have := hr3.2.2.1; omega, fun d hd => by have := hr3.2.2.2.1 d hd; omega, by have := hr3.2.2.2.2.1; omega, fun x hx => by have := hr3.2.2.2.2.2 x hx; omega⟩)
          clear hr3
          go_wp2_with fail
          go_roundw
          case rel =>
            refine ⟨k + 1, by omega, by go_num, y, by omega, by rw [HTS.out]; omega, rfl, Lib.hid ⟨fun j hj hjk => ?_, HB1.out⟩⟩
            by_cases e : j = k
            · rw [HSX.out j hj e]; exact HR3.out
            · exact HR.out.1 j hj (by omega)
          case measure => simp [intOf]; omega
      · have HEN := Lib.hid (show l.take k = l from List.take_of_length_le (by omega))
        rw [HEN.out] at hm1
        go_wp2_with fail
        go_ret
        refine ⟨m, rfl, .inr ⟨hm0, hm1, by omega, fun x hx => ?_⟩, HR.out.2⟩
        obtain ⟨j, hj, rfl⟩ := List.getElem_of_mem hx
        exact HR.out.1 j hj (by omega)

/-- Two records stand, and nothing below is written. -/
abbrev PairQ (w : World) (p q : Addr) (r : R) (y z : P) (W : World) : Prop := RPAt W p r y ∧ RPAt W q r z ∧ Below w.heap.size w W
theorem PairQ.step {w W W' : World} {p q : Addr} {r : R} {y z : P} (h : PairQ w p q r y z W) (hb : Below W.heap.size W W') : PairQ w p q r y z W' :=
  ⟨QAt.step (q := ⟨r, y⟩) h.1 hb, QAt.step (q := ⟨r, z⟩) h.2.1 hb, h.2.2.trans (hb.mono h.2.2.size)⟩
theorem PairQ.drew {w W : World} {p q : Addr} {r : R} {y z : P} (h : PairQ w p q r y z W) : PairQ w p q r y z W.drew := ⟨h.1, h.2.1, h.2.2.drew⟩
theorem PairQ.below {w W : World} {p q : Addr} {r : R} {y z : P} (h : PairQ w p q r y z W) : Below w.heap.size w W := h.2.2

set_option maxHeartbeats 2000000 in
theorem eqRecS_same (A B : Option Addr) (l l' : List Q) (ca cb : Nat) (w : World) (ha : LRs w w.heap.size A l) (hb : LRs w w.heap.size B l') (he : pr l = pr l') (hl : l.length ≤ maxLen) (hll : ∀ q ∈ l, q.r.l.length ≤ maxLen ∧ q.r.b.length ≤ maxLen) :
    Calls Try.prog 20 #[.slice A l.length ca, .slice B l'.length cb] w fun x w' => x = .returned (.bool true) ∧ Below w.heap.size w w' := by
  have hl2 := hl
  unfold maxLen at hl2
  have hlen : l'.length = l.length := by have := congrArg List.length he; simpa [pr_len] using this.symm
  have HA := Lib.hid ha
  have HB := Lib.hid hb
  have HL := Lib.hid hll
  have HLEN := Lib.hid hlen
  have HE := Lib.hid (show ∀ k (h1 : k < l.length) (h2 : k < l'.length), l[k].r = l'[k].r from fun k h1 h2 => by
    have e1 := pr_at h1
    have e2 := pr_at h2
    rw [← e1, ← e2]
    congr 1)
  rw [hlen]
  clear ha hb hll he hlen
  go_enter Try.func20, Try.ntmps20
  go_wp2_with fail
  go_loopw [5] (fun i wr => ∃ k : Nat, k ≤ l.length ∧ i = .int .i64 k ∧ Hid (Below w.heap.size w wr)) (fun i _ => l.length - (intOf i).toNat)
  case atStart => exact ⟨0, by omega, rfl, Lib.hid (Below.refl _ _)⟩
  case round =>
    obtain ⟨k, hk, rfl, HR⟩ := hrel
    by_cases hlt : k < l.length
    · have hlt2 : k < l'.length := by rw [HLEN.out]; exact hlt
      obtain ⟨a1, rfl, hb1, c0, -⟩ := (HA.out.below HR.out (Nat.le_refl _)).at_ hlt
      obtain ⟨a2, rfl, hb2, d0, -⟩ := (HB.out.below HR.out (Nat.le_refl _)).at_ hlt2
      have hL1 := HA.out.2 l[k] (List.getElem_mem hlt)
      have hL2 := HB.out.2 l'[k] (List.getElem_mem hlt2)
      have hxy := HE.out k hlt hlt2
      have hxl := HL.out l[k] (List.getElem_mem hlt)
      obtain ⟨x, hx⟩ : ∃ x, l[k] = x := ⟨_, rfl⟩
      obtain ⟨y, hy⟩ : ∃ y, l'[k] = y := ⟨_, rfl⟩
      rw [hx] at c0 hL1 hxy hxl
      rw [hy] at d0 hL2 hxy
      clear hx hy hlt2
      obtain ⟨r, p⟩ := x
      obtain ⟨r', q⟩ := y
      simp only at hxy hxl hL1 hL2
      subst hxy
      have HC := Lib.hid (fun W (hW : Below w.heap.size w W) => Rec.eqRec_same r p q W (hL1.step hW (Nat.le_refl _) hW.size) (hL2.step hW (Nat.le_refl _) hW.size) hxl.1 hxl.2)
      unfold recV at HC
      clear hL1 hL2
      have hp : PairQ w (a1.add (k * 8)) (a2.add (k * 8)) r p q wr := ⟨c0, d0, HR.out⟩
      clear c0 d0
      go_wp2_with fail
      go_region_held3 (fun W => RPAt W (a1.add (k * 8)) r p ∧ RPAt W (a2.add (k * 8)) r q ∧ Below w.heap.size w W)
        (first | exact PairQ.drew (by assumption) | exact PairQ.step (by assumption) hb)
        (first | (go_at_call 49; refine (HC.out _ (PairQ.below (by assumption))).mono ?_; rintro x w' ⟨rfl, hb⟩))
      have h2 : PairQ w (a1.add (k * 8)) (a2.add (k * 8)) r p q w' := by assumption
      have HB1 := Lib.hid h2.2.2
      clear h2 hp
      go_wp2_with fail
      go_roundw
      case rel => exact ⟨k + 1, by omega, by go_num, HB1⟩
      case measure => simp [intOf]; omega
    · go_wp2_with fail
      go_ret
      exact ⟨rfl, HR.out⟩
end Go.Proofs.Ytegnjbdgeibhfaa.Rs

/-
  Appending to a slice of a call's own, of records.
-/
namespace Go.Proofs.Ytegnjbdgeibhfaa.Rs
open Go.ChangeShapes Go.WideShapes Go.ChangeAt Go.RowKit
open Net (Cl Bk HeldV addr0)
open Rec (R P)
set_option linter.unusedVariables false
set_option maxRecDepth 100000
set_option linter.unusedSimpArgs false

/-- What append asks of a slice's type. -/
def AppFit (ts te size : Nat) : Prop := Try.prog.underlying ts = some (.slice te) ∧ 0 < size ∧ ∃ i z, Try.prog.info? te = some i ∧ i.zero = some z ∧ i.size = size ∧ i.bytes ≤ 128 ∧ z.cells.size = size
theorem fit_recs : AppFit 23 61 8 := by
  obtain ⟨i0, hi0, hz0, hz1, hz2⟩ := info_parts rec_info
  exact ⟨Try.underlying23, by omega, i0, _, hi0, hz0, hz1, by rw [hz2]; omega, rfl⟩

section
variable {w w' : World} {te size base n : Nat} {v : Value} {xs : List Value}
theorem o_base (h : w.ownsRow base te size v n xs) : ∀ k, v.ownBlock = some k → base ≤ k := by
  rcases h.2 with ⟨rfl, _⟩ | ⟨g, cap, cur, rfl, hb, _⟩
  · intro k e; cases e
  · intro k e; cases e; exact hb
theorem o_alloc (h : w.ownsRow base te size v n xs) (o : Obj) : (w.alloc o).ownsRow base te size v n xs := by
  refine ⟨h.1, h.2.imp id ?_⟩
  rintro ⟨g, cap, cur, e, hb, hh, r⟩
  exact ⟨g, cap, cur, e, hb, (heap_alloc_old w o (Array.getElem?_eq_some_iff.1 hh).1).trans hh, r⟩
theorem o_step (h : w.ownsRow base te size v n xs) {N : Nat} (hb : Below N w w') (hN : w.heap.size ≤ N) : w'.ownsRow base te size v n xs := by
  refine ⟨h.1, h.2.imp id ?_⟩
  rintro ⟨g, cap, cur, e, hb', hh, r⟩
  exact ⟨g, cap, cur, e, hb', (hb.block g (by have := (Array.getElem?_eq_some_iff.1 hh).1; omega)).trans hh, r⟩
theorem o_less {base' : Nat} (h : w.ownsRow base te size v n xs) (hb : base' ≤ base) : w.ownsRow base' te size v n xs :=
  ⟨h.1, h.2.imp id fun ⟨g, cap, cur, e, hb', r⟩ => ⟨g, cap, cur, e, by omega, r⟩⟩
theorem o_set (h : w.ownsRow base te size v n xs) {p : Addr} (hp : p.block < base) (u : Value) : (w.setCell p u).ownsRow base te size v n xs := by
  refine ⟨h.1, h.2.imp id ?_⟩
  rintro ⟨g, cap, cur, e, hb', hh, r⟩
  refine ⟨g, cap, cur, e, hb', ?_, r⟩
  rw [← hh]
  exact heap_setCell_other w p g u (by omega)
theorem o_nil (w : World) (base te size : Nat) : w.ownsRow base te size (.slice none 0 0) 0 [] := ⟨by simp, .inl ⟨rfl, rfl⟩⟩
theorem o_none (w : World) (te size : Nat) : (w.alloc (Obj.cells #[] te)).ownsRow w.heap.size te size (.slice (some ⟨w.heap.size, 0, none⟩) 0 0) 0 [] :=
  ⟨by simp, .inr ⟨w.heap.size, 0, #[], rfl, Nat.le_refl _, heap_alloc_new w _, Nat.le_refl _, by simp [maxLen], by simp, by simp⟩⟩
/-- What a slice of one's own is. -/
theorem o_val (h : w.ownsRow base te size v n xs) : ∃ A c, v = .slice A n c ∧ n ≤ c ∧ c ≤ maxLen ∧ Cl w w.heap.size A xs ∧ HeldV w A te xs base w.heap.size := by
  rcases h.2 with ⟨rfl, rfl⟩ | ⟨g, cap, cur, rfl, hb, hh, hnc, hcm, hsz, hx⟩
  · have : xs = [] := List.eq_nil_of_length_eq_zero (by have := h.1; omega)
    subst this
    exact ⟨none, 0, rfl, Nat.le_refl _, by simp [maxLen], Cl.nil _ _ _, .inl rfl⟩
  · have hl := h.1
    have hle : n * size ≤ cap * size := Nat.mul_le_mul_right _ hnc
    have hB : Bk w g te (cap * size) xs := ⟨cur, hh, hsz, by omega, fun j u hu => by
      have hj := (List.getElem?_eq_some_iff.1 hu).1
      rw [← hx, List.getElem?_take, if_pos (by omega)] at hu
      rw [← Array.getElem?_toList]; exact hu⟩
    exact ⟨_, cap, rfl, hnc, hcm, hB.cl hB.lt, .inr ⟨g, _, rfl, hB, hb, hB.lt⟩⟩
theorem o_val_ne (h : w.ownsRow base te size v n xs) (hv : v = .slice none 0 0 → False) : ∃ g c, v = .slice (some ⟨g, 0, none⟩) n c ∧ n ≤ c ∧ c ≤ maxLen ∧ base ≤ g ∧ Bk w g te (c * size) xs := by
  rcases h.2 with ⟨rfl, _⟩ | ⟨g, cap, cur, rfl, hb, hh, hnc, hcm, hsz, hx⟩
  · exact absurd rfl hv
  · have hl := h.1
    have hle : n * size ≤ cap * size := Nat.mul_le_mul_right _ hnc
    exact ⟨g, cap, rfl, hnc, hcm, hb, cur, hh, hsz, by omega, fun j u hu => by
      have hj := (List.getElem?_eq_some_iff.1 hu).1
      rw [← hx, List.getElem?_take, if_pos (by omega)] at hu
      rw [← Array.getElem?_toList]; exact hu⟩
/-- What an append may write is no block of another type. -/
theorem o_types {w1 : World} (h : w.ownsRow base te size v n xs) (hg : w.grownBy w1 v.ownBlock) {t : Nat} (ht : t ≠ te) (g : Nat) (cs : Array Value) (hc : w.heap[g]? = some (Obj.cells cs t (0, 0))) : w1.heap[g]? = w.heap[g]? := by
  refine hg.block g (Array.getElem?_eq_some_iff.1 hc).1 fun e => ?_
  rcases h.2 with ⟨rfl, _⟩ | ⟨g', cap, cur, rfl, hb, hh, _⟩
  · cases e
  · cases e
    rw [hh] at hc
    injection hc with hc
    injection hc with _ h5
    exact ht h5.symm
end

theorem cl_one (w : World) (te : Nat) (cs : Array Value) : Cl (w.alloc (Obj.cells cs te)) (w.heap.size + 1) (some ⟨w.heap.size, 0, none⟩) cs.toList := fun _ => by
  refine ⟨_, rfl, Nat.lt_succ_self _, fun j u hu => ?_⟩
  rw [addr0, (Blk.new w te cs).cell j, ← Array.getElem?_toList]
  exact hu
theorem cl_one_at (W : World) (te : Nat) (cs : Array Value) {g : Nat} (h : W.heap.size = g) : Cl (W.alloc (Obj.cells cs te)) (g + 1) (some ⟨g, 0, none⟩) cs.toList := by subst h; exact cl_one W te cs
theorem rv_one (l : List Q) : ∀ u ∈ rv l, u.oneCell' = true := by
  intro u hu
  simp only [rv, List.mem_flatMap] at hu
  obtain ⟨q, _, hu⟩ := hu
  simp only [qc, List.mem_cons, List.not_mem_nil, or_false] at hu
  rcases hu with rfl | rfl | rfl | rfl | rfl | rfl | rfl | rfl <;> rfl

theorem run_app {ts te size : Nat} (hf : AppFit ts te size) (base : Nat) (v : Value) (n : Nat) (xs : List Value) (w : World) (hown : w.ownsRow base te size v n xs) (B : Nat) (A : Option Addr) (m c : Nat) (ys : List Value) (hr : Cl w B A ys) (hy : ys.length = m * size) (h1 : ∀ u ∈ ys, u.oneCell' = true) (h63 : n + m ≤ 1048576) (hbase : base ≤ w.heap.size) :
    ∃ v' w', (Builtin.append_ #[ts, ts] ts #[v, .slice A m c]).run Try.prog w = .ok v' w' ∧ w'.ownsRow base te size v' (n + m) (xs ++ ys) ∧ w.grownBy w' v.ownBlock ∧
      (v' = .slice none 0 0 → v = .slice none 0 0 ∧ m = 0) := by
  obtain ⟨hu, hs, i0, z, hi0, hz0, hz1, hz2, hz3⟩ := hf
  rcases A with _ | ad
  · have : ys = [] := by
      cases ys with
      | nil => rfl
      | cons y ys => obtain ⟨ad, e, _⟩ := hr (by simp); cases e
    subst this
    have hm : m = 0 := by
      rcases Nat.eq_zero_or_pos m with h | h
      · exact h
      · have := Nat.mul_pos h hs; simp at hy; omega
    subst hm
    refine ⟨v, w, ?_, by simpa using hown, World.grownBy.refl w _, fun e => ⟨e, rfl⟩⟩
    rcases hown.2 with ⟨rfl, rfl⟩ | ⟨g, cap, cur, rfl, _, _, hnc, _⟩
    · simp [Builtin.append_, run_underlying hu, sizeOf, typeInfo, hi0, Builtin.lenOf, Builtin.firstCells]
    · simp [Builtin.append_, run_underlying hu, sizeOf, typeInfo, hi0, Builtin.lenOf, Builtin.firstCells, hnc, storeCells]
  · have hc : ∀ (j : Nat) (u : Value), ys[j]? = some u → w.cell? (ad.add j) = some u := fun j u hu => by
      obtain ⟨ad', e, _, hc⟩ := hr (by have := (List.getElem?_eq_some_iff.1 hu).1; omega)
      cases e
      exact hc j u hu
    obtain ⟨v', w', hrun, h2, h3, h4, h5⟩ := run_append_own_at (P := Try.prog) w base ts ts te i0 z size i0.bytes hu hi0 hz0 hz1 rfl hz3 hs v n xs hown ad m c ys hy hc h1 (by simp only [maxLen]; omega) (by have := Nat.mul_le_mul (show n + m ≤ 1048576 from h63) hz2; omega) hbase
    exact ⟨v', w', hrun, h2, h3, fun e => h4.1 e⟩

theorem wpList_app {ts te size : Nat} (hf : AppFit ts te size) {ops : Array Oper} {rest : List Oper} {o : Oper} {a : Act} {w : World} {Q : Exit → Act → World → Prop} (hgd : o.guard = none) {s x : Operand}
    (ho : o.op = .call { callee := .builtin .append, args := #[s, x], argTypes := #[ts, ts] }) (hty : o.type = ts) {base : Nat} {v : Value} {n : Nat} {xs : List Value} {A : Option Addr} {m c B : Nat} (ys : List Value)
    (hs : a.eval s = v) (hx : a.eval x = .slice A m c) (hown : w.ownsRow base te size v n xs) (hr : Cl w B A ys) (hy : ys.length = m * size) (h1 : ∀ u ∈ ys, u.oneCell' = true) (h63 : n + m ≤ 1048576) (hbase : base ≤ w.heap.size)
    (h : ∀ v' w', w'.ownsRow base te size v' (n + m) (xs ++ ys) → w.grownBy w' v.ownBlock → (v' = .slice none 0 0 → v = .slice none 0 0 ∧ m = 0) → wpList Try.prog ops Q rest (a.put o.dst v') w') : wpList Try.prog ops Q (o :: rest) a w := by
  refine wpList_plain hgd fun K hK => ?_
  obtain ⟨v', w', hrun, h2, h3, h4⟩ := run_app hf base v n xs w hown B A m c ys hr hy h1 h63 hbase
  unfold Oper.wp execOp
  rw [hty]
  simp only [ho, resolve, invoke, builtin, Sem.run_bind, Sem.run_pure, Result.andThen_ok, List.map_toArray, List.map_cons, List.map_nil, hs, hx, hrun]
  exact hK _ _ (h v' w' h2 h3 h4)
theorem wp_app {ts te size : Nat} (hf : AppFit ts te size) {o : Oper} {a : Act} {w : World} {K : Act → World → Prop} {Q : Exit → Act → World → Prop} {s x : Operand}
    (ho : o.op = .call { callee := .builtin .append, args := #[s, x], argTypes := #[ts, ts] }) (hty : o.type = ts) {base : Nat} {v : Value} {n : Nat} {xs : List Value} {A : Option Addr} {m c B : Nat} (ys : List Value)
    (hs : a.eval s = v) (hx : a.eval x = .slice A m c) (hown : w.ownsRow base te size v n xs) (hr : Cl w B A ys) (hy : ys.length = m * size) (h1 : ∀ u ∈ ys, u.oneCell' = true) (h63 : n + m ≤ 1048576) (hbase : base ≤ w.heap.size)
    (h : ∀ v' w', w'.ownsRow base te size v' (n + m) (xs ++ ys) → w.grownBy w' v.ownBlock → (v' = .slice none 0 0 → v = .slice none 0 0 ∧ m = 0) → K (a.put o.dst v') w') : Oper.wp Try.prog o a w K Q := by
  obtain ⟨v', w', hrun, h2, h3, h4⟩ := run_app hf base v n xs w hown B A m c ys hr hy h1 h63 hbase
  unfold Oper.wp execOp
  rw [hty]
  simp only [ho, resolve, invoke, builtin, Sem.run_bind, Sem.run_pure, Result.andThen_ok, List.map_toArray, List.map_cons, List.map_nil, hs, hx, hrun]
  exact h v' w' h2 h3 h4
end Go.Proofs.Ytegnjbdgeibhfaa.Rs
