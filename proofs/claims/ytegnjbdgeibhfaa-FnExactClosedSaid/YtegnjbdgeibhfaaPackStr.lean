/-
  Several texts in one: Str, StrEq, StrHeld, DepEq.
-/
import Derived.Test.YtegnjbdgeibhfaaPackDep
import Derived.Deep.Slices
import Derived.ChangeArms
import Derived.BigQuiet
import Derived.Test.YtegnjbdgeibhfaaPackHeld
/-
  Slices of strings: what they read as; the law's own toStringS, szStringS, eqStringS.
-/
namespace Go.Proofs.Ytegnjbdgeibhfaa.Str
open Go.ChangeShapes Go.WideShapes Go.ChangeAt Go.RowKit
open Dep (add_block add_add row_set get_ne get_eq list_eq)
set_option linter.unusedVariables false
set_option maxRecDepth 100000
set_option linter.unusedSimpArgs false

/-- A slice's address and what it reads as; it lies below block B. -/
def Lies (w : World) (B : Nat) (A : Option Addr) (l : List ByteArray) : Prop :=
  0 < l.length → ∃ ad, A = some ad ∧ ad.block < B ∧ ∀ j (h : j < l.length), w.cell? (ad.add j) = some (.string l[j])
/-- A slice of strings. -/
def slV (A : Option Addr) (l : List ByteArray) (cap : Nat) : Value := .slice A l.length cap

theorem Lies.keep {w w' : World} {B : Nat} {A : Option Addr} {l : List ByteArray} (h : Lies w B A l) (hk : ∀ p : Addr, p.block < B → w'.cell? p = w.cell? p) : Lies w' B A l := fun h0 => by
  obtain ⟨ad, e, hb, hc⟩ := h h0
  exact ⟨ad, e, hb, fun j hj => (hk _ (by rw [add_block]; exact hb)).trans (hc j hj)⟩
theorem Lies.more {w : World} {B B' : Nat} {A : Option Addr} {l : List ByteArray} (h : Lies w B A l) (hB : B ≤ B') : Lies w B' A l := fun h0 => by
  obtain ⟨ad, e, hb, hc⟩ := h h0
  exact ⟨ad, e, by omega, hc⟩
theorem Lies.below {w w' : World} {B N : Nat} {A : Option Addr} {l : List ByteArray} (h : Lies w B A l) (hb : Below N w w') (hN : B ≤ N) : Lies w' B A l := h.keep fun p hp => hb.cell (by omega)
theorem Lies.on {w w' : World} {A : Option Addr} {l : List ByteArray} (h : Lies w w.heap.size A l) (hb : Below w.heap.size w w') : Lies w' w'.heap.size A l := (h.below hb (Nat.le_refl _)).more hb.size
theorem Lies.at_ {w : World} {B : Nat} {A : Option Addr} {l : List ByteArray} {k : Nat} (h : Lies w B A l) (hk : k < l.length) : ∃ ad, A = some ad ∧ ad.block < B ∧ w.cell? (ad.add k) = some (.string l[k]) := by
  obtain ⟨ad, e, hb, hc⟩ := h (by omega)
  exact ⟨ad, e, hb, hc k hk⟩

/-- Block g is a row of n strings, the first of which are l. -/
def Own (w : World) (g n : Nat) (l : List ByteArray) : Prop :=
  ∃ cs : Array Value, w.heap[g]? = some (.cells cs 9 (0, 0)) ∧ cs.size = n ∧ ∀ j (h : j < l.length), cs[j]? = some (.string l[j])
theorem Own.lt {w : World} {g n : Nat} {l : List ByteArray} (h : Own w g n l) : g < w.heap.size := by
  obtain ⟨cs, h, _⟩ := h
  exact (Array.getElem?_eq_some_iff.1 h).1
theorem Own.step {w w1 : World} {g n N : Nat} {l : List ByteArray} (h : Own w g n l) (hb : Below N w w1) (hlt : g < N) : Own w1 g n l := by
  obtain ⟨cs, h, h2⟩ := h
  exact ⟨cs, (hb.block g hlt).trans h, h2⟩
theorem Own.free {w : World} {g n : Nat} {l : List ByteArray} (h : Own w g n l) (j : Nat) : w.frozen? ⟨g, j, none⟩ = false := by
  obtain ⟨cs, h, h2⟩ := h
  simp [World.frozen?, h]
theorem Own.cell {w : World} {g n : Nat} {l : List ByteArray} (h : Own w g n l) {j : Nat} (hj : j < n) : ∃ u, w.cell? ⟨g, j, none⟩ = some u := by
  obtain ⟨cs, h, h2, _⟩ := h
  rw [cell_of_row w g j cs _ (0, 0) h]
  exact ⟨cs[j]'(by omega), Array.getElem?_eq_getElem (by omega)⟩
/-- One string more. -/
theorem Own.put {w : World} {g n : Nat} {l : List ByteArray} (h : Own w g n l) (d : ByteArray) (hn : l.length < n) {k : Nat} (hk : l.length = k) : Own (w.setCell ⟨g, k, none⟩ (.string d)) g n (l ++ [d]) := by
  obtain ⟨cs, h1, h2, h3⟩ := h
  refine ⟨_, row_set h1 _ _, by simp [h2], fun j hj => ?_⟩
  rw [List.length_append, List.length_singleton] at hj
  by_cases e : j = k
  · subst e
    have e1 : (l ++ [d])[j] = d := by simp [← hk]
    rw [e1]
    exact get_eq _ (by omega)
  · have hjl : j < l.length := by omega
    rw [List.getElem_append_left hjl, get_ne _ (by omega)]
    exact h3 j hjl
/-- A row of one's own reads as what it holds. -/
theorem Own.lies {w : World} {g n B : Nat} {l : List ByteArray} (h : Own w g n l) (hB : g < B) : Lies w B (some ⟨g, 0, none⟩) l := by
  intro h0
  obtain ⟨cs, h1, h2, h3⟩ := h
  refine ⟨_, rfl, hB, fun j hj => ?_⟩
  have e : (Addr.add ⟨g, 0, none⟩ j) = ⟨g, j, none⟩ := by
    unfold Addr.add
    split
    · rename_i h; rw [h]
    · simp
  rw [e]
  exact (cell_of_row w g _ cs _ (0, 0) h1).trans (h3 j hj)

theorem str_info : (Try.prog.info? 9).map (fun i => (i.zero, i.size, i.bytes)) = some (some (.string ⟨#[]⟩), 1, 16) := by kernel_rfl
theorem Own.new (w : World) (z : Array Value) (n : Nat) : Own (w.alloc (.cells (madeCells z n) 9)) w.heap.size n [] :=
  ⟨_, heap_alloc_new w _, size_madeCells _ _, fun j h => absurd h (by simp)⟩

theorem toStringS_any (A : Option Addr) (l : List ByteArray) (cap : Nat) (w : World) (h : Lies w w.heap.size A l) (hl : l.length ≤ 1048576) :
    Calls Try.prog 73 #[slV A l cap] w fun x w' => ∃ g, x = .returned (.slice (some ⟨g, 0, none⟩) l.length l.length) ∧ w.heap.size ≤ g ∧ Own w' g l.length l ∧ Below w.heap.size w w' := by
  unfold slV
  have H := Lib.hid h
  clear h
  obtain ⟨i0, hi0, hz0, hz1, hz2⟩ := info_parts str_info
  have hmk := run_make (P := Try.prog) w 28 9 i0 _ Try.underlying28 hi0 hz0 .i64 .i64 l.length l.length (by omega) (Int.le_refl _) (by rw [hz2]; omega) (by omega)
  rw [hz1] at hmk
  clear hi0 hz0 hz1 hz2
  go_enter Try.func73, Try.ntmps73
  go_wp2_with fail
  rw [Int.toNat_natCast] at hmk
  have HO := Lib.hid (Own.new w #[Value.string ⟨#[]⟩] l.length)
  generalize hg : w.heap.size = g at *
  go_loopw [4] (fun i wr => ∃ k : Nat, k ≤ l.length ∧ i = .int .i64 k ∧ Hid (Own wr g l.length (l.take k) ∧ Below g w wr)) (fun i _ => l.length - (intOf i).toNat)
  case atStart => exact ⟨0, by omega, rfl, Lib.hid ⟨HO.out, (Below.refl _ _).alloc (by omega) _⟩⟩
  case round =>
    obtain ⟨k, hk, rfl, HR⟩ := hrel
    by_cases hlt : k < l.length
    · obtain ⟨ad, rfl, hb, c0⟩ := (H.out.below HR.out.2 (Nat.le_refl _)).at_ hlt
      obtain ⟨u0, e0⟩ := HR.out.1.cell (j := k) hlt
      have f0 := HR.out.1.free k
      go_wp2_with fail
      go_roundw
      case rel =>
        refine ⟨k + 1, by omega, by go_num, Lib.hid ⟨?_, ?_⟩⟩
        · rw [show l.take (k + 1) = l.take k ++ [l[k]] by simp]
          exact HR.out.1.put l[k] (by rw [List.length_take]; omega) (by rw [List.length_take]; omega)
        · exact HR.out.2.setCell (Nat.le_refl _) _
      case measure => simp [intOf]; omega
    · go_wp2_with fail
      go_ret
      refine ⟨g, rfl, by omega, ?_, hg ▸ HR.out.2⟩
      have := HR.out.1
      rwa [List.take_of_length_le (by omega)] at this

theorem szStringS_any (A : Option Addr) (l : List ByteArray) (cap : Nat) (n : Int) (w : World) (h : Lies w w.heap.size A l) (hl : l.length ≤ maxLen) (hk : ∀ d ∈ l, d.size ≤ maxLen) (h0 : 0 ≤ n) (h1 : n ≤ 1048576) :
    Calls Try.prog 70 #[slV A l cap, .int .i64 n] w fun x w' => ∃ r : Int, x = .returned (.int .i64 r) ∧ (r = -1 ∨ (0 ≤ r ∧ r ≤ n ∧ (l.length : Int) ≤ n - r ∧ ∀ d ∈ l, (d.size : Int) ≤ n)) ∧ w = w' := by
  have hl2 := hl
  unfold maxLen at hl2
  unfold slV
  have H := Lib.hid h
  have HK := Lib.hid hk
  clear h hk
  by_cases hn : n < l.length
  · go_enter Try.func70, Try.ntmps70
    go_wp2_with fail
    go_ret
    exact ⟨-1, rfl, .inl rfl, rfl⟩
  · go_enter Try.func70, Try.ntmps70
    go_wp2_with fail
    go_loop [1, 5] (fun z i => ∃ k : Nat, k ≤ l.length ∧ i = .int .i64 k ∧ ∃ m : Int, 0 ≤ m ∧ m ≤ n - l.length ∧ z = .int .i64 m ∧ Hid (∀ j (hj : j < l.length), j < k → (l[j].size : Int) ≤ n)) (fun _ i => l.length - (intOf i).toNat)
    case atStart => exact ⟨0, by omega, rfl, n - l.length, by omega, by omega, rfl, Lib.hid fun j hj hjk => absurd hjk (by omega)⟩
    case round =>
      obtain ⟨k, hk, rfl, m, hm0, hm1, rfl, HR⟩ := hrel
      by_cases hlt : k < l.length
      · obtain ⟨ad, rfl, hb, c0⟩ := H.out.at_ hlt
        have hks := HK.out l[k] (List.getElem_mem hlt)
        unfold maxLen at hks
        by_cases hs : m < (l[k].size : Int)
        · go_wp2_with fail
          go_ret
          exact ⟨-1, rfl, .inl rfl, rfl⟩
        · have hs0 : ¬ m - (l[k].size : Int) < 0 := by omega
          go_wp2_with fail
          go_round
          case rel =>
            exact ⟨k + 1, by omega, by go_num, m - l[k].size, by omega, by omega, rfl, Lib.hid fun j hj hjk => by
              by_cases e : j = k
              · subst e; omega
              · exact HR.out j hj (by omega)⟩
          case measure => simp [intOf]; omega
      · go_wp2_with fail
        go_ret
        refine ⟨m, rfl, .inr ⟨hm0, by omega, by omega, fun d hd => ?_⟩, rfl⟩
        obtain ⟨j, hj, rfl⟩ := List.getElem_of_mem hd
        exact HR.out j hj (by omega)
end Go.Proofs.Ytegnjbdgeibhfaa.Str

/-
  Two slices of strings compared: the law's eqStringS, spec.l04SameKeys, slices.Equal.
-/
namespace Go.Proofs.Ytegnjbdgeibhfaa.Str
open Go.ChangeShapes Go.WideShapes Go.ChangeAt Go.RowKit
open Dep (list_eq)
set_option linter.unusedVariables false
set_option maxRecDepth 100000
set_option linter.unusedSimpArgs false

theorem drewN_below {w W : World} {n : Nat} (h : Below n w W) (k : Nat) : Below n w (W.drewN k) := ⟨h.os, h.tape, h.output, h.size, h.block⟩
theorem str_eq {a b : ByteArray} (h : a = b) : (a.toList == b.toList) = true := by rw [h]; exact beq_self_eq_true _
theorem str_ne {a b : ByteArray} (h : ¬ a = b) : (a.toList == b.toList) = false :=
  beq_eq_false_iff_ne.2 fun e => h (list_eq (by rw [← ByteArray.toList_eq, ← ByteArray.toList_eq]; exact e))
noncomputable def alikeB (l m : List ByteArray) : Bool := @decide (l = m) (Classical.propDecidable _)
theorem alikeB_true {l m : List ByteArray} (h : l = m) : alikeB l m = true := by simp [alikeB, h]
theorem alikeB_false {l m : List ByteArray} (h : ¬ l = m) : alikeB l m = false := by simp [alikeB, h]
theorem alike_of {l m : List ByteArray} (h : alikeB l m = true) : l = m := by
  rcases Classical.em (l = m) with h1 | h1
  · exact h1
  · rw [alikeB_false h1] at h; cases h

set_option maxHeartbeats 1000000 in
theorem eqStrings_any (A B : Option Addr) (l m : List ByteArray) (ca cb : Nat) (w : World) (ha : Lies w w.heap.size A l) (hb : Lies w w.heap.size B m) (hl : l.length ≤ maxLen) (hm : m.length ≤ maxLen) :
    Calls Try.prog 25 #[slV A l ca, slV B m cb] w fun x w' => x = .returned (.bool (alikeB l m)) ∧ Below w.heap.size w w' := by
  have hl2 := hl
  have hm2 := hm
  unfold maxLen at hl2 hm2
  unfold slV
  have HA := Lib.hid ha
  have HB := Lib.hid hb
  clear ha hb
  by_cases hlen : l.length = m.length
  · have hlen1 : ((l.length : Int) == (m.length : Int)) = true := beq_iff_eq.2 (by omega)
    have hlen2 : ((l.length : Int) != (m.length : Int)) = false := by simp [hlen]
    have HLEN := Lib.hid hlen
    clear hlen
    go_enter Try.func25, Try.ntmps25
    go_wp2_with fail
    go_loopw [5] (fun i wr => ∃ k : Nat, k ≤ l.length ∧ i = .int .i64 k ∧ Hid ((∀ j (hj : j < l.length) (hjm : j < m.length), j < k → l[j] = m[j]) ∧ Below w.heap.size w wr)) (fun i _ => l.length - (intOf i).toNat)
    case atStart => exact ⟨0, by omega, rfl, Lib.hid ⟨fun j hj hjm hjk => absurd hjk (by omega), Below.refl _ _⟩⟩
    case round =>
      obtain ⟨k, hk, rfl, HR⟩ := hrel
      by_cases hlt : k < l.length
      · have hltm : k < m.length := by have := HLEN.out; omega
        obtain ⟨a1, rfl, hb1, c0⟩ := (HA.out.below HR.out.2 (Nat.le_refl _)).at_ hlt
        obtain ⟨a2, rfl, hb2, d0⟩ := (HB.out.below HR.out.2 (Nat.le_refl _)).at_ hltm
        obtain ⟨x, hx⟩ : ∃ x, l[k] = x := ⟨_, rfl⟩
        obtain ⟨y, hy⟩ : ∃ y, m[k] = y := ⟨_, rfl⟩
        have HX := Lib.hid hx
        have HY := Lib.hid hy
        rw [hx] at c0
        rw [hy] at d0
        clear hx hy hb1 hb2
        by_cases he : x = y
        · have HE := Lib.hid he
          have e0 := str_eq he
          clear he
          go_wp2_with fail
          go_quiet (fail)
          go_wp2_with fail
          go_roundw
          case rel =>
            refine ⟨k + 1, by omega, by go_num, Lib.hid ⟨fun j hj hjm hjk => ?_, drewN_below HR.out.2 _⟩⟩
            by_cases e : j = k
            · subst e; rw [HX.out, HY.out]; exact HE.out
            · exact HR.out.1 j hj hjm (by omega)
          case measure => simp [intOf]; omega
        · have HE := Lib.hid he
          have e0 := str_ne he
          clear he
          go_wp2_with fail
          go_quiet (fail)
          go_wp2_with fail
          go_ret
          exact ⟨Key.ret_bool (alikeB_false fun e => HE.out (by rw [← HX.out, ← HY.out]; simp only [e])).symm, drewN_below HR.out.2 _⟩
      · have HF := Lib.hid (show l = m from List.ext_getElem HLEN.out fun j h1 h2 => HR.out.1 j h1 h2 (by omega))
        go_wp2_with fail
        go_ret
        exact ⟨Key.ret_bool (alikeB_true HF.out).symm, HR.out.2⟩
  · have hlen1 : ((l.length : Int) == (m.length : Int)) = false := beq_eq_false_iff_ne.2 (by omega)
    have hlen2 : ((l.length : Int) != (m.length : Int)) = true := by simp; omega
    have HF := Lib.hid (show ¬ l = m from fun e => hlen (by rw [e]))
    go_enter Try.func25, Try.ntmps25
    go_wp2_with fail
    go_ret
    exact ⟨Key.ret_bool (alikeB_false HF.out).symm, Below.refl _ _⟩

end Go.Proofs.Ytegnjbdgeibhfaa.Str

/-
  Strings that a call handed back, with the block they lie in; the law's own markStringS, heldStringS.
-/
namespace Go.Proofs.Ytegnjbdgeibhfaa.Str
open Go.ChangeShapes Go.WideShapes Go.ChangeAt Go.RowKit
open Dep (add_block add_add row_set get_ne get_eq list_eq markV markText_any grown_trans grown_of_below grown_set)
set_option linter.unusedVariables false
set_option maxRecDepth 100000

/-- Block g begins with these strings. -/
def Row (w : World) (g : Nat) (l : List ByteArray) : Prop :=
  ∃ cs : Array Value, w.heap[g]? = some (.cells cs 9 (0, 0)) ∧ l.length ≤ cs.size ∧ ∀ j (h : j < l.length), cs[j]? = some (.string l[j])
theorem Row.lt {w : World} {g : Nat} {l : List ByteArray} (h : Row w g l) : g < w.heap.size := by
  obtain ⟨cs, h, _⟩ := h
  exact (Array.getElem?_eq_some_iff.1 h).1
theorem Row.same {w w1 : World} {g : Nat} {l : List ByteArray} (h : Row w g l) (hb : w1.heap[g]? = w.heap[g]?) : Row w1 g l := by
  obtain ⟨cs, h, h2⟩ := h
  exact ⟨cs, hb.trans h, h2⟩
theorem Row.step {w w1 : World} {g N : Nat} {l : List ByteArray} (h : Row w g l) (hb : Below N w w1) (hlt : g < N) : Row w1 g l := h.same (hb.block g hlt)
theorem Row.free {w : World} {g : Nat} {l : List ByteArray} (h : Row w g l) (j : Nat) : w.frozen? ⟨g, j, none⟩ = false := by
  obtain ⟨cs, h, h2⟩ := h
  simp [World.frozen?, h]
theorem Row.cell {w : World} {g : Nat} {l : List ByteArray} (h : Row w g l) {j : Nat} (hj : j < l.length) : ∃ u, w.cell? ⟨g, j, none⟩ = some u := by
  obtain ⟨cs, h, h2, _⟩ := h
  rw [cell_of_row w g j cs _ (0, 0) h]
  exact ⟨cs[j]'(by omega), Array.getElem?_eq_getElem (by omega)⟩
theorem Row.lies {w : World} {g B : Nat} {l : List ByteArray} (h : Row w g l) (hB : g < B) : Lies w B (some ⟨g, 0, none⟩) l := by
  intro h0
  obtain ⟨cs, h1, h2, h3⟩ := h
  refine ⟨_, rfl, hB, fun j hj => ?_⟩
  have e : (Addr.add ⟨g, 0, none⟩ j) = ⟨g, j, none⟩ := by
    unfold Addr.add
    split
    · rename_i h; rw [h]
    · simp
  rw [e]
  exact (cell_of_row w g _ cs _ (0, 0) h1).trans (h3 j hj)
theorem Row.put {w : World} {g : Nat} {l : List ByteArray} (h : Row w g l) (d : ByteArray) {k : Nat} (hk : k < l.length) : Row (w.setCell ⟨g, k, none⟩ (.string d)) g (l.set k d) := by
  obtain ⟨cs, h1, h2, h3⟩ := h
  refine ⟨_, row_set h1 _ _, by simp; omega, fun j hj => ?_⟩
  rw [List.length_set] at hj
  by_cases e : j = k
  · subst e
    rw [List.getElem_set_self]
    exact get_eq _ (by omega)
  · rw [List.getElem_set_ne (by omega), get_ne _ (by omega)]
    exact h3 j hj
theorem Row.of_own {w : World} {g n : Nat} {l : List ByteArray} (h : Own w g n l) (hn : l.length ≤ n) : Row w g l := by
  obtain ⟨cs, h1, h2, h3⟩ := h
  exact ⟨cs, h1, by omega, h3⟩

/-- A list lies nowhere, being empty, or in a block from lo on, below hi. -/
def Held (W : World) (A : Option Addr) (l : List ByteArray) (lo hi : Nat) : Prop :=
  (A = none ∧ l = []) ∨ ∃ g, A = some ⟨g, 0, none⟩ ∧ Row W g l ∧ lo ≤ g ∧ g < hi
theorem Held.lies {W : World} {A : Option Addr} {l : List ByteArray} {lo hi B : Nat} (h : Held W A l lo hi) (hB : hi ≤ B) : Lies W B A l := by
  rcases h with ⟨rfl, rfl⟩ | ⟨g, rfl, hr, _, hg⟩
  · exact fun h0 => absurd h0 (by simp)
  · exact hr.lies (by omega)
theorem Held.keep {W W' : World} {A : Option Addr} {l : List ByteArray} {lo hi : Nat} (h : Held W A l lo hi) (hk : ∀ k, lo ≤ k → k < hi → k < W.heap.size → W'.heap[k]? = W.heap[k]?) : Held W' A l lo hi := by
  rcases h with h | ⟨g, rfl, hr, hlo, hg⟩
  · exact .inl h
  · exact .inr ⟨g, rfl, hr.same (hk g hlo hg hr.lt), hlo, hg⟩
theorem Held.step {W W' : World} {A : Option Addr} {l : List ByteArray} {lo hi N : Nat} (h : Held W A l lo hi) (hb : Below N W W') (hN : hi ≤ N ∨ W.heap.size ≤ N) : Held W' A l lo hi := h.keep fun k _ h2 h3 => hb.block k (by omega)
theorem Held.wide {W : World} {A : Option Addr} {l : List ByteArray} {lo hi lo' hi' : Nat} (h : Held W A l lo hi) (hl : lo' ≤ lo) (hh : hi ≤ hi') : Held W A l lo' hi' :=
  h.imp id fun ⟨g, e, hr, h1, h2⟩ => ⟨g, e, hr, by omega, by omega⟩
theorem Held.of_row {W : World} {g n : Nat} {l : List ByteArray} (h : Own W g n l) (hn : l.length ≤ n) {lo : Nat} (hlo : lo ≤ g) : Held W (some ⟨g, 0, Option.none⟩) l lo W.heap.size :=
  .inr ⟨g, rfl, Row.of_own h hn, hlo, h.lt⟩
/-- A mark of deps leaves the strings. -/
theorem Held.turned {W W' : World} {A : Option Addr} {l : List ByteArray} {lo hi lo' hi' : Nat} (h : Held W A l lo hi) (ht : Dep.Turned W W' lo' hi') : Held W' A l lo hi := by
  rcases h with h | ⟨g, rfl, hr, hlo, hg⟩
  · exact .inl h
  · obtain ⟨row, hgr, hrow⟩ := ht
    refine .inr ⟨g, rfl, hr.same (hgr.block g hr.lt fun e => ?_), hlo, hg⟩
    obtain ⟨_, _, cs, hc⟩ := hrow g e.symm
    obtain ⟨cs', hc', _⟩ := hr
    rw [hc'] at hc
    injection hc with hc
    injection hc with _ h2
    exact absurd h2 (by decide)
/-- Nothing has turned but new blocks, and one block of strings from lo on, below hi. -/
def Turned (W W' : World) (lo hi : Nat) : Prop := ∃ row, W.grownBy W' row ∧ ∀ g, row = some g → lo ≤ g ∧ g < hi ∧ ∃ cs, W.heap[g]? = some (.cells cs 9 (0, 0))
theorem Turned.size {W W' : World} {lo hi : Nat} (h : Turned W W' lo hi) : W.heap.size ≤ W'.heap.size := by obtain ⟨row, hg, _⟩ := h; exact hg.size
theorem Turned.blk {W W' : World} {lo hi b t : Nat} {cs : Array Value} (h : Turned W W' lo hi) (hh : Blk W b t cs) (ht : t ≠ 9) : Blk W' b t cs := by
  obtain ⟨row, hg, hr⟩ := h
  refine (hg.block b hh.lt (fun e => ?_)).trans hh
  obtain ⟨_, _, cs, hc⟩ := hr b e.symm
  rw [show W.heap[b]? = _ from hh] at hc
  injection hc with hc
  injection hc with _ h2
  exact absurd h2 ht
theorem Turned.below {w W W' : World} {lo hi : Nat} (h : Turned W W' lo hi) (hb : Below w.heap.size w W) (hlo : w.heap.size ≤ lo) : Below w.heap.size w W' := by
  obtain ⟨row, hg, hr⟩ := h
  exact hb.grown hg hb.size (fun k e => by have := hr k e; omega)
theorem Turned.held {W W' : World} {lo hi lo' hi' : Nat} {A : Option Addr} {l : List ByteArray} (h : Turned W W' lo hi) (hh : Held W A l lo' hi') (hd : hi' ≤ lo ∨ hi ≤ lo') : Held W' A l lo' hi' := by
  obtain ⟨row, hg, hr⟩ := h
  exact hh.keep fun k h1 h2 h3 => hg.block k h3 (fun e => by have := hr k e.symm; omega)
/-- A mark of strings leaves the deps. -/
theorem Turned.deps {W W' : World} {lo hi lo' hi' : Nat} {A : Option Addr} {l : List Dep.D} (h : Turned W W' lo hi) (hh : Dep.Held W A l lo' hi') : Dep.Held W' A l lo' hi' := by
  rcases hh with hh | ⟨g, rfl, hr, hlo, hg⟩
  · exact .inl hh
  · obtain ⟨row, hgr, hrow⟩ := h
    refine .inr ⟨g, rfl, hr.same (hgr.block g hr.lt fun e => ?_), hlo, hg⟩
    obtain ⟨_, _, cs, hc⟩ := hrow g e.symm
    obtain ⟨cs', hc', _⟩ := hr
    rw [hc'] at hc
    injection hc with hc
    injection hc with _ h2
    exact absurd h2 (by decide)
theorem blk_turned {W W' : World} {lo hi b t : Nat} {cs : Array Value} (h : Dep.Turned W W' lo hi) (hh : Blk W b t cs) (ht : t ≠ 80) : Blk W' b t cs := by
  obtain ⟨row, hg, hr⟩ := h
  refine (hg.block b hh.lt (fun e => ?_)).trans hh
  obtain ⟨_, _, cs, hc⟩ := hr b e.symm
  rw [show W.heap[b]? = _ from hh] at hc
  injection hc with hc
  injection hc with _ h2
  exact absurd h2 ht

def marks (k n : Nat) : List ByteArray := (List.range n).map fun j => markV (k + j)
def part (k : Nat) (l : List ByteArray) (j : Nat) : List ByteArray := marks k j ++ l.drop j
theorem part_len {k : Nat} {l : List ByteArray} {j : Nat} (h : j ≤ l.length) : (part k l j).length = l.length := by simp [part, marks]; omega
theorem part_step {k : Nat} {l : List ByteArray} {j : Nat} (h : j < l.length) : (part k l j).set j (markV (k + j)) = part k l (j + 1) := by
  unfold part
  rw [List.set_append_right _ _ (by simp [marks])]
  have e : j - (marks k j).length = 0 := by simp [marks]
  rw [e, List.drop_eq_getElem_cons h, List.set_cons_zero]
  simp [marks, List.range_succ]
theorem part_all {k : Nat} {l : List ByteArray} {j : Nat} (h : l.length = j) : part k l j = marks k l.length := by
  unfold part
  rw [List.drop_eq_nil_of_le (by omega), h, List.append_nil]

theorem ret_i64 {a b : Int} (h : a = b) : Ending.returned (.int .i64 a) = .returned (.int .i64 b) := by rw [h]

theorem markRow_any (g : Nat) (l : List ByteArray) (cap k : Nat) (w : World) (h : Row w g l) (hl : l.length ≤ 1048576) (hk : k ≤ 10000000) :
    Calls Try.prog 28 #[.slice (some ⟨g, 0, none⟩) l.length cap, .int .i64 k] w fun e w' => e = .returned (.int .i64 ((k + l.length : Nat) : Int)) ∧ Row w' g (marks k l.length) ∧ w.grownBy w' (some g) := by
  have H := Lib.hid h
  clear h
  go_enter Try.func28, Try.ntmps28
  go_wp2_with fail
  go_loopw [1, 5] (fun z i wr => ∃ j : Nat, j ≤ l.length ∧ i = .int .i64 j ∧ ∃ m : Nat, m ≤ 12000000 ∧ z = .int .i64 m ∧ Hid (m = k + j ∧ Row wr g (part k l j) ∧ w.grownBy wr (some g))) (fun _ i _ => l.length - (intOf i).toNat)
  case atStart => exact ⟨0, by omega, rfl, k, by omega, rfl, Lib.hid ⟨by omega, by simpa [part, marks] using H.out, World.grownBy.refl _ _⟩⟩
  case round =>
    obtain ⟨j, hj, rfl, m, hm, rfl, HR⟩ := hrel
    by_cases hlt : j < l.length
    · go_wp2_with fail
      refine (markText_any m _ (by omega)).mono ?_
      rintro x w1 ⟨rfl, hb1⟩
      have hr1 := HR.out.2.1.step hb1 HR.out.2.1.lt
      have HR1 := Lib.hid hr1
      have HG1 := Lib.hid (grown_trans HR.out.2.2 (grown_of_below (some g) hb1))
      obtain ⟨u0, e0⟩ := hr1.cell (j := j) (by rw [part_len hj]; exact hlt)
      have f0 := hr1.free j
      clear hr1 hb1
      obtain ⟨mv, hmv⟩ : ∃ mv, markV m = mv := ⟨_, rfl⟩
      have HMV := Lib.hid hmv
      rw [hmv]
      clear hmv
      go_wp2_with fail
      go_roundw
      case rel =>
        refine ⟨j + 1, by omega, by go_num, m + 1, by have := HR.out.1; omega, by go_num, Lib.hid ⟨by have := HR.out.1; omega, ?_, grown_trans HG1.out (grown_set _ _ _ _)⟩⟩
        have := HR1.out.put mv (k := j) (by rw [part_len hj]; exact hlt)
        rw [← HMV.out, HR.out.1, part_step hlt] at this
        rw [← HMV.out, HR.out.1]
        exact this
      case measure => simp [intOf]; omega
    · have hje : l.length = j := by omega
      have HF := Lib.hid (show m = k + l.length by have := HR.out.1; omega)
      have HP := Lib.hid (part_all (k := k) hje)
      clear hje
      go_wp2_with fail
      go_ret
      refine ⟨ret_i64 (by have := HF.out; omega), ?_, HR.out.2.2⟩
      have := HR.out.2.1
      rwa [HP.out] at this

theorem mark_any (A : Option Addr) (l : List ByteArray) (cap k lo hi : Nat) (w : World) (h : Held w A l lo hi) (hl : l.length ≤ 1048576) (hk : k ≤ 10000000) :
    Calls Try.prog 28 #[.slice A l.length cap, .int .i64 k] w fun e w' => e = .returned (.int .i64 ((k + l.length : Nat) : Int)) ∧ Held w' A (marks k l.length) lo hi ∧ Turned w w' lo hi := by
  rcases h with ⟨rfl, rfl⟩ | ⟨g, rfl, hr, hlo, hg⟩
  · go_enter Try.func28, Try.ntmps28
    go_wp2_with fail
    refine wp_loop_rounds 1 ?_
    rw [rounds_succ]
    go_wp2_with fail
    go_ret
    exact ⟨by simp, .inl ⟨rfl, rfl⟩, none, World.grownBy.refl _ _, fun g e => by cases e⟩
  · refine (markRow_any g l cap k w hr hl hk).mono ?_
    rintro e w' ⟨rfl, hr', hgr⟩
    refine ⟨rfl, .inr ⟨g, rfl, hr', hlo, hg⟩, some g, hgr, fun g' e => ?_⟩
    cases e
    obtain ⟨cs, hc, _⟩ := hr
    exact ⟨hlo, hg, cs, hc⟩

/-- A string stands, and nothing below is written. -/
abbrev OneS (w : World) (a : Addr) (x : ByteArray) (W : World) : Prop := W.cell? a = some (.string x) ∧ Below w.heap.size w W
theorem OneS.step {w W W' : World} {a : Addr} {x : ByteArray} (h : OneS w a x W) (hb : Below W.heap.size W W') : OneS w a x W' := ⟨Lib.Below.cellOf hb h.1 (Nat.le_refl _), h.2.trans (hb.mono h.2.size)⟩
theorem OneS.drew {w W : World} {a : Addr} {x : ByteArray} (h : OneS w a x W) : OneS w a x W.drew := ⟨h.1, h.2.drew⟩

theorem heldStringS_any (A : Option Addr) (n cap k : Nat) (w : World) (h : Lies w w.heap.size A (marks k n)) (hl : n ≤ 1048576) (hk : k ≤ 10000000) :
    Calls Try.prog 31 #[.slice A n cap, .int .i64 k] w fun e w' => e = .returned (.int .i64 ((k + n : Nat) : Int)) ∧ Below w.heap.size w w' := by
  have H := Lib.hid h
  clear h
  have hn : (marks k n).length = n := by simp [marks]
  have HN := Lib.hid hn
  clear hn
  go_enter Try.func31, Try.ntmps31
  go_wp2_with fail
  go_loopw [1, 5] (fun z i wr => ∃ j : Nat, j ≤ n ∧ i = .int .i64 j ∧ ∃ m : Nat, m ≤ 12000000 ∧ z = .int .i64 m ∧ Hid (m = k + j ∧ Below w.heap.size w wr)) (fun _ i _ => n - (intOf i).toNat)
  case atStart => exact ⟨0, by omega, rfl, k, by omega, rfl, Lib.hid ⟨by omega, Below.refl _ _⟩⟩
  case round =>
    obtain ⟨j, hj, rfl, m, hm, rfl, HR⟩ := hrel
    by_cases hlt : j < n
    · obtain ⟨ad, rfl, hb, c0⟩ := (H.out.below HR.out.2 (Nat.le_refl _)).at_ (k := j) (by rw [HN.out]; exact hlt)
      have hme : (marks k n)[j]'(by rw [HN.out]; exact hlt) = markV m := by simp [marks, HR.out.1]
      rw [hme] at c0
      obtain ⟨mv, hmv⟩ : ∃ mv, markV m = mv := ⟨_, rfl⟩
      have HMV := Lib.hid hmv
      rw [hmv] at c0
      have hst : OneS w (ad.add j) mv wr := ⟨c0, HR.out.2⟩
      have e0 := str_eq (rfl : mv = mv)
      clear hmv hme c0 hb
      go_wp2_with fail
      go_region_held3 (fun W => W.cell? (ad.add j) = some (.string mv) ∧ Below w.heap.size w W)
        (first | exact OneS.drew (by assumption) | exact OneS.step (by assumption) hb)
        (first | (go_at_call 53; refine (markText_any m _ (by omega)).mono ?_; rintro x w' ⟨rfl, hb⟩; rw [HMV.out]))
      have h2 : OneS w (ad.add j) mv w' := by assumption
      have HB1 := Lib.hid h2.2
      clear h2 hst
      go_wp2_with fail
      go_roundw
      case rel => exact ⟨j + 1, by omega, by go_num, m + 1, by have := HR.out.1; omega, by go_num, Lib.hid ⟨by have := HR.out.1; omega, HB1.out⟩⟩
      case measure => simp [intOf]; omega
    · have HF := Lib.hid (show m = k + n by have := HR.out.1; omega)
      go_wp2_with fail
      go_ret
      exact ⟨ret_i64 (by have := HF.out; omega), HR.out.2⟩
end Go.Proofs.Ytegnjbdgeibhfaa.Str

/-
  Two slices of deps compared: spec.l04SameDeps, slices.Equal.
-/
namespace Go.Proofs.Ytegnjbdgeibhfaa.Dep
open Go.ChangeShapes Go.WideShapes Go.ChangeAt Go.RowKit
set_option linter.unusedVariables false
set_option maxRecDepth 100000
set_option linter.unusedSimpArgs false

theorem drewN_under {w W : World} {n : Nat} (h : Below n w W) (k : Nat) : Below n w (W.drewN k) := ⟨h.os, h.tape, h.output, h.size, h.block⟩
noncomputable def alikeB (l m : List D) : Bool := @decide (l = m) (Classical.propDecidable _)
theorem alikeB_true {l m : List D} (h : l = m) : alikeB l m = true := by simp [alikeB, h]
theorem alikeB_false {l m : List D} (h : ¬ l = m) : alikeB l m = false := by simp [alikeB, h]
theorem alike_of {l m : List D} (h : alikeB l m = true) : l = m := by
  rcases Classical.em (l = m) with h1 | h1
  · exact h1
  · rw [alikeB_false h1] at h; cases h
theorem d_ext {x y : D} (h0 : x.k = y.k) (h1 : x.i.c = y.i.c) (h2 : x.i.s = y.i.s) (h3 : x.i.e = y.i.e) : x = y := by
  obtain ⟨k, ⟨c, s, e⟩⟩ := x; obtain ⟨k', ⟨c', s', e'⟩⟩ := y; simp only at h0 h1 h2 h3; subst h0 h1 h2 h3; rfl
theorem dep_ne {x y : D} (h : ¬ x = y) : ((x.k.toList == y.k.toList) = false) ∨ ((x.k.toList == y.k.toList) = true ∧ (x.i.c == y.i.c) = false) ∨ ((x.k.toList == y.k.toList) = true ∧ (x.i.c == y.i.c) = true ∧ (x.i.s == y.i.s) = false) ∨
    ((x.k.toList == y.k.toList) = true ∧ (x.i.c == y.i.c) = true ∧ (x.i.s == y.i.s) = true ∧ (x.i.e == y.i.e) = false) := by
  cases e0 : (x.k.toList == y.k.toList)
  · exact .inl rfl
  cases e1 : (x.i.c == y.i.c)
  · exact .inr (.inl ⟨rfl, rfl⟩)
  cases e2 : (x.i.s == y.i.s)
  · exact .inr (.inr (.inl ⟨rfl, rfl, rfl⟩))
  cases e3 : (x.i.e == y.i.e)
  · exact .inr (.inr (.inr ⟨rfl, rfl, rfl, rfl⟩))
  refine absurd (d_ext (list_eq ?_) (beq_iff_eq.1 e1) (beq_iff_eq.1 e2) (beq_iff_eq.1 e3)) h
  rw [← ByteArray.toList_eq, ← ByteArray.toList_eq]
  exact beq_iff_eq.1 e0

end Go.Proofs.Ytegnjbdgeibhfaa.Dep
