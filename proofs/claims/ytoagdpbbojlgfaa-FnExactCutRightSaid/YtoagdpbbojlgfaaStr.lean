/-
  Slices of strings: what they read as; the law's own toStringS, szStringS, eqStringS.
-/
import Derived.Test.YtoagdpbbojlgfaaPackDep
import Derived.Deep.Slices
import Derived.ChangeArms
namespace Go.Proofs.Ytoagdpbbojlgfaa.Str
open Go.ChangeShapes Go.WideShapes Go.ChangeAt Go.RowKit
open Dep (add_block add_add row_set get_ne get_eq list_eq)
set_option linter.unusedVariables false
set_option maxRecDepth 100000
set_option linter.unusedSimpArgs false

/-- A slice's address and what it reads as; it lies below block B. -/
def Lies (w : World) (B : Nat) (A : Option Addr) (l : List ByteArray) : Prop :=
  0 < l.length → ∃ ad, A = some ad ∧ ad.block < B ∧ ∀ j (h : j < l.length), w.cell? (ad.add j) = some (.string l[j])
/-- A slice of strings. -/
def slV (A : Option Addr) (l : List ByteArray) (cap : Nat) : Value := .slice A l.length cap

theorem Lies.keep {w w' : World} {B : Nat} {A : Option Addr} {l : List ByteArray} (h : Lies w B A l) (hk : ∀ p : Addr, p.block < B → w'.cell? p = w.cell? p) : Lies w' B A l := fun h0 => by
  obtain ⟨ad, e, hb, hc⟩ := h h0
  exact ⟨ad, e, hb, fun j hj => (hk _ (by rw [add_block]; exact hb)).trans (hc j hj)⟩
theorem Lies.more {w : World} {B B' : Nat} {A : Option Addr} {l : List ByteArray} (h : Lies w B A l) (hB : B ≤ B') : Lies w B' A l := fun h0 => by
  obtain ⟨ad, e, hb, hc⟩ := h h0
  exact ⟨ad, e, by omega, hc⟩
theorem Lies.below {w w' : World} {B N : Nat} {A : Option Addr} {l : List ByteArray} (h : Lies w B A l) (hb : Below N w w') (hN : B ≤ N) : Lies w' B A l := h.keep fun p hp => hb.cell (by omega)
theorem Lies.on {w w' : World} {A : Option Addr} {l : List ByteArray} (h : Lies w w.heap.size A l) (hb : Below w.heap.size w w') : Lies w' w'.heap.size A l := (h.below hb (Nat.le_refl _)).more hb.size
theorem Lies.at_ {w : World} {B : Nat} {A : Option Addr} {l : List ByteArray} {k : Nat} (h : Lies w B A l) (hk : k < l.length) : ∃ ad, A = some ad ∧ ad.block < B ∧ w.cell? (ad.add k) = some (.string l[k]) := by
  obtain ⟨ad, e, hb, hc⟩ := h (by omega)
  exact ⟨ad, e, hb, hc k hk⟩

/-- Block g is a row of n strings, the first of which are l. -/
def Own (w : World) (g n : Nat) (l : List ByteArray) : Prop :=
  ∃ cs : Array Value, w.heap[g]? = some (.cells cs 9 (0, 0)) ∧ cs.size = n ∧ ∀ j (h : j < l.length), cs[j]? = some (.string l[j])
theorem Own.lt {w : World} {g n : Nat} {l : List ByteArray} (h : Own w g n l) : g < w.heap.size := by
  obtain ⟨cs, h, _⟩ := h
  exact (Array.getElem?_eq_some_iff.1 h).1
theorem Own.step {w w1 : World} {g n N : Nat} {l : List ByteArray} (h : Own w g n l) (hb : Below N w w1) (hlt : g < N) : Own w1 g n l := by
  obtain ⟨cs, h, h2⟩ := h
  exact ⟨cs, (hb.block g hlt).trans h, h2⟩
theorem Own.free {w : World} {g n : Nat} {l : List ByteArray} (h : Own w g n l) (j : Nat) : w.frozen? ⟨g, j, none⟩ = false := by
  obtain ⟨cs, h, h2⟩ := h
  simp [World.frozen?, h]
theorem Own.cell {w : World} {g n : Nat} {l : List ByteArray} (h : Own w g n l) {j : Nat} (hj : j < n) : ∃ u, w.cell? ⟨g, j, none⟩ = some u := by
  obtain ⟨cs, h, h2, _⟩ := h
  rw [cell_of_row w g j cs _ (0, 0) h]
  exact ⟨cs[j]'(by omega), Array.getElem?_eq_getElem (by omega)⟩
/-- One string more. -/
theorem Own.put {w : World} {g n : Nat} {l : List ByteArray} (h : Own w g n l) (d : ByteArray) (hn : l.length < n) {k : Nat} (hk : l.length = k) : Own (w.setCell ⟨g, k, none⟩ (.string d)) g n (l ++ [d]) := by
  obtain ⟨cs, h1, h2, h3⟩ := h
  refine ⟨_, row_set h1 _ _, by simp [h2], fun j hj => ?_⟩
  rw [List.length_append, List.length_singleton] at hj
  by_cases e : j = k
  · subst e
    have e1 : (l ++ [d])[j] = d := by simp [← hk]
    rw [e1]
    exact get_eq _ (by omega)
  · have hjl : j < l.length := by omega
    rw [List.getElem_append_left hjl, get_ne _ (by omega)]
    exact h3 j hjl
/-- A row of one's own reads as what it holds. -/
theorem Own.lies {w : World} {g n B : Nat} {l : List ByteArray} (h : Own w g n l) (hB : g < B) : Lies w B (some ⟨g, 0, none⟩) l := by
  intro h0
  obtain ⟨cs, h1, h2, h3⟩ := h
  refine ⟨_, rfl, hB, fun j hj => ?_⟩
  have e : (Addr.add ⟨g, 0, none⟩ j) = ⟨g, j, none⟩ := by
    unfold Addr.add
    split
    · rename_i h; rw [h]
    · simp
  rw [e]
  exact (cell_of_row w g _ cs _ (0, 0) h1).trans (h3 j hj)

theorem str_info : (Try.prog.info? 9).map (fun i => (i.zero, i.size, i.bytes)) = some (some (.string ⟨#[]⟩), 1, 16) := by kernel_rfl
theorem Own.new (w : World) (z : Array Value) (n : Nat) : Own (w.alloc (.cells (madeCells z n) 9)) w.heap.size n [] :=
  ⟨_, heap_alloc_new w _, size_madeCells _ _, fun j h => absurd h (by simp)⟩

theorem toStringS_any (A : Option Addr) (l : List ByteArray) (cap : Nat) (w : World) (h : Lies w w.heap.size A l) (hl : l.length ≤ 1048576) :
    Calls Try.prog 50 #[slV A l cap] w fun x w' => ∃ g, x = .returned (.slice (some ⟨g, 0, none⟩) l.length l.length) ∧ w.heap.size ≤ g ∧ Own w' g l.length l ∧ Below w.heap.size w w' := by
  unfold slV
  have H := Lib.hid h
  clear h
  obtain ⟨i0, hi0, hz0, hz1, hz2⟩ := info_parts str_info
  have hmk := run_make (P := Try.prog) w 45 9 i0 _ Try.underlying45 hi0 hz0 .i64 .i64 l.length l.length (by omega) (Int.le_refl _) (by rw [hz2]; omega) (by omega)
  rw [hz1] at hmk
  clear hi0 hz0 hz1 hz2
  go_enter Try.func50, Try.ntmps50
  go_wp2_with fail
  rw [Int.toNat_natCast] at hmk
  have HO := Lib.hid (Own.new w #[Value.string ⟨#[]⟩] l.length)
  generalize hg : w.heap.size = g at *
  go_loopw [4] (fun i wr => ∃ k : Nat, k ≤ l.length ∧ i = .int .i64 k ∧ Hid (Own wr g l.length (l.take k) ∧ Below g w wr)) (fun i _ => l.length - (intOf i).toNat)
  case atStart => exact ⟨0, by omega, rfl, Lib.hid ⟨HO.out, (Below.refl _ _).alloc (by omega) _⟩⟩
  case round =>
    obtain ⟨k, hk, rfl, HR⟩ := hrel
    by_cases hlt : k < l.length
    · obtain ⟨ad, rfl, hb, c0⟩ := (H.out.below HR.out.2 (Nat.le_refl _)).at_ hlt
      obtain ⟨u0, e0⟩ := HR.out.1.cell (j := k) hlt
      have f0 := HR.out.1.free k
      go_wp2_with fail
      go_roundw
      case rel =>
        refine ⟨k + 1, by omega, by go_num, Lib.hid ⟨?_, ?_⟩⟩
        · rw [show l.take (k + 1) = l.take k ++ [l[k]] by simp]
          exact HR.out.1.put l[k] (by rw [List.length_take]; omega) (by rw [List.length_take]; omega)
        · exact HR.out.2.setCell (Nat.le_refl _) _
      case measure => simp [intOf]; omega
    · go_wp2_with fail
      go_ret
      refine ⟨g, rfl, by omega, ?_, hg ▸ HR.out.2⟩
      have := HR.out.1
      rwa [List.take_of_length_le (by omega)] at this

theorem szStringS_any (A : Option Addr) (l : List ByteArray) (cap : Nat) (n : Int) (w : World) (h : Lies w w.heap.size A l) (hl : l.length ≤ maxLen) (hk : ∀ d ∈ l, d.size ≤ maxLen) (h0 : 0 ≤ n) (h1 : n ≤ 1048576) :
    Calls Try.prog 47 #[slV A l cap, .int .i64 n] w fun x w' => ∃ r : Int, x = .returned (.int .i64 r) ∧ (r = -1 ∨ (0 ≤ r ∧ r ≤ n ∧ (l.length : Int) ≤ n ∧ ∀ d ∈ l, (d.size : Int) ≤ n)) ∧ w = w' := by
  have hl2 := hl
  unfold maxLen at hl2
  unfold slV
  have H := Lib.hid h
  have HK := Lib.hid hk
  clear h hk
  by_cases hn : n < l.length
  · go_enter Try.func47, Try.ntmps47
    go_wp2_with fail
    go_ret
    exact ⟨-1, rfl, .inl rfl, rfl⟩
  · go_enter Try.func47, Try.ntmps47
    go_wp2_with fail
    go_loop [1, 5] (fun z i => ∃ k : Nat, k ≤ l.length ∧ i = .int .i64 k ∧ ∃ m : Int, 0 ≤ m ∧ m ≤ n ∧ z = .int .i64 m ∧ Hid (∀ j (hj : j < l.length), j < k → (l[j].size : Int) ≤ n)) (fun _ i => l.length - (intOf i).toNat)
    case atStart => exact ⟨0, by omega, rfl, n - l.length, by omega, by omega, rfl, Lib.hid fun j hj hjk => absurd hjk (by omega)⟩
    case round =>
      obtain ⟨k, hk, rfl, m, hm0, hm1, rfl, HR⟩ := hrel
      by_cases hlt : k < l.length
      · obtain ⟨ad, rfl, hb, c0⟩ := H.out.at_ hlt
        have hks := HK.out l[k] (List.getElem_mem hlt)
        unfold maxLen at hks
        by_cases hs : m < (l[k].size : Int)
        · go_wp2_with fail
          go_ret
          exact ⟨-1, rfl, .inl rfl, rfl⟩
        · have hs0 : ¬ m - (l[k].size : Int) < 0 := by omega
          go_wp2_with fail
          go_round
          case rel =>
            exact ⟨k + 1, by omega, by go_num, m - l[k].size, by omega, by omega, rfl, Lib.hid fun j hj hjk => by
              by_cases e : j = k
              · subst e; omega
              · exact HR.out j hj (by omega)⟩
          case measure => simp [intOf]; omega
      · go_wp2_with fail
        go_ret
        refine ⟨m, rfl, .inr ⟨hm0, hm1, fun d hd => ?_⟩, rfl⟩
        obtain ⟨j, hj, rfl⟩ := List.getElem_of_mem hd
        exact HR.out j hj (by omega)
end Go.Proofs.Ytoagdpbbojlgfaa.Str
