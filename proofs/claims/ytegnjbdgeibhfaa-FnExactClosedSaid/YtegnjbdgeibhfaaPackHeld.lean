/-
  Several texts in one: DepMark, DepHeld, DepMarkOut.
-/
import Derived.Test.YtegnjbdgeibhfaaPackPut
import Derived.Test.YtegnjbdgeibhfaaDepRight
import Derived.Deep.RegionHeld3
import Derived.Deep.DeepCutAuto
import Derived.Deep.QuietTactic
import Derived.Lib.SlBuf
import Derived.Lib.ItoaNum
/-
  The law's own marks: markText, markDepS, heldDepS.
-/
namespace Go.Proofs.Ytegnjbdgeibhfaa.Dep
open Go.ChangeShapes Go.WideShapes Go.ChangeAt Go.RowKit
set_option linter.unusedVariables false
set_option maxRecDepth 100000

/-- The digits of a number, ahead of what is there. -/
def digV (k : Nat) (s : ByteArray) : ByteArray := if h : k = 0 then s else digV (k / 10) (⟨#[UInt8.ofNat (48 + k % 10)]⟩ ++ s)
decreasing_by omega
def markV (k : Nat) : ByteArray := if k = 0 then ⟨#[109, 48]⟩ else ⟨#[109]⟩ ++ digV k ⟨#[]⟩
theorem dig_step {k : Nat} (h : k ≠ 0) (s : ByteArray) : digV k s = digV (k / 10) (⟨#[UInt8.ofNat (48 + k % 10)]⟩ ++ s) := by
  rw [digV, dif_neg h]
theorem dig_zero (s : ByteArray) : digV 0 s = s := by rw [digV, dif_pos rfl]

set_option maxHeartbeats 600000 in
theorem markText_any (k : Nat) (w : World) (hk : k ≤ 100000000) :
    Calls Try.prog 53 #[.int .i64 k] w fun e w' => e = .returned (.string (markV k)) ∧ Below w.heap.size w w' := by
  by_cases h0 : k = 0
  · subst h0
    go_enter Try.func53, Try.ntmps53
    go_wp2_with fail
    go_ret
    exact ⟨rfl, Below.refl _ _⟩
  · have h1 : ¬ (k : Int) ≤ 0 := by omega
    go_enter Try.func53, Try.ntmps53
    go_wp2_with fail
    go_loopw [0, 3] (fun i o wr => ∃ j : Nat, j ≤ k ∧ i = .int .i64 j ∧ ∃ s : ByteArray, o = .string s ∧ Hid (digV j s = digV k ⟨#[]⟩ ∧ s.size + j ≤ k ∧ Below w.heap.size w wr)) (fun i _ _ => (intOf i).toNat)
    case atStart => exact ⟨k, Nat.le_refl _, rfl, _, rfl, Lib.hid ⟨rfl, by show 0 + k ≤ k; omega, Below.refl _ _⟩⟩
    case round =>
      obtain ⟨j, hj, rfl, s, rfl, HR⟩ := hrel
      by_cases hj0 : j = 0
      · have hs := HR.out.2.1
        subst hj0
        go_wp2_with fail
        go_ret
        exact ⟨by unfold markV; rw [if_neg h0, ← HR.out.1, dig_zero]; rfl, HR.out.2.2⟩
      · have hj1 : (0 : Int) < j := by omega
        have hs : s.size ≤ 100000000 := by have := HR.out.2.1; omega
        have e1 : (j : Int).tmod 10 = ((j % 10 : Nat) : Int) := by rw [Int.tmod_eq_emod_of_nonneg (by omega)]; omega
        have e2 : (j : Int).tdiv 10 = ((j / 10 : Nat) : Int) := by rw [Int.tdiv_eq_ediv_of_nonneg (by omega)]; omega
        have e3 : ¬ ((j % 10 : Nat) : Int) < 0 := by omega
        have hcell : (wr.alloc (.cells #[.int .u8 (48 + (j : Int) % 10)] 5)).cell? ⟨wr.heap.size, 0, none⟩ = some (.int .u8 (48 + (j : Int) % 10)) := cell_of_row _ _ 0 _ 5 (0, 0) (heap_alloc_new wr _)
        have hd : ((UInt8.ofNat (48 + j % 10)).toNat : Int) = 48 + (j : Int) % 10 := by
          rw [UInt8.toNat_ofNat_of_lt' (by simp [UInt8.size]; omega)]; omega
        have hconv : (convert 96 9 (.slice (some ⟨wr.heap.size, 0, none⟩) 1 1)).run Try.prog (wr.alloc (.cells #[.int .u8 (48 + (j : Int) % 10)] 5)) = .ok (.string ⟨[UInt8.ofNat (48 + j % 10)].toArray⟩) (wr.alloc (.cells #[.int .u8 (48 + (j : Int) % 10)] 5)) := run_convert_bytes_back (P := Try.prog) (wr.alloc (.cells #[.int .u8 (48 + (j : Int) % 10)] 5)) 96 9 5 ⟨wr.heap.size, 0, none⟩ 1 [UInt8.ofNat (48 + j % 10)] Try.underlying96 Try.underlying5 Try.underlying9 (fun i hi => by
          obtain rfl : i = 0 := by simpa using hi
          exact hcell.trans (by rw [← hd]; rfl))
        have HS := Lib.hid (dig_step hj0 s)
        clear hcell hd
        have hd1 : (⟨[UInt8.ofNat (48 + j % 10)].toArray⟩ : ByteArray).size = 1 := rfl
        generalize (⟨[UInt8.ofNat (48 + j % 10)].toArray⟩ : ByteArray) = d at hconv HS hd1
        go_wp2_with fail
        go_roundw
        case rel => exact ⟨j / 10, by omega, by go_num, d ++ s, rfl, Lib.hid ⟨by rw [← HR.out.1, HS.out], by rw [ByteArray.size_append, hd1]; have := HR.out.2.1; omega, HR.out.2.2.alloc HR.out.2.2.size _⟩⟩
        case measure => simp [intOf]; omega

/-- Block g begins with these deps. -/
def Row (w : World) (g : Nat) (l : List D) : Prop :=
  ∃ cs : Array Value, w.heap[g]? = some (.cells cs 80 (0, 0)) ∧ l.length * 4 ≤ cs.size ∧
    ∀ j (h : j < l.length), cs[j * 4]? = some (.string l[j].k) ∧ cs[j * 4 + 1]? = some (.int .i64 l[j].i.c) ∧ cs[j * 4 + 2]? = some (.int .i64 l[j].i.s) ∧ cs[j * 4 + 3]? = some (.int .i64 l[j].i.e)
theorem Row.lt {w : World} {g : Nat} {l : List D} (h : Row w g l) : g < w.heap.size := by
  obtain ⟨cs, h, _⟩ := h
  exact (Array.getElem?_eq_some_iff.1 h).1
theorem Row.same {w w1 : World} {g : Nat} {l : List D} (h : Row w g l) (hb : w1.heap[g]? = w.heap[g]?) : Row w1 g l := by
  obtain ⟨cs, h, h2⟩ := h
  exact ⟨cs, hb.trans h, h2⟩
theorem Row.step {w w1 : World} {g N : Nat} {l : List D} (h : Row w g l) (hb : Below N w w1) (hlt : g < N) : Row w1 g l := h.same (hb.block g hlt)
theorem Row.free {w : World} {g : Nat} {l : List D} (h : Row w g l) (j : Nat) : w.frozen? ⟨g, j, none⟩ = false := by
  obtain ⟨cs, h, h2⟩ := h
  simp [World.frozen?, h]
theorem Row.cell {w : World} {g : Nat} {l : List D} (h : Row w g l) {j : Nat} (hj : j < l.length * 4) : ∃ u, w.cell? ⟨g, j, none⟩ = some u := by
  obtain ⟨cs, h, h2, _⟩ := h
  rw [cell_of_row w g j cs _ (0, 0) h]
  exact ⟨cs[j]'(by omega), Array.getElem?_eq_getElem (by omega)⟩
theorem Row.lies {w : World} {g B : Nat} {l : List D} (h : Row w g l) (hB : g < B) : Lies w B (some ⟨g, 0, none⟩) l := by
  intro h0
  obtain ⟨cs, h1, h2, h3⟩ := h
  refine ⟨_, rfl, hB, fun j hj => ?_⟩
  obtain ⟨a0, a1, a2, a3⟩ := h3 j hj
  have e : (Addr.add ⟨g, 0, none⟩ (j * 4)) = ⟨g, j * 4, none⟩ := by
    unfold Addr.add
    split
    · rename_i h; rw [h]
    · simp
  rw [e]
  exact ⟨(cell_of_row w g _ cs _ (0, 0) h1).trans a0, (cell_of_row w g _ cs _ (0, 0) h1).trans a1, (cell_of_row w g _ cs _ (0, 0) h1).trans a2, (cell_of_row w g _ cs _ (0, 0) h1).trans a3⟩
/-- Another dep in a place. -/
theorem Row.put {w : World} {g : Nat} {l : List D} (h : Row w g l) (d : D) {k : Nat} (hk : k < l.length) :
    Row ((((w.setCell ⟨g, k * 4, none⟩ (.string d.k)).setCell ⟨g, k * 4 + 1, none⟩ (.int .i64 d.i.c)).setCell ⟨g, k * 4 + 2, none⟩ (.int .i64 d.i.s)).setCell ⟨g, k * 4 + 3, none⟩ (.int .i64 d.i.e)) g (l.set k d) := by
  obtain ⟨cs, h1, h2, h3⟩ := h
  refine ⟨_, row_set (row_set (row_set (row_set h1 _ _) _ _) _ _) _ _, by simp; omega, fun j hj => ?_⟩
  rw [List.length_set] at hj
  by_cases e : j = k
  · subst e
    rw [List.getElem_set_self]
    refine ⟨?_, ?_, ?_, ?_⟩
    · rw [get_ne _ (by omega), get_ne _ (by omega), get_ne _ (by omega), get_eq _ (by omega)]
    · rw [get_ne _ (by omega), get_ne _ (by omega), get_eq _ (by simp; omega)]
    · rw [get_ne _ (by omega), get_eq _ (by simp; omega)]
    · rw [get_eq _ (by simp; omega)]
  · rw [List.getElem_set_ne (by omega)]
    obtain ⟨a0, a1, a2, a3⟩ := h3 j hj
    refine ⟨?_, ?_, ?_, ?_⟩
    · rw [get_ne _ (by omega), get_ne _ (by omega), get_ne _ (by omega), get_ne _ (by omega)]; exact a0
    · rw [get_ne _ (by omega), get_ne _ (by omega), get_ne _ (by omega), get_ne _ (by omega)]; exact a1
    · rw [get_ne _ (by omega), get_ne _ (by omega), get_ne _ (by omega), get_ne _ (by omega)]; exact a2
    · rw [get_ne _ (by omega), get_ne _ (by omega), get_ne _ (by omega), get_ne _ (by omega)]; exact a3
theorem Row.of_own {w : World} {g n : Nat} {l : List D} (h : Own w g n l) (hn : l.length ≤ n) : Row w g l := by
  obtain ⟨cs, h1, h2, h3⟩ := h
  exact ⟨cs, h1, by omega, h3⟩
theorem grown_trans {a b c : World} {row : Option Nat} (h1 : a.grownBy b row) (h2 : b.grownBy c row) : a.grownBy c row :=
  ⟨h2.os.trans h1.os, h2.tape.trans h1.tape, h2.output.trans h1.output, Nat.le_trans h1.size h2.size, fun k hk hne => (h2.block k (Nat.lt_of_lt_of_le hk h1.size) hne).trans (h1.block k hk hne)⟩
theorem grown_of_below {a b : World} (row : Option Nat) (h : Below a.heap.size a b) : a.grownBy b row := ⟨h.os, h.tape, h.output, h.size, fun k hk _ => h.block k hk⟩
theorem grown_set (a : World) (g j : Nat) (v : Value) : a.grownBy (a.setCell ⟨g, j, none⟩ v) (some g) :=
  ⟨rfl, rfl, rfl, by rw [World.size_setCell]; exact Nat.le_refl _, fun k _ hne => heap_setCell_other a _ k v (fun e => hne (by rw [e]))⟩

/-- The mark of place j. -/
def mk (k j : Nat) : D := ⟨markV (k + 4 * j), ⟨(k + 4 * j + 1 : Nat), (k + 4 * j + 2 : Nat), (k + 4 * j + 3 : Nat)⟩⟩
def marks (k n : Nat) : List D := (List.range n).map (mk k)
/-- The first ones are marked. -/
def part (k : Nat) (l : List D) (j : Nat) : List D := marks k j ++ l.drop j
theorem part_len {k : Nat} {l : List D} {j : Nat} (h : j ≤ l.length) : (part k l j).length = l.length := by simp [part, marks]; omega
theorem part_step {k : Nat} {l : List D} {j : Nat} (h : j < l.length) : (part k l j).set j (mk k j) = part k l (j + 1) := by
  unfold part
  rw [List.set_append_right _ _ (by simp [marks])]
  have e : j - (marks k j).length = 0 := by simp [marks]
  rw [e, List.drop_eq_getElem_cons h, List.set_cons_zero]
  unfold marks
  rw [List.range_succ, List.map_append]
  simp

set_option maxHeartbeats 1000000 in
set_option maxRecDepth 100000 in
theorem markDepS_any (g : Nat) (l : List D) (cap k : Nat) (w : World) (h : Row w g l) (hl : l.length ≤ 1048576) (hk : k ≤ 10000000) :
    Calls Try.prog 51 #[.slice (some ⟨g, 0, none⟩) l.length cap, .int .i64 k] w fun e w' => e = .returned (.int .i64 ((k + 4 * l.length : Nat) : Int)) ∧ Row w' g (marks k l.length) ∧ w.grownBy w' (some g) := by
  have H := Lib.hid h
  clear h
  go_enter Try.func51, Try.ntmps51
  go_wp2_with fail
  go_loopw [1, 5] (fun z i wr => ∃ j : Nat, j ≤ l.length ∧ i = .int .i64 j ∧ z = .int .i64 ((k + 4 * j : Nat) : Int) ∧ Hid (Row wr g (part k l j) ∧ w.grownBy wr (some g))) (fun _ i _ => l.length - (intOf i).toNat)
  case atStart => exact ⟨0, by omega, rfl, rfl, Lib.hid ⟨H.out, World.grownBy.refl w _⟩⟩
  case round =>
    obtain ⟨j, hj, rfl, rfl, HR⟩ := hrel
    by_cases hlt : j < l.length
    · have HC := Lib.hid (markText_any (k + 4 * j) wr (by omega))
      obtain ⟨q, hq⟩ : ∃ q, k + 4 * j = q := ⟨_, rfl⟩
      have HQ := Lib.hid hq
      rw [hq] at HC ⊢
      clear hq
      have hq2 : q ≤ 100000000 := by have := HQ.out; omega
      go_wp2_with fail
      refine HC.out.mono ?_
      rintro e w1 ⟨rfl, hb⟩
      have hR := HR.out.1.step hb HR.out.1.lt
      have HR1 := Lib.hid hR
      have HG1 := Lib.hid (grown_trans HR.out.2 (grown_of_below (some g) hb))
      have hpl := part_len (k := k) hj
      obtain ⟨u0, e0⟩ := hR.cell (j := j * 4) (by omega)
      obtain ⟨u1, e1⟩ := hR.cell (j := j * 4 + 1) (by omega)
      obtain ⟨u2, e2⟩ := hR.cell (j := j * 4 + 2) (by omega)
      obtain ⟨u3, e3⟩ := hR.cell (j := j * 4 + 3) (by omega)
      have f0 := hR.free (j * 4)
      have f1 := hR.free (j * 4 + 1)
      have f2 := hR.free (j * 4 + 2)
      have f3 := hR.free (j * 4 + 3)
      obtain ⟨mv, hmv⟩ : ∃ mv, markV q = mv := ⟨_, rfl⟩
      have HMV := Lib.hid hmv
      rw [hmv]
      have hpl2 := hpl
      clear hR hb hpl hmv
      go_wp2_with fail
      refine ⟨⟨j + 1, by omega, by go_num, ?_, Lib.hid ⟨?_, ?_⟩⟩, by simp [intOf]; omega⟩
      · have := HQ.out; congr 1; omega
      · have := HR1.out.put (mk k j) (k := j) (by omega)
        rw [part_step hlt] at this
        unfold mk at this
        rw [HQ.out, HMV.out] at this
        simp only [Int.natCast_add, Int.cast_ofNat_Int] at this
        have e1 : (q : Int) + 1 + 1 = q + 2 := by omega
        have e2 : (q : Int) + 2 + 1 = q + 3 := by omega
        rw [e1, e2]
        exact this
      · exact grown_trans (grown_trans (grown_trans (grown_trans HG1.out (grown_set _ _ _ _)) (grown_set _ _ _ _)) (grown_set _ _ _ _)) (grown_set _ _ _ _)
    · have e : j = l.length := by omega
      go_wp2_with fail
      go_ret
      refine ⟨by rw [e]; rfl, ?_, HR.out.2⟩
      have := HR.out.1
      unfold part at this
      rw [e, List.drop_length, List.append_nil] at this
      exact this

set_option maxHeartbeats 1000000 in
set_option maxRecDepth 100000 in
theorem heldDepS_any (A : Option Addr) (n cap k : Nat) (w : World) (h : Lies w w.heap.size A (marks k n)) (hl : n ≤ 1048576) (hk : k ≤ 10000000) :
    Calls Try.prog 54 #[.slice A n cap, .int .i64 k] w fun e w' => e = .returned (.int .i64 ((k + 4 * n : Nat) : Int)) ∧ Below w.heap.size w w' := by
  have H := Lib.hid h
  clear h
  have hml : (marks k n).length = n := by simp [marks]
  have hmj : ∀ j (h : j < (marks k n).length), (marks k n)[j] = mk k j := fun j h => by simp [marks]
  have HML := Lib.hid hml
  have HMJ := Lib.hid hmj
  clear hml hmj
  go_enter Try.func54, Try.ntmps54
  go_wp2_with fail
  go_loopw [1, 5] (fun z i wr => ∃ j : Nat, j ≤ n ∧ i = .int .i64 j ∧ z = .int .i64 ((k + 4 * j : Nat) : Int) ∧ Hid (Below w.heap.size w wr)) (fun _ i _ => n - (intOf i).toNat)
  case atStart => exact ⟨0, by omega, rfl, rfl, Lib.hid (Below.refl _ _)⟩
  case round =>
    obtain ⟨j, hj, rfl, rfl, HR⟩ := hrel
    by_cases hlt : j < n
    · have hjm : j < (marks k n).length := by rw [HML.out]; exact hlt
      obtain ⟨ad, rfl, _, hat⟩ := (H.out.below HR.out (Nat.le_refl _)).at_ hjm
      rw [HMJ.out j hjm] at hat
      clear hjm
      have HC := Lib.hid (fun W => markText_any (k + 4 * j) W (by omega))
      unfold mk at hat
      obtain ⟨q, hq⟩ : ∃ q, k + 4 * j = q := ⟨_, rfl⟩
      have HQ := Lib.hid hq
      rw [hq] at HC hat ⊢
      clear hq
      have hq2 : q ≤ 100000000 := by have := HQ.out; omega
      obtain ⟨mv, hmv⟩ : ∃ mv, markV q = mv := ⟨_, rfl⟩
      rw [hmv] at HC hat
      clear hmv
      have hst : One w (ad.add (j * 4)) ⟨mv, ⟨(q + 1 : Nat), (q + 2 : Nat), (q + 3 : Nat)⟩⟩ wr := ⟨hat, HR.out⟩
      simp only [Int.natCast_add, Int.cast_ofNat_Int] at hst
      have hee : (mv.toList == mv.toList) = true := beq_self_eq_true _
      clear hat
      go_upto_region 4 with fail
      go_region_held3 (fun W => At W (ad.add (j * 4)) ⟨mv, ⟨(q : Int) + 1, (q : Int) + 2, (q : Int) + 3⟩⟩ ∧ Below w.heap.size w W)
        (first | exact One.drew (by assumption) | exact One.step (by assumption) hb)
        (first | (go_at_call 53; refine (HC.out _).mono ?_; rintro x w' ⟨rfl, hb⟩))
      have hend : One w (ad.add (j * 4)) ⟨mv, ⟨(q : Int) + 1, (q : Int) + 2, (q : Int) + 3⟩⟩ w' := by assumption
      have HE := Lib.hid hend.2
      obtain ⟨c0, c1, c2, c3⟩ := hend.1
      clear hend hst
      go_wp2_with fail
      refine ⟨⟨j + 1, by omega, by go_num, ?_, HE⟩, by simp [intOf]; omega⟩
      have := HQ.out; congr 1; omega
    · have e : j = n := by omega
      go_wp2_with fail
      go_ret
      exact ⟨by rw [e]; rfl, HR.out⟩
end Go.Proofs.Ytegnjbdgeibhfaa.Dep

/-
  A list that a call handed back, with the blocks it lies in; the law's own marks on an answer.
-/
namespace Go.Proofs.Ytegnjbdgeibhfaa.Dep
open Go.ChangeShapes Go.WideShapes Go.ChangeAt Go.RowKit
set_option linter.unusedVariables false
set_option maxRecDepth 100000

/-- A list lies nowhere, being empty, or in a block from lo on, below hi. -/
def Held (W : World) (A : Option Addr) (l : List D) (lo hi : Nat) : Prop :=
  (A = none ∧ l = []) ∨ ∃ g, A = some ⟨g, 0, none⟩ ∧ Row W g l ∧ lo ≤ g ∧ g < hi
theorem Held.lies {W : World} {A : Option Addr} {l : List D} {lo hi B : Nat} (h : Held W A l lo hi) (hB : hi ≤ B) : Lies W B A l := by
  rcases h with ⟨rfl, rfl⟩ | ⟨g, rfl, hr, _, hg⟩
  · exact fun h0 => absurd h0 (by simp)
  · exact hr.lies (by omega)
theorem Held.keep {W W' : World} {A : Option Addr} {l : List D} {lo hi : Nat} (h : Held W A l lo hi) (hk : ∀ k, lo ≤ k → k < hi → k < W.heap.size → W'.heap[k]? = W.heap[k]?) : Held W' A l lo hi := by
  rcases h with h | ⟨g, rfl, hr, hlo, hg⟩
  · exact .inl h
  · exact .inr ⟨g, rfl, hr.same (hk g hlo hg hr.lt), hlo, hg⟩
theorem Held.step {W W' : World} {A : Option Addr} {l : List D} {lo hi N : Nat} (h : Held W A l lo hi) (hb : Below N W W') (hN : hi ≤ N ∨ W.heap.size ≤ N) : Held W' A l lo hi := h.keep fun k _ h2 h3 => hb.block k (by omega)
theorem Held.other {W W' : World} {A : Option Addr} {l : List D} {lo hi g : Nat} (h : Held W A l lo hi) (hg : W.grownBy W' (some g)) (hne : g < lo ∨ hi ≤ g) : Held W' A l lo hi :=
  h.keep fun k h1 h2 h3 => hg.block k h3 (fun e => by cases e; omega)
theorem Held.none {W W' : World} {A : Option Addr} {l : List D} {lo hi : Nat} (h : Held W A l lo hi) (hg : W.grownBy W' none) : Held W' A l lo hi :=
  h.keep fun k h1 h2 h3 => hg.block k h3 (fun e => by cases e)
theorem Held.wide {W : World} {A : Option Addr} {l : List D} {lo hi lo' hi' : Nat} (h : Held W A l lo hi) (hl : lo' ≤ lo) (hh : hi ≤ hi') : Held W A l lo' hi' :=
  h.imp id fun ⟨g, e, hr, h1, h2⟩ => ⟨g, e, hr, by omega, by omega⟩
theorem Held.of_own {W : World} {A : Option Addr} {l : List D} {base n cap : Nat} (h : W.ownsRow base 80 4 (slV A l cap) n (flat l)) : Held W A l base W.heap.size := by
  have hn : n = l.length := (own_lies h).1
  rcases h.2 with ⟨e, h0⟩ | ⟨g, cap', cur, e, hb, hh, hnc, hcm, hsz, hx⟩
  · unfold slV at e
    injection e with e1 e2 e3
    exact .inl ⟨e1, List.eq_nil_of_length_eq_zero e2⟩
  · unfold slV at e
    injection e with e1 e2 e3
    subst e1
    refine .inr ⟨g, rfl, ⟨cur, hh, by rw [hsz]; omega, fun j hj => ?_⟩, hb, (Array.getElem?_eq_some_iff.1 hh).1⟩
    have key : ∀ r u, r < l.length * 4 → (flat l)[r]? = some u → cur[r]? = some u := fun r u hr hu => by
      rw [← Array.getElem?_toList]
      rw [← hx, hn, List.getElem?_take, if_pos hr] at hu
      exact hu
    obtain ⟨g0, g1, g2, g3⟩ := flat_at hj
    exact ⟨key (j * 4) _ (by omega) g0, key (j * 4 + 1) _ (by omega) g1, key (j * 4 + 2) _ (by omega) g2, key (j * 4 + 3) _ (by omega) g3⟩
theorem Held.of_row {W : World} {g n : Nat} {l : List D} (h : Own W g n l) (hn : l.length ≤ n) {lo : Nat} (hlo : lo ≤ g) : Held W (some ⟨g, 0, Option.none⟩) l lo W.heap.size :=
  .inr ⟨g, rfl, Row.of_own h hn, hlo, h.lt⟩

/-- What a call answered, in its own terms. -/
theorem Answers.held {w w' : World} {e : Ending} {r : List D} {c : Int} (h : Answers w e w' r c) : ∃ A cap, e = .returned (outV (.slice A r.length cap) c) ∧ Held w' A r w.heap.size w'.heap.size ∧ r.length ≤ cap ∧ Below w.heap.size w w' := by
  obtain ⟨A, cap, rfl, ho, hc, hL, hb⟩ := h
  exact ⟨A, cap, rfl, Held.of_own ho, hc, hb⟩

/-- What a mark leaves: the list is marked, and nothing else has turned. -/
theorem markHeld_any (A : Option Addr) (l : List D) (cap k lo hi : Nat) (w : World) (h : Held w A l lo hi) (hl : l.length ≤ 1048576) (hk : k ≤ 10000000) :
    Calls Try.prog 51 #[.slice A l.length cap, .int .i64 k] w fun e w' => e = .returned (.int .i64 ((k + 4 * l.length : Nat) : Int)) ∧ Held w' A (marks k l.length) lo hi ∧
      ∃ row, w.grownBy w' row ∧ ∀ g, row = some g → lo ≤ g ∧ g < hi ∧ ∃ cs, w.heap[g]? = some (.cells cs 80 (0, 0)) := by
  rcases h with ⟨rfl, rfl⟩ | ⟨g, rfl, hr, hlo, hhi⟩
  · simp only [List.length_nil, Nat.mul_zero, Nat.add_zero]
    go_enter Try.func51, Try.ntmps51
    go_wp2_with fail
    go_loopw [1, 5] (fun z i wr => z = .int .i64 (k : Int) ∧ i = .int .i64 0 ∧ Hid (wr = w)) (fun _ _ _ => 0)
    case atStart => exact ⟨rfl, rfl, Lib.hid rfl⟩
    case round =>
      obtain ⟨rfl, rfl, HW⟩ := hrel
      go_wp2_with fail
      go_ret
      refine ⟨rfl, .inl ⟨rfl, rfl⟩, none, ?_, fun g e => by cases e⟩
      rw [HW.out]
      exact World.grownBy.refl w _
  · refine (markDepS_any g l cap k w hr hl hk).mono ?_
    rintro e w' ⟨rfl, hr', hg⟩
    obtain ⟨cs, hcs, _⟩ := hr
    refine ⟨rfl, .inr ⟨g, rfl, hr', hlo, hhi⟩, some g, hg, fun g' e => ?_⟩
    cases e
    exact ⟨hlo, hhi, cs, hcs⟩
end Go.Proofs.Ytegnjbdgeibhfaa.Dep

/-
  The law's own marks on an answer: markDepsOut, heldDepsOut; what a mark leaves of the rest.
-/
namespace Go.Proofs.Ytegnjbdgeibhfaa.Dep
open Go.ChangeShapes Go.WideShapes Go.ChangeAt Go.RowKit
set_option linter.unusedVariables false
set_option maxRecDepth 100000

/-- Nothing has turned but new blocks, and one block of deps from lo on, below hi. -/
def Turned (W W' : World) (lo hi : Nat) : Prop := ∃ row, W.grownBy W' row ∧ ∀ g, row = some g → lo ≤ g ∧ g < hi ∧ ∃ cs, W.heap[g]? = some (.cells cs 80 (0, 0))
theorem Turned.size {W W' : World} {lo hi : Nat} (h : Turned W W' lo hi) : W.heap.size ≤ W'.heap.size := by obtain ⟨row, hg, _⟩ := h; exact hg.size
theorem Turned.held {W W' : World} {lo hi lo' hi' : Nat} {A : Option Addr} {l : List D} (h : Turned W W' lo hi) (hh : Held W A l lo' hi') (hd : hi' ≤ lo ∨ hi ≤ lo') : Held W' A l lo' hi' := by
  obtain ⟨row, hg, hr⟩ := h
  exact hh.keep fun k h1 h2 h3 => hg.block k h3 (fun e => by have := hr k e.symm; omega)
theorem Turned.orow {W W' : World} {lo hi b : Nat} {s : Value} {c : Int} (h : Turned W W' lo hi) (hh : ORow W b s c) : ORow W' b s c := by
  obtain ⟨row, hg, hr⟩ := h
  refine (hg.block b hh.lt (fun e => ?_)).trans hh
  obtain ⟨_, _, cs, hc⟩ := hr b e.symm
  rw [show W.heap[b]? = _ from hh] at hc
  cases hc
theorem Turned.idrow {W W' : World} {lo hi b : Nat} {x y z : Int} {t : Nat} (h : Turned W W' lo hi) (hh : Id.IdRow W b t x y z) (ht : t ≠ 80) : Id.IdRow W' b t x y z := by
  obtain ⟨row, hg, hr⟩ := h
  refine (hg.block b hh.lt (fun e => ?_)).trans hh
  obtain ⟨_, _, cs, hc⟩ := hr b e.symm
  rw [show W.heap[b]? = _ from hh] at hc
  injection hc with hc
  injection hc with _ h2
  exact absurd h2 ht
theorem Turned.below {w W W' : World} {lo hi : Nat} (h : Turned W W' lo hi) (hb : Below w.heap.size w W) (hlo : w.heap.size ≤ lo) : Below w.heap.size w W' := by
  obtain ⟨row, hg, hr⟩ := h
  exact hb.grown hg hb.size (fun k e => by have := hr k e; omega)
theorem turned_pre {W W1 W' : World} {lo hi : Nat} (hb : Below W.heap.size W W1) (hhi : hi ≤ W.heap.size) (h : Turned W1 W' lo hi) : Turned W W' lo hi := by
  obtain ⟨row, hg, hr⟩ := h
  refine ⟨row, grown_trans (grown_of_below row hb) hg, fun g e => ?_⟩
  obtain ⟨h1, h2, cs, hc⟩ := hr g e
  exact ⟨h1, h2, cs, by rw [← hb.block g (by omega)]; exact hc⟩

theorem mark_any (A : Option Addr) (l : List D) (cap k lo hi : Nat) (w : World) (h : Held w A l lo hi) (hl : l.length ≤ 1048576) (hk : k ≤ 10000000) :
    Calls Try.prog 51 #[.slice A l.length cap, .int .i64 k] w fun e w' => e = .returned (.int .i64 ((k + 4 * l.length : Nat) : Int)) ∧ Held w' A (marks k l.length) lo hi ∧ Turned w w' lo hi := markHeld_any A l cap k lo hi w h hl hk

theorem joinR_len (a b : List D) : (joinR a b).length ≤ 6 := by
  unfold joinR
  by_cases h : joinC a b = 0
  · rw [if_pos h]
    unfold joinC at h
    by_cases h1 : 400 < a.length ∨ 400 < b.length
    · rw [if_pos h1] at h; omega
    · rw [if_neg h1] at h
      by_cases h2 : depsB a = true ∧ depsB b = true
      · rw [if_pos h2] at h
        by_cases h3 : 6 < (joinV a b).length
        · rw [if_pos h3] at h; omega
        · omega
      · rw [if_neg h2] at h; omega
  · rw [if_neg h]; simp
theorem putR_len (l : List D) (q : ByteArray) (x : I) : (putR l q x).length ≤ 6 := by
  unfold putR
  by_cases h : putC l q x = 0
  · rw [if_pos h]
    unfold putC at h
    by_cases h1 : 400 < l.length ∨ 8000 < q.size
    · rw [if_pos h1] at h; omega
    · rw [if_neg h1] at h
      by_cases h2 : depsB l = true ∧ Key.keyB q = true ∧ x.right = true
      · rw [if_pos h2] at h
        by_cases h3 : 6 < (putV l q x).length
        · rw [if_pos h3] at h; omega
        · omega
      · rw [if_neg h2] at h; omega
  · rw [if_neg h]; simp
end Go.Proofs.Ytegnjbdgeibhfaa.Dep
