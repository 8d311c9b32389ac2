/-
  Several texts in one: RecDel, RecDel2, RecINeeds, RecMark.
-/
import Derived.Test.YtegnjbdgeibhfaaRecIRight
import Derived.Test.YtegnjbdgeibhfaaPackHeld
import Derived.Lib.SliceRun
import Derived.Test.YtegnjbdgeibhfaaRecBox
/-
  slices.IndexFunc, slices.DeleteFunc at deps, the question being whether a dep's key is the record's; impl.Needs.
-/
namespace Go.Proofs.Ytegnjbdgeibhfaa.Rec
open Go.ChangeShapes Go.WideShapes Go.ChangeAt Go.RowKit
open Dep (D I putV flat joinV depsB clockV)
set_option linter.unusedVariables false
set_option maxRecDepth 100000
set_option linter.unusedSimpArgs false

/-- The question: is that the record's key? -/
theorem ask_any (y : D) (r : R) (p : P) (b : Nat) (w : World) (hb : Blk w b 61 (cellsV r p)) :
    Calls Try.prog 76 #[y.val, .pointer (some ⟨b, 0, none⟩)] w fun e w' => e = .returned (.bool (y.k.toList == r.k.toList)) ∧ Below w.heap.size w w' := by
  have HX := Lib.hid (hb.alloc (.cells #[.string y.k, .int .i64 y.i.c, .int .i64 y.i.s, .int .i64 y.i.e] 80))
  have HB := Lib.hid ((Below.refl w.heap.size w).alloc (Nat.le_refl _) (.cells #[.string y.k, .int .i64 y.i.c, .int .i64 y.i.s, .int .i64 y.i.e] 80))
  clear hb
  obtain ⟨x0, x1, x2, x3, x4, x5, x6, x7⟩ := cells8 HX.out
  unfold Dep.D.val
  go_enter Try.func76, Try.ntmps76
  go_wp2_with fail
  go_ret
  exact ⟨rfl, HB.out⟩

set_option maxHeartbeats 2000000 in
theorem indexFunc_any (A : Option Addr) (l : List D) (cap : Nat) (r : R) (p : P) (b : Nat) (w : World) (h : Dep.Lies w w.heap.size A l) (hl : l.length ≤ 1000000) (hb : Blk w b 61 (cellsV r p)) :
    Calls Try.prog 101 #[Dep.slV A l cap, .func (.func 76) #[] #[.pointer (some ⟨b, 0, none⟩)]] w fun e w' =>
      (∃ n : Int, e = .returned (.int .i64 n) ∧ ((n = -1 ∧ ∀ d ∈ l, ¬ d.k = r.k) ∨ ∃ k : Nat, n = k ∧ ∃ hk : k < l.length, l[k].k = r.k ∧ ∀ j (hj : j < l.length), j < k → ¬ l[j].k = r.k)) ∧ Below w.heap.size w w' := by
  have H := Lib.hid h
  have HX := Lib.hid hb
  clear h hb
  unfold Dep.slV
  go_enter Try.func101, Try.ntmps101
  go_wp2_with fail
  go_loopw [8] (fun i wr => ∃ k : Nat, k ≤ l.length ∧ i = .int .i64 k ∧ Hid ((∀ j (hj : j < l.length), j < k → ¬ l[j].k = r.k) ∧ Below w.heap.size w wr)) (fun i _ => l.length - (intOf i).toNat)
  case atStart => exact ⟨0, by omega, rfl, Lib.hid ⟨fun j hj hjk => absurd hjk (by omega), Below.refl _ _⟩⟩
  case round =>
    obtain ⟨k, hk, rfl, HR⟩ := hrel
    by_cases hlt : k < l.length
    · obtain ⟨ad, rfl, _, c0, c1, c2, c3⟩ := (H.out.below HR.out.2 (Nat.le_refl _)).at_ hlt
      obtain ⟨y, hy⟩ : ∃ y, l[k] = y := ⟨_, rfl⟩
      have HY := Lib.hid hy
      rw [hy] at c0 c1 c2 c3
      clear hy
      have HA := Lib.hid (ask_any y r p b wr (HX.out.step HR.out.2 HX.out.lt))
      unfold Dep.D.val at HA
      by_cases he : y.k = r.k
      · have HE := Lib.hid he
        rw [Str.str_eq he] at HA
        clear he
        go_wp2_with fail
        refine HA.out.mono ?_
        rintro e w1 ⟨rfl, hb1⟩
        have HB := Lib.hid (HR.out.2.trans (hb1.mono HR.out.2.size))
        clear hb1 c0 c1 c2 c3
        go_wp2_with fail
        go_ret
        exact ⟨⟨k, rfl, .inr ⟨k, rfl, hlt, by rw [HY.out]; exact HE.out, HR.out.1⟩⟩, HB.out⟩
      · have HE := Lib.hid he
        rw [Str.str_ne he] at HA
        clear he
        go_wp2_with fail
        refine HA.out.mono ?_
        rintro e w1 ⟨rfl, hb1⟩
        have HB := Lib.hid (HR.out.2.trans (hb1.mono HR.out.2.size))
        clear hb1 c0 c1 c2 c3
        go_wp2_with fail
        go_roundw
        case rel =>
          refine ⟨k + 1, by omega, by go_num, Lib.hid ⟨fun j hj hjk => ?_, HB.out⟩⟩
          by_cases e : j = k
          · subst e; rw [HY.out]; exact HE.out
          · exact HR.out.1 j hj (by omega)
        case measure => simp [intOf]; omega
    · have HF := Lib.hid (show ∀ d ∈ l, ¬ d.k = r.k from fun d hd => by
        obtain ⟨j, hj, rfl⟩ := List.getElem_of_mem hd
        exact HR.out.1 j hj (by omega))
      go_wp2_with fail
      go_ret
      exact ⟨⟨-1, rfl, .inl ⟨rfl, HF.out⟩⟩, HR.out.2⟩
end Go.Proofs.Ytegnjbdgeibhfaa.Rec

/-
  slices.DeleteFunc at deps of one's own, the question being whether a dep's key is the record's.
-/
namespace Go.Proofs.Ytegnjbdgeibhfaa.Rec
open Go.ChangeShapes Go.WideShapes Go.ChangeAt Go.RowKit
open Dep (D I putV flat joinV depsB clockV)
set_option linter.unusedVariables false
set_option maxRecDepth 100000
set_option linter.unusedSimpArgs false

theorem touch_cells (g : Nat) : ∀ (vs : List Value) (o : Nat) (w : World), Touch g w (w.setCells g o vs)
  | [], _, w => Touch.refl g w
  | v :: r, o, w => by
    have h1 := (Touch.refl g w).set o v
    have h2 := touch_cells g r (o + 1) (w.setCell ⟨g, o, none⟩ v)
    exact ⟨h2.os.trans h1.os, h2.tape.trans h1.tape, h2.output.trans h1.output, h2.size.trans h1.size, fun k hk => (h2.block k hk).trans (h1.block k hk)⟩

/-- What is kept of the first j. -/
def kept (l : List D) (q : ByteArray) (j : Nat) : List D := (l.take j).filter fun d => !decide (d.k = q)
theorem kept_skip {l : List D} {q : ByteArray} {j : Nat} (h : j < l.length) (e : l[j].k = q) : kept l q (j + 1) = kept l q j := by
  unfold kept
  rw [show l.take (j + 1) = l.take j ++ [l[j]] by simp, List.filter_append]
  simp [e]
theorem kept_keep {l : List D} {q : ByteArray} {j : Nat} (h : j < l.length) (e : ¬ l[j].k = q) : kept l q (j + 1) = kept l q j ++ [l[j]] := by
  unfold kept
  rw [show l.take (j + 1) = l.take j ++ [l[j]] by simp, List.filter_append]
  simp [e]
theorem kept_all {l : List D} {q : ByteArray} : kept l q l.length = l.filter fun d => !decide (d.k = q) := by unfold kept; rw [List.take_length]
theorem kept_first {l : List D} {q : ByteArray} {k : Nat} (hk : k < l.length) (h : ∀ j (hj : j < l.length), j < k → ¬ l[j].k = q) : kept l q k = l.take k := by
  unfold kept
  rw [List.filter_eq_self]
  intro d hd
  obtain ⟨j, hj, rfl⟩ := List.getElem_of_mem hd
  have hjk : j < k := by rw [List.length_take] at hj; omega
  rw [List.getElem_take]
  simpa using h j (by omega) hjk
/-- How far the row has been gone through. -/
structure Going (w : World) (g : Nat) (l : List D) (q : ByteArray) (i j : Nat) (wr : World) : Prop where
  ex : ∃ L : List D, L.length = l.length ∧ L.take i = kept l q j ∧ L.drop j = l.drop j ∧ Dep.Row wr g L
  len : i = (kept l q j).length
  lt : i < j
  grown : w.grownBy wr (some g)

abbrev zeroD : Array Value := #[.string ⟨#[]⟩, .int .i64 0, .int .i64 0, .int .i64 0]
theorem zero_one (n : Nat) : ∀ v ∈ (Builtin.zeroCells zeroD n).toList, v.oneCell' = true := by
  intro v hv
  simp [Builtin.zeroCells] at hv
  obtain ⟨a, _, rfl⟩ := hv
  rcases (show a % 4 = 0 ∨ a % 4 = 1 ∨ a % 4 = 2 ∨ a % 4 = 3 by omega) with h | h | h | h <;> rw [h] <;> rfl
theorem run_clear_deps (w : World) (g i n c : Nat) (ty : TypeId) (hn : 0 < n) (hc : ∀ j, j < n * 4 → (w.cell? ⟨g, i * 4 + j, none⟩).isSome = true) (hf : ∀ j, w.frozen? ⟨g, j, none⟩ = false) :
    (Builtin.clear_ #[22] ty #[.slice (some ⟨g, i * 4, none⟩) n c]).run Try.prog w = .ok (.tuple #[]) (w.setCells g (i * 4) (Builtin.zeroCells zeroD n).toList) := by
  have hlen : (Builtin.zeroCells zeroD n).toList.length = n * 4 := by rw [Array.length_toList, size_zeroCells]; rfl
  have hst := run_storeCells_cells (P := Try.prog) g (i * 4) (Builtin.zeroCells zeroD n).toList 0 w (by rw [hlen]; simpa using hc) (fun j _ => hf _) (zero_one n)
  simp only [Nat.add_zero] at hst
  obtain ⟨m, rfl⟩ : ∃ m, n = m + 1 := ⟨n - 1, by omega⟩
  have hv : ∀ V, (zeroValue 80).run Try.prog V = .ok (.agg zeroD) V := fun V => by kernel_rfl
  have hcells : (Value.agg zeroD).cells = zeroD := rfl
  simp [Builtin.clear_, run_underlying Try.underlying22, hv, hcells, hst]

theorem row_at {w : World} {g : Nat} {L : List D} (h : Dep.Row w g L) {j : Nat} (hj : j < L.length) : w.cell? ⟨g, j * 4, none⟩ = some (.string L[j].k) ∧ w.cell? ⟨g, j * 4 + 1, none⟩ = some (.int .i64 L[j].i.c) ∧ w.cell? ⟨g, j * 4 + 2, none⟩ = some (.int .i64 L[j].i.s) ∧ w.cell? ⟨g, j * 4 + 3, none⟩ = some (.int .i64 L[j].i.e) := by
  obtain ⟨cs, h1, h2, h3⟩ := h
  obtain ⟨a0, a1, a2, a3⟩ := h3 j hj
  exact ⟨(cell_of_row w g _ cs _ (0, 0) h1).trans a0, (cell_of_row w g _ cs _ (0, 0) h1).trans a1, (cell_of_row w g _ cs _ (0, 0) h1).trans a2, (cell_of_row w g _ cs _ (0, 0) h1).trans a3⟩
theorem ret_slice {A : Option Addr} {n m c : Nat} (h : n = m) : Ending.returned (.slice A n c) = .returned (.slice A m c) := by rw [h]
theorem row_clear {w : World} {g i : Nat} {L : List D} (h : Dep.Row w g L) (hi : i ≤ L.length) (vs : List Value) {B : Nat} (hB : g < B) : Dep.Lies (w.setCells g (i * 4) vs) B (some ⟨g, 0, none⟩) (L.take i) := by
  have hl := (h.lies (B := g + 1) (Nat.lt_succ_self g))
  intro h0
  rw [List.length_take] at h0
  obtain ⟨ad, e, _, hat⟩ := hl (by omega)
  cases e
  refine ⟨_, rfl, hB, fun j hj => ?_⟩
  rw [List.length_take] at hj
  rw [List.getElem_take]
  obtain ⟨a0, a1, a2, a3⟩ := hat j (by omega)
  have e : (Addr.add ⟨g, 0, none⟩ (j * 4)) = ⟨g, j * 4, none⟩ := by
    unfold Addr.add
    split
    · rename_i h; rw [h]
    · simp
  rw [e] at a0 a1 a2 a3 ⊢
  have out : ∀ (x : Addr) (v : Value), x.off < i * 4 → w.cell? x = some v → (w.setCells g (i * 4) vs).cell? x = some v := fun x v hx hv => by
    rw [World.cell?_setCells_out g vs (i * 4) w x (fun _ _ => .inl hx)]; exact hv
  exact ⟨out _ _ (by show j * 4 < i * 4; omega) a0, out _ _ (by show j * 4 + 1 < i * 4; omega) a1, out _ _ (by show j * 4 + 1 + 1 < i * 4; omega) a2, out _ _ (by show j * 4 + 1 + 2 < i * 4; omega) a3⟩

set_option maxHeartbeats 4000000 in
theorem deleteFunc_any (g : Nat) (l : List D) (cap : Nat) (r : R) (p : P) (b : Nat) (w : World) (h : Dep.Row w g l) (hcap : l.length ≤ cap) (hlc : l.length ≤ 1000000) (hcm : cap ≤ 9223372036854775807) (hne : b ≠ g) (hb : Blk w b 61 (cellsV r p)) (hq : ∃ d ∈ l, d.k = r.k) :
    Calls Try.prog 75 #[.slice (some ⟨g, 0, none⟩) l.length cap, .func (.func 76) #[] #[.pointer (some ⟨b, 0, none⟩)]] w fun e w' =>
      e = .returned (.slice (some ⟨g, 0, none⟩) (kept l r.k l.length).length cap) ∧ Dep.Lies w' w'.heap.size (some ⟨g, 0, none⟩) (kept l r.k l.length) ∧ w.grownBy w' (some g) := by
  have HI := Lib.hid (indexFunc_any (some ⟨g, 0, none⟩) l cap r p b w (h.lies h.lt) (by omega) hb)
  have HX := Lib.hid hb
  have HW := Lib.hid h
  have HQ := Lib.hid hq
  clear h hb hq
  unfold Dep.slV at HI
  go_enter Try.func75, Try.ntmps75
  go_wp2_with fail
  refine HI.out.mono ?_
  rintro e w1 ⟨⟨n, rfl, hn⟩, hb1⟩
  rcases hn with ⟨rfl, hno⟩ | ⟨k, rfl, hk, hkk, hbef⟩
  · obtain ⟨d, hd, hdk⟩ := HQ.out
    exact absurd hdk (hno d hd)
  have HG := Lib.hid (show Going w g l r.k k (k + 1) w1 from
    ⟨⟨l, rfl, by rw [kept_skip hk hkk, kept_first hk hbef], rfl, HW.out.step hb1 HW.out.lt⟩, by rw [kept_skip hk hkk, kept_first hk hbef, List.length_take]; omega, by omega, Dep.grown_of_below _ hb1⟩)
  have hk1 : ((k : Int) == -1) = false := beq_eq_false_iff_ne.2 (by omega)
  have hk2 : ¬ ((k : Int) = -1) := by omega
  clear hkk hbef hb1
  go_wp2_with fail
  go_loopw [5, 6] (fun u v wr => ∃ j : Nat, j ≤ l.length ∧ v = .int .i64 j ∧ ∃ i : Nat, i ≤ l.length ∧ u = .int .i64 i ∧ Hid (Going w g l r.k i j wr)) (fun _ v _ => l.length - (intOf v).toNat)
  case atStart => exact ⟨k + 1, by omega, by go_num, k, by omega, rfl, HG⟩
  case round =>
    obtain ⟨j, hj, rfl, i, hi, rfl, HR⟩ := hrel
    have hij := HR.out.lt
    have HXR : Hid (Blk wr b 61 (cellsV r p)) := Lib.hid ((HR.out.grown.block b HX.out.lt (fun e => hne (Option.some.inj e))).trans HX.out)
    obtain ⟨L, hL, hLt, hLd, hrow⟩ := HR.out.ex
    by_cases hlt : j < l.length
    · obtain ⟨y, hy⟩ : ∃ y, l[j] = y := ⟨_, rfl⟩
      have hLj : L[j]'(by omega) = y := by
        have e1 : (L.drop j)[0]? = (l.drop j)[0]? := by rw [hLd]
        rw [List.getElem?_drop, List.getElem?_drop, Nat.add_zero, List.getElem?_eq_getElem (by omega), List.getElem?_eq_getElem hlt, hy] at e1
        exact Option.some.inj e1
      obtain ⟨c0, c1, c2, c3⟩ := row_at hrow (j := j) (by omega)
      rw [hLj] at c0 c1 c2 c3
      have HY := Lib.hid hy
      have HROW := Lib.hid hrow
      have HLL := Lib.hid hL
      have HLT := Lib.hid hLt
      have HLD := Lib.hid hLd
      clear hy hLj hrow hL hLt hLd
      have DX := Lib.hid (Blk.new wr 80 #[.string y.k, .int .i64 y.i.c, .int .i64 y.i.s, .int .i64 y.i.e])
      have HA := Lib.hid (ask_any y r p b _ (HXR.out.alloc (.cells #[.string y.k, .int .i64 y.i.c, .int .i64 y.i.s, .int .i64 y.i.e] 80)))
      unfold Dep.D.val at HA
      by_cases he : y.k = r.k
      · have HE := Lib.hid (kept_skip (q := r.k) hlt (by rw [HY.out]; exact he))
        rw [Str.str_eq he] at HA
        clear he
        go_wp2_with fail
        refine HA.out.mono ?_
        rintro e w2 ⟨rfl, hb2⟩
        have HN : Hid (Going w g l r.k i (j + 1) w2) := by
          have hB : Below wr.heap.size wr w2 := ((Below.refl wr.heap.size wr).alloc (Nat.le_refl _) _).trans (hb2.mono (by simp))
          refine Lib.hid ⟨⟨L, HLL.out, by rw [HE.out]; exact HLT.out, ?_, HROW.out.step hB HROW.out.lt⟩, by rw [HE.out]; exact HR.out.len, by omega, Dep.grown_trans HR.out.grown (Dep.grown_of_below _ hB)⟩
          have := congrArg (List.drop 1) HLD.out
          simpa [List.drop_drop, Nat.add_comm] using this
        clear hb2 c0 c1 c2 c3
        go_wp2_with fail
        go_roundw
        case rel => exact ⟨j + 1, by omega, by go_num, i, hi, rfl, HN⟩
        case measure => simp [intOf]; omega
      · have HE := Lib.hid (kept_keep (q := r.k) hlt (by rw [HY.out]; exact he))
        rw [Str.str_ne he] at HA
        clear he
        go_wp2_with fail
        refine HA.out.mono ?_
        rintro e w2 ⟨rfl, hb2⟩
        have hB : Below wr.heap.size wr w2 := ((Below.refl wr.heap.size wr).alloc (Nat.le_refl _) _).trans (hb2.mono (by simp))
        have HB := Lib.hid hB
        have HD2 := Lib.hid (DX.out.on hb2)
        have hR2 := HROW.out.step hB HROW.out.lt
        have HR2 := Lib.hid hR2
        obtain ⟨d0, d1, d2, d3⟩ := (show w2.cell? ⟨wr.heap.size, 0, none⟩ = some (.string y.k) ∧ w2.cell? ⟨wr.heap.size, 1, none⟩ = some (.int .i64 y.i.c) ∧ w2.cell? ⟨wr.heap.size, 2, none⟩ = some (.int .i64 y.i.s) ∧ w2.cell? ⟨wr.heap.size, 3, none⟩ = some (.int .i64 y.i.e) from ⟨HD2.out.cell 0, HD2.out.cell 1, HD2.out.cell 2, HD2.out.cell 3⟩)
        obtain ⟨u0, e0⟩ := hR2.cell (j := i * 4) (by have := HLL.out; omega)
        obtain ⟨u1, e1⟩ := hR2.cell (j := i * 4 + 1) (by have := HLL.out; omega)
        obtain ⟨u2, e2⟩ := hR2.cell (j := i * 4 + 2) (by have := HLL.out; omega)
        obtain ⟨u3, e3⟩ := hR2.cell (j := i * 4 + 3) (by have := HLL.out; omega)
        have f0 := hR2.free (i * 4)
        have f1 := hR2.free (i * 4 + 1)
        have f2 := hR2.free (i * 4 + 2)
        have f3 := hR2.free (i * 4 + 3)
        have HN : Hid (Going w g l r.k (i + 1) (j + 1) ((((w2.setCell ⟨g, i * 4, none⟩ (.string y.k)).setCell ⟨g, i * 4 + 1, none⟩ (.int .i64 y.i.c)).setCell ⟨g, i * 4 + 2, none⟩ (.int .i64 y.i.s)).setCell ⟨g, i * 4 + 3, none⟩ (.int .i64 y.i.e))) := by
          refine Lib.hid ⟨⟨L.set i y, by rw [List.length_set]; exact HLL.out, ?_, ?_, HR2.out.put y (by have := HLL.out; omega)⟩, by rw [HE.out, HY.out, List.length_append, ← HR.out.len]; rfl, by omega, ?_⟩
          · rw [HE.out, HY.out, ← HLT.out, List.take_succ_eq_append_getElem (by rw [List.length_set]; have := HLL.out; omega), List.getElem_set_self, List.take_set_of_le (Nat.le_refl _)]
          · rw [List.drop_set_of_lt (by omega)]
            have := congrArg (List.drop 1) HLD.out
            simpa [List.drop_drop, Nat.add_comm] using this
          · exact Dep.grown_trans (Dep.grown_trans (Dep.grown_trans (Dep.grown_trans (Dep.grown_trans HR.out.grown (Dep.grown_of_below _ HB.out)) (Dep.grown_set _ _ _ _)) (Dep.grown_set _ _ _ _)) (Dep.grown_set _ _ _ _)) (Dep.grown_set _ _ _ _)
        clear hb2 hB hR2 c0 c1 c2 c3
        go_wp2_with fail
        go_roundw
        case rel => exact ⟨j + 1, by omega, by go_num, i + 1, by omega, by go_num, HN⟩
        case measure => simp [intOf]; omega
    · have hje : j = l.length := by omega
      subst hje
      have HF := Lib.hid HR.out.len
      have HROW := Lib.hid hrow
      have HLL := Lib.hid hL
      have HLT := Lib.hid hLt
      have hcl := fun ty => run_clear_deps wr g i (l.length - i) (cap - i) ty (by omega) (fun t ht => by
        obtain ⟨u, hu⟩ := HROW.out.cell (j := i * 4 + t) (by have := HLL.out; omega)
        rw [hu]; rfl) (fun t => HROW.out.free t)
      clear hrow hL hLt hLd
      have hci : ¬ cap = i := by omega
      have HT := Lib.hid (touch_cells g (Builtin.zeroCells zeroD (l.length - i)).toList (i * 4) wr)
      go_wp2_with fail
      go_ret
      refine ⟨ret_slice HF.out, ?_, Dep.grown_trans HR.out.grown ⟨HT.out.os, HT.out.tape, HT.out.output, Nat.le_of_eq HT.out.size.symm, fun k _ hk => HT.out.block k (fun e => hk (by rw [e]))⟩⟩
      rw [← HLT.out]
      exact row_clear HROW.out (by have := HLL.out; omega) _ (by rw [HT.out.size]; exact HROW.out.lt)
end Go.Proofs.Ytegnjbdgeibhfaa.Rec

/-
  What a record needs: spec.Needs, impl.Needs.
-/
namespace Go.Proofs.Ytegnjbdgeibhfaa.Rec
open Go.ChangeShapes Go.WideShapes Go.ChangeAt Go.RowKit
open Dep (D I putV flat joinV depsB clockV)
set_option linter.unusedVariables false
set_option maxRecDepth 100000
set_option linter.unusedSimpArgs false

/-- What Needs answers. -/
noncomputable def needsR (r : R) : List D := if recB r = true then needs r.l r.b r.k r.i else []
theorem needsR_no {r : R} (h : recB r = false) : needsR r = [] := by unfold needsR; rw [h]; rfl
theorem needsR_ok {r : R} (h : RecOk r) : needsR r = needs r.l r.b r.k r.i := by unfold needsR; rw [if_pos (recB_true h)]
theorem needsR_len (r : R) : (needsR r).length ≤ 6 := by
  cases e : recB r
  · rw [needsR_no e]; simp
  · have h := rec_of e
    rw [needsR_ok h]
    exact ((both_le h.2.2.2.2.1 h.2.2.2.2.2.1 h.2.1).2 h.2.2.2.2.2.2.2).1
/-- What a call hands back: a list in a row of its own. -/
def Gives (w : World) (e : Ending) (w' : World) (l : List D) : Prop := ∃ A cap, e = .returned (.slice A l.length cap) ∧ Dep.Held w' A l w.heap.size w'.heap.size ∧ Below w.heap.size w w'

set_option maxHeartbeats 2000000 in
theorem implNeeds_any (r : R) (p : P) (w : World) (h : Lies w w.heap.size r p) (hs : Sound r) :
    Calls Try.prog 48 #[recV r p] w fun e w' => Gives w e w' (needsR r) := by
  have HRC := Lib.hid (fun W (hW : Below w.heap.size w W) => implRec_any r p W (h.step hW (Nat.le_refl _) hW.size) hs)
  have HBU := Lib.hid (fun (hb4 : r.b.length ≤ 4) W (hW : Below w.heap.size w W) => bundled_any r p W (h.step hW (Nat.le_refl _) hW.size) (by omega))
  have HJ := Lib.hid (fun (hl : depsB r.l = true) (hb : depsB (others r.b r.k r.i) = true) (A : Option Addr) (c : Nat) W (hW : Below w.heap.size w W) (hL : Dep.Lies W W.heap.size A (others r.b r.k r.i)) => all2_any p.A A r.l (others r.b r.k r.i) p.ca c W ((h.1.below hW (Nat.le_refl _)).more hW.size) hL hl hb)
  have HB := Lib.hid ((Below.refl w.heap.size w).alloc (Nat.le_refl _) (.cells (cellsV r p) 61))
  have HX := Lib.hid (Blk.new w 61 (cellsV r p))
  clear h hs
  unfold recV at *
  cases er : recB r
  · rw [er] at HRC
    rw [needsR_no er]
    clear er
    go_enter Try.func48, Try.ntmps48
    go_wp2_with fail
    refine (HRC.out _ HB.out).mono ?_
    rintro e w1 ⟨rfl, hb1⟩
    have HB := Lib.hid (HB.out.trans (hb1.mono HB.out.size))
    clear hb1
    go_wp2_with fail
    go_ret
    exact ⟨none, 0, rfl, .inl ⟨rfl, rfl⟩, HB.out⟩
  have ho := rec_of er
  rw [er] at HRC
  rw [needsR_ok ho]
  have hk := keys_of ho.2.2.2.2.2.1
  have hno := needs_ok ho.2.2.2.2.1 ho.2.2.2.2.2.1 ho.2.1 ho.2.2.2.2.2.2.2
  have HBU := Lib.hid (HBU.out hk.1)
  have HJ := Lib.hid (HJ.out ho.2.2.2.2.1 hno.2)
  have hn6 : ¬ 6 < (joinV r.l (others r.b r.k r.i)).length := by have := (Dep.ok_of hno.1).1; unfold needs at this; omega
  simp only [if_neg hn6] at HJ
  have HQ := Lib.hid (show ∃ d ∈ bun r.b r.i, d.k = r.k from ⟨⟨r.k, r.i⟩, List.mem_map.2 ⟨r.k, hk.2.2.2, rfl⟩, rfl⟩)
  have HBL := Lib.hid (bun_length r.b r.i)
  have hb4 := hk.1
  have HKO := Lib.hid (show kept (bun r.b r.i) r.k (bun r.b r.i).length = others r.b r.k r.i from kept_all)
  clear er ho hk hno hn6
  unfold Dep.twoObj at HJ
  go_enter Try.func48, Try.ntmps48
  go_wp2_with fail
  refine (HRC.out _ HB.out).mono ?_
  rintro e w1 ⟨rfl, hb1⟩
  have HB := Lib.hid (HB.out.trans (hb1.mono HB.out.size))
  have HX := Lib.hid (HX.out.on hb1)
  clear hb1
  obtain ⟨x0, x1, x2, x3, x4, x5, x6, x7⟩ := cells8 HX.out
  go_wp2_with fail
  refine (HBU.out _ HB.out).mono ?_
  rintro e w2 ⟨A, c, rfl, hlc, hown, hL, hb2⟩
  have HB2 := Lib.hid (HB.out.trans (hb2.mono HB.out.size))
  have HX2 := Lib.hid (HX.out.on hb2)
  have hhd := Dep.Held.of_own hown
  have hcm : c ≤ 9223372036854775807 := by
    rcases hown.2 with ⟨e1, e2⟩ | ⟨g, cap, cur, e1, _, _, _, hm, _⟩
    · unfold Dep.slV at e1; injection e1 with _ _ e3; omega
    · unfold Dep.slV at e1; injection e1 with _ _ e3; unfold maxLen at hm; omega
  have hne : bun r.b r.i ≠ [] := by obtain ⟨d, hd, _⟩ := HQ.out; exact List.ne_nil_of_mem hd
  rcases hhd with ⟨rfl, h0⟩ | ⟨g, rfl, hrow, hlo, hhi⟩
  · exact absurd h0 hne
  have hbx : w.heap.size ≠ g := by have := HX.out.lt; omega
  have HDF := Lib.hid (deleteFunc_any g (bun r.b r.i) c r p w.heap.size w2 hrow hlc (by rw [HBL.out]; omega) hcm hbx HX2.out HQ.out)
  have hwg : w.heap.size ≤ g := by have := HB.out.size; omega
  clear hown hL hb2 hne hrow hhi hlo hlc x0 x1 x2 x3 x4 x5 x6 x7
  unfold Dep.slV
  go_wp2_with fail
  refine HDF.out.mono ?_
  rintro e w3 ⟨rfl, hL3, hg3⟩
  have HB3 := Lib.hid (HB2.out.grown hg3 HB2.out.size (fun k e => by cases e; exact hwg))
  have HX3 := Lib.hid (show Blk w3 w.heap.size 61 (cellsV r p) from (hg3.block _ HX2.out.lt (fun e => hbx (Option.some.inj e))).trans HX2.out)
  rw [HKO.out] at hL3
  rw [HKO.out]
  have hJ := HJ.out _ c w3 HB3.out hL3
  have HJ3 := Lib.hid hJ
  clear hL3 hg3 hJ hbx hcm
  obtain ⟨x0, x1, x2, x3, x4, x5, x6, x7⟩ := cells8 HX3.out
  go_wp2_with fail
  refine HJ3.out.mono ?_
  rintro e w4 ⟨A2, c2, rfl, ho4, hc4, hL4, hb4⟩
  have HB4 := Lib.hid ((HB3.out.alloc HB3.out.size (Obj.cells #[Value.slice p.A r.l.length p.ca, Value.slice (some ⟨g, 0, none⟩) (others r.b r.k r.i).length c] 22)).trans (hb4.mono (by have := HB3.out.size; simp; omega)))
  have HH := Lib.hid ((Dep.Held.of_own ho4).wide (lo' := w.heap.size) (by have := HB3.out.size; simp; omega) (Nat.le_refl _))
  have hfd := fun n k V => field_deps A2 n c2 k V
  unfold Dep.outV Dep.slV
  clear ho4 hc4 hL4 hb4
  go_wp2_with fail
  go_ret
  exact ⟨A2, c2, rfl, HH.out, HB4.out⟩
end Go.Proofs.Ytegnjbdgeibhfaa.Rec

/-
  The law's own marks on a record: markRec; what they leave of the rest.
-/
namespace Go.Proofs.Ytegnjbdgeibhfaa.Rec
open Go.ChangeShapes Go.WideShapes Go.ChangeAt Go.RowKit
open Dep (D I)
set_option linter.unusedVariables false
set_option maxRecDepth 100000
set_option linter.unusedSimpArgs false

/-- Nothing has turned but new blocks, and blocks of deps and of strings from lo on, below hi. -/
structure Marked (W W' : World) (lo hi : Nat) : Prop where
  size : W.heap.size ≤ W'.heap.size
  below : ∀ w : World, Below w.heap.size w W → w.heap.size ≤ lo → Below w.heap.size w W'
  blk : ∀ (b t : Nat) (cs : Array Value), Blk W b t cs → t ≠ 80 → t ≠ 9 → Blk W' b t cs
  deps : ∀ (A : Option Addr) (l : List D) (lo' hi' : Nat), Dep.Held W A l lo' hi' → hi' ≤ lo ∨ hi ≤ lo' → Dep.Held W' A l lo' hi'
  strs : ∀ (A : Option Addr) (l : List ByteArray) (lo' hi' : Nat), Str.Held W A l lo' hi' → hi' ≤ lo ∨ hi ≤ lo' → Str.Held W' A l lo' hi'
theorem Marked.trans {a b c : World} {lo hi : Nat} (h : Marked a b lo hi) (k : Marked b c lo hi) : Marked a c lo hi :=
  ⟨Nat.le_trans h.size k.size, fun w hb hl => k.below w (h.below w hb hl) hl, fun b t cs hb h1 h2 => k.blk b t cs (h.blk b t cs hb h1 h2) h1 h2, fun A l lo' hi' hh hd => k.deps A l lo' hi' (h.deps A l lo' hi' hh hd) hd, fun A l lo' hi' hh hd => k.strs A l lo' hi' (h.strs A l lo' hi' hh hd) hd⟩
theorem Marked.ofAlloc (W : World) (o : Obj) (lo hi : Nat) : Marked W (W.alloc o) lo hi :=
  ⟨by simp, fun w hb _ => hb.alloc hb.size o, fun b t cs hb _ _ => hb.alloc o, fun A l lo' hi' hh _ => hh.step ((Below.refl _ W).alloc (Nat.le_refl _) o) (.inr (Nat.le_refl _)), fun A l lo' hi' hh _ => hh.step ((Below.refl _ W).alloc (Nat.le_refl _) o) (.inr (Nat.le_refl _))⟩
theorem Marked.ofDeps {W W' : World} {lo hi : Nat} (h : Dep.Turned W W' lo hi) : Marked W W' lo hi :=
  ⟨h.size, fun w hb hl => h.below hb hl, fun b t cs hb h1 _ => Str.blk_turned h hb h1, fun A l lo' hi' hh hd => h.held hh hd, fun A l lo' hi' hh _ => hh.turned h⟩
theorem Marked.ofStrs {W W' : World} {lo hi : Nat} (h : Str.Turned W W' lo hi) : Marked W W' lo hi :=
  ⟨h.size, fun w hb hl => h.below hb hl, fun b t cs hb _ h2 => h.blk hb h2, fun A l lo' hi' hh _ => h.deps hh, fun A l lo' hi' hh hd => h.held hh hd⟩

end Go.Proofs.Ytegnjbdgeibhfaa.Rec
