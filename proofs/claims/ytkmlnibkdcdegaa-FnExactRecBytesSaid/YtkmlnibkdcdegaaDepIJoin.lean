/-
  impl.DepsJoin.
-/
import Derived.Test.YtkmlnibkdcdegaaDepAll
import Derived.Test.YtkmlnibkdcdegaaDepLists
namespace Go.Proofs.Ytkmlnibkdcdegaa.Dep
open Go.ChangeShapes Go.WideShapes Go.ChangeAt Go.RowKit
set_option linter.unusedVariables false
set_option maxRecDepth 100000

/-- Two lists in a new row. -/
abbrev twoObj (A B : Option Addr) (a b : List D) (ca cb : Nat) : Obj := Obj.cells #[Value.slice A a.length ca, Value.slice B b.length cb] 23
theorem two_lists {w W : World} {A B : Option Addr} {a b : List D} {ca cb : Nat} (ha : Lies w w.heap.size A a) (hb : Lies w w.heap.size B b) (hW : Below w.heap.size w W) :
    Lists (W.alloc (twoObj A B a b ca cb)) (W.alloc (twoObj A B a b ca cb)).heap.size ⟨W.heap.size, 0, none⟩ [⟨A, a, ca⟩, ⟨B, b, cb⟩] := by
  have hr := heap_alloc_new W (twoObj A B a b ca cb)
  have hB : Below w.heap.size w (W.alloc (twoObj A B a b ca cb)) := hW.alloc hW.size _
  have hs := hB.size
  refine ⟨by simp, fun j hj => ?_, fun j hj => ?_⟩
  · have : j = 0 ∨ j = 1 := by simp at hj; omega
    rcases this with rfl | rfl
    · exact cell_of_row _ _ 0 _ _ (0, 0) hr
    · exact cell_of_row _ _ 1 _ _ (0, 0) hr
  · have : j = 0 ∨ j = 1 := by simp at hj; omega
    rcases this with rfl | rfl
    · exact (ha.below hB (Nat.le_refl _)).more hs
    · exact (hb.below hB (Nat.le_refl _)).more hs
theorem two_len {a b : List D} {A B : Option Addr} {ca cb : Nat} (hla : a.length ≤ maxLen) (hlb : b.length ≤ maxLen) : ∀ j (h : j < [(⟨A, a, ca⟩ : Sl), ⟨B, b, cb⟩].length), ([(⟨A, a, ca⟩ : Sl), ⟨B, b, cb⟩][j]).l.length ≤ maxLen := by
  intro j hj
  have : j = 0 ∨ j = 1 := by simp at hj; omega
  rcases this with rfl | rfl <;> assumption
theorem two_keys {a b : List D} {A B : Option Addr} {ca cb : Nat} (ka : ∀ d ∈ a, d.k.size ≤ maxLen) (kb : ∀ d ∈ b, d.k.size ≤ maxLen) : ∀ j (h : j < [(⟨A, a, ca⟩ : Sl), ⟨B, b, cb⟩].length), ∀ d ∈ ([(⟨A, a, ca⟩ : Sl), ⟨B, b, cb⟩][j]).l, d.k.size ≤ maxLen := by
  intro j hj
  have : j = 0 ∨ j = 1 := by simp at hj; omega
  rcases this with rfl | rfl <;> assumption

theorem joinC_code (a b : List D) : (codeV [a, b] ≠ 0 ∧ joinC a b = codeV [a, b] ∧ joinR a b = []) ∨ (codeV [a, b] = 0 ∧ depsB a = true ∧ depsB b = true ∧ ¬ (400 < a.length ∨ 400 < b.length)) := by
  by_cases h : 400 < a.length ∨ 400 < b.length
  · have e : codeV [a, b] = 2 := by
      rcases h with h | h
      · exact code_big (l := a) (by simp) h
      · exact code_big (l := b) (by simp) h
    have e2 : joinC a b = 2 := by unfold joinC; rw [if_pos h]
    exact .inl ⟨by omega, by omega, by unfold joinR; rw [if_neg (by omega)]⟩
  · have hn : ∀ l ∈ [a, b], ¬ 400 < l.length := by
      intro l hl
      simp only [List.mem_cons, List.not_mem_nil, or_false] at hl
      rcases hl with rfl | rfl <;> omega
    by_cases h2 : depsB a = true ∧ depsB b = true
    · refine .inr ⟨?_, h2.1, h2.2, h⟩
      rw [code_all hn, if_pos]
      simpa using h2
    · have e : codeV [a, b] = 1 := by
        rw [code_all hn, if_neg]
        simpa using h2
      have e2 : joinC a b = 1 := by unfold joinC; rw [if_neg h, if_neg h2]
      exact .inl ⟨by omega, by omega, by unfold joinR; rw [if_neg (by omega)]⟩
/-- The keys of what is joined, each short. -/
theorem short_keys {l : List D} (h : Good l) : ∃ ks : List K4, ks.map (·.1) = l.map D.k := by
  induction l with
  | nil => exact ⟨[], rfl⟩
  | cons d l ih =>
    obtain ⟨ks, hk⟩ := ih fun x hx => h x (by simp [hx])
    exact ⟨⟨d.k, (Key.ok_of (h d (by simp)).1).2.1⟩ :: ks, by simp [hk]⟩

/-- What the inner call hands back, told once more in a cell. -/
theorem Answers.cell {w w1 w2 : World} {e : Ending} {r : List D} {c : Int} {b : Nat} (h : Answers w1 e w2 r c) (hw : Below w.heap.size w w1) (hb : w.heap.size ≤ b) (hb1 : b < w1.heap.size) (hR : ORow w1 b (.slice none 0 0) 0) :
    ∃ v, e = .returned (outV v c) ∧ ORow w2 b (.slice none 0 0) 0 ∧ (∃ (A : Option Addr) (m : Nat × Nat), v = .slice A m.1 m.2) ∧ Answers w (.returned (outV v c)) ((w2.setCell ⟨b, 0, none⟩ v).setCell ⟨b, 1, none⟩ (.int .i64 c)) r c := by
  obtain ⟨A, cap, rfl, ho, hc, hL, hB⟩ := h
  refine ⟨slV A r cap, rfl, hR.step hB hb1, ⟨A, (r.length, cap), rfl⟩, ?_⟩
  exact Answers.row (own_less (own_set2 ho hb1 _ _) hw.size) (((hw.trans (hB.mono hw.size)).setCell (p := ⟨b, 0, none⟩) hb _).setCell (p := ⟨b, 1, none⟩) hb _)

set_option maxHeartbeats 1000000 in
set_option maxRecDepth 100000 in
theorem implJoinOut_any (A B : Option Addr) (a b : List D) (ca cb : Nat) (w : World) (ha : Lies w w.heap.size A a) (hb : Lies w w.heap.size B b) (hla : a.length ≤ maxLen) (hlb : b.length ≤ maxLen)
    (ka : ∀ d ∈ a, d.k.size ≤ maxLen) (kb : ∀ d ∈ b, d.k.size ≤ maxLen) :
    Calls Try.prog 9 #[slV A a ca, slV B b cb] w fun e w' => Answers w e w' (joinR a b) (joinC a b) := by
  have HC : Hid (∀ W, Below w.heap.size w W → Calls Try.prog 45 #[.func (.func 22) #[] #[], .slice (some ⟨W.heap.size, 0, none⟩) 2 2] (W.alloc (twoObj A B a b ca cb)) fun e w' => e = .returned (.int .i64 (codeV [a, b])) ∧ Below (W.alloc (twoObj A B a b ca cb)).heap.size (W.alloc (twoObj A B a b ca cb)) w') := by
    refine Lib.hid fun W hW => ?_
    have := lists_any ⟨W.heap.size, 0, none⟩ [⟨A, a, ca⟩, ⟨B, b, cb⟩] 2 (W.alloc (twoObj A B a b ca cb)) (two_lists ha hb hW) (by simp) (two_len hla hlb) (two_keys ka kb)
    simpa only [List.map_cons, List.map_nil, List.length_cons, List.length_nil] using this
  have HJ : Hid (∀ (ks : List K4), Chain (a ++ b) (ks.map (·.1)) → ∀ W, Below w.heap.size w W → Calls Try.prog 46 #[.slice (some ⟨W.heap.size, 0, none⟩) 2 2] (W.alloc (twoObj A B a b ca cb)) fun e w' =>
      (ks.length ≤ 6 → Answers (W.alloc (twoObj A B a b ca cb)) e w' ((ks.map (·.1)).map (withMost [a, b])) 0) ∧ (6 < ks.length → Answers (W.alloc (twoObj A B a b ca cb)) e w' [] 9)) := by
    refine Lib.hid fun ks hc W hW => ?_
    have := all_any ⟨W.heap.size, 0, none⟩ [⟨A, a, ca⟩, ⟨B, b, cb⟩] 2 ks (by simpa [allOf] using hc) (by simp) (two_len hla hlb) (W.alloc (twoObj A B a b ca cb)) (two_lists ha hb hW)
    simpa only [List.map_cons, List.map_nil, List.length_cons, List.length_nil] using this
  clear ha hb ka kb
  have B1 := (Below.refl w.heap.size w).alloc (Nat.le_refl _) (Obj.cells #[Value.slice none 0 0, Value.int IntKind.i64 0] 27)
  have hR := ORow.new w (.slice none 0 0) 0
  have HB1 := Lib.hid B1
  have hlt := hR.lt
  unfold slV
  go_enter Try.func9, Try.ntmps9
  go_wp2_with fail
  have hsz : (World.alloc w (Obj.cells #[Value.slice none 0 0, Value.int IntKind.i64 0] 27)).heap.size = w.heap.size + 1 := by simp
  generalize World.alloc w _ = W1 at B1 HB1 hR hlt hsz ⊢
  have hcall := HC.out W1 HB1.out
  rw [hsz] at hcall
  refine hcall.mono ?_
  clear hcall
  rintro e w1 ⟨rfl, hb1⟩
  have hR1 := (hR.alloc (twoObj A B a b ca cb)).step hb1 (by simp; omega)
  have B2 := Lib.hid ((B1.alloc B1.size (twoObj A B a b ca cb)).trans (hb1.mono (by have := B1.size; simp; omega)))
  clear hb1 hR B1
  rcases joinC_code a b with ⟨hc, hcj, hr⟩ | ⟨hc, hda, hdb, h400⟩
  · have HV := Lib.hid hcj
    have HR := Lib.hid hr
    have hc2 : (codeV [a, b] == 0) = false := beq_eq_false_iff_ne.2 hc
    obtain ⟨r0, r1⟩ := hR1.cells
    have f0 := hR1.free 0
    have f1 := hR1.free 1
    clear hcj hr hR1
    obtain ⟨cv, hcv⟩ : ∃ cv, codeV [a, b] = cv := ⟨_, rfl⟩
    have HCV := Lib.hid hcv
    rw [hcv] at hc hc2 ⊢
    clear hcv
    have hc3 : ¬ cv = 0 := hc
    have hc4 : (cv != 0) = true := by simpa using hc
    go_wp2_with fail
    refine bodyPost_ret (v := outV (.slice none 0 0) cv) (by simp [results, Try.results9, go_sem, outV, r0, r1]) rfl ?_
    rw [HV.out, HR.out, HCV.out]
    exact Answers.nil ((B2.out.setCell (Nat.le_refl _) _).setCell (Nat.le_refl _) _)
  · have hoa := ok_of hda
    have hob := ok_of hdb
    obtain ⟨ks, hks⟩ := short_keys (join_facts b a hoa.2.2 hoa.2.1 hob.2.2 hob.2.1).2.1
    have hlen : ks.length = (joinV a b).length := by have := congrArg List.length hks; simpa using this
    have HJ2 := Lib.hid (HJ.out ks (by rw [hks]; exact chain_join hoa hob) w1 B2.out)
    have HJJ := Lib.hid (show (ks.map (·.1)).map (withMost [a, b]) = joinV a b by rw [hks]; exact (join_keys hoa hob).symm)
    have HV0 := Lib.hid (show joinC a b = if 6 < (joinV a b).length then 9 else 0 by unfold joinC; rw [if_neg h400, if_pos ⟨hda, hdb⟩])
    rw [hc]
    have hlt1 := hR1.lt
    clear hc hda hdb h400 hoa hob hks HJ HC
    go_wp2_with fail
    refine HJ2.out.mono ?_
    rintro e w2 ⟨h6, h9⟩
    have hR1a := hR1.alloc (twoObj A B a b ca cb)
    have B3 := B2.out.alloc B2.out.size (twoObj A B a b ca cb)
    rw [HJJ.out] at h6
    have hfin : Answers (w1.alloc (twoObj A B a b ca cb)) e w2 (joinR a b) (joinC a b) := by
      by_cases h : 6 < (joinV a b).length
      · have e1 : joinC a b = 9 := by rw [HV0.out, if_pos h]
        have e2 : joinR a b = [] := by unfold joinR; rw [e1]; rfl
        rw [e1, e2]
        exact h9 (by omega)
      · have e1 : joinC a b = 0 := by rw [HV0.out, if_neg h]
        have e2 : joinR a b = joinV a b := by unfold joinR; rw [e1]; rfl
        rw [e1, e2]
        exact h6 (by omega)
    obtain ⟨v, rfl, hR2, ⟨vA, vm, rfl⟩, hans⟩ := hfin.cell (b := w.heap.size) B3 (Nat.le_refl _) (by have := hR1a.lt; omega) hR1a
    have HANS := Lib.hid hans
    obtain ⟨r0, r1⟩ := hR2.cells
    have f0 := hR2.free 0
    have f1 := hR2.free 1
    clear hans hfin h6 h9 hR2 hR1 hR1a B3
    unfold outV
    obtain ⟨jc, hjc⟩ : ∃ jc, joinC a b = jc := ⟨_, rfl⟩
    have HJC := Lib.hid hjc
    rw [hjc] at HANS ⊢
    clear hjc
    go_wp2_with fail
    exact bodyPost_ret (v := outV (.slice vA vm.1 vm.2) jc) (by simp [results, Try.results9, go_sem, outV, r0, r1]) rfl (by rw [HJC.out]; exact HANS.out)
end Go.Proofs.Ytkmlnibkdcdegaa.Dep
