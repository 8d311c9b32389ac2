/-
  What DepsPut and DepsJoin answer; the given model's.
-/
import Derived.Test.YtkmlnibkdcdegaaDepJoin
import Derived.Test.YtkmlnibkdcdegaaDepOpen
import Derived.Test.YtkmlnibkdcdegaaDepRight
namespace Go.Proofs.Ytkmlnibkdcdegaa.Dep
open Go.ChangeShapes Go.WideShapes Go.ChangeAt Go.RowKit
set_option linter.unusedVariables false
set_option maxRecDepth 100000

open Classical in
noncomputable def joinC (a b : List D) : Int := if 400 < a.length ∨ 400 < b.length then 2 else if depsB a = true ∧ depsB b = true then (if 6 < (joinV a b).length then 9 else 0) else 1
noncomputable def joinR (a b : List D) : List D := if joinC a b = 0 then joinV a b else []
open Classical in
noncomputable def putC (l : List D) (q : ByteArray) (x : I) : Int := if 400 < l.length ∨ 8000 < q.size then 2 else if depsB l = true ∧ Key.keyB q = true ∧ x.right = true then (if 6 < (putV l q x).length then 9 else 0) else 1
noncomputable def putR (l : List D) (q : ByteArray) (x : I) : List D := if putC l q x = 0 then putV l q x else []

/-- Block b holds an answer. -/
def ORow (W : World) (b : Nat) (s : Value) (c : Int) : Prop := W.heap[b]? = some (.cells #[s, .int .i64 c] 27 (0, 0))
theorem ORow.step {W w1 : World} {b N : Nat} {s : Value} {c : Int} (h : ORow W b s c) (hb : Below N W w1) (hlt : b < N) : ORow w1 b s c := (hb.block b hlt).trans h
theorem ORow.lt {W : World} {b : Nat} {s : Value} {c : Int} (h : ORow W b s c) : b < W.heap.size := (Array.getElem?_eq_some_iff.1 h).1
theorem ORow.alloc {W : World} {b : Nat} {s : Value} {c : Int} (h : ORow W b s c) (o : Obj) : ORow (W.alloc o) b s c := (heap_alloc_old W o h.lt).trans h
theorem ORow.new (W : World) (s : Value) (c : Int) : ORow (W.alloc (.cells #[s, .int .i64 c] 27)) W.heap.size s c := heap_alloc_new W _
theorem ORow.cells {W : World} {b : Nat} {s : Value} {c : Int} (h : ORow W b s c) : W.cell? ⟨b, 0, none⟩ = some s ∧ W.cell? ⟨b, 1, none⟩ = some (.int .i64 c) :=
  ⟨cell_of_row W b 0 _ _ (0, 0) h, cell_of_row W b 1 _ _ (0, 0) h⟩
theorem ORow.free {W : World} {b : Nat} {s : Value} {c : Int} (h : ORow W b s c) (j : Nat) : W.frozen? ⟨b, j, none⟩ = false := by
  unfold ORow at h
  simp [World.frozen?, h]

def outV (s : Value) (c : Int) : Value := .agg #[s, .int .i64 c]
/-- What a call hands back: a list in a row of its own, and a code. -/
def Answers (w : World) (e : Ending) (w' : World) (r : List D) (c : Int) : Prop := ∃ A cap, e = .returned (outV (slV A r cap) c) ∧ w'.ownsRow w.heap.size 66 4 (slV A r cap) r.length (flat r) ∧ r.length ≤ cap ∧ Lies w' w'.heap.size A r ∧ Below w.heap.size w w'
theorem own_nil (w : World) (base : Nat) : w.ownsRow base 66 4 (.slice none 0 0) 0 (flat []) := ⟨rfl, .inl ⟨rfl, rfl⟩⟩
theorem Answers.nil {w w' : World} {c : Int} (h : Below w.heap.size w w') : Answers w (.returned (outV (.slice none 0 0) c)) w' [] c :=
  ⟨Option.none, 0, rfl, own_nil _ _, Nat.le_refl _, fun h0 => absurd h0 (by simp), h⟩
theorem Answers.row {w w' : World} {A : Option Addr} {r : List D} {cap : Nat} {c : Int} (h : w'.ownsRow w.heap.size 66 4 (slV A r cap) r.length (flat r)) (hb : Below w.heap.size w w') : Answers w (.returned (outV (slV A r cap) c)) w' r c := by
  obtain ⟨_, A', c', e, hc, hL⟩ := own_lies h
  unfold slV at e
  injection e with e1 e2 e3
  subst e1 e3
  exact ⟨A, cap, rfl, h, hc, hL, hb⟩
theorem own_set2 {w : World} {base n : Nat} {v : Value} {xs : List Value} (h : w.ownsRow base 66 4 v n xs) {b : Nat} (hp : b < base) (u u' : Value) : ((w.setCell ⟨b, 0, none⟩ u).setCell ⟨b, 1, none⟩ u').ownsRow base 66 4 v n xs :=
  own_set (own_set h (p := ⟨b, 0, none⟩) hp u) (p := ⟨b, 1, none⟩) hp u'

set_option maxHeartbeats 600000 in
set_option maxRecDepth 100000 in
theorem specJoinOut_any (A B : Option Addr) (a b : List D) (ca cb : Nat) (w : World) (ha : Lies w w.heap.size A a) (hb : Lies w w.heap.size B b) (hla : a.length ≤ maxLen) (hlb : b.length ≤ maxLen)
    (ka : ∀ d ∈ a, d.k.size ≤ maxLen) (kb : ∀ d ∈ b, d.k.size ≤ maxLen) :
    Calls Try.prog 14 #[slV A a ca, slV B b cb] w fun e w' => Answers w e w' (joinR a b) (joinC a b) := by
  have hl1 := hla
  have hl2 := hlb
  unfold maxLen at hl1 hl2
  have HA := Lib.hid (fun W (hW : Below w.heap.size w W) => specDeps_any A a ca W ((ha.below hW (Nat.le_refl _)).more hW.size) hla ka)
  have HB := Lib.hid (fun W (hW : Below w.heap.size w W) => specDeps_any B b cb W ((hb.below hW (Nat.le_refl _)).more hW.size) hlb kb)
  have HC := Lib.hid (fun (h1 : a.length ≤ 400) (h2 : b.length ≤ 400) W (hW : Below w.heap.size w W) => specJoin_any A B a b ca cb W ((ha.below hW (Nat.le_refl _)).more hW.size) ((hb.below hW (Nat.le_refl _)).more hW.size) h1 h2)
  clear ha hb ka kb
  have B1 := (Below.refl w.heap.size w).alloc (Nat.le_refl _) (Obj.cells #[Value.slice none 0 0, Value.int IntKind.i64 0] 27)
  have hR := ORow.new w (.slice none 0 0) 0
  have hlt := hR.lt
  by_cases h400 : 400 < a.length ∨ 400 < b.length
  · have HV := Lib.hid (show joinC a b = 2 by unfold joinC; rw [if_pos h400])
    have HR := Lib.hid (show joinR a b = [] by unfold joinR; rw [HV.out]; rfl)
    have HB1 := Lib.hid B1
    rw [HV.out, HR.out]
    unfold slV
    by_cases h4 : 400 < a.length
    · go_enter Try.func14, Try.ntmps14
      go_wp2_with fail
      refine bodyPost_ret (v := outV (.slice none 0 0) 2) (by simp [results, Try.results14, go_sem, outV]) rfl ?_
      exact Answers.nil ((Below.refl w.heap.size w).alloc (Nat.le_refl _) _)
    · have h5 : 400 < b.length := by omega
      go_enter Try.func14, Try.ntmps14
      go_wp2_with fail
      refine bodyPost_ret (v := outV (.slice none 0 0) 2) (by simp [results, Try.results14, go_sem, outV]) rfl ?_
      exact Answers.nil ((Below.refl w.heap.size w).alloc (Nat.le_refl _) _)
  have h4 : ¬ 400 < a.length := by omega
  have h5 : ¬ 400 < b.length := by omega
  cases hda : depsB a
  · have HV := Lib.hid (show joinC a b = 1 by unfold joinC; rw [if_neg h400, if_neg (by rw [hda]; rintro ⟨h, _⟩; cases h)])
    have HR := Lib.hid (show joinR a b = [] by unfold joinR; rw [HV.out]; rfl)
    rw [HV.out, HR.out]
    rw [hda] at HA
    clear hda
    unfold slV at HA ⊢
    go_enter Try.func14, Try.ntmps14
    go_wp2_with fail
    refine (HA.out _ B1).mono ?_
    rintro e w1 ⟨rfl, hb1⟩
    have hR1 := hR.step hb1 hlt
    have B2 := Lib.hid (B1.trans (hb1.mono B1.size))
    clear hb1 hR B1
    obtain ⟨r0, r1⟩ := hR1.cells
    have f0 := hR1.free 0
    have f1 := hR1.free 1
    clear hR1
    go_wp2_with fail
    refine bodyPost_ret (v := outV (.slice none 0 0) 1) (by simp [results, Try.results14, go_sem, outV, r0, r1]) rfl ?_
    exact Answers.nil ((B2.out.setCell (Nat.le_refl _) _).setCell (Nat.le_refl _) _)
  cases hdb : depsB b
  · have HV := Lib.hid (show joinC a b = 1 by unfold joinC; rw [if_neg h400, if_neg (by rw [hdb]; rintro ⟨_, h⟩; cases h)])
    have HR := Lib.hid (show joinR a b = [] by unfold joinR; rw [HV.out]; rfl)
    rw [HV.out, HR.out]
    rw [hda] at HA
    rw [hdb] at HB
    clear hda hdb
    unfold slV at HA HB ⊢
    go_enter Try.func14, Try.ntmps14
    go_wp2_with fail
    refine (HA.out _ B1).mono ?_
    rintro e w1 ⟨rfl, hb1⟩
    have hR1 := hR.step hb1 hlt
    have B2 := Lib.hid (B1.trans (hb1.mono B1.size))
    have hlt1 := hR1.lt
    clear hb1 hR B1
    go_wp2_with fail
    refine (HB.out _ B2.out).mono ?_
    rintro e w2 ⟨rfl, hb2⟩
    have hR2 := hR1.step hb2 hlt1
    have B3 := Lib.hid (B2.out.trans (hb2.mono B2.out.size))
    clear hb2 hR1 B2
    obtain ⟨r0, r1⟩ := hR2.cells
    have f0 := hR2.free 0
    have f1 := hR2.free 1
    clear hR2
    go_wp2_with fail
    refine bodyPost_ret (v := outV (.slice none 0 0) 1) (by simp [results, Try.results14, go_sem, outV, r0, r1]) rfl ?_
    exact Answers.nil ((B3.out.setCell (Nat.le_refl _) _).setCell (Nat.le_refl _) _)
  have HV0 := Lib.hid (show joinC a b = if 6 < (joinV a b).length then 9 else 0 by unfold joinC; rw [if_neg h400, if_pos ⟨hda, hdb⟩])
  have hl9 := length_join b a
  have hj : (joinV a b).length ≤ maxLen := by unfold maxLen; omega
  unfold maxLen at hj
  rw [hda] at HA
  rw [hdb] at HB
  clear hda hdb
  unfold slV at HA HB HC ⊢
  go_enter Try.func14, Try.ntmps14
  go_wp2_with fail
  refine (HA.out _ B1).mono ?_
  rintro e w1 ⟨rfl, hb1⟩
  have hR1 := hR.step hb1 hlt
  have B2 := Lib.hid (B1.trans (hb1.mono B1.size))
  have hlt1 := hR1.lt
  clear hb1 hR B1
  go_wp2_with fail
  refine (HB.out _ B2.out).mono ?_
  rintro e w2 ⟨rfl, hb2⟩
  have hR2 := hR1.step hb2 hlt1
  have B3 := Lib.hid (B2.out.trans (hb2.mono B2.out.size))
  have hlt2 := hR2.lt
  clear hb2 hR1 B2
  go_wp2_with fail
  refine (HC.out (by omega) (by omega) _ B3.out).mono ?_
  rintro e w3 ⟨v, rfl, ho3, hv3, hb3⟩
  have hR3 := hR2.step hb3 hlt2
  have B4 := Lib.hid (B3.out.trans (hb3.mono B3.out.size))
  obtain ⟨_, ad, c, rfl, hc1, hc2, hL⟩ := own_addr ho3 hv3
  have HO := Lib.hid ho3
  clear ho3 hv3 hb3 hR2 hL
  obtain ⟨r0, r1⟩ := hR3.cells
  have f0 := hR3.free 0
  have f1 := hR3.free 1
  clear hR3
  unfold slV
  by_cases h6 : 6 < (joinV a b).length
  · have HV := Lib.hid (show joinC a b = 9 by rw [HV0.out, if_pos h6])
    have HR := Lib.hid (show joinR a b = [] by unfold joinR; rw [HV.out]; rfl)
    go_wp2_with fail
    refine bodyPost_ret (v := outV (.slice none 0 0) 9) (by simp [results, Try.results14, go_sem, outV, r0, r1]) rfl ?_
    rw [HV.out, HR.out]
    exact Answers.nil ((B4.out.setCell (Nat.le_refl _) _).setCell (Nat.le_refl _) _)
  · have HV := Lib.hid (show joinC a b = 0 by rw [HV0.out, if_neg h6])
    have HR := Lib.hid (show joinR a b = joinV a b by unfold joinR; rw [HV.out]; rfl)
    go_wp2_with fail
    refine bodyPost_ret (v := outV (.slice (some ad) (joinV a b).length c) 0) (by simp [results, Try.results14, go_sem, outV, r0, r1]) rfl ?_
    rw [HV.out, HR.out]
    exact Answers.row (own_less (own_set2 HO.out (b := w.heap.size) (by have := B3.out.size; omega) _ _) (by have := B3.out.size; omega)) ((B4.out.setCell (Nat.le_refl _) _).setCell (Nat.le_refl _) _)
end Go.Proofs.Ytkmlnibkdcdegaa.Dep
