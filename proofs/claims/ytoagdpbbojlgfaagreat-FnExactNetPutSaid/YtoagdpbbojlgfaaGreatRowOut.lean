/-
  What StorePut and StoreMerge answer; the given model's.
-/
import Derived.Test.YtoagdpbbojlgfaaGreatRowPut
import Derived.Test.YtoagdpbbojlgfaaGreatRowRight
import Derived.StillTailTactics
namespace Go.Proofs.YtoagdpbbojlgfaaGreat.Sto
open Go.ChangeShapes Go.WideShapes Go.ChangeAt Go.RowKit
open Dep (I D zero kl list_eq add_block add_add row_set get_ne get_eq)
set_option linter.unusedVariables false
set_option maxRecDepth 100000

attribute [local go_sem] sem_pure0 sem_store0

theorem run_append_rows2 (base : Nat) (v : Value) (n : Nat) (o : List R) (w : World) (hown : w.ownsRow base 42 5 v n (flat o)) (B : Nat) (A : Option Addr) (m : List R) (c : Nat) (hr : Lies w B A m) (h63 : n + m.length ≤ 2097152) (hbase : base ≤ w.heap.size) :
    ∃ v' w', (Builtin.append_ #[98, 98] 98 #[v, slV A m c]).run Tryz.prog w = .ok v' w' ∧ w'.ownsRow base 42 5 v' (n + m.length) (flat (o ++ m)) ∧ w.grownBy w' v.ownBlock ∧
      (v' = .slice none 0 0 → v = .slice none 0 0) := by
  obtain ⟨i0, hi0, hz0, hz1, hz2⟩ := info_parts row_info
  rw [flat_append]
  rcases A with _ | ad
  · have hm : m = [] := by
      cases m with
      | nil => rfl
      | cons d m => obtain ⟨ad, e, _⟩ := hr (by simp); cases e
    subst hm
    refine ⟨v, w, ?_, by simpa [flat] using hown, World.grownBy.refl w _, id⟩
    unfold slV
    rcases hown.2 with ⟨rfl, rfl⟩ | ⟨g, cap, cur, rfl, _, _, hnc, _⟩
    · simp [Builtin.append_, run_underlying Tryz.underlying98, sizeOf, typeInfo, hi0, Builtin.lenOf, Builtin.firstCells]
    · simp [Builtin.append_, run_underlying Tryz.underlying98, sizeOf, typeInfo, hi0, Builtin.lenOf, Builtin.firstCells, hnc, storeCells]
  · obtain ⟨v', w', hrun, h2, h3, h4, h5⟩ := run_append_own_at (P := Tryz.prog) w base 98 98 42 i0 _ 5 56 Tryz.underlying98 hi0 hz0 hz1 hz2 rfl (by omega) v n (flat o) hown ad m.length c (flat m) (flat_length m) (fun j u hu => hr.cell hu) (flat_one m) (by simp only [maxLen]; omega) (by omega) hbase
    exact ⟨v', w', hrun, h2, h3, fun e => (h4.1 e).1⟩

theorem wpList_append_rows2 {ops : Array Oper} {rest : List Oper} {o : Oper} {a : Act} {w : World} {Q : Exit → Act → World → Prop} (hgd : o.guard = none) {s x : Operand}
    (ho : o.op = .call { callee := .builtin .append, args := #[s, x], argTypes := #[98, 98] }) (hty : o.type = 98) {base : Nat} {v : Value} {n : Nat} {l : List R} {A : Option Addr} {j c B : Nat} (m : List R)
    (hs : a.eval s = v) (hx : a.eval x = .slice A j c) (hj : m.length = j) (hown : w.ownsRow base 42 5 v n (flat l)) (hr : Lies w B A m) (h63 : n + m.length ≤ 2097152) (hbase : base ≤ w.heap.size)
    (h : ∀ v' w', w'.ownsRow base 42 5 v' (n + m.length) (flat (l ++ m)) → w.grownBy w' v.ownBlock → (v' = .slice none 0 0 → v = .slice none 0 0) → wpList Tryz.prog ops Q rest (a.put o.dst v') w') : wpList Tryz.prog ops Q (o :: rest) a w := by
  refine wpList_plain hgd fun K hK => ?_
  obtain ⟨v', w', hrun, h2, h3, h4⟩ := run_append_rows2 base v n l w hown B A m c hr h63 hbase
  unfold slV at hrun
  rw [hj] at hrun
  unfold Oper.wp execOp
  rw [hty]
  simp only [ho, resolve, invoke, builtin, Sem.run_bind, Sem.run_pure, Result.andThen_ok, List.map_toArray, List.map_cons, List.map_nil, hs, hx, hrun]
  exact hK _ _ (h v' w' h2 h3 h4)

/-- A row of one's own that is not nil, as a slice with an address. -/
theorem own_addr {w : World} {base n : Nat} {v : Value} {o : List R} (h : w.ownsRow base 42 5 v n (flat o)) (hv : v = .slice none 0 0 → False) :
    n = o.length ∧ ∃ ad c, v = slV (some ad) o c ∧ o.length ≤ c ∧ c ≤ maxLen ∧ Lies w w.heap.size (some ad) o := by
  obtain ⟨hn, A, c, e, hc, hL⟩ := own_lies h
  refine ⟨hn, ?_⟩
  rcases h.2 with ⟨rfl, _⟩ | ⟨g, cap, cur, rfl, _, _, _, hcm, _⟩
  · exact absurd rfl hv
  · unfold slV at e
    injection e with e1 e2 e3
    subst e1 e3
    exact ⟨_, _, by unfold slV; rw [hn], hc, hcm, hL⟩
theorem put_ne {w : World} {base n : Nat} {v : Value} {l : List R} {x : R} (h : w.ownsRow base 42 5 v n (flat (putW l x))) : v = .slice none 0 0 → False := by
  rintro rfl
  obtain ⟨hn, A, c, e, hc, hL⟩ := own_lies h
  rcases h.2 with ⟨_, h0⟩ | ⟨g, cap, cur, e, _⟩
  · have : 0 < (putW l x).length := by
      cases l with
      | nil => simp [putW]
      | cons y l => rw [putW]; split <;> (try split) <;> simp
    omega
  · cases e
theorem merge_step (a b : List R) (k : Nat) (h : k < b.length) : mergeW a (b.take (k + 1)) = putW (mergeW a (b.take k)) b[k] := by
  unfold mergeW
  rw [show b.take (k + 1) = b.take k ++ [b[k]] by simp, List.foldl_append]
  rfl

set_option maxHeartbeats 600000 in
set_option maxRecDepth 100000 in
theorem specMerge_any (A B : Option Addr) (a b : List R) (ca cb : Nat) (w : World) (ha : Lies w w.heap.size A a) (hb : Lies w w.heap.size B b) (hla : a.length ≤ 400) (hlb : b.length ≤ 400) :
    Calls Tryz.prog 119 #[slV A a ca, slV B b cb] w fun e w' => ∃ v, e = .returned v ∧ w'.ownsRow w.heap.size 42 5 v (mergeW a b).length (flat (mergeW a b)) ∧ (v = .slice none 0 0 → False) ∧ Below w.heap.size w w' := by
  have HA := Lib.hid (ha.alloc (Nat.le_refl _) (Obj.cells #[] 42))
  have HB := Lib.hid hb
  clear ha hb
  unfold slV
  go_enter Tryz.func119, Tryz.ntmps119
  go_wp2_with (at_builtin; refine wpList_append_rows2 rfl rfl rfl a rfl rfl rfl (own_none w) HA.out (by omega) (by simp) ?_; intro v1 W1 ho1 hg1 hn1; rw [Nat.zero_add, List.nil_append] at ho1; have B1 := Lib.hid (((Below.refl w.heap.size w).alloc (Nat.le_refl _) _).grown hg1 (by simp) (fun j e => by cases e; exact Nat.le_refl _)); have HO1 := Lib.hid ho1; have HN1 := Lib.hid (fun e => by cases hn1 e : v1 = .slice none 0 0 → False); clear ho1 hg1 hn1)
  obtain ⟨_, ad, c, rfl, hc1, hc2, hL⟩ := own_addr HO1.out HN1.out
  unfold slV
  go_loopw [5, 6] (fun o i wr => ∃ k : Nat, k ≤ b.length ∧ i = .int .i64 k ∧ ∃ ad c, o = .slice (some ad) (mergeW a (b.take k)).length c ∧ Hid (wr.ownsRow w.heap.size 42 5 (slV (some ad) (mergeW a (b.take k)) c) (mergeW a (b.take k)).length (flat (mergeW a (b.take k))) ∧ ((mergeW a (b.take k)).length ≤ c ∧ c ≤ maxLen ∧ Lies wr wr.heap.size (some ad) (mergeW a (b.take k))) ∧ Below w.heap.size w wr)) (fun _ i _ => b.length - (intOf i).toNat)
  case atStart => exact ⟨0, by omega, rfl, ad, c, rfl, Lib.hid ⟨HO1.out, ⟨hc1, hc2, hL⟩, B1.out⟩⟩
  case round =>
    obtain ⟨k, hk, rfl, ad2, cc, rfl, HR⟩ := hrel
    by_cases hlt : k < b.length
    · obtain ⟨bd, rfl, _, c0, c1, c2, c3, e5⟩ := (HB.out.below HR.out.2.2 (Nat.le_refl _)).at_ hlt
      have hlen := merge_len (b.take k) a
      rw [List.length_take] at hlen
      have HC := Lib.hid (specPut_any ad2 (mergeW a (b.take k)) cc b[k] wr HR.out.2.1.2.2 (by omega) HR.out.2.1.1 HR.out.2.1.2.1)
      have HJ := Lib.hid (merge_step a b k hlt)
      obtain ⟨y, hy⟩ : ∃ y, b[k] = y := ⟨_, rfl⟩
      rw [hy] at c0 c1 c2 c3 e5 HC HJ
      clear hy hlen
      unfold slV R.val at HC
      go_wp2_with fail
      refine HC.out.mono ?_
      rintro e w2 ⟨v, rfl, ho2, hb2⟩
      obtain ⟨_, ad3, c4, rfl, hd1, hd2, hL3⟩ := own_addr ho2 (put_ne ho2)
      rw [← HJ.out] at ho2 hd1 hL3
      have HO := Lib.hid (own_less ho2 (base' := w.heap.size) HR.out.2.2.size)
      have HB2 := Lib.hid (HR.out.2.2.trans (hb2.mono HR.out.2.2.size))
      have H3 := Lib.hid hL3
      rw [← HJ.out]
      clear ho2 hb2 hL3 c0 c1 c2 c3 e5
      unfold slV
      go_wp2_with fail
      go_roundw
      case rel => exact ⟨k + 1, by omega, by go_num, ad3, c4, rfl, Lib.hid ⟨HO.out, ⟨hd1, hd2, H3.out⟩, HB2.out⟩⟩
      case measure => simp [intOf]; omega
    · have e : k = b.length := by omega
      go_wp2_with fail
      go_ret
      have h1 := HR.out.1
      rw [List.take_of_length_le (by omega)] at h1
      exact ⟨_, rfl, h1, (fun e => by cases e), HR.out.2.2⟩
open Classical in
noncomputable def mergeC (a b : List R) : Int := if 400 < a.length ∨ 400 < b.length then 2 else if rowsB a = true ∧ rowsB b = true then (if 6 < (mergeW a b).length then 9 else 0) else 1
noncomputable def mergeR (a b : List R) : List R := if mergeC a b = 0 then mergeW a b else []
noncomputable def putC (l : List R) (x : R) : Int := mergeC l [x]
noncomputable def putR (l : List R) (x : R) : List R := mergeR l [x]

/-- Block b holds an answer. -/
def SRow (W : World) (b : Nat) (s : Value) (c : Int) : Prop := W.heap[b]? = some (.cells #[s, .int .i64 c] 102 (0, 0))
theorem SRow.step {W w1 : World} {b N : Nat} {s : Value} {c : Int} (h : SRow W b s c) (hb : Below N W w1) (hlt : b < N) : SRow w1 b s c := (hb.block b hlt).trans h
theorem SRow.lt {W : World} {b : Nat} {s : Value} {c : Int} (h : SRow W b s c) : b < W.heap.size := (Array.getElem?_eq_some_iff.1 h).1
theorem SRow.alloc {W : World} {b : Nat} {s : Value} {c : Int} (h : SRow W b s c) (o : Obj) : SRow (W.alloc o) b s c := (heap_alloc_old W o h.lt).trans h
theorem SRow.new (W : World) (s : Value) (c : Int) : SRow (W.alloc (.cells #[s, .int .i64 c] 102)) W.heap.size s c := heap_alloc_new W _
theorem SRow.cells {W : World} {b : Nat} {s : Value} {c : Int} (h : SRow W b s c) : W.cell? ⟨b, 0, none⟩ = some s ∧ W.cell? ⟨b, 1, none⟩ = some (.int .i64 c) :=
  ⟨cell_of_row W b 0 _ _ (0, 0) h, cell_of_row W b 1 _ _ (0, 0) h⟩
theorem SRow.free {W : World} {b : Nat} {s : Value} {c : Int} (h : SRow W b s c) (j : Nat) : W.frozen? ⟨b, j, none⟩ = false := by
  unfold SRow at h
  simp [World.frozen?, h]

def outV (s : Value) (c : Int) : Value := .agg #[s, .int .i64 c]
/-- What a call hands back: a list in a row of its own, and a code. -/
def Answers (w : World) (e : Ending) (w' : World) (r : List R) (c : Int) : Prop := ∃ A cap, e = .returned (outV (slV A r cap) c) ∧ w'.ownsRow w.heap.size 42 5 (slV A r cap) r.length (flat r) ∧ r.length ≤ cap ∧ Lies w' w'.heap.size A r ∧ Below w.heap.size w w'
theorem own_nil (w : World) (base : Nat) : w.ownsRow base 42 5 (.slice none 0 0) 0 (flat []) := ⟨rfl, .inl ⟨rfl, rfl⟩⟩
theorem Answers.nil {w w' : World} {c : Int} (h : Below w.heap.size w w') : Answers w (.returned (outV (.slice none 0 0) c)) w' [] c :=
  ⟨Option.none, 0, rfl, own_nil _ _, Nat.le_refl _, fun h0 => absurd h0 (by simp), h⟩
theorem Answers.row {w w' : World} {A : Option Addr} {r : List R} {cap : Nat} {c : Int} (h : w'.ownsRow w.heap.size 42 5 (slV A r cap) r.length (flat r)) (hb : Below w.heap.size w w') : Answers w (.returned (outV (slV A r cap) c)) w' r c := by
  obtain ⟨_, A', c', e, hc, hL⟩ := own_lies h
  unfold slV at e
  injection e with e1 e2 e3
  subst e1 e3
  exact ⟨A, cap, rfl, h, hc, hL, hb⟩
theorem own_set2 {w : World} {base n : Nat} {v : Value} {xs : List Value} (h : w.ownsRow base 42 5 v n xs) {b : Nat} (hp : b < base) (u u' : Value) : ((w.setCell ⟨b, 0, none⟩ u).setCell ⟨b, 1, none⟩ u').ownsRow base 42 5 v n xs :=
  own_set (own_set h (p := ⟨b, 0, none⟩) hp u) (p := ⟨b, 1, none⟩) hp u'

set_option maxHeartbeats 600000 in
set_option maxRecDepth 100000 in
theorem specMergeOut_any (A B : Option Addr) (a b : List R) (ca cb : Nat) (w : World) (ha : Lies w w.heap.size A a) (hb : Lies w w.heap.size B b) (hla : a.length ≤ maxLen) (hlb : b.length ≤ maxLen)
    (ka : ∀ d ∈ a, Fits d) (kb : ∀ d ∈ b, Fits d) :
    Calls Tryz.prog 73 #[slV A a ca, slV B b cb] w fun e w' => Answers w e w' (mergeR a b) (mergeC a b) := by
  have hl1 := hla
  have hl2 := hlb
  unfold maxLen at hl1 hl2
  have HA := Lib.hid (fun W (hW : Below w.heap.size w W) => specStore_any A a ca W ((ha.below hW (Nat.le_refl _)).more hW.size) hla ka)
  have HB := Lib.hid (fun W (hW : Below w.heap.size w W) => specStore_any B b cb W ((hb.below hW (Nat.le_refl _)).more hW.size) hlb kb)
  have HC := Lib.hid (fun (h1 : a.length ≤ 400) (h2 : b.length ≤ 400) W (hW : Below w.heap.size w W) => specMerge_any A B a b ca cb W ((ha.below hW (Nat.le_refl _)).more hW.size) ((hb.below hW (Nat.le_refl _)).more hW.size) h1 h2)
  clear ha hb ka kb
  have B1 := (Below.refl w.heap.size w).alloc (Nat.le_refl _) (Obj.cells #[Value.slice none 0 0, Value.int IntKind.i64 0] 102)
  have hR := SRow.new w (.slice none 0 0) 0
  have hlt := hR.lt
  by_cases h400 : 400 < a.length ∨ 400 < b.length
  · have HV := Lib.hid (show mergeC a b = 2 by unfold mergeC; rw [if_pos h400])
    have HR := Lib.hid (show mergeR a b = [] by unfold mergeR; rw [HV.out]; rfl)
    have HB1 := Lib.hid B1
    rw [HV.out, HR.out]
    unfold slV
    by_cases h4 : 400 < a.length
    · go_enter Tryz.func73, Tryz.ntmps73
      go_wp2_with fail
      refine bodyPost_ret (v := outV (.slice none 0 0) 2) (by simp [results, Tryz.results73, go_sem, outV]) rfl ?_
      exact Answers.nil ((Below.refl w.heap.size w).alloc (Nat.le_refl _) _)
    · have h5 : 400 < b.length := by omega
      go_enter Tryz.func73, Tryz.ntmps73
      go_wp2_with fail
      refine bodyPost_ret (v := outV (.slice none 0 0) 2) (by simp [results, Tryz.results73, go_sem, outV]) rfl ?_
      exact Answers.nil ((Below.refl w.heap.size w).alloc (Nat.le_refl _) _)
  have h4 : ¬ 400 < a.length := by omega
  have h5 : ¬ 400 < b.length := by omega
  cases hda : rowsB a
  · have HV := Lib.hid (show mergeC a b = 1 by unfold mergeC; rw [if_neg h400, if_neg (by rw [hda]; rintro ⟨h, _⟩; cases h)])
    have HR := Lib.hid (show mergeR a b = [] by unfold mergeR; rw [HV.out]; rfl)
    rw [HV.out, HR.out]
    rw [hda] at HA
    clear hda
    unfold slV at HA ⊢
    go_enter Tryz.func73, Tryz.ntmps73
    go_wp2_with fail
    refine (HA.out _ B1).mono ?_
    rintro e w1 ⟨rfl, hb1⟩
    have hR1 := hR.step hb1 hlt
    have B2 := Lib.hid (B1.trans (hb1.mono B1.size))
    clear hb1 hR B1
    obtain ⟨r0, r1⟩ := hR1.cells
    have f0 := hR1.free 0
    have f1 := hR1.free 1
    clear hR1
    go_wp2_with fail
    refine bodyPost_ret (v := outV (.slice none 0 0) 1) (by simp [results, Tryz.results73, go_sem, outV, r0, r1]) rfl ?_
    exact Answers.nil ((B2.out.setCell (Nat.le_refl _) _).setCell (Nat.le_refl _) _)
  cases hdb : rowsB b
  · have HV := Lib.hid (show mergeC a b = 1 by unfold mergeC; rw [if_neg h400, if_neg (by rw [hdb]; rintro ⟨_, h⟩; cases h)])
    have HR := Lib.hid (show mergeR a b = [] by unfold mergeR; rw [HV.out]; rfl)
    rw [HV.out, HR.out]
    rw [hda] at HA
    rw [hdb] at HB
    clear hda hdb
    unfold slV at HA HB ⊢
    go_enter Tryz.func73, Tryz.ntmps73
    go_wp2_with fail
    refine (HA.out _ B1).mono ?_
    rintro e w1 ⟨rfl, hb1⟩
    have hR1 := hR.step hb1 hlt
    have B2 := Lib.hid (B1.trans (hb1.mono B1.size))
    have hlt1 := hR1.lt
    clear hb1 hR B1
    go_wp2_with fail
    refine (HB.out _ B2.out).mono ?_
    rintro e w2 ⟨rfl, hb2⟩
    have hR2 := hR1.step hb2 hlt1
    have B3 := Lib.hid (B2.out.trans (hb2.mono B2.out.size))
    clear hb2 hR1 B2
    obtain ⟨r0, r1⟩ := hR2.cells
    have f0 := hR2.free 0
    have f1 := hR2.free 1
    clear hR2
    go_wp2_with fail
    refine bodyPost_ret (v := outV (.slice none 0 0) 1) (by simp [results, Tryz.results73, go_sem, outV, r0, r1]) rfl ?_
    exact Answers.nil ((B3.out.setCell (Nat.le_refl _) _).setCell (Nat.le_refl _) _)
  have HV0 := Lib.hid (show mergeC a b = if 6 < (mergeW a b).length then 9 else 0 by unfold mergeC; rw [if_neg h400, if_pos ⟨hda, hdb⟩])
  have hl9 := merge_len b a
  have hj : (mergeW a b).length ≤ maxLen := by unfold maxLen; omega
  unfold maxLen at hj
  rw [hda] at HA
  rw [hdb] at HB
  clear hda hdb
  unfold slV at HA HB HC ⊢
  go_enter Tryz.func73, Tryz.ntmps73
  go_wp2_with fail
  refine (HA.out _ B1).mono ?_
  rintro e w1 ⟨rfl, hb1⟩
  have hR1 := hR.step hb1 hlt
  have B2 := Lib.hid (B1.trans (hb1.mono B1.size))
  have hlt1 := hR1.lt
  clear hb1 hR B1
  go_wp2_with fail
  refine (HB.out _ B2.out).mono ?_
  rintro e w2 ⟨rfl, hb2⟩
  have hR2 := hR1.step hb2 hlt1
  have B3 := Lib.hid (B2.out.trans (hb2.mono B2.out.size))
  have hlt2 := hR2.lt
  clear hb2 hR1 B2
  go_wp2_with fail
  refine (HC.out (by omega) (by omega) _ B3.out).mono ?_
  rintro e w3 ⟨v, rfl, ho3, hv3, hb3⟩
  have hR3 := hR2.step hb3 hlt2
  have B4 := Lib.hid (B3.out.trans (hb3.mono B3.out.size))
  obtain ⟨_, ad, c, rfl, hc1, hc2, hL⟩ := own_addr ho3 hv3
  have HO := Lib.hid ho3
  clear ho3 hv3 hb3 hR2 hL
  obtain ⟨r0, r1⟩ := hR3.cells
  have f0 := hR3.free 0
  have f1 := hR3.free 1
  clear hR3
  unfold slV
  by_cases h6 : 6 < (mergeW a b).length
  · have HV := Lib.hid (show mergeC a b = 9 by rw [HV0.out, if_pos h6])
    have HR := Lib.hid (show mergeR a b = [] by unfold mergeR; rw [HV.out]; rfl)
    go_wp2_with fail
    refine bodyPost_ret (v := outV (.slice none 0 0) 9) (by simp [results, Tryz.results73, go_sem, outV, r0, r1]) rfl ?_
    rw [HV.out, HR.out]
    exact Answers.nil ((B4.out.setCell (Nat.le_refl _) _).setCell (Nat.le_refl _) _)
  · have HV := Lib.hid (show mergeC a b = 0 by rw [HV0.out, if_neg h6])
    have HR := Lib.hid (show mergeR a b = mergeW a b by unfold mergeR; rw [HV.out]; rfl)
    go_wp2_with fail
    refine bodyPost_ret (v := outV (.slice (some ad) (mergeW a b).length c) 0) (by simp [results, Tryz.results73, go_sem, outV, r0, r1]) rfl ?_
    rw [HV.out, HR.out]
    exact Answers.row (own_less (own_set2 HO.out (b := w.heap.size) (by have := B3.out.size; omega) _ _) (by have := B3.out.size; omega)) ((B4.out.setCell (Nat.le_refl _) _).setCell (Nat.le_refl _) _)

theorem one_code (l : List R) (x : R) : mergeC l [x] = if 400 < l.length then 2 else if rowsB l = true ∧ rowB x = true then (if 6 < (putW l x).length then 9 else 0) else 1 := by
  unfold mergeC
  have e1 : (400 < l.length ∨ 400 < [x].length) ↔ 400 < l.length := by simp
  have e2 : rowsB [x] = true ↔ rowB x = true := ⟨fun h => ok_one.1 (ok_of h), fun h => rowsB_true (ok_one.2 h)⟩
  have e3 : (rowsB l = true ∧ rowsB [x] = true) ↔ (rowsB l = true ∧ rowB x = true) := by rw [e2]
  by_cases h1 : 400 < l.length
  · rw [if_pos (e1.2 h1), if_pos h1]
  · rw [if_neg (fun h => h1 (e1.1 h)), if_neg h1]
    by_cases h2 : rowsB l = true ∧ rowB x = true
    · rw [if_pos (e3.2 h2), if_pos h2, merge_one]
    · rw [if_neg (fun h => h2 (e3.1 h)), if_neg h2]

set_option maxHeartbeats 2000000 in
theorem specPutOut_any (ad : Addr) (l : List R) (cap : Nat) (x : R) (w : World) (h : Lies w w.heap.size (some ad) l) (hl : l.length ≤ 1048576) (hcap : l.length ≤ cap) (hcm : cap ≤ maxLen) (hk : ∀ d ∈ l, Fits d) (hx : Fits x) :
    Calls Tryz.prog 74 #[slV (some ad) l cap, x.val] w fun e w' => Answers w e w' (putR l x) (putC l x) := by
  have hlm : l.length ≤ maxLen := by unfold maxLen; omega
  have HA := Lib.hid (fun W (hW : Below w.heap.size w W) => specStore_any (some ad) l cap W ((h.below hW (Nat.le_refl _)).more hW.size) hlm hk)
  have HX := Lib.hid (fun W => specRow_any x W hx)
  have HP := Lib.hid (fun W (hW : Below w.heap.size w W) => specPut_any ad l cap x W ((h.below hW (Nat.le_refl _)).more hW.size) hl hcap hcm)
  have HC := Lib.hid (one_code l x)
  have HRr := Lib.hid (show mergeR l [x] = if mergeC l [x] = 0 then putW l x else [] from rfl)
  clear h hk hx
  unfold putR putC
  have B0 := (Below.refl w.heap.size w).alloc (Nat.le_refl _) x.obj
  have B1 := B0.alloc B0.size (Obj.cells #[Value.slice none 0 0, Value.int IntKind.i64 0] 102)
  have hX := (RowRow.new w 42 x).alloc (Obj.cells #[Value.slice none 0 0, Value.int IntKind.i64 0] 102)
  have hR := SRow.new (w.alloc x.obj) (.slice none 0 0) 0
  rw [World.size_alloc] at hR
  have hlt := hR.lt
  have hltx := hX.lt
  have hs1 : w.heap.size ≤ w.heap.size + 1 := Nat.le_succ _
  by_cases h4 : 400 < l.length
  · have HV := Lib.hid (show mergeC l [x] = 2 by rw [HC.out, if_pos h4])
    have HR := Lib.hid (show mergeR l [x] = [] by rw [HRr.out, HV.out]; rfl)
    have HB1 := Lib.hid B1
    rw [HV.out, HR.out]
    unfold slV R.val
    go_enter Tryz.func74, Tryz.ntmps74
    go_wp2_with fail
    refine bodyPost_ret (v := outV (.slice none 0 0) 2) (by simp [results, Tryz.results74, go_sem, outV]) rfl ?_
    exact Answers.nil (B0.alloc B0.size _)
  cases hda : rowsB l
  · have HV := Lib.hid (show mergeC l [x] = 1 by rw [HC.out, if_neg h4, if_neg (by rw [hda]; rintro ⟨h, _⟩; cases h)])
    have HR := Lib.hid (show mergeR l [x] = [] by rw [HRr.out, HV.out]; rfl)
    rw [HV.out, HR.out]
    rw [hda] at HA
    clear hda
    unfold slV at HA ⊢
    unfold R.val
    go_enter Tryz.func74, Tryz.ntmps74
    go_wp2_with fail
    refine (HA.out _ B1).mono ?_
    rintro e w1 ⟨rfl, hb1⟩
    have hR1 := hR.step hb1 hlt
    have B2 := Lib.hid (B1.trans (hb1.mono B1.size))
    clear hb1 hR B1
    obtain ⟨r0, r1⟩ := hR1.cells
    have f0 := hR1.free 0
    have f1 := hR1.free 1
    clear hR1
    go_wp2_with fail
    refine bodyPost_ret (v := outV (.slice none 0 0) 1) (by simp [results, Tryz.results74, go_sem, outV, r0, r1]) rfl ?_
    exact Answers.nil ((B2.out.setCell hs1 _).setCell hs1 _)
  cases hdb : rowB x
  · have HV := Lib.hid (show mergeC l [x] = 1 by rw [HC.out, if_neg h4, if_neg (by rw [hdb]; rintro ⟨_, h⟩; cases h)])
    have HR := Lib.hid (show mergeR l [x] = [] by rw [HRr.out, HV.out]; rfl)
    rw [HV.out, HR.out]
    rw [hda] at HA
    rw [hdb] at HX
    clear hda hdb
    unfold slV at HA ⊢
    unfold R.val at HX ⊢
    go_enter Tryz.func74, Tryz.ntmps74
    go_wp2_with fail
    refine (HA.out _ B1).mono ?_
    rintro e w1 ⟨rfl, hb1⟩
    have hR1 := hR.step hb1 hlt
    have hX1 := hX.step hb1 hltx
    have B2 := Lib.hid (B1.trans (hb1.mono B1.size))
    have hlt1 := hR1.lt
    clear hb1 hR B1 hX
    obtain ⟨x0, x1, x2, x3, x4⟩ := hX1.cells
    go_wp2_with fail
    refine (HX.out _).mono ?_
    rintro e w2 ⟨rfl, hb2⟩
    have hR2 := hR1.step hb2 hlt1
    have B3 := Lib.hid (B2.out.trans (hb2.mono B2.out.size))
    clear hb2 hR1 B2 hX1 x0 x1 x2 x3 x4
    obtain ⟨r0, r1⟩ := hR2.cells
    have f0 := hR2.free 0
    have f1 := hR2.free 1
    clear hR2
    go_wp2_with fail
    refine bodyPost_ret (v := outV (.slice none 0 0) 1) (by simp [results, Tryz.results74, go_sem, outV, r0, r1]) rfl ?_
    exact Answers.nil ((B3.out.setCell hs1 _).setCell hs1 _)
  have HV0 := Lib.hid (show mergeC l [x] = if 6 < (putW l x).length then 9 else 0 by rw [HC.out, if_neg h4, if_pos ⟨hda, hdb⟩])
  have hl9 := put_len l x
  have hj : (putW l x).length ≤ 1048577 := by omega
  rw [hda] at HA
  rw [hdb] at HX
  clear hda hdb hl9
  unfold slV at HA HP ⊢
  unfold R.val at HX HP ⊢
  go_enter Tryz.func74, Tryz.ntmps74
  go_wp2_with fail
  refine (HA.out _ B1).mono ?_
  rintro e w1 ⟨rfl, hb1⟩
  have hR1 := hR.step hb1 hlt
  have hX1 := hX.step hb1 hltx
  have B2 := Lib.hid (B1.trans (hb1.mono B1.size))
  have hlt1 := hR1.lt
  have hltx1 := hX1.lt
  clear hb1 hR B1 hX
  obtain ⟨x0, x1, x2, x3, x4⟩ := hX1.cells
  go_wp2_with fail
  clear x0 x1 x2 x3 x4
  refine (HX.out _).mono ?_
  rintro e w2 ⟨rfl, hb2⟩
  have hR2 := hR1.step hb2 hlt1
  have hX2 := hX1.step hb2 hltx1
  have B3 := Lib.hid (B2.out.trans (hb2.mono B2.out.size))
  have hlt2 := hR2.lt
  clear hb2 hR1 B2 hX1
  obtain ⟨x0, x1, x2, x3, x4⟩ := hX2.cells
  go_wp2_with fail
  clear x0 x1 x2 x3 x4
  refine (HP.out _ B3.out).mono ?_
  rintro e w3 ⟨v, rfl, ho3, hb3⟩
  have hR3 := hR2.step hb3 hlt2
  have B4 := Lib.hid (B3.out.trans (hb3.mono B3.out.size))
  obtain ⟨_, ad3, c, rfl, hc1, hc2, hL⟩ := own_addr ho3 (put_ne ho3)
  have HO := Lib.hid ho3
  clear ho3 hb3 hR2 hL hX2
  obtain ⟨r0, r1⟩ := hR3.cells
  have f0 := hR3.free 0
  have f1 := hR3.free 1
  clear hR3
  unfold slV
  by_cases h6 : 6 < (putW l x).length
  · have HV := Lib.hid (show mergeC l [x] = 9 by rw [HV0.out, if_pos h6])
    have HR := Lib.hid (show mergeR l [x] = [] by rw [HRr.out, HV.out]; rfl)
    go_wp2_with fail
    refine bodyPost_ret (v := outV (.slice none 0 0) 9) (by simp [results, Tryz.results74, go_sem, outV, r0, r1]) rfl ?_
    rw [HV.out, HR.out]
    exact Answers.nil ((B4.out.setCell hs1 _).setCell hs1 _)
  · have HV := Lib.hid (show mergeC l [x] = 0 by rw [HV0.out, if_neg h6])
    have HR := Lib.hid (show mergeR l [x] = putW l x by rw [HRr.out, HV.out]; rfl)
    go_wp2_with fail
    refine bodyPost_ret (v := outV (.slice (some ad3) (putW l x).length c) 0) (by simp [results, Tryz.results74, go_sem, outV, r0, r1]) rfl ?_
    rw [HV.out, HR.out]
    exact Answers.row (own_less (own_set2 HO.out (b := w.heap.size + 1) (by have := hlt2; omega) _ _) (by have := B3.out.size; omega)) ((B4.out.setCell hs1 _).setCell hs1 _)
end Go.Proofs.YtoagdpbbojlgfaaGreat.Sto
