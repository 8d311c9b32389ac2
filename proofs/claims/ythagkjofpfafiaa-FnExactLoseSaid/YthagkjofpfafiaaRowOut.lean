/-
  What StorePut and StoreMerge answer; the given model's.
-/
import Derived.Test.YthagkjofpfafiaaRowPut
import Derived.Test.YthagkjofpfafiaaRowRight
import Derived.StillTailTactics
namespace Go.Proofs.Ythagkjofpfafiaa.Sto
open Go.ChangeShapes Go.WideShapes Go.ChangeAt Go.RowKit
open Dep (I D zero kl list_eq add_block add_add row_set get_ne get_eq)
set_option linter.unusedVariables false
set_option maxRecDepth 100000

attribute [local go_sem] sem_pure0 sem_store0

theorem run_append_rows2 (base : Nat) (v : Value) (n : Nat) (o : List R) (w : World) (hown : w.ownsRow base 62 5 v n (flat o)) (B : Nat) (A : Option Addr) (m : List R) (c : Nat) (hr : Lies w B A m) (h63 : n + m.length ≤ 2097152) (hbase : base ≤ w.heap.size) :
    ∃ v' w', (Builtin.append_ #[49, 49] 49 #[v, slV A m c]).run Try.prog w = .ok v' w' ∧ w'.ownsRow base 62 5 v' (n + m.length) (flat (o ++ m)) ∧ w.grownBy w' v.ownBlock ∧
      (v' = .slice none 0 0 → v = .slice none 0 0) := by
  obtain ⟨i0, hi0, hz0, hz1, hz2⟩ := info_parts row_info
  rw [flat_append]
  rcases A with _ | ad
  · have hm : m = [] := by
      cases m with
      | nil => rfl
      | cons d m => obtain ⟨ad, e, _⟩ := hr (by simp); cases e
    subst hm
    refine ⟨v, w, ?_, by simpa [flat] using hown, World.grownBy.refl w _, id⟩
    unfold slV
    rcases hown.2 with ⟨rfl, rfl⟩ | ⟨g, cap, cur, rfl, _, _, hnc, _⟩
    · simp [Builtin.append_, run_underlying Try.underlying49, sizeOf, typeInfo, hi0, Builtin.lenOf, Builtin.firstCells]
    · simp [Builtin.append_, run_underlying Try.underlying49, sizeOf, typeInfo, hi0, Builtin.lenOf, Builtin.firstCells, hnc, storeCells]
  · obtain ⟨v', w', hrun, h2, h3, h4, h5⟩ := run_append_own_at (P := Try.prog) w base 49 49 62 i0 _ 5 56 Try.underlying49 hi0 hz0 hz1 hz2 rfl (by omega) v n (flat o) hown ad m.length c (flat m) (flat_length m) (fun j u hu => hr.cell hu) (flat_one m) (by simp only [maxLen]; omega) (by omega) hbase
    exact ⟨v', w', hrun, h2, h3, fun e => (h4.1 e).1⟩

theorem wpList_append_rows2 {ops : Array Oper} {rest : List Oper} {o : Oper} {a : Act} {w : World} {Q : Exit → Act → World → Prop} (hgd : o.guard = none) {s x : Operand}
    (ho : o.op = .call { callee := .builtin .append, args := #[s, x], argTypes := #[49, 49] }) (hty : o.type = 49) {base : Nat} {v : Value} {n : Nat} {l : List R} {A : Option Addr} {j c B : Nat} (m : List R)
    (hs : a.eval s = v) (hx : a.eval x = .slice A j c) (hj : m.length = j) (hown : w.ownsRow base 62 5 v n (flat l)) (hr : Lies w B A m) (h63 : n + m.length ≤ 2097152) (hbase : base ≤ w.heap.size)
    (h : ∀ v' w', w'.ownsRow base 62 5 v' (n + m.length) (flat (l ++ m)) → w.grownBy w' v.ownBlock → (v' = .slice none 0 0 → v = .slice none 0 0) → wpList Try.prog ops Q rest (a.put o.dst v') w') : wpList Try.prog ops Q (o :: rest) a w := by
  refine wpList_plain hgd fun K hK => ?_
  obtain ⟨v', w', hrun, h2, h3, h4⟩ := run_append_rows2 base v n l w hown B A m c hr h63 hbase
  unfold slV at hrun
  rw [hj] at hrun
  unfold Oper.wp execOp
  rw [hty]
  simp only [ho, resolve, invoke, builtin, Sem.run_bind, Sem.run_pure, Result.andThen_ok, List.map_toArray, List.map_cons, List.map_nil, hs, hx, hrun]
  exact hK _ _ (h v' w' h2 h3 h4)

/-- A row of one's own that is not nil, as a slice with an address. -/
theorem own_addr {w : World} {base n : Nat} {v : Value} {o : List R} (h : w.ownsRow base 62 5 v n (flat o)) (hv : v = .slice none 0 0 → False) :
    n = o.length ∧ ∃ ad c, v = slV (some ad) o c ∧ o.length ≤ c ∧ c ≤ maxLen ∧ Lies w w.heap.size (some ad) o := by
  obtain ⟨hn, A, c, e, hc, hL⟩ := own_lies h
  refine ⟨hn, ?_⟩
  rcases h.2 with ⟨rfl, _⟩ | ⟨g, cap, cur, rfl, _, _, _, hcm, _⟩
  · exact absurd rfl hv
  · unfold slV at e
    injection e with e1 e2 e3
    subst e1 e3
    exact ⟨_, _, by unfold slV; rw [hn], hc, hcm, hL⟩
theorem put_ne {w : World} {base n : Nat} {v : Value} {l : List R} {x : R} (h : w.ownsRow base 62 5 v n (flat (putW l x))) : v = .slice none 0 0 → False := by
  rintro rfl
  obtain ⟨hn, A, c, e, hc, hL⟩ := own_lies h
  rcases h.2 with ⟨_, h0⟩ | ⟨g, cap, cur, e, _⟩
  · have : 0 < (putW l x).length := by
      cases l with
      | nil => simp [putW]
      | cons y l => rw [putW]; split <;> (try split) <;> simp
    omega
  · cases e
theorem merge_step (a b : List R) (k : Nat) (h : k < b.length) : mergeW a (b.take (k + 1)) = putW (mergeW a (b.take k)) b[k] := by
  unfold mergeW
  rw [show b.take (k + 1) = b.take k ++ [b[k]] by simp, List.foldl_append]
  rfl

set_option maxHeartbeats 600000 in
set_option maxRecDepth 100000 in
theorem specMerge_any (A B : Option Addr) (a b : List R) (ca cb : Nat) (w : World) (ha : Lies w w.heap.size A a) (hb : Lies w w.heap.size B b) (hla : a.length ≤ 400) (hlb : b.length ≤ 400) :
    Calls Try.prog 55 #[slV A a ca, slV B b cb] w fun e w' => ∃ v, e = .returned v ∧ w'.ownsRow w.heap.size 62 5 v (mergeW a b).length (flat (mergeW a b)) ∧ (v = .slice none 0 0 → False) ∧ Below w.heap.size w w' := by
  have HA := Lib.hid (ha.alloc (Nat.le_refl _) (Obj.cells #[] 62))
  have HB := Lib.hid hb
  clear ha hb
  unfold slV
  go_enter Try.func55, Try.ntmps55
  go_wp2_with (at_builtin; refine wpList_append_rows2 rfl rfl rfl a rfl rfl rfl (own_none w) HA.out (by omega) (by simp) ?_; intro v1 W1 ho1 hg1 hn1; rw [Nat.zero_add, List.nil_append] at ho1; have B1 := Lib.hid (((Below.refl w.heap.size w).alloc (Nat.le_refl _) _).grown hg1 (by simp) (fun j e => by cases e; exact Nat.le_refl _)); have HO1 := Lib.hid ho1; have HN1 := Lib.hid (fun e => by cases hn1 e : v1 = .slice none 0 0 → False); clear ho1 hg1 hn1)
  obtain ⟨_, ad, c, rfl, hc1, hc2, hL⟩ := own_addr HO1.out HN1.out
  unfold slV
  go_loopw [5, 6] (fun o i wr => ∃ k : Nat, k ≤ b.length ∧ i = .int .i64 k ∧ ∃ ad c, o = .slice (some ad) (mergeW a (b.take k)).length c ∧ Hid (wr.ownsRow w.heap.size 62 5 (slV (some ad) (mergeW a (b.take k)) c) (mergeW a (b.take k)).length (flat (mergeW a (b.take k))) ∧ ((mergeW a (b.take k)).length ≤ c ∧ c ≤ maxLen ∧ Lies wr wr.heap.size (some ad) (mergeW a (b.take k))) ∧ Below w.heap.size w wr)) (fun _ i _ => b.length - (intOf i).toNat)
  case atStart => exact ⟨0, by omega, rfl, ad, c, rfl, Lib.hid ⟨HO1.out, ⟨hc1, hc2, hL⟩, B1.out⟩⟩
  case round =>
    obtain ⟨k, hk, rfl, ad2, cc, rfl, HR⟩ := hrel
    by_cases hlt : k < b.length
    · obtain ⟨bd, rfl, _, c0, c1, c2, c3, e5⟩ := (HB.out.below HR.out.2.2 (Nat.le_refl _)).at_ hlt
      have hlen := merge_len (b.take k) a
      rw [List.length_take] at hlen
      have HC := Lib.hid (specPut_any ad2 (mergeW a (b.take k)) cc b[k] wr HR.out.2.1.2.2 (by omega) HR.out.2.1.1 HR.out.2.1.2.1)
      have HJ := Lib.hid (merge_step a b k hlt)
      obtain ⟨y, hy⟩ : ∃ y, b[k] = y := ⟨_, rfl⟩
      rw [hy] at c0 c1 c2 c3 e5 HC HJ
      clear hy hlen
      unfold slV R.val at HC
      go_wp2_with fail
      refine HC.out.mono ?_
      rintro e w2 ⟨v, rfl, ho2, hb2⟩
      obtain ⟨_, ad3, c4, rfl, hd1, hd2, hL3⟩ := own_addr ho2 (put_ne ho2)
      rw [← HJ.out] at ho2 hd1 hL3
      have HO := Lib.hid (own_less ho2 (base' := w.heap.size) HR.out.2.2.size)
      have HB2 := Lib.hid (HR.out.2.2.trans (hb2.mono HR.out.2.2.size))
      have H3 := Lib.hid hL3
      rw [← HJ.out]
      clear ho2 hb2 hL3 c0 c1 c2 c3 e5
      unfold slV
      go_wp2_with fail
      go_roundw
      case rel => exact ⟨k + 1, by omega, by go_num, ad3, c4, rfl, Lib.hid ⟨HO.out, ⟨hd1, hd2, H3.out⟩, HB2.out⟩⟩
      case measure => simp [intOf]; omega
    · have e : k = b.length := by omega
      go_wp2_with fail
      go_ret
      have h1 := HR.out.1
      rw [List.take_of_length_le (by omega)] at h1
      exact ⟨_, rfl, h1, (fun e => by cases e), HR.out.2.2⟩
open Classical in
noncomputable def mergeC (a b : List R) : Int := if 400 < a.length ∨ 400 < b.length then 2 else if rowsB a = true ∧ rowsB b = true then (if 6 < (mergeW a b).length then 9 else 0) else 1
noncomputable def mergeR (a b : List R) : List R := if mergeC a b = 0 then mergeW a b else []
noncomputable def putC (l : List R) (x : R) : Int := mergeC l [x]
noncomputable def putR (l : List R) (x : R) : List R := mergeR l [x]

def outV (s : Value) (c : Int) : Value := .agg #[s, .int .i64 c]
/-- What a call hands back: a list in a row of its own, and a code. -/
def Answers (w : World) (e : Ending) (w' : World) (r : List R) (c : Int) : Prop := ∃ A cap, e = .returned (outV (slV A r cap) c) ∧ w'.ownsRow w.heap.size 62 5 (slV A r cap) r.length (flat r) ∧ r.length ≤ cap ∧ Lies w' w'.heap.size A r ∧ Below w.heap.size w w'
theorem own_nil (w : World) (base : Nat) : w.ownsRow base 62 5 (.slice none 0 0) 0 (flat []) := ⟨rfl, .inl ⟨rfl, rfl⟩⟩
theorem Answers.nil {w w' : World} {c : Int} (h : Below w.heap.size w w') : Answers w (.returned (outV (.slice none 0 0) c)) w' [] c :=
  ⟨Option.none, 0, rfl, own_nil _ _, Nat.le_refl _, fun h0 => absurd h0 (by simp), h⟩
theorem Answers.row {w w' : World} {A : Option Addr} {r : List R} {cap : Nat} {c : Int} (h : w'.ownsRow w.heap.size 62 5 (slV A r cap) r.length (flat r)) (hb : Below w.heap.size w w') : Answers w (.returned (outV (slV A r cap) c)) w' r c := by
  obtain ⟨_, A', c', e, hc, hL⟩ := own_lies h
  unfold slV at e
  injection e with e1 e2 e3
  subst e1 e3
  exact ⟨A, cap, rfl, h, hc, hL, hb⟩
theorem own_set2 {w : World} {base n : Nat} {v : Value} {xs : List Value} (h : w.ownsRow base 62 5 v n xs) {b : Nat} (hp : b < base) (u u' : Value) : ((w.setCell ⟨b, 0, none⟩ u).setCell ⟨b, 1, none⟩ u').ownsRow base 62 5 v n xs :=
  own_set (own_set h (p := ⟨b, 0, none⟩) hp u) (p := ⟨b, 1, none⟩) hp u'

theorem one_code (l : List R) (x : R) : mergeC l [x] = if 400 < l.length then 2 else if rowsB l = true ∧ rowB x = true then (if 6 < (putW l x).length then 9 else 0) else 1 := by
  unfold mergeC
  have e1 : (400 < l.length ∨ 400 < [x].length) ↔ 400 < l.length := by simp
  have e2 : rowsB [x] = true ↔ rowB x = true := ⟨fun h => ok_one.1 (ok_of h), fun h => rowsB_true (ok_one.2 h)⟩
  have e3 : (rowsB l = true ∧ rowsB [x] = true) ↔ (rowsB l = true ∧ rowB x = true) := by rw [e2]
  by_cases h1 : 400 < l.length
  · rw [if_pos (e1.2 h1), if_pos h1]
  · rw [if_neg (fun h => h1 (e1.1 h)), if_neg h1]
    by_cases h2 : rowsB l = true ∧ rowB x = true
    · rw [if_pos (e3.2 h2), if_pos h2, merge_one]
    · rw [if_neg (fun h => h2 (e3.1 h)), if_neg h2]

end Go.Proofs.Ythagkjofpfafiaa.Sto
