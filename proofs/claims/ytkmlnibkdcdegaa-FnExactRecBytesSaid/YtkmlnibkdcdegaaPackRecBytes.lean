/-
  Several texts in one: StrApp, RecText, RecNum, RecBytes, RecIBytes, RecBytesLaw.
-/
import Derived.Test.YtkmlnibkdcdegaaStr
import Derived.Test.YtkmlnibkdcdegaaBlk
import Derived.Laws.AppendOwn
import Derived.Maps.AppendAt
import Derived.Test.YtkmlnibkdcdegaaRecMath
import Derived.Test.YtkmlnibkdcdegaaSeal
import Derived.Deep.RegionHeld3
import Derived.Test.YtkmlnibkdcdegaaRecRight
import Derived.Deep.DeepCutAuto
import Derived.Test.YtkmlnibkdcdegaaRecIRight
/-
  Appending strings to a row of one's own.
-/
namespace Go.Proofs.Ytkmlnibkdcdegaa.Str
open Go.ChangeShapes Go.WideShapes Go.ChangeAt Go.RowKit
open Dep (add_block add_add)
set_option linter.unusedVariables false
set_option maxRecDepth 100000
set_option linter.unusedSimpArgs false

/-- The cells of strings. -/
def flat (l : List ByteArray) : List Value := l.map .string
theorem flat_append (l m : List ByteArray) : flat (l ++ m) = flat l ++ flat m := by simp [flat]
theorem flat_length (l : List ByteArray) : (flat l).length = l.length * 1 := by simp [flat]
theorem flat_at {l : List ByteArray} {q : Nat} (hq : q < l.length) : (flat l)[q]? = some (.string l[q]) := by simp [flat, hq]
theorem flat_one (l : List ByteArray) : ∀ u ∈ flat l, u.oneCell' = true := by
  intro u hu
  simp only [flat, List.mem_map] at hu
  obtain ⟨d, _, rfl⟩ := hu
  rfl
theorem Lies.cell {w : World} {B : Nat} {ad : Addr} {l : List ByteArray} (h : Lies w B (some ad) l) {j : Nat} {u : Value} (hu : (flat l)[j]? = some u) : w.cell? (ad.add j) = some u := by
  have hj : j < l.length := by have := (List.getElem?_eq_some_iff.1 hu).1; rw [flat_length] at this; omega
  obtain ⟨ad', e, _, c0⟩ := h.at_ hj
  cases e
  rw [flat_at hj] at hu
  rw [← hu]; exact c0

/-- What a row of one's own reads as. -/
theorem own_lies {w : World} {base n : Nat} {v : Value} {o : List ByteArray} (h : w.ownsRow base 9 1 v n (flat o)) :
    n = o.length ∧ ∃ A c, v = slV A o c ∧ o.length ≤ c ∧ Lies w w.heap.size A o := by
  have hn : n = o.length := by have := h.1; rw [flat_length] at this; omega
  refine ⟨hn, ?_⟩
  subst hn
  rcases h.2 with ⟨rfl, h0⟩ | ⟨g, cap, cur, rfl, hb, hh, hnc, hcm, hsz, hx⟩
  · refine ⟨none, 0, by unfold slV; rw [h0], by omega, fun hp => absurd hp (by omega)⟩
  · refine ⟨_, cap, rfl, hnc, fun hp => ⟨_, rfl, (Array.getElem?_eq_some_iff.1 hh).1, fun j hj => ?_⟩⟩
    have e : (Addr.add ⟨g, 0, none⟩ j) = ⟨g, j, none⟩ := by
      unfold Addr.add
      split
      · rename_i h; rw [h]
      · simp
    rw [e, cell_of_row w g j cur _ (0, 0) hh, ← Array.getElem?_toList]
    have := flat_at hj
    rw [← hx, List.getElem?_take, if_pos (by omega)] at this
    exact this
/-- An address that is none stands for no strings. -/
theorem own_some {w : World} {base n : Nat} {v : Value} {o : List ByteArray} (h : w.ownsRow base 9 1 v n (flat o)) (ho : 0 < o.length) : ∃ g c, v = .slice (some ⟨g, 0, none⟩) o.length c ∧ o.length ≤ c ∧ (∀ j (hj : j < o.length), w.cell? ⟨g, j, none⟩ = some (.string o[j])) ∧ g < w.heap.size := by
  obtain ⟨hn, A, c, e, hc, hL⟩ := own_lies h
  subst hn
  rcases h.2 with ⟨rfl, h0⟩ | ⟨g, cap, cur, rfl, hb, hh, hnc, hcm, hsz, hx⟩
  · omega
  · refine ⟨g, cap, rfl, hnc, fun j hj => ?_, (Array.getElem?_eq_some_iff.1 hh).1⟩
    rw [cell_of_row w g j cur _ (0, 0) hh, ← Array.getElem?_toList]
    have := flat_at hj
    rw [← hx, List.getElem?_take, if_pos (by omega)] at this
    exact this

theorem run_append_strs (base : Nat) (v : Value) (n : Nat) (o : List ByteArray) (w : World) (hown : w.ownsRow base 9 1 v n (flat o)) (B : Nat) (ad : Addr) (m : List ByteArray) (c : Nat) (hr : Lies w B (some ad) m) (h63 : n + m.length ≤ 4194304) (hbase : base ≤ w.heap.size) :
    ∃ v' w', (Builtin.append_ #[48, 48] 48 #[v, slV (some ad) m c]).run Try.prog w = .ok v' w' ∧ w'.ownsRow base 9 1 v' (n + m.length) (flat (o ++ m)) ∧ w.grownBy w' v.ownBlock := by
  obtain ⟨i0, hi0, hz0, hz1, hz2⟩ := info_parts str_info
  rw [flat_append]
  obtain ⟨v', w', hrun, h2, h3, _, h5⟩ := run_append_own_at (P := Try.prog) w base 48 48 9 i0 _ 1 16 Try.underlying48 hi0 hz0 hz1 hz2 rfl (by omega) v n (flat o) hown ad m.length c (flat m) (flat_length m) (fun j u hu => hr.cell hu) (flat_one m) (by simp only [maxLen]; omega) (by omega) hbase
  exact ⟨v', w', hrun, h2, h3⟩
theorem wp_append_strs {o : Oper} {a : Act} {w : World} {K : Act → World → Prop} {Q : Exit → Act → World → Prop} {s x : Operand}
    (ho : o.op = .call { callee := .builtin .append, args := #[s, x], argTypes := #[48, 48] }) (hty : o.type = 48) {base : Nat} {v : Value} {n : Nat} {l : List ByteArray} {A : Addr} {j c B : Nat} (m : List ByteArray)
    (hs : a.eval s = v) (hx : a.eval x = .slice (some A) j c) (hj : m.length = j) (hown : w.ownsRow base 9 1 v n (flat l)) (hr : Lies w B (some A) m) (h63 : n + m.length ≤ 4194304) (hbase : base ≤ w.heap.size)
    (h : ∀ v' w', w'.ownsRow base 9 1 v' (n + m.length) (flat (l ++ m)) → w.grownBy w' v.ownBlock → K (a.put o.dst v') w') : Oper.wp Try.prog o a w K Q := by
  obtain ⟨v', w', hrun, h2, h3⟩ := run_append_strs base v n l w hown B A m c hr h63 hbase
  unfold slV at hrun
  rw [hj] at hrun
  unfold Oper.wp execOp
  rw [hty]
  simp only [ho, resolve, invoke, builtin, Sem.run_bind, Sem.run_pure, Result.andThen_ok, List.map_toArray, List.map_cons, List.map_nil, hs, hx, hrun]
  exact h v' w' h2 h3
theorem wpList_append_strs {ops : Array Oper} {rest : List Oper} {o : Oper} {a : Act} {w : World} {Q : Exit → Act → World → Prop} (hgd : o.guard = none) {s x : Operand}
    (ho : o.op = .call { callee := .builtin .append, args := #[s, x], argTypes := #[48, 48] }) (hty : o.type = 48) {base : Nat} {v : Value} {n : Nat} {l : List ByteArray} {A : Addr} {j c B : Nat} (m : List ByteArray)
    (hs : a.eval s = v) (hx : a.eval x = .slice (some A) j c) (hj : m.length = j) (hown : w.ownsRow base 9 1 v n (flat l)) (hr : Lies w B (some A) m) (h63 : n + m.length ≤ 4194304) (hbase : base ≤ w.heap.size)
    (h : ∀ v' w', w'.ownsRow base 9 1 v' (n + m.length) (flat (l ++ m)) → w.grownBy w' v.ownBlock → wpList Try.prog ops Q rest (a.put o.dst v') w') : wpList Try.prog ops Q (o :: rest) a w := by
  refine wpList_plain hgd fun K hK => ?_
  exact wp_append_strs ho hty m hs hx hj hown hr h63 hbase fun v' w' h2 h3 => hK _ _ (h v' w' h2 h3)

theorem own_none (w : World) (base : Nat) : w.ownsRow base 9 1 (.slice none 0 0) 0 (flat []) := ⟨rfl, .inl ⟨rfl, rfl⟩⟩
theorem own_step {w w' : World} {base n : Nat} {v : Value} {xs : List Value} (h : w.ownsRow base 9 1 v n xs) {N : Nat} (hb : Below N w w') (hN : w.heap.size ≤ N) : w'.ownsRow base 9 1 v n xs := by
  refine ⟨h.1, h.2.imp id ?_⟩
  rintro ⟨g, cap, cur, e, hb', hh, r⟩
  exact ⟨g, cap, cur, e, hb', (hb.block g (by have := (Array.getElem?_eq_some_iff.1 hh).1; omega)).trans hh, r⟩
theorem own_alloc {w : World} {base n : Nat} {v : Value} {xs : List Value} (h : w.ownsRow base 9 1 v n xs) (o : Obj) : (w.alloc o).ownsRow base 9 1 v n xs := by
  refine ⟨h.1, h.2.imp id ?_⟩
  rintro ⟨g, cap, cur, e, hb, hh, r⟩
  exact ⟨g, cap, cur, e, hb, (heap_alloc_old w o (Array.getElem?_eq_some_iff.1 hh).1).trans hh, r⟩
theorem own_less {w : World} {base base' n : Nat} {v : Value} {xs : List Value} (h : w.ownsRow base 9 1 v n xs) (hb : base' ≤ base) : w.ownsRow base' 9 1 v n xs :=
  ⟨h.1, h.2.imp id fun ⟨g, cap, cur, e, hb', r⟩ => ⟨g, cap, cur, e, by omega, r⟩⟩
theorem ownBlock_base {w : World} {base n : Nat} {v : Value} {xs : List Value} (h : w.ownsRow base 9 1 v n xs) : ∀ k, v.ownBlock = some k → base ≤ k := by
  rcases h.2 with ⟨rfl, _⟩ | ⟨g, cap, cur, rfl, hb, _⟩
  · intro k e; cases e
  · intro k e; cases e; exact hb
theorem blk_not_row {W : World} {b t : Nat} {cs : Array Value} {base n : Nat} {v : Value} {xs : List Value} (h : Blk W b t cs) (ht : t ≠ 9) (ho : W.ownsRow base 9 1 v n xs) : some b ≠ v.ownBlock := by
  rcases ho.2 with ⟨rfl, _⟩ | ⟨g, cap, cur, rfl, _, hg, _⟩
  · intro e; cases e
  · intro e
    cases e
    rw [show W.heap[g]? = _ from h] at hg
    injection hg with hg
    injection hg with _ h2
    exact ht h2
/-- A row that was just made of strings. -/
theorem new_own (w : World) (l : List ByteArray) (hl : l.length ≤ 1000) (base : Nat) (hb : base ≤ w.heap.size) : (w.alloc (.cells (flat l).toArray 9)).ownsRow base 9 1 (.slice (some ⟨w.heap.size, 0, none⟩) l.length l.length) l.length (flat l) :=
  ⟨flat_length l, .inr ⟨_, l.length, (flat l).toArray, rfl, hb, heap_alloc_new w _, Nat.le_refl _, by simp only [maxLen]; omega, by simp [flat], by rw [List.take_of_length_le (by simp [flat])]⟩⟩
theorem new_lies (w : World) (l : List ByteArray) : Lies (w.alloc (.cells (flat l).toArray 9)) (w.alloc (.cells (flat l).toArray 9)).heap.size (some ⟨w.heap.size, 0, none⟩) l := fun _ => by
  refine ⟨_, rfl, by simp, fun j hj => ?_⟩
  have e : (Addr.add ⟨w.heap.size, 0, none⟩ j) = ⟨w.heap.size, j, none⟩ := by
    unfold Addr.add
    split
    · rename_i h; rw [h]
    · simp
  rw [e, cell_of_row _ w.heap.size j _ _ (0, 0) (heap_alloc_new w _), List.getElem?_toArray]
  exact flat_at hj
end Go.Proofs.Ytkmlnibkdcdegaa.Str

/-
  A record's bytes, as lists of bytes.
-/
namespace Go.Proofs.Ytkmlnibkdcdegaa.Rec
open Dep (D I Ok Sorted depsB ofV putV joinV clockV)
set_option linter.unusedVariables false
set_option maxRecDepth 100000

def str (l : List UInt8) : ByteArray := ⟨l.toArray⟩
theorem str_list (l : List UInt8) : (str l).data.toList = l := by simp [str]
theorem str_of (s : ByteArray) : str s.data.toList = s := Dep.list_eq (str_list _)
theorem str_append (a b : List UInt8) : str a ++ str b = str (a ++ b) := by
  apply Dep.list_eq
  simp [str]
theorem str_size (l : List UInt8) : (str l).size = l.length := by simp [str, ByteArray.size]
theorem put_str (n : Int) : Num.putS n = str (Num.putB n) := rfl
def tL (s : ByteArray) : List UInt8 := Num.putB s.size ++ s.data.toList
theorem putT_str {s : ByteArray} (h : s.size ≤ 8000) : Text.putT s = str (tL s) := by unfold Text.putT; rw [if_pos h]; rfl
def idL (i : I) : List UInt8 := Num.putB i.c ++ (Num.putB i.s ++ Num.putB i.e)
def depL (d : D) : List UInt8 := tL d.k ++ idL d.i
def goneN (g : Bool) : Int := if g = true then 1 else 0
/-- What stands ahead of the lists. -/
def hdL (r : R) : List UInt8 := tL r.k ++ (idL r.i ++ (tL r.d ++ Num.putB (goneN r.g)))
def bodyL (r : R) : List UInt8 := hdL r ++ (Num.putB r.l.length ++ (r.l.flatMap depL ++ (Num.putB r.b.length ++ r.b.flatMap tL)))
/-- What RecBytes answers. -/
noncomputable def bytesV (r : R) : ByteArray := if recB r = true then Seal.sealS (str (bodyL r)) else ⟨#[]⟩

theorem nB_le (n : Int) : (Num.putB n).length ≤ 10 := by
  have := (Num.putS_size n).2
  rwa [put_str, str_size] at this
theorem tL_le (s : ByteArray) : (tL s).length ≤ 10 + s.size := by
  have := nB_le s.size
  unfold tL
  rw [List.length_append]
  have e : s.data.toList.length = s.size := by simp
  omega
theorem idL_le (i : I) : (idL i).length ≤ 30 := by
  have h1 := nB_le i.c
  have h2 := nB_le i.s
  have h3 := nB_le i.e
  unfold idL
  rw [List.length_append, List.length_append]; omega
theorem flatMap_le {α : Type} (f : α → List UInt8) (n : Nat) (l : List α) (h : ∀ x ∈ l, (f x).length ≤ n) : (l.flatMap f).length ≤ l.length * n := by
  induction l with
  | nil => simp
  | cons x l ih =>
    rw [List.flatMap_cons, List.length_append, List.length_cons, Nat.add_mul]
    have := h x (by simp)
    have := ih fun y hy => h y (by simp [hy])
    omega
theorem key_le {s : ByteArray} (h : Key.keyB s = true) : s.size ≤ 4 := (Key.ok_of h).2.1
theorem hdL_le {r : R} (h : RecOk r) : (hdL r).length ≤ 72 := by
  have h1 := tL_le r.k
  have h2 := key_le h.1
  have h3 := idL_le r.i
  have h4 := tL_le r.d
  have h5 := (dat_of h.2.2.1).1
  have h6 := nB_le (goneN r.g)
  unfold hdL
  rw [List.length_append, List.length_append, List.length_append]; omega
theorem deps_le {r : R} (h : RecOk r) (k : Nat) : ((r.l.take k).flatMap depL).length ≤ 264 := by
  have ho := Dep.ok_of h.2.2.2.2.1
  have := flatMap_le depL 44 (r.l.take k) fun d hd => by
    have h1 := tL_le d.k
    have h2 := key_le (ho.2.1 d (List.mem_of_mem_take hd)).1
    have h3 := idL_le d.i
    unfold depL
    rw [List.length_append]; omega
  have h6 := ho.1
  rw [List.length_take] at this
  have : min k r.l.length * 44 ≤ 6 * 44 := Nat.mul_le_mul_right _ (by omega)
  omega
theorem keys_le {r : R} (h : RecOk r) (k : Nat) : ((r.b.take k).flatMap tL).length ≤ 56 := by
  have ho := keys_of h.2.2.2.2.2.1
  have := flatMap_le tL 14 (r.b.take k) fun x hx => by
    have h1 := tL_le x
    have h2 := key_le (ho.2.1 x (List.mem_of_mem_take hx))
    omega
  have h6 := ho.1
  rw [List.length_take] at this
  have : min k r.b.length * 14 ≤ 4 * 14 := Nat.mul_le_mul_right _ (by omega)
  omega
theorem bodyL_le {r : R} (h : RecOk r) : (bodyL r).length ≤ 500 := by
  have h1 := hdL_le h
  have h2 := nB_le r.l.length
  have h3 := deps_le h r.l.length
  have h4 := nB_le r.b.length
  have h5 := keys_le h r.b.length
  rw [List.take_length] at h3 h5
  unfold bodyL
  rw [List.length_append, List.length_append, List.length_append, List.length_append]; omega
theorem bytes_ok {r : R} (h : RecOk r) : bytesV r = Seal.sealS (str (bodyL r)) := by unfold bytesV; rw [if_pos (recB_true h)]
theorem bytes_no {r : R} (h : recB r = false) : bytesV r = ⟨#[]⟩ := by unfold bytesV; rw [h]; rfl

/-- The given model's way: what is written ahead of the k-th dep, of the k-th key. -/
def upDeps (r : R) (k : Nat) : List UInt8 := hdL r ++ (Num.putB r.l.length ++ (r.l.take k).flatMap depL)
def upKeys (r : R) (k : Nat) : List UInt8 := upDeps r r.l.length ++ (Num.putB r.b.length ++ (r.b.take k).flatMap tL)
theorem upDeps_zero (r : R) : upDeps r 0 = hdL r ++ Num.putB r.l.length := by simp [upDeps]
theorem upDeps_step (r : R) (k : Nat) (h : k < r.l.length) : upDeps r (k + 1) = upDeps r k ++ (tL r.l[k].k ++ idL r.l[k].i) := by
  unfold upDeps
  rw [show r.l.take (k + 1) = r.l.take k ++ [r.l[k]] by simp, List.flatMap_append]
  simp [depL]
theorem upKeys_zero (r : R) : upKeys r 0 = upDeps r r.l.length ++ Num.putB r.b.length := by simp [upKeys]
theorem upKeys_step (r : R) (k : Nat) (h : k < r.b.length) : upKeys r (k + 1) = upKeys r k ++ tL r.b[k] := by
  unfold upKeys
  rw [show r.b.take (k + 1) = r.b.take k ++ [r.b[k]] by simp, List.flatMap_append]
  simp
theorem upKeys_all (r : R) : upKeys r r.b.length = bodyL r := by
  unfold upKeys upDeps bodyL
  rw [List.take_length, List.take_length]
  simp
theorem upDeps_le {r : R} (h : RecOk r) (k : Nat) : (upDeps r k).length ≤ 500 := by
  have h1 := hdL_le h
  have h2 := nB_le r.l.length
  have h3 := deps_le h k
  unfold upDeps
  rw [List.length_append, List.length_append]; omega
theorem upKeys_le {r : R} (h : RecOk r) (k : Nat) : (upKeys r k).length ≤ 1000 := by
  have h1 := upDeps_le h r.l.length
  have h4 := nB_le r.b.length
  have h5 := keys_le h k
  unfold upKeys
  rw [List.length_append, List.length_append]; omega

/-- The program's way: the parts so far. -/
def psD (r : R) (k : Nat) : List ByteArray := [str (hdL r), str (Num.putB r.l.length)] ++ (r.l.take k).flatMap fun d => [str (tL d.k), str (idL d.i)]
def psK (r : R) (k : Nat) : List ByteArray := psD r r.l.length ++ [str (Num.putB r.b.length)] ++ (r.b.take k).map fun x => str (tL x)
theorem psD_step (r : R) (k : Nat) (h : k < r.l.length) : psD r (k + 1) = psD r k ++ [str (tL r.l[k].k), str (idL r.l[k].i)] := by
  unfold psD
  rw [show r.l.take (k + 1) = r.l.take k ++ [r.l[k]] by simp, List.flatMap_append]
  simp
theorem psK_step (r : R) (k : Nat) (h : k < r.b.length) : psK r (k + 1) = psK r k ++ [str (tL r.b[k])] := by
  unfold psK
  rw [show r.b.take (k + 1) = r.b.take k ++ [r.b[k]] by simp, List.map_append]
  simp
theorem psK_zero (r : R) : psK r 0 = psD r r.l.length ++ [str (Num.putB r.b.length)] := by simp [psK]
theorem psD_len (r : R) (k : Nat) (h : k ≤ r.l.length) : (psD r k).length = 2 + k * 2 := by
  unfold psD
  rw [List.length_append, List.length_flatMap]
  have : ((r.l.take k).map fun d => [str (tL d.k), str (idL d.i)].length).sum = k * 2 := by
    have e : (r.l.take k).map (fun d => [str (tL d.k), str (idL d.i)].length) = List.replicate k 2 := by
      rw [List.eq_replicate_iff]
      refine ⟨by simp; omega, fun b hb => ?_⟩
      obtain ⟨d, _, rfl⟩ := List.mem_map.1 hb
      rfl
    rw [e]; simp
  rw [this]; rfl
theorem psK_len (r : R) (k : Nat) (h : k ≤ r.b.length) : (psK r k).length = 3 + r.l.length * 2 + k := by
  unfold psK
  rw [List.length_append, List.length_append, psD_len r r.l.length (Nat.le_refl _), List.length_map, List.length_take]
  simp; omega
theorem flat_map (l : List D) : Join.flat (l.flatMap fun d => [str (tL d.k), str (idL d.i)]) = l.flatMap depL := by
  induction l with
  | nil => rfl
  | cons d l ih =>
    rw [List.flatMap_cons, List.flatMap_cons, ← ih]
    simp [Join.flat, str_list, depL]
theorem flat_keys (l : List ByteArray) : Join.flat (l.map fun x => str (tL x)) = l.flatMap tL := by
  induction l with
  | nil => rfl
  | cons d l ih =>
    rw [List.map_cons, List.flatMap_cons, ← ih]
    simp [Join.flat, str_list]
theorem flat_app (a b : List ByteArray) : Join.flat (a ++ b) = Join.flat a ++ Join.flat b := by simp [Join.flat]
theorem psK_all (r : R) : Join.flat (psK r r.b.length) = bodyL r := by
  unfold psK psD bodyL
  rw [List.take_length, List.take_length, flat_app, flat_app, flat_app, flat_map, flat_keys]
  simp [Join.flat, str_list]
end Go.Proofs.Ytkmlnibkdcdegaa.Rec

/-
  The bytes of an id, and what stands ahead of a record's lists: spec.l04Id, (Id).numbers, goneNumber, (record).bytes.
-/
namespace Go.Proofs.Ytkmlnibkdcdegaa.Rec
open Go.ChangeShapes Go.WideShapes Go.ChangeAt Go.RowKit
open Dep (D I)
set_option linter.unusedVariables false
set_option maxRecDepth 100000
set_option linter.unusedSimpArgs false

theorem ret_str {a b : ByteArray} (h : a = b) : Ending.returned (.string a) = .returned (.string b) := by rw [h]
theorem cells_new (W : World) (l : List ByteArray) : ∀ k (h : k < l.length), (W.alloc (.cells (Str.flat l).toArray 9)).cell? ⟨W.heap.size, k, none⟩ = some (.string l[k]) := by
  intro k h
  rw [cell_of_row _ W.heap.size k _ _ (0, 0) (heap_alloc_new W _), List.getElem?_toArray]
  exact Str.flat_at h
theorem put3 {i : I} {p1 p2 p3 : ByteArray} (h1 : Num.putS i.c = p1) (h2 : Num.putS i.s = p2) (h3 : Num.putS i.e = p3) : p1 ++ p2 ++ p3 = str (idL i) := by
  rw [← h1, ← h2, ← h3, put_str, put_str, put_str, str_append, str_append]
  unfold idL
  rw [List.append_assoc]
theorem flat3 {i : I} {p1 p2 p3 : ByteArray} (h1 : Num.putS i.c = p1) (h2 : Num.putS i.s = p2) (h3 : Num.putS i.e = p3) : (⟨(Join.flat [p1, p2, p3]).toArray⟩ : ByteArray) = str (idL i) := by
  rw [← h1, ← h2, ← h3, put_str, put_str, put_str]
  simp [Join.flat, str_list, idL, str]

set_option maxHeartbeats 2000000 in
theorem specId_any (i : I) (w : World) (hi : i.right = true) :
    Calls Try.prog 82 #[i.val] w fun x w' => x = .returned (.string (str (idL i))) ∧ Below w.heap.size w w' := by
  have hr := (I.right_iff i).1 hi
  have HB := Lib.hid ((Below.refl w.heap.size w).alloc (Nat.le_refl _) (.cells #[.int .i64 i.c, .int .i64 i.s, .int .i64 i.e] 30))
  have HX := Lib.hid (Id.IdRow.new w 30 i.c i.s i.e)
  obtain ⟨p1, hp1⟩ : ∃ p, Num.putS i.c = p := ⟨_, rfl⟩
  obtain ⟨p2, hp2⟩ : ∃ p, Num.putS i.s = p := ⟨_, rfl⟩
  obtain ⟨p3, hp3⟩ : ∃ p, Num.putS i.e = p := ⟨_, rfl⟩
  have z1 : p1.size ≤ 10 := by rw [← hp1]; exact (Num.putS_size _).2
  have z2 : p2.size ≤ 10 := by rw [← hp2]; exact (Num.putS_size _).2
  have z3 : p3.size ≤ 10 := by rw [← hp3]; exact (Num.putS_size _).2
  have HP1 := Lib.hid hp1
  have HP2 := Lib.hid hp2
  have HP3 := Lib.hid hp3
  have HT := Lib.hid (put3 hp1 hp2 hp3)
  have y1 : ¬ 9223372036854775807 < p1.size + p2.size := by omega
  have y2 : ¬ 9223372036854775807 < p1.size + p2.size + p3.size := by omega
  clear hp1 hp2 hp3 hi
  unfold Dep.I.val Id.idV
  go_enter Try.func82, Try.ntmps82
  go_wp2_with fail
  refine wp_region_held_drew (S := (fun W => Id.IdRow W w.heap.size 30 i.c i.s i.e ∧ Below w.heap.size w W)) (by kernel_rfl) ?_ (fun hHeld => ?_)
  · exact ⟨HX.out, HB.out.drew⟩
  refine wpAnyH_take (i := 0) (v := ?_) rfl (by kernel_rfl) (by kernel_rfl) (by kernel_rfl) (fun _ _ _ h => h) (Or.inl ⟨by rfl, ?_⟩) hHeld ?_
  rotate_left
  · intro W hSw
    obtain ⟨q1, _⟩ := hSw
    obtain ⟨hs1, hs2, hs3⟩ := Id.IdRow.cells q1
    go_simp
    try with_reducible rfl
  try simp only [Act.put, List.setIfInBounds_toArray, List.set_cons_zero, List.set_cons_succ, List.getElem_toArray, List.getElem_cons_zero]
  refine wpAnyH_take (i := 1) (v := ?_) rfl (by kernel_rfl) (by kernel_rfl) (by kernel_rfl) (fun _ _ _ h => h) (Or.inl ⟨by rfl, ?_⟩) hHeld ?_
  rotate_left
  · intro W hSw
    obtain ⟨q1, _⟩ := hSw
    obtain ⟨hs1, hs2, hs3⟩ := Id.IdRow.cells q1
    go_simp
    try with_reducible rfl
  try simp only [Act.put, List.setIfInBounds_toArray, List.set_cons_zero, List.set_cons_succ, List.getElem_toArray, List.getElem_cons_succ, List.getElem_cons_zero]
  refine wpAnyH_take (i := 3) (v := ?_) rfl (by kernel_rfl) (by kernel_rfl) (by kernel_rfl) (fun _ _ _ h => h) (Or.inl ⟨by rfl, ?_⟩) hHeld ?_
  rotate_left
  · intro W hSw
    obtain ⟨q1, _⟩ := hSw
    obtain ⟨hs1, hs2, hs3⟩ := Id.IdRow.cells q1
    go_simp
    try with_reducible rfl
  try simp only [Act.put, List.setIfInBounds_toArray, List.set_cons_zero, List.set_cons_succ, List.getElem_toArray, List.getElem_cons_succ, List.getElem_cons_zero]
  refine wpAnyH_take (i := 4) (v := ?_) rfl (by kernel_rfl) (by kernel_rfl) (by kernel_rfl) (fun _ _ _ h => h) (Or.inl ⟨by rfl, ?_⟩) hHeld ?_
  rotate_left
  · intro W hSw
    obtain ⟨q1, _⟩ := hSw
    obtain ⟨hs1, hs2, hs3⟩ := Id.IdRow.cells q1
    go_simp
    try with_reducible rfl
  try simp only [Act.put, List.setIfInBounds_toArray, List.set_cons_zero, List.set_cons_succ, List.getElem_toArray, List.getElem_cons_succ, List.getElem_cons_zero]
  refine wpAnyH_take (i := 7) (v := ?_) rfl (by kernel_rfl) (by kernel_rfl) (by kernel_rfl) (fun _ _ _ h => h) (Or.inl ⟨by rfl, ?_⟩) hHeld ?_
  rotate_left
  · intro W hSw
    obtain ⟨q1, _⟩ := hSw
    obtain ⟨hs1, hs2, hs3⟩ := Id.IdRow.cells q1
    go_simp
    try with_reducible rfl
  try simp only [Act.put, List.setIfInBounds_toArray, List.set_cons_zero, List.set_cons_succ, List.getElem_toArray, List.getElem_cons_succ, List.getElem_cons_zero]
  refine wpAnyH_take (i := 8) (v := ?_) rfl (by kernel_rfl) (by kernel_rfl) (by kernel_rfl) (fun _ _ _ h => h) (Or.inl ⟨by rfl, ?_⟩) hHeld ?_
  rotate_left
  · intro W hSw
    obtain ⟨q1, _⟩ := hSw
    obtain ⟨hs1, hs2, hs3⟩ := Id.IdRow.cells q1
    go_simp
    try with_reducible rfl
  try simp only [Act.put, List.setIfInBounds_toArray, List.set_cons_zero, List.set_cons_succ, List.getElem_toArray, List.getElem_cons_succ, List.getElem_cons_zero]
  refine wpAnyH_ready (rs := [2]) (by kernel_rfl) (by simp) ?_
  refine AllReadyH.cons rfl (fun K hK => ?_) AllReadyH.nil
  go_simp
  refine (Num.specPutNum_any i.c _ (by omega) (by omega)).mono ?_
  rintro e w1 ⟨rfl, hb⟩
  rw [HP1.out]
  refine hK.out _ _ ?_ (fun hHeld => ?_)
  · first | exact ⟨Id.IdRow.step hHeld.1 hb (Id.IdRow.lt hHeld.1), hHeld.2.trans (hb.mono hHeld.2.size)⟩ | assumption
  clear hK K
  try simp only [Act.put, List.setIfInBounds_toArray, List.set_cons_zero, List.set_cons_succ, List.getElem_toArray, List.getElem_cons_succ, List.getElem_cons_zero]
  refine wpAnyH_ready (rs := [5]) (by kernel_rfl) (by simp) ?_
  refine AllReadyH.cons rfl (fun K hK => ?_) AllReadyH.nil
  go_simp
  refine (Num.specPutNum_any i.s _ (by omega) (by omega)).mono ?_
  rintro e w2 ⟨rfl, hb⟩
  rw [HP2.out]
  refine hK.out _ _ ?_ (fun hHeld => ?_)
  · first | exact ⟨Id.IdRow.step hHeld.1 hb (Id.IdRow.lt hHeld.1), hHeld.2.trans (hb.mono hHeld.2.size)⟩ | assumption
  clear hK K
  try simp only [Act.put, List.setIfInBounds_toArray, List.set_cons_zero, List.set_cons_succ, List.getElem_toArray, List.getElem_cons_succ, List.getElem_cons_zero]
  refine wpAnyH_take (i := 6) (v := ?_) rfl (by kernel_rfl) (by kernel_rfl) (by kernel_rfl) (fun _ _ _ h => h) (Or.inl ⟨by rfl, ?_⟩) hHeld ?_
  rotate_left
  · intro W hSw
    obtain ⟨q1, _⟩ := hSw
    obtain ⟨hs1, hs2, hs3⟩ := Id.IdRow.cells q1
    go_simp
    try with_reducible rfl
  try simp only [Act.put, List.setIfInBounds_toArray, List.set_cons_zero, List.set_cons_succ, List.getElem_toArray, List.getElem_cons_succ, List.getElem_cons_zero]
  refine wpAnyH_ready (rs := [9]) (by kernel_rfl) (by simp) ?_
  refine AllReadyH.cons rfl (fun K hK => ?_) AllReadyH.nil
  go_simp
  refine (Num.specPutNum_any i.e _ (by omega) (by omega)).mono ?_
  rintro e w3 ⟨rfl, hb⟩
  rw [HP3.out]
  refine hK.out _ _ ?_ (fun hHeld => ?_)
  · first | exact ⟨Id.IdRow.step hHeld.1 hb (Id.IdRow.lt hHeld.1), hHeld.2.trans (hb.mono hHeld.2.size)⟩ | assumption
  clear hK K
  try simp only [Act.put, List.setIfInBounds_toArray, List.set_cons_zero, List.set_cons_succ, List.getElem_toArray, List.getElem_cons_succ, List.getElem_cons_zero]
  refine wpAnyH_take (i := 10) (v := ?_) rfl (by kernel_rfl) (by kernel_rfl) (by kernel_rfl) (fun _ _ _ h => h) (Or.inl ⟨by rfl, ?_⟩) hHeld ?_
  rotate_left
  · intro W hSw
    obtain ⟨q1, _⟩ := hSw
    obtain ⟨hs1, hs2, hs3⟩ := Id.IdRow.cells q1
    go_simp
    try with_reducible rfl
  try simp only [Act.put, List.setIfInBounds_toArray, List.set_cons_zero, List.set_cons_succ, List.getElem_toArray, List.getElem_cons_succ, List.getElem_cons_zero]
  refine wpAnyH_take (i := 11) (v := ?_) rfl (by kernel_rfl) (by kernel_rfl) (by kernel_rfl) (fun _ _ _ h => h) (Or.inl ⟨by rfl, ?_⟩) hHeld ?_
  rotate_left
  · intro W hSw
    obtain ⟨q1, _⟩ := hSw
    obtain ⟨hs1, hs2, hs3⟩ := Id.IdRow.cells q1
    go_simp
    try with_reducible rfl
  try simp only [Act.put, List.setIfInBounds_toArray, List.set_cons_zero, List.set_cons_succ, List.getElem_toArray, List.getElem_cons_succ, List.getElem_cons_zero]
  refine wpAnyH_done (by kernel_rfl) ?_ _
  have HE := Lib.hid hHeld.2
  clear hHeld hb
  go_wp2_with fail
  go_ret
  exact ⟨ret_str HT.out, HE.out⟩

set_option maxHeartbeats 2000000 in
theorem numbers_any (i : I) (w : World) (hi : i.right = true) :
    Calls Try.prog 88 #[i.val] w fun x w' => x = .returned (.string (str (idL i))) ∧ Below w.heap.size w w' := by
  have hr := (I.right_iff i).1 hi
  have HB := Lib.hid ((Below.refl w.heap.size w).alloc (Nat.le_refl _) (.cells #[.int .i64 i.c, .int .i64 i.s, .int .i64 i.e] 30))
  have HX := Lib.hid (Id.IdRow.new w 30 i.c i.s i.e)
  obtain ⟨p1, hp1⟩ : ∃ p, Num.putS i.c = p := ⟨_, rfl⟩
  obtain ⟨p2, hp2⟩ : ∃ p, Num.putS i.s = p := ⟨_, rfl⟩
  obtain ⟨p3, hp3⟩ : ∃ p, Num.putS i.e = p := ⟨_, rfl⟩
  have z1 : p1.size ≤ 10 := by rw [← hp1]; exact (Num.putS_size _).2
  have z2 : p2.size ≤ 10 := by rw [← hp2]; exact (Num.putS_size _).2
  have z3 : p3.size ≤ 10 := by rw [← hp3]; exact (Num.putS_size _).2
  have HP1 := Lib.hid hp1
  have HP2 := Lib.hid hp2
  have HP3 := Lib.hid hp3
  have HT := Lib.hid (flat3 hp1 hp2 hp3)
  clear hp1 hp2 hp3 hi
  unfold Dep.I.val Id.idV
  go_enter Try.func88, Try.ntmps88
  go_wp2_with fail
  refine wp_region_held_drew (S := (fun W => Id.IdRow W w.heap.size 30 i.c i.s i.e ∧ Below w.heap.size w W)) (by kernel_rfl) ?_ (fun hHeld => ?_)
  · exact ⟨HX.out, HB.out.drew⟩
  refine wpAnyH_take (i := 0) (v := ?_) rfl (by kernel_rfl) (by kernel_rfl) (by kernel_rfl) (fun _ _ _ h => h) (Or.inl ⟨by rfl, ?_⟩) hHeld ?_
  rotate_left
  · intro W hSw
    obtain ⟨q1, _⟩ := hSw
    obtain ⟨hs1, hs2, hs3⟩ := Id.IdRow.cells q1
    go_simp
    try with_reducible rfl
  try simp only [Act.put, List.setIfInBounds_toArray, List.set_cons_zero, List.set_cons_succ, List.getElem_toArray, List.getElem_cons_zero]
  refine wpAnyH_take (i := 1) (v := ?_) rfl (by kernel_rfl) (by kernel_rfl) (by kernel_rfl) (fun _ _ _ h => h) (Or.inl ⟨by rfl, ?_⟩) hHeld ?_
  rotate_left
  · intro W hSw
    obtain ⟨q1, _⟩ := hSw
    obtain ⟨hs1, hs2, hs3⟩ := Id.IdRow.cells q1
    go_simp
    try with_reducible rfl
  try simp only [Act.put, List.setIfInBounds_toArray, List.set_cons_zero, List.set_cons_succ, List.getElem_toArray, List.getElem_cons_succ, List.getElem_cons_zero]
  refine wpAnyH_take (i := 3) (v := ?_) rfl (by kernel_rfl) (by kernel_rfl) (by kernel_rfl) (fun _ _ _ h => h) (Or.inl ⟨by rfl, ?_⟩) hHeld ?_
  rotate_left
  · intro W hSw
    obtain ⟨q1, _⟩ := hSw
    obtain ⟨hs1, hs2, hs3⟩ := Id.IdRow.cells q1
    go_simp
    try with_reducible rfl
  try simp only [Act.put, List.setIfInBounds_toArray, List.set_cons_zero, List.set_cons_succ, List.getElem_toArray, List.getElem_cons_succ, List.getElem_cons_zero]
  refine wpAnyH_take (i := 4) (v := ?_) rfl (by kernel_rfl) (by kernel_rfl) (by kernel_rfl) (fun _ _ _ h => h) (Or.inl ⟨by rfl, ?_⟩) hHeld ?_
  rotate_left
  · intro W hSw
    obtain ⟨q1, _⟩ := hSw
    obtain ⟨hs1, hs2, hs3⟩ := Id.IdRow.cells q1
    go_simp
    try with_reducible rfl
  try simp only [Act.put, List.setIfInBounds_toArray, List.set_cons_zero, List.set_cons_succ, List.getElem_toArray, List.getElem_cons_succ, List.getElem_cons_zero]
  refine wpAnyH_take (i := 6) (v := ?_) rfl (by kernel_rfl) (by kernel_rfl) (by kernel_rfl) (fun _ _ _ h => h) (Or.inl ⟨by rfl, ?_⟩) hHeld ?_
  rotate_left
  · intro W hSw
    obtain ⟨q1, _⟩ := hSw
    obtain ⟨hs1, hs2, hs3⟩ := Id.IdRow.cells q1
    go_simp
    try with_reducible rfl
  try simp only [Act.put, List.setIfInBounds_toArray, List.set_cons_zero, List.set_cons_succ, List.getElem_toArray, List.getElem_cons_succ, List.getElem_cons_zero]
  refine wpAnyH_take (i := 7) (v := ?_) rfl (by kernel_rfl) (by kernel_rfl) (by kernel_rfl) (fun _ _ _ h => h) (Or.inl ⟨by rfl, ?_⟩) hHeld ?_
  rotate_left
  · intro W hSw
    obtain ⟨q1, _⟩ := hSw
    obtain ⟨hs1, hs2, hs3⟩ := Id.IdRow.cells q1
    go_simp
    try with_reducible rfl
  try simp only [Act.put, List.setIfInBounds_toArray, List.set_cons_zero, List.set_cons_succ, List.getElem_toArray, List.getElem_cons_succ, List.getElem_cons_zero]
  refine wpAnyH_ready (rs := [2]) (by kernel_rfl) (by simp) ?_
  refine AllReadyH.cons rfl (fun K hK => ?_) AllReadyH.nil
  go_simp
  refine (Num.implPutNum_any i.c _ (by omega) (by omega)).mono ?_
  rintro e w1 ⟨rfl, hb⟩
  rw [HP1.out]
  refine hK.out _ _ ?_ (fun hHeld => ?_)
  · first | exact ⟨Id.IdRow.step hHeld.1 hb (Id.IdRow.lt hHeld.1), hHeld.2.trans (hb.mono hHeld.2.size)⟩ | assumption
  clear hK K
  try simp only [Act.put, List.setIfInBounds_toArray, List.set_cons_zero, List.set_cons_succ, List.getElem_toArray, List.getElem_cons_succ, List.getElem_cons_zero]
  refine wpAnyH_ready (rs := [5]) (by kernel_rfl) (by simp) ?_
  refine AllReadyH.cons rfl (fun K hK => ?_) AllReadyH.nil
  go_simp
  refine (Num.implPutNum_any i.s _ (by omega) (by omega)).mono ?_
  rintro e w2 ⟨rfl, hb⟩
  rw [HP2.out]
  refine hK.out _ _ ?_ (fun hHeld => ?_)
  · first | exact ⟨Id.IdRow.step hHeld.1 hb (Id.IdRow.lt hHeld.1), hHeld.2.trans (hb.mono hHeld.2.size)⟩ | assumption
  clear hK K
  try simp only [Act.put, List.setIfInBounds_toArray, List.set_cons_zero, List.set_cons_succ, List.getElem_toArray, List.getElem_cons_succ, List.getElem_cons_zero]
  refine wpAnyH_ready (rs := [8]) (by kernel_rfl) (by simp) ?_
  refine AllReadyH.cons rfl (fun K hK => ?_) AllReadyH.nil
  go_simp
  refine (Num.implPutNum_any i.e _ (by omega) (by omega)).mono ?_
  rintro e w3 ⟨rfl, hb⟩
  rw [HP3.out]
  refine hK.out _ _ ?_ (fun hHeld => ?_)
  · first | exact ⟨Id.IdRow.step hHeld.1 hb (Id.IdRow.lt hHeld.1), hHeld.2.trans (hb.mono hHeld.2.size)⟩ | assumption
  clear hK K
  try simp only [Act.put, List.setIfInBounds_toArray, List.set_cons_zero, List.set_cons_succ, List.getElem_toArray, List.getElem_cons_succ, List.getElem_cons_zero]
  refine wpAnyH_ready (rs := [9]) (by kernel_rfl) (by simp) ?_
  refine AllReadyH.cons rfl (fun K hK => ?_) AllReadyH.nil
  skip
  go_simp
  refine hK.out _ _ ?_ (fun hHeld => ?_)
  · exact ⟨Id.IdRow.alloc hHeld.1 _, hHeld.2.alloc hHeld.2.size _⟩
  clear hK K
  try simp only [Act.put, List.setIfInBounds_toArray, List.set_cons_zero, List.set_cons_succ, List.getElem_toArray, List.getElem_cons_succ, List.getElem_cons_zero]
  refine wpAnyH_ready (rs := [10]) (by kernel_rfl) (by simp) ?_
  refine AllReadyH.cons rfl (fun K hK => ?_) AllReadyH.nil
  go_simp
  refine (Join.joined_any [p1, p2, p3] w3.heap.size _ (by simp) (by simp) (by simp [Join.flat]; omega) (cells_new w3 [p1, p2, p3])).mono ?_
  rintro e w4 ⟨rfl, hb⟩
  rw [HT.out]
  refine hK.out _ _ ?_ (fun hHeld => ?_)
  · first | exact ⟨Id.IdRow.step hHeld.1 hb (Id.IdRow.lt hHeld.1), hHeld.2.trans (hb.mono hHeld.2.size)⟩ | assumption
  clear hK K
  try simp only [Act.put, List.setIfInBounds_toArray, List.set_cons_zero, List.set_cons_succ, List.getElem_toArray, List.getElem_cons_succ, List.getElem_cons_zero]
  refine wpAnyH_take (i := 11) (v := ?_) rfl (by kernel_rfl) (by kernel_rfl) (by kernel_rfl) (fun _ _ _ h => h) (Or.inl ⟨by rfl, ?_⟩) hHeld ?_
  rotate_left
  · intro W hSw
    obtain ⟨q1, _⟩ := hSw
    obtain ⟨hs1, hs2, hs3⟩ := Id.IdRow.cells q1
    go_simp
    try with_reducible rfl
  try simp only [Act.put, List.setIfInBounds_toArray, List.set_cons_zero, List.set_cons_succ, List.getElem_toArray, List.getElem_cons_succ, List.getElem_cons_zero]
  refine wpAnyH_done (by kernel_rfl) ?_ _
  have HE := Lib.hid hHeld.2
  clear hHeld hb
  go_wp2_with fail
  go_ret
  exact ⟨rfl, HE.out⟩

theorem goneNumber_any (g : Bool) (w : World) : Calls Try.prog 109 #[.bool g] w fun x w' => x = .returned (.int .i64 (goneN g)) ∧ w = w' := by
  cases g
  · go_enter Try.func109, Try.ntmps109
    go_wp2_with fail
    go_ret
    exact ⟨rfl, rfl⟩
  · go_enter Try.func109, Try.ntmps109
    go_wp2_with fail
    go_ret
    exact ⟨rfl, rfl⟩

theorem cells6 {W : World} {b t : Nat} {a0 a1 a2 a3 a4 a5 : Value} (h : Blk W b t #[a0, a1, a2, a3, a4, a5]) : W.cell? ⟨b, 0, none⟩ = some a0 ∧ W.cell? ⟨b, 1, none⟩ = some a1 ∧ W.cell? ⟨b, 2, none⟩ = some a2 ∧ W.cell? ⟨b, 3, none⟩ = some a3 ∧ W.cell? ⟨b, 4, none⟩ = some a4 ∧ W.cell? ⟨b, 5, none⟩ = some a5 :=
  ⟨h.cell 0, h.cell 1, h.cell 2, h.cell 3, h.cell 4, h.cell 5⟩
theorem flat4 {r : R} {p1 p2 p3 p4 : ByteArray} (hk : r.k.size ≤ 8000) (hd : r.d.size ≤ 8000) (h1 : Text.putT r.k = p1) (h2 : str (idL r.i) = p2) (h3 : Text.putT r.d = p3) (h4 : Num.putS (goneN r.g) = p4) : (⟨(Join.flat [p1, p2, p3, p4]).toArray⟩ : ByteArray) = str (hdL r) := by
  rw [← h1, ← h2, ← h3, ← h4, put_str, putT_str hk, putT_str hd]
  simp [Join.flat, str_list, hdL, str]

set_option maxHeartbeats 2000000 in
theorem rcdBytes_any (k : ByteArray) (i : I) (d : ByteArray) (g : Bool) (l : List D) (b : List ByteArray) (w : World) (hi : i.right = true) (hk : k.size ≤ 8000) (hd : d.size ≤ 8000) :
    Calls Try.prog 85 #[.agg #[.int .i64 i.c, .int .i64 i.s, .int .i64 i.e, .string k, .string d, .bool g]] w fun x w' => x = .returned (.string (str (hdL ⟨k, i, d, g, l, b⟩))) ∧ Below w.heap.size w w' := by
  have HB := Lib.hid ((Below.refl w.heap.size w).alloc (Nat.le_refl _) (.cells #[.int .i64 i.c, .int .i64 i.s, .int .i64 i.e, .string k, .string d, .bool g] 89))
  have HX := Lib.hid (Blk.new w 89 #[.int .i64 i.c, .int .i64 i.s, .int .i64 i.e, .string k, .string d, .bool g])
  have HK := Lib.hid (fun W => Text.implPutText_any k W (by unfold maxLen; omega))
  have HD := Lib.hid (fun W => Text.implPutText_any d W (by unfold maxLen; omega))
  have HI := Lib.hid (fun W => numbers_any i W hi)
  unfold Dep.I.val Id.idV at HI
  obtain ⟨p1, hp1⟩ : ∃ p, Text.putT k = p := ⟨_, rfl⟩
  obtain ⟨p2, hp2⟩ : ∃ p, str (idL i) = p := ⟨_, rfl⟩
  obtain ⟨p3, hp3⟩ : ∃ p, Text.putT d = p := ⟨_, rfl⟩
  obtain ⟨p4, hp4⟩ : ∃ p, Num.putS (goneN g) = p := ⟨_, rfl⟩
  have z1 : p1.size ≤ 8010 := by rw [← hp1, putT_str hk, str_size]; have := tL_le k; omega
  have z2 : p2.size ≤ 30 := by rw [← hp2, str_size]; exact idL_le i
  have z3 : p3.size ≤ 8010 := by rw [← hp3, putT_str hd, str_size]; have := tL_le d; omega
  have z4 : p4.size ≤ 10 := by rw [← hp4]; exact (Num.putS_size _).2
  have HP1 := Lib.hid hp1
  have HP2 := Lib.hid hp2
  have HP3 := Lib.hid hp3
  have HP4 := Lib.hid hp4
  have HT := Lib.hid (flat4 (r := ⟨k, i, d, g, l, b⟩) hk hd hp1 hp2 hp3 hp4)
  clear hp1 hp2 hp3 hp4 hi
  go_enter Try.func85, Try.ntmps85
  go_wp2_with fail
  refine wp_region_held_drew (S := (fun W => Blk W w.heap.size 89 #[.int .i64 i.c, .int .i64 i.s, .int .i64 i.e, .string k, .string d, .bool g] ∧ Below w.heap.size w W)) (by kernel_rfl) ?_ (fun hHeld => ?_)
  · exact ⟨HX.out, HB.out.drew⟩
  refine wpAnyH_take (i := 0) (v := ?_) rfl (by kernel_rfl) (by kernel_rfl) (by kernel_rfl) (fun _ _ _ h => h) (Or.inl ⟨by rfl, ?_⟩) hHeld ?_
  rotate_left
  · intro W hSw
    obtain ⟨q1, _⟩ := hSw
    obtain ⟨hs1, hs2, hs3, hs4, hs5, hs6⟩ := cells6 q1
    go_simp
    try with_reducible rfl
  try simp only [Act.put, List.setIfInBounds_toArray, List.set_cons_zero, List.set_cons_succ, List.getElem_toArray, List.getElem_cons_zero]
  refine wpAnyH_take (i := 1) (v := ?_) rfl (by kernel_rfl) (by kernel_rfl) (by kernel_rfl) (fun _ _ _ h => h) (Or.inl ⟨by rfl, ?_⟩) hHeld ?_
  rotate_left
  · intro W hSw
    obtain ⟨q1, _⟩ := hSw
    obtain ⟨hs1, hs2, hs3, hs4, hs5, hs6⟩ := cells6 q1
    go_simp
    try with_reducible rfl
  try simp only [Act.put, List.setIfInBounds_toArray, List.set_cons_zero, List.set_cons_succ, List.getElem_toArray, List.getElem_cons_succ, List.getElem_cons_zero]
  refine wpAnyH_take (i := 3) (v := ?_) rfl (by kernel_rfl) (by kernel_rfl) (by kernel_rfl) (fun _ _ _ h => h) (Or.inl ⟨by rfl, ?_⟩) hHeld ?_
  rotate_left
  · intro W hSw
    obtain ⟨q1, _⟩ := hSw
    obtain ⟨hs1, hs2, hs3, hs4, hs5, hs6⟩ := cells6 q1
    go_simp
    try with_reducible rfl
  try simp only [Act.put, List.setIfInBounds_toArray, List.set_cons_zero, List.set_cons_succ, List.getElem_toArray, List.getElem_cons_succ, List.getElem_cons_zero]
  refine wpAnyH_take (i := 4) (v := ?_) rfl (by kernel_rfl) (by kernel_rfl) (by kernel_rfl) (fun _ _ _ h => h) (Or.inl ⟨by rfl, ?_⟩) hHeld ?_
  rotate_left
  · intro W hSw
    obtain ⟨q1, _⟩ := hSw
    obtain ⟨hs1, hs2, hs3, hs4, hs5, hs6⟩ := cells6 q1
    go_simp
    try with_reducible rfl
  try simp only [Act.put, List.setIfInBounds_toArray, List.set_cons_zero, List.set_cons_succ, List.getElem_toArray, List.getElem_cons_succ, List.getElem_cons_zero]
  refine wpAnyH_take (i := 6) (v := ?_) rfl (by kernel_rfl) (by kernel_rfl) (by kernel_rfl) (fun _ _ _ h => h) (Or.inl ⟨by rfl, ?_⟩) hHeld ?_
  rotate_left
  · intro W hSw
    obtain ⟨q1, _⟩ := hSw
    obtain ⟨hs1, hs2, hs3, hs4, hs5, hs6⟩ := cells6 q1
    go_simp
    try with_reducible rfl
  try simp only [Act.put, List.setIfInBounds_toArray, List.set_cons_zero, List.set_cons_succ, List.getElem_toArray, List.getElem_cons_succ, List.getElem_cons_zero]
  refine wpAnyH_take (i := 7) (v := ?_) rfl (by kernel_rfl) (by kernel_rfl) (by kernel_rfl) (fun _ _ _ h => h) (Or.inl ⟨by rfl, ?_⟩) hHeld ?_
  rotate_left
  · intro W hSw
    obtain ⟨q1, _⟩ := hSw
    obtain ⟨hs1, hs2, hs3, hs4, hs5, hs6⟩ := cells6 q1
    go_simp
    try with_reducible rfl
  try simp only [Act.put, List.setIfInBounds_toArray, List.set_cons_zero, List.set_cons_succ, List.getElem_toArray, List.getElem_cons_succ, List.getElem_cons_zero]
  refine wpAnyH_take (i := 9) (v := ?_) rfl (by kernel_rfl) (by kernel_rfl) (by kernel_rfl) (fun _ _ _ h => h) (Or.inl ⟨by rfl, ?_⟩) hHeld ?_
  rotate_left
  · intro W hSw
    obtain ⟨q1, _⟩ := hSw
    obtain ⟨hs1, hs2, hs3, hs4, hs5, hs6⟩ := cells6 q1
    go_simp
    try with_reducible rfl
  try simp only [Act.put, List.setIfInBounds_toArray, List.set_cons_zero, List.set_cons_succ, List.getElem_toArray, List.getElem_cons_succ, List.getElem_cons_zero]
  refine wpAnyH_take (i := 10) (v := ?_) rfl (by kernel_rfl) (by kernel_rfl) (by kernel_rfl) (fun _ _ _ h => h) (Or.inl ⟨by rfl, ?_⟩) hHeld ?_
  rotate_left
  · intro W hSw
    obtain ⟨q1, _⟩ := hSw
    obtain ⟨hs1, hs2, hs3, hs4, hs5, hs6⟩ := cells6 q1
    go_simp
    try with_reducible rfl
  try simp only [Act.put, List.setIfInBounds_toArray, List.set_cons_zero, List.set_cons_succ, List.getElem_toArray, List.getElem_cons_succ, List.getElem_cons_zero]
  refine wpAnyH_ready (rs := [2]) (by kernel_rfl) (by simp) ?_
  refine AllReadyH.cons rfl (fun K hK => ?_) AllReadyH.nil
  go_simp
  refine (HK.out _).mono ?_
  rintro e w1 ⟨rfl, hb⟩
  rw [HP1.out]
  refine hK.out _ _ ?_ (fun hHeld => ?_)
  · first | exact ⟨hHeld.1.on hb, hHeld.2.trans (hb.mono hHeld.2.size)⟩ | assumption
  clear hK K
  try simp only [Act.put, List.setIfInBounds_toArray, List.set_cons_zero, List.set_cons_succ, List.getElem_toArray, List.getElem_cons_succ, List.getElem_cons_zero]
  refine wpAnyH_ready (rs := [5]) (by kernel_rfl) (by simp) ?_
  refine AllReadyH.cons rfl (fun K hK => ?_) AllReadyH.nil
  go_simp
  refine (HI.out _).mono ?_
  rintro e w2 ⟨rfl, hb⟩
  rw [HP2.out]
  refine hK.out _ _ ?_ (fun hHeld => ?_)
  · first | exact ⟨hHeld.1.on hb, hHeld.2.trans (hb.mono hHeld.2.size)⟩ | assumption
  clear hK K
  try simp only [Act.put, List.setIfInBounds_toArray, List.set_cons_zero, List.set_cons_succ, List.getElem_toArray, List.getElem_cons_succ, List.getElem_cons_zero]
  refine wpAnyH_ready (rs := [8]) (by kernel_rfl) (by simp) ?_
  refine AllReadyH.cons rfl (fun K hK => ?_) AllReadyH.nil
  go_simp
  refine (HD.out _).mono ?_
  rintro e w3 ⟨rfl, hb⟩
  rw [HP3.out]
  refine hK.out _ _ ?_ (fun hHeld => ?_)
  · first | exact ⟨hHeld.1.on hb, hHeld.2.trans (hb.mono hHeld.2.size)⟩ | assumption
  clear hK K
  try simp only [Act.put, List.setIfInBounds_toArray, List.set_cons_zero, List.set_cons_succ, List.getElem_toArray, List.getElem_cons_succ, List.getElem_cons_zero]
  refine wpAnyH_ready (rs := [11]) (by kernel_rfl) (by simp) ?_
  refine AllReadyH.cons rfl (fun K hK => ?_) AllReadyH.nil
  go_simp
  refine (goneNumber_any g _).mono ?_
  rintro e w4 ⟨rfl, rfl⟩
  refine hK.out _ _ ?_ (fun hHeld => ?_)
  · first | exact ⟨hHeld.1.on hb, hHeld.2.trans (hb.mono hHeld.2.size)⟩ | assumption
  clear hK K
  try simp only [Act.put, List.setIfInBounds_toArray, List.set_cons_zero, List.set_cons_succ, List.getElem_toArray, List.getElem_cons_succ, List.getElem_cons_zero]
  refine wpAnyH_ready (rs := [12]) (by kernel_rfl) (by simp) ?_
  refine AllReadyH.cons rfl (fun K hK => ?_) AllReadyH.nil
  go_simp
  refine (Num.implPutNum_any (goneN g) _ (by unfold goneN; split <;> omega) (by unfold goneN; split <;> omega)).mono ?_
  rintro e w5 ⟨rfl, hb⟩
  rw [HP4.out]
  refine hK.out _ _ ?_ (fun hHeld => ?_)
  · first | exact ⟨hHeld.1.on hb, hHeld.2.trans (hb.mono hHeld.2.size)⟩ | assumption
  clear hK K
  try simp only [Act.put, List.setIfInBounds_toArray, List.set_cons_zero, List.set_cons_succ, List.getElem_toArray, List.getElem_cons_succ, List.getElem_cons_zero]
  refine wpAnyH_ready (rs := [13]) (by kernel_rfl) (by simp) ?_
  refine AllReadyH.cons rfl (fun K hK => ?_) AllReadyH.nil
  skip
  go_simp
  refine hK.out _ _ ?_ (fun hHeld => ?_)
  · exact ⟨hHeld.1.alloc _, hHeld.2.alloc hHeld.2.size _⟩
  clear hK K
  try simp only [Act.put, List.setIfInBounds_toArray, List.set_cons_zero, List.set_cons_succ, List.getElem_toArray, List.getElem_cons_succ, List.getElem_cons_zero]
  refine wpAnyH_ready (rs := [14]) (by kernel_rfl) (by simp) ?_
  refine AllReadyH.cons rfl (fun K hK => ?_) AllReadyH.nil
  go_simp
  refine (Join.joined_any [p1, p2, p3, p4] w5.heap.size _ (by simp) (by simp) (by simp [Join.flat]; omega) (cells_new w5 [p1, p2, p3, p4])).mono ?_
  rintro e w6 ⟨rfl, hb⟩
  rw [HT.out]
  refine hK.out _ _ ?_ (fun hHeld => ?_)
  · first | exact ⟨hHeld.1.on hb, hHeld.2.trans (hb.mono hHeld.2.size)⟩ | assumption
  clear hK K
  try simp only [Act.put, List.setIfInBounds_toArray, List.set_cons_zero, List.set_cons_succ, List.getElem_toArray, List.getElem_cons_succ, List.getElem_cons_zero]
  refine wpAnyH_take (i := 15) (v := ?_) rfl (by kernel_rfl) (by kernel_rfl) (by kernel_rfl) (fun _ _ _ h => h) (Or.inl ⟨by rfl, ?_⟩) hHeld ?_
  rotate_left
  · intro W hSw
    obtain ⟨q1, _⟩ := hSw
    obtain ⟨hs1, hs2, hs3, hs4, hs5, hs6⟩ := cells6 q1
    go_simp
    try with_reducible rfl
  try simp only [Act.put, List.setIfInBounds_toArray, List.set_cons_zero, List.set_cons_succ, List.getElem_toArray, List.getElem_cons_succ, List.getElem_cons_zero]
  refine wpAnyH_done (by kernel_rfl) ?_ _
  have HE := Lib.hid hHeld.2
  clear hHeld hb
  go_wp2_with fail
  go_ret
  exact ⟨rfl, HE.out⟩
end Go.Proofs.Ytkmlnibkdcdegaa.Rec

/-
  A record's bytes: spec.RecBytes.
-/
namespace Go.Proofs.Ytkmlnibkdcdegaa.Rec
open Go.ChangeShapes Go.WideShapes Go.ChangeAt Go.RowKit
open Dep (D I)
set_option linter.unusedVariables false
set_option maxRecDepth 100000
set_option linter.unusedSimpArgs false

theorem tL_str {s : ByteArray} {n : Nat} (h : s.size ≤ n) (hn : n ≤ 8000) : Text.putT s = str (tL s) ∧ (Text.putT s).size ≤ n + 10 := by
  have e := putT_str (s := s) (by omega)
  refine ⟨e, ?_⟩
  rw [e, str_size]
  have := tL_le s
  omega
theorem head_str {r : R} {p1 p2 p3 p4 p5 : ByteArray} {gn : Int} (hk : r.k.size ≤ 4) (hd : r.d.size ≤ 8) (hg : goneN r.g = gn) (h1 : Text.putT r.k = p1) (h2 : str (idL r.i) = p2) (h3 : Text.putT r.d = p3) (h4 : Num.putS gn = p4) (h5 : Num.putS r.l.length = p5) : p1 ++ p2 ++ p3 ++ p4 ++ p5 = str (upDeps r 0) := by
  rw [← h1, ← h2, ← h3, ← h4, ← h5, ← hg, putT_str (by omega), putT_str (by omega), put_str, put_str, str_append, str_append, str_append, str_append, upDeps_zero]
  unfold hdL
  simp only [List.append_assoc]
theorem step_str {r : R} {k : Nat} {t q1 q2 : ByteArray} {y : D} (hk : k < r.l.length) (hy : r.l[k] = y) (ht : t = str (upDeps r k)) (hs : y.k.size ≤ 4) (h1 : Text.putT y.k = q1) (h2 : str (idL y.i) = q2) : t ++ q1 ++ q2 = str (upDeps r (k + 1)) := by
  rw [upDeps_step r k hk, hy, ht, ← h1, ← h2, putT_str (by omega), str_append, str_append, List.append_assoc]
theorem keys_str {r : R} {t q : ByteArray} (ht : t = str (upDeps r r.l.length)) (h : Num.putS r.b.length = q) : t ++ q = str (upKeys r 0) := by
  rw [upKeys_zero, ht, ← h, put_str, str_append]
theorem key_str {r : R} {k : Nat} {t q : ByteArray} {y : ByteArray} (hk : k < r.b.length) (hy : r.b[k] = y) (ht : t = str (upKeys r k)) (hs : y.size ≤ 4) (h1 : Text.putT y = q) : t ++ q = str (upKeys r (k + 1)) := by
  rw [upKeys_step r k hk, hy, ht, ← h1, putT_str (by omega), str_append]

set_option maxHeartbeats 8000000 in
theorem specBytes_any (r : R) (p : P) (w : World) (h : Lies w w.heap.size r p) (hs : Sound r) :
    Calls Try.prog 37 #[recV r p] w fun x w' => x = .returned (.string (bytesV r)) ∧ Below w.heap.size w w' := by
  have HRC := Lib.hid (fun W (hW : Below w.heap.size w W) => specRec_any r p W (h.step hW (Nat.le_refl _) hW.size) hs)
  obtain ⟨pA, pca, pB, pcb⟩ := p
  have HLD : Hid (Dep.Lies w w.heap.size pA r.l) := Lib.hid h.1
  have HLS : Hid (Str.Lies w w.heap.size pB r.b) := Lib.hid h.2
  have HB := Lib.hid ((Below.refl w.heap.size w).alloc (Nat.le_refl _) (.cells (cellsV r ⟨pA, pca, pB, pcb⟩) 54))
  have HX := Lib.hid (Blk.new w 54 (cellsV r ⟨pA, pca, pB, pcb⟩))
  clear h hs
  unfold recV at *
  cases er : recB r
  · rw [er] at HRC
    rw [bytes_no er]
    clear er
    go_enter Try.func37, Try.ntmps37
    go_wp2_with fail
    refine (HRC.out _ HB.out).mono ?_
    rintro e w1 ⟨rfl, hb1⟩
    have HB := Lib.hid (HB.out.trans (hb1.mono HB.out.size))
    clear hb1
    go_wp2_with fail
    go_ret
    exact ⟨rfl, HB.out⟩
  have ho := rec_of er
  rw [er] at HRC
  rw [bytes_ok ho]
  clear er
  have HO := Lib.hid ho
  have hk4 := key_le ho.1
  have hd8 := (dat_of ho.2.2.1).1
  have hl6 := (Dep.ok_of ho.2.2.2.2.1).1
  have hb4 := (keys_of ho.2.2.2.2.2.1).1
  have HK := Lib.hid (fun W => Text.specPutText_any r.k W (by unfold maxLen; omega))
  have HD := Lib.hid (fun W => Text.specPutText_any r.d W (by unfold maxLen; omega))
  have HI := Lib.hid (fun W => specId_any r.i W ho.2.1)
  unfold Dep.I.val Id.idV at HI
  obtain ⟨gg, hgg⟩ : ∃ g, r.g = g := ⟨_, rfl⟩
  obtain ⟨gn, hgn⟩ : ∃ n, goneN r.g = n := ⟨_, rfl⟩
  have HGG := Lib.hid hgg
  have HGN := Lib.hid hgn
  have hgn0 : -9223372036854775808 ≤ gn := by rw [← hgn]; unfold goneN; split <;> omega
  have hgn1 : gn ≤ 9223372036854775807 := by rw [← hgn]; unfold goneN; split <;> omega
  obtain ⟨p1, hp1⟩ : ∃ p, Text.putT r.k = p := ⟨_, rfl⟩
  obtain ⟨p2, hp2⟩ : ∃ p, str (idL r.i) = p := ⟨_, rfl⟩
  obtain ⟨p3, hp3⟩ : ∃ p, Text.putT r.d = p := ⟨_, rfl⟩
  obtain ⟨p4, hp4⟩ : ∃ p, Num.putS gn = p := ⟨_, rfl⟩
  obtain ⟨p5, hp5⟩ : ∃ p, Num.putS r.l.length = p := ⟨_, rfl⟩
  have z1 : p1.size ≤ 14 := by rw [← hp1]; exact (tL_str hk4 (by omega)).2
  have z2 : p2.size ≤ 30 := by rw [← hp2, str_size]; exact idL_le _
  have z3 : p3.size ≤ 18 := by rw [← hp3]; exact (tL_str hd8 (by omega)).2
  have z4 : p4.size ≤ 10 := by rw [← hp4]; exact (Num.putS_size _).2
  have z5 : p5.size ≤ 10 := by rw [← hp5]; exact (Num.putS_size _).2
  have y1 : ¬ 9223372036854775807 < p1.size + p2.size := by omega
  have y2 : ¬ 9223372036854775807 < p1.size + p2.size + p3.size := by omega
  have y3 : ¬ 9223372036854775807 < p1.size + p2.size + p3.size + p4.size := by omega
  have y4 : ¬ 9223372036854775807 < p1.size + p2.size + p3.size + p4.size + p5.size := by omega
  have HP1 := Lib.hid hp1
  have HP2 := Lib.hid hp2
  have HP3 := Lib.hid hp3
  have HP4 := Lib.hid hp4
  have HP5 := Lib.hid hp5
  have HT0 := Lib.hid (head_str hk4 hd8 hgn hp1 hp2 hp3 hp4 hp5)
  clear hp1 hp2 hp3 hp4 hp5 hgg hgn ho
  go_enter Try.func37, Try.ntmps37
  go_wp2_with fail
  refine (HRC.out _ HB.out).mono ?_
  rintro e w1 ⟨rfl, hb1⟩
  have HB := Lib.hid (HB.out.trans (hb1.mono HB.out.size))
  have HX := Lib.hid (HX.out.on hb1)
  clear hb1
  obtain ⟨x0, x1, x2, x3, x4, x5, x6, x7⟩ := cells8 HX.out
  dsimp only at x6 x7
  rw [HGG.out] at x5
  go_upto_if 11 with fail
  clear x0 x1 x2 x3 x4 x5 x6 x7
  go_cut [3] (fun s wx => s = .int .i64 gn ∧ wx = w1)
  case first =>
    cases gg
    · have e := HGN.out
      rw [HGG.out] at e
      have HE := Lib.hid e
      clear e
      go_wp2_with fail
      go_meet
      exact ⟨by rw [← HE.out]; rfl, rfl⟩
    · have e := HGN.out
      rw [HGG.out] at e
      have HE := Lib.hid e
      clear e
      go_wp2_with fail
      go_meet
      exact ⟨by rw [← HE.out]; rfl, rfl⟩
  case rest =>
    obtain ⟨rfl, rfl⟩ := hcut
    go_wp2_with fail
    refine wp_region_held_drew (S := (fun W => Blk W w.heap.size 54 (cellsV r ⟨pA, pca, pB, pcb⟩) ∧ Below w.heap.size w W)) (by kernel_rfl) ?_ (fun hHeld => ?_)
    · exact ⟨HX.out, HB.out.drew⟩
    refine wpAnyH_take (i := 0) (v := ?_) rfl (by kernel_rfl) (by kernel_rfl) (by kernel_rfl) (fun _ _ _ h => h) (Or.inl ⟨by rfl, ?_⟩) hHeld ?_
    rotate_left
    · intro W hSw
      obtain ⟨q1, _⟩ := hSw
      obtain ⟨hs1, hs2, hs3, hs4, hs5, hs6, hs7, hs8⟩ := cells8 q1
      go_simp
      try with_reducible rfl
    try simp only [Act.put, List.setIfInBounds_toArray, List.set_cons_zero, List.set_cons_succ, List.getElem_toArray, List.getElem_cons_zero]
    refine wpAnyH_take (i := 1) (v := ?_) rfl (by kernel_rfl) (by kernel_rfl) (by kernel_rfl) (fun _ _ _ h => h) (Or.inl ⟨by rfl, ?_⟩) hHeld ?_
    rotate_left
    · intro W hSw
      obtain ⟨q1, _⟩ := hSw
      obtain ⟨hs1, hs2, hs3, hs4, hs5, hs6, hs7, hs8⟩ := cells8 q1
      go_simp
      try with_reducible rfl
    try simp only [Act.put, List.setIfInBounds_toArray, List.set_cons_zero, List.set_cons_succ, List.getElem_toArray, List.getElem_cons_succ, List.getElem_cons_zero]
    refine wpAnyH_take (i := 3) (v := ?_) rfl (by kernel_rfl) (by kernel_rfl) (by kernel_rfl) (fun _ _ _ h => h) (Or.inl ⟨by rfl, ?_⟩) hHeld ?_
    rotate_left
    · intro W hSw
      obtain ⟨q1, _⟩ := hSw
      obtain ⟨hs1, hs2, hs3, hs4, hs5, hs6, hs7, hs8⟩ := cells8 q1
      go_simp
      try with_reducible rfl
    try simp only [Act.put, List.setIfInBounds_toArray, List.set_cons_zero, List.set_cons_succ, List.getElem_toArray, List.getElem_cons_succ, List.getElem_cons_zero]
    refine wpAnyH_take (i := 4) (v := ?_) rfl (by kernel_rfl) (by kernel_rfl) (by kernel_rfl) (fun _ _ _ h => h) (Or.inl ⟨by rfl, ?_⟩) hHeld ?_
    rotate_left
    · intro W hSw
      obtain ⟨q1, _⟩ := hSw
      obtain ⟨hs1, hs2, hs3, hs4, hs5, hs6, hs7, hs8⟩ := cells8 q1
      go_simp
      try with_reducible rfl
    try simp only [Act.put, List.setIfInBounds_toArray, List.set_cons_zero, List.set_cons_succ, List.getElem_toArray, List.getElem_cons_succ, List.getElem_cons_zero]
    refine wpAnyH_take (i := 7) (v := ?_) rfl (by kernel_rfl) (by kernel_rfl) (by kernel_rfl) (fun _ _ _ h => h) (Or.inl ⟨by rfl, ?_⟩) hHeld ?_
    rotate_left
    · intro W hSw
      obtain ⟨q1, _⟩ := hSw
      obtain ⟨hs1, hs2, hs3, hs4, hs5, hs6, hs7, hs8⟩ := cells8 q1
      go_simp
      try with_reducible rfl
    try simp only [Act.put, List.setIfInBounds_toArray, List.set_cons_zero, List.set_cons_succ, List.getElem_toArray, List.getElem_cons_succ, List.getElem_cons_zero]
    refine wpAnyH_take (i := 8) (v := ?_) rfl (by kernel_rfl) (by kernel_rfl) (by kernel_rfl) (fun _ _ _ h => h) (Or.inl ⟨by rfl, ?_⟩) hHeld ?_
    rotate_left
    · intro W hSw
      obtain ⟨q1, _⟩ := hSw
      obtain ⟨hs1, hs2, hs3, hs4, hs5, hs6, hs7, hs8⟩ := cells8 q1
      go_simp
      try with_reducible rfl
    try simp only [Act.put, List.setIfInBounds_toArray, List.set_cons_zero, List.set_cons_succ, List.getElem_toArray, List.getElem_cons_succ, List.getElem_cons_zero]
    refine wpAnyH_take (i := 11) (v := ?_) rfl (by kernel_rfl) (by kernel_rfl) (by kernel_rfl) (fun _ _ _ h => h) (Or.inl ⟨by rfl, ?_⟩) hHeld ?_
    rotate_left
    · intro W hSw
      obtain ⟨q1, _⟩ := hSw
      obtain ⟨hs1, hs2, hs3, hs4, hs5, hs6, hs7, hs8⟩ := cells8 q1
      go_simp
      try with_reducible rfl
    try simp only [Act.put, List.setIfInBounds_toArray, List.set_cons_zero, List.set_cons_succ, List.getElem_toArray, List.getElem_cons_succ, List.getElem_cons_zero]
    refine wpAnyH_take (i := 14) (v := ?_) rfl (by kernel_rfl) (by kernel_rfl) (by kernel_rfl) (fun _ _ _ h => h) (Or.inl ⟨by rfl, ?_⟩) hHeld ?_
    rotate_left
    · intro W hSw
      obtain ⟨q1, _⟩ := hSw
      obtain ⟨hs1, hs2, hs3, hs4, hs5, hs6, hs7, hs8⟩ := cells8 q1
      go_simp
      try with_reducible rfl
    try simp only [Act.put, List.setIfInBounds_toArray, List.set_cons_zero, List.set_cons_succ, List.getElem_toArray, List.getElem_cons_succ, List.getElem_cons_zero]
    refine wpAnyH_take (i := 15) (v := ?_) rfl (by kernel_rfl) (by kernel_rfl) (by kernel_rfl) (fun _ _ _ h => h) (Or.inl ⟨by rfl, ?_⟩) hHeld ?_
    rotate_left
    · intro W hSw
      obtain ⟨q1, _⟩ := hSw
      obtain ⟨hs1, hs2, hs3, hs4, hs5, hs6, hs7, hs8⟩ := cells8 q1
      go_simp
      try with_reducible rfl
    try simp only [Act.put, List.setIfInBounds_toArray, List.set_cons_zero, List.set_cons_succ, List.getElem_toArray, List.getElem_cons_succ, List.getElem_cons_zero]
    refine wpAnyH_take (i := 16) (v := ?_) rfl (by kernel_rfl) (by kernel_rfl) (by kernel_rfl) (fun _ _ _ h => h) (Or.inl ⟨by rfl, ?_⟩) hHeld ?_
    rotate_left
    · intro W hSw
      obtain ⟨q1, _⟩ := hSw
      obtain ⟨hs1, hs2, hs3, hs4, hs5, hs6, hs7, hs8⟩ := cells8 q1
      go_simp
      try with_reducible rfl
    try simp only [Act.put, List.setIfInBounds_toArray, List.set_cons_zero, List.set_cons_succ, List.getElem_toArray, List.getElem_cons_succ, List.getElem_cons_zero]
    refine wpAnyH_ready (rs := [2]) (by kernel_rfl) (by simp) ?_
    refine AllReadyH.cons rfl (fun K hK => ?_) AllReadyH.nil
    go_simp
    refine (HK.out _).mono ?_
    rintro e v1 ⟨rfl, hb⟩
    rw [HP1.out]
    refine hK.out _ _ ?_ (fun hHeld => ?_)
    · first | exact ⟨hHeld.1.on hb, hHeld.2.trans (hb.mono hHeld.2.size)⟩ | assumption
    clear hK K
    try simp only [Act.put, List.setIfInBounds_toArray, List.set_cons_zero, List.set_cons_succ, List.getElem_toArray, List.getElem_cons_succ, List.getElem_cons_zero]
    refine wpAnyH_ready (rs := [5]) (by kernel_rfl) (by simp) ?_
    refine AllReadyH.cons rfl (fun K hK => ?_) AllReadyH.nil
    go_simp
    refine (HI.out _).mono ?_
    rintro e v2 ⟨rfl, hb⟩
    rw [HP2.out]
    refine hK.out _ _ ?_ (fun hHeld => ?_)
    · first | exact ⟨hHeld.1.on hb, hHeld.2.trans (hb.mono hHeld.2.size)⟩ | assumption
    clear hK K
    try simp only [Act.put, List.setIfInBounds_toArray, List.set_cons_zero, List.set_cons_succ, List.getElem_toArray, List.getElem_cons_succ, List.getElem_cons_zero]
    refine wpAnyH_take (i := 6) (v := ?_) rfl (by kernel_rfl) (by kernel_rfl) (by kernel_rfl) (fun _ _ _ h => h) (Or.inl ⟨by rfl, ?_⟩) hHeld ?_
    rotate_left
    · intro W hSw
      obtain ⟨q1, _⟩ := hSw
      obtain ⟨hs1, hs2, hs3, hs4, hs5, hs6, hs7, hs8⟩ := cells8 q1
      go_simp
      try with_reducible rfl
    try simp only [Act.put, List.setIfInBounds_toArray, List.set_cons_zero, List.set_cons_succ, List.getElem_toArray, List.getElem_cons_succ, List.getElem_cons_zero]
    refine wpAnyH_ready (rs := [9]) (by kernel_rfl) (by simp) ?_
    refine AllReadyH.cons rfl (fun K hK => ?_) AllReadyH.nil
    go_simp
    refine (HD.out _).mono ?_
    rintro e v3 ⟨rfl, hb⟩
    rw [HP3.out]
    refine hK.out _ _ ?_ (fun hHeld => ?_)
    · first | exact ⟨hHeld.1.on hb, hHeld.2.trans (hb.mono hHeld.2.size)⟩ | assumption
    clear hK K
    try simp only [Act.put, List.setIfInBounds_toArray, List.set_cons_zero, List.set_cons_succ, List.getElem_toArray, List.getElem_cons_succ, List.getElem_cons_zero]
    refine wpAnyH_take (i := 10) (v := ?_) rfl (by kernel_rfl) (by kernel_rfl) (by kernel_rfl) (fun _ _ _ h => h) (Or.inl ⟨by rfl, ?_⟩) hHeld ?_
    rotate_left
    · intro W hSw
      obtain ⟨q1, _⟩ := hSw
      obtain ⟨hs1, hs2, hs3, hs4, hs5, hs6, hs7, hs8⟩ := cells8 q1
      go_simp
      try with_reducible rfl
    try simp only [Act.put, List.setIfInBounds_toArray, List.set_cons_zero, List.set_cons_succ, List.getElem_toArray, List.getElem_cons_succ, List.getElem_cons_zero]
    refine wpAnyH_ready (rs := [12]) (by kernel_rfl) (by simp) ?_
    refine AllReadyH.cons rfl (fun K hK => ?_) AllReadyH.nil
    go_simp
    refine (Num.specPutNum_any gn _ hgn0 hgn1).mono ?_
    rintro e v4 ⟨rfl, hb⟩
    rw [HP4.out]
    refine hK.out _ _ ?_ (fun hHeld => ?_)
    · first | exact ⟨hHeld.1.on hb, hHeld.2.trans (hb.mono hHeld.2.size)⟩ | assumption
    clear hK K
    try simp only [Act.put, List.setIfInBounds_toArray, List.set_cons_zero, List.set_cons_succ, List.getElem_toArray, List.getElem_cons_succ, List.getElem_cons_zero]
    refine wpAnyH_take (i := 13) (v := ?_) rfl (by kernel_rfl) (by kernel_rfl) (by kernel_rfl) (fun _ _ _ h => h) (Or.inl ⟨by rfl, ?_⟩) hHeld ?_
    rotate_left
    · intro W hSw
      obtain ⟨q1, _⟩ := hSw
      obtain ⟨hs1, hs2, hs3, hs4, hs5, hs6, hs7, hs8⟩ := cells8 q1
      go_simp
      try with_reducible rfl
    try simp only [Act.put, List.setIfInBounds_toArray, List.set_cons_zero, List.set_cons_succ, List.getElem_toArray, List.getElem_cons_succ, List.getElem_cons_zero]
    refine wpAnyH_ready (rs := [17]) (by kernel_rfl) (by simp) ?_
    refine AllReadyH.cons rfl (fun K hK => ?_) AllReadyH.nil
    go_simp
    refine (Num.specPutNum_any r.l.length _ (by omega) (by omega)).mono ?_
    rintro e v5 ⟨rfl, hb⟩
    rw [HP5.out]
    refine hK.out _ _ ?_ (fun hHeld => ?_)
    · first | exact ⟨hHeld.1.on hb, hHeld.2.trans (hb.mono hHeld.2.size)⟩ | assumption
    clear hK K
    try simp only [Act.put, List.setIfInBounds_toArray, List.set_cons_zero, List.set_cons_succ, List.getElem_toArray, List.getElem_cons_succ, List.getElem_cons_zero]
    refine wpAnyH_take (i := 18) (v := ?_) rfl (by kernel_rfl) (by kernel_rfl) (by kernel_rfl) (fun _ _ _ h => h) (Or.inl ⟨by rfl, ?_⟩) hHeld ?_
    rotate_left
    · intro W hSw
      obtain ⟨q1, _⟩ := hSw
      obtain ⟨hs1, hs2, hs3, hs4, hs5, hs6, hs7, hs8⟩ := cells8 q1
      go_simp
      try with_reducible rfl
    try simp only [Act.put, List.setIfInBounds_toArray, List.set_cons_zero, List.set_cons_succ, List.getElem_toArray, List.getElem_cons_succ, List.getElem_cons_zero]
    refine wpAnyH_take (i := 19) (v := ?_) rfl (by kernel_rfl) (by kernel_rfl) (by kernel_rfl) (fun _ _ _ h => h) (Or.inl ⟨by rfl, ?_⟩) hHeld ?_
    rotate_left
    · intro W hSw
      obtain ⟨q1, _⟩ := hSw
      obtain ⟨hs1, hs2, hs3, hs4, hs5, hs6, hs7, hs8⟩ := cells8 q1
      go_simp
      try with_reducible rfl
    try simp only [Act.put, List.setIfInBounds_toArray, List.set_cons_zero, List.set_cons_succ, List.getElem_toArray, List.getElem_cons_succ, List.getElem_cons_zero]
    refine wpAnyH_done (by kernel_rfl) ?_ _
    have HB := Lib.hid hHeld.2
    have HX := Lib.hid hHeld.1
    clear hHeld hb
    generalize hv5 : v5 = vz at HB HX ⊢
    clear hv5
    have ZT := Lib.hid (show (p1 ++ p2 ++ p3 ++ p4 ++ p5).size ≤ 500 by rw [HT0.out, str_size]; exact upDeps_le HO.out 0)
    generalize p1 ++ p2 ++ p3 ++ p4 ++ p5 = t0 at HT0 ZT ⊢
    go_wp2_with fail
    go_loopw [4, 5] (fun u i wr => ∃ k : Nat, k ≤ r.l.length ∧ i = .int .i64 k ∧ ∃ t : ByteArray, u = .string t ∧ Hid (t = str (upDeps r k) ∧ Below w.heap.size w wr ∧ Blk wr w.heap.size 54 (cellsV r ⟨pA, pca, pB, pcb⟩))) (fun _ i _ => r.l.length - (intOf i).toNat)
    case atStart => exact ⟨0, by omega, rfl, t0, rfl, Lib.hid ⟨HT0.out, HB.out, HX.out⟩⟩
    case round =>
      obtain ⟨k, hk, rfl, t, rfl, HR⟩ := hrel
      obtain ⟨x0, x1, x2, x3, x4, x5, x6, x7⟩ := cells8 HR.out.2.2
      dsimp only at x6 x7
      have zt : t.size ≤ 500 := by rw [HR.out.1, str_size]; exact upDeps_le HO.out k
      by_cases hlt : k < r.l.length
      · obtain ⟨ad, rfl, _, hat⟩ := (HLD.out.below HR.out.2.1 (Nat.le_refl _)).at_ hlt
        have hgd := (Dep.ok_of HO.out.2.2.2.2.1).2.1 r.l[k] (List.getElem_mem hlt)
        obtain ⟨y, hy⟩ : ∃ y, r.l[k] = y := ⟨_, rfl⟩
        rw [hy] at hat hgd
        have hyk := key_le hgd.1
        have HK2 := Lib.hid (fun W => Text.specPutText_any y.k W (by unfold maxLen; omega))
        have HI2 := Lib.hid (fun W => specId_any y.i W hgd.2)
        unfold Dep.I.val Id.idV at HI2
        obtain ⟨q1, hq1⟩ : ∃ p, Text.putT y.k = p := ⟨_, rfl⟩
        obtain ⟨q2, hq2⟩ : ∃ p, str (idL y.i) = p := ⟨_, rfl⟩
        have z6 : q1.size ≤ 14 := by rw [← hq1]; exact (tL_str hyk (by omega)).2
        have z7 : q2.size ≤ 30 := by rw [← hq2, str_size]; exact idL_le _
        have y5 : ¬ 9223372036854775807 < t.size + q1.size := by omega
        have y6 : ¬ 9223372036854775807 < t.size + q1.size + q2.size := by omega
        have HQ1 := Lib.hid hq1
        have HQ2 := Lib.hid hq2
        have HST := Lib.hid (step_str hlt hy HR.out.1 hyk hq1 hq2)
        clear hq1 hq2 hgd hy
        go_upto_region 10 with fail
        clear x0 x1 x2 x3 x4 x5 x6 x7
        refine wp_region_held_drew (S := (fun W => Blk W w.heap.size 54 (cellsV r ⟨some ad, pca, pB, pcb⟩) ∧ Dep.At W (ad.add (k * 4)) y ∧ Below w.heap.size w W)) (by kernel_rfl) ?_ (fun hHeld => ?_)
        · exact ⟨HR.out.2.2, hat, HR.out.2.1.drew⟩
        refine wpAnyH_take (i := 0) (v := ?_) rfl (by kernel_rfl) (by kernel_rfl) (by kernel_rfl) (fun _ _ _ h => h) (Or.inl ⟨by rfl, ?_⟩) hHeld ?_
        rotate_left
        · intro W hSw
          obtain ⟨q1, ⟨hs9, hs10, hs11, hs12⟩, _⟩ := hSw
          obtain ⟨hs1, hs2, hs3, hs4, hs5, hs6, hs7, hs8⟩ := cells8 q1
          go_simp
          try with_reducible rfl
        try simp only [Act.put, List.setIfInBounds_toArray, List.set_cons_zero, List.set_cons_succ, List.getElem_toArray, List.getElem_cons_zero]
        refine wpAnyH_take (i := 1) (v := ?_) rfl (by kernel_rfl) (by kernel_rfl) (by kernel_rfl) (fun _ _ _ h => h) (Or.inl ⟨by rfl, ?_⟩) hHeld ?_
        rotate_left
        · intro W hSw
          obtain ⟨q1, ⟨hs9, hs10, hs11, hs12⟩, _⟩ := hSw
          obtain ⟨hs1, hs2, hs3, hs4, hs5, hs6, hs7, hs8⟩ := cells8 q1
          go_simp
          try with_reducible rfl
        try simp only [Act.put, List.setIfInBounds_toArray, List.set_cons_zero, List.set_cons_succ, List.getElem_toArray, List.getElem_cons_succ, List.getElem_cons_zero]
        refine wpAnyH_take (i := 2) (v := ?_) rfl (by kernel_rfl) (by kernel_rfl) (by kernel_rfl) (fun _ _ _ h => h) (Or.inl ⟨by rfl, ?_⟩) hHeld ?_
        rotate_left
        · intro W hSw
          obtain ⟨q1, ⟨hs9, hs10, hs11, hs12⟩, _⟩ := hSw
          obtain ⟨hs1, hs2, hs3, hs4, hs5, hs6, hs7, hs8⟩ := cells8 q1
          go_simp
          try with_reducible rfl
        try simp only [Act.put, List.setIfInBounds_toArray, List.set_cons_zero, List.set_cons_succ, List.getElem_toArray, List.getElem_cons_succ, List.getElem_cons_zero]
        refine wpAnyH_take (i := 3) (v := ?_) rfl (by kernel_rfl) (by kernel_rfl) (by kernel_rfl) (fun _ _ _ h => h) (Or.inl ⟨by rfl, ?_⟩) hHeld ?_
        rotate_left
        · intro W hSw
          obtain ⟨q1, ⟨hs9, hs10, hs11, hs12⟩, _⟩ := hSw
          obtain ⟨hs1, hs2, hs3, hs4, hs5, hs6, hs7, hs8⟩ := cells8 q1
          go_simp
          try with_reducible rfl
        try simp only [Act.put, List.setIfInBounds_toArray, List.set_cons_zero, List.set_cons_succ, List.getElem_toArray, List.getElem_cons_succ, List.getElem_cons_zero]
        refine wpAnyH_take (i := 4) (v := ?_) rfl (by kernel_rfl) (by kernel_rfl) (by kernel_rfl) (fun _ _ _ h => h) (Or.inl ⟨by rfl, ?_⟩) hHeld ?_
        rotate_left
        · intro W hSw
          obtain ⟨q1, ⟨hs9, hs10, hs11, hs12⟩, _⟩ := hSw
          obtain ⟨hs1, hs2, hs3, hs4, hs5, hs6, hs7, hs8⟩ := cells8 q1
          go_simp
          try with_reducible rfl
        try simp only [Act.put, List.setIfInBounds_toArray, List.set_cons_zero, List.set_cons_succ, List.getElem_toArray, List.getElem_cons_succ, List.getElem_cons_zero]
        refine wpAnyH_take (i := 5) (v := ?_) rfl (by kernel_rfl) (by kernel_rfl) (by kernel_rfl) (fun _ _ _ h => h) (Or.inl ⟨by rfl, ?_⟩) hHeld ?_
        rotate_left
        · intro W hSw
          obtain ⟨q1, ⟨hs9, hs10, hs11, hs12⟩, _⟩ := hSw
          obtain ⟨hs1, hs2, hs3, hs4, hs5, hs6, hs7, hs8⟩ := cells8 q1
          go_simp
          try with_reducible rfl
        try simp only [Act.put, List.setIfInBounds_toArray, List.set_cons_zero, List.set_cons_succ, List.getElem_toArray, List.getElem_cons_succ, List.getElem_cons_zero]
        refine wpAnyH_take (i := 6) (v := ?_) rfl (by kernel_rfl) (by kernel_rfl) (by kernel_rfl) (fun _ _ _ h => h) (Or.inl ⟨by rfl, ?_⟩) hHeld ?_
        rotate_left
        · intro W hSw
          obtain ⟨q1, ⟨hs9, hs10, hs11, hs12⟩, _⟩ := hSw
          obtain ⟨hs1, hs2, hs3, hs4, hs5, hs6, hs7, hs8⟩ := cells8 q1
          go_simp
          try with_reducible rfl
        try simp only [Act.put, List.setIfInBounds_toArray, List.set_cons_zero, List.set_cons_succ, List.getElem_toArray, List.getElem_cons_succ, List.getElem_cons_zero]
        refine wpAnyH_take (i := 9) (v := ?_) rfl (by kernel_rfl) (by kernel_rfl) (by kernel_rfl) (fun _ _ _ h => h) (Or.inl ⟨by rfl, ?_⟩) hHeld ?_
        rotate_left
        · intro W hSw
          obtain ⟨q1, ⟨hs9, hs10, hs11, hs12⟩, _⟩ := hSw
          obtain ⟨hs1, hs2, hs3, hs4, hs5, hs6, hs7, hs8⟩ := cells8 q1
          go_simp
          try with_reducible rfl
        try simp only [Act.put, List.setIfInBounds_toArray, List.set_cons_zero, List.set_cons_succ, List.getElem_toArray, List.getElem_cons_succ, List.getElem_cons_zero]
        refine wpAnyH_take (i := 10) (v := ?_) rfl (by kernel_rfl) (by kernel_rfl) (by kernel_rfl) (fun _ _ _ h => h) (Or.inl ⟨by rfl, ?_⟩) hHeld ?_
        rotate_left
        · intro W hSw
          obtain ⟨q1, ⟨hs9, hs10, hs11, hs12⟩, _⟩ := hSw
          obtain ⟨hs1, hs2, hs3, hs4, hs5, hs6, hs7, hs8⟩ := cells8 q1
          go_simp
          try with_reducible rfl
        try simp only [Act.put, List.setIfInBounds_toArray, List.set_cons_zero, List.set_cons_succ, List.getElem_toArray, List.getElem_cons_succ, List.getElem_cons_zero]
        refine wpAnyH_take (i := 11) (v := ?_) rfl (by kernel_rfl) (by kernel_rfl) (by kernel_rfl) (fun _ _ _ h => h) (Or.inl ⟨by rfl, ?_⟩) hHeld ?_
        rotate_left
        · intro W hSw
          obtain ⟨q1, ⟨hs9, hs10, hs11, hs12⟩, _⟩ := hSw
          obtain ⟨hs1, hs2, hs3, hs4, hs5, hs6, hs7, hs8⟩ := cells8 q1
          go_simp
          try with_reducible rfl
        try simp only [Act.put, List.setIfInBounds_toArray, List.set_cons_zero, List.set_cons_succ, List.getElem_toArray, List.getElem_cons_succ, List.getElem_cons_zero]
        refine wpAnyH_take (i := 12) (v := ?_) rfl (by kernel_rfl) (by kernel_rfl) (by kernel_rfl) (fun _ _ _ h => h) (Or.inl ⟨by rfl, ?_⟩) hHeld ?_
        rotate_left
        · intro W hSw
          obtain ⟨q1, ⟨hs9, hs10, hs11, hs12⟩, _⟩ := hSw
          obtain ⟨hs1, hs2, hs3, hs4, hs5, hs6, hs7, hs8⟩ := cells8 q1
          go_simp
          try with_reducible rfl
        try simp only [Act.put, List.setIfInBounds_toArray, List.set_cons_zero, List.set_cons_succ, List.getElem_toArray, List.getElem_cons_succ, List.getElem_cons_zero]
        refine wpAnyH_take (i := 13) (v := ?_) rfl (by kernel_rfl) (by kernel_rfl) (by kernel_rfl) (fun _ _ _ h => h) (Or.inl ⟨by rfl, ?_⟩) hHeld ?_
        rotate_left
        · intro W hSw
          obtain ⟨q1, ⟨hs9, hs10, hs11, hs12⟩, _⟩ := hSw
          obtain ⟨hs1, hs2, hs3, hs4, hs5, hs6, hs7, hs8⟩ := cells8 q1
          go_simp
          try with_reducible rfl
        try simp only [Act.put, List.setIfInBounds_toArray, List.set_cons_zero, List.set_cons_succ, List.getElem_toArray, List.getElem_cons_succ, List.getElem_cons_zero]
        refine wpAnyH_take (i := 14) (v := ?_) rfl (by kernel_rfl) (by kernel_rfl) (by kernel_rfl) (fun _ _ _ h => h) (Or.inl ⟨by rfl, ?_⟩) hHeld ?_
        rotate_left
        · intro W hSw
          obtain ⟨q1, ⟨hs9, hs10, hs11, hs12⟩, _⟩ := hSw
          obtain ⟨hs1, hs2, hs3, hs4, hs5, hs6, hs7, hs8⟩ := cells8 q1
          go_simp
          try with_reducible rfl
        try simp only [Act.put, List.setIfInBounds_toArray, List.set_cons_zero, List.set_cons_succ, List.getElem_toArray, List.getElem_cons_succ, List.getElem_cons_zero]
        refine wpAnyH_ready (rs := [7]) (by kernel_rfl) (by simp) ?_
        refine AllReadyH.cons rfl (fun K hK => ?_) AllReadyH.nil
        go_simp
        refine (HK2.out _).mono ?_
        rintro e v6 ⟨rfl, hb⟩
        rw [HQ1.out]
        refine hK.out _ _ ?_ (fun hHeld => ?_)
        · first | exact ⟨hHeld.1.on hb, Dep.at_step hHeld.2.1 hb, hHeld.2.2.trans (hb.mono hHeld.2.2.size)⟩ | assumption
        clear hK K
        try simp only [Act.put, List.setIfInBounds_toArray, List.set_cons_zero, List.set_cons_succ, List.getElem_toArray, List.getElem_cons_succ, List.getElem_cons_zero]
        refine wpAnyH_take (i := 8) (v := ?_) rfl (by kernel_rfl) (by kernel_rfl) (by kernel_rfl) (fun _ _ _ h => h) (Or.inl ⟨by rfl, ?_⟩) hHeld ?_
        rotate_left
        · intro W hSw
          obtain ⟨q1, ⟨hs9, hs10, hs11, hs12⟩, _⟩ := hSw
          obtain ⟨hs1, hs2, hs3, hs4, hs5, hs6, hs7, hs8⟩ := cells8 q1
          go_simp
          try with_reducible rfl
        try simp only [Act.put, List.setIfInBounds_toArray, List.set_cons_zero, List.set_cons_succ, List.getElem_toArray, List.getElem_cons_succ, List.getElem_cons_zero]
        refine wpAnyH_ready (rs := [15]) (by kernel_rfl) (by simp) ?_
        refine AllReadyH.cons rfl (fun K hK => ?_) AllReadyH.nil
        go_simp
        refine (HI2.out _).mono ?_
        rintro e v7 ⟨rfl, hb⟩
        rw [HQ2.out]
        refine hK.out _ _ ?_ (fun hHeld => ?_)
        · first | exact ⟨hHeld.1.on hb, Dep.at_step hHeld.2.1 hb, hHeld.2.2.trans (hb.mono hHeld.2.2.size)⟩ | assumption
        clear hK K
        try simp only [Act.put, List.setIfInBounds_toArray, List.set_cons_zero, List.set_cons_succ, List.getElem_toArray, List.getElem_cons_succ, List.getElem_cons_zero]
        refine wpAnyH_take (i := 16) (v := ?_) rfl (by kernel_rfl) (by kernel_rfl) (by kernel_rfl) (fun _ _ _ h => h) (Or.inl ⟨by rfl, ?_⟩) hHeld ?_
        rotate_left
        · intro W hSw
          obtain ⟨q1, ⟨hs9, hs10, hs11, hs12⟩, _⟩ := hSw
          obtain ⟨hs1, hs2, hs3, hs4, hs5, hs6, hs7, hs8⟩ := cells8 q1
          go_simp
          try with_reducible rfl
        try simp only [Act.put, List.setIfInBounds_toArray, List.set_cons_zero, List.set_cons_succ, List.getElem_toArray, List.getElem_cons_succ, List.getElem_cons_zero]
        refine wpAnyH_take (i := 17) (v := ?_) rfl (by kernel_rfl) (by kernel_rfl) (by kernel_rfl) (fun _ _ _ h => h) (Or.inl ⟨by rfl, ?_⟩) hHeld ?_
        rotate_left
        · intro W hSw
          obtain ⟨q1, ⟨hs9, hs10, hs11, hs12⟩, _⟩ := hSw
          obtain ⟨hs1, hs2, hs3, hs4, hs5, hs6, hs7, hs8⟩ := cells8 q1
          go_simp
          try with_reducible rfl
        try simp only [Act.put, List.setIfInBounds_toArray, List.set_cons_zero, List.set_cons_succ, List.getElem_toArray, List.getElem_cons_succ, List.getElem_cons_zero]
        refine wpAnyH_done (by kernel_rfl) ?_ _
        have HE := Lib.hid hHeld
        clear hHeld hb
        go_wp2_with fail
        go_roundw
        case rel => exact ⟨k + 1, by omega, by go_num, _, rfl, Lib.hid ⟨HST.out, HE.out.2.2, HE.out.1⟩⟩
        case measure => simp [intOf]; omega
      · have hke : k = r.l.length := by omega
        have HT := Lib.hid (show t = str (upDeps r r.l.length) by have e := HR.out.1; rw [hke] at e; exact e)
        clear hke
        obtain ⟨q, hq⟩ : ∃ p, Num.putS r.b.length = p := ⟨_, rfl⟩
        have zq : q.size ≤ 10 := by rw [← hq]; exact (Num.putS_size _).2
        have HQ := Lib.hid hq
        have HKS := Lib.hid (keys_str HT.out hq)
        clear hq
        have HB := Lib.hid HR.out.2.1
        have HX := Lib.hid HR.out.2.2
        go_wp2_with fail
        refine (Num.specPutNum_any r.b.length _ (by omega) (by omega)).mono ?_
        rintro e w3 ⟨rfl, hb3⟩
        rw [HQ.out]
        have HB := Lib.hid (HB.out.trans (hb3.mono HB.out.size))
        have HX := Lib.hid (HX.out.on hb3)
        clear hb3 x0 x1 x2 x3 x4 x5 x6 x7
        have y7 : ¬ 9223372036854775807 < t.size + q.size := by omega
        go_wp2_with fail
        have ZK := Lib.hid (show (t ++ q).size ≤ 1000 by rw [HKS.out, str_size]; exact upKeys_le HO.out 0)
        generalize t ++ q = t1 at HKS ZK ⊢
        go_loopw [4, 6] (fun u i wr => ∃ k : Nat, k ≤ r.b.length ∧ i = .int .i64 k ∧ ∃ t : ByteArray, u = .string t ∧ Hid (t = str (upKeys r k) ∧ Below w.heap.size w wr ∧ Blk wr w.heap.size 54 (cellsV r ⟨pA, pca, pB, pcb⟩))) (fun _ i _ => r.b.length - (intOf i).toNat)
        case atStart => exact ⟨0, by omega, rfl, t1, rfl, Lib.hid ⟨HKS.out, HB.out, HX.out⟩⟩
        case round =>
          obtain ⟨j, hj, rfl, u, rfl, HU⟩ := hrel
          obtain ⟨x0, x1, x2, x3, x4, x5, x6, x7⟩ := cells8 HU.out.2.2
          dsimp only at x6 x7
          have zu : u.size ≤ 1000 := by rw [HU.out.1, str_size]; exact upKeys_le HO.out j
          by_cases hjt : j < r.b.length
          · obtain ⟨bd, rfl, _, c0⟩ := (HLS.out.below HU.out.2.1 (Nat.le_refl _)).at_ hjt
            have hgd := (keys_of HO.out.2.2.2.2.2.1).2.1 r.b[j] (List.getElem_mem hjt)
            obtain ⟨y, hy⟩ : ∃ y, r.b[j] = y := ⟨_, rfl⟩
            rw [hy] at c0 hgd
            have hyk := key_le hgd
            obtain ⟨q1, hq1⟩ : ∃ p, Text.putT y = p := ⟨_, rfl⟩
            have z6 : q1.size ≤ 14 := by rw [← hq1]; exact (tL_str hyk (by omega)).2
            have y5 : ¬ 9223372036854775807 < u.size + q1.size := by omega
            have HQ1 := Lib.hid hq1
            have HST := Lib.hid (key_str hjt hy HU.out.1 hyk hq1)
            clear hq1 hgd hy
            go_wp2_with fail
            refine (Text.specPutText_any y _ (by unfold maxLen; omega)).mono ?_
            rintro e w4 ⟨rfl, hb4⟩
            rw [HQ1.out]
            have HB4 := Lib.hid (HU.out.2.1.trans (hb4.mono HU.out.2.1.size))
            have HX4 := Lib.hid (HU.out.2.2.on hb4)
            clear hb4 x0 x1 x2 x3 x4 x5 x6 x7
            go_wp2_with fail
            go_roundw
            case rel => exact ⟨j + 1, by omega, by go_num, _, rfl, Lib.hid ⟨HST.out, HB4.out, HX4.out⟩⟩
            case measure => simp [intOf]; omega
          · have hje : j = r.b.length := by omega
            have HF := Lib.hid (show u = str (bodyL r) by have e := HU.out.1; rw [hje, upKeys_all] at e; exact e)
            clear hje
            go_wp2_with fail
            refine (Seal.specSeal_any u _ (by unfold maxLen; omega)).mono ?_
            rintro e w5 ⟨rfl, hb5⟩
            have HB5 := Lib.hid (HU.out.2.1.trans (hb5.mono HU.out.2.1.size))
            clear hb5
            go_wp2_with fail
            go_ret
            exact ⟨ret_str (by rw [HF.out]), HB5.out⟩
end Go.Proofs.Ytkmlnibkdcdegaa.Rec

/-
  A record's bytes: impl.RecBytes.
-/
namespace Go.Proofs.Ytkmlnibkdcdegaa.Rec
open Go.ChangeShapes Go.WideShapes Go.ChangeAt Go.RowKit
open Dep (D I)
set_option linter.unusedVariables false
set_option maxRecDepth 100000
set_option linter.unusedSimpArgs false

theorem rcdBytes_r (r : R) (w : World) (hi : r.i.right = true) (hk : r.k.size ≤ 8000) (hd : r.d.size ≤ 8000) :
    Calls Try.prog 85 #[.agg #[.int .i64 r.i.c, .int .i64 r.i.s, .int .i64 r.i.e, .string r.k, .string r.d, .bool r.g]] w fun x w' => x = .returned (.string (str (hdL r))) ∧ Below w.heap.size w w' := rcdBytes_any r.k r.i r.d r.g r.l r.b w hi hk hd
theorem cells4 {W : World} {b t : Nat} {a0 a1 a2 a3 : Value} (h : Blk W b t #[a0, a1, a2, a3]) : W.cell? ⟨b, 0, none⟩ = some a0 ∧ W.cell? ⟨b, 1, none⟩ = some a1 ∧ W.cell? ⟨b, 2, none⟩ = some a2 ∧ W.cell? ⟨b, 3, none⟩ = some a3 :=
  ⟨h.cell 0, h.cell 1, h.cell 2, h.cell 3⟩
theorem own_eq {w : World} {base n m : Nat} {v : Value} {l l' : List ByteArray} (h : w.ownsRow base 9 1 v n (Str.flat l)) (hn : n = m) (hl : l = l') : w.ownsRow base 9 1 v m (Str.flat l') := by subst hn hl; exact h

set_option maxHeartbeats 8000000 in
theorem implBytes_any (r : R) (p : P) (w : World) (h : Lies w w.heap.size r p) (hs : Sound r) :
    Calls Try.prog 38 #[recV r p] w fun x w' => x = .returned (.string (bytesV r)) ∧ Below w.heap.size w w' := by
  have HRC := Lib.hid (fun W (hW : Below w.heap.size w W) => implRec_any r p W (h.step hW (Nat.le_refl _) hW.size) hs)
  have HRO := Lib.hid (fun W => recordOf_any r p W)
  obtain ⟨pA, pca, pB, pcb⟩ := p
  have HLD : Hid (Dep.Lies w w.heap.size pA r.l) := Lib.hid h.1
  have HLS : Hid (Str.Lies w w.heap.size pB r.b) := Lib.hid h.2
  have HB := Lib.hid ((Below.refl w.heap.size w).alloc (Nat.le_refl _) (.cells (cellsV r ⟨pA, pca, pB, pcb⟩) 54))
  have HX := Lib.hid (Blk.new w 54 (cellsV r ⟨pA, pca, pB, pcb⟩))
  clear h hs
  unfold recV at *
  cases er : recB r
  · rw [er] at HRC
    rw [bytes_no er]
    clear er
    go_enter Try.func38, Try.ntmps38
    go_wp2_with fail
    refine (HRC.out _ HB.out).mono ?_
    rintro e w1 ⟨rfl, hb1⟩
    have HB := Lib.hid (HB.out.trans (hb1.mono HB.out.size))
    clear hb1
    go_wp2_with fail
    go_ret
    exact ⟨rfl, HB.out⟩
  have ho := rec_of er
  rw [er] at HRC
  rw [bytes_ok ho]
  clear er
  have HOK := Lib.hid ho
  have hk4 := key_le ho.1
  have hd8 := (dat_of ho.2.2.1).1
  have hl6 := (Dep.ok_of ho.2.2.2.2.1).1
  have hb4 := (keys_of ho.2.2.2.2.2.1).1
  have HBY := Lib.hid (fun W => rcdBytes_r r W ho.2.1 (by omega) (by omega))
  obtain ⟨p1, hp1⟩ : ∃ p, str (hdL r) = p := ⟨_, rfl⟩
  obtain ⟨p2, hp2⟩ : ∃ p, Num.putS r.l.length = p := ⟨_, rfl⟩
  have HP1 := Lib.hid hp1
  have HP2 := Lib.hid hp2
  have HPS := Lib.hid (show [p1, p2] = psD r 0 by rw [← hp1, ← hp2, put_str]; simp [psD])
  have HL0 := Lib.hid (psD_len r)
  have HLK := Lib.hid (psK_len r)
  clear hp1 hp2 ho
  go_enter Try.func38, Try.ntmps38
  go_wp2_with fail
  refine (HRC.out _ HB.out).mono ?_
  rintro e w1 ⟨rfl, hb1⟩
  have HB := Lib.hid (HB.out.trans (hb1.mono HB.out.size))
  have HX := Lib.hid (HX.out.on hb1)
  clear hb1
  go_wp2_with fail
  refine wp_region_held_drew (S := (fun W => Blk W w.heap.size 54 (cellsV r ⟨pA, pca, pB, pcb⟩) ∧ Below w.heap.size w W)) (by kernel_rfl) ?_ (fun hHeld => ?_)
  · exact ⟨HX.out, HB.out.drew⟩
  refine wpAnyH_take (i := 0) (v := ?_) rfl (by kernel_rfl) (by kernel_rfl) (by kernel_rfl) (fun _ _ _ h => h) (Or.inl ⟨by rfl, ?_⟩) hHeld ?_
  rotate_left
  · intro W hSw
    obtain ⟨q1, _⟩ := hSw
    obtain ⟨hs1, hs2, hs3, hs4, hs5, hs6, hs7, hs8⟩ := cells8 q1
    go_simp
    try with_reducible rfl
  try simp only [Act.put, List.setIfInBounds_toArray, List.set_cons_zero, List.set_cons_succ, List.getElem_toArray, List.getElem_cons_zero]
  refine wpAnyH_take (i := 3) (v := ?_) rfl (by kernel_rfl) (by kernel_rfl) (by kernel_rfl) (fun _ _ _ h => h) (Or.inl ⟨by rfl, ?_⟩) hHeld ?_
  rotate_left
  · intro W hSw
    obtain ⟨q1, _⟩ := hSw
    obtain ⟨hs1, hs2, hs3, hs4, hs5, hs6, hs7, hs8⟩ := cells8 q1
    go_simp
    try with_reducible rfl
  try simp only [Act.put, List.setIfInBounds_toArray, List.set_cons_zero, List.set_cons_succ, List.getElem_toArray, List.getElem_cons_succ, List.getElem_cons_zero]
  refine wpAnyH_take (i := 4) (v := ?_) rfl (by kernel_rfl) (by kernel_rfl) (by kernel_rfl) (fun _ _ _ h => h) (Or.inl ⟨by rfl, ?_⟩) hHeld ?_
  rotate_left
  · intro W hSw
    obtain ⟨q1, _⟩ := hSw
    obtain ⟨hs1, hs2, hs3, hs4, hs5, hs6, hs7, hs8⟩ := cells8 q1
    go_simp
    try with_reducible rfl
  try simp only [Act.put, List.setIfInBounds_toArray, List.set_cons_zero, List.set_cons_succ, List.getElem_toArray, List.getElem_cons_succ, List.getElem_cons_zero]
  refine wpAnyH_take (i := 5) (v := ?_) rfl (by kernel_rfl) (by kernel_rfl) (by kernel_rfl) (fun _ _ _ h => h) (Or.inl ⟨by rfl, ?_⟩) hHeld ?_
  rotate_left
  · intro W hSw
    obtain ⟨q1, _⟩ := hSw
    obtain ⟨hs1, hs2, hs3, hs4, hs5, hs6, hs7, hs8⟩ := cells8 q1
    go_simp
    try with_reducible rfl
  try simp only [Act.put, List.setIfInBounds_toArray, List.set_cons_zero, List.set_cons_succ, List.getElem_toArray, List.getElem_cons_succ, List.getElem_cons_zero]
  refine wpAnyH_ready (rs := [1]) (by kernel_rfl) (by simp) ?_
  refine AllReadyH.cons rfl (fun K hK => ?_) AllReadyH.nil
  go_simp
  refine (HRO.out _).mono ?_
  rintro e v1 ⟨rfl, hb⟩
  unfold rcdV
  refine hK.out _ _ ?_ (fun hHeld => ?_)
  · first | exact ⟨hHeld.1.on hb, hHeld.2.trans (hb.mono hHeld.2.size)⟩ | assumption
  clear hK K
  try simp only [Act.put, List.setIfInBounds_toArray, List.set_cons_zero, List.set_cons_succ, List.getElem_toArray, List.getElem_cons_succ, List.getElem_cons_zero]
  refine wpAnyH_ready (rs := [2]) (by kernel_rfl) (by simp) ?_
  refine AllReadyH.cons rfl (fun K hK => ?_) AllReadyH.nil
  go_simp
  refine (HBY.out _).mono ?_
  rintro e v2 ⟨rfl, hb⟩
  rw [HP1.out]
  refine hK.out _ _ ?_ (fun hHeld => ?_)
  · first | exact ⟨hHeld.1.on hb, hHeld.2.trans (hb.mono hHeld.2.size)⟩ | assumption
  clear hK K
  try simp only [Act.put, List.setIfInBounds_toArray, List.set_cons_zero, List.set_cons_succ, List.getElem_toArray, List.getElem_cons_succ, List.getElem_cons_zero]
  refine wpAnyH_ready (rs := [6]) (by kernel_rfl) (by simp) ?_
  refine AllReadyH.cons rfl (fun K hK => ?_) AllReadyH.nil
  go_simp
  refine (Num.implPutNum_any r.l.length _ (by omega) (by omega)).mono ?_
  rintro e v3 ⟨rfl, hb⟩
  rw [HP2.out]
  refine hK.out _ _ ?_ (fun hHeld => ?_)
  · first | exact ⟨hHeld.1.on hb, hHeld.2.trans (hb.mono hHeld.2.size)⟩ | assumption
  clear hK K
  try simp only [Act.put, List.setIfInBounds_toArray, List.set_cons_zero, List.set_cons_succ, List.getElem_toArray, List.getElem_cons_succ, List.getElem_cons_zero]
  refine wpAnyH_ready (rs := [7]) (by kernel_rfl) (by simp) ?_
  refine AllReadyH.cons rfl (fun K hK => ?_) AllReadyH.nil
  have HB7 := Lib.hid hHeld.2
  have HX7 := Lib.hid hHeld.1
  go_simp
  refine hK.out _ _ ?_ (fun hHeld => ?_)
  · exact ⟨hHeld.1.alloc _, hHeld.2.alloc hHeld.2.size _⟩
  clear hK K
  try simp only [Act.put, List.setIfInBounds_toArray, List.set_cons_zero, List.set_cons_succ, List.getElem_toArray, List.getElem_cons_succ, List.getElem_cons_zero]
  refine wpAnyH_take (i := 8) (v := ?_) rfl (by kernel_rfl) (by kernel_rfl) (by kernel_rfl) (fun _ _ _ h => h) (Or.inl ⟨by rfl, ?_⟩) hHeld ?_
  rotate_left
  · intro W hSw
    obtain ⟨q1, _⟩ := hSw
    obtain ⟨hs1, hs2, hs3, hs4, hs5, hs6, hs7, hs8⟩ := cells8 q1
    go_simp
    try with_reducible rfl
  try simp only [Act.put, List.setIfInBounds_toArray, List.set_cons_zero, List.set_cons_succ, List.getElem_toArray, List.getElem_cons_succ, List.getElem_cons_zero]
  refine wpAnyH_done (by kernel_rfl) ?_ _
  have HOW := Lib.hid (own_eq (Str.new_own v3 [p1, p2] (by simp) w.heap.size HB7.out.size) (by rw [HPS.out]) HPS.out)
  have HB := Lib.hid hHeld.2
  have HX := Lib.hid hHeld.1
  clear hHeld hb HB7 HX7
  have HOW2 : Hid ((v3.alloc (Obj.cells #[.string p1, .string p2] 9)).ownsRow w.heap.size 9 1 (.slice (some ⟨v3.heap.size, 0, none⟩) 2 2) (psD r 0).length (Str.flat (psD r 0))) := HOW
  clear HOW
  obtain ⟨x0, x1, x2, x3, x4, x5, x6, x7⟩ := cells8 HX.out
  dsimp only at x6 x7
  generalize v3.heap.size = g0 at HOW2 ⊢
  generalize World.alloc v3 _ = vz at HOW2 HB HX x0 x1 x2 x3 x4 x5 x6 x7 ⊢
  go_wp2_with fail
  clear x0 x1 x2 x3 x4 x5 x6 x7
  go_loopw [3, 22] (fun u i wr => ∃ k : Nat, k ≤ r.l.length ∧ i = .int .i64 k ∧ Hid (wr.ownsRow w.heap.size 9 1 u (psD r k).length (Str.flat (psD r k)) ∧ Below w.heap.size w wr ∧ Blk wr w.heap.size 54 (cellsV r ⟨pA, pca, pB, pcb⟩))) (fun _ i _ => r.l.length - (intOf i).toNat)
  case atStart => exact ⟨0, by omega, rfl, Lib.hid ⟨HOW2.out, HB.out, HX.out⟩⟩
  case round =>
    obtain ⟨k, hk, rfl, HR⟩ := hrel
    have hlen := HL0.out k hk
    by_cases hlt : k < r.l.length
    · obtain ⟨ad, rfl, _, hat⟩ := (HLD.out.below HR.out.2.1 (Nat.le_refl _)).at_ hlt
      have hgd := (Dep.ok_of HOK.out.2.2.2.2.1).2.1 r.l[k] (List.getElem_mem hlt)
      have HST := Lib.hid (psD_step r k hlt)
      obtain ⟨y, hy⟩ : ∃ y, r.l[k] = y := ⟨_, rfl⟩
      rw [hy] at hat hgd HST
      have hyk := key_le hgd.1
      have HK2 := Lib.hid (fun W => Text.implPutText_any y.k W (by unfold maxLen; omega))
      have HI2 := Lib.hid (fun W => numbers_any y.i W hgd.2)
      unfold Dep.I.val Id.idV at HI2
      rw [← putT_str (show y.k.size ≤ 8000 by omega)] at HST
      obtain ⟨q1, hq1⟩ : ∃ p, Text.putT y.k = p := ⟨_, rfl⟩
      obtain ⟨q2, hq2⟩ : ∃ p, str (idL y.i) = p := ⟨_, rfl⟩
      rw [hq1, hq2] at HST
      have HQ1 := Lib.hid hq1
      have HQ2 := Lib.hid hq2
      have HOA : Hid ((World.drew (wr.alloc (Obj.cells #[.string y.k, .int .i64 y.i.c, .int .i64 y.i.s, .int .i64 y.i.e] 66))).ownsRow w.heap.size 9 1 u3 (psD r k).length (Str.flat (psD r k))) := Lib.hid (Str.own_alloc HR.out.1 (Obj.cells #[.string y.k, .int .i64 y.i.c, .int .i64 y.i.s, .int .i64 y.i.e] 66))
      have HBA := Lib.hid (HR.out.2.1.alloc HR.out.2.1.size (.cells #[.string y.k, .int .i64 y.i.c, .int .i64 y.i.s, .int .i64 y.i.e] 66))
      have HXA := Lib.hid (HR.out.2.2.alloc (.cells #[.string y.k, .int .i64 y.i.c, .int .i64 y.i.s, .int .i64 y.i.e] 66))
      have DX := Lib.hid (Blk.new wr 66 #[.string y.k, .int .i64 y.i.c, .int .i64 y.i.s, .int .i64 y.i.e])
      obtain ⟨c0, c1, c2, c3⟩ := hat
      clear hq1 hq2 hgd hy
      go_upto_region 7 with fail
      clear c0 c1 c2 c3
      refine wp_region_held_drew (S := (fun W => Blk W wr.heap.size 66 #[.string y.k, .int .i64 y.i.c, .int .i64 y.i.s, .int .i64 y.i.e] ∧ Blk W w.heap.size 54 (cellsV r ⟨some ad, pca, pB, pcb⟩) ∧ Below w.heap.size w W)) (by kernel_rfl) ?_ (fun hHeld => ?_)
      · exact ⟨DX.out, HXA.out, HBA.out.drew⟩
      refine wpAnyH_take (i := 0) (v := ?_) rfl (by kernel_rfl) (by kernel_rfl) (by kernel_rfl) (fun _ _ _ h => h) (Or.inl ⟨by rfl, ?_⟩) hHeld ?_
      rotate_left
      · intro W hSw
        obtain ⟨q0, q1, _⟩ := hSw
        obtain ⟨hd1, hd2, hd3, hd4⟩ := cells4 q0
        obtain ⟨hs1, hs2, hs3, hs4, hs5, hs6, hs7, hs8⟩ := cells8 q1
        go_simp
        try with_reducible rfl
      try simp only [Act.put, List.setIfInBounds_toArray, List.set_cons_zero, List.set_cons_succ, List.getElem_toArray, List.getElem_cons_zero]
      refine wpAnyH_take (i := 1) (v := ?_) rfl (by kernel_rfl) (by kernel_rfl) (by kernel_rfl) (fun _ _ _ h => h) (Or.inl ⟨by rfl, ?_⟩) hHeld ?_
      rotate_left
      · intro W hSw
        obtain ⟨q0, q1, _⟩ := hSw
        obtain ⟨hd1, hd2, hd3, hd4⟩ := cells4 q0
        obtain ⟨hs1, hs2, hs3, hs4, hs5, hs6, hs7, hs8⟩ := cells8 q1
        go_simp
        try with_reducible rfl
      try simp only [Act.put, List.setIfInBounds_toArray, List.set_cons_zero, List.set_cons_succ, List.getElem_toArray, List.getElem_cons_succ, List.getElem_cons_zero]
      refine wpAnyH_take (i := 2) (v := ?_) rfl (by kernel_rfl) (by kernel_rfl) (by kernel_rfl) (fun _ _ _ h => h) (Or.inl ⟨by rfl, ?_⟩) hHeld ?_
      rotate_left
      · intro W hSw
        obtain ⟨q0, q1, _⟩ := hSw
        obtain ⟨hd1, hd2, hd3, hd4⟩ := cells4 q0
        obtain ⟨hs1, hs2, hs3, hs4, hs5, hs6, hs7, hs8⟩ := cells8 q1
        go_simp
        try with_reducible rfl
      try simp only [Act.put, List.setIfInBounds_toArray, List.set_cons_zero, List.set_cons_succ, List.getElem_toArray, List.getElem_cons_succ, List.getElem_cons_zero]
      refine wpAnyH_take (i := 4) (v := ?_) rfl (by kernel_rfl) (by kernel_rfl) (by kernel_rfl) (fun _ _ _ h => h) (Or.inl ⟨by rfl, ?_⟩) hHeld ?_
      rotate_left
      · intro W hSw
        obtain ⟨q0, q1, _⟩ := hSw
        obtain ⟨hd1, hd2, hd3, hd4⟩ := cells4 q0
        obtain ⟨hs1, hs2, hs3, hs4, hs5, hs6, hs7, hs8⟩ := cells8 q1
        go_simp
        try with_reducible rfl
      try simp only [Act.put, List.setIfInBounds_toArray, List.set_cons_zero, List.set_cons_succ, List.getElem_toArray, List.getElem_cons_succ, List.getElem_cons_zero]
      refine wpAnyH_take (i := 5) (v := ?_) rfl (by kernel_rfl) (by kernel_rfl) (by kernel_rfl) (fun _ _ _ h => h) (Or.inl ⟨by rfl, ?_⟩) hHeld ?_
      rotate_left
      · intro W hSw
        obtain ⟨q0, q1, _⟩ := hSw
        obtain ⟨hd1, hd2, hd3, hd4⟩ := cells4 q0
        obtain ⟨hs1, hs2, hs3, hs4, hs5, hs6, hs7, hs8⟩ := cells8 q1
        go_simp
        try with_reducible rfl
      try simp only [Act.put, List.setIfInBounds_toArray, List.set_cons_zero, List.set_cons_succ, List.getElem_toArray, List.getElem_cons_succ, List.getElem_cons_zero]
      refine wpAnyH_ready (rs := [3]) (by kernel_rfl) (by simp) ?_
      refine AllReadyH.cons rfl (fun K hK => ?_) AllReadyH.nil
      go_simp
      refine (HK2.out _).mono ?_
      rintro e v4 ⟨rfl, hb⟩
      rw [HQ1.out]
      have HO := Lib.hid (Str.own_step HOA.out hb (Nat.le_refl _))
      refine hK.out _ _ ?_ (fun hHeld => ?_)
      · first | exact ⟨hHeld.1.on hb, hHeld.2.1.on hb, hHeld.2.2.trans (hb.mono hHeld.2.2.size)⟩ | assumption
      clear hK K
      try simp only [Act.put, List.setIfInBounds_toArray, List.set_cons_zero, List.set_cons_succ, List.getElem_toArray, List.getElem_cons_succ, List.getElem_cons_zero]
      refine wpAnyH_ready (rs := [6]) (by kernel_rfl) (by simp) ?_
      refine AllReadyH.cons rfl (fun K hK => ?_) AllReadyH.nil
      go_simp
      refine (HI2.out _).mono ?_
      rintro e v5 ⟨rfl, hb⟩
      rw [HQ2.out]
      have HO := Lib.hid (Str.own_step HO.out hb (Nat.le_refl _))
      refine hK.out _ _ ?_ (fun hHeld => ?_)
      · first | exact ⟨hHeld.1.on hb, hHeld.2.1.on hb, hHeld.2.2.trans (hb.mono hHeld.2.2.size)⟩ | assumption
      clear hK K
      try simp only [Act.put, List.setIfInBounds_toArray, List.set_cons_zero, List.set_cons_succ, List.getElem_toArray, List.getElem_cons_succ, List.getElem_cons_zero]
      refine wpAnyH_ready (rs := [7]) (by kernel_rfl) (by simp) ?_
      refine AllReadyH.cons rfl (fun K hK => ?_) AllReadyH.nil
      have HB8 := Lib.hid hHeld.2.2
      have HX8 := Lib.hid hHeld.2.1
      have HD8 := Lib.hid hHeld.1
      go_simp
      refine hK.out _ _ ?_ (fun hHeld => ?_)
      · exact ⟨hHeld.1.alloc _, hHeld.2.1.alloc _, hHeld.2.2.alloc hHeld.2.2.size _⟩
      clear hK K
      try simp only [Act.put, List.setIfInBounds_toArray, List.set_cons_zero, List.set_cons_succ, List.getElem_toArray, List.getElem_cons_succ, List.getElem_cons_zero]
      refine wpAnyH_ready (rs := [8]) (by kernel_rfl) (by simp) ?_
      refine AllReadyH.cons rfl (fun K hK => ?_) AllReadyH.nil
      refine Dep.wanted_in (by rfl) ?_
      refine Str.wp_append_strs rfl rfl [q1, q2] rfl rfl rfl (Str.own_alloc HO.out (.cells (Str.flat [q1, q2]).toArray 9)) (Str.new_lies _ [q1, q2]) (by simp; omega) (by have := HB8.out.size; simp; omega) ?_
      intro u2 w2 ho2 hg2
      have hbel := (HB8.out.alloc HB8.out.size (.cells (Str.flat [q1, q2]).toArray 9)).grown hg2 (by have := HB8.out.size; simp; omega) (Str.ownBlock_base HO.out)
      have hxd := (hg2.block _ (HD8.out.alloc (.cells (Str.flat [q1, q2]).toArray 9)).lt (Str.blk_not_row (HD8.out.alloc (.cells (Str.flat [q1, q2]).toArray 9)) (by decide) (Str.own_alloc HO.out (.cells (Str.flat [q1, q2]).toArray 9)))).trans (HD8.out.alloc (.cells (Str.flat [q1, q2]).toArray 9))
      have hxb := (hg2.block _ (HX8.out.alloc (.cells (Str.flat [q1, q2]).toArray 9)).lt (Str.blk_not_row (HX8.out.alloc (.cells (Str.flat [q1, q2]).toArray 9)) (by decide) (Str.own_alloc HO.out (.cells (Str.flat [q1, q2]).toArray 9)))).trans (HX8.out.alloc (.cells (Str.flat [q1, q2]).toArray 9))
      have O2 := Lib.hid ho2
      clear ho2 hg2
      refine hK.out _ _ ?_ (fun hHeld => ?_)
      · exact ⟨hxd, hxb, hbel⟩
      clear hK K
      try simp only [Act.put, List.setIfInBounds_toArray, List.set_cons_zero, List.set_cons_succ, List.getElem_toArray, List.getElem_cons_succ, List.getElem_cons_zero]
      refine wpAnyH_take (i := 9) (v := ?_) rfl (by kernel_rfl) (by kernel_rfl) (by kernel_rfl) (fun _ _ _ h => h) (Or.inl ⟨by rfl, ?_⟩) hHeld ?_
      rotate_left
      · intro W hSw
        obtain ⟨q0, q1, _⟩ := hSw
        obtain ⟨hd1, hd2, hd3, hd4⟩ := cells4 q0
        obtain ⟨hs1, hs2, hs3, hs4, hs5, hs6, hs7, hs8⟩ := cells8 q1
        go_simp
        try with_reducible rfl
      try simp only [Act.put, List.setIfInBounds_toArray, List.set_cons_zero, List.set_cons_succ, List.getElem_toArray, List.getElem_cons_succ, List.getElem_cons_zero]
      refine wpAnyH_done (by kernel_rfl) ?_ _
      have HE := Lib.hid hHeld
      have HF := Lib.hid (own_eq (m := (psD r (k + 1)).length) O2.out (by rw [HST.out]; simp) HST.out.symm)
      clear hHeld hb hxd hxb hbel
      go_wp2_with fail
      go_roundw
      case rel => exact ⟨k + 1, by omega, by go_num, Lib.hid ⟨HF.out, HE.out.2.2, HE.out.2.1⟩⟩
      case measure => simp [intOf]; omega
    · have hke : k = r.l.length := by omega
      subst hke
      obtain ⟨q, hq⟩ : ∃ p, Num.putS r.b.length = p := ⟨_, rfl⟩
      have HQ := Lib.hid hq
      have HZ := Lib.hid (show psD r r.l.length ++ [q] = psK r 0 by rw [psK_zero, ← hq, put_str])
      clear hq
      obtain ⟨x0, x1, x2, x3, x4, x5, x6, x7⟩ := cells8 HR.out.2.2
      dsimp only at x6 x7
      go_wp2_with fail
      refine (Num.implPutNum_any r.b.length _ (by omega) (by omega)).mono ?_
      rintro e w3 ⟨rfl, hb3⟩
      rw [HQ.out]
      have HB9 := Lib.hid (HR.out.2.1.trans (hb3.mono HR.out.2.1.size))
      have HX9 := Lib.hid (HR.out.2.2.on hb3)
      have HO9 := Lib.hid (Str.own_step HR.out.1 hb3 (Nat.le_refl _))
      clear hb3 x0 x1 x2 x3 x4 x5 x6 x7
      go_wp2_with (at_builtin; refine Str.wpList_append_strs rfl rfl rfl [q] rfl rfl rfl (Str.own_alloc HO9.out (.cells (Str.flat [q]).toArray 9)) (Str.new_lies _ [q]) (by simp; omega) (by have := HB9.out.size; simp; omega) ?_; intro u2 w2 ho2 hg2; have hbel := (HB9.out.alloc HB9.out.size (.cells (Str.flat [q]).toArray 9)).grown hg2 (by have := HB9.out.size; simp; omega) (Str.ownBlock_base HO9.out); have hxb := (hg2.block _ (HX9.out.alloc (.cells (Str.flat [q]).toArray 9)).lt (Str.blk_not_row (HX9.out.alloc (.cells (Str.flat [q]).toArray 9)) (by decide) (Str.own_alloc HO9.out (.cells (Str.flat [q]).toArray 9)))).trans (HX9.out.alloc (.cells (Str.flat [q]).toArray 9)); have O2 := Lib.hid ho2; have B2 := Lib.hid hbel; have X2 := Lib.hid (show Blk w2 w.heap.size 54 (cellsV r ⟨pA, pca, pB, pcb⟩) from hxb); clear ho2 hg2 hbel hxb; obtain ⟨x0, x1, x2, x3, x4, x5, x6, x7⟩ := cells8 X2.out; dsimp only at x6 x7)
      clear x0 x1 x2 x3 x4 x5 x6 x7
      have HOK2 := Lib.hid (own_eq (m := (psK r 0).length) O2.out (by rw [← HZ.out]; simp) HZ.out)
      go_loopw [3, 46] (fun u i wr => ∃ k : Nat, k ≤ r.b.length ∧ i = .int .i64 k ∧ Hid (wr.ownsRow w.heap.size 9 1 u (psK r k).length (Str.flat (psK r k)) ∧ Below w.heap.size w wr ∧ Blk wr w.heap.size 54 (cellsV r ⟨pA, pca, pB, pcb⟩))) (fun _ i _ => r.b.length - (intOf i).toNat)
      case atStart => exact ⟨0, by omega, rfl, Lib.hid ⟨HOK2.out, B2.out, X2.out⟩⟩
      case round =>
        obtain ⟨j, hj, rfl, HU⟩ := hrel
        have hlenk := HLK.out j hj
        by_cases hjt : j < r.b.length
        · obtain ⟨bd, rfl, _, c0⟩ := (HLS.out.below HU.out.2.1 (Nat.le_refl _)).at_ hjt
          have hgd := (keys_of HOK.out.2.2.2.2.2.1).2.1 r.b[j] (List.getElem_mem hjt)
          have HST := Lib.hid (psK_step r j hjt)
          obtain ⟨y, hy⟩ : ∃ y, r.b[j] = y := ⟨_, rfl⟩
          rw [hy] at c0 hgd HST
          have hyk := key_le hgd
          rw [← putT_str (show y.size ≤ 8000 by omega)] at HST
          obtain ⟨q1, hq1⟩ : ∃ p, Text.putT y = p := ⟨_, rfl⟩
          rw [hq1] at HST
          have HQ1 := Lib.hid hq1
          clear hq1 hgd hy
          go_wp2_with fail
          refine (Text.implPutText_any y _ (by unfold maxLen; omega)).mono ?_
          rintro e w4 ⟨rfl, hb4⟩
          rw [HQ1.out]
          have HB4 := Lib.hid (HU.out.2.1.trans (hb4.mono HU.out.2.1.size))
          have HX4 := Lib.hid (HU.out.2.2.on hb4)
          have HO4 := Lib.hid (Str.own_step HU.out.1 hb4 (Nat.le_refl _))
          clear hb4
          go_wp2_with (at_builtin; refine Str.wpList_append_strs rfl rfl rfl [q1] rfl rfl rfl (Str.own_alloc HO4.out (.cells (Str.flat [q1]).toArray 9)) (Str.new_lies _ [q1]) (by simp; omega) (by have := HB4.out.size; simp; omega) ?_; intro u2 w2 ho2 hg2; have hbel := (HB4.out.alloc HB4.out.size (.cells (Str.flat [q1]).toArray 9)).grown hg2 (by have := HB4.out.size; simp; omega) (Str.ownBlock_base HO4.out); have hxb := (hg2.block _ (HX4.out.alloc (.cells (Str.flat [q1]).toArray 9)).lt (Str.blk_not_row (HX4.out.alloc (.cells (Str.flat [q1]).toArray 9)) (by decide) (Str.own_alloc HO4.out (.cells (Str.flat [q1]).toArray 9)))).trans (HX4.out.alloc (.cells (Str.flat [q1]).toArray 9)); have O2 := Lib.hid ho2; have B2 := Lib.hid hbel; have X2 := Lib.hid (show Blk w2 w.heap.size 54 (cellsV r ⟨pA, pca, some bd, pcb⟩) from hxb); clear ho2 hg2 hbel hxb)
          have HF := Lib.hid (own_eq (m := (psK r (j + 1)).length) O2.out (by rw [HST.out]; simp) HST.out.symm)
          go_roundw
          case rel => exact ⟨j + 1, by omega, by go_num, Lib.hid ⟨HF.out, B2.out, X2.out⟩⟩
          case measure => simp [intOf]; omega
        · have hje : j = r.b.length := by omega
          subst hje
          have hU := HU.out.1
          have hF := psK_all r
          have HBW := Lib.hid HU.out.2.1
          clear HU
          obtain ⟨ps, hps⟩ : ∃ ps, psK r r.b.length = ps := ⟨_, rfl⟩
          rw [hps] at hU hF hlenk
          clear hps
          obtain ⟨g, c, rfl, hc, hcell, hg⟩ := Str.own_some hU (by omega)
          have HC := Lib.hid hcell
          have HF := Lib.hid hF
          have hbl := bodyL_le HOK.out
          have hps1 : 1 ≤ ps.length := by omega
          have hps2 : ps.length ≤ 1000 := by omega
          have HJC := Lib.hid (fun W (hW : ∀ k (h : k < ps.length), W.cell? ⟨g, k, none⟩ = some (.string ps[k])) => Join.joinedC_any ps g c W hps1 hps2 (by rw [HF.out]; omega) hW)
          clear hcell hU hF hlenk
          go_wp2_with fail
          refine (HJC.out _ HC.out).mono ?_
          rintro e w5 ⟨rfl, hb5⟩
          have HB5 := Lib.hid (HBW.out.trans (hb5.mono HBW.out.size))
          rw [HF.out]
          clear hb5
          go_wp2_with fail
          refine (Seal.implSeal_any (str (bodyL r)) _ (by rw [str_size]; unfold maxLen; omega)).mono ?_
          rintro e w6 ⟨rfl, hb6⟩
          have HB6 := Lib.hid (HB5.out.trans (hb6.mono HB5.out.size))
          clear hb6
          go_wp2_with fail
          go_ret
          exact ⟨rfl, HB6.out⟩
end Go.Proofs.Ytkmlnibkdcdegaa.Rec

/-
  FnExactRecBytes answers true at every record.
-/
namespace Go.Proofs.Ytkmlnibkdcdegaa.Rec
open Go.ChangeShapes Go.WideShapes Go.ChangeAt Go.RowKit
open Dep (D I)
set_option linter.unusedVariables false
set_option maxRecDepth 100000
set_option linter.unusedSimpArgs false

set_option maxHeartbeats 8000000 in
theorem lawBytes_any (r : R) (p : P) (w : World) (h : Lies w w.heap.size r p ∧ Sound r) :
    Calls Try.prog 6 #[recV r p] w fun e w' => e = .returned (.bool true) ∧ Below w.heap.size w w' := by
  obtain ⟨h, hs⟩ := h
  have H := Lib.hid h
  have HS := Lib.hid hs
  have B0 := (Below.refl w.heap.size w).alloc (Nat.le_refl _) (.cells (cellsV r p) 50)
  have X0 := Blk.new w 50 (cellsV r p)
  have bw := Lib.hid B0
  have b2 := Lib.hid X0
  clear h hs B0 X0
  unfold recV
  go_enter Try.func6, Try.ntmps6
  go_wp2_with fail
  generalize World.alloc w _ = v0 at bw b2 ⊢
  have sz0 := Lib.hid (show w.heap.size ≤ v0.heap.size from bw.out.size)
  refine (szRec_any r p 1048576 _ (H.out.step bw.out (Nat.le_refl _) bw.out.size) HS.out (by omega) (by omega)).mono ?_
  rintro e v1 ⟨m1, rfl, hm1, hb⟩
  have bw := Lib.hid (bw.out.trans (hb.mono bw.out.size))
  have b2 := Lib.hid (b2.out.on hb)
  have sz1 := Lib.hid (show v0.heap.size ≤ v1.heap.size from hb.size)
  clear hb
  rcases hm1 with rfl | ⟨m10, m11, sm1⟩
  · go_wp2_with fail
    go_ret
    exact ⟨rfl, bw.out⟩
  have m100 : ¬ m1 < 0 := by omega
  have hl1 : r.l.length ≤ 1048576 := by have := sm1.2.2.1; omega
  have hn1 : r.b.length ≤ 1048576 := by have := sm1.2.2.2.2.1; omega
  clear sm1
  obtain ⟨t, ht⟩ : ∃ t, bytesV r = t := ⟨_, rfl⟩
  have HT := Lib.hid ht
  clear ht
  have e0 : (t.toList == t.toList) = true := beq_self_eq_true _
  have e1 : (t.toList != t.toList) = false := by simp
  obtain ⟨b2c0, b2c1, b2c2, b2c3, b2c4, b2c5, b2c6, b2c7⟩ := cells8 b2.out
  go_wp2_with fail
  clear b2c0 b2c1 b2c2 b2c3 b2c4 b2c5 b2c6 b2c7
  refine (toRec_any r p _ (H.out.step bw.out (Nat.le_refl _) bw.out.size) hl1 hn1).mono ?_
  rintro e v2 ⟨x0p, rfl, x0h, -, -, hb⟩
  unfold recV
  have bw := Lib.hid (bw.out.trans (hb.mono bw.out.size))
  have b2 := Lib.hid (b2.out.on hb)
  have sz2 := Lib.hid (show v1.heap.size ≤ v2.heap.size from hb.size)
  have x0 := Lib.hid (show Held v2 r x0p v1.heap.size v2.heap.size from x0h)
  clear hb
  go_wp2_with fail
  refine (specBytes_any r x0p _ (x0.out.lies (by have sz0_ := sz0.out; have sz1_ := sz1.out; have sz2_ := sz2.out; omega)) HS.out).mono ?_
  rintro e v3 ⟨rfl, hb⟩
  rw [HT.out]
  have bw := Lib.hid (bw.out.trans (hb.mono bw.out.size))
  have b2 := Lib.hid (b2.out.on hb)
  have x0 := Lib.hid (x0.out.step hb (.inr (Nat.le_refl _)))
  have sz3 := Lib.hid (show v2.heap.size ≤ v3.heap.size from hb.size)
  clear hb
  clear x0
  obtain ⟨b2c0, b2c1, b2c2, b2c3, b2c4, b2c5, b2c6, b2c7⟩ := cells8 b2.out
  go_wp2_with fail
  clear b2c0 b2c1 b2c2 b2c3 b2c4 b2c5 b2c6 b2c7
  refine (toRec_any r p _ (H.out.step bw.out (Nat.le_refl _) bw.out.size) hl1 hn1).mono ?_
  rintro e v4 ⟨y0p, rfl, y0h, -, -, hb⟩
  unfold recV
  have bw := Lib.hid (bw.out.trans (hb.mono bw.out.size))
  have b2 := Lib.hid (b2.out.on hb)
  have sz4 := Lib.hid (show v3.heap.size ≤ v4.heap.size from hb.size)
  have y0 := Lib.hid (show Held v4 r y0p v3.heap.size v4.heap.size from y0h)
  clear hb
  obtain ⟨b2c0, b2c1, b2c2, b2c3, b2c4, b2c5, b2c6, b2c7⟩ := cells8 (b2.out.alloc (Obj.cells (cellsV r y0p) 54))
  go_wp2_with fail
  clear b2c0 b2c1 b2c2 b2c3 b2c4 b2c5 b2c6 b2c7
  have bw := Lib.hid (bw.out.alloc bw.out.size (Obj.cells (cellsV r y0p) 54))
  have b2 := Lib.hid (b2.out.alloc (Obj.cells (cellsV r y0p) 54))
  have y0 := Lib.hid (y0.out.step ((Below.refl _ v4).alloc (Nat.le_refl _) (Obj.cells (cellsV r y0p) 54)) (.inr (Nat.le_refl _)))
  have b5 := Lib.hid (show Blk (World.alloc v4 (Obj.cells (cellsV r y0p) 54)) v4.heap.size 54 (cellsV r y0p) from Blk.new v4 54 (cellsV r y0p))
  have sz5 := Lib.hid (show v4.heap.size + 1 = (World.alloc v4 (Obj.cells (cellsV r y0p) 54)).heap.size by simp)
  generalize World.alloc v4 _ = v5 at bw b2 y0 b5 sz5 ⊢
  refine (implBytes_any r y0p _ (y0.out.lies (by have sz0_ := sz0.out; have sz1_ := sz1.out; have sz2_ := sz2.out; have sz3_ := sz3.out; have sz4_ := sz4.out; have sz5_ := sz5.out; omega)) HS.out).mono ?_
  rintro e v6 ⟨rfl, hb⟩
  rw [HT.out]
  have bw := Lib.hid (bw.out.trans (hb.mono bw.out.size))
  have b2 := Lib.hid (b2.out.on hb)
  have y0 := Lib.hid (y0.out.step hb (.inr (Nat.le_refl _)))
  have b5 := Lib.hid (b5.out.on hb)
  have sz6 := Lib.hid (show v5.heap.size ≤ v6.heap.size from hb.size)
  clear hb
  go_wp2_with fail
  refine wp_region_held_drew (S := (fun W => (Below w.heap.size w W) ∧ (Blk W w.heap.size 50 (cellsV r p)) ∧ (Held W r y0p v3.heap.size v4.heap.size) ∧ (Blk W v4.heap.size 54 (cellsV r y0p)))) (by kernel_rfl) ?_ (fun hHeld => ?_)
  · exact ⟨bw.out.drew, b2.out, y0.out, b5.out⟩
  refine wpAnyH_take (i := 0) (v := ?_) rfl (by kernel_rfl) (by kernel_rfl) (by kernel_rfl) (fun _ _ _ h => h) (Or.inl ⟨by rfl, ?_⟩) hHeld ?_
  rotate_left
  · intro W hSw
    obtain ⟨q_bw, q_b2, q_y0, q_b5⟩ := hSw
    obtain ⟨hb20, hb21, hb22, hb23, hb24, hb25, hb26, hb27⟩ := cells8 q_b2
    obtain ⟨hb50, hb51, hb52, hb53, hb54, hb55, hb56, hb57⟩ := cells8 q_b5
    go_simp
    try with_reducible rfl
  try simp only [Act.put, List.setIfInBounds_toArray, List.set_cons_zero, List.set_cons_succ, List.getElem_toArray, List.getElem_cons_zero]
  refine wpAnyH_take (i := 1) (v := ?_) rfl (by kernel_rfl) (by kernel_rfl) (by kernel_rfl) (fun _ _ _ h => h) (Or.inl ⟨by rfl, ?_⟩) hHeld ?_
  rotate_left
  · intro W hSw
    obtain ⟨q_bw, q_b2, q_y0, q_b5⟩ := hSw
    obtain ⟨hb20, hb21, hb22, hb23, hb24, hb25, hb26, hb27⟩ := cells8 q_b2
    obtain ⟨hb50, hb51, hb52, hb53, hb54, hb55, hb56, hb57⟩ := cells8 q_b5
    go_simp
    try with_reducible rfl
  try simp only [Act.put, List.setIfInBounds_toArray, List.set_cons_zero, List.set_cons_succ, List.getElem_toArray, List.getElem_cons_succ, List.getElem_cons_zero]
  refine wpAnyH_ready (rs := [2]) (by kernel_rfl) (by simp) ?_
  refine AllReadyH.cons rfl (fun K hK => ?_) AllReadyH.nil
  go_simp
  refine (toRec_any r p _ (H.out.step hHeld.1 (Nat.le_refl _) hHeld.1.size) hl1 hn1).mono ?_
  rintro e v7 ⟨t0p, rfl, t0h, -, -, hb⟩
  have sz7 := Lib.hid (show v6.heap.size ≤ v7.heap.size from hb.size)
  unfold recV
  have t0 := Lib.hid (show Held v7 r t0p v6.heap.size v7.heap.size from t0h)
  clear t0h
  refine hK.out _ _ ?_ (fun hHeld => ?_)
  · first | exact ⟨hHeld.1.trans (hb.mono hHeld.1.size), hHeld.2.1.on hb, hHeld.2.2.1.step hb (.inr (Nat.le_refl _)), hHeld.2.2.2.on hb⟩ | assumption
  clear hK K
  try simp only [Act.put, List.setIfInBounds_toArray, List.set_cons_zero, List.set_cons_succ, List.getElem_toArray, List.getElem_cons_succ, List.getElem_cons_zero]
  refine wpAnyH_ready (rs := [3]) (by kernel_rfl) (by simp) ?_
  refine AllReadyH.cons rfl (fun K hK => ?_) AllReadyH.nil
  go_simp
  refine (eqRec_same r y0p t0p _ (hHeld.2.2.1.lies (by have sz0_ := sz0.out; have sz1_ := sz1.out; have sz2_ := sz2.out; have sz3_ := sz3.out; have sz4_ := sz4.out; have sz5_ := sz5.out; have sz6_ := sz6.out; have sz7_ := sz7.out; omega)) (t0.out.lies (by have sz0_ := sz0.out; have sz1_ := sz1.out; have sz2_ := sz2.out; have sz3_ := sz3.out; have sz4_ := sz4.out; have sz5_ := sz5.out; have sz6_ := sz6.out; have sz7_ := sz7.out; omega)) (by unfold maxLen; omega) (by unfold maxLen; omega)).mono ?_
  rintro e v8 ⟨rfl, hb⟩
  have sz8 := Lib.hid (show v7.heap.size ≤ v8.heap.size from hb.size)
  have t0 := Lib.hid (t0.out.step hb (.inr (Nat.le_refl _)))
  refine hK.out _ _ ?_ (fun hHeld => ?_)
  · first | exact ⟨hHeld.1.trans (hb.mono hHeld.1.size), hHeld.2.1.on hb, hHeld.2.2.1.step hb (.inr (Nat.le_refl _)), hHeld.2.2.2.on hb⟩ | assumption
  clear hK K
  try simp only [Act.put, List.setIfInBounds_toArray, List.set_cons_zero, List.set_cons_succ, List.getElem_toArray, List.getElem_cons_succ, List.getElem_cons_zero]
  refine wpAnyH_take (i := 4) (v := ?_) rfl (by kernel_rfl) (by kernel_rfl) (by kernel_rfl) (fun _ _ _ h => h) (Or.inl ⟨by rfl, ?_⟩) hHeld ?_
  rotate_left
  · intro W hSw
    obtain ⟨q_bw, q_b2, q_y0, q_b5⟩ := hSw
    obtain ⟨hb20, hb21, hb22, hb23, hb24, hb25, hb26, hb27⟩ := cells8 q_b2
    obtain ⟨hb50, hb51, hb52, hb53, hb54, hb55, hb56, hb57⟩ := cells8 q_b5
    go_simp
    try with_reducible rfl
  try simp only [Act.put, List.setIfInBounds_toArray, List.set_cons_zero, List.set_cons_succ, List.getElem_toArray, List.getElem_cons_succ, List.getElem_cons_zero]
  refine wpAnyH_done (by kernel_rfl) ?_ _
  obtain ⟨bw_, b2_, y0_, b5_⟩ := hHeld
  have bw := Lib.hid bw_
  have b2 := Lib.hid b2_
  have y0 := Lib.hid y0_
  have b5 := Lib.hid b5_
  clear bw_ b2_ y0_ b5_
  clear t0
  go_wp2_with fail
  go_ret
  exact ⟨rfl, bw.out⟩
end Go.Proofs.Ytkmlnibkdcdegaa.Rec
