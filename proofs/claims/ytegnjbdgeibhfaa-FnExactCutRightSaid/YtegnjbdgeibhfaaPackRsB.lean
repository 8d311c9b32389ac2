/-
  Several texts in one: RsPart, RsKeysOf, RsCat, RsDel.
-/
import Derived.Test.YtegnjbdgeibhfaaRsAt
import Derived.Test.YtegnjbdgeibhfaaRsKeys
import Derived.Test.YtegnjbdgeibhfaaPackAll
import Derived.Test.YtegnjbdgeibhfaaPackRsA
import Derived.Lib.AppendZeros
import Derived.Lib.BufferMore
import Derived.Test.YtegnjbdgeibhfaaDepAll
import Derived.Test.YtegnjbdgeibhfaaPackHeld
import Derived.StillTailTactics
import Derived.Laws.IdiomCopy
import Derived.ArgAppend
/-
  The greatest part of what waits that may come, as plain mathematics; what is seen beside some rows.
-/
namespace Go.Proofs.Ytegnjbdgeibhfaa.Rs
open Rec (R RecOk recB rec_of needsR needsR_ok)
open Dep (D I zero kl Ok Sorted depsB ofV putV joinV coversB covB join_facts ofV_mem ofV_none K4 Chain)
set_option linter.unusedVariables false
set_option maxRecDepth 100000

/-- The first one whose needs are not covered by the rows and all of this part. -/
noncomputable def firstBad (rows p : List R) : Option Nat := p.findIdx? fun r => !coversB (joinV (mk rows) (mk p)) (needsR r)
noncomputable def partR (rows : List R) : Nat → List R → List R
  | 0, p => p
  | n + 1, p => match firstBad rows p with
    | none => p
    | some i => partR rows n (p.eraseIdx i)
theorem bad_none {rows p : List R} (h : ∀ j (hj : j < p.length), coversB (joinV (mk rows) (mk p)) (needsR p[j]) = true) : firstBad rows p = none := by
  unfold firstBad
  rw [List.findIdx?_eq_none_iff]
  intro r hr
  obtain ⟨j, hj, rfl⟩ := List.getElem_of_mem hr
  simp [h j hj]
theorem bad_some {rows p : List R} {i : Nat} (hi : i < p.length) (h : coversB (joinV (mk rows) (mk p)) (needsR p[i]) = false) (hn : ∀ j (hj : j < p.length), j < i → coversB (joinV (mk rows) (mk p)) (needsR p[j]) = true) : firstBad rows p = some i := by
  unfold firstBad
  rw [List.findIdx?_eq_some_iff_getElem]
  exact ⟨hi, by simp [h], fun j hj => by simp [hn j (by omega) hj]⟩
theorem part_done {rows p : List R} (h : firstBad rows p = none) (n : Nat) : partR rows n p = p := by
  cases n with
  | zero => rfl
  | succ n => unfold partR; rw [h]
theorem part_step {rows p : List R} {i : Nat} (hi : i < p.length) (h : firstBad rows p = some i) : partR rows p.length p = partR rows (p.eraseIdx i).length (p.eraseIdx i) := by
  have e : (p.eraseIdx i).length + 1 = p.length := by rw [List.length_eraseIdx]; simp [hi]; omega
  rw [← e, partR, h]
theorem ok_sub {p q : List R} (h : ListOk p) (hs : q.Sublist p) : ListOk q :=
  ⟨Nat.le_trans hs.length_le h.1, fun r hr => h.2.1 r (hs.subset hr), h.2.2.sublist hs⟩

/-- Each one is above the row of its key. -/
def Up (rows p : List R) : Prop := ∀ r ∈ p, (ofV (mk rows) r.k).less r.i = true
theorem Up.sub {rows p q : List R} (h : Up rows p) (hs : q.Sublist p) : Up rows q := fun r hr => h r (hs.subset hr)

open Classical in
theorem at_app {a b : List Q} {key : ByteArray} : (∃ q ∈ a, q.r.k = key ∧ atQ (a ++ b) key = q) ∨ ((∀ q ∈ a, q.r.k ≠ key) ∧ atQ (a ++ b) key = atQ b key) := by
  unfold atQ
  rw [List.find?_append]
  cases h : a.find? fun q => decide (q.r.k = key) with
  | none =>
    refine .inr ⟨fun q hq e => ?_, rfl⟩
    have := List.find?_eq_none.1 h q hq
    simp [e] at this
  | some q =>
    refine .inl ⟨q, List.mem_of_find?_eq_some h, ?_, rfl⟩
    have := List.find?_some h
    simpa using this
open Classical in
theorem at_mem {b : List Q} {key : ByteArray} (h : ∃ q ∈ b, q.r.k = key) : atQ b key ∈ b ∧ (atQ b key).r.k = key := by
  unfold atQ
  cases hf : b.find? fun q => decide (q.r.k = key) with
  | none =>
    obtain ⟨q, hq, e⟩ := h
    have := List.find?_eq_none.1 hf q hq
    simp [e] at this
  | some q =>
    have := List.find?_some hf
    exact ⟨List.mem_of_find?_eq_some hf, by simpa using this⟩
theorem of_mk {l : List R} (h : ListOk l) {r : R} (hr : r ∈ l) : ofV (mk l) r.k = r.i :=
  ofV_mem (d := ⟨r.k, r.i⟩) (sg_mk h).1 (List.mem_map.2 ⟨r, hr, rfl⟩)
theorem of_mk_none {l : List R} {key : ByteArray} (h : ∀ r ∈ l, r.k ≠ key) : ofV (mk l) key = zero :=
  ofV_none fun d hd => by obtain ⟨r, hr, rfl⟩ := List.mem_map.1 hd; exact h r hr

/-- The keys of rows and of a part, and that what stands in place of each other one has their greatest ids. -/
theorem repl_keys {rows part : List Q} (hr : ListOk (pr rows)) (hp : ListOk (pr part)) (hu : Up (pr rows) (pr part)) :
    ∃ ks : List K4, Chain (mk (pr (part ++ rows))) (ks.map (·.1)) ∧ ks.length = (joinV (mk (pr rows)) (mk (pr part))).length ∧ mk (pr (ks.map fun k => atQ (part ++ rows) k.1)) = joinV (mk (pr rows)) (mk (pr part)) ∧ ∀ k ∈ ks, atQ (part ++ rows) k.1 ∈ part ++ rows := by
  have sr := sg_mk hr
  have sp := sg_mk hp
  have sj := sr.join sp
  obtain ⟨h1, h2, h3⟩ := join_facts (mk (pr part)) (mk (pr rows)) sr.1 sr.2 sp.1 sp.2
  have hmk : mk (pr (part ++ rows)) = mk (pr part) ++ mk (pr rows) := by unfold mk pr; rw [List.map_append, List.map_append]
  have hhas : ∀ q, Has (joinV (mk (pr rows)) (mk (pr part))) q ↔ Has (mk (pr (part ++ rows))) q := fun q => by
    rw [has_join sr.1 sr.2 sp.1 sp.2, hmk, has_append]; exact Or.comm
  obtain ⟨ks, hks⟩ := short_keys0 sj.2
  have hmem : ∀ k ∈ ks, ∃ d ∈ joinV (mk (pr rows)) (mk (pr part)), d.k = k.1 := fun k hk => by
    have : k.1 ∈ (joinV (mk (pr rows)) (mk (pr part))).map D.k := by rw [← hks]; exact List.mem_map.2 ⟨k, hk, rfl⟩
    obtain ⟨d, hd, e⟩ := List.mem_map.1 this
    exact ⟨d, hd, e⟩
  have hat : ∀ k ∈ ks, atQ (part ++ rows) k.1 ∈ part ++ rows ∧ (atQ (part ++ rows) k.1).r.k = k.1 := fun k hk => at_mem (by
    obtain ⟨x, hx, e⟩ := (hhas k.1).1 (hmem k hk)
    obtain ⟨r, hr, rfl⟩ := List.mem_map.1 hx
    obtain ⟨q, hq, rfl⟩ := List.mem_map.1 hr
    exact ⟨q, hq, e⟩)
  refine ⟨ks, ?_, by have := congrArg List.length hks; simpa using this, ?_, fun k hk => (hat k hk).1⟩
  · rw [hks]; exact chain_of sj.1 sj.2 hhas
  · -- one by one
    have key : ∀ k ∈ ks, ((atQ (part ++ rows) k.1).r.i) = ofV (joinV (mk (pr rows)) (mk (pr part))) k.1 := fun k hk => by
      rw [h3]
      rcases at_app (a := part) (b := rows) (key := k.1) with ⟨q, hq, e1, e2⟩ | ⟨hn, e2⟩
      · have hqp : q.r ∈ pr part := List.mem_map.2 ⟨q, hq, rfl⟩
        rw [e2, ← e1, of_mk hp hqp]
        unfold I.max
        rw [if_pos (hu q.r hqp)]
      · have e3 : ofV (mk (pr part)) k.1 = zero := of_mk_none fun r hr => by obtain ⟨q, hq, rfl⟩ := List.mem_map.1 hr; exact hn q hq
        have h5 := hat k hk
        rw [e2] at h5 ⊢
        have h6 : (atQ rows k.1) ∈ rows := by
          refine (at_mem ?_).1
          rcases List.mem_append.1 h5.1 with h | h
          · exact absurd h5.2 (hn _ h)
          · exact ⟨_, h, h5.2⟩
        have h7 : (atQ rows k.1).r ∈ pr rows := List.mem_map.2 ⟨_, h6, rfl⟩
        have h8 := of_mk hr h7
        rw [h5.2] at h8
        rw [e3, h8, I.max_of_not (Dep.not_less_zero (.inl (rec_of (hr.2.1 _ h7)).2.1))]
    have e1 : mk (pr (ks.map fun k => atQ (part ++ rows) k.1)) = (ks.map (·.1)).map fun q => (⟨q, ofV (joinV (mk (pr rows)) (mk (pr part))) q⟩ : D) := by
      unfold mk pr
      rw [List.map_map, List.map_map, List.map_map]
      refine List.map_congr_left fun k hk => ?_
      show (⟨(atQ (part ++ rows) k.1).r.k, (atQ (part ++ rows) k.1).r.i⟩ : D) = _
      rw [(hat k hk).2, key k hk]
      rfl
    rw [e1, hks, List.map_map]
    conv => rhs; rw [← List.map_id (joinV (mk (pr rows)) (mk (pr part)))]
    refine List.map_congr_left fun d hd => ?_
    show (⟨d.k, ofV _ d.k⟩ : D) = d
    rw [ofV_mem sj.1 hd]
end Go.Proofs.Ytegnjbdgeibhfaa.Rs

/-
  impl.keysOf where a round of the caller's keeps the lists, whatever else it writes.
-/
namespace Go.Proofs.Ytegnjbdgeibhfaa.Dep
open Go.ChangeShapes Go.WideShapes Go.ChangeAt Go.RowKit Go.Shelf
set_option linter.unusedVariables false
set_option maxRecDepth 100000

attribute [local go_sem] Oper.semAt_some

theorem keysK_in (n : Nat) (hn : 1 ≤ n) (l Bn : Nat) (Kp : World → World → Prop) (ad : Addr) (ls : List Sl) (cap : Nat) (ks : List K4) (hc : Chain (allOf ls) (ks.map (·.1))) (hl : ls.length ≤ 400) (hll : ∀ j (h : j < ls.length), ls[j].l.length ≤ maxLen) (J Jx : List K4 → World → Prop)
    (hY : ∀ pre x W, J pre W → pre.length < ks.length → YieldAt Fence.wide (n - 1) Try.prog l #[.string x.1] W fun e W' =>
      (e = .returned (.bool true) ∧ J (pre ++ [x]) W' ∧ Kp W W') ∨ (e = .returned (.bool false) ∧ Jx (pre ++ [x]) W'))
    (hKL : ∀ A B, Kp A B → Lists A A.heap.size ad ls → Lists B B.heap.size ad ls) (hKB : ∀ A B, Kp A B → A.cell? ⟨Bn, 0, none⟩ = some (.slice (some ad) ls.length cap) → B.cell? ⟨Bn, 0, none⟩ = some (.slice (some ad) ls.length cap))
    (W : World) (hJb : ∀ pre A B, J pre A → Below A.heap.size A B → J pre B) (hBn : W.cell? ⟨Bn, 0, none⟩ = some (.slice (some ad) ls.length cap)) (hL : Lists W W.heap.size ad ls) (h0 : J [] W) :
    CallsIn Fence.wide n Try.prog 104 #[.func (.yield l) #[] #[], .pointer (some ⟨Bn, 0, none⟩)] W fun e W' => (∃ v, e = .returned v) ∧
      ((∃ ys, ys = ks ∧ J ys W') ∨ (∃ pre, pre <+: ks ∧ Jx pre W')) := by
  have HC := Lib.hid hc
  clear hc
  refine callsIn_of_wp Try.func104 rfl trivial ?_ rfl
  simp only [Try.ntmps104, List.size_toArray, List.length_cons, List.length_nil, Nat.reduceAdd, Nat.reduceSub, Array.replicate_succ, Array.replicate_zero, List.push_toArray, List.append_toArray, List.nil_append, List.cons_append]
  gi_wp2_with (refine ⟨trivial, ?_⟩; gi_at_call 105; refine (callsIn_wide.2 (above_any ⟨#[]⟩ ad ls cap W hL hl hll)).mono ?_; rintro e w' ⟨rfl, hb⟩)
  have hJ0 := hJb [] W w' h0 hb
  have L0 := (hL.below hb (Nat.le_refl _)).more hb.size
  have hBn' := (hb.cell (p := ⟨Bn, 0, none⟩) (cell_ltk hBn)).trans hBn
  have hfirst := HC.out.next (pre := []) (rest := ks.map (·.1))
  rw [if_pos rfl] at hfirst
  rw [hfirst]
  obtain ⟨k0, hk0⟩ : ∃ k0, (ks.map (·.1)).head?.getD ⟨#[]⟩ = k0 := ⟨_, rfl⟩
  rw [hk0]
  have HK0 := Lib.hid hk0
  clear hb h0 hk0 hfirst
  gi_loopw [3] (fun p wr => ∃ (pre rest : List K4), Hid (ks = pre ++ rest) ∧ p = .string ((rest.map (·.1)).head?.getD ⟨#[]⟩) ∧ J pre wr ∧ Hid (Lists wr wr.heap.size ad ls ∧ wr.cell? ⟨Bn, 0, none⟩ = some (.slice (some ad) ls.length cap)))
    (fun p _ => leftOf (ks.map (·.1)) p)
  case atStart => exact ⟨[], ks, Lib.hid rfl, by rw [HK0.out], hJ0, Lib.hid ⟨L0, hBn'⟩⟩
  case round =>
    obtain ⟨pre, rest, HX, rfl, hJs, HB⟩ := hrel
    cases rest with
    | nil =>
      have hee : (ByteArray.toList ⟨#[]⟩ == ByteArray.toList ⟨#[]⟩) = true := beq_self_eq_true _
      simp only [List.map_nil, List.head?_nil, Option.getD_none]
      gi_wp2
      go_end0
      exact ⟨⟨_, rfl⟩, .inl ⟨pre, by simp [HX.out], hJs⟩⟩
    | cons x rest =>
      have hxm : x.1 ∈ ks.map (·.1) := by rw [HX.out]; simp
      have hne : ¬ x.1.toList = ByteArray.toList ⟨#[]⟩ := fun e => HC.out.2.1 x.1 hxm (list_eq (by rw [← ByteArray.toList_eq, ← ByteArray.toList_eq]; exact e))
      have hee : (x.1.toList == ByteArray.toList ⟨#[]⟩) = false := beq_eq_false_iff_ne.2 hne
      have hee2 : (x.1.toList == []) = false := by rw [← toList_empty]; exact hee
      obtain ⟨fn, tmps, assign, body, hy, hR⟩ := hY pre x wr hJs (by rw [HX.out]; simp)
      simp only [List.map_cons, List.head?_cons, Option.getD_some]
      clear hne
      gi_wp2
      refine hR.mono ?_
      rintro e W3 (⟨rfl, hJ3, hk3⟩ | ⟨rfl, hJx3⟩)
      · have hB3 : W3.cell? ⟨Bn, 0, none⟩ = some (.slice (some ad) ls.length cap) := hKB _ _ hk3 HB.out.2
        have hL3 := hKL _ _ hk3 HB.out.1
        have hnx := (show Chain (allOf ls) ((pre.map (·.1) ++ [x.1]) ++ rest.map (·.1)) by have := HC.out; rw [HX.out] at this; simpa using this).next
        rw [if_neg (by simp)] at hnx
        simp only [List.getLastD_concat] at hnx
        gi_wp2_with (refine ⟨trivial, ?_⟩; gi_at_call 105; refine (callsIn_wide.2 (above_any x.1 ad ls cap W3 hL3 hl hll)).mono ?_; rintro e w4 ⟨rfl, hb4⟩)
        go_roundw
        case rel => exact ⟨pre ++ [x], rest, Lib.hid (by rw [HX.out]; simp), by simp, hJb _ _ _ hJ3 hb4, Lib.hid ⟨(hL3.below hb4 (Nat.le_refl _)).more hb4.size, (hb4.cell (p := ⟨Bn, 0, none⟩) (cell_ltk hB3)).trans hB3⟩⟩
        case measure =>
          have hnd := HC.out.2.2
          have hks : ks.map (·.1) = pre.map (·.1) ++ x.1 :: rest.map (·.1) := by rw [HX.out]; simp
          rw [hks] at hnd
          have e1 := left_some hnd
          rw [← hks] at e1
          have e2 : leftOf (ks.map (·.1)) (.string ((rest.map (·.1)).head?.getD ⟨#[]⟩)) = (rest.map (·.1)).length := by
            cases rest with
            | nil =>
              simpa using left_none (ks := ks.map (·.1)) HC.out.2.1
            | cons y rest =>
              have := left_some (pre := pre.map (·.1) ++ [x.1]) (x := y.1) (rest := rest.map (·.1)) (by simpa using hnd)
              rw [List.append_assoc, List.singleton_append, show x.1 :: y.1 :: rest.map (·.1) = x.1 :: (y :: rest).map (·.1) from rfl, ← hks] at this
              simpa using this
          show leftOf (ks.map (·.1)) (.string ((rest.map (·.1)).head?.getD ⟨#[]⟩)) < leftOf (ks.map (·.1)) (.string x.1)
          omega
      · gi_wp2
        refine bodyPost_ret (results_none rfl _ _ _) rfl ?_
        exact ⟨⟨_, rfl⟩, .inr ⟨pre ++ [x], ⟨rest, by simp [HX.out]⟩, hJx3⟩⟩

theorem keysK_stops (n : Nat) (hn : 1 ≤ n) (Bn : Nat) (Kp : World → World → Prop) (ad : Addr) (ls : List Sl) (cap : Nat) (ks : List K4) (hc : Chain (allOf ls) (ks.map (·.1))) (hl : ls.length ≤ 400) (hll : ∀ j (h : j < ls.length), ls[j].l.length ≤ maxLen)
    (hKL : ∀ A B, Kp A B → Lists A A.heap.size ad ls → Lists B B.heap.size ad ls) (hKB : ∀ A B, Kp A B → A.cell? ⟨Bn, 0, none⟩ = some (.slice (some ad) ls.length cap) → B.cell? ⟨Bn, 0, none⟩ = some (.slice (some ad) ls.length cap))
    (w : World) (hBn : w.cell? ⟨Bn, 0, none⟩ = some (.slice (some ad) ls.length cap)) (hL : Lists w w.heap.size ad ls) :
    SeqStopsK Fence.wide n Try.prog 104 #[.pointer (some ⟨Bn, 0, none⟩)] (fun x : K4 => #[Value.string x.1]) Kp (fun ys => ys = ks) (fun pre => pre <+: ks) ks.length w := fun l J Jx W hW hJ _ hY h0 =>
  keysK_in n hn l Bn Kp ad ls cap ks hc hl hll J Jx hY hKL hKB W (fun pre A B hj hb => hJ pre A B none hj ⟨hb.os, hb.tape, hb.output, hb.size, fun k hk _ => hb.block k hk⟩ (fun r e => by cases e))
    ((hW.cell (p := ⟨Bn, 0, none⟩) (cell_ltk hBn)).trans hBn) ((hL.below hW (Nat.le_refl _)).more hW.size) h0
end Go.Proofs.Ytegnjbdgeibhfaa.Dep

/-
  slices.Clone, slices.Grow of nothing, slices.Concat at records.
-/
namespace Go.Proofs.Ytegnjbdgeibhfaa.Rs
open Go.ChangeShapes Go.WideShapes Go.ChangeAt Go.RowKit
open Net (Cl Bk HeldV)
open Rec (R P)
set_option linter.unusedVariables false
set_option maxRecDepth 100000
set_option linter.unusedSimpArgs false

theorem cloneQ_any (ad : Addr) (s : List Q) (c : Nat) (w : World) (h : LRs w w.heap.size (some ad) s) (hl : s.length ≤ 1000000) :
    Calls Try.prog 66 #[.slice (some ad) s.length c] w fun e w' => ∃ v, e = .returned v ∧ w'.ownsRow w.heap.size 61 8 v s.length (rv s) ∧ (v = .slice none 0 0 → False) ∧ Below w.heap.size w w' := by
  have B0 := (Below.refl w.heap.size w).alloc (Nat.le_refl _) (Obj.cells #[] 61)
  have HC := Lib.hid ((h.1.below B0 (Nat.le_refl _)))
  have HB0 := Lib.hid B0
  have hbe := fun V : World => Lib.run_eql_slice_some_nil (P := Try.prog) V ad s.length c Try.underlying23
  clear h B0
  go_enter Try.func66, Try.ntmps66
  go_wp2_with (at_builtin; refine wpList_app fit_recs rfl rfl rfl (rv s) rfl rfl (o_none w _ _) HC.out (by rw [rv_len]) (rv_one s) (by omega) (by simp) ?_; intro v1 W1 ho1 hg1 hn1; rw [Nat.zero_add, List.nil_append] at ho1; have B1 := Lib.hid (HB0.out.grown hg1 (by simp) (fun j e => by cases e; exact Nat.le_refl _)); have HO1 := Lib.hid ho1; have HN1 := Lib.hid (fun e => by cases (hn1 e).1 : v1 = .slice none 0 0 → False); clear ho1 hg1 hn1)
  go_ret
  exact ⟨v1, rfl, HO1.out, HN1.out, B1.out⟩

theorem growNil_any (n : Nat) (w : World) (hn : n ≤ 1000000) :
    Calls Try.prog 109 #[.slice none 0 0, .int .i64 n] w fun e w' => ∃ v, e = .returned v ∧ w'.ownsRow w.heap.size 61 8 v 0 [] ∧ Below w.heap.size w w' := by
  have h1 : ¬ ((n : Int) < 0) := by omega
  by_cases h0 : n = 0
  · subst h0
    go_enter Try.func109, Try.ntmps109
    go_wp2_with fail
    go_ret
    exact ⟨_, rfl, o_nil _ _ _ _, Below.refl _ _⟩
  · obtain ⟨i0, hi0, hz0, hz1, hz2⟩ := info_parts rec_info
    have h4 : (0 : Int) < n := by omega
    have hrz : ∀ ty, (Builtin.append_ #[23, 3] ty #[.slice none 0 0, .int .i64 n]).run Try.prog w = _ := fun ty =>
      Lib.run_append_nil_zeros (P := Try.prog) w 23 3 ty 61 i0 _ .i64 .i64 Try.underlying23 Try.underlying3 hi0 hz0 n (by omega) (by rw [hz1]; omega) (by omega) (by rw [hz2]; omega)
    have hG1 := grownCap_ge w n 0 61
    have hG2 := grownCap_le_maxLen w n 0 61 (by unfold maxLen; omega)
    obtain ⟨G, hG⟩ : ∃ G, grownCap w n 0 61 = G := ⟨_, rfl⟩
    rw [hG] at hrz hG1 hG2
    clear hG hi0 hz0 hz1 hz2
    have hG3 := hG2
    unfold maxLen at hG3
    go_enter Try.func109, Try.ntmps109
    go_wp2_with (at_builtin; refine Lib.wpList_append_run _ rfl _ _ _ _ rfl _ _ rfl rfl _ _ (hrz _) ?_)
    go_ret
    refine ⟨_, rfl, ⟨by simp, .inr ⟨w.heap.size, G, _, rfl, Nat.le_refl _, (show (w.alloc _).heap[w.heap.size]? = _ from heap_alloc_new w _), Nat.zero_le _, hG2, ?_, by simp⟩⟩, ((Below.refl _ _).alloc (Nat.le_refl _) _).drew⟩
    rw [Array.size_append, size_zeroCells, size_zeroCells, ← Nat.add_mul]
    show (n + (G - n)) * 8 = G * 8
    omega

/-- A slice of records with its header. -/
structure Ql where
  A : Option Addr
  l : List Q
  c : Nat
def flatQ (ds : List Ql) : List Q := ds.flatMap (·.l)
theorem flat_snoc (ds : List Ql) (k : Nat) (h : k < ds.length) : flatQ (ds.take (k + 1)) = flatQ (ds.take k) ++ ds[k].l := by
  unfold flatQ; rw [take_snoc ds k h, List.flatMap_append]; simp
theorem flat_le (ds : List Ql) (k : Nat) : (flatQ (ds.take k)).length ≤ (flatQ ds).length := by
  have e : flatQ ds = flatQ (ds.take k) ++ flatQ (ds.drop k) := by unfold flatQ; rw [← List.flatMap_append, List.take_append_drop]
  rw [e, List.length_append]; omega

set_option maxHeartbeats 4000000 in
set_option maxRecDepth 100000 in
theorem concat_any (ad : Addr) (ds : List Ql) (cap : Nat) (w : World) (had : ad.block < w.heap.size) (hc : ∀ k (h : k < ds.length), w.cell? (ad.add k) = some (.slice ds[k].A ds[k].l.length ds[k].c)) (hL : ∀ k (h : k < ds.length), LRs w w.heap.size ds[k].A ds[k].l) (hn : ds.length ≤ 400) (hl : (flatQ ds).length ≤ 1000000) :
    Calls Try.prog 93 #[.slice (some ad) ds.length cap] w fun e w' => ∃ v, e = .returned v ∧ w'.ownsRow w.heap.size 61 8 v (flatQ ds).length (rv (flatQ ds)) ∧ Below w.heap.size w w' := by
  have HC := Lib.hid hc
  have HL := Lib.hid hL
  have HLL := Lib.hid hl
  have HFL := Lib.hid (flat_le ds)
  have HAD := Lib.hid had
  have HGR := Lib.hid (fun (n : Nat) (W : World) (h : n ≤ 1000000) => growNil_any n W h)
  clear hc hL hl had
  go_enter Try.func93, Try.ntmps93
  go_wp2_with fail
  go_loopw [3, 11] (fun z i wr => ∃ k : Nat, k ≤ ds.length ∧ i = .int .i64 k ∧ ∃ m : Nat, z = .int .i64 m ∧ m ≤ 1000000 ∧ Hid (m = (flatQ (ds.take k)).length ∧ Below w.heap.size w wr)) (fun _ i _ => ds.length - (intOf i).toNat)
  case atStart => exact ⟨0, by omega, rfl, 0, rfl, by omega, Lib.hid ⟨rfl, Below.refl _ _⟩⟩
  case round =>
    obtain ⟨k, hk, rfl, m, rfl, hm, HR⟩ := hrel
    by_cases hlt : k < ds.length
    · have c0 := (HR.out.2.cell (p := ad.add k) (by rw [Dep.add_block]; exact HAD.out)).trans (HC.out k hlt)
      have HS := Lib.hid (flat_snoc ds k hlt)
      have hle : m + ds[k].l.length ≤ 1000000 := by
        have h1 := HFL.out (k + 1)
        rw [HS.out, List.length_append, ← HR.out.1] at h1
        have := HLL.out
        omega
      obtain ⟨x, hx⟩ : ∃ x, ds[k] = x := ⟨_, rfl⟩
      rw [hx] at c0 HS hle
      clear hx
      obtain ⟨xA, xl, xc⟩ := x
      simp only at c0 HS hle
      obtain ⟨n, hn⟩ : ∃ n, xl.length = n := ⟨_, rfl⟩
      have HN := Lib.hid hn
      rw [hn] at c0 hle
      clear hn
      have hneg : ¬ ((m : Int) + (n : Int) < 0) := by omega
      go_wp2_with fail
      go_roundw
      case rel => exact ⟨k + 1, by omega, by go_num, m + n, by simp, by omega, Lib.hid ⟨by rw [HS.out, List.length_append, ← HR.out.1, HN.out], HR.out.2⟩⟩
      case measure => simp [intOf]; omega
    · have HM := Lib.hid (show m = (flatQ ds).length by rw [HR.out.1, List.take_of_length_le (by omega)])
      have HB := Lib.hid HR.out.2
      clear HR
      go_wp2_with fail
      refine (HGR.out m _ hm).mono ?_
      rintro e w1 ⟨v, rfl, ho, hb⟩
      have HO := Lib.hid (o_less ho HB.out.size)
      have HB1 := Lib.hid (HB.out.trans (hb.mono HB.out.size))
      clear ho hb
      go_wp2_with fail
      go_loopw [6, 27] (fun o i wr => ∃ k : Nat, k ≤ ds.length ∧ i = .int .i64 k ∧ Hid (wr.ownsRow w.heap.size 61 8 o (flatQ (ds.take k)).length (rv (flatQ (ds.take k))) ∧ Below w.heap.size w wr)) (fun _ i _ => ds.length - (intOf i).toNat)
      case atStart => exact ⟨0, by omega, rfl, Lib.hid ⟨HO.out, HB1.out⟩⟩
      case round =>
        obtain ⟨k, hk, rfl, HR⟩ := hrel
        by_cases hlt : k < ds.length
        · have c0 := (HR.out.2.cell (p := ad.add k) (by rw [Dep.add_block]; exact HAD.out)).trans (HC.out k hlt)
          have HS := Lib.hid (flat_snoc ds k hlt)
          have HLX := Lib.hid ((HL.out k hlt).1.below HR.out.2 (Nat.le_refl _))
          have hle : (flatQ (ds.take k)).length + ds[k].l.length ≤ 1000000 := by
            have h1 := HFL.out (k + 1)
            rw [HS.out, List.length_append] at h1
            have := HLL.out
            omega
          have HLE := Lib.hid hle
          obtain ⟨x, hx⟩ : ∃ x, ds[k] = x := ⟨_, rfl⟩
          rw [hx] at c0 HS HLE HLX
          clear hx hle
          obtain ⟨xA, xl, xc⟩ := x
          simp only at c0 HS HLE HLX
          go_wp2_with (at_builtin; refine wpList_app fit_recs rfl rfl rfl (rv xl) rfl rfl HR.out.1 HLX.out (by rw [rv_len]) (rv_one _) (by have := HLE.out; omega) (by have := HR.out.2.size; omega) ?_; intro v2 W2 ho2 hg2 hn2; have B2 := Lib.hid (HR.out.2.grown hg2 HR.out.2.size (o_base HR.out.1)); rw [← rv_append, ← HS.out] at ho2; have O2 := Lib.hid ho2; clear ho2 hg2 hn2)
          go_roundw
          case rel => exact ⟨k + 1, by omega, by go_num, Lib.hid ⟨by rw [show (flatQ (ds.take (k + 1))).length = (flatQ (ds.take k)).length + xl.length by rw [HS.out, List.length_append]]; exact O2.out, B2.out⟩⟩
          case measure => simp [intOf]; omega
        · have e3 : ds.take k = ds := List.take_of_length_le (by omega)
          rw [e3] at HR
          clear e3
          go_wp2_with fail
          go_ret
          exact ⟨_, rfl, HR.out.1, HR.out.2⟩
end Go.Proofs.Ytegnjbdgeibhfaa.Rs

/-
  Deleting one of some records: append with room, clear, slices.Delete.
-/
namespace Go.Proofs.Ytegnjbdgeibhfaa.Rs
open Go.ChangeShapes Go.WideShapes Go.ChangeAt Go.RowKit
open Net (Cl Bk HeldV addr0)
open Rec (R P)
open Dep (row_set get_ne get_eq)
set_option linter.unusedVariables false
set_option maxRecDepth 100000
set_option linter.unusedSimpArgs false

theorem bk_setCells {g t N : Nat} : ∀ (vs : List Value) (o : Nat) (w : World) (ys : List Value), Bk w g t N ys → o + vs.length ≤ ys.length → Bk (w.setCells g o vs) g t N (ys.take o ++ vs ++ ys.drop (o + vs.length))
  | [], o, w, ys, h, hl => by
    show Bk w g t N _
    simpa using h
  | v :: r, o, w, ys, h, hl => by
    have h1 := bk_setCells r (o + 1) (w.setCell ⟨g, o, none⟩ v) (ys.set o v) (h.set v) (by simp at hl ⊢; omega)
    have e1 : (ys.set o v).take (o + 1) = ys.take o ++ [v] := by
      rw [List.take_succ_eq_append_getElem (by simp at hl ⊢; omega), List.getElem_set_self, List.take_set]
      congr 1
      rw [List.set_eq_of_length_le]
      simp; omega
    have e2 : (ys.set o v).drop (o + 1 + r.length) = ys.drop (o + (v :: r).length) := by
      rw [List.drop_set_of_lt (by omega)]
      congr 1
      simp; omega
    rw [e1, e2] at h1
    show Bk ((w.setCell ⟨g, o, none⟩ v).setCells g (o + 1) r) g t N _
    simpa using h1
theorem grown_setCells {g : Nat} : ∀ (vs : List Value) (o : Nat) (w : World), w.grownBy (w.setCells g o vs) (some g)
  | [], o, w => World.grownBy.refl w _
  | v :: r, o, w => by
    have h := grown_setCells (g := g) r (o + 1) (w.setCell ⟨g, o, none⟩ v)
    have k := Dep.grown_set w g o v
    exact Dep.grown_trans k h
theorem size_setCells {g : Nat} : ∀ (vs : List Value) (o : Nat) (w : World), (w.setCells g o vs).heap.size = w.heap.size
  | [], o, w => rfl
  | v :: r, o, w => by
    show ((w.setCell ⟨g, o, none⟩ v).setCells g (o + 1) r).heap.size = _
    rw [size_setCells r, World.size_setCell]

theorem erase_eq {α : Type} (m : List α) (k : Nat) (hk : k < m.length) : m.eraseIdx k = m.take k ++ m.drop (k + 1) := List.eraseIdx_eq_take_drop_succ m k

/-- An append with room, as an operation of a drawn region. -/
theorem wp_room {ts te size : Nat} (hf : AppFit ts te size) {o : Oper} {a : Act} {w : World} {K : Act → World → Prop} {Q : Exit → Act → World → Prop} {s x : Operand}
    (ho : o.op = .call { callee := .builtin .append, args := #[s, x], argTypes := #[ts, ts] }) {b n cap : Nat} {ad : Addr} {m c : Nat} (ys : List Value)
    (hs : a.eval s = .slice (some ⟨b, 0, none⟩) n cap) (hx : a.eval x = .slice (some ad) m c) (hl : ys.length = m * size) (hn : ∀ (j : Nat) (u : Value), ys[j]? = some u → w.cell? (ad.add j) = some u) (h1 : ∀ u ∈ ys, u.oneCell' = true) (hroom : n + m ≤ cap)
    (hc : ∀ j, j < ys.length → (w.cell? ⟨b, n * size + j, none⟩).isSome = true) (hfz : ∀ j, j < ys.length → w.frozen? ⟨b, n * size + j, none⟩ = false)
    (h : K (a.put o.dst (.slice (some ⟨b, 0, none⟩) (n + m) cap)) (w.setCells b (n * size) ys)) : Oper.wp Try.prog o a w K Q := by
  obtain ⟨hu, hs0, i0, z, hi0, hz0, hz1, hz2, hz3⟩ := hf
  subst hz1
  have hrun := run_append_room_cells (P := Try.prog) w ts o.type te i0 hu hi0 b 0 n cap ad m c ys hl hn h1 hroom (fun j hj => by rw [Nat.zero_add]; exact hc j hj) (fun j hj => by rw [Nat.zero_add]; exact hfz j hj)
  rw [Nat.zero_add] at hrun
  unfold Oper.wp execOp
  simp only [ho, resolve, invoke, builtin, Sem.run_bind, Sem.run_pure, Result.andThen_ok, List.map_toArray, List.map_cons, List.map_nil, hs, hx, hrun]
  exact h
theorem zeroM (w : World) : (zeroValue 61).run Try.prog w = .ok (.agg #[.string ⟨#[]⟩, .int .i64 0, .int .i64 0, .int .i64 0, .string ⟨#[]⟩, .bool false, .slice none 0 0, .slice none 0 0]) w := by kernel_rfl
theorem run_clear1 (w : World) (ty b o c : Nat) (hc : ∀ j, j < 8 → (w.cell? ⟨b, o + j, none⟩).isSome = true) (hf : ∀ j, j < 8 → w.frozen? ⟨b, o + j, none⟩ = false) :
    (Builtin.clear_ #[23] ty #[.slice (some ⟨b, o, none⟩) 1 c]).run Try.prog w = .ok (.tuple #[]) (w.setCells b o [.string ⟨#[]⟩, .int .i64 0, .int .i64 0, .int .i64 0, .string ⟨#[]⟩, .bool false, .slice none 0 0, .slice none 0 0]) := by
  have hst := run_storeCells_cells (P := Try.prog) b o [.string ⟨#[]⟩, .int .i64 0, .int .i64 0, .int .i64 0, .string ⟨#[]⟩, .bool false, .slice none 0 0, .slice none 0 0] 0 w (by simpa using hc) (by simpa using hf) (by intro v hv; simp only [List.mem_cons, List.not_mem_nil, or_false] at hv; rcases hv with rfl | rfl | rfl | rfl | rfl | rfl | rfl | rfl <;> rfl)
  simp only [Nat.add_zero] at hst
  have hz : (Builtin.zeroCells (Value.agg #[.string ⟨#[]⟩, .int .i64 0, .int .i64 0, .int .i64 0, .string ⟨#[]⟩, .bool false, .slice none 0 0, .slice none 0 0]).cells 1).toList = [.string ⟨#[]⟩, .int .i64 0, .int .i64 0, .int .i64 0, .string ⟨#[]⟩, .bool false, .slice none 0 0, .slice none 0 0] := by first | kernel_rfl | (simp [Builtin.zeroCells, Value.cells, List.range_succ])
  simp [Builtin.clear_, run_underlying Try.underlying23, zeroM, hz, hst]
theorem wpList_clear {ops : Array Oper} {rest : List Oper} {o : Oper} {a : Act} {w : World} {Q : Exit → Act → World → Prop} (hgd : o.guard = none) {x : Operand}
    (ho : o.op = .call { callee := .builtin .clear, args := #[x], argTypes := #[23] }) {b f c : Nat}
    (hx : a.eval x = .slice (some ⟨b, f, none⟩) 1 c) (hc : ∀ j, j < 8 → (w.cell? ⟨b, f + j, none⟩).isSome = true) (hf : ∀ j, j < 8 → w.frozen? ⟨b, f + j, none⟩ = false)
    (h : wpList Try.prog ops Q rest (a.put o.dst (.tuple #[])) (w.setCells b f [.string ⟨#[]⟩, .int .i64 0, .int .i64 0, .int .i64 0, .string ⟨#[]⟩, .bool false, .slice none 0 0, .slice none 0 0])) : wpList Try.prog ops Q (o :: rest) a w := by
  refine wpList_plain hgd fun K hK => ?_
  have hrun := run_clear1 w o.type b f c hc hf
  unfold Oper.wp execOp
  simp only [ho, resolve, invoke, builtin, Sem.run_bind, Sem.run_pure, Result.andThen_ok, List.map_toArray, List.map_cons, List.map_nil, hx, hrun]
  exact hK _ _ h

/-- What is left of a row of letters. -/
theorem own_erase {w : World} {base g cap k : Nat} {m : List Q} (h : w.ownsRow base 61 8 (.slice (some ⟨g, 0, none⟩) m.length cap) m.length (rv m)) (hk : k < m.length) :
    ((w.setCells g (k * 8) (rv (m.drop (k + 1)))).setCells g ((m.length - 1) * 8) [.string ⟨#[]⟩, .int .i64 0, .int .i64 0, .int .i64 0, .string ⟨#[]⟩, .bool false, .slice none 0 0, .slice none 0 0]).ownsRow base 61 8 (.slice (some ⟨g, 0, none⟩) (m.length - 1) cap) (m.length - 1) (rv (m.eraseIdx k)) := by
  have he : (m.eraseIdx k).length = m.length - 1 := by rw [List.length_eraseIdx]; simp [hk]
  refine ⟨by rw [rv_len, he], .inr ?_⟩
  rcases h.2 with ⟨e, _⟩ | ⟨g', cap', cur, e, hb, hh, hnc, hcm, hsz, hx⟩
  · cases e
  cases e
  rw [← rv_len] at hx
  have hcl : cur.toList.length = cap * 8 := by simpa using hsz
  have h0 : Bk w g 61 (cap * 8) cur.toList := ⟨cur, hh, hsz, by omega, fun j u hu => by rw [← Array.getElem?_toList]; exact hu⟩
  have hdl : (rv (m.drop (k + 1))).length = (m.length - (k + 1)) * 8 := by rw [rv_len, List.length_drop]
  have h1 := bk_setCells (rv (m.drop (k + 1))) (k * 8) w _ h0 (by rw [hdl, hcl]; omega)
  have hyl : (cur.toList.take (k * 8) ++ rv (m.drop (k + 1)) ++ cur.toList.drop (k * 8 + (rv (m.drop (k + 1))).length)).length = cap * 8 := by
    simp only [List.length_append, List.length_take, List.length_drop, hdl, hcl]; omega
  have h2 := bk_setCells [.string ⟨#[]⟩, .int .i64 0, .int .i64 0, .int .i64 0, .string ⟨#[]⟩, .bool false, .slice none 0 0, .slice none 0 0] ((m.length - 1) * 8) _ _ h1 (by rw [hyl]; simp; omega)
  obtain ⟨cur2, hh2, hsz2, _, hall⟩ := h2
  refine ⟨g, cap, cur2, rfl, hb, hh2, by omega, hcm, hsz2, ?_⟩
  have hmt : rv (m.eraseIdx k) = cur.toList.take (k * 8) ++ rv (m.drop (k + 1)) := by
    have e1 : rv m = rv (m.take k) ++ rv (m.drop k) := by rw [← rv_append, List.take_append_drop]
    have e2 : (rv (m.take k)).length = k * 8 := by rw [rv_len, List.length_take, Nat.min_eq_left (by omega)]
    have e5 : cur.toList.take (k * 8) = rv (m.take k) := by
      have e6 := congrArg (List.take (k * 8)) hx
      rw [List.take_take, rv_len, Nat.min_eq_left (by omega)] at e6
      rw [e6, e1, ← e2, List.take_left]
    rw [erase_eq m k hk, rv_append, e5]
  rw [hmt]
  refine List.ext_getElem? fun j => ?_
  have hl1 : (cur.toList.take (k * 8) ++ rv (m.drop (k + 1))).length = (m.length - 1) * 8 := by
    simp only [List.length_append, List.length_take, hdl, hcl]; omega
  by_cases hj : j < (m.length - 1) * 8
  · rw [List.getElem?_take, if_pos hj]
    obtain ⟨u, hu⟩ : ∃ u, (cur.toList.take (k * 8) ++ rv (m.drop (k + 1)))[j]? = some u := ⟨_, List.getElem?_eq_getElem (by omega)⟩
    rw [hu, Array.getElem?_toList]
    refine hall j u ?_
    rw [List.append_assoc, List.getElem?_append_left (by rw [List.length_take, hyl]; omega), List.getElem?_take, if_pos hj, List.getElem?_append_left (by omega)]
    exact hu
  · rw [List.getElem?_take, if_neg hj, List.getElem?_eq_none (by omega)]

set_option maxHeartbeats 2000000 in
set_option maxRecDepth 100000 in
theorem delete_any (g cap k base : Nat) (m : List Q) (w : World) (h : w.ownsRow base 61 8 (.slice (some ⟨g, 0, none⟩) m.length cap) m.length (rv m)) (hk : k < m.length) (hm : m.length ≤ 1048576) :
    Calls Try.prog 68 #[.slice (some ⟨g, 0, none⟩) m.length cap, .int .i64 k, .int .i64 ((k : Int) + 1)] w fun e w' => e = .returned (.slice (some ⟨g, 0, none⟩) (m.length - 1) cap) ∧ w'.ownsRow base 61 8 (.slice (some ⟨g, 0, none⟩) (m.length - 1) cap) (m.length - 1) (rv (m.eraseIdx k)) ∧ w.grownBy w' (some g) := by
  obtain ⟨g', c', e, hnc, hcm, _, hbk⟩ := o_val_ne h (fun e => by cases e)
  cases e
  have HOW := Lib.hid h
  have HBK := Lib.hid hbk
  unfold maxLen at hcm
  have HCEL := Lib.hid (show ∀ j, j < (rv (m.drop (k + 1))).length → ((World.drew w).cell? ⟨g, k * 8 + j, none⟩).isSome = true from fun j hj => by
    rw [rv_len, List.length_drop] at hj
    obtain ⟨u, hu⟩ := hbk.cell (j := k * 8 + j) (by omega)
    show (w.cell? _).isSome = true
    rw [hu]; rfl)
  have HFRZ := Lib.hid (show ∀ j, j < (rv (m.drop (k + 1))).length → (World.drew w).frozen? ⟨g, k * 8 + j, none⟩ = false from fun j hj => hbk.free _)
  have HN0 := Lib.hid (show ∀ (j : Nat) (u : Value), (rv (m.drop (k + 1)))[j]? = some u → w.cell? ⟨g, (k + 1) * 8 + j, none⟩ = some u from fun j u hu => by
    refine hbk.at_ ?_
    have e1 : rv m = rv (m.take (k + 1)) ++ rv (m.drop (k + 1)) := by rw [← rv_append, List.take_append_drop]
    have e2 : (rv (m.take (k + 1))).length = (k + 1) * 8 := by rw [rv_len, List.length_take]; omega
    rw [e1, List.getElem?_append_right (by omega), e2]
    rw [show (k + 1) * 8 + j - (k + 1) * 8 = j by omega]
    exact hu)
  clear h hbk
  have HBV := Lib.hid (bk_setCells (rv (m.drop (k + 1))) (k * 8) (World.drew w) _ (show Bk (World.drew w) g 61 (cap * 8) (rv m) from HBK.out) (by rw [rv_len, rv_len, List.length_drop]; omega))
  have HE := Lib.hid (own_erase (w := World.drew w) (k := k) HOW.out hk)
  have HG := Lib.hid (Dep.grown_trans (Dep.grown_of_below (some g) (((Below.refl w.heap.size w).drew))) (Dep.grown_trans (grown_setCells (g := g) (rv (m.drop (k + 1))) (k * 8) (World.drew w)) (grown_setCells (g := g) [.string ⟨#[]⟩, .int .i64 0, .int .i64 0, .int .i64 0, .string ⟨#[]⟩, .bool false, .slice none 0 0, .slice none 0 0] ((m.length - 1) * 8) _)))
  have HC2 := Lib.hid (show ∀ j, j < 8 → (((World.drew w).setCells g (k * 8) (rv (m.drop (k + 1)))).cell? ⟨g, (m.length - 1) * 8 + j, none⟩).isSome = true from fun j hj => by
    obtain ⟨u, hu⟩ := HBV.out.cell (j := (m.length - 1) * 8 + j) (by omega)
    rw [hu]; rfl)
  have HF2 := Lib.hid (show ∀ j, j < 8 → ((World.drew w).setCells g (k * 8) (rv (m.drop (k + 1)))).frozen? ⟨g, (m.length - 1) * 8 + j, none⟩ = false from fun j hj => HBV.out.free _)
  have hkc : k ≤ cap := by omega
  have hka : (0 : Int) ≤ (k : Int) + 1 := by omega
  have hkb : (k : Int) + 1 ≤ m.length := by omega
  by_cases hcap : cap = k + 1
  · subst hcap
    have hkc2 : (k : Int) ≤ (k : Int) + 1 := by omega
    have HNEWS := Lib.hid (show ∀ (j : Nat) (u : Value), (rv (m.drop (k + 1)))[j]? = some u → (World.drew w).cell? ((⟨g, 0, none⟩ : Addr).add j) = some u from fun j u hu => by
      have := (List.getElem?_eq_some_iff.1 hu).1
      rw [rv_len, List.length_drop] at this
      omega)
    go_enter Try.func68, Try.ntmps68
    go_wp2_with fail
    refine wp_region_held_drew (S := (fun _ => True)) (by kernel_rfl) ?_ (fun hHeld => ?_)
    · trivial
    refine wpAnyH_take (i := 0) (v := ?_) rfl (by kernel_rfl) (by kernel_rfl) (by kernel_rfl) (fun _ _ _ h => h) (Or.inl ⟨by rfl, ?_⟩) hHeld ?_
    rotate_left
    · intro W hSw
      have hq := hSw
      go_simp
      try with_reducible rfl
    try simp only [Act.put, List.setIfInBounds_toArray, List.set_cons_zero, List.set_cons_succ, List.getElem_toArray, List.getElem_cons_zero]
    refine wpAnyH_take (i := 1) (v := ?_) rfl (by kernel_rfl) (by kernel_rfl) (by kernel_rfl) (fun _ _ _ h => h) (Or.inl ⟨by rfl, ?_⟩) hHeld ?_
    rotate_left
    · intro W hSw
      have hq := hSw
      go_simp
      try with_reducible rfl
    try simp only [Act.put, List.setIfInBounds_toArray, List.set_cons_zero, List.set_cons_succ, List.getElem_toArray, List.getElem_cons_succ, List.getElem_cons_zero]
    refine wpAnyH_take (i := 2) (v := ?_) rfl (by kernel_rfl) (by kernel_rfl) (by kernel_rfl) (fun _ _ _ h => h) (Or.inl ⟨by rfl, ?_⟩) hHeld ?_
    rotate_left
    · intro W hSw
      have hq := hSw
      go_simp
      try with_reducible rfl
    try simp only [Act.put, List.setIfInBounds_toArray, List.set_cons_zero, List.set_cons_succ, List.getElem_toArray, List.getElem_cons_succ, List.getElem_cons_zero]
    refine wpAnyH_take (i := 3) (v := ?_) rfl (by kernel_rfl) (by kernel_rfl) (by kernel_rfl) (fun _ _ _ h => h) (Or.inl ⟨by rfl, ?_⟩) hHeld ?_
    rotate_left
    · intro W hSw
      have hq := hSw
      go_simp
      try with_reducible rfl
    try simp only [Act.put, List.setIfInBounds_toArray, List.set_cons_zero, List.set_cons_succ, List.getElem_toArray, List.getElem_cons_succ, List.getElem_cons_zero]
    refine wpAnyH_take (i := 4) (v := ?_) rfl (by kernel_rfl) (by kernel_rfl) (by kernel_rfl) (fun _ _ _ h => h) (Or.inl ⟨by rfl, ?_⟩) hHeld ?_
    rotate_left
    · intro W hSw
      have hq := hSw
      go_simp
      try with_reducible rfl
    try simp only [Act.put, List.setIfInBounds_toArray, List.set_cons_zero, List.set_cons_succ, List.getElem_toArray, List.getElem_cons_succ, List.getElem_cons_zero]
    refine wpAnyH_take (i := 5) (v := ?_) rfl (by kernel_rfl) (by kernel_rfl) (by kernel_rfl) (fun _ _ _ h => h) (Or.inl ⟨by rfl, ?_⟩) hHeld ?_
    rotate_left
    · intro W hSw
      have hq := hSw
      go_simp
      try with_reducible rfl
    try simp only [Act.put, List.setIfInBounds_toArray, List.set_cons_zero, List.set_cons_succ, List.getElem_toArray, List.getElem_cons_succ, List.getElem_cons_zero]
    refine wpAnyH_ready (rs := [6]) (by kernel_rfl) (by simp) ?_
    refine AllReadyH.cons rfl (fun K hK => ?_) AllReadyH.nil
    refine Dep.wanted_in (by rfl) ?_
    refine wp_room fit_recs rfl (rv (m.drop (k + 1))) rfl rfl (by rw [rv_len, List.length_drop]; omega) (HNEWS.out) (rv_one _) (by omega) HCEL.out HFRZ.out ?_
    refine hK.out _ _ ?_ (fun hHeld => ?_)
    · trivial
    clear hK K
    try simp only [Act.put, List.setIfInBounds_toArray, List.set_cons_zero, List.set_cons_succ, List.getElem_toArray, List.getElem_cons_succ, List.getElem_cons_zero]
    refine wpAnyH_take (i := 7) (v := ?_) rfl (by kernel_rfl) (by kernel_rfl) (by kernel_rfl) (fun _ _ _ h => h) (Or.inl ⟨by rfl, ?_⟩) hHeld ?_
    rotate_left
    · intro W hSw
      have hq := hSw
      go_simp
      try with_reducible rfl
    try simp only [Act.put, List.setIfInBounds_toArray, List.set_cons_zero, List.set_cons_succ, List.getElem_toArray, List.getElem_cons_succ, List.getElem_cons_zero]
    refine wpAnyH_done (by kernel_rfl) ?_ _
    generalize (World.drew w).setCells g (k * 8) (rv (m.drop (k + 1))) = V at HBV HE HG HC2 HF2 ⊢
    clear hHeld hka hkb hkc
    have hmk : m.length = k + 1 := by omega
    rw [hmk] at HC2 HF2 HE HG ⊢
    simp only [Nat.add_sub_cancel, Nat.add_zero] at HC2 HF2 HE HG ⊢
    go_wp2_with (refine wpList_clear rfl rfl rfl HC2.out HF2.out ?_)
    go_ret
    rw [show m.length - 1 = k by omega]
    exact ⟨rfl, HE.out, HG.out⟩
  · have HNEWS := Lib.hid (show ∀ (j : Nat) (u : Value), (rv (m.drop (k + 1)))[j]? = some u → (World.drew w).cell? ((⟨g, (k + 1) * 8, none⟩ : Addr).add j) = some u from fun j u hu => by
      have e : (⟨g, (k + 1) * 8, none⟩ : Addr).add j = ⟨g, (k + 1) * 8 + j, none⟩ := Addr.add_lit _ _ _
      rw [e]
      exact HN0.out j u hu)
    go_enter Try.func68, Try.ntmps68
    go_wp2_with fail
    refine wp_region_held_drew (S := (fun _ => True)) (by kernel_rfl) ?_ (fun hHeld => ?_)
    · trivial
    refine wpAnyH_take (i := 0) (v := ?_) rfl (by kernel_rfl) (by kernel_rfl) (by kernel_rfl) (fun _ _ _ h => h) (Or.inl ⟨by rfl, ?_⟩) hHeld ?_
    rotate_left
    · intro W hSw
      have hq := hSw
      go_simp
      try with_reducible rfl
    try simp only [Act.put, List.setIfInBounds_toArray, List.set_cons_zero, List.set_cons_succ, List.getElem_toArray, List.getElem_cons_zero]
    refine wpAnyH_take (i := 1) (v := ?_) rfl (by kernel_rfl) (by kernel_rfl) (by kernel_rfl) (fun _ _ _ h => h) (Or.inl ⟨by rfl, ?_⟩) hHeld ?_
    rotate_left
    · intro W hSw
      have hq := hSw
      go_simp
      try with_reducible rfl
    try simp only [Act.put, List.setIfInBounds_toArray, List.set_cons_zero, List.set_cons_succ, List.getElem_toArray, List.getElem_cons_succ, List.getElem_cons_zero]
    refine wpAnyH_take (i := 2) (v := ?_) rfl (by kernel_rfl) (by kernel_rfl) (by kernel_rfl) (fun _ _ _ h => h) (Or.inl ⟨by rfl, ?_⟩) hHeld ?_
    rotate_left
    · intro W hSw
      have hq := hSw
      go_simp
      try with_reducible rfl
    try simp only [Act.put, List.setIfInBounds_toArray, List.set_cons_zero, List.set_cons_succ, List.getElem_toArray, List.getElem_cons_succ, List.getElem_cons_zero]
    refine wpAnyH_take (i := 3) (v := ?_) rfl (by kernel_rfl) (by kernel_rfl) (by kernel_rfl) (fun _ _ _ h => h) (Or.inl ⟨by rfl, ?_⟩) hHeld ?_
    rotate_left
    · intro W hSw
      have hq := hSw
      go_simp
      try with_reducible rfl
    try simp only [Act.put, List.setIfInBounds_toArray, List.set_cons_zero, List.set_cons_succ, List.getElem_toArray, List.getElem_cons_succ, List.getElem_cons_zero]
    refine wpAnyH_take (i := 4) (v := ?_) rfl (by kernel_rfl) (by kernel_rfl) (by kernel_rfl) (fun _ _ _ h => h) (Or.inl ⟨by rfl, ?_⟩) hHeld ?_
    rotate_left
    · intro W hSw
      have hq := hSw
      go_simp
      try with_reducible rfl
    try simp only [Act.put, List.setIfInBounds_toArray, List.set_cons_zero, List.set_cons_succ, List.getElem_toArray, List.getElem_cons_succ, List.getElem_cons_zero]
    refine wpAnyH_take (i := 5) (v := ?_) rfl (by kernel_rfl) (by kernel_rfl) (by kernel_rfl) (fun _ _ _ h => h) (Or.inl ⟨by rfl, ?_⟩) hHeld ?_
    rotate_left
    · intro W hSw
      have hq := hSw
      go_simp
      try with_reducible rfl
    try simp only [Act.put, List.setIfInBounds_toArray, List.set_cons_zero, List.set_cons_succ, List.getElem_toArray, List.getElem_cons_succ, List.getElem_cons_zero]
    refine wpAnyH_ready (rs := [6]) (by kernel_rfl) (by simp) ?_
    refine AllReadyH.cons rfl (fun K hK => ?_) AllReadyH.nil
    refine Dep.wanted_in (by rfl) ?_
    refine wp_room fit_recs rfl (rv (m.drop (k + 1))) rfl rfl (by rw [rv_len, List.length_drop]) (HNEWS.out) (rv_one _) (by omega) HCEL.out HFRZ.out ?_
    refine hK.out _ _ ?_ (fun hHeld => ?_)
    · trivial
    clear hK K
    try simp only [Act.put, List.setIfInBounds_toArray, List.set_cons_zero, List.set_cons_succ, List.getElem_toArray, List.getElem_cons_succ, List.getElem_cons_zero]
    refine wpAnyH_take (i := 7) (v := ?_) rfl (by kernel_rfl) (by kernel_rfl) (by kernel_rfl) (fun _ _ _ h => h) (Or.inl ⟨by rfl, ?_⟩) hHeld ?_
    rotate_left
    · intro W hSw
      have hq := hSw
      go_simp
      try with_reducible rfl
    try simp only [Act.put, List.setIfInBounds_toArray, List.set_cons_zero, List.set_cons_succ, List.getElem_toArray, List.getElem_cons_succ, List.getElem_cons_zero]
    refine wpAnyH_done (by kernel_rfl) ?_ _
    generalize (World.drew w).setCells g (k * 8) (rv (m.drop (k + 1))) = V at HBV HE HG HC2 HF2 ⊢
    clear hHeld hka hkb hkc
    have hkl : k + (m.length - (k + 1)) = m.length - 1 := by omega
    rw [hkl]
    have hl1 : m.length - (m.length - 1) = 1 := by omega
    clear hkl
    go_wp2_with (refine wpList_clear rfl rfl rfl HC2.out HF2.out ?_)
    go_ret
    exact ⟨rfl, HE.out, HG.out⟩

end Go.Proofs.Ytegnjbdgeibhfaa.Rs
