/-
  The greatest part of what waits that may come, as plain mathematics; what is seen beside some rows.
-/
import Derived.Test.YtoagdpbbojlgfaaRsAt
import Derived.Test.YtoagdpbbojlgfaaRsKeys
namespace Go.Proofs.Ytoagdpbbojlgfaa.Rs
open Rec (R RecOk recB rec_of needsR needsR_ok)
open Dep (D I zero kl Ok Sorted depsB ofV putV joinV coversB covB join_facts ofV_mem ofV_none K4 Chain)
set_option linter.unusedVariables false
set_option maxRecDepth 100000

/-- The first one whose needs are not covered by the rows and all of this part. -/
noncomputable def firstBad (rows p : List R) : Option Nat := p.findIdx? fun r => !coversB (joinV (mk rows) (mk p)) (needsR r)
noncomputable def partR (rows : List R) : Nat → List R → List R
  | 0, p => p
  | n + 1, p => match firstBad rows p with
    | none => p
    | some i => partR rows n (p.eraseIdx i)
theorem bad_none {rows p : List R} (h : ∀ j (hj : j < p.length), coversB (joinV (mk rows) (mk p)) (needsR p[j]) = true) : firstBad rows p = none := by
  unfold firstBad
  rw [List.findIdx?_eq_none_iff]
  intro r hr
  obtain ⟨j, hj, rfl⟩ := List.getElem_of_mem hr
  simp [h j hj]
theorem bad_some {rows p : List R} {i : Nat} (hi : i < p.length) (h : coversB (joinV (mk rows) (mk p)) (needsR p[i]) = false) (hn : ∀ j (hj : j < p.length), j < i → coversB (joinV (mk rows) (mk p)) (needsR p[j]) = true) : firstBad rows p = some i := by
  unfold firstBad
  rw [List.findIdx?_eq_some_iff_getElem]
  exact ⟨hi, by simp [h], fun j hj => by simp [hn j (by omega) hj]⟩
theorem part_done {rows p : List R} (h : firstBad rows p = none) (n : Nat) : partR rows n p = p := by
  cases n with
  | zero => rfl
  | succ n => unfold partR; rw [h]
theorem part_step {rows p : List R} {i : Nat} (hi : i < p.length) (h : firstBad rows p = some i) : partR rows p.length p = partR rows (p.eraseIdx i).length (p.eraseIdx i) := by
  have e : (p.eraseIdx i).length + 1 = p.length := by rw [List.length_eraseIdx]; simp [hi]; omega
  rw [← e, partR, h]
theorem ok_sub {p q : List R} (h : ListOk p) (hs : q.Sublist p) : ListOk q :=
  ⟨Nat.le_trans hs.length_le h.1, fun r hr => h.2.1 r (hs.subset hr), h.2.2.sublist hs⟩

/-- Each one is above the row of its key. -/
def Up (rows p : List R) : Prop := ∀ r ∈ p, (ofV (mk rows) r.k).less r.i = true
theorem Up.sub {rows p q : List R} (h : Up rows p) (hs : q.Sublist p) : Up rows q := fun r hr => h r (hs.subset hr)

open Classical in
theorem at_app {a b : List Q} {key : ByteArray} : (∃ q ∈ a, q.r.k = key ∧ atQ (a ++ b) key = q) ∨ ((∀ q ∈ a, q.r.k ≠ key) ∧ atQ (a ++ b) key = atQ b key) := by
  unfold atQ
  rw [List.find?_append]
  cases h : a.find? fun q => decide (q.r.k = key) with
  | none =>
    refine .inr ⟨fun q hq e => ?_, rfl⟩
    have := List.find?_eq_none.1 h q hq
    simp [e] at this
  | some q =>
    refine .inl ⟨q, List.mem_of_find?_eq_some h, ?_, rfl⟩
    have := List.find?_some h
    simpa using this
open Classical in
theorem at_mem {b : List Q} {key : ByteArray} (h : ∃ q ∈ b, q.r.k = key) : atQ b key ∈ b ∧ (atQ b key).r.k = key := by
  unfold atQ
  cases hf : b.find? fun q => decide (q.r.k = key) with
  | none =>
    obtain ⟨q, hq, e⟩ := h
    have := List.find?_eq_none.1 hf q hq
    simp [e] at this
  | some q =>
    have := List.find?_some hf
    exact ⟨List.mem_of_find?_eq_some hf, by simpa using this⟩
theorem of_mk {l : List R} (h : ListOk l) {r : R} (hr : r ∈ l) : ofV (mk l) r.k = r.i :=
  ofV_mem (d := ⟨r.k, r.i⟩) (sg_mk h).1 (List.mem_map.2 ⟨r, hr, rfl⟩)
theorem of_mk_none {l : List R} {key : ByteArray} (h : ∀ r ∈ l, r.k ≠ key) : ofV (mk l) key = zero :=
  ofV_none fun d hd => by obtain ⟨r, hr, rfl⟩ := List.mem_map.1 hd; exact h r hr

/-- The keys of rows and of a part, and that what stands in place of each other one has their greatest ids. -/
theorem repl_keys {rows part : List Q} (hr : ListOk (pr rows)) (hp : ListOk (pr part)) (hu : Up (pr rows) (pr part)) :
    ∃ ks : List K4, Chain (mk (pr (part ++ rows))) (ks.map (·.1)) ∧ ks.length = (joinV (mk (pr rows)) (mk (pr part))).length ∧ mk (pr (ks.map fun k => atQ (part ++ rows) k.1)) = joinV (mk (pr rows)) (mk (pr part)) ∧ ∀ k ∈ ks, atQ (part ++ rows) k.1 ∈ part ++ rows := by
  have sr := sg_mk hr
  have sp := sg_mk hp
  have sj := sr.join sp
  obtain ⟨h1, h2, h3⟩ := join_facts (mk (pr part)) (mk (pr rows)) sr.1 sr.2 sp.1 sp.2
  have hmk : mk (pr (part ++ rows)) = mk (pr part) ++ mk (pr rows) := by unfold mk pr; rw [List.map_append, List.map_append]
  have hhas : ∀ q, Has (joinV (mk (pr rows)) (mk (pr part))) q ↔ Has (mk (pr (part ++ rows))) q := fun q => by
    rw [has_join sr.1 sr.2 sp.1 sp.2, hmk, has_append]; exact Or.comm
  obtain ⟨ks, hks⟩ := short_keys0 sj.2
  have hmem : ∀ k ∈ ks, ∃ d ∈ joinV (mk (pr rows)) (mk (pr part)), d.k = k.1 := fun k hk => by
    have : k.1 ∈ (joinV (mk (pr rows)) (mk (pr part))).map D.k := by rw [← hks]; exact List.mem_map.2 ⟨k, hk, rfl⟩
    obtain ⟨d, hd, e⟩ := List.mem_map.1 this
    exact ⟨d, hd, e⟩
  have hat : ∀ k ∈ ks, atQ (part ++ rows) k.1 ∈ part ++ rows ∧ (atQ (part ++ rows) k.1).r.k = k.1 := fun k hk => at_mem (by
    obtain ⟨x, hx, e⟩ := (hhas k.1).1 (hmem k hk)
    obtain ⟨r, hr, rfl⟩ := List.mem_map.1 hx
    obtain ⟨q, hq, rfl⟩ := List.mem_map.1 hr
    exact ⟨q, hq, e⟩)
  refine ⟨ks, ?_, by have := congrArg List.length hks; simpa using this, ?_, fun k hk => (hat k hk).1⟩
  · rw [hks]; exact chain_of sj.1 sj.2 hhas
  · -- one by one
    have key : ∀ k ∈ ks, ((atQ (part ++ rows) k.1).r.i) = ofV (joinV (mk (pr rows)) (mk (pr part))) k.1 := fun k hk => by
      rw [h3]
      rcases at_app (a := part) (b := rows) (key := k.1) with ⟨q, hq, e1, e2⟩ | ⟨hn, e2⟩
      · have hqp : q.r ∈ pr part := List.mem_map.2 ⟨q, hq, rfl⟩
        rw [e2, ← e1, of_mk hp hqp]
        unfold I.max
        rw [if_pos (hu q.r hqp)]
      · have e3 : ofV (mk (pr part)) k.1 = zero := of_mk_none fun r hr => by obtain ⟨q, hq, rfl⟩ := List.mem_map.1 hr; exact hn q hq
        have h5 := hat k hk
        rw [e2] at h5 ⊢
        have h6 : (atQ rows k.1) ∈ rows := by
          refine (at_mem ?_).1
          rcases List.mem_append.1 h5.1 with h | h
          · exact absurd h5.2 (hn _ h)
          · exact ⟨_, h, h5.2⟩
        have h7 : (atQ rows k.1).r ∈ pr rows := List.mem_map.2 ⟨_, h6, rfl⟩
        have h8 := of_mk hr h7
        rw [h5.2] at h8
        rw [e3, h8, I.max_of_not (Dep.not_less_zero (.inl (rec_of (hr.2.1 _ h7)).2.1))]
    have e1 : mk (pr (ks.map fun k => atQ (part ++ rows) k.1)) = (ks.map (·.1)).map fun q => (⟨q, ofV (joinV (mk (pr rows)) (mk (pr part))) q⟩ : D) := by
      unfold mk pr
      rw [List.map_map, List.map_map, List.map_map]
      refine List.map_congr_left fun k hk => ?_
      show (⟨(atQ (part ++ rows) k.1).r.k, (atQ (part ++ rows) k.1).r.i⟩ : D) = _
      rw [(hat k hk).2, key k hk]
      rfl
    rw [e1, hks, List.map_map]
    conv => rhs; rw [← List.map_id (joinV (mk (pr rows)) (mk (pr part)))]
    refine List.map_congr_left fun d hd => ?_
    show (⟨d.k, ofV _ d.k⟩ : D) = d
    rw [ofV_mem sj.1 hd]
end Go.Proofs.Ytoagdpbbojlgfaa.Rs
