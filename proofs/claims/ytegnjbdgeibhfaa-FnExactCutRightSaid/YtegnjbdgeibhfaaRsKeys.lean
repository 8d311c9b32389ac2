/-
  The keys of some lists of deps, as plain mathematics. No program is spoken of.
-/
import Derived.Test.YtegnjbdgeibhfaaRsMath
import Derived.Test.YtegnjbdgeibhfaaPackAll
namespace Go.Proofs.Ytegnjbdgeibhfaa.Rs
open Rec (R RecOk recB rec_of needsR needsR_ok bun others)
open Dep (D I zero kl Ok Sorted depsB ofV putV joinV coversB covB join_facts max_zero_iff ofV_right ofV_ne key_of_ne getD_map sorted_lt kl_empty kl_irrefl kl_asymm kl_ne aboveV above_spec Chain)
set_option linter.unusedVariables false
set_option maxRecDepth 100000

/-- This key stands there. -/
def Has (l : List D) (q : ByteArray) : Prop := ∃ d ∈ l, d.k = q
theorem has_iff {l : List D} (hs : Sorted l) (hg : Dep.Good l) (q : ByteArray) : Has l q ↔ ofV l q ≠ zero :=
  ⟨fun ⟨d, hd, e⟩ => e ▸ ofV_ne hs hg hd, key_of_ne⟩
theorem has_append (a b : List D) (q : ByteArray) : Has (a ++ b) q ↔ Has a q ∨ Has b q := by
  constructor
  · rintro ⟨d, hd, e⟩
    rcases List.mem_append.1 hd with h | h
    · exact .inl ⟨d, h, e⟩
    · exact .inr ⟨d, h, e⟩
  · rintro (⟨d, h, e⟩ | ⟨d, h, e⟩)
    · exact ⟨d, List.mem_append_left _ h, e⟩
    · exact ⟨d, List.mem_append_right _ h, e⟩
theorem has_join {a b : List D} (sa : Sorted a) (ga : Dep.Good a) (sb : Sorted b) (gb : Dep.Good b) (q : ByteArray) : Has (joinV a b) q ↔ Has a q ∨ Has b q := by
  obtain ⟨h1, h2, h3⟩ := join_facts b a sa ga sb gb
  rw [has_iff h1 h2, has_iff sa ga, has_iff sb gb, h3]
  constructor
  · intro h
    by_cases e : ofV a q = zero
    · refine .inr fun e2 => h ?_
      rw [e, e2, I.max_idem]
    · exact .inl e
  · rintro (h | h) e
    · exact h (max_zero_iff (ofV_right ga q) (ofV_right gb q) e).1
    · exact h (max_zero_iff (ofV_right ga q) (ofV_right gb q) e).2
/-- Sorted and good. -/
def SG (l : List D) : Prop := Sorted l ∧ Dep.Good l
theorem SG.of {l : List D} (h : depsB l = true) : SG l := ⟨(Dep.ok_of h).2.2, (Dep.ok_of h).2.1⟩
theorem SG.nil : SG [] := ⟨List.Pairwise.nil, fun d hd => absurd hd (by simp)⟩
theorem SG.join {a b : List D} (ha : SG a) (hb : SG b) : SG (joinV a b) := by
  obtain ⟨h1, h2, _⟩ := join_facts b a ha.1 ha.2 hb.1 hb.2
  exact ⟨h1, h2⟩
def foldJ (a : List D) (L : List (List D)) : List D := L.foldl joinV a
theorem foldJ_snoc (a : List D) (L : List (List D)) (l : List D) : foldJ a (L ++ [l]) = joinV (foldJ a L) l := by unfold foldJ; rw [List.foldl_append]; rfl
theorem SG.fold : ∀ {L : List (List D)} {a : List D}, SG a → (∀ l ∈ L, SG l) → SG (foldJ a L)
  | [], _, ha, _ => ha
  | l :: L, _, ha, h => SG.fold (L := L) (ha.join (h l (by simp))) fun x hx => h x (by simp [hx])
theorem has_fold (q : ByteArray) : ∀ {L : List (List D)} {a : List D}, SG a → (∀ l ∈ L, SG l) → (Has (foldJ a L) q ↔ Has a q ∨ ∃ l ∈ L, Has l q)
  | [], _, _, _ => by simp [foldJ]
  | l :: L, a, ha, h => by
    have hl := h l (by simp)
    have ih := has_fold q (L := L) (ha.join hl) fun x hx => h x (by simp [hx])
    show Has (foldJ (joinV a l) L) q ↔ _
    rw [ih, has_join ha.1 ha.2 hl.1 hl.2]
    constructor
    · rintro ((h1 | h1) | ⟨x, hx, h1⟩)
      · exact .inl h1
      · exact .inr ⟨l, by simp, h1⟩
      · exact .inr ⟨x, by simp [hx], h1⟩
    · rintro (h1 | ⟨x, hx, h1⟩)
      · exact .inl (.inl h1)
      · rcases List.mem_cons.1 hx with rfl | hx
        · exact .inl (.inr h1)
        · exact .inr ⟨x, hx, h1⟩
/-- Of lists of the same keys one is as long as the other. -/
theorem nodup_len {α : Type} [DecidableEq α] : ∀ (xs ys : List α), xs.Nodup → (∀ x ∈ xs, x ∈ ys) → xs.length ≤ ys.length
  | [], _, _, _ => Nat.zero_le _
  | x :: xs, ys, hn, h => by
    have hx := h x (by simp)
    have hn2 := List.nodup_cons.1 hn
    have := nodup_len xs (ys.erase x) hn2.2 fun y hy => (List.mem_erase_of_ne (by rintro rfl; exact hn2.1 hy)).2 (h y (by simp [hy]))
    rw [List.length_erase_of_mem hx] at this
    have h0 : 0 < ys.length := List.length_pos_of_mem hx
    simp only [List.length_cons]
    omega
theorem nodup_keys {a : List D} (h : Sorted a) : (a.map D.k).Nodup := by
  rw [List.nodup_iff_pairwise_ne, List.pairwise_map]
  exact h.imp fun h => kl_ne h
open Classical in
theorem has_len {a b : List D} (ha : Sorted a) (h : ∀ q, Has a q → Has b q) : a.length ≤ b.length := by
  have := nodup_len (a.map D.k) (b.map D.k) (nodup_keys ha) fun q hq => by
    obtain ⟨d, hd, e⟩ := List.mem_map.1 hq
    obtain ⟨x, hx, e2⟩ := h q ⟨d, hd, e⟩
    exact List.mem_map.2 ⟨x, hx, e2⟩
  simpa using this
theorem has_len_eq {a b : List D} (ha : Sorted a) (hb : Sorted b) (h : ∀ q, Has a q ↔ Has b q) : a.length = b.length :=
  Nat.le_antisymm (has_len ha fun q => (h q).1) (has_len hb fun q => (h q).2)

/-- The keys of what is sorted are those of whatever has the same keys, one above the other. -/
theorem chain_of {K L : List D} (h1 : Sorted K) (h2 : Dep.Good K) (hh : ∀ q, Has K q ↔ Has L q) : Chain L (K.map D.k) := by
  have hne : ∀ k ∈ K.map D.k, k ≠ ⟨#[]⟩ := by
    intro k hk e
    obtain ⟨d, hd, rfl⟩ := List.mem_map.1 hk
    have := (Key.ok_of (h2 d hd).1).1
    rw [e] at this
    have h0 : (⟨#[]⟩ : ByteArray).size = 0 := rfl
    omega
  refine ⟨fun i hi => ?_, hne, nodup_keys h1⟩
  rw [List.length_map] at hi
  obtain ⟨last, hlast⟩ : ∃ last, (if i = 0 then ⟨#[]⟩ else (K.map D.k).getD (i - 1) ⟨#[]⟩) = last := ⟨_, rfl⟩
  rw [hlast]
  have above : ∀ j (hj : j < K.length), i ≤ j → kl last K[j].k = true := by
    intro j hj hij
    rw [← hlast]
    by_cases e : i = 0
    · rw [if_pos e]; exact kl_empty (h2 _ (List.getElem_mem hj)).1
    · rw [if_neg e, getD_map _ _ (by omega)]; exact sorted_lt h1 hj (by omega)
  have under : ∀ j (hj : j < K.length), j < i → kl last K[j].k = false := by
    intro j hj hij
    cases hc : kl last K[j].k
    · rfl
    · rw [← hlast, if_neg (by omega), getD_map _ _ (by omega)] at hc
      by_cases e : j = i - 1
      · subst e; exact absurd hc (kl_irrefl _)
      · exact absurd hc (kl_asymm (sorted_lt h1 (by omega) (by omega)))
  rcases above_spec last L with ⟨e, hn⟩ | ⟨⟨x, hx, hxe⟩, hl, hmin⟩
  · rw [e]
    by_cases hin : i < K.length
    · obtain ⟨y, hy, hye⟩ := (hh _).1 ⟨_, List.getElem_mem hin, rfl⟩
      have := hn y hy
      rw [hye, above i hin (Nat.le_refl _)] at this
      cases this
    · rw [List.getD, List.getElem?_eq_none (by simp; omega)]; rfl
  · obtain ⟨d, hd, hdk⟩ := (hh _).2 ⟨x, hx, rfl⟩
    obtain ⟨j, hj, rfl⟩ := List.getElem_of_mem hd
    rw [← hxe, ← hdk] at hl hmin ⊢
    by_cases hji : j < i
    · rw [under j hj hji] at hl; cases hl
    · have hin : i < K.length := by omega
      rw [getD_map _ _ hin]
      by_cases e : j = i
      · subst e; rfl
      · obtain ⟨y, hy, hye⟩ := (hh _).1 ⟨_, List.getElem_mem hin, rfl⟩
        have := hmin y hy (by rw [hye]; exact above i hin (Nat.le_refl _))
        rw [hye, sorted_lt h1 hj (by omega)] at this
        cases this

theorem has_flat (q : ByteArray) (L : List (List D)) : Has L.flatten q ↔ ∃ l ∈ L, Has l q := by
  constructor
  · rintro ⟨d, hd, e⟩
    obtain ⟨l, hl, hd⟩ := List.mem_flatten.1 hd
    exact ⟨l, hl, d, hd, e⟩
  · rintro ⟨l, hl, d, hd, e⟩
    exact ⟨d, List.mem_flatten.2 ⟨l, hl, hd⟩, e⟩
/-- The keys of lists are those of all of them joined. -/
theorem chain_fold {L : List (List D)} (h : ∀ l ∈ L, SG l) : Chain L.flatten ((foldJ [] L).map D.k) := by
  have hs := SG.nil.fold h
  refine chain_of hs.1 hs.2 fun q => ?_
  rw [has_fold q SG.nil h, has_flat]
  constructor
  · rintro (⟨d, hd, _⟩ | h)
    · exact absurd hd (by simp)
    · exact h
  · exact .inr

/-- What the needs of a right record name, is what its deps and its bundle name, but for itself. -/
theorem sg_bun {r : R} (h : recB r = true) : SG (bun r.b r.i) := by
  have ho := rec_of h
  have ob := Rec.keys_of ho.2.2.2.2.2.1
  exact ⟨Rec.bun_sorted r.i ob.2.2.1, Rec.bun_good ob.2.1 ho.2.1⟩
theorem sg_mk {l : List R} (h : ListOk l) : SG (mk l) := SG.of (mk_ok h)
theorem sg_needs {r : R} (h : recB r = true) : SG (needsR r) := SG.of (needs_depsB h)
theorem sg_deps {r : R} (h : recB r = true) : SG r.l := SG.of (rec_of h).2.2.2.2.1
theorem has_bun {b : List ByteArray} {i : I} {q : ByteArray} : Has (bun b i) q ↔ q ∈ b := by
  unfold bun
  constructor
  · rintro ⟨d, hd, e⟩
    obtain ⟨x, hx, rfl⟩ := List.mem_map.1 hd
    exact e ▸ hx
  · intro h
    exact ⟨⟨q, i⟩, List.mem_map.2 ⟨q, h, rfl⟩, rfl⟩
theorem has_others {b : List ByteArray} {k q : ByteArray} {i : I} : Has (others b k i) q ↔ q ∈ b ∧ q ≠ k := by
  unfold others
  constructor
  · rintro ⟨d, hd, e⟩
    obtain ⟨h1, h2⟩ := List.mem_filter.1 hd
    have hk : ¬ d.k = k := by simpa using h2
    exact ⟨has_bun.1 ⟨d, h1, e⟩, e ▸ hk⟩
  · rintro ⟨h1, h2⟩
    obtain ⟨d, hd, e⟩ := (has_bun (b := b) (i := i) (q := q)).2 h1
    exact ⟨d, List.mem_filter.2 ⟨hd, by simpa [e] using h2⟩, e⟩
theorem has_needs {r : R} (h : recB r = true) (q : ByteArray) : Has (needsR r) q ↔ Has r.l q ∨ (q ∈ r.b ∧ q ≠ r.k) := by
  have ho := rec_of h
  have ob := Rec.keys_of ho.2.2.2.2.2.1
  have sd := sg_deps h
  rw [needsR_ok ho]
  unfold Rec.needs
  rw [has_join sd.1 sd.2 (Rec.others_sorted (Rec.bun_sorted r.i ob.2.2.1)) (Rec.others_good (Rec.bun_good ob.2.1 ho.2.1)), has_others]
theorem has_mk {l : List R} {q : ByteArray} : Has (mk l) q ↔ ∃ r ∈ l, r.k = q := by
  unfold mk
  constructor
  · rintro ⟨d, hd, e⟩
    obtain ⟨r, hr, rfl⟩ := List.mem_map.1 hd
    exact ⟨r, hr, e⟩
  · rintro ⟨r, hr, e⟩
    exact ⟨_, List.mem_map.2 ⟨r, hr, rfl⟩, e⟩

/-- All keys: of rows, of what waits, and of what that needs: as the given model puts them together. -/
noncomputable def keysV (rows wait : List R) : List D := foldJ (joinV (mk rows) (mk wait)) (wait.map needsR)
/-- The lists that the program looks through for the same keys. -/
def fitL (rows wait : List R) : List (List D) := mk rows :: wait.flatMap fun r => [r.l, bun r.b r.i]
theorem fitL_sg {rows wait : List R} (hr : SG (mk rows)) (hw : ∀ r ∈ wait, recB r = true) : ∀ l ∈ fitL rows wait, SG l := by
  intro l hl
  rcases List.mem_cons.1 hl with rfl | hl
  · exact hr
  · obtain ⟨r, h1, h2⟩ := List.mem_flatMap.1 hl
    rcases List.mem_cons.1 h2 with rfl | h2
    · exact sg_deps (hw r h1)
    · obtain rfl : l = bun r.b r.i := by simpa using h2
      exact sg_bun (hw r h1)
theorem keys_sg {rows wait : List R} (hr : SG (mk rows)) (hm : SG (mk wait)) (hw : ∀ r ∈ wait, recB r = true) : SG (keysV rows wait) :=
  (hr.join hm).fold fun l hl => by
    obtain ⟨r, h1, rfl⟩ := List.mem_map.1 hl
    exact sg_needs (hw r h1)
theorem keys_same {rows wait : List R} (hr : SG (mk rows)) (hm : SG (mk wait)) (hw : ∀ r ∈ wait, recB r = true) (q : ByteArray) : Has (keysV rows wait) q ↔ Has (fitL rows wait).flatten q := by
  rw [has_flat]
  unfold keysV
  rw [has_fold q (hr.join hm) (fun l hl => by
    obtain ⟨r, h1, rfl⟩ := List.mem_map.1 hl
    exact sg_needs (hw r h1)), has_join hr.1 hr.2 hm.1 hm.2]
  unfold fitL
  constructor
  · rintro ((h | h) | ⟨l, hl, h⟩)
    · exact ⟨_, by simp, h⟩
    · obtain ⟨r, h1, rfl⟩ := has_mk.1 h
      exact ⟨bun r.b r.i, List.mem_cons_of_mem _ (List.mem_flatMap.2 ⟨r, h1, by simp⟩), has_bun.2 (Rec.keys_of (rec_of (hw r h1)).2.2.2.2.2.1).2.2.2⟩
    · obtain ⟨r, h1, rfl⟩ := List.mem_map.1 hl
      rcases (has_needs (hw r h1) q).1 h with h | ⟨h, _⟩
      · exact ⟨r.l, List.mem_cons_of_mem _ (List.mem_flatMap.2 ⟨r, h1, by simp⟩), h⟩
      · exact ⟨bun r.b r.i, List.mem_cons_of_mem _ (List.mem_flatMap.2 ⟨r, h1, by simp⟩), has_bun.2 h⟩
  · rintro ⟨l, hl, h⟩
    rcases List.mem_cons.1 hl with rfl | hl
    · exact .inl (.inl h)
    · obtain ⟨r, h1, h2⟩ := List.mem_flatMap.1 hl
      rcases List.mem_cons.1 h2 with rfl | h2
      · exact .inr ⟨needsR r, List.mem_map.2 ⟨r, h1, rfl⟩, (has_needs (hw r h1) q).2 (.inl h)⟩
      · obtain rfl : l = bun r.b r.i := by simpa using h2
        by_cases e : q = r.k
        · exact .inl (.inr (has_mk.2 ⟨r, h1, e.symm⟩))
        · exact .inr ⟨needsR r, List.mem_map.2 ⟨r, h1, rfl⟩, (has_needs (hw r h1) q).2 (.inr ⟨has_bun.1 h, e⟩)⟩
theorem keys_chain {rows wait : List R} (hr : SG (mk rows)) (hm : SG (mk wait)) (hw : ∀ r ∈ wait, recB r = true) : Chain (fitL rows wait).flatten ((keysV rows wait).map D.k) :=
  chain_of (keys_sg hr hm hw).1 (keys_sg hr hm hw).2 (keys_same hr hm hw)
theorem short_keys0 {l : List D} (h : Dep.Good l) : ∃ ks : List Dep.K4, ks.map (·.1) = l.map D.k := by
  induction l with
  | nil => exact ⟨[], rfl⟩
  | cons d l ih =>
    obtain ⟨ks, hks⟩ := ih fun x hx => h x (by simp [hx])
    have := (Key.ok_of (h d (by simp)).1).2.1
    exact ⟨⟨d.k, this⟩ :: ks, by simp [hks]⟩
end Go.Proofs.Ytegnjbdgeibhfaa.Rs
