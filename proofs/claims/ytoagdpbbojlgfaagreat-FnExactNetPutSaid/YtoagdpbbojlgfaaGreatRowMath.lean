/-
  A store, as plain mathematics: a row is a key, an Id and bytes; a store is a list of rows; put, merge, find, and how they go together. No program is spoken of.
-/
import Derived.Test.YtoagdpbbojlgfaaGreatPackDep
namespace Go.Proofs.YtoagdpbbojlgfaaGreat.Sto
open Dep (I D zero kl kl_iff kl_irrefl kl_trans kl_asymm kl_total kl_ne list_eq)
set_option linter.unusedVariables false
set_option maxRecDepth 100000

/-- A row. -/
structure R where
  k : ByteArray
  i : I
  b : ByteArray
def zeroR : R := ⟨⟨#[]⟩, zero, ⟨#[]⟩⟩
def R.d (r : R) : D := ⟨r.k, r.i⟩
def deps (l : List R) : List D := l.map R.d
theorem deps_len (l : List R) : (deps l).length = l.length := by simp [deps]
theorem R.ext_ {x y : R} (h1 : x.k = y.k) (h2 : x.i = y.i) (h3 : x.b = y.b) : x = y := by
  cases x; cases y; simp only at h1 h2 h3; subst h1 h2 h3; rfl

/-- Of what stands there, if something does, and of what is put, the one that is there behind it. -/
def better : Option R → R → R
  | none, r => r
  | some x, r => if x.i.less r.i = true then r else x
def putW : List R → R → List R
  | [], r => [r]
  | x :: l, r => if kl x.k r.k = true then x :: putW l r else if x.k = r.k then better (some x) r :: l else r :: x :: l
def mergeW (a b : List R) : List R := b.foldl putW a
def findW : List R → ByteArray → Option R
  | [], _ => none
  | x :: l, q => if x.k = q then some x else findW l q
def getW (l : List R) (q : ByteArray) : R := (findW l q).getD zeroR

def Sorted (l : List R) : Prop := l.Pairwise fun x y => kl x.k y.k = true
noncomputable def rowB (r : R) : Bool := Key.keyB r.k && r.i.right && decide (r.b.size ≤ 300)
theorem rowB_iff (r : R) : rowB r = true ↔ Key.keyB r.k = true ∧ r.i.right = true ∧ r.b.size ≤ 300 := by
  unfold rowB; rw [Bool.and_eq_true, Bool.and_eq_true, decide_eq_true_iff, and_assoc]
def Good (l : List R) : Prop := ∀ r ∈ l, rowB r = true
/-- A right store. -/
def Ok (l : List R) : Prop := l.length ≤ 6 ∧ Good l ∧ Sorted l
noncomputable def rowsB (l : List R) : Bool := @decide (Ok l) (Classical.propDecidable _)
theorem rowsB_true {l : List R} (h : Ok l) : rowsB l = true := by simp [rowsB, h]
theorem rowsB_false {l : List R} (h : ¬ Ok l) : rowsB l = false := by simp [rowsB, h]
theorem ok_of {l : List R} (h : rowsB l = true) : Ok l := by
  rcases Classical.em (Ok l) with h1 | h1
  · exact h1
  · rw [rowsB_false h1] at h; cases h
theorem sorted_deps {l : List R} : Dep.Sorted (deps l) ↔ Sorted l := by
  unfold Dep.Sorted Sorted deps
  rw [List.pairwise_map]
  exact Iff.rfl
/-- A right store is known by its deps, and by how wide its rows are. -/
theorem ok_iff (l : List R) : Ok l ↔ Dep.Ok (deps l) ∧ ∀ r ∈ l, r.b.size ≤ 300 := by
  unfold Ok Dep.Ok
  rw [deps_len, sorted_deps]
  constructor
  · rintro ⟨h1, h2, h3⟩
    refine ⟨⟨h1, fun d hd => ?_, h3⟩, fun r hr => ((rowB_iff r).1 (h2 r hr)).2.2⟩
    obtain ⟨r, hr, rfl⟩ := List.mem_map.1 hd
    have := (rowB_iff r).1 (h2 r hr)
    exact ⟨this.1, this.2.1⟩
  · rintro ⟨⟨h1, h2, h3⟩, h4⟩
    refine ⟨h1, fun r hr => (rowB_iff r).2 ?_, h3⟩
    have := h2 r.d (List.mem_map.2 ⟨r, hr, rfl⟩)
    exact ⟨this.1, this.2, h4 r hr⟩
theorem rowsB_deps (l : List R) : rowsB l = (Dep.depsB (deps l) && !l.any fun r => decide (300 < r.b.size)) := by
  rcases Classical.em (Ok l) with h | h
  · have h2 := (ok_iff l).1 h
    rw [rowsB_true h, Dep.depsB_true h2.1]
    have : (l.any fun r => decide (300 < r.b.size)) = false := by
      rw [List.any_eq_false]
      intro r hr
      have := h2.2 r hr
      simp; omega
    rw [this]; rfl
  · rw [rowsB_false h]
    rcases Classical.em (Dep.Ok (deps l)) with h1 | h1
    · have : (l.any fun r => decide (300 < r.b.size)) = true := by
        rw [List.any_eq_true]
        apply Classical.byContradiction
        intro hn
        refine h ((ok_iff l).2 ⟨h1, fun r hr => ?_⟩)
        apply Classical.byContradiction
        intro h3
        exact hn ⟨r, hr, by simp; omega⟩
      rw [this]; simp
    · rw [Dep.depsB_false h1]; rfl

theorem findW_none {l : List R} {q : ByteArray} (h : ∀ r ∈ l, r.k ≠ q) : findW l q = none := by
  induction l with
  | nil => rfl
  | cons x l ih => rw [findW, if_neg (h x (by simp))]; exact ih fun r hr => h r (by simp [hr])
theorem findW_some {l : List R} {q : ByteArray} {r : R} (h : findW l q = some r) : r ∈ l ∧ r.k = q := by
  induction l with
  | nil => cases h
  | cons x l ih =>
    rw [findW] at h
    by_cases e : x.k = q
    · rw [if_pos e] at h; cases h; exact ⟨by simp, e⟩
    · rw [if_neg e] at h; exact ⟨by simp [(ih h).1], (ih h).2⟩
theorem findW_mem {l : List R} (hs : Sorted l) {r : R} (hr : r ∈ l) : findW l r.k = some r := by
  induction l with
  | nil => cases hr
  | cons x l ih =>
    rw [findW]
    rcases List.mem_cons.1 hr with rfl | hr
    · rw [if_pos rfl]
    · have := List.rel_of_pairwise_cons hs hr
      rw [if_neg (kl_ne this)]
      exact ih (List.Pairwise.of_cons hs) hr
theorem findW_not {l : List R} {q : ByteArray} (h : findW l q = none) : ∀ r ∈ l, r.k ≠ q := by
  induction l with
  | nil => simp
  | cons x l ih =>
    rw [findW] at h
    by_cases e : x.k = q
    · rw [if_pos e] at h; cases h
    · rw [if_neg e] at h
      intro r hr
      rcases List.mem_cons.1 hr with rfl | hr
      · exact e
      · exact ih h r hr

theorem better_k {o : Option R} {r : R} (h : ∀ x, o = some x → x.k = r.k) : (better o r).k = r.k := by
  cases o with
  | none => rfl
  | some x =>
    show (if x.i.less r.i = true then r else x).k = r.k
    by_cases e : x.i.less r.i = true
    · rw [if_pos e]
    · rw [if_neg e]; exact h x rfl
theorem better_cases (o : Option R) (r : R) : better o r = r ∨ o = some (better o r) := by
  cases o with
  | none => exact .inl rfl
  | some x =>
    show (if x.i.less r.i = true then r else x) = r ∨ some x = some (if x.i.less r.i = true then r else x)
    by_cases e : x.i.less r.i = true
    · rw [if_pos e]; exact .inl rfl
    · rw [if_neg e]; exact .inr rfl
theorem mem_put {l : List R} {r y : R} (h : y ∈ putW l r) : y ∈ l ∨ y = r := by
  induction l with
  | nil => exact .inr (by simpa [putW] using h)
  | cons x l ih =>
    rw [putW] at h
    by_cases h1 : kl x.k r.k = true
    · rw [if_pos h1] at h
      rcases List.mem_cons.1 h with rfl | h
      · exact .inl (by simp)
      · exact (ih h).imp (fun h => by simp [h]) id
    · rw [if_neg h1] at h
      by_cases h2 : x.k = r.k
      · rw [if_pos h2] at h
        rcases List.mem_cons.1 h with rfl | h
        · rcases better_cases (some x) r with e | e
          · exact .inr e
          · refine .inl ?_
            injection e with e
            rw [← e]; simp
        · exact .inl (by simp [h])
      · rw [if_neg h2] at h
        rcases List.mem_cons.1 h with rfl | h
        · exact .inr rfl
        · exact .inl h
theorem good_put {l : List R} (hg : Good l) {r : R} (hr : rowB r = true) : Good (putW l r) := fun y hy => by
  rcases mem_put hy with h | rfl
  · exact hg y h
  · exact hr
theorem sorted_put {l : List R} (hs : Sorted l) (r : R) : Sorted (putW l r) := by
  induction l with
  | nil => exact List.pairwise_singleton _ _
  | cons y l ih =>
    have hs2 := List.Pairwise.of_cons hs
    have hy := fun {d : R} (hd : d ∈ l) => List.rel_of_pairwise_cons hs hd
    rw [putW]
    by_cases h1 : kl y.k r.k = true
    · rw [if_pos h1]
      refine List.pairwise_cons.2 ⟨fun d hd => ?_, ih hs2⟩
      rcases mem_put hd with h | rfl
      · exact hy h
      · exact h1
    · rw [if_neg h1]
      by_cases h2 : y.k = r.k
      · rw [if_pos h2]
        refine List.pairwise_cons.2 ⟨fun d hd => ?_, hs2⟩
        rw [better_k (fun x e => by cases e; exact h2), ← h2]; exact hy hd
      · rw [if_neg h2]
        have h3 := kl_total h1 h2
        refine List.pairwise_cons.2 ⟨fun d hd => ?_, hs⟩
        rcases List.mem_cons.1 hd with rfl | hd
        · exact h3
        · exact kl_trans h3 (hy hd)
theorem findW_put {l : List R} (hs : Sorted l) (r : R) (q : ByteArray) : findW (putW l r) q = if q = r.k then some (better (findW l q) r) else findW l q := by
  induction l with
  | nil =>
    rw [putW]
    simp only [findW]
    by_cases h : q = r.k
    · subst h; rw [if_pos rfl, if_pos rfl]; rfl
    · rw [if_neg (fun e => h e.symm), if_neg h]
  | cons y l ih =>
    have hs2 := List.Pairwise.of_cons hs
    rw [putW]
    by_cases h1 : kl y.k r.k = true
    · have hne := kl_ne h1
      rw [if_pos h1, findW, findW, ih hs2]
      by_cases h : q = r.k
      · subst h; rw [if_neg hne, if_pos rfl, if_pos rfl, if_neg hne]
      · rw [if_neg h, if_neg h]
    · rw [if_neg h1]
      by_cases h2 : y.k = r.k
      · rw [if_pos h2, findW, better_k (fun x e => by cases e; exact h2)]
        by_cases h : q = r.k
        · subst h; rw [if_pos rfl, if_pos rfl, findW, if_pos h2]
        · rw [if_neg (fun e => h e.symm), if_neg h, findW, if_neg (fun e => h (by rw [← e]; exact h2))]
      · rw [if_neg h2]
        have h3 := kl_total h1 h2
        have hn : findW (y :: l) r.k = none := findW_none fun d hd => by
          rcases List.mem_cons.1 hd with rfl | hd
          · exact h2
          · exact (kl_ne (kl_trans h3 (List.rel_of_pairwise_cons hs hd))).symm
        rw [findW]
        by_cases h : q = r.k
        · subst h; rw [if_pos rfl, if_pos rfl, hn]; rfl
        · rw [if_neg (fun e => h e.symm), if_neg h]

/-- Rising rows are known by what they have at each key. -/
theorem ext {l m : List R} (hl : Sorted l) (hm : Sorted m) (h : ∀ q, findW l q = findW m q) : l = m := by
  induction l generalizing m with
  | nil =>
    cases m with
    | nil => rfl
    | cons y m =>
      have := h y.k
      rw [findW, findW, if_pos rfl] at this
      cases this
  | cons x l ih =>
    cases m with
    | nil =>
      have := h x.k
      rw [findW, findW, if_pos rfl] at this
      cases this
    | cons y m =>
      have hxy : x = y := by
        have h1 := h x.k
        have h2 := h y.k
        rw [findW, if_pos rfl] at h1
        rw [findW_mem hm (show y ∈ y :: m by simp)] at h2
        have a1 := (findW_some h1.symm).1
        have a2 := (findW_some h2).1
        rcases List.mem_cons.1 a1 with e | a1
        · exact e
        · rcases List.mem_cons.1 a2 with e | a2
          · exact e.symm
          · exact absurd (List.rel_of_pairwise_cons hm a1) (kl_asymm (List.rel_of_pairwise_cons hl a2))
      subst hxy
      congr 1
      refine ih (List.Pairwise.of_cons hl) (List.Pairwise.of_cons hm) fun q => ?_
      by_cases e : x.k = q
      · subst e
        rw [findW_none fun d hd => (kl_ne (List.rel_of_pairwise_cons hl hd)).symm, findW_none fun d hd => (kl_ne (List.rel_of_pairwise_cons hm hd)).symm]
      · have := h q
        rw [findW, findW, if_neg e, if_neg e] at this
        exact this

/-- What a merged store has at a key. -/
def both (x y : Option R) : Option R := match y with | none => x | some y => some (better x y)
theorem merge_facts (b : List R) : ∀ a : List R, Sorted a → Sorted b → Sorted (mergeW a b) ∧ ∀ q, findW (mergeW a b) q = both (findW a q) (findW b q) := by
  induction b with
  | nil => exact fun a sa _ => ⟨sa, fun q => rfl⟩
  | cons y b ih =>
    intro a sa sb
    obtain ⟨h1, h2⟩ := ih (putW a y) (sorted_put sa _) (List.Pairwise.of_cons sb)
    refine ⟨h1, fun q => ?_⟩
    show findW (mergeW (putW a y) b) q = _
    rw [h2, findW_put sa, findW]
    by_cases e : q = y.k
    · subst e
      rw [if_pos rfl, if_pos rfl, findW_none fun d hd => (kl_ne (List.rel_of_pairwise_cons sb hd)).symm]
      rfl
    · rw [if_neg e, if_neg (fun e' => e e'.symm)]
theorem good_merge {b : List R} : ∀ {a : List R}, Good a → Good b → Good (mergeW a b) := by
  induction b with
  | nil => exact fun ha _ => ha
  | cons y b ih => exact fun ha hb => ih (good_put ha (hb y (by simp))) fun r hr => hb r (by simp [hr])
theorem merge_one (a : List R) (r : R) : mergeW a [r] = putW a r := rfl
theorem good_one {r : R} (h : rowB r = true) : Good [r] := fun y hy => by
  rw [List.mem_singleton.1 hy]; exact h
theorem ok_one {r : R} : Ok [r] ↔ rowB r = true :=
  ⟨fun h => h.2.1 r (by simp), fun h => ⟨by simp, good_one h, List.pairwise_singleton _ _⟩⟩

/-- The loop's way to put: what is less first, then the row, then what is left. -/
theorem put_at {l : List R} (r : R) {k : Nat} (hk : k ≤ l.length) (h : ∀ j (hj : j < l.length), j < k → kl l[j].k r.k = true) (hn : ∀ hj : k < l.length, ¬ kl l[k].k r.k = true) :
    putW l r = l.take k ++ (if h : k < l.length then (if l[k].k = r.k then better (some l[k]) r :: l.drop (k + 1) else r :: l.drop k) else [r]) := by
  induction l generalizing k with
  | nil => cases k with
    | zero => rfl
    | succ k => exact absurd hk (by simp)
  | cons y l ih =>
    rw [putW]
    cases k with
    | zero =>
      have h1 := hn (by simp)
      simp only [List.getElem_cons_zero] at h1
      rw [if_neg h1]
      simp
    | succ k =>
      have h1 := h 0 (by simp) (by omega)
      simp only [List.getElem_cons_zero] at h1
      rw [if_pos h1, ih (k := k) (by simpa using hk) (fun j hj hjk => by have := h (j + 1) (by simpa using hj) (by omega); simpa using this) (fun hj => by have := hn (by simpa using hj); simpa using this)]
      simp
theorem put_len (l : List R) (r : R) : (putW l r).length ≤ l.length + 1 := by
  induction l with
  | nil => simp [putW]
  | cons x l ih =>
    rw [putW]
    split
    · simp; exact ih
    · split <;> simp
theorem merge_len (b : List R) : ∀ a : List R, (mergeW a b).length ≤ a.length + b.length := by
  induction b with
  | nil => exact fun a => by simp [mergeW]
  | cons y b ih =>
    intro a
    have h1 := ih (putW a y)
    have h2 := put_len a y
    show (mergeW (putW a y) b).length ≤ _
    simp only [List.length_cons]
    omega
end Go.Proofs.YtoagdpbbojlgfaaGreat.Sto
