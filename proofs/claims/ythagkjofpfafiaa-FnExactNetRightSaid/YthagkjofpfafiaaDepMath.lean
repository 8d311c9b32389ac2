/-
  What one has seen, as plain mathematics: a dep is a key and an Id; deps are lists; put, join, covers, and how they go together. No program is spoken of.
-/
import Derived.Test.YthagkjofpfafiaaId
import Derived.Test.YthagkjofpfafiaaKey
import Derived.Sort.Walk0
namespace Go.Proofs.Ythagkjofpfafiaa.Dep
set_option linter.unusedVariables false
set_option maxRecDepth 100000

/-- An Id. -/
structure I where
  c : Int
  s : Int
  e : Int
deriving DecidableEq
/-- A dep. -/
structure D where
  k : ByteArray
  i : I

def zero : I := ⟨0, 0, 0⟩
def I.right (x : I) : Bool := Id.rightB x.c x.s x.e
def I.less (x y : I) : Bool := Id.lessB x.c x.s x.e y.c y.s y.e
def I.max (x y : I) : I := if x.less y = true then y else x

theorem I.less_iff (x y : I) : x.less y = true ↔ (x.c < y.c ∨ (x.c = y.c ∧ (x.s < y.s ∨ (x.s = y.s ∧ x.e < y.e)))) := by
  unfold I.less Id.lessB
  rw [decide_eq_true_iff]
theorem I.ext_ {x y : I} (h1 : x.c = y.c) (h2 : x.s = y.s) (h3 : x.e = y.e) : x = y := by
  cases x; cases y; simp only at h1 h2 h3; subst h1 h2 h3; rfl
theorem I.less_irrefl (x : I) : ¬ x.less x = true := by rw [I.less_iff]; omega
theorem I.less_trans {x y z : I} (h1 : x.less y = true) (h2 : y.less z = true) : x.less z = true := by
  rw [I.less_iff] at *; omega
theorem I.less_asymm {x y : I} (h1 : x.less y = true) : ¬ y.less x = true := by
  rw [I.less_iff] at *; omega
theorem I.eq_of_not {x y : I} (h1 : ¬ x.less y = true) (h2 : ¬ y.less x = true) : x = y := by
  rw [I.less_iff] at *; exact I.ext_ (by omega) (by omega) (by omega)
theorem I.max_comm (x y : I) : x.max y = y.max x := by
  unfold I.max
  by_cases h : x.less y = true
  · rw [if_pos h, if_neg (I.less_asymm h)]
  · rw [if_neg h]
    by_cases h2 : y.less x = true
    · rw [if_pos h2]
    · rw [if_neg h2]; exact I.eq_of_not h h2
theorem I.max_cases (x y : I) : x.max y = x ∨ x.max y = y := by
  unfold I.max
  by_cases h : x.less y = true
  · rw [if_pos h]; exact .inr rfl
  · rw [if_neg h]; exact .inl rfl
theorem I.not_less_max_left (x y : I) : ¬ (x.max y).less x = true := by
  unfold I.max
  by_cases h : x.less y = true
  · rw [if_pos h]; exact I.less_asymm h
  · rw [if_neg h]; exact I.less_irrefl x
theorem I.not_less_max_right (x y : I) : ¬ (x.max y).less y = true := by
  rw [I.max_comm]; exact I.not_less_max_left y x
theorem I.max_of_not {x y : I} (h : ¬ x.less y = true) : x.max y = x := by unfold I.max; rw [if_neg h]
theorem I.max_idem (x : I) : x.max x = x := I.max_of_not (I.less_irrefl x)
theorem I.max_again_right (x y : I) : (x.max y).max y = x.max y := I.max_of_not (I.not_less_max_right x y)
theorem I.max_again_left (x y : I) : (x.max y).max x = x.max y := I.max_of_not (I.not_less_max_left x y)
theorem I.right_iff (x : I) : x.right = true ↔ (1 ≤ x.c ∧ x.c ≤ 1000000) ∧ (1 ≤ x.s ∧ x.s ≤ 3) ∧ (0 ≤ x.e ∧ x.e ≤ 99) := by
  unfold I.right Id.rightB Id.inB
  rw [Bool.and_eq_true, Bool.and_eq_true, decide_eq_true_iff, decide_eq_true_iff, decide_eq_true_iff]
  constructor
  · rintro ⟨⟨a, b⟩, c⟩; exact ⟨a, b, c⟩
  · rintro ⟨a, b, c⟩; exact ⟨⟨a, b⟩, c⟩
theorem I.zero_less {x : I} (h : x.right = true) : zero.less x = true := by
  rw [I.right_iff] at h; rw [I.less_iff]; simp only [zero]; omega
theorem I.ne_zero {x : I} (h : x.right = true) : x ≠ zero := by
  rintro rfl; exact I.less_irrefl _ (I.zero_less h)
theorem I.zero_max {x : I} (h : x.right = true) : zero.max x = x := by unfold I.max; rw [if_pos (I.zero_less h)]
theorem I.max_right {x y : I} (h1 : x.right = true) (h2 : y.right = true) : (x.max y).right = true := by
  rcases I.max_cases x y with h | h <;> rw [h] <;> assumption

/-- Keys in their order. -/
def kl (a b : ByteArray) : Bool := Op.bytesLess a.toList b.toList
theorem kl_iff (a b : ByteArray) : kl a b = true ↔ a.data.toList < b.data.toList := by
  unfold kl; rw [bytesLess_eq, ByteArray.toList_eq, ByteArray.toList_eq, decide_eq_true_iff]
theorem list_eq {a b : ByteArray} (h : a.data.toList = b.data.toList) : a = b := by
  cases a; cases b; simp only at h; congr 1; exact Array.toList_inj.1 h
theorem kl_irrefl (a : ByteArray) : ¬ kl a a = true := by rw [kl_iff]; exact List.lt_irrefl _
theorem kl_trans {a b c : ByteArray} (h1 : kl a b = true) (h2 : kl b c = true) : kl a c = true := by
  rw [kl_iff] at *; exact List.lt_trans h1 h2
theorem kl_asymm {a b : ByteArray} (h1 : kl a b = true) : ¬ kl b a = true := fun h2 => kl_irrefl a (kl_trans h1 h2)
theorem kl_total {a b : ByteArray} (h1 : ¬ kl a b = true) (h2 : ¬ a = b) : kl b a = true := by
  rw [kl_iff] at *
  rcases Classical.em (b.data.toList < a.data.toList) with h | h
  · exact h
  · exact absurd (list_eq (List.le_antisymm h h1)) h2
theorem kl_ne {a b : ByteArray} (h : kl a b = true) : a ≠ b := by rintro rfl; exact kl_irrefl a h

/-- The Id at a key, or none: zero. -/
def ofV : List D → ByteArray → I
  | [], _ => zero
  | d :: l, q => if d.k = q then d.i else ofV l q
/-- A key up to an Id. -/
def putV : List D → ByteArray → I → List D
  | [], q, x => [⟨q, x⟩]
  | d :: l, q, x => if kl d.k q = true then d :: putV l q x else if d.k = q then ⟨q, d.i.max x⟩ :: l else ⟨q, x⟩ :: d :: l
def joinV (a b : List D) : List D := b.foldl (fun o d => putV o d.k d.i) a
def coversB (a b : List D) : Bool := b.all fun d => !(ofV a d.k).less d.i
def clockV (l : List D) : Int := l.foldl (fun n d => if n > d.i.c then n else d.i.c) 0

def Sorted (l : List D) : Prop := l.Pairwise fun x y => kl x.k y.k = true
def Good (l : List D) : Prop := ∀ d ∈ l, Key.keyB d.k = true ∧ d.i.right = true
/-- Right deps. -/
def Ok (l : List D) : Prop := l.length ≤ 6 ∧ Good l ∧ Sorted l
noncomputable def depsB (l : List D) : Bool := @decide (Ok l) (Classical.propDecidable _)
theorem depsB_true {l : List D} (h : Ok l) : depsB l = true := by simp [depsB, h]
theorem depsB_false {l : List D} (h : ¬ Ok l) : depsB l = false := by simp [depsB, h]
theorem ok_of {l : List D} (h : depsB l = true) : Ok l := by
  rcases Classical.em (Ok l) with h1 | h1
  · exact h1
  · rw [depsB_false h1] at h; cases h

/-- What a walk finds out one after another. -/
theorem sorted_of {l : List D} (h : ∀ j (hj : j + 1 < l.length), kl l[j].k l[j + 1].k = true) : Sorted l := by
  unfold Sorted
  rw [List.pairwise_iff_getElem]
  have key : ∀ d i (hi : i + (d + 1) < l.length), kl (l[i]'(by omega)).k (l[i + (d + 1)]'hi).k = true := by
    intro d
    induction d with
    | zero => exact fun i hi => h i hi
    | succ d ih => exact fun i hi => kl_trans (ih i (by omega)) (h (i + (d + 1)) hi)
  intro i j hi hj hij
  have := key (j - i - 1) i (by omega)
  simpa [show i + (j - i - 1 + 1) = j by omega] using this
theorem sorted_at {l : List D} (h : Sorted l) {j : Nat} (hj : j + 1 < l.length) : kl l[j].k l[j + 1].k = true :=
  List.pairwise_iff_getElem.1 h j (j + 1) (by omega) hj (by omega)

theorem ofV_none {l : List D} {q : ByteArray} (h : ∀ d ∈ l, d.k ≠ q) : ofV l q = zero := by
  induction l with
  | nil => rfl
  | cons d l ih => rw [ofV, if_neg (h d (by simp))]; exact ih fun d' hd => h d' (by simp [hd])
theorem ofV_mem {l : List D} (hs : Sorted l) {d : D} (hd : d ∈ l) : ofV l d.k = d.i := by
  induction l with
  | nil => cases hd
  | cons x l ih =>
    rw [ofV]
    rcases List.mem_cons.1 hd with rfl | hd
    · rw [if_pos rfl]
    · have := List.rel_of_pairwise_cons hs hd
      rw [if_neg (kl_ne this)]
      exact ih (List.Pairwise.of_cons hs) hd
theorem ofV_cases (l : List D) (q : ByteArray) : (∃ d ∈ l, d.k = q ∧ ofV l q = d.i) ∨ ((∀ d ∈ l, d.k ≠ q) ∧ ofV l q = zero) := by
  induction l with
  | nil => exact .inr ⟨fun d hd => absurd hd (by simp), rfl⟩
  | cons x l ih =>
    rw [ofV]
    by_cases h : x.k = q
    · rw [if_pos h]; exact .inl ⟨x, by simp, h, rfl⟩
    · rw [if_neg h]
      rcases ih with ⟨d, hd, h1, h2⟩ | ⟨h1, h2⟩
      · exact .inl ⟨d, by simp [hd], h1, h2⟩
      · refine .inr ⟨fun d hd => ?_, h2⟩
        rcases List.mem_cons.1 hd with rfl | hd
        · exact h
        · exact h1 d hd
theorem ofV_right {l : List D} (hg : Good l) (q : ByteArray) : (ofV l q).right = true ∨ ofV l q = zero := by
  rcases ofV_cases l q with ⟨d, hd, _, h2⟩ | ⟨_, h2⟩
  · rw [h2]; exact .inl (hg d hd).2
  · exact .inr h2

theorem mem_put {l : List D} {q : ByteArray} {x : I} {d : D} (h : d ∈ putV l q x) : d ∈ l ∨ (d.k = q ∧ (d.i = x ∨ ∃ y ∈ l, y.k = q ∧ d.i = y.i.max x)) := by
  induction l with
  | nil =>
    rw [putV, List.mem_singleton] at h
    subst h
    exact .inr ⟨rfl, .inl rfl⟩
  | cons y l ih =>
    rw [putV] at h
    by_cases h1 : kl y.k q = true
    · rw [if_pos h1] at h
      rcases List.mem_cons.1 h with rfl | h
      · exact .inl (by simp)
      · rcases ih h with h | ⟨h2, h | ⟨z, hz, h3, h4⟩⟩
        · exact .inl (by simp [h])
        · exact .inr ⟨h2, .inl h⟩
        · exact .inr ⟨h2, .inr ⟨z, by simp [hz], h3, h4⟩⟩
    · rw [if_neg h1] at h
      by_cases h2 : y.k = q
      · rw [if_pos h2] at h
        rcases List.mem_cons.1 h with rfl | h
        · exact .inr ⟨rfl, .inr ⟨y, by simp, h2, rfl⟩⟩
        · exact .inl (by simp [h])
      · rw [if_neg h2] at h
        rcases List.mem_cons.1 h with rfl | h
        · exact .inr ⟨rfl, .inl rfl⟩
        · exact .inl h
theorem sorted_put {l : List D} (hs : Sorted l) (q : ByteArray) (x : I) : Sorted (putV l q x) := by
  induction l with
  | nil => exact List.pairwise_singleton _ _
  | cons y l ih =>
    have hs2 := List.Pairwise.of_cons hs
    have hy := fun {d : D} (hd : d ∈ l) => List.rel_of_pairwise_cons hs hd
    rw [putV]
    by_cases h1 : kl y.k q = true
    · rw [if_pos h1]
      refine List.pairwise_cons.2 ⟨fun d hd => ?_, ih hs2⟩
      rcases mem_put hd with h | ⟨h, _⟩
      · exact hy h
      · rw [h]; exact h1
    · rw [if_neg h1]
      by_cases h2 : y.k = q
      · rw [if_pos h2]
        refine List.pairwise_cons.2 ⟨fun d hd => ?_, hs2⟩
        rw [← h2]; exact hy hd
      · rw [if_neg h2]
        have h3 := kl_total h1 h2
        refine List.pairwise_cons.2 ⟨fun d hd => ?_, hs⟩
        rcases List.mem_cons.1 hd with rfl | hd
        · exact h3
        · exact kl_trans h3 (hy hd)
theorem good_put {l : List D} (hg : Good l) {q : ByteArray} {x : I} (hq : Key.keyB q = true) (hx : x.right = true) : Good (putV l q x) := by
  intro d hd
  rcases mem_put hd with h | ⟨h, h2 | ⟨y, hy, _, h4⟩⟩
  · exact hg d h
  · exact ⟨by rw [h]; exact hq, by rw [h2]; exact hx⟩
  · exact ⟨by rw [h]; exact hq, by rw [h4]; exact I.max_right (hg y hy).2 hx⟩
theorem ofV_put {l : List D} {x : I} (hs : Sorted l) (hx : x.right = true) (q r : ByteArray) : ofV (putV l q x) r = if r = q then (ofV l q).max x else ofV l r := by
  induction l with
  | nil =>
    rw [putV]
    simp only [ofV]
    by_cases h : r = q
    · subst h; rw [if_pos rfl, if_pos rfl, I.zero_max hx]
    · rw [if_neg (fun e => h e.symm), if_neg h]
  | cons y l ih =>
    have hs2 := List.Pairwise.of_cons hs
    rw [putV]
    by_cases h1 : kl y.k q = true
    · have hne := kl_ne h1
      rw [if_pos h1, ofV, ofV, ofV, if_neg hne]
      rw [ih hs2]
      by_cases h : r = q
      · subst h; rw [if_neg hne, if_pos rfl, if_pos rfl]
      · rw [if_neg h, if_neg h]
    · rw [if_neg h1]
      by_cases h2 : y.k = q
      · rw [if_pos h2]
        subst h2
        rw [ofV]
        by_cases h : r = y.k
        · subst h; rw [if_pos rfl, if_pos rfl, ofV, if_pos rfl]
        · rw [if_neg (fun e => h e.symm), if_neg h, ofV, if_neg (fun e => h e.symm)]
      · rw [if_neg h2]
        have h3 := kl_total h1 h2
        have hn : ofV (y :: l) q = zero := ofV_none fun d hd => by
          rcases List.mem_cons.1 hd with rfl | hd
          · exact h2
          · exact (kl_ne (kl_trans h3 (List.rel_of_pairwise_cons hs hd))).symm
        rw [ofV]
        by_cases h : r = q
        · subst h; rw [if_pos rfl, if_pos rfl, hn, I.zero_max hx]
        · rw [if_neg (fun e => h e.symm), if_neg h]

/-- Right deps are known by what they have at each key. -/
theorem ext {l m : List D} (hl : Sorted l) (hm : Sorted m) (gl : Good l) (gm : Good m) (h : ∀ q, ofV l q = ofV m q) : l = m := by
  induction l generalizing m with
  | nil =>
    cases m with
    | nil => rfl
    | cons y m =>
      have := h y.k
      rw [ofV, ofV, if_pos rfl] at this
      exact absurd this.symm (I.ne_zero (gm y (by simp)).2)
  | cons x l ih =>
    cases m with
    | nil =>
      have := h x.k
      rw [ofV, ofV, if_pos rfl] at this
      exact absurd this (I.ne_zero (gl x (by simp)).2)
    | cons y m =>
      have hk : x.k = y.k := by
        have h1 := h x.k
        have h2 := h y.k
        rw [ofV, if_pos rfl] at h1
        rw [ofV_mem hm (show y ∈ y :: m by simp)] at h2
        apply Classical.byContradiction
        intro hne
        by_cases a : kl x.k y.k = true
        · have : ofV (y :: m) x.k = zero := ofV_none fun d hd => by
            rcases List.mem_cons.1 hd with rfl | hd
            · exact fun e => hne e.symm
            · exact (kl_ne (kl_trans a (List.rel_of_pairwise_cons hm hd))).symm
          rw [this] at h1
          exact I.ne_zero (gl x (by simp)).2 h1
        · have a := kl_total a hne
          have : ofV (x :: l) y.k = zero := ofV_none fun d hd => by
            rcases List.mem_cons.1 hd with rfl | hd
            · exact hne
            · exact (kl_ne (kl_trans a (List.rel_of_pairwise_cons hl hd))).symm
          rw [this] at h2
          exact I.ne_zero (gm y (by simp)).2 h2.symm
      have hi : x.i = y.i := by
        have h1 := h x.k
        rw [ofV, if_pos rfl, ofV, if_pos hk.symm] at h1
        exact h1
      have hxy : x = y := by cases x; cases y; simp only at hk hi; subst hk hi; rfl
      subst hxy
      congr 1
      refine ih (List.Pairwise.of_cons hl) (List.Pairwise.of_cons hm) (fun d hd => gl d (by simp [hd])) (fun d hd => gm d (by simp [hd])) fun q => ?_
      by_cases e : x.k = q
      · subst e
        rw [ofV_none fun d hd => (kl_ne (List.rel_of_pairwise_cons hl hd)).symm, ofV_none fun d hd => (kl_ne (List.rel_of_pairwise_cons hm hd)).symm]
      · have := h q
        rw [ofV, ofV, if_neg e, if_neg e] at this
        exact this

theorem join_facts (b : List D) : ∀ a : List D, Sorted a → Good a → Sorted b → Good b → Sorted (joinV a b) ∧ Good (joinV a b) ∧ ∀ q, ofV (joinV a b) q = (ofV a q).max (ofV b q) := by
  induction b with
  | nil =>
    intro a sa ga _ _
    refine ⟨sa, ga, fun q => ?_⟩
    show ofV a q = (ofV a q).max zero
    rcases ofV_right ga q with h | h
    · rw [I.max_comm, I.zero_max h]
    · rw [h, I.max_idem]
  | cons x b ih =>
    intro a sa ga sb gb
    have gx := gb x (by simp)
    obtain ⟨h1, h2, h3⟩ := ih (putV a x.k x.i) (sorted_put sa _ _) (good_put ga gx.1 gx.2) (List.Pairwise.of_cons sb) (fun d hd => gb d (by simp [hd]))
    refine ⟨h1, h2, fun q => ?_⟩
    show ofV (joinV (putV a x.k x.i) b) q = _
    rw [h3, ofV_put sa gx.2, ofV]
    by_cases e : q = x.k
    · subst e
      rw [if_pos rfl, if_pos rfl, ofV_none fun d hd => (kl_ne (List.rel_of_pairwise_cons sb hd)).symm]
      rw [I.max_comm, I.zero_max]
      rcases ofV_right ga x.k with h | h
      · exact I.max_right h gx.2
      · rw [h, I.zero_max gx.2]; exact gx.2
    · rw [if_neg e, if_neg (fun e' => e e'.symm)]

theorem join_comm {a b : List D} (sa : Sorted a) (ga : Good a) (sb : Sorted b) (gb : Good b) : joinV b a = joinV a b := by
  obtain ⟨h1, h2, h3⟩ := join_facts b a sa ga sb gb
  obtain ⟨k1, k2, k3⟩ := join_facts a b sb gb sa ga
  exact ext k1 h1 k2 h2 fun q => by rw [h3, k3, I.max_comm]
theorem join_again {a b : List D} (sa : Sorted a) (ga : Good a) (sb : Sorted b) (gb : Good b) : joinV (joinV a b) a = joinV a b := by
  obtain ⟨h1, h2, h3⟩ := join_facts b a sa ga sb gb
  obtain ⟨k1, k2, k3⟩ := join_facts a _ h1 h2 sa ga
  exact ext k1 h1 k2 h2 fun q => by rw [k3, h3, I.max_again_left]
theorem put_again {l : List D} (sl : Sorted l) (gl : Good l) {q : ByteArray} {x : I} (hq : Key.keyB q = true) (hx : x.right = true) : putV (putV l q x) q x = putV l q x := by
  refine ext (sorted_put (sorted_put sl _ _) _ _) (sorted_put sl _ _) (good_put (good_put gl hq hx) hq hx) (good_put gl hq hx) fun r => ?_
  rw [ofV_put (sorted_put sl _ _) hx, ofV_put sl hx, ofV_put sl hx, if_pos rfl]
  by_cases e : r = q
  · rw [if_pos e, if_pos e, I.max_again_right]
  · rw [if_neg e, if_neg e]
theorem put_covers {l : List D} (sl : Sorted l) {q : ByteArray} {x : I} (hx : x.right = true) : ¬ (ofV (putV l q x) q).less x = true := by
  rw [ofV_put sl hx, if_pos rfl]; exact I.not_less_max_right _ _
theorem covers_iff (a b : List D) : coversB a b = true ↔ ∀ d ∈ b, ¬ (ofV a d.k).less d.i = true := by
  unfold coversB
  rw [List.all_eq_true]
  constructor
  · intro h d hd; have := h d hd; simpa using this
  · intro h d hd; have := h d hd; simpa using this
theorem covers_left {a b : List D} (sa : Sorted a) (ga : Good a) (sb : Sorted b) (gb : Good b) : coversB (joinV a b) a = true := by
  rw [covers_iff]
  intro d hd
  rw [(join_facts b a sa ga sb gb).2.2, ofV_mem sa hd]
  exact I.not_less_max_left _ _
theorem covers_right {a b : List D} (sa : Sorted a) (ga : Good a) (sb : Sorted b) (gb : Good b) : coversB (joinV a b) b = true := by
  rw [covers_iff]
  intro d hd
  rw [(join_facts b a sa ga sb gb).2.2, ofV_mem sb hd]
  exact I.not_less_max_right _ _
theorem not_less_zero {x : I} (h : x.right = true ∨ x = zero) : ¬ x.less zero = true := by
  rcases h with h | rfl
  · exact I.less_asymm (I.zero_less h)
  · exact I.less_irrefl _
theorem covers_of {a c : List D} (gc : Good c) (h : coversB c a = true) (q : ByteArray) : ¬ (ofV c q).less (ofV a q) = true := by
  rw [covers_iff] at h
  rcases ofV_cases a q with ⟨d, hd, hk, hv⟩ | ⟨_, hv⟩
  · rw [hv, ← hk]; exact h d hd
  · rw [hv]; exact not_less_zero (ofV_right gc q)
theorem covers_join {a b c : List D} (sa : Sorted a) (ga : Good a) (sb : Sorted b) (gb : Good b) (gc : Good c) (h1 : coversB c a = true) (h2 : coversB c b = true) : coversB c (joinV a b) = true := by
  obtain ⟨k1, k2, k3⟩ := join_facts b a sa ga sb gb
  rw [covers_iff]
  intro d hd
  rw [← ofV_mem k1 hd, k3]
  rcases I.max_cases (ofV a d.k) (ofV b d.k) with h | h <;> rw [h]
  · exact covers_of gc h1 _
  · exact covers_of gc h2 _

/-- The loop's way to put: what is less first, then the key, then what is left. -/
theorem put_at {l : List D} {q : ByteArray} (x : I) {k : Nat} (hk : k ≤ l.length) (h : ∀ j (hj : j < l.length), j < k → kl l[j].k q = true) (hn : ∀ hj : k < l.length, ¬ kl l[k].k q = true) :
    putV l q x = l.take k ++ (if h : k < l.length then (if l[k].k = q then ⟨q, l[k].i.max x⟩ :: l.drop (k + 1) else ⟨q, x⟩ :: l.drop k) else [⟨q, x⟩]) := by
  induction l generalizing k with
  | nil => cases k with
    | zero => rfl
    | succ k => exact absurd hk (by simp)
  | cons y l ih =>
    rw [putV]
    cases k with
    | zero =>
      have h1 := hn (by simp)
      simp only [List.getElem_cons_zero] at h1
      rw [if_neg h1]
      simp
    | succ k =>
      have h1 := h 0 (by simp) (by omega)
      simp only [List.getElem_cons_zero] at h1
      rw [if_pos h1, ih (k := k) (by simpa using hk) (fun j hj hjk => by have := h (j + 1) (by simpa using hj) (by omega); simpa using this) (fun hj => by have := hn (by simpa using hj); simpa using this)]
      simp
theorem length_put (l : List D) (q : ByteArray) (x : I) : (putV l q x).length ≤ l.length + 1 := by
  induction l with
  | nil => simp [putV]
  | cons y l ih =>
    rw [putV]
    split
    · simp; omega
    · split <;> simp
theorem length_join (b : List D) : ∀ a : List D, (joinV a b).length ≤ a.length + b.length := by
  induction b with
  | nil => intro a; exact Nat.le_refl _
  | cons x b ih =>
    intro a
    have := ih (putV a x.k x.i)
    have h2 := length_put a x.k x.i
    show (joinV (putV a x.k x.i) b).length ≤ _
    simp; omega
end Go.Proofs.Ythagkjofpfafiaa.Dep
