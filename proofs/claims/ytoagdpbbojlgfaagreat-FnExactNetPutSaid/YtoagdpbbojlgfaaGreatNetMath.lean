/-
  A net, as plain mathematics: when it is right; all stores, merged; the keys of all.
-/
import Derived.Test.YtoagdpbbojlgfaaGreatPackAll
import Derived.Test.YtoagdpbbojlgfaaGreatRowMath
import Derived.Test.YtoagdpbbojlgfaaGreatNetLies
namespace Go.Proofs.YtoagdpbbojlgfaaGreat.Dep
open Go.ChangeShapes Go.WideShapes Go.ChangeAt Go.RowKit
set_option linter.unusedVariables false
set_option maxRecDepth 100000
theorem chain_gen {L J : List D} (h1 : Sorted J) (h2 : Good J) (hkey : ∀ d ∈ J, ∃ x ∈ L, x.k = d.k) (hhas : ∀ x ∈ L, ∃ d ∈ J, d.k = x.k) : Chain L (J.map D.k) := by
  have hne : ∀ k ∈ J.map D.k, k ≠ ⟨#[]⟩ := by
    intro k hk e
    obtain ⟨d, hd, rfl⟩ := List.mem_map.1 hk
    have := (Key.ok_of (h2 d hd).1).1
    rw [e] at this
    have h0 : (⟨#[]⟩ : ByteArray).size = 0 := rfl
    omega
  refine ⟨fun i hi => ?_, hne, ?_⟩
  · rw [List.length_map] at hi
    obtain ⟨last, hlast⟩ : ∃ last, (if i = 0 then ⟨#[]⟩ else (J.map D.k).getD (i - 1) ⟨#[]⟩) = last := ⟨_, rfl⟩
    rw [hlast]
    -- what stands at i or beyond is above the last one; what stands ahead is not
    have above : ∀ j (hj : j < J.length), i ≤ j → kl last J[j].k = true := by
      intro j hj hij
      rw [← hlast]
      by_cases e : i = 0
      · rw [if_pos e]; exact kl_empty (h2 _ (List.getElem_mem hj)).1
      · rw [if_neg e, getD_map _ _ (by omega)]; exact sorted_lt h1 hj (by omega)
    have under : ∀ j (hj : j < J.length), j < i → kl last J[j].k = false := by
      intro j hj hij
      cases hc : kl last J[j].k
      · rfl
      · rw [← hlast, if_neg (by omega), getD_map _ _ (by omega)] at hc
        by_cases e : j = i - 1
        · subst e; exact absurd hc (kl_irrefl _)
        · exact absurd hc (kl_asymm (sorted_lt h1 (by omega) (by omega)))
    rcases above_spec last L with ⟨e, hn⟩ | ⟨⟨x, hx, hxe⟩, hl, hmin⟩
    · rw [e]
      by_cases hin : i < J.length
      · obtain ⟨y, hy, hye⟩ := hkey _ (List.getElem_mem hin)
        have := hn y hy
        rw [hye, above i hin (Nat.le_refl _)] at this
        cases this
      · rw [List.getD, List.getElem?_eq_none (by simp; omega)]; rfl
    · obtain ⟨d, hd, hdk⟩ := hhas _ hx
      obtain ⟨j, hj, rfl⟩ := List.getElem_of_mem hd
      rw [← hxe, ← hdk] at hl hmin ⊢
      by_cases hji : j < i
      · rw [under j hj hji] at hl; cases hl
      · have hin : i < J.length := by omega
        rw [getD_map _ _ hin]
        by_cases e : j = i
        · subst e; rfl
        · obtain ⟨y, hy, hye⟩ := hkey _ (List.getElem_mem hin)
          have := hmin y hy (by rw [hye]; exact above i hin (Nat.le_refl _))
          rw [hye, sorted_lt h1 hj (by omega)] at this
          cases this
  · rw [List.nodup_iff_pairwise_ne, List.pairwise_map]
    exact h1.imp fun h => kl_ne h

theorem short_keys4 {l : List D} (h : Good l) : ∃ ks : List K4, ks.map (·.1) = l.map D.k := by
  induction l with
  | nil => exact ⟨[], rfl⟩
  | cons d l ih =>
    obtain ⟨ks, hk⟩ := ih fun x hx => h x (by simp [hx])
    exact ⟨⟨d.k, (Key.ok_of (h d (by simp)).1).2.1⟩ :: ks, by simp [hk]⟩
end Go.Proofs.YtoagdpbbojlgfaaGreat.Dep
namespace Go.Proofs.YtoagdpbbojlgfaaGreat.Net
open Sto (R Sl mergeW findW Sorted Ok rowsB deps)
open Dep (kl)
set_option linter.unusedVariables false
set_option maxRecDepth 100000

def place (n : Nat) (i : Int) : Bool := Id.inB i 0 ((n : Int) - 1)
def way (n : Nat) (f t : Int) : Bool := place n f && place n t && !(f == t)
def mergeAll (L : List (List R)) : List R := L.foldl mergeW []
def allP (p : List (List R) × List Pm) : List (List R) := p.1 ++ p.2.map Pm.l
/-- A right net. -/
def OkN (p : List (List R) × List Pm) : Prop := (1 ≤ p.1.length ∧ p.1.length ≤ 4) ∧ p.2.length ≤ 40 ∧ (∀ y ∈ p.2, way p.1.length y.f y.t = true) ∧ (∀ l ∈ allP p, rowsB l = true) ∧ (mergeAll (allP p)).length ≤ 6
noncomputable def netB (p : List (List R) × List Pm) : Bool := @decide (OkN p) (Classical.propDecidable _)
theorem netB_true {p : List (List R) × List Pm} (h : OkN p) : netB p = true := by simp [netB, h]
theorem netB_false {p : List (List R) × List Pm} (h : ¬ OkN p) : netB p = false := by simp [netB, h]
theorem okN_of {p : List (List R) × List Pm} (h : netB p = true) : OkN p := by
  rcases Classical.em (OkN p) with h1 | h1
  · exact h1
  · rw [netB_false h1] at h; cases h

theorem mergeAll_snoc (L : List (List R)) (l : List R) : mergeAll (L ++ [l]) = mergeW (mergeAll L) l := by simp [mergeAll]
theorem snoc_ind {α : Type} {p : List α → Prop} (h0 : p []) (hs : ∀ l x, p l → p (l ++ [x])) (l : List α) : p l := by
  have : ∀ m : List α, p m.reverse := fun m => by
    induction m with
    | nil => exact h0
    | cons x m ih => rw [List.reverse_cons]; exact hs _ _ ih
  have h := this l.reverse
  rwa [List.reverse_reverse] at h
theorem mergeAll_len (L : List (List R)) (n : Nat) (h : ∀ l ∈ L, l.length ≤ n) : (mergeAll L).length ≤ n * L.length := by
  revert h
  refine snoc_ind (p := fun L => (∀ l ∈ L, l.length ≤ n) → (mergeAll L).length ≤ n * L.length) (fun _ => by simp [mergeAll]) (fun L l ih h => ?_) L
  rw [mergeAll_snoc]
  have h1 := Sto.merge_len l (mergeAll L)
  have h2 := ih fun x hx => h x (List.mem_append_left _ hx)
  have h3 := h l (List.mem_append_right _ (List.mem_singleton.2 rfl))
  rw [List.length_append, List.length_singleton, Nat.mul_add, Nat.mul_one]
  omega
theorem find_some {l : List R} {q : ByteArray} : (findW l q).isSome = true ↔ ∃ r ∈ l, r.k = q := by
  constructor
  · intro h
    obtain ⟨r, hr⟩ := Option.isSome_iff_exists.1 h
    exact ⟨r, Sto.findW_some hr⟩
  · rintro ⟨r, hr, rfl⟩
    cases h : findW l r.k with
    | none => exact absurd rfl (Sto.findW_not h r hr)
    | some x => rfl
theorem both_some (x y : Option R) : (Sto.both x y).isSome = true ↔ x.isSome = true ∨ y.isSome = true := by
  cases y <;> simp [Sto.both]
theorem mergeAll_facts (L : List (List R)) (h : ∀ l ∈ L, Ok l) : Sorted (mergeAll L) ∧ Sto.Good (mergeAll L) ∧ ∀ q, (∃ r ∈ mergeAll L, r.k = q) ↔ ∃ l ∈ L, ∃ r ∈ l, r.k = q := by
  revert h
  refine snoc_ind (p := fun L => (∀ l ∈ L, Ok l) → Sorted (mergeAll L) ∧ Sto.Good (mergeAll L) ∧ ∀ q, (∃ r ∈ mergeAll L, r.k = q) ↔ ∃ l ∈ L, ∃ r ∈ l, r.k = q) (fun _ => ⟨List.Pairwise.nil, fun r hr => absurd hr (by simp [mergeAll]), fun q => by simp [mergeAll]⟩) (fun L l ih h => ?_) L
  obtain ⟨i1, i2, i3⟩ := ih fun x hx => h x (List.mem_append_left _ hx)
  have hl := h l (List.mem_append_right _ (List.mem_singleton.2 rfl))
  rw [mergeAll_snoc]
  obtain ⟨m1, m2⟩ := Sto.merge_facts l (mergeAll L) i1 hl.2.2
  refine ⟨m1, Sto.good_merge i2 hl.2.1, fun q => ?_⟩
  rw [← find_some, m2, both_some, find_some, find_some, i3]
  constructor
  · rintro (⟨x, hx, hr⟩ | hr)
    · exact ⟨x, List.mem_append_left _ hx, hr⟩
    · exact ⟨l, List.mem_append_right _ (List.mem_singleton.2 rfl), hr⟩
  · rintro ⟨x, hx, hr⟩
    rcases List.mem_append.1 hx with hx | hx
    · exact .inl ⟨x, hx, hr⟩
    · obtain rfl : x = l := by simpa using hx
      exact .inr hr
/-- The keys of all, one above the other, are those of all merged. -/
theorem keys_all (L : List (List R)) (h : ∀ l ∈ L, rowsB l = true) : ∃ ks : List Dep.K4, Dep.Chain (L.flatMap deps) (ks.map (·.1)) ∧ ks.length = (mergeAll L).length := by
  obtain ⟨h1, h2, h3⟩ := mergeAll_facts L fun l hl => Sto.ok_of (h l hl)
  have g2 : Dep.Good (deps (mergeAll L)) := fun d hd => by
    obtain ⟨r, hr, rfl⟩ := List.mem_map.1 hd
    have := (Sto.rowB_iff r).1 (h2 r hr)
    exact ⟨this.1, this.2.1⟩
  obtain ⟨ks, hks⟩ := Dep.short_keys4 g2
  refine ⟨ks, ?_, ?_⟩
  · rw [hks]
    refine Dep.chain_gen (Sto.sorted_deps.2 h1) g2 (fun d hd => ?_) (fun x hx => ?_)
    · obtain ⟨r, hr, rfl⟩ := List.mem_map.1 hd
      obtain ⟨l, hl, y, hy, hk⟩ := (h3 r.k).1 ⟨r, hr, rfl⟩
      exact ⟨y.d, List.mem_flatMap.2 ⟨l, hl, List.mem_map.2 ⟨y, hy, rfl⟩⟩, hk⟩
    · obtain ⟨l, hl, hx⟩ := List.mem_flatMap.1 hx
      obtain ⟨y, hy, rfl⟩ := List.mem_map.1 hx
      obtain ⟨r, hr, hk⟩ := (h3 y.k).2 ⟨l, hl, y, hy, rfl⟩
      exact ⟨r.d, List.mem_map.2 ⟨r, hr, rfl⟩, hk⟩
  · have := congrArg List.length hks
    rw [List.length_map, List.length_map, Sto.deps_len] at this
    exact this
end Go.Proofs.YtoagdpbbojlgfaaGreat.Net
