/-
  Several texts in one: Id, Key, DepMath, IdLess, IdTo, DepOf, DepTo, DepToS, Blk, Cells, DepSz, DepApp, DepIOf, KeyI.
-/
import Derived.Test.YtegnjbdgeibhfaaRows
import Derived.WalkKit
import Derived.ProofKit
import Derived.OpenShut
import Derived.ShutString
import Derived.Lib.Hide
import Derived.StillTailTactics
import Derived.Sort.Walk0
import Derived.Below
import Derived.Deep.Draws
import Derived.Laws.MakeOwn
import Derived.Laws.Entries
import Derived.Deep.RegionHeld3
import Derived.Lib.SlBuf
import Derived.Laws.AppendOwn
import Derived.Maps.AppendAt
/-
  Ids: IdRight, IdLess and MaxId of the program and of the given model answer the same, at every three int64.
-/
namespace Go.Proofs.Ytegnjbdgeibhfaa.Id
open Go.ChangeShapes Go.WideShapes Go.ChangeAt Go.RowKit
set_option linter.unusedVariables false
set_option maxRecDepth 100000

def inB (n l m : Int) : Bool := decide (l ≤ n ∧ n ≤ m)
def rightB (c s e : Int) : Bool := inB c 1 1000000 && inB s 1 3 && inB e 0 99
def cmpV (x y : Int) : Int := if x < y then -1 else if y < x then 1 else 0
def lessB (c s e c' s' e' : Int) : Bool := decide (c < c' ∨ (c = c' ∧ (s < s' ∨ (s = s' ∧ e < e'))))
/-- An Id by value. -/
def idV (c s e : Int) : Value := .agg #[.int .i64 c, .int .i64 s, .int .i64 e]

theorem within_any (n l m : Int) (w : World) :
    Calls Try.prog 23 #[.int .i64 n, .int .i64 l, .int .i64 m] w fun e w' => e = .returned (.bool (inB n l m)) ∧ w = w' := by
  by_cases a : l ≤ n
  · by_cases b : n ≤ m
    · go_enter Try.func23, Try.ntmps23
      go_wp2
      go_ret
      exact ⟨by simp [inB, a, b], rfl⟩
    · go_enter Try.func23, Try.ntmps23
      go_wp2
      go_ret
      exact ⟨by simp [inB, a, b], rfl⟩
  · go_enter Try.func23, Try.ntmps23
    go_wp2
    go_ret
    exact ⟨by simp [inB]; omega, rfl⟩

theorem is_any (n l m : Int) (w : World) :
    Calls Try.prog 21 #[.int .i64 n, .int .i64 l, .int .i64 m] w fun e w' => e = .returned (.bool (inB n l m)) ∧ w = w' := by
  by_cases a : l ≤ n
  · by_cases b : n ≤ m
    · go_enter Try.func21, Try.ntmps21
      go_wp2
      go_ret
      exact ⟨by simp [inB, a, b], rfl⟩
    · go_enter Try.func21, Try.ntmps21
      go_wp2
      go_ret
      exact ⟨by simp [inB, a, b], rfl⟩
  · go_enter Try.func21, Try.ntmps21
    go_wp2
    go_ret
    exact ⟨by simp [inB]; omega, rfl⟩

theorem implRight_any (c s e : Int) (w : World) :
    Calls Try.prog 87 #[idV c s e] w fun x w' => x = .returned (.bool (rightB c s e)) ∧ Below w.heap.size w w' := by
  unfold idV
  cases h1 : inB c 1 1000000
  · go_enter Try.func87, Try.ntmps87
    go_wp2_with (go_at_call 23; refine (within_any _ _ _ _).mono ?_; rintro e w1 ⟨rfl, rfl⟩)
    go_ret
    exact ⟨by simp [rightB, h1], ((Below.refl _ _).alloc (Nat.le_refl _) _)⟩
  · cases h2 : inB s 1 3
    · go_enter Try.func87, Try.ntmps87
      go_wp2_with (go_at_call 23; refine (within_any _ _ _ _).mono ?_; rintro e w1 ⟨rfl, rfl⟩)
      go_ret
      exact ⟨by simp [rightB, h1, h2], ((Below.refl _ _).alloc (Nat.le_refl _) _)⟩
    · go_enter Try.func87, Try.ntmps87
      go_wp2_with (go_at_call 23; refine (within_any _ _ _ _).mono ?_; rintro e w1 ⟨rfl, rfl⟩)
      go_ret
      exact ⟨by simp [rightB, h1, h2], ((Below.refl _ _).alloc (Nat.le_refl _) _)⟩

theorem specRight_any (c s e : Int) (w : World) :
    Calls Try.prog 80 #[idV c s e] w fun x w' => x = .returned (.bool (rightB c s e)) ∧ Below w.heap.size w w' := by
  unfold idV
  cases h1 : inB c 1 1000000
  · go_enter Try.func80, Try.ntmps80
    go_wp2_with (go_at_call 21; refine (is_any _ _ _ _).mono ?_; rintro e w1 ⟨rfl, rfl⟩)
    go_ret
    exact ⟨by simp [rightB, h1], ((Below.refl _ _).alloc (Nat.le_refl _) _)⟩
  · cases h2 : inB s 1 3
    · go_enter Try.func80, Try.ntmps80
      go_wp2_with (go_at_call 21; refine (is_any _ _ _ _).mono ?_; rintro e w1 ⟨rfl, rfl⟩)
      go_ret
      exact ⟨by simp [rightB, h1, h2], ((Below.refl _ _).alloc (Nat.le_refl _) _)⟩
    · go_enter Try.func80, Try.ntmps80
      go_wp2_with (go_at_call 21; refine (is_any _ _ _ _).mono ?_; rintro e w1 ⟨rfl, rfl⟩)
      go_ret
      exact ⟨by simp [rightB, h1, h2], ((Below.refl _ _).alloc (Nat.le_refl _) _)⟩

theorem isNaN_any (x : Int) (w : World) : Calls Try.prog 113 #[.int .i64 x] w fun e w' => e = .returned (.bool false) ∧ w = w' := by
  go_enter Try.func113, Try.ntmps113
  go_wp2
  go_ret
  exact ⟨by simp, rfl⟩

theorem compare_any (x y : Int) (w : World) : Calls Try.prog 108 #[.int .i64 x, .int .i64 y] w fun e w' => e = .returned (.int .i64 (cmpV x y)) ∧ w = w' := by
  by_cases a : x < y
  · go_enter Try.func108, Try.ntmps108
    go_wp2_with (go_at_call 113; refine (isNaN_any _ _).mono ?_; rintro e w1 ⟨rfl, rfl⟩)
    go_ret
    exact ⟨by simp [cmpV, a], rfl⟩
  · by_cases b : y < x
    · go_enter Try.func108, Try.ntmps108
      go_wp2_with (go_at_call 113; refine (isNaN_any _ _).mono ?_; rintro e w1 ⟨rfl, rfl⟩)
      go_ret
      exact ⟨by rw [show cmpV x y = 1 by unfold cmpV; rw [if_neg (by omega), if_pos (by omega)]]; rfl, rfl⟩
    · go_enter Try.func108, Try.ntmps108
      go_wp2_with (go_at_call 113; refine (isNaN_any _ _).mono ?_; rintro e w1 ⟨rfl, rfl⟩)
      go_ret
      exact ⟨by rw [show cmpV x y = 0 by unfold cmpV; rw [if_neg (by omega), if_neg (by omega)]]; rfl, rfl⟩

/-- The first of three that is not 0. -/
def orV (x y z : Int) : Int := if x ≠ 0 then x else if y ≠ 0 then y else z
def at3 (x y z : Int) : Nat → Int
  | 0 => x
  | 1 => y
  | _ => z

theorem or_any (x y z : Int) (b : Nat) (w : World) (hc : ∀ k < 3, w.cell? ⟨b, k, none⟩ = some (.int .i64 (at3 x y z k))) :
    Calls Try.prog 107 #[.slice (some ⟨b, 0, none⟩) 3 3] w fun e w' => e = .returned (.int .i64 (orV x y z)) ∧ w = w' := by
  have HC := Lib.hid hc
  clear hc
  go_enter Try.func107, Try.ntmps107
  go_wp2_with fail
  go_loop [8] (fun i => ∃ k : Nat, k ≤ 3 ∧ i = .int .i64 k ∧ ∀ j < k, at3 x y z j = 0) (fun i => 3 - (intOf i).toNat)
  case atStart => exact ⟨0, by omega, rfl, fun j hj => by omega⟩
  case round =>
    obtain ⟨k, hk, rfl, h0⟩ := hrel
    have H0 := Lib.hid h0
    clear h0
    by_cases hlt : k < 3
    · have hcell := HC.out k hlt
      have hk3 : (k : Int) < 3 := by omega
      have HE : Hid (at3 x y z k = at3 x y z k) := Lib.hid rfl
      generalize hv : at3 x y z k = v at hcell
      have HV := Lib.hid hv
      clear hv
      by_cases hz : v = 0
      · subst hz
        go_wp2
        go_round
        case rel => exact ⟨k + 1, by omega, by go_num, fun j hj => by rcases Nat.lt_succ_iff_lt_or_eq.1 hj with h | h; exact H0.out j h; subst h; exact HV.out⟩
        case measure => simp [intOf]; omega
      · have hz2 : (v == 0) = false := beq_eq_false_iff_ne.2 hz
        go_wp2
        go_ret
        refine ⟨?_, rfl⟩
        have e := HV.out
        have e0 := H0.out
        have : v = orV x y z := by
          rw [← e]
          unfold orV
          rcases (show k = 0 ∨ k = 1 ∨ k = 2 by omega) with rfl | rfl | rfl
          · simp only [at3] at e ⊢; rw [if_pos (by omega)]
          · have := e0 0 (by omega); simp only [at3] at e this ⊢; rw [if_neg (by omega), if_pos (by omega)]
          · have := e0 0 (by omega); have := e0 1 (by omega); simp only [at3] at *; rw [if_neg (by omega), if_neg (by omega)]
        rw [this]; rfl
    · obtain rfl : k = 3 := by omega
      go_wp2
      go_ret
      refine ⟨?_, rfl⟩
      have e0 := H0.out
      have h1 := e0 0 (by omega); have h2 := e0 1 (by omega); have h3 := e0 2 (by omega)
      simp only [at3] at h1 h2 h3
      simp [orV, h1, h2, h3]
end Go.Proofs.Ytegnjbdgeibhfaa.Id

/-
  A right key: spec.KeyRight answers whether a string has one to four bytes, each a small letter.
-/
namespace Go.Proofs.Ytegnjbdgeibhfaa.Key
open Go.ChangeShapes Go.WideShapes Go.ChangeAt Go.RowKit
set_option linter.unusedVariables false
set_option maxRecDepth 100000

def letB (c : Int) : Bool := decide (97 ≤ c ∧ c ≤ 122)
def KeyOk (s : ByteArray) : Prop := 1 ≤ s.size ∧ s.size ≤ 4 ∧ ∀ k (h : k < s.size), letB s[k].toNat = true
noncomputable def keyB (s : ByteArray) : Bool := @decide (KeyOk s) (Classical.propDecidable _)
theorem keyB_true {s : ByteArray} (h : KeyOk s) : keyB s = true := by simp [keyB, h]
theorem keyB_false {s : ByteArray} (h : ¬ KeyOk s) : keyB s = false := by simp [keyB, h]
theorem ok_of {s : ByteArray} (h : keyB s = true) : KeyOk s := by
  rcases Classical.em (KeyOk s) with h1 | h1
  · exact h1
  · rw [keyB_false h1] at h; cases h
theorem ret_bool {a b : Bool} (h : a = b) : Ending.returned (.bool a) = .returned (.bool b) := by rw [h]
theorem byte_le (b : UInt8) : (b.toNat : Int) ≤ 255 := by have := b.toNat_lt; omega

theorem specKey_any (s : ByteArray) (w : World) (hs : s.size ≤ maxLen) :
    Calls Try.prog 79 #[.string s] w fun e w' => e = .returned (.bool (keyB s)) ∧ w = w' := by
  unfold maxLen at hs
  go_enter Try.func79, Try.ntmps79
  go_wp2_with fail
  go_loop [3] (fun i => ∃ k : Nat, k ≤ s.size ∧ i = .int .i64 k ∧ Hid (∀ j (h : j < s.size), j < k → letB s[j].toNat = true)) (fun i => s.size - (intOf i).toNat)
  case atStart => exact ⟨0, by omega, rfl, Lib.hid fun j h hj => absurd hj (by omega)⟩
  case round =>
    obtain ⟨k, hk, rfl, HJ⟩ := hrel
    by_cases hlt : k < s.size
    · have hbk := byte_le s[k]
      by_cases a1 : 97 ≤ (s[k].toNat : Int)
      · by_cases a2 : (s[k].toNat : Int) ≤ 122
        · have HL : Hid (letB s[k].toNat = true) := by exact Lib.hid (by simp [letB]; omega)
          go_wp2
          go_round
          case rel => exact ⟨k + 1, by omega, by go_num, Lib.hid fun j h hj => by
            by_cases e : j = k
            · subst e; exact HL.out
            · exact HJ.out j h (by omega)⟩
          case measure => simp [intOf]; omega
        · have HL : Hid (letB s[k].toNat = false) := by exact Lib.hid (by simp only [letB, decide_eq_false_iff_not]; omega)
          go_wp2
          go_ret
          exact ⟨ret_bool (keyB_false fun h => by have := h.2.2 k hlt; rw [HL.out] at this; cases this).symm, rfl⟩
      · have HL : Hid (letB s[k].toNat = false) := by exact Lib.hid (by simp only [letB, decide_eq_false_iff_not]; omega)
        go_wp2
        go_ret
        exact ⟨ret_bool (keyB_false fun h => by have := h.2.2 k hlt; rw [HL.out] at this; cases this).symm, rfl⟩
    · by_cases b1 : 1 ≤ s.size
      · by_cases b2 : s.size ≤ 4
        · go_wp2
          go_ret
          refine ⟨ret_bool (Eq.trans ?_ (keyB_true ⟨by omega, by omega, fun j h => HJ.out j h (by omega)⟩).symm), rfl⟩
          exact decide_eq_true (by omega)
        · go_wp2
          go_ret
          refine ⟨ret_bool (Eq.trans ?_ (keyB_false fun h => b2 h.2.1).symm), rfl⟩
          exact decide_eq_false (by omega)
      · go_wp2
        go_ret
        exact ⟨ret_bool (keyB_false fun h => b1 h.1).symm, rfl⟩
end Go.Proofs.Ytegnjbdgeibhfaa.Key

/-
  What one has seen, as plain mathematics: a dep is a key and an Id; deps are lists; put, join, covers, and how they go together. No program is spoken of.
-/
namespace Go.Proofs.Ytegnjbdgeibhfaa.Dep
set_option linter.unusedVariables false
set_option maxRecDepth 100000

/-- An Id. -/
structure I where
  c : Int
  s : Int
  e : Int
deriving DecidableEq
/-- A dep. -/
structure D where
  k : ByteArray
  i : I

def zero : I := ⟨0, 0, 0⟩
def I.right (x : I) : Bool := Id.rightB x.c x.s x.e
def I.less (x y : I) : Bool := Id.lessB x.c x.s x.e y.c y.s y.e
def I.max (x y : I) : I := if x.less y = true then y else x

theorem I.less_iff (x y : I) : x.less y = true ↔ (x.c < y.c ∨ (x.c = y.c ∧ (x.s < y.s ∨ (x.s = y.s ∧ x.e < y.e)))) := by
  unfold I.less Id.lessB
  rw [decide_eq_true_iff]
theorem I.ext_ {x y : I} (h1 : x.c = y.c) (h2 : x.s = y.s) (h3 : x.e = y.e) : x = y := by
  cases x; cases y; simp only at h1 h2 h3; subst h1 h2 h3; rfl
theorem I.less_irrefl (x : I) : ¬ x.less x = true := by rw [I.less_iff]; omega
theorem I.less_trans {x y z : I} (h1 : x.less y = true) (h2 : y.less z = true) : x.less z = true := by
  rw [I.less_iff] at *; omega
theorem I.less_asymm {x y : I} (h1 : x.less y = true) : ¬ y.less x = true := by
  rw [I.less_iff] at *; omega
theorem I.eq_of_not {x y : I} (h1 : ¬ x.less y = true) (h2 : ¬ y.less x = true) : x = y := by
  rw [I.less_iff] at *; exact I.ext_ (by omega) (by omega) (by omega)
theorem I.max_comm (x y : I) : x.max y = y.max x := by
  unfold I.max
  by_cases h : x.less y = true
  · rw [if_pos h, if_neg (I.less_asymm h)]
  · rw [if_neg h]
    by_cases h2 : y.less x = true
    · rw [if_pos h2]
    · rw [if_neg h2]; exact I.eq_of_not h h2
theorem I.max_cases (x y : I) : x.max y = x ∨ x.max y = y := by
  unfold I.max
  by_cases h : x.less y = true
  · rw [if_pos h]; exact .inr rfl
  · rw [if_neg h]; exact .inl rfl
theorem I.not_less_max_left (x y : I) : ¬ (x.max y).less x = true := by
  unfold I.max
  by_cases h : x.less y = true
  · rw [if_pos h]; exact I.less_asymm h
  · rw [if_neg h]; exact I.less_irrefl x
theorem I.not_less_max_right (x y : I) : ¬ (x.max y).less y = true := by
  rw [I.max_comm]; exact I.not_less_max_left y x
theorem I.max_of_not {x y : I} (h : ¬ x.less y = true) : x.max y = x := by unfold I.max; rw [if_neg h]
theorem I.max_idem (x : I) : x.max x = x := I.max_of_not (I.less_irrefl x)
theorem I.max_again_right (x y : I) : (x.max y).max y = x.max y := I.max_of_not (I.not_less_max_right x y)
theorem I.max_again_left (x y : I) : (x.max y).max x = x.max y := I.max_of_not (I.not_less_max_left x y)
theorem I.right_iff (x : I) : x.right = true ↔ (1 ≤ x.c ∧ x.c ≤ 1000000) ∧ (1 ≤ x.s ∧ x.s ≤ 3) ∧ (0 ≤ x.e ∧ x.e ≤ 99) := by
  unfold I.right Id.rightB Id.inB
  rw [Bool.and_eq_true, Bool.and_eq_true, decide_eq_true_iff, decide_eq_true_iff, decide_eq_true_iff]
  constructor
  · rintro ⟨⟨a, b⟩, c⟩; exact ⟨a, b, c⟩
  · rintro ⟨a, b, c⟩; exact ⟨⟨a, b⟩, c⟩
theorem I.zero_less {x : I} (h : x.right = true) : zero.less x = true := by
  rw [I.right_iff] at h; rw [I.less_iff]; simp only [zero]; omega
theorem I.ne_zero {x : I} (h : x.right = true) : x ≠ zero := by
  rintro rfl; exact I.less_irrefl _ (I.zero_less h)
theorem I.zero_max {x : I} (h : x.right = true) : zero.max x = x := by unfold I.max; rw [if_pos (I.zero_less h)]
theorem I.max_right {x y : I} (h1 : x.right = true) (h2 : y.right = true) : (x.max y).right = true := by
  rcases I.max_cases x y with h | h <;> rw [h] <;> assumption

/-- Keys in their order. -/
def kl (a b : ByteArray) : Bool := Op.bytesLess a.toList b.toList
theorem kl_iff (a b : ByteArray) : kl a b = true ↔ a.data.toList < b.data.toList := by
  unfold kl; rw [bytesLess_eq, ByteArray.toList_eq, ByteArray.toList_eq, decide_eq_true_iff]
theorem list_eq {a b : ByteArray} (h : a.data.toList = b.data.toList) : a = b := by
  cases a; cases b; simp only at h; congr 1; exact Array.toList_inj.1 h
theorem kl_irrefl (a : ByteArray) : ¬ kl a a = true := by rw [kl_iff]; exact List.lt_irrefl _
theorem kl_trans {a b c : ByteArray} (h1 : kl a b = true) (h2 : kl b c = true) : kl a c = true := by
  rw [kl_iff] at *; exact List.lt_trans h1 h2
theorem kl_asymm {a b : ByteArray} (h1 : kl a b = true) : ¬ kl b a = true := fun h2 => kl_irrefl a (kl_trans h1 h2)
theorem kl_total {a b : ByteArray} (h1 : ¬ kl a b = true) (h2 : ¬ a = b) : kl b a = true := by
  rw [kl_iff] at *
  rcases Classical.em (b.data.toList < a.data.toList) with h | h
  · exact h
  · exact absurd (list_eq (List.le_antisymm h h1)) h2
theorem kl_ne {a b : ByteArray} (h : kl a b = true) : a ≠ b := by rintro rfl; exact kl_irrefl a h

/-- The Id at a key, or none: zero. -/
def ofV : List D → ByteArray → I
  | [], _ => zero
  | d :: l, q => if d.k = q then d.i else ofV l q
/-- A key up to an Id. -/
def putV : List D → ByteArray → I → List D
  | [], q, x => [⟨q, x⟩]
  | d :: l, q, x => if kl d.k q = true then d :: putV l q x else if d.k = q then ⟨q, d.i.max x⟩ :: l else ⟨q, x⟩ :: d :: l
def joinV (a b : List D) : List D := b.foldl (fun o d => putV o d.k d.i) a
def coversB (a b : List D) : Bool := b.all fun d => !(ofV a d.k).less d.i
def clockV (l : List D) : Int := l.foldl (fun n d => if n > d.i.c then n else d.i.c) 0

def Sorted (l : List D) : Prop := l.Pairwise fun x y => kl x.k y.k = true
def Good (l : List D) : Prop := ∀ d ∈ l, Key.keyB d.k = true ∧ d.i.right = true
/-- Right deps. -/
def Ok (l : List D) : Prop := l.length ≤ 6 ∧ Good l ∧ Sorted l
noncomputable def depsB (l : List D) : Bool := @decide (Ok l) (Classical.propDecidable _)
theorem depsB_true {l : List D} (h : Ok l) : depsB l = true := by simp [depsB, h]
theorem depsB_false {l : List D} (h : ¬ Ok l) : depsB l = false := by simp [depsB, h]
theorem ok_of {l : List D} (h : depsB l = true) : Ok l := by
  rcases Classical.em (Ok l) with h1 | h1
  · exact h1
  · rw [depsB_false h1] at h; cases h

/-- What a walk finds out one after another. -/
theorem sorted_of {l : List D} (h : ∀ j (hj : j + 1 < l.length), kl l[j].k l[j + 1].k = true) : Sorted l := by
  unfold Sorted
  rw [List.pairwise_iff_getElem]
  have key : ∀ d i (hi : i + (d + 1) < l.length), kl (l[i]'(by omega)).k (l[i + (d + 1)]'hi).k = true := by
    intro d
    induction d with
    | zero => exact fun i hi => h i hi
    | succ d ih => exact fun i hi => kl_trans (ih i (by omega)) (h (i + (d + 1)) hi)
  intro i j hi hj hij
  have := key (j - i - 1) i (by omega)
  simpa [show i + (j - i - 1 + 1) = j by omega] using this
theorem sorted_at {l : List D} (h : Sorted l) {j : Nat} (hj : j + 1 < l.length) : kl l[j].k l[j + 1].k = true :=
  List.pairwise_iff_getElem.1 h j (j + 1) (by omega) hj (by omega)

theorem ofV_none {l : List D} {q : ByteArray} (h : ∀ d ∈ l, d.k ≠ q) : ofV l q = zero := by
  induction l with
  | nil => rfl
  | cons d l ih => rw [ofV, if_neg (h d (by simp))]; exact ih fun d' hd => h d' (by simp [hd])
theorem ofV_mem {l : List D} (hs : Sorted l) {d : D} (hd : d ∈ l) : ofV l d.k = d.i := by
  induction l with
  | nil => cases hd
  | cons x l ih =>
    rw [ofV]
    rcases List.mem_cons.1 hd with rfl | hd
    · rw [if_pos rfl]
    · have := List.rel_of_pairwise_cons hs hd
      rw [if_neg (kl_ne this)]
      exact ih (List.Pairwise.of_cons hs) hd
theorem ofV_cases (l : List D) (q : ByteArray) : (∃ d ∈ l, d.k = q ∧ ofV l q = d.i) ∨ ((∀ d ∈ l, d.k ≠ q) ∧ ofV l q = zero) := by
  induction l with
  | nil => exact .inr ⟨fun d hd => absurd hd (by simp), rfl⟩
  | cons x l ih =>
    rw [ofV]
    by_cases h : x.k = q
    · rw [if_pos h]; exact .inl ⟨x, by simp, h, rfl⟩
    · rw [if_neg h]
      rcases ih with ⟨d, hd, h1, h2⟩ | ⟨h1, h2⟩
      · exact .inl ⟨d, by simp [hd], h1, h2⟩
      · refine .inr ⟨fun d hd => ?_, h2⟩
        rcases List.mem_cons.1 hd with rfl | hd
        · exact h
        · exact h1 d hd
theorem ofV_right {l : List D} (hg : Good l) (q : ByteArray) : (ofV l q).right = true ∨ ofV l q = zero := by
  rcases ofV_cases l q with ⟨d, hd, _, h2⟩ | ⟨_, h2⟩
  · rw [h2]; exact .inl (hg d hd).2
  · exact .inr h2

theorem mem_put {l : List D} {q : ByteArray} {x : I} {d : D} (h : d ∈ putV l q x) : d ∈ l ∨ (d.k = q ∧ (d.i = x ∨ ∃ y ∈ l, y.k = q ∧ d.i = y.i.max x)) := by
  induction l with
  | nil =>
    rw [putV, List.mem_singleton] at h
    subst h
    exact .inr ⟨rfl, .inl rfl⟩
  | cons y l ih =>
    rw [putV] at h
    by_cases h1 : kl y.k q = true
    · rw [if_pos h1] at h
      rcases List.mem_cons.1 h with rfl | h
      · exact .inl (by simp)
      · rcases ih h with h | ⟨h2, h | ⟨z, hz, h3, h4⟩⟩
        · exact .inl (by simp [h])
        · exact .inr ⟨h2, .inl h⟩
        · exact .inr ⟨h2, .inr ⟨z, by simp [hz], h3, h4⟩⟩
    · rw [if_neg h1] at h
      by_cases h2 : y.k = q
      · rw [if_pos h2] at h
        rcases List.mem_cons.1 h with rfl | h
        · exact .inr ⟨rfl, .inr ⟨y, by simp, h2, rfl⟩⟩
        · exact .inl (by simp [h])
      · rw [if_neg h2] at h
        rcases List.mem_cons.1 h with rfl | h
        · exact .inr ⟨rfl, .inl rfl⟩
        · exact .inl h
theorem sorted_put {l : List D} (hs : Sorted l) (q : ByteArray) (x : I) : Sorted (putV l q x) := by
  induction l with
  | nil => exact List.pairwise_singleton _ _
  | cons y l ih =>
    have hs2 := List.Pairwise.of_cons hs
    have hy := fun {d : D} (hd : d ∈ l) => List.rel_of_pairwise_cons hs hd
    rw [putV]
    by_cases h1 : kl y.k q = true
    · rw [if_pos h1]
      refine List.pairwise_cons.2 ⟨fun d hd => ?_, ih hs2⟩
      rcases mem_put hd with h | ⟨h, _⟩
      · exact hy h
      · rw [h]; exact h1
    · rw [if_neg h1]
      by_cases h2 : y.k = q
      · rw [if_pos h2]
        refine List.pairwise_cons.2 ⟨fun d hd => ?_, hs2⟩
        rw [← h2]; exact hy hd
      · rw [if_neg h2]
        have h3 := kl_total h1 h2
        refine List.pairwise_cons.2 ⟨fun d hd => ?_, hs⟩
        rcases List.mem_cons.1 hd with rfl | hd
        · exact h3
        · exact kl_trans h3 (hy hd)
theorem good_put {l : List D} (hg : Good l) {q : ByteArray} {x : I} (hq : Key.keyB q = true) (hx : x.right = true) : Good (putV l q x) := by
  intro d hd
  rcases mem_put hd with h | ⟨h, h2 | ⟨y, hy, _, h4⟩⟩
  · exact hg d h
  · exact ⟨by rw [h]; exact hq, by rw [h2]; exact hx⟩
  · exact ⟨by rw [h]; exact hq, by rw [h4]; exact I.max_right (hg y hy).2 hx⟩
theorem ofV_put {l : List D} {x : I} (hs : Sorted l) (hx : x.right = true) (q r : ByteArray) : ofV (putV l q x) r = if r = q then (ofV l q).max x else ofV l r := by
  induction l with
  | nil =>
    rw [putV]
    simp only [ofV]
    by_cases h : r = q
    · subst h; rw [if_pos rfl, if_pos rfl, I.zero_max hx]
    · rw [if_neg (fun e => h e.symm), if_neg h]
  | cons y l ih =>
    have hs2 := List.Pairwise.of_cons hs
    rw [putV]
    by_cases h1 : kl y.k q = true
    · have hne := kl_ne h1
      rw [if_pos h1, ofV, ofV, ofV, if_neg hne]
      rw [ih hs2]
      by_cases h : r = q
      · subst h; rw [if_neg hne, if_pos rfl, if_pos rfl]
      · rw [if_neg h, if_neg h]
    · rw [if_neg h1]
      by_cases h2 : y.k = q
      · rw [if_pos h2]
        subst h2
        rw [ofV]
        by_cases h : r = y.k
        · subst h; rw [if_pos rfl, if_pos rfl, ofV, if_pos rfl]
        · rw [if_neg (fun e => h e.symm), if_neg h, ofV, if_neg (fun e => h e.symm)]
      · rw [if_neg h2]
        have h3 := kl_total h1 h2
        have hn : ofV (y :: l) q = zero := ofV_none fun d hd => by
          rcases List.mem_cons.1 hd with rfl | hd
          · exact h2
          · exact (kl_ne (kl_trans h3 (List.rel_of_pairwise_cons hs hd))).symm
        rw [ofV]
        by_cases h : r = q
        · subst h; rw [if_pos rfl, if_pos rfl, hn, I.zero_max hx]
        · rw [if_neg (fun e => h e.symm), if_neg h]

/-- Right deps are known by what they have at each key. -/
theorem ext {l m : List D} (hl : Sorted l) (hm : Sorted m) (gl : Good l) (gm : Good m) (h : ∀ q, ofV l q = ofV m q) : l = m := by
  induction l generalizing m with
  | nil =>
    cases m with
    | nil => rfl
    | cons y m =>
      have := h y.k
      rw [ofV, ofV, if_pos rfl] at this
      exact absurd this.symm (I.ne_zero (gm y (by simp)).2)
  | cons x l ih =>
    cases m with
    | nil =>
      have := h x.k
      rw [ofV, ofV, if_pos rfl] at this
      exact absurd this (I.ne_zero (gl x (by simp)).2)
    | cons y m =>
      have hk : x.k = y.k := by
        have h1 := h x.k
        have h2 := h y.k
        rw [ofV, if_pos rfl] at h1
        rw [ofV_mem hm (show y ∈ y :: m by simp)] at h2
        apply Classical.byContradiction
        intro hne
        by_cases a : kl x.k y.k = true
        · have : ofV (y :: m) x.k = zero := ofV_none fun d hd => by
            rcases List.mem_cons.1 hd with rfl | hd
            · exact fun e => hne e.symm
            · exact (kl_ne (kl_trans a (List.rel_of_pairwise_cons hm hd))).symm
          rw [this] at h1
          exact I.ne_zero (gl x (by simp)).2 h1
        · have a := kl_total a hne
          have : ofV (x :: l) y.k = zero := ofV_none fun d hd => by
            rcases List.mem_cons.1 hd with rfl | hd
            · exact hne
            · exact (kl_ne (kl_trans a (List.rel_of_pairwise_cons hl hd))).symm
          rw [this] at h2
          exact I.ne_zero (gm y (by simp)).2 h2.symm
      have hi : x.i = y.i := by
        have h1 := h x.k
        rw [ofV, if_pos rfl, ofV, if_pos hk.symm] at h1
        exact h1
      have hxy : x = y := by cases x; cases y; simp only at hk hi; subst hk hi; rfl
      subst hxy
      congr 1
      refine ih (List.Pairwise.of_cons hl) (List.Pairwise.of_cons hm) (fun d hd => gl d (by simp [hd])) (fun d hd => gm d (by simp [hd])) fun q => ?_
      by_cases e : x.k = q
      · subst e
        rw [ofV_none fun d hd => (kl_ne (List.rel_of_pairwise_cons hl hd)).symm, ofV_none fun d hd => (kl_ne (List.rel_of_pairwise_cons hm hd)).symm]
      · have := h q
        rw [ofV, ofV, if_neg e, if_neg e] at this
        exact this

theorem join_facts (b : List D) : ∀ a : List D, Sorted a → Good a → Sorted b → Good b → Sorted (joinV a b) ∧ Good (joinV a b) ∧ ∀ q, ofV (joinV a b) q = (ofV a q).max (ofV b q) := by
  induction b with
  | nil =>
    intro a sa ga _ _
    refine ⟨sa, ga, fun q => ?_⟩
    show ofV a q = (ofV a q).max zero
    rcases ofV_right ga q with h | h
    · rw [I.max_comm, I.zero_max h]
    · rw [h, I.max_idem]
  | cons x b ih =>
    intro a sa ga sb gb
    have gx := gb x (by simp)
    obtain ⟨h1, h2, h3⟩ := ih (putV a x.k x.i) (sorted_put sa _ _) (good_put ga gx.1 gx.2) (List.Pairwise.of_cons sb) (fun d hd => gb d (by simp [hd]))
    refine ⟨h1, h2, fun q => ?_⟩
    show ofV (joinV (putV a x.k x.i) b) q = _
    rw [h3, ofV_put sa gx.2, ofV]
    by_cases e : q = x.k
    · subst e
      rw [if_pos rfl, if_pos rfl, ofV_none fun d hd => (kl_ne (List.rel_of_pairwise_cons sb hd)).symm]
      rw [I.max_comm, I.zero_max]
      rcases ofV_right ga x.k with h | h
      · exact I.max_right h gx.2
      · rw [h, I.zero_max gx.2]; exact gx.2
    · rw [if_neg e, if_neg (fun e' => e e'.symm)]

theorem join_comm {a b : List D} (sa : Sorted a) (ga : Good a) (sb : Sorted b) (gb : Good b) : joinV b a = joinV a b := by
  obtain ⟨h1, h2, h3⟩ := join_facts b a sa ga sb gb
  obtain ⟨k1, k2, k3⟩ := join_facts a b sb gb sa ga
  exact ext k1 h1 k2 h2 fun q => by rw [h3, k3, I.max_comm]
theorem join_again {a b : List D} (sa : Sorted a) (ga : Good a) (sb : Sorted b) (gb : Good b) : joinV (joinV a b) a = joinV a b := by
  obtain ⟨h1, h2, h3⟩ := join_facts b a sa ga sb gb
  obtain ⟨k1, k2, k3⟩ := join_facts a _ h1 h2 sa ga
  exact ext k1 h1 k2 h2 fun q => by rw [k3, h3, I.max_again_left]
theorem put_again {l : List D} (sl : Sorted l) (gl : Good l) {q : ByteArray} {x : I} (hq : Key.keyB q = true) (hx : x.right = true) : putV (putV l q x) q x = putV l q x := by
  refine ext (sorted_put (sorted_put sl _ _) _ _) (sorted_put sl _ _) (good_put (good_put gl hq hx) hq hx) (good_put gl hq hx) fun r => ?_
  rw [ofV_put (sorted_put sl _ _) hx, ofV_put sl hx, ofV_put sl hx, if_pos rfl]
  by_cases e : r = q
  · rw [if_pos e, if_pos e, I.max_again_right]
  · rw [if_neg e, if_neg e]
theorem put_covers {l : List D} (sl : Sorted l) {q : ByteArray} {x : I} (hx : x.right = true) : ¬ (ofV (putV l q x) q).less x = true := by
  rw [ofV_put sl hx, if_pos rfl]; exact I.not_less_max_right _ _
theorem covers_iff (a b : List D) : coversB a b = true ↔ ∀ d ∈ b, ¬ (ofV a d.k).less d.i = true := by
  unfold coversB
  rw [List.all_eq_true]
  constructor
  · intro h d hd; have := h d hd; simpa using this
  · intro h d hd; have := h d hd; simpa using this
theorem covers_left {a b : List D} (sa : Sorted a) (ga : Good a) (sb : Sorted b) (gb : Good b) : coversB (joinV a b) a = true := by
  rw [covers_iff]
  intro d hd
  rw [(join_facts b a sa ga sb gb).2.2, ofV_mem sa hd]
  exact I.not_less_max_left _ _
theorem covers_right {a b : List D} (sa : Sorted a) (ga : Good a) (sb : Sorted b) (gb : Good b) : coversB (joinV a b) b = true := by
  rw [covers_iff]
  intro d hd
  rw [(join_facts b a sa ga sb gb).2.2, ofV_mem sb hd]
  exact I.not_less_max_right _ _
theorem not_less_zero {x : I} (h : x.right = true ∨ x = zero) : ¬ x.less zero = true := by
  rcases h with h | rfl
  · exact I.less_asymm (I.zero_less h)
  · exact I.less_irrefl _
theorem covers_of {a c : List D} (gc : Good c) (h : coversB c a = true) (q : ByteArray) : ¬ (ofV c q).less (ofV a q) = true := by
  rw [covers_iff] at h
  rcases ofV_cases a q with ⟨d, hd, hk, hv⟩ | ⟨_, hv⟩
  · rw [hv, ← hk]; exact h d hd
  · rw [hv]; exact not_less_zero (ofV_right gc q)
theorem covers_join {a b c : List D} (sa : Sorted a) (ga : Good a) (sb : Sorted b) (gb : Good b) (gc : Good c) (h1 : coversB c a = true) (h2 : coversB c b = true) : coversB c (joinV a b) = true := by
  obtain ⟨k1, k2, k3⟩ := join_facts b a sa ga sb gb
  rw [covers_iff]
  intro d hd
  rw [← ofV_mem k1 hd, k3]
  rcases I.max_cases (ofV a d.k) (ofV b d.k) with h | h <;> rw [h]
  · exact covers_of gc h1 _
  · exact covers_of gc h2 _

/-- The loop's way to put: what is less first, then the key, then what is left. -/
theorem put_at {l : List D} {q : ByteArray} (x : I) {k : Nat} (hk : k ≤ l.length) (h : ∀ j (hj : j < l.length), j < k → kl l[j].k q = true) (hn : ∀ hj : k < l.length, ¬ kl l[k].k q = true) :
    putV l q x = l.take k ++ (if h : k < l.length then (if l[k].k = q then ⟨q, l[k].i.max x⟩ :: l.drop (k + 1) else ⟨q, x⟩ :: l.drop k) else [⟨q, x⟩]) := by
  induction l generalizing k with
  | nil => cases k with
    | zero => rfl
    | succ k => exact absurd hk (by simp)
  | cons y l ih =>
    rw [putV]
    cases k with
    | zero =>
      have h1 := hn (by simp)
      simp only [List.getElem_cons_zero] at h1
      rw [if_neg h1]
      simp
    | succ k =>
      have h1 := h 0 (by simp) (by omega)
      simp only [List.getElem_cons_zero] at h1
      rw [if_pos h1, ih (k := k) (by simpa using hk) (fun j hj hjk => by have := h (j + 1) (by simpa using hj) (by omega); simpa using this) (fun hj => by have := hn (by simpa using hj); simpa using this)]
      simp
theorem length_put (l : List D) (q : ByteArray) (x : I) : (putV l q x).length ≤ l.length + 1 := by
  induction l with
  | nil => simp [putV]
  | cons y l ih =>
    rw [putV]
    split
    · simp; omega
    · split <;> simp
theorem length_join (b : List D) : ∀ a : List D, (joinV a b).length ≤ a.length + b.length := by
  induction b with
  | nil => intro a; exact Nat.le_refl _
  | cons x b ih =>
    intro a
    have := ih (putV a x.k x.i)
    have h2 := length_put a x.k x.i
    show (joinV (putV a x.k x.i) b).length ≤ _
    simp; omega
end Go.Proofs.Ytegnjbdgeibhfaa.Dep

/-
  Ids: IdLess and MaxId of the program and of the given model answer the same.
-/
namespace Go.Proofs.Ytegnjbdgeibhfaa.Id
open Go.ChangeShapes Go.WideShapes Go.ChangeAt Go.RowKit
set_option linter.unusedVariables false
set_option maxRecDepth 100000

theorem cmp_less (c s e c' s' e' : Int) : decide (orV (cmpV c c') (cmpV s s') (cmpV e e') < 0) = lessB c s e c' s' e' := by
  have h1 : ∀ x y : Int, (x < y ∧ cmpV x y = -1) ∨ (x = y ∧ cmpV x y = 0) ∨ (y < x ∧ cmpV x y = 1) := fun x y => by
    unfold cmpV
    rcases Int.lt_trichotomy x y with h | h | h
    · exact .inl ⟨h, if_pos h⟩
    · exact .inr (.inl ⟨h, by rw [if_neg (by omega), if_neg (by omega)]⟩)
    · exact .inr (.inr ⟨h, by rw [if_neg (by omega), if_pos h]⟩)
  unfold lessB orV
  rw [decide_eq_decide]
  rcases h1 c c' with ⟨a, b⟩ | ⟨a, b⟩ | ⟨a, b⟩ <;> rcases h1 s s' with ⟨a2, b2⟩ | ⟨a2, b2⟩ | ⟨a2, b2⟩ <;> rcases h1 e e' with ⟨a3, b3⟩ | ⟨a3, b3⟩ | ⟨a3, b3⟩ <;> simp [b, b2, b3] <;> omega

set_option maxRecDepth 100000 in
theorem less_any (c s e c' s' e' : Int) (w : World) :
    Calls Try.prog 92 #[idV c s e, idV c' s' e'] w fun x w' => x = .returned (.bool (lessB c s e c' s' e')) ∧ Below w.heap.size w w' := by
  unfold idV
  go_enter Try.func92, Try.ntmps92
  go_wp2_with (go_at_call 108; refine (compare_any _ _ _).mono ?_; rintro e w1 ⟨rfl, rfl⟩)
  refine wp_region_still_tail 15 (by kernel_rfl) (by kernel_rfl) ?_
  change wpStill _ _ (World.drew _) (fun a' => wpList _ _ _ _ a' (World.drew _)) _ _
  simp only [List.take_succ_cons, List.take_zero, List.drop_succ_cons, List.drop_zero]
  repeat still_step
  still_call ((compare_any _ _ _).mono (fun e w' h => ⟨h.1, h.2.symm⟩))
  repeat still_step
  still_call ((compare_any _ _ _).mono (fun e w' h => ⟨h.1, h.2.symm⟩))
  repeat still_step
  still_call ((compare_any _ _ _).mono (fun e w' h => ⟨h.1, h.2.symm⟩))
  repeat still_step
  refine wpStill_nil ?_
  go_wp2_with (go_at_call 107; refine (or_any (cmpV c c') (cmpV s s') (cmpV e e') _ _ ?_).mono ?_)
  · intro k hk
    have hr : ∀ W : World, W.heap.size = w.heap.size + 1 + 1 → (W.alloc (Obj.cells #[Value.int IntKind.i64 (cmpV c c'), Value.int IntKind.i64 (cmpV s s'), Value.int IntKind.i64 (cmpV e e')] 3)).drew.heap[w.heap.size + 1 + 1]? = some (Obj.cells #[Value.int IntKind.i64 (cmpV c c'), Value.int IntKind.i64 (cmpV s s'), Value.int IntKind.i64 (cmpV e e')] 3) := fun W hW => by
      rw [← hW]; exact heap_alloc_new W _
    rw [cell_of_row _ _ _ _ _ (0, 0) (hr _ (by simp))]
    rcases (show k = 0 ∨ k = 1 ∨ k = 2 by omega) with rfl | rfl | rfl
    all_goals rfl
  rintro x w1 ⟨rfl, rfl⟩
  go_wp2_with fail
  go_ret
  rw [← cmp_less]
  exact ⟨rfl, ((((Below.refl _ _).alloc (Nat.le_refl _) _).alloc (by simp) _).alloc (by simp; omega) _).drew⟩

theorem implLess_any (c s e c' s' e' : Int) (w : World) :
    Calls Try.prog 64 #[idV c s e, idV c' s' e'] w fun x w' => x = .returned (.bool (lessB c s e c' s' e')) ∧ Below w.heap.size w w' := by
  unfold idV
  go_enter Try.func64, Try.ntmps64
  go_wp2_with (go_at_call 92; refine (less_any c s e c' s' e' _).mono ?_; rintro x w1 ⟨rfl, hb⟩)
  go_ret
  exact ⟨rfl, (((Below.refl _ _).alloc (Nat.le_refl _) _).alloc (by simp) _).trans (hb.mono (by simp; omega))⟩

theorem lessB_c {c s e c' s' e' : Int} (h : c < c') : lessB c s e c' s' e' = true := by simp [lessB, h]

theorem specLess_any (c s e c' s' e' : Int) (w : World) :
    Calls Try.prog 35 #[idV c s e, idV c' s' e'] w fun x w' => x = .returned (.bool (lessB c s e c' s' e')) ∧ Below w.heap.size w w' := by
  unfold idV
  by_cases h1 : c = c'
  · subst h1
    by_cases h2 : s = s'
    · subst h2
      have h1b : (c == c) = true := beq_self_eq_true c
      have h2b : (s == s) = true := beq_self_eq_true s
      go_enter Try.func35, Try.ntmps35
      go_wp2
      go_ret
      exact ⟨by rw [show lessB c s e c s e' = decide (e < e') by simp [lessB]]; rfl, (((Below.refl _ _).alloc (Nat.le_refl _) _).alloc (by simp) _)⟩
    · have h1b : (c == c) = true := beq_self_eq_true c
      have h2b : (s == s') = false := beq_eq_false_iff_ne.2 h2
      go_enter Try.func35, Try.ntmps35
      go_wp2
      go_ret
      exact ⟨by rw [show lessB c s e c s' e' = decide (s < s') by simp [lessB, h2]]; rfl, (((Below.refl _ _).alloc (Nat.le_refl _) _).alloc (by simp) _)⟩
  · have h1b : (c == c') = false := beq_eq_false_iff_ne.2 h1
    go_enter Try.func35, Try.ntmps35
    go_wp2
    go_ret
    exact ⟨by rw [show lessB c s e c' s' e' = decide (c < c') by simp [lessB, h1]]; rfl, (((Below.refl _ _).alloc (Nat.le_refl _) _).alloc (by simp) _)⟩

/-- What MaxId answers. -/
def maxV (c s e c' s' e' : Int) : Value := if lessB c s e c' s' e' = true then idV c' s' e' else idV c s e

theorem row_old3 (w : World) (o1 o2 o3 : Obj) : (((w.alloc o1).alloc o2).alloc o3).heap[w.heap.size]? = some o1 := by
  rw [heap_alloc_old _ _ (by simp; omega), heap_alloc_old _ _ (by simp), heap_alloc_new]
theorem row_mid3 (w : World) (o1 o2 o3 : Obj) : (((w.alloc o1).alloc o2).alloc o3).heap[w.heap.size + 1]? = some o2 := by
  rw [heap_alloc_old _ _ (by simp), show w.heap.size + 1 = (w.alloc o1).heap.size by simp, heap_alloc_new]
theorem row_new3 (w : World) (o1 o2 o3 : Obj) : (((w.alloc o1).alloc o2).alloc o3).heap[w.heap.size + 1 + 1]? = some o3 := by
  rw [show w.heap.size + 1 + 1 = ((w.alloc o1).alloc o2).heap.size by simp, heap_alloc_new]
theorem id_free {W w1 : World} {b t : Nat} {xs : Array Value} (hb : Below W.heap.size W w1) (hlt : b < W.heap.size) (hrow : W.heap[b]? = some (.cells xs t (0, 0))) (j : Nat) : w1.frozen? ⟨b, j, none⟩ = false := by
  have h := (hb.block b hlt).trans hrow
  simp [World.frozen?, h]
/-- The three cells of an Id stand where they stood. -/
theorem id_kept {W w1 : World} {b t : Nat} {c s e : Int} (hb : Below W.heap.size W w1) (hlt : b < W.heap.size) (hrow : W.heap[b]? = some (.cells #[.int .i64 c, .int .i64 s, .int .i64 e] t (0, 0))) :
    w1.cell? ⟨b, 0, none⟩ = some (.int .i64 c) ∧ w1.cell? ⟨b, 1, none⟩ = some (.int .i64 s) ∧ w1.cell? ⟨b, 2, none⟩ = some (.int .i64 e) := by
  have h := (hb.block b hlt).trans hrow
  exact ⟨cell_of_row w1 b 0 _ t (0, 0) h, cell_of_row w1 b 1 _ t (0, 0) h, cell_of_row w1 b 2 _ t (0, 0) h⟩

theorem implMax_any (c s e c' s' e' : Int) (w : World) :
    Calls Try.prog 90 #[idV c s e, idV c' s' e'] w fun x w' => x = .returned (maxV c s e c' s' e') ∧ Below w.heap.size w w' := by
  unfold maxV
  cases hl : lessB c s e c' s' e'
  all_goals
    have HL := Lib.hid hl
    clear hl
    unfold idV
    go_enter Try.func90, Try.ntmps90
    go_wp2_with fail
    refine (implLess_any c s e c' s' e' _).mono ?_
    rintro x w1 ⟨rfl, hb⟩
    rw [HL.out]
    obtain ⟨a0, a1, a2⟩ := id_kept (b := w.heap.size) hb (by simp; try omega) (row_old3 w _ _ _)
    obtain ⟨b0, b1, b2⟩ := id_kept (b := w.heap.size + 1) hb (by simp) (row_mid3 w _ _ _)
    obtain ⟨r0, r1, r2⟩ := id_kept (b := w.heap.size + 1 + 1) hb (by simp) (row_new3 w _ _ _)
    have f0 := id_free (b := w.heap.size + 1 + 1) hb (by simp) (row_new3 w _ _ _) 0
    have f1 := id_free (b := w.heap.size + 1 + 1) hb (by simp) (row_new3 w _ _ _) 1
    have f2 := id_free (b := w.heap.size + 1 + 1) hb (by simp) (row_new3 w _ _ _) 2
    have HB := Lib.hid hb
    clear hb
    go_wp2_with fail
    refine bodyPost_ret (v := _) (by simp [results, Try.results90, go_sem, r0, r1, r2]) rfl ⟨rfl, ?_⟩
    have hb2 : Below w.heap.size w w1 := ((((Below.refl _ _).alloc (Nat.le_refl _) _).alloc (by simp) _).alloc (by simp; omega) _).trans (HB.out.mono (by simp; omega))
    exact ((hb2.setCell (by simp; omega) _).setCell (by simp; omega) _).setCell (by simp; omega) _

theorem specMax_any (c s e c' s' e' : Int) (w : World) :
    Calls Try.prog 85 #[idV c s e, idV c' s' e'] w fun x w' => x = .returned (maxV c s e c' s' e') ∧ Below w.heap.size w w' := by
  unfold maxV
  cases hl : lessB c s e c' s' e'
  all_goals
    have HL := Lib.hid hl
    clear hl
    unfold idV
    go_enter Try.func85, Try.ntmps85
    go_wp2_with fail
    refine (specLess_any c s e c' s' e' _).mono ?_
    rintro x w1 ⟨rfl, hb⟩
    rw [HL.out]
    obtain ⟨a0, a1, a2⟩ := id_kept (b := w.heap.size) hb (by simp; try omega) (row_old3 w _ _ _)
    obtain ⟨b0, b1, b2⟩ := id_kept (b := w.heap.size + 1) hb (by simp) (row_mid3 w _ _ _)
    obtain ⟨r0, r1, r2⟩ := id_kept (b := w.heap.size + 1 + 1) hb (by simp) (row_new3 w _ _ _)
    have f0 := id_free (b := w.heap.size + 1 + 1) hb (by simp) (row_new3 w _ _ _) 0
    have f1 := id_free (b := w.heap.size + 1 + 1) hb (by simp) (row_new3 w _ _ _) 1
    have f2 := id_free (b := w.heap.size + 1 + 1) hb (by simp) (row_new3 w _ _ _) 2
    have HB := Lib.hid hb
    clear hb
    go_wp2_with fail
    refine bodyPost_ret (v := _) (by simp [results, Try.results85, go_sem, r0, r1, r2]) rfl ⟨rfl, ?_⟩
    have hb2 : Below w.heap.size w w1 := ((((Below.refl _ _).alloc (Nat.le_refl _) _).alloc (by simp) _).alloc (by simp; omega) _).trans (HB.out.mono (by simp; omega))
    exact ((hb2.setCell (by simp; omega) _).setCell (by simp; omega) _).setCell (by simp; omega) _

end Go.Proofs.Ytegnjbdgeibhfaa.Id

/-
  Ids: the law's own toId hands an Id on as it is; its eqId compares two of them.
-/
namespace Go.Proofs.Ytegnjbdgeibhfaa.Id
open Go.ChangeShapes Go.WideShapes Go.ChangeAt Go.RowKit
set_option linter.unusedVariables false
set_option maxRecDepth 100000

/-- Block b holds an Id. -/
def IdRow (W : World) (b t : Nat) (c s e : Int) : Prop := W.heap[b]? = some (.cells #[.int .i64 c, .int .i64 s, .int .i64 e] t (0, 0))
theorem IdRow.step {W w1 : World} {b t N : Nat} {c s e : Int} (h : IdRow W b t c s e) (hb : Below N W w1) (hlt : b < N) : IdRow w1 b t c s e := (hb.block b hlt).trans h
theorem IdRow.alloc {W : World} {b t : Nat} {c s e : Int} (h : IdRow W b t c s e) (o : Obj) : IdRow (W.alloc o) b t c s e :=
  (heap_alloc_old W o (Array.getElem?_eq_some_iff.1 h).1).trans h
theorem IdRow.lt {W : World} {b t : Nat} {c s e : Int} (h : IdRow W b t c s e) : b < W.heap.size := (Array.getElem?_eq_some_iff.1 h).1
theorem IdRow.new (W : World) (t : Nat) (c s e : Int) : IdRow (W.alloc (.cells #[.int .i64 c, .int .i64 s, .int .i64 e] t)) W.heap.size t c s e := heap_alloc_new W _
theorem IdRow.cells {W : World} {b t : Nat} {c s e : Int} (h : IdRow W b t c s e) :
    W.cell? ⟨b, 0, none⟩ = some (.int .i64 c) ∧ W.cell? ⟨b, 1, none⟩ = some (.int .i64 s) ∧ W.cell? ⟨b, 2, none⟩ = some (.int .i64 e) :=
  ⟨cell_of_row W b 0 _ t (0, 0) h, cell_of_row W b 1 _ t (0, 0) h, cell_of_row W b 2 _ t (0, 0) h⟩

theorem toId_any (c s e : Int) (w : World) :
    Calls Try.prog 71 #[idV c s e] w fun x w' => x = .returned (idV c s e) ∧ Below w.heap.size w w' := by
  unfold idV
  go_enter Try.func71, Try.ntmps71
  go_wp2
  refine bodyPost_ret (v := _) (by simp [results, Try.results71, go_sem]) rfl ⟨rfl, ?_⟩
  exact ((((Below.refl _ _).alloc (Nat.le_refl _) _).alloc (by simp) _).alloc (by simp; omega) _)

theorem eqId_same (c s e : Int) (w : World) :
    Calls Try.prog 77 #[idV c s e, idV c s e] w fun x w' => x = .returned (.bool true) ∧ Below w.heap.size w w' := by
  unfold idV
  have h1 : (c == c) = true := beq_self_eq_true c
  have h2 : (s == s) = true := beq_self_eq_true s
  have h3 : (e == e) = true := beq_self_eq_true e
  go_enter Try.func77, Try.ntmps77
  go_wp2
  go_ret
  exact ⟨rfl, ((Below.refl _ _).alloc (Nat.le_refl _) _).alloc (by simp) _⟩
end Go.Proofs.Ytegnjbdgeibhfaa.Id

/-
  A slice of deps as a list; spec.l03Of: the Id at a key.
-/
namespace Go.Proofs.Ytegnjbdgeibhfaa.Dep
open Go.ChangeShapes Go.WideShapes Go.ChangeAt Go.RowKit
set_option linter.unusedVariables false
set_option maxRecDepth 100000

theorem add_block (a : Addr) (n : Nat) : (a.add n).block = a.block := by unfold Addr.add; split <;> rfl
theorem add_add (a : Addr) (i j : Nat) : (a.add i).add j = a.add (i + j) := by
  unfold Addr.add
  by_cases hi : i = 0 <;> by_cases hj : j = 0 <;> simp [hi, hj, Nat.add_assoc]
theorem maps_cells {w : World} {a b : Addr} {v : Value} (h : w.cell? a = some v) (e : b = a) : w.cell? b = some v := by rw [e]; exact h

/-- The dep d lies at the address. -/
abbrev At (w : World) (a : Addr) (d : D) : Prop :=
  w.cell? a = some (.string d.k) ∧ w.cell? ⟨a.block, a.off + 1, none⟩ = some (.int .i64 d.i.c) ∧ w.cell? ⟨a.block, a.off + 1 + 1, none⟩ = some (.int .i64 d.i.s) ∧ w.cell? ⟨a.block, a.off + 1 + 2, none⟩ = some (.int .i64 d.i.e)
/-- A slice's address and what it reads as; it lies below block B. -/
def Lies (w : World) (B : Nat) (A : Option Addr) (l : List D) : Prop :=
  0 < l.length → ∃ ad, A = some ad ∧ ad.block < B ∧ ∀ j (h : j < l.length), At w (ad.add (j * 4)) l[j]
/-- A slice of deps. -/
def slV (A : Option Addr) (l : List D) (cap : Nat) : Value := .slice A l.length cap

theorem At.keep {w w' : World} {a : Addr} {d : D} (h : At w a d) (hk : ∀ p : Addr, p.block = a.block → w'.cell? p = w.cell? p) : At w' a d :=
  ⟨(hk a rfl).trans h.1, (hk ⟨a.block, a.off + 1, none⟩ rfl).trans h.2.1, (hk ⟨a.block, a.off + 1 + 1, none⟩ rfl).trans h.2.2.1, (hk ⟨a.block, a.off + 1 + 2, none⟩ rfl).trans h.2.2.2⟩
theorem Lies.keep {w w' : World} {B : Nat} {A : Option Addr} {l : List D} (h : Lies w B A l) (hk : ∀ p : Addr, p.block < B → w'.cell? p = w.cell? p) : Lies w' B A l := fun h0 => by
  obtain ⟨ad, e, hb, hc⟩ := h h0
  exact ⟨ad, e, hb, fun j hj => (hc j hj).keep fun p hp => hk p (by rw [hp, add_block]; exact hb)⟩
theorem Lies.more {w : World} {B B' : Nat} {A : Option Addr} {l : List D} (h : Lies w B A l) (hB : B ≤ B') : Lies w B' A l := fun h0 => by
  obtain ⟨ad, e, hb, hc⟩ := h h0
  exact ⟨ad, e, by omega, hc⟩
theorem Lies.below {w w' : World} {B N : Nat} {A : Option Addr} {l : List D} (h : Lies w B A l) (hb : Below N w w') (hN : B ≤ N) : Lies w' B A l := h.keep fun p hp => hb.cell (by omega)
theorem Lies.drew {w : World} {B : Nat} {A : Option Addr} {l : List D} (h : Lies w B A l) : Lies w.drew B A l := h
theorem Lies.drewN {w : World} {B : Nat} {A : Option Addr} {l : List D} (h : Lies w B A l) (n : Nat) : Lies (w.drewN n) B A l := h
theorem Lies.alloc {w : World} {B : Nat} {A : Option Addr} {l : List D} (h : Lies w B A l) (hB : B ≤ w.heap.size) (o : Obj) : Lies (w.alloc o) B A l := h.keep fun p hp => World.cell?_alloc_lt w o p (by omega)
theorem Lies.at_ {w : World} {B : Nat} {A : Option Addr} {l : List D} {k : Nat} (h : Lies w B A l) (hk : k < l.length) : ∃ ad, A = some ad ∧ ad.block < B ∧ At w (ad.add (k * 4)) l[k] := by
  obtain ⟨ad, e, hb, hc⟩ := h (by omega)
  exact ⟨ad, e, hb, hc k hk⟩

def I.val (x : I) : Value := Id.idV x.c x.s x.e

theorem specOf_any (A : Option Addr) (l : List D) (cap : Nat) (q : ByteArray) (w : World) (h : Lies w w.heap.size A l) (hl : l.length ≤ maxLen) :
    Calls Try.prog 36 #[slV A l cap, .string q] w fun e w' => e = .returned (ofV l q).val ∧ Below w.heap.size w w' := by
  unfold maxLen at hl
  unfold slV
  have H := Lib.hid h
  clear h
  go_enter Try.func36, Try.ntmps36
  go_wp2_with fail
  have H1 := Lib.hid (H.out.alloc (Nat.le_refl _) (Obj.cells #[Value.int IntKind.i64 0, Value.int IntKind.i64 0, Value.int IntKind.i64 0] 58))
  have B1 := Lib.hid ((Below.refl w.heap.size w).alloc (Nat.le_refl _) (Obj.cells #[Value.int IntKind.i64 0, Value.int IntKind.i64 0, Value.int IntKind.i64 0] 58))
  have r := Id.IdRow.new w 58 0 0 0
  obtain ⟨r0, r1, r2⟩ := r.cells
  have f0 := Id.id_free (Below.refl _ _) r.lt r 0
  have f1 := Id.id_free (Below.refl _ _) r.lt r 1
  have f2 := Id.id_free (Below.refl _ _) r.lt r 2
  generalize hb : w.heap.size = b at *
  generalize World.alloc w _ = W at *
  clear r H
  go_loop [5] (fun i => ∃ k : Nat, k ≤ l.length ∧ i = .int .i64 k ∧ Hid (ofV (l.drop k) q = ofV l q)) (fun i => l.length - (intOf i).toNat)
  case atStart => exact ⟨0, by omega, rfl, Lib.hid rfl⟩
  case round =>
    obtain ⟨k, hk, rfl, HJ⟩ := hrel
    by_cases hlt : k < l.length
    · obtain ⟨ad, rfl, hb, c0, c1, c2, c3⟩ := H1.out.at_ hlt
      have hd : l.drop k = l[k] :: l.drop (k + 1) := List.drop_eq_getElem_cons hlt
      by_cases he : l[k].k = q
      · have hee : (l[k].k.toList == q.toList) = true := by rw [he]; exact beq_self_eq_true _
        have HV : Hid (ofV l q = l[k].i) := by exact Lib.hid (by rw [← HJ.out, hd, ofV, if_pos he])
        clear he hd
        go_wp2_with fail
        refine bodyPost_ret (v := Id.idV l[k].i.c l[k].i.s l[k].i.e) (by simp [results, Try.results36, go_sem, r0, r1, r2, Id.idV]) rfl ⟨?_, ?_⟩
        · rw [HV.out]; rfl
        · exact ((B1.out.setCell (Nat.le_refl _) _).setCell (Nat.le_refl _) _).setCell (Nat.le_refl _) _
      · have hee : (l[k].k.toList == q.toList) = false := beq_eq_false_iff_ne.2 fun h => he (list_eq (by rw [← ByteArray.toList_eq, ← ByteArray.toList_eq]; exact h))
        have HV : Hid (ofV (l.drop (k + 1)) q = ofV l q) := by exact Lib.hid (by rw [← HJ.out, hd, ofV, if_neg he])
        clear he hd
        go_wp2_with fail
        go_round
        case rel => exact ⟨k + 1, by omega, by go_num, HV⟩
        case measure => simp [intOf]; omega
    · have HV : Hid (ofV l q = zero) := by exact Lib.hid (by rw [← HJ.out, List.drop_eq_nil_of_le (by omega)]; rfl)
      go_wp2_with fail
      refine bodyPost_ret (v := Id.idV 0 0 0) (by simp [results, Try.results36, go_sem, r0, r1, r2, Id.idV]) rfl ⟨?_, ?_⟩
      · rw [HV.out]; rfl
      · exact ((B1.out.setCell (Nat.le_refl _) _).setCell (Nat.le_refl _) _).setCell (Nat.le_refl _) _
end Go.Proofs.Ytegnjbdgeibhfaa.Dep

/-
  The law's own toDep, toDepS, szDepS, eqDep, eqDepS at deps.
-/
namespace Go.Proofs.Ytegnjbdgeibhfaa.Dep
open Go.ChangeShapes Go.WideShapes Go.ChangeAt Go.RowKit
set_option linter.unusedVariables false
set_option maxRecDepth 100000

/-- A dep by value. -/
def D.val (d : D) : Value := .agg #[.string d.k, .int .i64 d.i.c, .int .i64 d.i.s, .int .i64 d.i.e]

/-- Block b holds a dep. -/
def DepRow (W : World) (b t : Nat) (k : ByteArray) (c s e : Int) : Prop := W.heap[b]? = some (.cells #[.string k, .int .i64 c, .int .i64 s, .int .i64 e] t (0, 0))
theorem DepRow.step {W w1 : World} {b t N : Nat} {k : ByteArray} {c s e : Int} (h : DepRow W b t k c s e) (hb : Below N W w1) (hlt : b < N) : DepRow w1 b t k c s e := (hb.block b hlt).trans h
theorem DepRow.alloc {W : World} {b t : Nat} {k : ByteArray} {c s e : Int} (h : DepRow W b t k c s e) (o : Obj) : DepRow (W.alloc o) b t k c s e :=
  (heap_alloc_old W o (Array.getElem?_eq_some_iff.1 h).1).trans h
theorem DepRow.lt {W : World} {b t : Nat} {k : ByteArray} {c s e : Int} (h : DepRow W b t k c s e) : b < W.heap.size := (Array.getElem?_eq_some_iff.1 h).1
theorem DepRow.new (W : World) (t : Nat) (k : ByteArray) (c s e : Int) : DepRow (W.alloc (.cells #[.string k, .int .i64 c, .int .i64 s, .int .i64 e] t)) W.heap.size t k c s e := heap_alloc_new W _
theorem DepRow.cells {W : World} {b t : Nat} {k : ByteArray} {c s e : Int} (h : DepRow W b t k c s e) :
    W.cell? ⟨b, 0, none⟩ = some (.string k) ∧ W.cell? ⟨b, 1, none⟩ = some (.int .i64 c) ∧ W.cell? ⟨b, 2, none⟩ = some (.int .i64 s) ∧ W.cell? ⟨b, 3, none⟩ = some (.int .i64 e) :=
  ⟨cell_of_row W b 0 _ t (0, 0) h, cell_of_row W b 1 _ t (0, 0) h, cell_of_row W b 2 _ t (0, 0) h, cell_of_row W b 3 _ t (0, 0) h⟩
theorem DepRow.free {W : World} {b t : Nat} {k : ByteArray} {c s e : Int} (h : DepRow W b t k c s e) (j : Nat) : W.frozen? ⟨b, j, none⟩ = false := by
  unfold DepRow at h
  simp [World.frozen?, h]

theorem toDep_any (d : D) (w : World) :
    Calls Try.prog 96 #[d.val] w fun x w' => x = .returned d.val ∧ Below w.heap.size w w' := by
  unfold D.val
  go_enter Try.func96, Try.ntmps96
  go_wp2_with fail
  refine (Id.toId_any d.i.c d.i.s d.i.e _).mono ?_
  rintro x w1 ⟨rfl, hb⟩
  unfold Id.idV
  have r := (DepRow.new (World.alloc (World.alloc w _) _) 80 d.k 0 0 0).step hb (by simp)
  have q := ((DepRow.new (World.alloc w _) 80 ⟨#[]⟩ 0 0 0).alloc _).step hb (by simp)
  simp only [World.size_alloc] at r q
  have B1 := Lib.hid ((((Below.refl w.heap.size w).alloc (Nat.le_refl _) _).alloc (by simp) _).alloc (by simp; omega) _ |>.trans (hb.mono (by simp; omega)))
  obtain ⟨r0, r1, r2, r3⟩ := r.cells
  have f0 := r.free 0
  have f1 := r.free 1
  have f2 := r.free 2
  have f3 := r.free 3
  obtain ⟨q0, q1, q2, q3⟩ := q.cells
  have g0 := q.free 0
  have g1 := q.free 1
  have g2 := q.free 2
  have g3 := q.free 3
  clear hb r q
  go_wp2_with fail
  refine bodyPost_ret (v := .agg #[.string d.k, .int .i64 d.i.c, .int .i64 d.i.s, .int .i64 d.i.e]) (by simp [results, Try.results96, go_sem, q0, q1, q2, q3]) rfl ⟨rfl, ?_⟩
  exact ((((((B1.out.setCell (by simp; omega) _).setCell (by simp; omega) _).setCell (by simp; omega) _).setCell (by simp) _).setCell (by simp) _).setCell (by simp) _).setCell (by simp) _

theorem szDep_any (d : D) (n : Int) (w : World) (h0 : 0 ≤ n) (h1 : n ≤ 1048576) (hk : d.k.size ≤ maxLen) :
    Calls Try.prog 95 #[d.val, .int .i64 n] w fun x w' => x = .returned (.int .i64 (if n < d.k.size then -1 else n - d.k.size)) ∧ Below w.heap.size w w' := by
  unfold D.val
  unfold maxLen at hk
  by_cases h : n < d.k.size
  · rw [if_pos h]
    go_enter Try.func95, Try.ntmps95
    go_wp2
    go_ret
    exact ⟨rfl, (Below.refl _ _).alloc (Nat.le_refl _) _⟩
  · rw [if_neg h]
    go_enter Try.func95, Try.ntmps95
    go_wp2
    go_ret
    exact ⟨rfl, (Below.refl _ _).alloc (Nat.le_refl _) _⟩

theorem eqDep_same (d : D) (w : World) :
    Calls Try.prog 78 #[d.val, d.val] w fun x w' => x = .returned (.bool true) ∧ Below w.heap.size w w' := by
  unfold D.val
  have hk : (d.k.toList == d.k.toList) = true := beq_self_eq_true _
  go_enter Try.func78, Try.ntmps78
  go_wp2_with fail
  refine (Id.eqId_same d.i.c d.i.s d.i.e _).mono ?_
  rintro x w1 ⟨rfl, hb⟩
  have B1 := Lib.hid (((Below.refl w.heap.size w).alloc (Nat.le_refl _) _).alloc (by simp) _ |>.trans (hb.mono (by simp; omega)))
  clear hb
  go_wp2_with fail
  go_ret
  exact ⟨rfl, B1.out⟩
end Go.Proofs.Ytegnjbdgeibhfaa.Dep

/-
  The law's own toDepS: a new row with what a slice reads as.
-/
namespace Go.Proofs.Ytegnjbdgeibhfaa.Dep
open Go.ChangeShapes Go.WideShapes Go.ChangeAt Go.RowKit
set_option linter.unusedVariables false
set_option maxRecDepth 100000

/-- Block g is a row of n deps, the first of which are l. -/
def Own (w : World) (g n : Nat) (l : List D) : Prop :=
  ∃ cs : Array Value, w.heap[g]? = some (.cells cs 80 (0, 0)) ∧ cs.size = n * 4 ∧
    ∀ j (h : j < l.length), cs[j * 4]? = some (.string l[j].k) ∧ cs[j * 4 + 1]? = some (.int .i64 l[j].i.c) ∧ cs[j * 4 + 2]? = some (.int .i64 l[j].i.s) ∧ cs[j * 4 + 3]? = some (.int .i64 l[j].i.e)

theorem Own.new (w : World) (z : Array Value) (n : Nat) : Own (w.alloc (.cells (madeCells z (n * 4)) 80)) w.heap.size n [] :=
  ⟨_, heap_alloc_new w _, size_madeCells _ _, fun j h => absurd h (by simp)⟩
theorem Own.lt {w : World} {g n : Nat} {l : List D} (h : Own w g n l) : g < w.heap.size := by
  obtain ⟨cs, h, _⟩ := h
  exact (Array.getElem?_eq_some_iff.1 h).1
theorem Own.step {w w1 : World} {g n N : Nat} {l : List D} (h : Own w g n l) (hb : Below N w w1) (hlt : g < N) : Own w1 g n l := by
  obtain ⟨cs, h, h2⟩ := h
  exact ⟨cs, (hb.block g hlt).trans h, h2⟩
theorem Own.free {w : World} {g n : Nat} {l : List D} (h : Own w g n l) (j : Nat) : w.frozen? ⟨g, j, none⟩ = false := by
  obtain ⟨cs, h, h2⟩ := h
  simp [World.frozen?, h]
theorem Own.cell {w : World} {g n : Nat} {l : List D} (h : Own w g n l) {j : Nat} (hj : j < n * 4) : ∃ u, w.cell? ⟨g, j, none⟩ = some u := by
  obtain ⟨cs, h, h2, _⟩ := h
  rw [cell_of_row w g j cs _ (0, 0) h]
  exact ⟨cs[j]'(by omega), Array.getElem?_eq_getElem (by omega)⟩

theorem row_set {w : World} {g t : Nat} {cs : Array Value} (h : w.heap[g]? = some (.cells cs t (0, 0))) (i : Nat) (u : Value) : (w.setCell ⟨g, i, none⟩ u).heap[g]? = some (.cells (cs.setIfInBounds i u) t (0, 0)) := by
  simp [World.setCell, Array.getElem?_modify, h]
theorem get_ne {cs : Array Value} {i j : Nat} (u : Value) (h : i ≠ j) : (cs.setIfInBounds i u)[j]? = cs[j]? := Array.getElem?_setIfInBounds_ne h
theorem get_eq {cs : Array Value} {i : Nat} (u : Value) (h : i < cs.size) : (cs.setIfInBounds i u)[i]? = some u := by
  rw [Array.getElem?_setIfInBounds_self]; simp [h]
/-- One dep more. -/
theorem Own.put {w : World} {g n : Nat} {l : List D} (h : Own w g n l) (d : D) (hn : l.length < n) {k : Nat} (hk : l.length = k) :
    Own ((((w.setCell ⟨g, k * 4, none⟩ (.string d.k)).setCell ⟨g, k * 4 + 1, none⟩ (.int .i64 d.i.c)).setCell ⟨g, k * 4 + 2, none⟩ (.int .i64 d.i.s)).setCell ⟨g, k * 4 + 3, none⟩ (.int .i64 d.i.e)) g n (l ++ [d]) := by
  obtain ⟨cs, h1, h2, h3⟩ := h
  refine ⟨_, row_set (row_set (row_set (row_set h1 _ _) _ _) _ _) _ _, by simp [h2], fun j hj => ?_⟩
  rw [List.length_append, List.length_singleton] at hj
  by_cases e : j = k
  · subst e
    have e1 : (l ++ [d])[j] = d := by simp [← hk]
    rw [e1]
    refine ⟨?_, ?_, ?_, ?_⟩
    · rw [get_ne _ (by omega), get_ne _ (by omega), get_ne _ (by omega), get_eq _ (by omega)]
    · rw [get_ne _ (by omega), get_ne _ (by omega), get_eq _ (by simp; omega)]
    · rw [get_ne _ (by omega), get_eq _ (by simp; omega)]
    · rw [get_eq _ (by simp; omega)]
  · have hjl : j < l.length := by omega
    rw [List.getElem_append_left hjl]
    obtain ⟨a0, a1, a2, a3⟩ := h3 j hjl
    refine ⟨?_, ?_, ?_, ?_⟩
    · rw [get_ne _ (by omega), get_ne _ (by omega), get_ne _ (by omega), get_ne _ (by omega)]; exact a0
    · rw [get_ne _ (by omega), get_ne _ (by omega), get_ne _ (by omega), get_ne _ (by omega)]; exact a1
    · rw [get_ne _ (by omega), get_ne _ (by omega), get_ne _ (by omega), get_ne _ (by omega)]; exact a2
    · rw [get_ne _ (by omega), get_ne _ (by omega), get_ne _ (by omega), get_ne _ (by omega)]; exact a3
/-- A row of one's own reads as what it holds. -/
theorem Own.lies {w : World} {g n B : Nat} {l : List D} (h : Own w g n l) (hB : g < B) : Lies w B (some ⟨g, 0, none⟩) l := by
  intro h0
  obtain ⟨cs, h1, h2, h3⟩ := h
  refine ⟨_, rfl, hB, fun j hj => ?_⟩
  obtain ⟨a0, a1, a2, a3⟩ := h3 j hj
  have e : (Addr.add ⟨g, 0, none⟩ (j * 4)) = ⟨g, j * 4, none⟩ := by
    unfold Addr.add
    split
    · rename_i h; rw [h]
    · simp
  rw [e]
  exact ⟨(cell_of_row w g _ cs _ (0, 0) h1).trans a0, (cell_of_row w g _ cs _ (0, 0) h1).trans a1, (cell_of_row w g _ cs _ (0, 0) h1).trans a2, (cell_of_row w g _ cs _ (0, 0) h1).trans a3⟩

theorem dep_info : (Try.prog.info? 80).map (fun i => (i.zero, i.size, i.bytes)) = some (some (.agg #[.string ⟨#[]⟩, .int .i64 0, .int .i64 0, .int .i64 0]), 4, 40) := by kernel_rfl

theorem toDepS_any (A : Option Addr) (l : List D) (cap : Nat) (w : World) (h : Lies w w.heap.size A l) (hl : l.length ≤ 1048576) :
    Calls Try.prog 72 #[slV A l cap] w fun x w' => ∃ g, x = .returned (.slice (some ⟨g, 0, none⟩) l.length l.length) ∧ w.heap.size ≤ g ∧ Own w' g l.length l ∧ Below w.heap.size w w' := by
  unfold slV
  have H := Lib.hid h
  clear h
  obtain ⟨i0, hi0, hz0, hz1, hz2⟩ := info_parts dep_info
  have hmk := run_make (P := Try.prog) w 22 80 i0 _ Try.underlying22 hi0 hz0 .i64 .i64 l.length l.length (by omega) (Int.le_refl _) (by rw [hz2]; omega) (by omega)
  rw [hz1] at hmk
  clear hi0 hz0 hz1 hz2
  go_enter Try.func72, Try.ntmps72
  go_wp2_with fail
  rw [Int.toNat_natCast] at hmk
  have HO := Lib.hid (Own.new w (D.val ⟨⟨#[]⟩, zero⟩).cells l.length)
  generalize hg : w.heap.size = g at *
  go_loopw [4] (fun i wr => ∃ k : Nat, k ≤ l.length ∧ i = .int .i64 k ∧ Hid (Own wr g l.length (l.take k) ∧ Below g w wr)) (fun i _ => l.length - (intOf i).toNat)
  case atStart => exact ⟨0, by omega, rfl, Lib.hid ⟨HO.out, (Below.refl _ _).alloc (by omega) _⟩⟩
  case round =>
    obtain ⟨k, hk, rfl, HR⟩ := hrel
    by_cases hlt : k < l.length
    · obtain ⟨ad, rfl, hb, c0, c1, c2, c3⟩ := (H.out.below HR.out.2 (Nat.le_refl _)).at_ hlt
      go_wp2_with fail
      have HB := Lib.hid HR.out.2.size
      refine (toDep_any l[k] _).mono ?_
      rintro x w1 ⟨rfl, hb1⟩
      unfold D.val
      have hlg := HR.out.1.lt
      have ho := HR.out.1.step hb1 hlg
      have HO1 := Lib.hid ho
      have HB1 := Lib.hid (HR.out.2.trans (hb1.mono (by have := HR.out.2.size; omega)))
      obtain ⟨u0, e0⟩ := ho.cell (j := k * 4) (by omega)
      obtain ⟨u1, e1⟩ := ho.cell (j := k * 4 + 1) (by omega)
      obtain ⟨u2, e2⟩ := ho.cell (j := k * 4 + 2) (by omega)
      obtain ⟨u3, e3⟩ := ho.cell (j := k * 4 + 3) (by omega)
      have f0 := ho.free (k * 4)
      have f1 := ho.free (k * 4 + 1)
      have f2 := ho.free (k * 4 + 2)
      have f3 := ho.free (k * 4 + 3)
      clear ho hb1 c0 c1 c2 c3
      go_wp2_with fail
      go_roundw
      case rel =>
        refine ⟨k + 1, by omega, by go_num, Lib.hid ⟨?_, ?_⟩⟩
        · rw [show l.take (k + 1) = l.take k ++ [l[k]] by simp]
          exact HO1.out.put l[k] (by rw [List.length_take]; omega) (by rw [List.length_take]; omega)
        · exact (((HB1.out.setCell (Nat.le_refl _) _).setCell (Nat.le_refl _) _).setCell (Nat.le_refl _) _).setCell (Nat.le_refl _) _
      case measure => simp [intOf]; omega
    · go_wp2_with fail
      go_ret
      refine ⟨g, rfl, by omega, ?_, hg ▸ HR.out.2⟩
      have := HR.out.1
      rwa [List.take_of_length_le (by omega)] at this
end Go.Proofs.Ytegnjbdgeibhfaa.Dep

/-
  A block as a whole: what a world with it becomes by calls, new blocks and stores.
-/
namespace Go.Proofs.Ytegnjbdgeibhfaa
open Go.ChangeShapes Go.WideShapes Go.ChangeAt Go.RowKit
set_option linter.unusedVariables false
set_option maxRecDepth 100000

/-- Block b holds these cells. -/
def Blk (W : World) (b t : Nat) (cs : Array Value) : Prop := W.heap[b]? = some (.cells cs t (0, 0))
theorem Blk.lt {W : World} {b t : Nat} {cs : Array Value} (h : Blk W b t cs) : b < W.heap.size := (Array.getElem?_eq_some_iff.1 h).1
theorem Blk.step {W w1 : World} {b t N : Nat} {cs : Array Value} (h : Blk W b t cs) (hb : Below N W w1) (hlt : b < N) : Blk w1 b t cs := (hb.block b hlt).trans h
theorem Blk.on {W w1 : World} {b t : Nat} {cs : Array Value} (h : Blk W b t cs) (hb : Below W.heap.size W w1) : Blk w1 b t cs := h.step hb h.lt
theorem Blk.alloc {W : World} {b t : Nat} {cs : Array Value} (h : Blk W b t cs) (o : Obj) : Blk (W.alloc o) b t cs := (heap_alloc_old W o h.lt).trans h
theorem Blk.new (W : World) (t : Nat) (cs : Array Value) : Blk (W.alloc (.cells cs t)) W.heap.size t cs := heap_alloc_new W _
theorem Blk.set {W : World} {b t : Nat} {cs : Array Value} (h : Blk W b t cs) (i : Nat) (u : Value) {cs' : Array Value} (e : cs.setIfInBounds i u = cs') : Blk (W.setCell ⟨b, i, none⟩ u) b t cs' := by
  subst e; exact Dep.row_set h i u
theorem Blk.other {W : World} {b t : Nat} {cs : Array Value} (h : Blk W b t cs) {p : Addr} (hne : b ≠ p.block) (u : Value) : Blk (W.setCell p u) b t cs := (heap_setCell_other W p b u hne).trans h
theorem Blk.drew {W : World} {b t : Nat} {cs : Array Value} (h : Blk W b t cs) : Blk W.drew b t cs := h
theorem Blk.cell {W : World} {b t : Nat} {cs : Array Value} (h : Blk W b t cs) (j : Nat) : W.cell? ⟨b, j, none⟩ = cs[j]? := cell_of_row W b j cs t (0, 0) h
theorem Blk.free {W : World} {b t : Nat} {cs : Array Value} (h : Blk W b t cs) (j : Nat) : W.frozen? ⟨b, j, none⟩ = false := by
  unfold Blk at h
  simp [World.frozen?, h]

/-- From block M on nothing has turned. -/
def Above (M : Nat) (W W' : World) : Prop := W'.heap.size = W.heap.size ∧ ∀ k, M ≤ k → W'.heap[k]? = W.heap[k]?
theorem Above.refl (M : Nat) (W : World) : Above M W W := ⟨rfl, fun _ _ => rfl⟩
theorem Above.set {M : Nat} {W W' : World} (h : Above M W W') {p : Addr} (hp : p.block < M) (u : Value) : Above M W (W'.setCell p u) :=
  ⟨by rw [World.size_setCell]; exact h.1, fun k hk => (heap_setCell_other W' p k u (by omega)).trans (h.2 k hk)⟩
/-- Nothing has turned but block b. -/
structure Touch (b : Nat) (W W' : World) : Prop where
  os : W'.os = W.os
  tape : W'.tape = W.tape
  output : W'.output = W.output
  size : W'.heap.size = W.heap.size
  block : ∀ k, k ≠ b → W'.heap[k]? = W.heap[k]?
theorem Touch.refl (b : Nat) (W : World) : Touch b W W := ⟨rfl, rfl, rfl, rfl, fun _ _ => rfl⟩
theorem Touch.set {b : Nat} {W W' : World} (h : Touch b W W') (i : Nat) (u : Value) : Touch b W (W'.setCell ⟨b, i, none⟩ u) :=
  ⟨h.os, h.tape, h.output, by rw [World.size_setCell]; exact h.size, fun k hk => (heap_setCell_other W' ⟨b, i, none⟩ k u hk).trans (h.block k hk)⟩
theorem Touch.blk {b c t : Nat} {W W' : World} {cs : Array Value} (h : Touch b W W') (hb : Blk W c t cs) (hne : c ≠ b) : Blk W' c t cs := (h.block c hne).trans hb
theorem Touch.below {b N : Nat} {w W W' : World} (h : Touch b W W') (hb : Below N w W) (hN : N ≤ b) : Below N w W' :=
  ⟨h.os.trans hb.os, h.tape.trans hb.tape, h.output.trans hb.output, by rw [h.size]; exact hb.size, fun k hk => (h.block k (by omega)).trans (hb.block k hk)⟩
theorem Touch.above {b M : Nat} {W W' : World} (h : Touch b W W') (hM : b < M) : Above M W W' := ⟨h.size, fun k hk => h.block k (by omega)⟩
theorem Above.trans {M : Nat} {a b c : World} (h : Above M a b) (k : Above M b c) : Above M a c := ⟨k.1.trans h.1, fun i hi => (k.2 i hi).trans (h.2 i hi)⟩
end Go.Proofs.Ytegnjbdgeibhfaa

/-
  A list of cells: where it lies, a block of them, what is a call's own.
-/
namespace Go.Proofs.Ytegnjbdgeibhfaa.Net
open Go.ChangeShapes Go.WideShapes Go.ChangeAt Go.RowKit
open Dep (add_block add_add row_set get_ne get_eq)
set_option linter.unusedVariables false
set_option maxRecDepth 100000

/-- Cells lie at an address. -/
def Cl (w : World) (B : Nat) (A : Option Addr) (vs : List Value) : Prop :=
  0 < vs.length → ∃ ad, A = some ad ∧ ad.block < B ∧ ∀ (j : Nat) (u : Value), vs[j]? = some u → w.cell? (ad.add j) = some u
theorem Cl.keep {w w' : World} {B : Nat} {A : Option Addr} {vs : List Value} (h : Cl w B A vs) (hk : ∀ p : Addr, p.block < B → w'.cell? p = w.cell? p) : Cl w' B A vs := fun h0 => by
  obtain ⟨ad, e, hb, hc⟩ := h h0
  exact ⟨ad, e, hb, fun j u hu => (hk _ (by rw [add_block]; exact hb)).trans (hc j u hu)⟩
theorem Cl.more {w : World} {B B' : Nat} {A : Option Addr} {vs : List Value} (h : Cl w B A vs) (hB : B ≤ B') : Cl w B' A vs := fun h0 => by
  obtain ⟨ad, e, hb, hc⟩ := h h0
  exact ⟨ad, e, by omega, hc⟩
theorem Cl.below {w w' : World} {B N : Nat} {A : Option Addr} {vs : List Value} (h : Cl w B A vs) (hb : Below N w w') (hN : B ≤ N) : Cl w' B A vs := h.keep fun p hp => hb.cell (by omega)
theorem Cl.nil (w : World) (B : Nat) (A : Option Addr) : Cl w B A [] := fun h => absurd h (by simp)

/-- Block g is one of n cells, the first of which are these. -/
def Bk (w : World) (g t n : Nat) (vs : List Value) : Prop := ∃ cs : Array Value, w.heap[g]? = some (.cells cs t (0, 0)) ∧ cs.size = n ∧ vs.length ≤ n ∧ ∀ (j : Nat) (u : Value), vs[j]? = some u → cs[j]? = some u
theorem Bk.lt {w : World} {g t n : Nat} {vs : List Value} (h : Bk w g t n vs) : g < w.heap.size := by
  obtain ⟨cs, h, _⟩ := h
  exact (Array.getElem?_eq_some_iff.1 h).1
theorem Bk.same {w w1 : World} {g t n : Nat} {vs : List Value} (h : Bk w g t n vs) (hb : w1.heap[g]? = w.heap[g]?) : Bk w1 g t n vs := by
  obtain ⟨cs, h, h2⟩ := h
  exact ⟨cs, hb.trans h, h2⟩
theorem Bk.step {w w1 : World} {g t n N : Nat} {vs : List Value} (h : Bk w g t n vs) (hb : Below N w w1) (hlt : g < N) : Bk w1 g t n vs := h.same (hb.block g hlt)
theorem Bk.on {w w1 : World} {g t n : Nat} {vs : List Value} (h : Bk w g t n vs) (hb : Below w.heap.size w w1) : Bk w1 g t n vs := h.step hb h.lt
theorem Bk.free {w : World} {g t n : Nat} {vs : List Value} (h : Bk w g t n vs) (j : Nat) : w.frozen? ⟨g, j, none⟩ = false := by
  obtain ⟨cs, h, h2⟩ := h
  simp [World.frozen?, h]
theorem Bk.cell {w : World} {g t n : Nat} {vs : List Value} (h : Bk w g t n vs) {j : Nat} (hj : j < n) : ∃ u, w.cell? ⟨g, j, none⟩ = some u := by
  obtain ⟨cs, h, h2, _⟩ := h
  rw [cell_of_row w g j cs _ (0, 0) h]
  exact ⟨cs[j]'(by omega), Array.getElem?_eq_getElem (by omega)⟩
theorem Bk.at_ {w : World} {g t n : Nat} {vs : List Value} (h : Bk w g t n vs) {j : Nat} {u : Value} (hu : vs[j]? = some u) : w.cell? ⟨g, j, none⟩ = some u := by
  obtain ⟨cs, h, _, _, h2⟩ := h
  rw [cell_of_row w g j cs _ (0, 0) h]
  exact h2 j u hu
theorem Bk.new (w : World) (z : Array Value) (t n : Nat) : Bk (w.alloc (.cells (madeCells z n) t)) w.heap.size t n [] :=
  ⟨_, heap_alloc_new w _, size_madeCells _ _, by simp, fun j u h => by simp at h⟩
theorem Bk.put {w : World} {g t n : Nat} {vs : List Value} (h : Bk w g t n vs) {k : Nat} (hk : vs.length = k) (hn : k < n) (u : Value) : Bk (w.setCell ⟨g, k, none⟩ u) g t n (vs ++ [u]) := by
  obtain ⟨cs, h1, h2, h3, h4⟩ := h
  refine ⟨_, row_set h1 _ _, by simpa using h2, by simp; omega, fun j v hv => ?_⟩
  by_cases e : j = k
  · subst e
    rw [get_eq _ (by omega)]
    rw [List.getElem?_append_right (by omega), hk, Nat.sub_self] at hv
    simpa using hv
  · have hj : j < vs.length := by
      have := (List.getElem?_eq_some_iff.1 hv).1
      simp at this
      omega
    rw [get_ne _ (by omega)]
    rw [List.getElem?_append_left hj] at hv
    exact h4 j v hv
theorem Bk.set {w : World} {g t n : Nat} {vs : List Value} (h : Bk w g t n vs) {k : Nat} (u : Value) : Bk (w.setCell ⟨g, k, none⟩ u) g t n (vs.set k u) := by
  obtain ⟨cs, h1, h2, h3, h4⟩ := h
  refine ⟨_, row_set h1 _ _, by simpa using h2, by simpa using h3, fun j v hv => ?_⟩
  have hj : j < vs.length := by
    have := (List.getElem?_eq_some_iff.1 hv).1
    simpa using this
  by_cases e : k = j
  · subst e
    rw [get_eq _ (by omega)]
    rw [List.getElem?_set_self hj] at hv
    exact hv
  · rw [get_ne _ e]
    rw [List.getElem?_set_ne e] at hv
    exact h4 j v hv
theorem addr0 (g j : Nat) : (Addr.add ⟨g, 0, none⟩ j) = ⟨g, j, none⟩ := by
  unfold Addr.add
  split
  · rename_i h; rw [h]
  · simp
theorem Bk.cl {w : World} {g t n B : Nat} {vs : List Value} (h : Bk w g t n vs) (hB : g < B) : Cl w B (some ⟨g, 0, none⟩) vs := fun _ => by
  refine ⟨_, rfl, hB, fun j u hu => ?_⟩
  rw [addr0]
  exact h.at_ hu

/-- A list of cells is a call's own: none, or all of a block from a on, below b. -/
def HeldV (w : World) (A : Option Addr) (t : Nat) (vs : List Value) (a b : Nat) : Prop := vs = [] ∨ ∃ g n, A = some ⟨g, 0, none⟩ ∧ Bk w g t n vs ∧ a ≤ g ∧ g < b
theorem HeldV.keep {w w' : World} {A : Option Addr} {t : Nat} {vs : List Value} {a b : Nat} (h : HeldV w A t vs a b) (hk : ∀ (g : Nat) (cs : Array Value), w.heap[g]? = some (Obj.cells cs t (0, 0)) → a ≤ g → g < b → w'.heap[g]? = w.heap[g]?) : HeldV w' A t vs a b := by
  rcases h with h | ⟨g, n, e, hB, h1, h2⟩
  · exact .inl h
  · have hB' := hB
    obtain ⟨cs, hc, _⟩ := hB'
    exact .inr ⟨g, n, e, hB.same (hk g cs hc h1 h2), h1, h2⟩
theorem HeldV.step {w w' : World} {A : Option Addr} {t : Nat} {vs : List Value} {a b N : Nat} (h : HeldV w A t vs a b) (hb : Below N w w') (hN : b ≤ N ∨ w.heap.size ≤ N) : HeldV w' A t vs a b :=
  h.keep fun g cs hc h1 h2 => hb.block g (by have := (Array.getElem?_eq_some_iff.1 hc).1; omega)
theorem HeldV.wide {w : World} {A : Option Addr} {t : Nat} {vs : List Value} {a b a' b' : Nat} (h : HeldV w A t vs a b) (h1 : a' ≤ a) (h2 : b ≤ b') : HeldV w A t vs a' b' :=
  h.imp id fun ⟨g, n, e, hB, x, y⟩ => ⟨g, n, e, hB, by omega, by omega⟩
theorem HeldV.cl {w : World} {A : Option Addr} {t : Nat} {vs : List Value} {a b B : Nat} (h : HeldV w A t vs a b) (hB : b ≤ B) : Cl w B A vs := by
  rcases h with rfl | ⟨g, n, rfl, hk, h1, h2⟩
  · exact Cl.nil _ _ _
  · exact hk.cl (by omega)
theorem HeldV.above {w w' : World} {A : Option Addr} {t : Nat} {vs : List Value} {a b : Nat} (h : HeldV w A t vs a b) (hk : Above a w w') : HeldV w' A t vs a b := h.keep fun g cs _ h1 _ => hk.2 g h1
theorem HeldV.of_bk {w : World} {g t n : Nat} {vs : List Value} {a b : Nat} (h : Bk w g t n vs) (h1 : a ≤ g) (h2 : g < b) : HeldV w (some ⟨g, 0, none⟩) t vs a b := .inr ⟨g, n, rfl, h, h1, h2⟩
end Go.Proofs.Ytegnjbdgeibhfaa.Net

/-
  The law's own szDepS at deps; eqDepS of two slices that read alike.
-/
namespace Go.Proofs.Ytegnjbdgeibhfaa.Dep
open Go.ChangeShapes Go.WideShapes Go.ChangeAt Go.RowKit
set_option linter.unusedVariables false
set_option maxRecDepth 100000

theorem szDepS_any (A : Option Addr) (l : List D) (cap : Nat) (n : Int) (w : World) (h : Lies w w.heap.size A l) (hl : l.length ≤ maxLen) (hk : ∀ d ∈ l, d.k.size ≤ maxLen) (h0 : 0 ≤ n) (h1 : n ≤ 1048576) :
    Calls Try.prog 69 #[slV A l cap, .int .i64 n] w fun x w' => ∃ r : Int, x = .returned (.int .i64 r) ∧ (r = -1 ∨ (0 ≤ r ∧ r ≤ n ∧ (l.length : Int) ≤ n - r ∧ ∀ d ∈ l, (d.k.size : Int) ≤ n)) ∧ Below w.heap.size w w' := by
  have hl2 := hl
  unfold maxLen at hl2
  unfold slV
  have H := Lib.hid h
  have HK := Lib.hid hk
  clear h hk
  by_cases hn : n < l.length
  · go_enter Try.func69, Try.ntmps69
    go_wp2_with fail
    go_ret
    exact ⟨-1, rfl, .inl rfl, Below.refl _ _⟩
  · go_enter Try.func69, Try.ntmps69
    go_wp2_with fail
    go_loopw [1, 5] (fun z i wr => ∃ k : Nat, k ≤ l.length ∧ i = .int .i64 k ∧ ∃ m : Int, 0 ≤ m ∧ m ≤ n - l.length ∧ z = .int .i64 m ∧ Hid ((∀ j (hj : j < l.length), j < k → (l[j].k.size : Int) ≤ n) ∧ Below w.heap.size w wr)) (fun _ i _ => l.length - (intOf i).toNat)
    case atStart => exact ⟨0, by omega, rfl, n - l.length, by omega, by omega, rfl, Lib.hid ⟨fun j hj hjk => absurd hjk (by omega), Below.refl _ _⟩⟩
    case round =>
      obtain ⟨k, hk, rfl, m, hm0, hm1, rfl, HR⟩ := hrel
      by_cases hlt : k < l.length
      · obtain ⟨ad, rfl, hb, c0, c1, c2, c3⟩ := (H.out.below HR.out.2 (Nat.le_refl _)).at_ hlt
        have hks := HK.out l[k] (List.getElem_mem hlt)
        go_wp2_with fail
        refine (szDep_any l[k] m _ hm0 (by omega) hks).mono ?_
        rintro x w1 ⟨rfl, hb1⟩
        have HB1 := Lib.hid (HR.out.2.trans (hb1.mono HR.out.2.size))
        clear hb1 c0 c1 c2 c3
        by_cases hs : m < (l[k].k.size : Int)
        · rw [if_pos hs]
          go_wp2_with fail
          go_ret
          exact ⟨-1, rfl, .inl rfl, HB1.out⟩
        · rw [if_neg hs]
          have hs0 : ¬ m - (l[k].k.size : Int) < 0 := by omega
          go_wp2_with fail
          go_roundw
          case rel =>
            exact ⟨k + 1, by omega, by go_num, m - l[k].k.size, by omega, by omega, rfl, Lib.hid ⟨fun j hj hjk => by
              by_cases e : j = k
              · subst e; omega
              · exact HR.out.1 j hj (by omega), HB1.out⟩⟩
          case measure => simp [intOf]; omega
      · go_wp2_with fail
        go_ret
        refine ⟨m, rfl, .inr ⟨hm0, by omega, by omega, fun d hd => ?_⟩, HR.out.2⟩
        obtain ⟨j, hj, rfl⟩ := List.getElem_of_mem hd
        exact HR.out.1 j hj (by omega)

theorem at_step {W W' : World} {p : Addr} {d : D} (h : At W p d) (hb : Below W.heap.size W W') : At W' p d :=
  ⟨Lib.Below.cellOf hb h.1 (Nat.le_refl _), Lib.Below.cellOf hb h.2.1 (Nat.le_refl _), Lib.Below.cellOf hb h.2.2.1 (Nat.le_refl _), Lib.Below.cellOf hb h.2.2.2 (Nat.le_refl _)⟩
/-- Two deps stand, and nothing below is written. -/
abbrev Pair (w : World) (p q : Addr) (d e : D) (W : World) : Prop := At W p d ∧ At W q e ∧ Below w.heap.size w W
theorem Pair.step {w W W' : World} {p q : Addr} {d e : D} (h : Pair w p q d e W) (hb : Below W.heap.size W W') : Pair w p q d e W' :=
  ⟨at_step h.1 hb, at_step h.2.1 hb, h.2.2.trans (hb.mono h.2.2.size)⟩
theorem Pair.drew {w W : World} {p q : Addr} {d e : D} (h : Pair w p q d e W) : Pair w p q d e W.drew := ⟨h.1, h.2.1, h.2.2.drew⟩

theorem eqDepS_same (A B : Option Addr) (l : List D) (ca cb : Nat) (w : World) (ha : Lies w w.heap.size A l) (hb : Lies w w.heap.size B l) (hl : l.length ≤ maxLen) :
    Calls Try.prog 50 #[slV A l ca, slV B l cb] w fun x w' => x = .returned (.bool true) ∧ Below w.heap.size w w' := by
  have hl2 := hl
  unfold maxLen at hl2
  unfold slV
  have HA := Lib.hid ha
  have HB := Lib.hid hb
  clear ha hb
  go_enter Try.func50, Try.ntmps50
  go_wp2_with fail
  go_loopw [5] (fun i wr => ∃ k : Nat, k ≤ l.length ∧ i = .int .i64 k ∧ Hid (Below w.heap.size w wr)) (fun i _ => l.length - (intOf i).toNat)
  case atStart => exact ⟨0, by omega, rfl, Lib.hid (Below.refl _ _)⟩
  case round =>
    obtain ⟨k, hk, rfl, HR⟩ := hrel
    by_cases hlt : k < l.length
    · obtain ⟨a1, rfl, hb1, c0, c1, c2, c3⟩ := (HA.out.below HR.out (Nat.le_refl _)).at_ hlt
      obtain ⟨a2, rfl, hb2, d0, d1, d2, d3⟩ := (HB.out.below HR.out (Nat.le_refl _)).at_ hlt
      have hp : Pair w (a1.add (k * 4)) (a2.add (k * 4)) l[k] l[k] wr := ⟨⟨c0, c1, c2, c3⟩, ⟨d0, d1, d2, d3⟩, HR.out⟩
      clear c0 c1 c2 c3 d0 d1 d2 d3
      generalize l[k] = d at hp ⊢
      go_wp2_with fail
      go_region_held3 (fun W => At W (a1.add (k * 4)) d ∧ At W (a2.add (k * 4)) d ∧ Below w.heap.size w W)
        (first | exact Pair.drew (by assumption) | exact Pair.step (by assumption) hb)
        (first | (go_at_call 78; refine (eqDep_same d _).mono ?_; rintro x w' ⟨rfl, hb⟩))
      have h2 : Pair w (a1.add (k * 4)) (a2.add (k * 4)) d d w' := by assumption
      have HB1 := Lib.hid h2.2.2
      clear h2 hp
      go_wp2_with fail
      go_roundw
      case rel => exact ⟨k + 1, by omega, by go_num, HB1⟩
      case measure => simp [intOf]; omega
    · go_wp2_with fail
      go_ret
      exact ⟨rfl, HR.out⟩
end Go.Proofs.Ytegnjbdgeibhfaa.Dep

/-
  Appending deps to a row of one's own.
-/
namespace Go.Proofs.Ytegnjbdgeibhfaa.Dep
open Go.ChangeShapes Go.WideShapes Go.ChangeAt Go.RowKit
set_option linter.unusedVariables false
set_option maxRecDepth 100000

/-- The cells of deps. -/
def flat (l : List D) : List Value := l.flatMap fun d => [.string d.k, .int .i64 d.i.c, .int .i64 d.i.s, .int .i64 d.i.e]
theorem flat_cons (d : D) (l : List D) : flat (d :: l) = .string d.k :: .int .i64 d.i.c :: .int .i64 d.i.s :: .int .i64 d.i.e :: flat l := by simp [flat]
theorem flat_append (l m : List D) : flat (l ++ m) = flat l ++ flat m := by simp [flat]
theorem flat_length (l : List D) : (flat l).length = l.length * 4 := by
  induction l with
  | nil => rfl
  | cons d l ih => rw [flat_cons]; simp [ih]; omega
theorem flat_at {l : List D} {q : Nat} (hq : q < l.length) :
    (flat l)[q * 4]? = some (.string l[q].k) ∧ (flat l)[q * 4 + 1]? = some (.int .i64 l[q].i.c) ∧ (flat l)[q * 4 + 2]? = some (.int .i64 l[q].i.s) ∧ (flat l)[q * 4 + 3]? = some (.int .i64 l[q].i.e) := by
  induction l generalizing q with
  | nil => simp at hq
  | cons d l ih =>
    rw [flat_cons]
    cases q with
    | zero => simp
    | succ q =>
      have := ih (q := q) (by simpa using hq)
      rw [show (q + 1) * 4 = q * 4 + 1 + 1 + 1 + 1 by omega]
      simpa using this
theorem flat_one (l : List D) : ∀ u ∈ flat l, u.oneCell' = true := by
  intro u hu
  simp only [flat, List.mem_flatMap] at hu
  obtain ⟨d, _, hu⟩ := hu
  rcases List.mem_cons.1 hu with rfl | hu
  · rfl
  rcases List.mem_cons.1 hu with rfl | hu
  · rfl
  rcases List.mem_cons.1 hu with rfl | hu
  · rfl
  rcases List.mem_cons.1 hu with rfl | hu
  · rfl
  · cases hu

theorem addr_next (a : Addr) (i r : Nat) (hr : 0 < r) : (⟨(a.add i).block, (a.add i).off + r, none⟩ : Addr) = a.add (i + r) := by
  unfold Addr.add
  by_cases hi : i = 0
  · subst hi; rw [if_pos rfl, if_neg (by omega)]; simp
  · rw [if_neg hi, if_neg (by omega)]; simp [Nat.add_assoc]
/-- The cells that lie at an address. -/
theorem Lies.cell {w : World} {B : Nat} {ad : Addr} {l : List D} (h : Lies w B (some ad) l) {j : Nat} {u : Value} (hu : (flat l)[j]? = some u) : w.cell? (ad.add j) = some u := by
  have hj : j < l.length * 4 := by rw [← flat_length]; exact (List.getElem?_eq_some_iff.1 hu).1
  have hq : j / 4 < l.length := by omega
  obtain ⟨ad', e, _, c0, c1, c2, c3⟩ := h.at_ hq
  cases e
  obtain ⟨g0, g1, g2, g3⟩ := flat_at hq
  rcases (show j = j / 4 * 4 ∨ j = j / 4 * 4 + 1 ∨ j = j / 4 * 4 + 2 ∨ j = j / 4 * 4 + 3 by omega) with e | e | e | e
  · rw [e] at hu ⊢; rw [g0] at hu; rw [← hu]; exact c0
  · rw [e] at hu ⊢; rw [g1] at hu; rw [← hu, ← addr_next _ _ 1 (by omega)]; exact c1
  · rw [e] at hu ⊢; rw [g2] at hu; rw [← hu, ← addr_next _ _ 2 (by omega)]; exact c2
  · rw [e] at hu ⊢; rw [g3] at hu; rw [← hu, ← addr_next _ _ 3 (by omega)]; exact c3
theorem Lies.take {w : World} {B : Nat} {A : Option Addr} {l : List D} (h : Lies w B A l) (k : Nat) : Lies w B A (l.take k) := fun h0 => by
  rw [List.length_take] at h0
  obtain ⟨ad, e, hb, hc⟩ := h (by omega)
  refine ⟨ad, e, hb, fun j hj => ?_⟩
  rw [List.length_take] at hj
  rw [List.getElem_take]
  exact hc j (by omega)
theorem Lies.drop {w : World} {B cap : Nat} {A : Option Addr} {l : List D} (h : Lies w B A l) (k : Nat) (hcap : l.length ≤ cap) : Lies w B (if cap = k then A else A.map (·.add (k * 4))) (l.drop k) := fun h0 => by
  rw [List.length_drop] at h0
  obtain ⟨ad, rfl, hb, hc⟩ := h (by omega)
  rw [if_neg (by omega)]
  refine ⟨ad.add (k * 4), rfl, by rw [add_block]; exact hb, fun j hj => ?_⟩
  rw [List.length_drop] at hj
  rw [List.getElem_drop, add_add, show k * 4 + j * 4 = (k + j) * 4 by omega]
  exact hc (k + j) (by omega)

/-- What a row of one's own reads as. -/
theorem own_lies {w : World} {base n : Nat} {v : Value} {o : List D} (h : w.ownsRow base 80 4 v n (flat o)) :
    n = o.length ∧ ∃ A c, v = slV A o c ∧ o.length ≤ c ∧ Lies w w.heap.size A o := by
  have hn : n = o.length := by have := h.1; rw [flat_length] at this; omega
  refine ⟨hn, ?_⟩
  subst hn
  rcases h.2 with ⟨rfl, h0⟩ | ⟨g, cap, cur, rfl, hb, hh, hnc, hcm, hsz, hx⟩
  · refine ⟨none, 0, by unfold slV; rw [h0], by omega, fun hp => absurd hp (by omega)⟩
  · refine ⟨_, cap, rfl, hnc, fun hp => ⟨_, rfl, (Array.getElem?_eq_some_iff.1 hh).1, fun j hj => ?_⟩⟩
    have key : ∀ r u, r < o.length * 4 → (flat o)[r]? = some u → w.cell? ⟨g, r, none⟩ = some u := fun r u hr hu => by
      rw [cell_of_row w g r cur _ (0, 0) hh, ← Array.getElem?_toList]
      rw [← hx, List.getElem?_take, if_pos hr] at hu
      exact hu
    obtain ⟨g0, g1, g2, g3⟩ := flat_at hj
    have e : (Addr.add ⟨g, 0, none⟩ (j * 4)) = ⟨g, j * 4, none⟩ := by
      unfold Addr.add
      split
      · rename_i h; rw [h]
      · simp
    rw [e]
    exact ⟨key (j * 4) _ (by omega) g0, key (j * 4 + 1) _ (by omega) g1, key (j * 4 + 2) _ (by omega) g2, key (j * 4 + 3) _ (by omega) g3⟩

/-- append: the deps that a row of one's own holds, and those that a slice reads as, the slice nil or not. -/
theorem run_append_deps (base : Nat) (v : Value) (n : Nat) (o : List D) (w : World) (hown : w.ownsRow base 80 4 v n (flat o)) (B : Nat) (A : Option Addr) (m : List D) (c : Nat) (hr : Lies w B A m) (h63 : n + m.length ≤ 4194304) (hbase : base ≤ w.heap.size) :
    ∃ v' w', (Builtin.append_ #[22, 22] 22 #[v, slV A m c]).run Try.prog w = .ok v' w' ∧ w'.ownsRow base 80 4 v' (n + m.length) (flat (o ++ m)) ∧ w.grownBy w' v.ownBlock ∧
      (v'.ownBlock = v.ownBlock ∨ v'.ownBlock = some w.heap.size) := by
  obtain ⟨i0, hi0, hz0, hz1, hz2⟩ := info_parts dep_info
  rw [flat_append]
  rcases A with _ | ad
  · have hm : m = [] := by
      cases m with
      | nil => rfl
      | cons d m => obtain ⟨ad, e, _⟩ := hr (by simp); cases e
    subst hm
    refine ⟨v, w, ?_, by simpa [flat] using hown, World.grownBy.refl w _, .inl rfl⟩
    unfold slV
    rcases hown.2 with ⟨rfl, rfl⟩ | ⟨g, cap, cur, rfl, _, _, hnc, _⟩
    · simp [Builtin.append_, run_underlying Try.underlying22, sizeOf, typeInfo, hi0, Builtin.lenOf, Builtin.firstCells]
    · simp [Builtin.append_, run_underlying Try.underlying22, sizeOf, typeInfo, hi0, Builtin.lenOf, Builtin.firstCells, hnc, storeCells]
  · obtain ⟨v', w', hrun, h2, h3, _, h5⟩ := run_append_own_at (P := Try.prog) w base 22 22 80 i0 _ 4 40 Try.underlying22 hi0 hz0 hz1 hz2 rfl (by omega) v n (flat o) hown ad m.length c (flat m) (flat_length m) (fun j u hu => hr.cell hu) (flat_one m) (by simp only [maxLen]; omega) (by omega) hbase
    exact ⟨v', w', hrun, h2, h3, h5⟩
end Go.Proofs.Ytegnjbdgeibhfaa.Dep

/-
  impl.idAt and impl.DepOf: the Id at a key.
-/
namespace Go.Proofs.Ytegnjbdgeibhfaa.Dep
open Go.ChangeShapes Go.WideShapes Go.ChangeAt Go.RowKit
set_option linter.unusedVariables false
set_option maxRecDepth 100000

/-- A dep in a block of its own. -/
abbrev D.obj (d : D) : Obj := Obj.cells #[Value.string d.k, Value.int IntKind.i64 d.i.c, Value.int IntKind.i64 d.i.s, Value.int IntKind.i64 d.i.e] 80

theorem implAt_any (A : Option Addr) (l : List D) (cap : Nat) (q : ByteArray) (w : World) (h : Lies w w.heap.size A l) (hl : l.length ≤ maxLen) :
    Calls Try.prog 65 #[slV A l cap, .string q] w fun e w' => e = .returned (ofV l q).val ∧ Below w.heap.size w w' := by
  unfold maxLen at hl
  unfold slV
  have H := Lib.hid h
  clear h
  go_enter Try.func65, Try.ntmps65
  go_wp2_with fail
  have H1 := Lib.hid (H.out.alloc (Nat.le_refl _) (Obj.cells #[Value.int IntKind.i64 0, Value.int IntKind.i64 0, Value.int IntKind.i64 0] 58))
  have B1 := Lib.hid ((Below.refl w.heap.size w).alloc (Nat.le_refl _) (Obj.cells #[Value.int IntKind.i64 0, Value.int IntKind.i64 0, Value.int IntKind.i64 0] 58))
  have R1 := Lib.hid (Id.IdRow.new w 58 0 0 0)
  generalize hb : w.heap.size = b at *
  generalize World.alloc w _ = W at *
  clear H
  have hbW := R1.out.lt
  go_loopw [9] (fun i wr => ∃ k : Nat, k ≤ l.length ∧ i = .int .i64 k ∧ Hid (ofV (l.drop k) q = ofV l q ∧ Below W.heap.size W wr)) (fun i _ => l.length - (intOf i).toNat)
  case atStart => exact ⟨0, by omega, rfl, Lib.hid ⟨rfl, Below.refl _ _⟩⟩
  case round =>
    obtain ⟨k, hk, rfl, HJ⟩ := hrel
    have HB := Lib.hid (B1.out.trans (HJ.out.2.mono (by omega)))
    have hR := R1.out.step HJ.out.2 hbW
    have R2 := Lib.hid hR
    by_cases hlt : k < l.length
    · obtain ⟨ad, rfl, hb2, c0, c1, c2, c3⟩ := (H1.out.below HJ.out.2 (by omega)).at_ hlt
      have hd : l.drop k = l[k] :: l.drop (k + 1) := List.drop_eq_getElem_cons hlt
      by_cases he : l[k].k = q
      · have hee : (l[k].k.toList == q.toList) = true := by rw [he]; exact beq_self_eq_true _
        have HV : Hid (ofV l q = l[k].i) := by exact Lib.hid (by rw [← HJ.out.1, hd, ofV, if_pos he])
        have hR2 := hR.alloc l[k].obj
        obtain ⟨r0, r1, r2⟩ := hR2.cells
        have f0 := Id.id_free (Below.refl _ _) hR2.lt hR2 0
        have f1 := Id.id_free (Below.refl _ _) hR2.lt hR2 1
        have f2 := Id.id_free (Below.refl _ _) hR2.lt hR2 2
        have B3 := Lib.hid (HB.out.alloc (Nat.le_of_lt hR.lt |> fun h => by have := HB.out.size; omega) l[k].obj)
        clear he hd hR hR2
        go_wp2_with fail
        refine bodyPost_ret (v := Id.idV l[k].i.c l[k].i.s l[k].i.e) (by simp [results, Try.results65, go_sem, r0, r1, r2, Id.idV]) rfl ⟨?_, ?_⟩
        · rw [HV.out]; rfl
        · subst hb
          exact ((B3.out.setCell (Nat.le_refl _) _).setCell (Nat.le_refl _) _).setCell (Nat.le_refl _) _
      · have hee : (l[k].k.toList == q.toList) = false := beq_eq_false_iff_ne.2 fun h => he (list_eq (by rw [← ByteArray.toList_eq, ← ByteArray.toList_eq]; exact h))
        have HV : Hid (ofV (l.drop (k + 1)) q = ofV l q) := by exact Lib.hid (by rw [← HJ.out.1, hd, ofV, if_neg he])
        clear he hd hR
        go_wp2_with fail
        go_roundw
        case rel => exact ⟨k + 1, by omega, by go_num, Lib.hid ⟨HV.out, HJ.out.2.alloc HJ.out.2.size _⟩⟩
        case measure => simp [intOf]; omega
    · have HV : Hid (ofV l q = zero) := by exact Lib.hid (by rw [← HJ.out.1, List.drop_eq_nil_of_le (by omega)]; rfl)
      obtain ⟨r0, r1, r2⟩ := hR.cells
      have f0 := Id.id_free (Below.refl _ _) hR.lt hR 0
      have f1 := Id.id_free (Below.refl _ _) hR.lt hR 1
      have f2 := Id.id_free (Below.refl _ _) hR.lt hR 2
      clear hR
      go_wp2_with fail
      refine bodyPost_ret (v := Id.idV 0 0 0) (by simp [results, Try.results65, go_sem, r0, r1, r2, Id.idV]) rfl ⟨?_, ?_⟩
      · rw [HV.out]; rfl
      · subst hb
        exact ((HB.out.setCell (Nat.le_refl _) _).setCell (Nat.le_refl _) _).setCell (Nat.le_refl _) _
end Go.Proofs.Ytegnjbdgeibhfaa.Dep

/-
  A right key: impl.KeyRight answers whether a string has one to four bytes, each a small letter.
-/
namespace Go.Proofs.Ytegnjbdgeibhfaa.Key
open Go.ChangeShapes Go.WideShapes Go.ChangeAt Go.RowKit
set_option linter.unusedVariables false
set_option maxRecDepth 100000

theorem isLetter_any (c : Int) (w : World) (h0 : 0 ≤ c) (h1 : c ≤ 255) :
    Calls Try.prog 103 #[.int .u8 c] w fun e w' => e = .returned (.bool (letB c)) ∧ w = w' := by
  by_cases a : 97 ≤ c
  · by_cases b : c ≤ 122
    · go_enter Try.func103, Try.ntmps103
      go_wp2
      go_ret
      exact ⟨by simp [letB, a, b], rfl⟩
    · go_enter Try.func103, Try.ntmps103
      go_wp2
      go_ret
      exact ⟨by simp [letB, a, b], rfl⟩
  · go_enter Try.func103, Try.ntmps103
    go_wp2
    go_ret
    exact ⟨by simp [letB]; omega, rfl⟩

theorem implKey_any (s : ByteArray) (w : World) (hs : s.size ≤ maxLen) :
    Calls Try.prog 86 #[.string s] w fun e w' => e = .returned (.bool (keyB s)) ∧ w = w' := by
  unfold maxLen at hs
  by_cases b1 : 1 ≤ s.size
  · have b1' : ¬ s.size < 1 := by omega
    by_cases b2 : s.size ≤ 4
    · have b2' : ¬ 4 < s.size := by omega
      go_enter Try.func86, Try.ntmps86
      go_wp2_with fail
      go_loop [3] (fun i => ∃ k : Nat, k ≤ s.size ∧ i = .int .i64 k ∧ Hid (∀ j (h : j < s.size), j < k → letB s[j].toNat = true)) (fun i => s.size - (intOf i).toNat)
      case atStart => exact ⟨0, by omega, rfl, Lib.hid fun j h hj => absurd hj (by omega)⟩
      case round =>
        obtain ⟨k, hk, rfl, HJ⟩ := hrel
        by_cases hlt : k < s.size
        · have hbk := byte_le s[k]
          cases hl : letB s[k].toNat
          · have HL := Lib.hid hl
            clear hl
            go_wp2_with fail
            refine (isLetter_any _ _ (by omega) hbk).mono ?_
            rintro e w' ⟨rfl, rfl⟩
            rw [HL.out]
            go_wp2_with fail
            go_ret
            exact ⟨ret_bool (keyB_false fun h => by have := h.2.2 k hlt; rw [HL.out] at this; cases this).symm, rfl⟩
          · have HL := Lib.hid hl
            clear hl
            go_wp2_with fail
            refine (isLetter_any _ _ (by omega) hbk).mono ?_
            rintro e w' ⟨rfl, rfl⟩
            rw [HL.out]
            go_wp2_with fail
            go_round
            case rel => exact ⟨k + 1, by omega, by go_num, Lib.hid fun j h hj => by
              by_cases e : j = k
              · subst e; exact HL.out
              · exact HJ.out j h (by omega)⟩
            case measure => simp [intOf]; omega
        · go_wp2_with fail
          go_ret
          exact ⟨ret_bool (keyB_true ⟨by omega, by omega, fun j h => HJ.out j h (by omega)⟩).symm, rfl⟩
    · go_enter Try.func86, Try.ntmps86
      go_wp2_with fail
      go_ret
      exact ⟨ret_bool (keyB_false fun h => b2 h.2.1).symm, rfl⟩
  · go_enter Try.func86, Try.ntmps86
    go_wp2_with fail
    go_ret
    exact ⟨ret_bool (keyB_false fun h => b1 h.1).symm, rfl⟩
end Go.Proofs.Ytegnjbdgeibhfaa.Key
