/-
  Plain facts on decimal digits and on texts of three numbers with dots between: what is written is read back. No Go text is walked here.
-/
import Derived.Test.YtbkgampfehjpaaaDoorIdText
import Derived.Lib.IndexMore
import Derived.Lib.ParseIntB
namespace Go.Proofs.YtbkgampfehjpaaaDoor.Id
set_option linter.unusedVariables false

def isDig (b : UInt8) : Bool := decide (48 ≤ b.toNat ∧ b.toNat ≤ 57)
/-- What digits spell, behind a. -/
def valFrom (a : Nat) (l : List UInt8) : Nat := l.foldl (fun a b => a * 10 + (b.toNat - 48)) a
def val (l : List UInt8) : Nat := valFrom 0 l

theorem dig_nat (d : Nat) (h : d < 10) : (UInt8.ofNat (48 + d)).toNat = 48 + d := by
  rw [UInt8.toNat_ofNat_of_lt' (by simp [UInt8.size]; omega)]
theorem dec_digs (n : Nat) : ∀ b ∈ Lib.decDigits n, isDig b = true := by
  induction n using Nat.strongRecOn with
  | _ n ih =>
    rw [Lib.decDigits]
    split
    · intro b hb
      obtain rfl := List.mem_singleton.1 hb
      unfold isDig; rw [dig_nat _ (by omega)]; exact decide_eq_true (by omega)
    · intro b hb
      rcases List.mem_append.1 hb with h | h
      · exact ih (n / 10) (by omega) b h
      · obtain rfl := List.mem_singleton.1 h
        unfold isDig; rw [dig_nat _ (by omega)]; exact decide_eq_true (by omega)
theorem val_dec (n : Nat) : val (Lib.decDigits n) = n := by
  induction n using Nat.strongRecOn with
  | _ n ih =>
    rw [Lib.decDigits]
    split
    · simp only [val, valFrom, List.foldl_cons, List.foldl_nil]; rw [dig_nat _ (by omega)]; omega
    · have := ih (n / 10) (by omega)
      unfold val valFrom at this ⊢
      rw [List.foldl_append, this]
      simp only [List.foldl_cons, List.foldl_nil]; rw [dig_nat _ (by omega)]; omega
theorem dec_ne_nil (n : Nat) : Lib.decDigits n ≠ [] := by
  rw [Lib.decDigits]; split <;> simp
theorem dec_inj {a b : Nat} (h : Lib.decDigits a = Lib.decDigits b) : a = b := by rw [← val_dec a, ← val_dec b, h]
/-- A number of one digit alone begins with a nought. -/
theorem dec_head (n : Nat) : 10 ≤ n → ∃ c r, Lib.decDigits n = c :: r ∧ c.toNat ≠ 48 ∧ r ≠ [] := by
  induction n using Nat.strongRecOn with
  | _ n ih =>
    intro h
    rw [Lib.decDigits, dif_neg (by omega)]
    by_cases h2 : n / 10 < 10
    · rw [Lib.decDigits, dif_pos h2]
      exact ⟨_, _, rfl, by rw [dig_nat _ (by omega)]; omega, by simp⟩
    · obtain ⟨c, r, e, hc, hr⟩ := ih (n / 10) (by omega) (by omega)
      rw [e]
      exact ⟨c, r ++ _, rfl, hc, by simp⟩
theorem dec_len : ∀ (k n : Nat), n < 10 ^ (k + 1) → (Lib.decDigits n).length ≤ k + 1
  | 0, n, h => by rw [Lib.decDigits, dif_pos (by omega)]; simp
  | k + 1, n, h => by
    rw [Lib.decDigits]
    split
    · simp
    · rw [List.length_append]
      have := dec_len k (n / 10) (by rw [Nat.pow_succ] at h; omega)
      simp; omega

/-- Split at dots. -/
def splitFrom : List UInt8 → List UInt8 → List (List UInt8)
  | [], cur => [cur]
  | c :: r, cur => if c = 46 then cur :: splitFrom r [] else splitFrom r (cur ++ [c])
theorem splitFrom_word : ∀ (x r cur : List UInt8), (∀ b ∈ x, isDig b = true) → splitFrom (x ++ r) cur = splitFrom r (cur ++ x)
  | [], r, cur, _ => by simp
  | c :: x, r, cur, h => by
    have hc : c ≠ 46 := fun e => by have := h c (by simp); subst e; exact absurd this (by decide)
    rw [List.cons_append, splitFrom, if_neg hc, splitFrom_word x r (cur ++ [c]) (fun b hb => h b (by simp [hb]))]
    simp
theorem split_text (c s e : Nat) : splitFrom (textL c s e) [] = [Lib.decDigits c, Lib.decDigits s, Lib.decDigits e] := by
  unfold textL
  rw [splitFrom_word _ _ _ (dec_digs c), splitFrom, if_pos rfl, splitFrom_word _ _ _ (dec_digs s), splitFrom, if_pos rfl]
  have := splitFrom_word (Lib.decDigits e) [] [] (dec_digs e)
  rw [List.append_nil] at this
  rw [this, splitFrom]
  simp
theorem text_inj {c s e c' s' e' : Nat} (h : textL c s e = textL c' s' e') : c = c' ∧ s = s' ∧ e = e' := by
  have := split_text c s e
  rw [h, split_text c' s' e'] at this
  simp only [List.cons.injEq, and_true] at this
  exact ⟨(dec_inj this.1).symm, (dec_inj this.2.1).symm, (dec_inj this.2.2).symm⟩

/-- What the model's l02Num makes of a text. -/
def numS (l : List UInt8) : Int :=
  if 1 ≤ l.length ∧ l.length ≤ 9 ∧ ¬ (1 < l.length ∧ l.head? = some 48) ∧ ∀ b ∈ l, isDig b = true then (val l : Int) else -1
theorem numS_dec (n : Nat) (h : n ≤ 1000000) : numS (Lib.decDigits n) = n := by
  have h1 : 1 ≤ (Lib.decDigits n).length := List.length_pos_iff.2 (dec_ne_nil n)
  have h2 := dec_len 8 n (by omega)
  have h5 : ¬ (1 < (Lib.decDigits n).length ∧ (Lib.decDigits n).head? = some 48) := by
    rintro ⟨h3, h4⟩
    by_cases h10 : 10 ≤ n
    · obtain ⟨c, r, e, hc, _⟩ := dec_head n h10
      rw [e] at h4
      simp only [List.head?_cons, Option.some.injEq] at h4
      subst h4
      exact hc rfl
    · rw [Lib.decDigits, dif_pos (by omega)] at h3
      simp at h3
  unfold numS
  rw [if_pos ⟨h1, h2, h5, dec_digs n⟩, val_dec]

theorem cut_word : ∀ (x r : List UInt8), (∀ b ∈ x, isDig b = true) → Lib.index (x ++ 46 :: r) [46] = (x.length : Int)
  | [], r, _ => by simp [Lib.index]
  | c :: x, r, h => by
    have hc : c ≠ 46 := fun e => by have := h c (by simp); subst e; exact absurd this (by decide)
    have ih := cut_word x r (fun b hb => h b (by simp [hb]))
    rw [List.cons_append, Lib.index, if_neg (by simp [List.isPrefixOf]; exact fun e => hc e.symm), ih, if_neg (by simp)]
    simp
theorem cut_at (x r : List UInt8) (h : ∀ b ∈ x, isDig b = true) : Lib.cut (x ++ 46 :: r) [46] = (x, r, true) := by
  unfold Lib.cut
  rw [cut_word x r h, if_pos (by omega)]
  simp
theorem cut_nil : Lib.cut [] [46] = ([], [], false) := by decide

theorem valFrom_le : ∀ (l : List UInt8) (a : Nat), a ≤ valFrom a l
  | [], a => Nat.le_refl _
  | c :: r, a => Nat.le_trans (by omega) (valFrom_le r (a * 10 + (c.toNat - 48)))
theorem parse_digs (M : Nat) (hM : 1000000 ≤ M) : ∀ (l : List UInt8) (a : Nat), (∀ b ∈ l, isDig b = true) → valFrom a l ≤ 1000000 → Lib.parseUintM M a l = .ok (valFrom a l)
  | [], a, _, _ => rfl
  | c :: r, a, h, hv => by
    have hc : 48 ≤ c.toNat ∧ c.toNat ≤ 57 := of_decide_eq_true (h c (by simp))
    have h1 : valFrom a (c :: r) = valFrom (a * 10 + (c.toNat - 48)) r := rfl
    rw [h1] at hv ⊢
    have h2 := valFrom_le r (a * 10 + (c.toNat - 48))
    rw [Lib.parseUintM, if_pos hc, if_neg (by omega), if_neg (by omega)]
    exact parse_digs M hM r _ (fun b hb => h b (by simp [hb])) hv
theorem numV_dec (n : Nat) (h : n ≤ 1000000) : numV (Lib.decDigits n) = n := by
  have hp : Lib.parseIntB 64 (Lib.decDigits n) = .ok (n : Int) := by
    have hd := dec_digs n
    have hv := val_dec n
    obtain ⟨c, r, e⟩ := List.exists_cons_of_ne_nil (dec_ne_nil n)
    rw [e] at hd hv ⊢
    have hc : 48 ≤ c.toNat ∧ c.toNat ≤ 57 := of_decide_eq_true (hd c (by simp))
    have hu : Lib.parseUintB 64 (c :: r) = .ok n := by
      unfold Lib.parseUintB
      rw [if_neg (by simp), parse_digs _ (by decide) _ _ hd (by unfold val at hv; omega)]
      unfold val at hv; rw [hv]
    unfold Lib.parseIntB
    simp only
    rw [if_neg (by omega), hu]
    simp only
    rw [if_neg (by omega), if_neg (by omega), if_neg (by omega)]
  unfold numV
  rw [hp]
theorem numV_nil : numV [] = 0 := by
  unfold numV
  have : Lib.parseIntB 64 [] ≠ .range := by simp [Lib.parseIntB]
  have h2 : ∀ v, Lib.parseIntB 64 [] ≠ .ok v := fun v => by simp [Lib.parseIntB]
  cases h : Lib.parseIntB 64 [] with
  | ok v => exact absurd h (h2 v)
  | range => exact absurd h this
  | _ => rfl
end Go.Proofs.YtbkgampfehjpaaaDoor.Id
