/-
  IdText of the program and of the given model write the same: a right Id's three numbers in digits, with a dot between; else the empty text.
-/
import Derived.Test.YtbkgampfehjpaaaDoorIdLess
import Derived.Test.YtbkgampfehjpaaaDoorIdTo
import Derived.Test.YtbkgampfehjpaaaDoorDec
import Derived.Test.YtbkgampfehjpaaaDoorReady
import Derived.Deep.RegionHeld3
namespace Go.Proofs.YtbkgampfehjpaaaDoor.Id
open Go.ChangeShapes Go.WideShapes Go.ChangeAt Go.RowKit
set_option linter.unusedVariables false

/-- The bytes of a right Id's text. -/
def textL (c s e : Nat) : List UInt8 := Lib.decDigits c ++ 46 :: (Lib.decDigits s ++ 46 :: Lib.decDigits e)
def textB (c s e : Int) : ByteArray := if rightB c s e = true then ⟨(textL c.toNat s.toNat e.toNat).toArray⟩ else ⟨#[]⟩
theorem right_nat {c s e : Int} (h : rightB c s e = true) : ∃ a b d : Nat, c = a ∧ s = b ∧ e = d ∧ 1 ≤ a ∧ a ≤ 1000000 ∧ 1 ≤ b ∧ b ≤ 3 ∧ d ≤ 99 := by
  simp only [rightB, inB, Bool.and_eq_true, decide_eq_true_eq] at h
  exact ⟨c.toNat, s.toNat, e.toNat, by omega, by omega, by omega, by omega, by omega, by omega, by omega, by omega⟩
theorem digs_le (n : Nat) (h : n ≤ 1000000) : (Lib.decDigits n).length ≤ 1000000 := by
  by_cases hz : n = 0
  · subst hz; rw [Lib.decDigits]; simp
  · have := Dec.rest_len n
    rw [Dec.rest, if_neg hz] at this
    omega
theorem join5 (x y z : List UInt8) : ((((⟨x.toArray⟩ : ByteArray) ++ ⟨#[46]⟩) ++ ⟨y.toArray⟩) ++ ⟨#[46]⟩) ++ ⟨z.toArray⟩ = (⟨(x ++ 46 :: (y ++ 46 :: z)).toArray⟩ : ByteArray) := by
  apply ByteArray.ext; simp [ByteArray.data_append]

/-- What a boxed Id holds, and that nothing below is written. -/
abbrev One (w : World) (b : Nat) (c s e : Int) (W : World) : Prop :=
  (W.cell? ⟨b, 0, none⟩ = some (.int .i64 c) ∧ W.cell? ⟨b, 1, none⟩ = some (.int .i64 s) ∧ W.cell? ⟨b, 2, none⟩ = some (.int .i64 e)) ∧ Below w.heap.size w W
theorem One.step {w W W' : World} {b : Nat} {c s e : Int} (h : One w b c s e W) (hb : Below W.heap.size W W') : One w b c s e W' := by
  obtain ⟨⟨a0, a1, a2⟩, h3⟩ := h
  have k := fun (p : Addr) (v : Value) (hc : W.cell? p = some v) => Lib.Below.cellOf hb hc (Nat.le_refl _)
  exact ⟨⟨k _ _ a0, k _ _ a1, k _ _ a2⟩, h3.trans (hb.mono h3.size)⟩
theorem One.drew {w W : World} {b : Nat} {c s e : Int} (h : One w b c s e W) : One w b c s e W.drew := ⟨h.1, h.2.drew⟩

set_option maxHeartbeats 1000000 in
theorem specText_any (c s e : Int) (w : World) :
    Calls Tryd.prog 15 #[idV c s e] w fun x w' => x = .returned (.string (textB c s e)) ∧ Below w.heap.size w w' := by
  cases hr : rightB c s e
  · have HT := Lib.hid (show textB c s e = ⟨#[]⟩ by unfold textB; rw [hr]; rfl)
    have HR := Lib.hid hr
    clear hr
    unfold idV
    go_enter Tryd.func15, Tryd.ntmps15
    go_wp2_with fail
    refine (specRight_any c s e _).mono ?_
    rintro x w1 ⟨rfl, hb⟩
    rw [HR.out]
    have HB := Lib.hid (((Below.refl _ _).alloc (Nat.le_refl _) _).trans (hb.mono (by simp)))
    clear hb
    go_wp2_with fail
    go_ret
    exact ⟨by rw [HT.out]; rfl, HB.out⟩
  · obtain ⟨a, b, d, rfl, rfl, rfl, ha0, ha, hb0, hb, hd⟩ := right_nat hr
    have HT := Lib.hid (show textB a b d = ⟨(Lib.decDigits a ++ 46 :: (Lib.decDigits b ++ 46 :: Lib.decDigits d)).toArray⟩ by unfold textB; rw [hr]; rfl)
    have HR := Lib.hid hr
    have la := digs_le a (by omega)
    have lb := digs_le b (by omega)
    have ld := digs_le d (by omega)
    have HA := Lib.hid (fun w => Dec.dec_any a w (by omega))
    have HBb := Lib.hid (fun w => Dec.dec_any b w (by omega))
    have HD := Lib.hid (fun w => Dec.dec_any d w (by omega))
    have HJ := Lib.hid (join5 (Lib.decDigits a) (Lib.decDigits b) (Lib.decDigits d))
    clear hr ha0 ha hb0 hb hd
    generalize Lib.decDigits a = da at *
    generalize Lib.decDigits b = db at *
    generalize Lib.decDigits d = dd at *
    have z1 : ¬ 9223372036854775807 < da.length + 1 := by omega
    have z2 : ¬ 9223372036854775807 < da.length + 1 + db.length := by omega
    have z3 : ¬ 9223372036854775807 < da.length + 1 + db.length + 1 := by omega
    have z4 : ¬ 9223372036854775807 < da.length + 1 + db.length + 1 + dd.length := by omega
    unfold idV
    go_enter Tryd.func15, Tryd.ntmps15
    go_wp2_with fail
    refine (specRight_any a b d _).mono ?_
    rintro x w1 ⟨rfl, hb⟩
    rw [HR.out]
    have h0 : One w w.heap.size a b d w1 := ⟨((IdRow.new w 24 a b d).step hb (by simp)).cells, ((Below.refl _ _).alloc (Nat.le_refl _) _).trans (hb.mono (by simp))⟩
    have H0 := Lib.hid h0
    clear hb h0
    go_wp2_with fail
    have h0 := H0.out
    clear H0
    generalize hbs : w.heap.size = q at h0 ⊢
    go_region_held3 (fun W => (W.cell? ⟨q, 0, none⟩ = some (.int .i64 (a : Int)) ∧ W.cell? ⟨q, 1, none⟩ = some (.int .i64 (b : Int)) ∧ W.cell? ⟨q, 2, none⟩ = some (.int .i64 (d : Int))) ∧ Below w.heap.size w W)
      (first | assumption | exact One.drew (b := q) (by assumption) | exact One.step (b := q) (by assumption) hb)
      (first | (go_at_call_of 30 (Value.int .i64 (a : Int)); refine (HA.out _).mono ?_; rintro x w' ⟨rfl, hb⟩) | (go_at_call_of 30 (Value.int .i64 (b : Int)); refine (HBb.out _).mono ?_; rintro x w' ⟨rfl, hb⟩) | (go_at_call_of 30 (Value.int .i64 (d : Int)); refine (HD.out _).mono ?_; rintro x w' ⟨rfl, hb⟩))
    have h1 : One w q a b d w' := by assumption
    go_wp2
    go_ret
    exact ⟨by rw [HT.out, ← HJ.out]; rfl, h1.2⟩
theorem digits_nat (n : Nat) (h : n ≤ 1000000) : ∀ w : World, Tab w → Calls Tryd.prog 24 #[.int .i64 (n : Int)] w fun e w' => e = .returned (.string ⟨(Lib.decDigits n).toArray⟩) ∧ Below w.heap.size w w' := fun w hr => by
  have e : Lib.itoa (n : Int) = Lib.decDigits n := by unfold Lib.itoa; rw [if_neg (by omega)]; rfl
  have := digits_any (n : Int) (by omega) (by omega) w hr
  rw [e] at this
  exact this

set_option maxHeartbeats 1000000 in
theorem implText_any (c s e : Int) (w : World) (hrd : Tab w) :
    Calls Tryd.prog 9 #[idV c s e] w fun x w' => x = .returned (.string (textB c s e)) ∧ Below w.heap.size w w' := by
  have RD := Lib.hid hrd
  clear hrd
  cases hr : rightB c s e
  · have HT := Lib.hid (show textB c s e = ⟨#[]⟩ by unfold textB; rw [hr]; rfl)
    have HR := Lib.hid hr
    clear hr
    unfold idV
    go_enter Tryd.func9, Tryd.ntmps9
    go_wp2_with fail
    refine (implRight_any c s e _).mono ?_
    rintro x w1 ⟨rfl, hb⟩
    rw [HR.out]
    have HB := Lib.hid (((Below.refl _ _).alloc (Nat.le_refl _) _).trans (hb.mono (by simp)))
    clear hb
    go_wp2_with fail
    go_ret
    exact ⟨by rw [HT.out]; rfl, HB.out⟩
  · obtain ⟨a, b, d, rfl, rfl, rfl, ha0, ha, hb0, hb, hd⟩ := right_nat hr
    have HT := Lib.hid (show textB a b d = ⟨(Lib.decDigits a ++ 46 :: (Lib.decDigits b ++ 46 :: Lib.decDigits d)).toArray⟩ by unfold textB; rw [hr]; rfl)
    have HR := Lib.hid hr
    have la := digs_le a (by omega)
    have lb := digs_le b (by omega)
    have ld := digs_le d (by omega)
    have HA := Lib.hid (digits_nat a (by omega))
    have HBb := Lib.hid (digits_nat b (by omega))
    have HD := Lib.hid (digits_nat d (by omega))
    have HJ := Lib.hid (join5 (Lib.decDigits a) (Lib.decDigits b) (Lib.decDigits d))
    clear hr ha0 ha hb0 hb hd
    generalize Lib.decDigits a = da at *
    generalize Lib.decDigits b = db at *
    generalize Lib.decDigits d = dd at *
    have z1 : ¬ 9223372036854775807 < da.length + 1 := by omega
    have z2 : ¬ 9223372036854775807 < da.length + 1 + db.length := by omega
    have z3 : ¬ 9223372036854775807 < da.length + 1 + db.length + 1 := by omega
    have z4 : ¬ 9223372036854775807 < da.length + 1 + db.length + 1 + dd.length := by omega
    unfold idV
    go_enter Tryd.func9, Tryd.ntmps9
    go_wp2_with fail
    refine (implRight_any a b d _).mono ?_
    rintro x w1 ⟨rfl, hb⟩
    rw [HR.out]
    have h0 : One w w.heap.size a b d w1 := ⟨((IdRow.new w 24 a b d).step hb (by simp)).cells, ((Below.refl _ _).alloc (Nat.le_refl _) _).trans (hb.mono (by simp))⟩
    have H0 := Lib.hid h0
    clear hb h0
    go_wp2_with fail
    have h0 := H0.out
    clear H0
    have RR : Tab w1.drew := (RD.out.on h0.2 (Nat.le_refl _)).drew
    generalize hbs : w.heap.size = q at h0 ⊢
    go_region_held3 (fun W => (W.cell? ⟨q, 0, none⟩ = some (.int .i64 (a : Int)) ∧ W.cell? ⟨q, 1, none⟩ = some (.int .i64 (b : Int)) ∧ W.cell? ⟨q, 2, none⟩ = some (.int .i64 (d : Int))) ∧ Below w.heap.size w W)
      (first | assumption | exact One.drew (b := q) (by assumption) | exact One.step (b := q) (by assumption) hb)
      (first | (go_at_call_of 24 (Value.int .i64 (a : Int)); refine (HA.out _ RR).mono ?_; rintro x w' ⟨rfl, hb⟩; have RR := RR.step hb) | (go_at_call_of 24 (Value.int .i64 (b : Int)); refine (HBb.out _ RR).mono ?_; rintro x w' ⟨rfl, hb⟩; have RR := RR.step hb) | (go_at_call_of 24 (Value.int .i64 (d : Int)); refine (HD.out _ RR).mono ?_; rintro x w' ⟨rfl, hb⟩; have RR := RR.step hb))
    have h1 : One w q a b d w' := by assumption
    go_wp2
    go_ret
    exact ⟨by rw [HT.out, ← HJ.out]; rfl, h1.2⟩
end Go.Proofs.YtbkgampfehjpaaaDoor.Id
