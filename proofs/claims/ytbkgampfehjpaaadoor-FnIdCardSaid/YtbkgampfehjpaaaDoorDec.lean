/-
  The given model's l01Dec writes a number that is not below 0 in decimal digits.
-/
import Derived.Test.YtbkgampfehjpaaaDoorRows
import Derived.WalkKit
import Derived.ProofKit
import Derived.OpenShut
import Derived.ShutString
import Derived.Lib.Hide
import Derived.Lib.SlBuf
import Derived.Lib.ItoaNum
namespace Go.Proofs.YtbkgampfehjpaaaDoor.Dec
open Go.ChangeShapes Go.WideShapes Go.ChangeAt Go.RowKit
set_option linter.unusedVariables false

/-- What is left to write of m, ahead of what is written. -/
def rest (m : Nat) : List UInt8 := if m = 0 then [] else Lib.decDigits m
theorem rest_step (m : Nat) (h : m ≠ 0) : rest m = rest (m / 10) ++ [UInt8.ofNat (48 + m % 10)] := by
  unfold rest
  rw [if_neg h, Lib.decDigits]
  by_cases h1 : m < 10
  · rw [dif_pos h1, if_pos (by omega), Nat.mod_eq_of_lt h1]; rfl
  · rw [dif_neg h1, if_neg (by omega)]
theorem rest_len (m : Nat) : (rest m).length ≤ m := by
  induction m using Nat.strongRecOn with
  | _ m ih =>
    by_cases h : m = 0
    · simp [rest, h]
    · rw [rest_step m h, List.length_append]
      have := ih (m / 10) (by omega)
      simp; omega

set_option maxRecDepth 100000 in
theorem dec_any (n : Nat) (w : World) (h1 : n ≤ 1000000) :
    Calls Tryd.prog 30 #[.int .i64 (n : Nat)] w fun e w' => e = .returned (.string ⟨(Lib.decDigits n).toArray⟩) ∧ Below w.heap.size w w' := by
  by_cases hz : n = 0
  · subst hz
    go_enter Tryd.func30, Tryd.ntmps30
    go_wp2
    go_ret
    exact ⟨by rw [Lib.decDigits]; rfl, Below.refl _ _⟩
  · have hz2 : ((n : Int) == 0) = false := by simp; omega
    have hz3 : ¬ (n : Int) < 0 := by omega
    go_enter Tryd.func30, Tryd.ntmps30
    go_wp2_with fail
    go_loopw [0, 4] (fun z s wr => ∃ m : Nat, m ≤ n ∧ z = .int .i64 (m : Nat) ∧ ∃ acc : List UInt8, s = .string ⟨acc.toArray⟩ ∧ Hid (rest m ++ acc = rest n ∧ Below w.heap.size w wr)) (fun z _ _ => (intOf z).toNat)
    case atStart => exact ⟨n, by omega, rfl, [], rfl, Lib.hid ⟨by simp, Below.refl _ _⟩⟩
    case round =>
      obtain ⟨m, hm, rfl, acc, rfl, HR⟩ := hrel
      by_cases hm0 : m = 0
      · subst hm0
        go_wp2_with fail
        go_ret
        obtain rfl : acc = Lib.decDigits n := by simpa [rest, hz] using HR.out.1
        exact ⟨rfl, HR.out.2⟩
      · have hm2 : ((m : Int) == 0) = false := by simp; omega
        have e1 : (m : Int).tmod 10 = ((m % 10 : Nat) : Int) := by rw [Int.tmod_eq_emod_of_nonneg (by omega)]; omega
        have e2 : (m : Int).tdiv 10 = ((m / 10 : Nat) : Int) := by rw [Int.tdiv_eq_ediv_of_nonneg (by omega)]; omega
        have e3 : ¬ ((m % 10 : Nat) : Int) < 0 := by omega
        have hcell : (wr.alloc (.cells #[.int .u8 (48 + (m : Int) % 10)] 5)).cell? ⟨wr.heap.size, 0, none⟩ = some (.int .u8 (48 + (m : Int) % 10)) := cell_of_row _ _ 0 _ 5 (0, 0) (heap_alloc_new wr _)
        have hd : ((UInt8.ofNat (48 + m % 10)).toNat : Int) = 48 + (m : Int) % 10 := by
          rw [UInt8.toNat_ofNat_of_lt' (by simp [UInt8.size]; omega)]; omega
        have hconv : (convert 22 9 (.slice (some ⟨wr.heap.size, 0, none⟩) 1 1)).run Tryd.prog (wr.alloc (.cells #[.int .u8 (48 + (m : Int) % 10)] 5)) = .ok (.string ⟨[UInt8.ofNat (48 + m % 10)].toArray⟩) (wr.alloc (.cells #[.int .u8 (48 + (m : Int) % 10)] 5)) := run_convert_bytes_back (P := Tryd.prog) (wr.alloc (.cells #[.int .u8 (48 + (m : Int) % 10)] 5)) 22 9 5 ⟨wr.heap.size, 0, none⟩ 1 [UInt8.ofNat (48 + m % 10)] Tryd.underlying22 Tryd.underlying5 Tryd.underlying9 (fun j hj => by
          obtain rfl : j = 0 := by simpa using hj
          exact hcell.trans (by rw [← hd]; rfl))
        have hlen : ((⟨[UInt8.ofNat (48 + m % 10)].toArray⟩ : ByteArray) ++ ⟨acc.toArray⟩ : ByteArray) = ⟨(UInt8.ofNat (48 + m % 10) :: acc).toArray⟩ := by
          apply ByteArray.ext; simp [ByteArray.data_append]
        have HA := Lib.hid hlen
        have hal : acc.length ≤ 1000000 := by
          have h5 := congrArg List.length HR.out.1
          rw [List.length_append] at h5
          have := rest_len n
          omega
        have HS := Lib.hid (rest_step m hm0)
        clear hcell hd hlen
        generalize UInt8.ofNat (48 + m % 10) = d at hconv HA HS
        go_wp2_with fail
        go_roundw
        case rel => exact ⟨m / 10, by omega, by go_num, d :: acc, by rw [← HA.out], Lib.hid ⟨by rw [← HR.out.1, HS.out]; simp, HR.out.2.alloc HR.out.2.size _⟩⟩
        case measure => simp [intOf]; omega
end Go.Proofs.YtbkgampfehjpaaaDoor.Dec
