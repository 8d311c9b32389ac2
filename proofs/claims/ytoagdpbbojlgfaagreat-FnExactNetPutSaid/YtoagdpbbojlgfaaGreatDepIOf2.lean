/-
  impl.DepOf, impl.Covers, impl.ClockOf.
-/
import Derived.Test.YtoagdpbbojlgfaaGreatDepIRight
import Derived.Test.YtoagdpbbojlgfaaGreatDepCov2
import Derived.Test.YtoagdpbbojlgfaaGreatDepClock
namespace Go.Proofs.YtoagdpbbojlgfaaGreat.Dep
open Go.ChangeShapes Go.WideShapes Go.ChangeAt Go.RowKit
set_option linter.unusedVariables false
set_option maxRecDepth 100000

theorem implDepOf_any (A : Option Addr) (l : List D) (cap : Nat) (q : ByteArray) (w : World) (h : Lies w w.heap.size A l) (hl : l.length ≤ maxLen) (hk : ∀ d ∈ l, d.k.size ≤ maxLen) :
    Calls Tryz.prog 64 #[slV A l cap, .string q] w fun e w' => e = .returned (depOf l q).val ∧ Below w.heap.size w w' := by
  have HA := Lib.hid (fun W (hW : Below w.heap.size w W) => implDeps_any A l cap W ((h.below hW (Nat.le_refl _)).more hW.size) hl hk)
  have HO := Lib.hid (fun W (hW : Below w.heap.size w W) => implAt_any A l cap q W ((h.below hW (Nat.le_refl _)).more hW.size) hl)
  clear h hk
  unfold depOf
  generalize depsB l = x at HA ⊢
  generalize ofV l q = v at HO ⊢
  unfold slV at HA HO ⊢
  cases x
  all_goals
    go_enter Tryz.func64, Tryz.ntmps64
    go_wp2_with fail
    have B1 := (Below.refl w.heap.size w).alloc (Nat.le_refl _) (Obj.cells #[Value.int IntKind.i64 0, Value.int IntKind.i64 0, Value.int IntKind.i64 0] 40)
    have r := Id.IdRow.new w 40 0 0 0
    generalize hb : w.heap.size = b at *
    generalize World.alloc w _ = W at *
    refine (HA.out _ B1).mono ?_
    rintro x w1 ⟨rfl, hb1⟩
    have r1 := r.step hb1 r.lt
    have H1 := Lib.hid (B1.trans (hb1.mono (by have := B1.size; omega)))
    have R1 := Lib.hid r1
    clear hb1 r B1
    obtain ⟨c0, c1, c2⟩ := r1.cells
    have f0 := Id.id_free (Below.refl _ _) r1.lt r1 0
    have f1 := Id.id_free (Below.refl _ _) r1.lt r1 1
    have f2 := Id.id_free (Below.refl _ _) r1.lt r1 2
    clear r1
    go_wp2_with fail
  · refine bodyPost_ret (v := Id.idV 0 0 0) (by simp [results, Tryz.results64, go_sem, c0, c1, c2, Id.idV]) rfl ⟨rfl, ?_⟩
    exact ((H1.out.setCell (Nat.le_refl _) _).setCell (Nat.le_refl _) _).setCell (Nat.le_refl _) _
  · refine (HO.out _ H1.out).mono ?_
    rintro x w2 ⟨rfl, hb2⟩
    have r2 := R1.out.step hb2 R1.out.lt
    have H2 := Lib.hid (H1.out.trans (hb2.mono (by have := H1.out.size; omega)))
    clear hb2 c0 c1 c2 f0 f1 f2
    obtain ⟨c0, c1, c2⟩ := r2.cells
    have f0 := Id.id_free (Below.refl _ _) r2.lt r2 0
    have f1 := Id.id_free (Below.refl _ _) r2.lt r2 1
    have f2 := Id.id_free (Below.refl _ _) r2.lt r2 2
    clear r2
    unfold I.val Id.idV
    go_wp2_with fail
    refine bodyPost_ret (v := Id.idV v.c v.s v.e) (by simp [results, Tryz.results64, go_sem, c0, c1, c2, Id.idV]) rfl ⟨rfl, ?_⟩
    exact ((H2.out.setCell (Nat.le_refl _) _).setCell (Nat.le_refl _) _).setCell (Nat.le_refl _) _

theorem max2_max (a b : Int) : max2 a b = max a b := by unfold max2; split <;> omega

theorem implClock_any (A : Option Addr) (l : List D) (cap : Nat) (w : World) (h : Lies w w.heap.size A l) (hl : l.length ≤ maxLen) (hk : ∀ d ∈ l, d.k.size ≤ maxLen) :
    Calls Tryz.prog 295 #[slV A l cap] w fun x w' => x = .returned (.int .i64 (clockB l)) ∧ Below w.heap.size w w' := by
  have hl2 := hl
  unfold maxLen at hl2
  have HC := Lib.hid (implDeps_any A l cap w h hl hk)
  have H := Lib.hid h
  clear h
  unfold slV at HC ⊢
  cases hd : depsB l
  · have HV : Hid (clockB l = 0) := by exact Lib.hid (by unfold clockB; rw [hd]; rfl)
    rw [hd] at HC
    clear hd
    go_enter Tryz.func295, Tryz.ntmps295
    go_wp2_with fail
    refine HC.out.mono ?_
    rintro x w1 ⟨rfl, hb⟩
    have HB := Lib.hid hb
    clear hb
    go_wp2_with fail
    go_ret
    exact ⟨by rw [HV.out]; rfl, HB.out⟩
  · have HV : Hid (clockB l = clockV l) := by exact Lib.hid (by unfold clockB; rw [hd]; rfl)
    rw [hd] at HC
    clear hd
    go_enter Tryz.func295, Tryz.ntmps295
    go_wp2_with fail
    refine HC.out.mono ?_
    rintro x w1 ⟨rfl, hb⟩
    have HB := Lib.hid hb
    clear hb
    go_wp2_with fail
    go_loopw [3, 11] (fun n i wr => ∃ k : Nat, k ≤ l.length ∧ i = .int .i64 k ∧ ∃ v : Int, n = .int .i64 v ∧ Hid (v = clockV (l.take k) ∧ Below w.heap.size w wr)) (fun _ i _ => l.length - (intOf i).toNat)
    case atStart => exact ⟨0, by omega, rfl, 0, rfl, Lib.hid ⟨rfl, HB.out⟩⟩
    case round =>
      obtain ⟨k, hk, rfl, v, rfl, HR⟩ := hrel
      by_cases hlt : k < l.length
      · obtain ⟨ad, rfl, _, c0, c1, c2, c3⟩ := (H.out.below HR.out.2 (Nat.le_refl _)).at_ hlt
        have HB1 := Lib.hid (HR.out.2.alloc HR.out.2.size l[k].obj)
        have HN := Lib.hid (clock_step l k hlt)
        go_wp2_with fail
        go_roundw
        case rel => exact ⟨k + 1, by omega, by go_num, max v l[k].i.c, rfl, Lib.hid ⟨by rw [HN.out, ← HR.out.1, max2_max], HB1.out⟩⟩
        case measure => simp [intOf]; omega
      · go_wp2_with fail
        go_ret
        have e : v = clockV l := by have := HR.out.1; rwa [List.take_of_length_le (by omega)] at this
        exact ⟨by rw [HV.out, ← e]; rfl, HR.out.2⟩
end Go.Proofs.YtoagdpbbojlgfaaGreat.Dep
