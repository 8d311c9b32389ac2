/-
  The given model's IdRead: of a right Id's text that Id; else the code.
-/
import Derived.Test.YtbkgampfehjpaaaDoorIdRead
namespace Go.Proofs.YtbkgampfehjpaaaDoor.Id
open Go.ChangeShapes Go.WideShapes Go.ChangeAt Go.RowKit
set_option linter.unusedVariables false

set_option maxHeartbeats 2000000 in
set_option maxRecDepth 100000 in
theorem specRead_any (s : ByteArray) (w : World) (hs : s.size ≤ 1048576) :
    Calls Tryd.prog 16 #[.string s] w fun x w' => x = .returned (rdV s) ∧ Below w.heap.size w w' := by
  by_cases h1 : 8000 < s.size
  · have HV := Lib.hid (rdV_big h1)
    go_enter Tryd.func16, Tryd.ntmps16
    go_wp2_with fail
    exact bodyPost_ret (v := outV 0 0 0 2) (by simp [results, Tryd.results16, go_sem, outV]) rfl ⟨by rw [HV.out], (Below.refl _ _).alloc (Nat.le_refl _) _⟩
  · have h8 : ¬ (8000 : Int) < (s.size : Int) := by omega
    have HS := Lib.hid h1
    clear h1
    go_enter Tryd.func16, Tryd.ntmps16
    go_wp2_with fail
    refine (split_any s _ hs).mono ?_
    rintro x w1 ⟨v, ps, rfl, hown, hps, hb⟩
    rcases hown.2 with ⟨_, h0⟩ | ⟨g, cap, cur, rfl, _, hgg, hle, hm, _, _⟩
    · exact absurd hps (by rw [List.eq_nil_of_length_eq_zero h0]; exact fun e => splitFrom_ne _ _ e.symm)
    have hgl : g < w1.heap.size := (Array.getElem?_eq_some_iff.1 hgg).1
    have HC : Hid (∀ (j : Nat) (p : ByteArray), ps[j]? = some p → w1.cell? ⟨g, j, none⟩ = some (.string p)) := Lib.hid (fun j p hj => by
      have := hown.cells (g := g) rfl j (.string p) (by rw [List.getElem?_map, hj]; rfl)
      cases j <;> simpa [Addr.add] using this)
    have HR := Lib.hid ((OutRow.new w 32 0 0 0 0).step hb (by simp))
    have HB := Lib.hid (((Below.refl _ _).alloc (Nat.le_refl _) _).trans (hb.mono (by simp)))
    have HP := Lib.hid hps
    clear hb hps hown hgg
    go_upto_if 14 with fail
    go_cut [4] (fun s4 wx => ∃ (ga : Nat) (x y z : Int), s4 = .pointer (some ⟨ga, 0, none⟩) ∧ IdRow wx ga 24 x y z ∧ OutRow wx w.heap.size 32 0 0 0 0 ∧ Below w.heap.size w wx ∧ Reads s x y z)
    case first =>
      by_cases h3 : ps.length = 3
      · obtain ⟨p0, p1, p2, rfl⟩ : ∃ p0 p1 p2, ps = [p0, p1, p2] := by
          match ps, h3 with
          | [a, b, c], _ => exact ⟨a, b, c, rfl⟩
        have c0 := HC.out 0 p0 rfl
        have c1 := HC.out 1 p1 rfl
        have c2 := HC.out 2 p2 rfl
        have hsz : ∀ p ∈ [p0, p1, p2], p.size ≤ 1048576 := fun p hp => by
          have h4 := splitFrom_len s.data.toList [] p.data.toList (by rw [← HP.out]; exact List.mem_map_of_mem hp)
          rw [list_len, list_len] at h4
          simp at h4; omega
        have N0 := Lib.hid (fun w => num_any p0 w (hsz p0 (by simp)))
        have N1 := Lib.hid (fun w => num_any p1 w (hsz p1 (by simp)))
        have N2 := Lib.hid (fun w => num_any p2 w (hsz p2 (by simp)))
        have RD := Lib.hid (reads_split HP.out)
        clear hsz h3 HC
        generalize numS p0.data.toList = x0 at N0 RD
        generalize numS p1.data.toList = x1 at N1 RD
        generalize numS p2.data.toList = x2 at N2 RD
        go_wp2_with fail
        have B1 := Lib.hid ((Below.refl w1.heap.size w1).alloc (Nat.le_refl _) (Obj.cells #[Value.int IntKind.i64 0, Value.int IntKind.i64 0, Value.int IntKind.i64 0] 24))
        have rA := IdRow.new w1 24 0 0 0
        generalize World.alloc w1 _ = W1 at B1 rA ⊢
        have d0 := Lib.Below.cellOf B1.out c0 (Nat.le_refl _)
        have d1 := Lib.Below.cellOf B1.out c1 (Nat.le_refl _)
        have d2 := Lib.Below.cellOf B1.out c2 (Nat.le_refl _)
        obtain ⟨a0, a1, a2⟩ := rA.cells
        obtain ⟨f0, f1, f2⟩ := rA.frozen
        have RA := Lib.hid rA
        have HO := Lib.hid (HR.out.step B1.out HR.out.lt)
        clear c0 c1 c2 rA
        have HGA : Hid (w.heap.size < w1.heap.size) := Lib.hid HR.out.lt
        generalize w1.heap.size = ga at *
        refine wp_region_still_tail 13 (by kernel_rfl) (by kernel_rfl) ?_
        change wpStill _ _ (World.drew _) (fun a' => wpList _ _ _ _ a' (World.drew _)) _ _
        simp only [List.take_succ_cons, List.take_zero, List.drop_succ_cons, List.drop_zero]
        repeat still_step
        still_call ((N0.out _).mono (fun e w' h => ⟨h.1, h.2.symm⟩))
        repeat still_step
        still_call ((N1.out _).mono (fun e w' h => ⟨h.1, h.2.symm⟩))
        repeat still_step
        still_call ((N2.out _).mono (fun e w' h => ⟨h.1, h.2.symm⟩))
        repeat still_step
        refine wpStill_nil ?_
        go_wp2_with fail
        go_meet
        exact ⟨ga, x0, x1, x2, rfl, RA.out.put, HO.out.step (below_put W1 ga _ _ _).drew HGA.out, (HB.out.trans ((B1.out.trans (below_put W1 ga _ _ _)).mono (Nat.le_of_lt HGA.out))).drew, RD.out⟩
      · have h3b : ((ps.length : Int) == 3) = false := beq_eq_false_iff_ne.2 (by omega)
        go_wp2_with fail
        go_meet
        exact ⟨w1.heap.size, 0, 0, 0, rfl, IdRow.new _ _ _ _ _, HR.out.alloc _, HB.out.alloc HB.out.size _, reads_not3 HP.out h3⟩
    case rest =>
      obtain ⟨ga, x, y, z, rfl, hI, hO, hb, hR⟩ := hcut
      have RD := Lib.hid hR
      have HB2 := Lib.hid hb
      have HI := Lib.hid hI
      have HO := Lib.hid hO
      clear hR hb
      by_cases hE : s.data.toList = []
      · have e1 : (s.toList == []) = true := by rw [ByteArray.toList_eq, hE]; rfl
        have HV := Lib.hid (rdV_of_nil hE)
        obtain ⟨⟨r0, r1, r2, r3⟩, f0, f1, f2, f3⟩ := hO.cells
        clear hE hI hO
        go_wp2_with fail
        exact bodyPost_ret (v := outV 0 0 0 3) (by simp [results, Tryd.results16, go_sem, outV, r0, r1, r2, r3]) rfl
          ⟨by rw [HV.out], (((HB2.out.setCell (Nat.le_refl _) _).setCell (Nat.le_refl _) _).setCell (Nat.le_refl _) _).setCell (Nat.le_refl _) _⟩
      · have e1 : (s.toList == []) = false := by rw [ByteArray.toList_eq]; exact beq_eq_false_iff_ne.2 hE
        have HE := Lib.hid hE
        obtain ⟨a0, a1, a2⟩ := hI.cells
        clear hE hI hO
        go_wp2_with fail
        refine (specText_any x y z _).mono ?_
        rintro q w2 ⟨rfl, hb2⟩
        have HI2 := HI.out.step hb2 HI.out.lt
        have HO2 := HO.out.step hb2 HO.out.lt
        obtain ⟨⟨r0, r1, r2, r3⟩, f0, f1, f2, f3⟩ := HO2.cells
        have HB3 := Lib.hid (HB2.out.trans (hb2.mono HB2.out.size))
        clear hb2 HO2 a0 a1 a2
        obtain ⟨a0, a1, a2⟩ := HI2.cells
        clear HI2
        by_cases ht : textB x y z = s
        · have e3 : ((textB x y z).toList == s.toList) = true := by rw [ht]; exact beq_self_eq_true _
          have HV := Lib.hid (rdV_ok HS.out (right_of_text ht HE.out) ht)
          clear ht
          generalize textB x y z = tx at *
          go_wp2_with fail
          exact bodyPost_ret (v := outV x y z 0) (by simp [results, Tryd.results16, go_sem, outV, r0, r1, r2, r3]) rfl
            ⟨by rw [HV.out], (((HB3.out.setCell (Nat.le_refl _) _).setCell (Nat.le_refl _) _).setCell (Nat.le_refl _) _).setCell (Nat.le_refl _) _⟩
        · have e3 : ((textB x y z).toList == s.toList) = false := str_ne ht
          have HV := Lib.hid (rdV_of_reads_no HS.out RD.out ht)
          clear ht
          generalize textB x y z = tx at *
          go_wp2_with fail
          exact bodyPost_ret (v := outV 0 0 0 3) (by simp [results, Tryd.results16, go_sem, outV, r0, r1, r2, r3]) rfl
            ⟨by rw [HV.out], (((HB3.out.setCell (Nat.le_refl _) _).setCell (Nat.le_refl _) _).setCell (Nat.le_refl _) _).setCell (Nat.le_refl _) _⟩
end Go.Proofs.YtbkgampfehjpaaaDoor.Id
