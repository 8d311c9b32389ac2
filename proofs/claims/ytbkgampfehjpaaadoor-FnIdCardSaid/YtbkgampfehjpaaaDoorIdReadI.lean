/-
  The program's IdRead: of a right Id's text that Id; else the code.
-/
import Derived.Test.YtbkgampfehjpaaaDoorIdReadS
import Derived.WalkSmall
namespace Go.Proofs.YtbkgampfehjpaaaDoor.Id
open Go.ChangeShapes Go.WideShapes Go.ChangeAt Go.RowKit
set_option linter.unusedVariables false

theorem cut_len (l sep : List UInt8) : (Lib.cut l sep).1.length ≤ l.length ∧ (Lib.cut l sep).2.1.length ≤ l.length := by
  unfold Lib.cut
  split
  · simp only [List.length_take, List.length_drop]; omega
  · simp
theorem IdRow.stepA {X w1 : World} {o : Obj} {b t : Nat} {c s e : Int} (h : IdRow X b t c s e) (hb : Below (X.alloc o).heap.size (X.alloc o) w1) : IdRow w1 b t c s e := (h.alloc o).step hb (h.alloc o).lt
theorem reads_cut (x : ByteArray) : Reads x (numV (Lib.cut x.data.toList [46]).1) (numV (Lib.cut (Lib.cut x.data.toList [46]).2.1 [46]).1) (numV (Lib.cut (Lib.cut x.data.toList [46]).2.1 [46]).2.1) := by
  intro c s e hr ht
  obtain ⟨a, b, d, rfl, rfl, rfl, ha0, ha, hb0, hb, hd⟩ := right_nat hr
  have hx : x.data.toList = textL a b d := by rw [← ht]; unfold textB; rw [if_pos hr]; simp
  rw [hx]
  unfold textL
  rw [cut_at _ _ (dec_digs a)]
  simp only
  rw [cut_at _ _ (dec_digs b)]
  exact ⟨numV_dec a (by omega), numV_dec b (by omega), numV_dec d (by omega)⟩

/-- What idOf answers. -/
def IdOf (s : ByteArray) (x y z : Int) : Prop :=
  (textB x y z = s ∧ (s.data.toList = [] → x = 0 ∧ y = 0 ∧ z = 0)) ∨ (x = 0 ∧ y = 0 ∧ z = 0 ∧ ∃ a b d, Reads s a b d ∧ textB a b d ≠ s)

set_option maxHeartbeats 2000000 in
set_option maxRecDepth 100000 in
theorem idOf_any (s : ByteArray) (w : World) (hs : s.size ≤ 8000) (hrd : Ready w) :
    Calls Tryd.prog 28 #[.string s] w fun q w' => ∃ x y z, q = .returned (idV x y z) ∧ IdOf s x y z ∧ Below w.heap.size w w' := by
  have HRC := Lib.hid (reads_cut s)
  have HNIL : Hid (s.data.toList = [] → numV (Lib.cut s.data.toList [46]).1 = 0 ∧ numV (Lib.cut (Lib.cut s.data.toList [46]).2.1 [46]).1 = 0 ∧ numV (Lib.cut (Lib.cut s.data.toList [46]).2.1 [46]).2.1 = 0) := Lib.hid (fun h => by
    rw [h, cut_nil]; simp only; rw [cut_nil]; exact ⟨numV_nil, numV_nil, numV_nil⟩)
  have hc1 := cut_len s.data.toList [46]
  have hc2 := cut_len (Lib.cut s.data.toList [46]).2.1 [46]
  rw [list_len] at hc1
  obtain ⟨m, hm⟩ := hrd.2.1
  have HC1 := Lib.hid (Tryd.strings_Cut s ⟨#[46]⟩ m (w.alloc (.cells #[.int .i64 0, .int .i64 0, .int .i64 0] 24)) (by omega) (Lib.Below.cellOf ((Below.refl _ _).alloc (Nat.le_refl _) _) hm (Nat.le_refl _)))
  have RD := Lib.hid (hrd.alloc (.cells #[.int .i64 0, .int .i64 0, .int .i64 0] 24))
  have HM := Lib.hid hm
  clear hm hrd
  generalize Lib.cut s.data.toList [46] = c1 at *
  obtain ⟨l1, l2, t1⟩ := c1
  simp only at HRC HNIL hc1 hc2
  have hl1 : ∀ l : List UInt8, l.length ≤ s.size → (⟨l.toArray⟩ : ByteArray).size ≤ 8000 := fun l h => by
    show l.toArray.size ≤ 8000
    simp; omega
  have HC2 : Hid (∀ W : World, W.cell? ⟨1, 0, none⟩ = some (.int .i64 m) → Calls Tryd.prog 38 #[.string ⟨l2.toArray⟩, .string ⟨#[46]⟩] W fun e w' => e = .returned (.tuple #[.string ⟨(Lib.cut l2 [46]).1.toArray⟩, .string ⟨(Lib.cut l2 [46]).2.1.toArray⟩, .bool (Lib.cut l2 [46]).2.2]) ∧ ∃ n, w' = W.drewN n) :=
    Lib.hid (fun W h => Tryd.strings_Cut ⟨l2.toArray⟩ ⟨#[46]⟩ m W (by have := hl1 l2 hc1.2; omega) h)
  generalize Lib.cut l2 [46] = c2 at *
  obtain ⟨l3, l4, t2⟩ := c2
  simp only at HRC HNIL hc2 HC2
  have N1 : Hid (∀ W : World, Ready W → Calls Tryd.prog 39 #[.string ⟨l1.toArray⟩] W fun e w' => e = .returned (.int .i64 (numV l1)) ∧ Below W.heap.size W w') :=
    Lib.hid (fun W h => numberOf_any ⟨l1.toArray⟩ (by have := hl1 l1 hc1.1; omega) W h)
  have N2 : Hid (∀ W : World, Ready W → Calls Tryd.prog 39 #[.string ⟨l3.toArray⟩] W fun e w' => e = .returned (.int .i64 (numV l3)) ∧ Below W.heap.size W w') :=
    Lib.hid (fun W h => numberOf_any ⟨l3.toArray⟩ (by have := hl1 l3 (by omega); omega) W h)
  have N3 : Hid (∀ W : World, Ready W → Calls Tryd.prog 39 #[.string ⟨l4.toArray⟩] W fun e w' => e = .returned (.int .i64 (numV l4)) ∧ Below W.heap.size W w') :=
    Lib.hid (fun W h => numberOf_any ⟨l4.toArray⟩ (by have := hl1 l4 (by omega); omega) W h)
  clear hl1 hc1 hc2
  generalize numV l1 = x at HRC HNIL N1
  generalize numV l3 = y at HRC HNIL N2
  generalize numV l4 = z at HRC HNIL N3
  go_enter Tryd.func28, Tryd.ntmps28
  go_wp2_with fail
  refine HC1.out.mono ?_
  rintro q w1 ⟨rfl, n1, hw1⟩
  have hb1 : Below (w.alloc (.cells #[.int .i64 0, .int .i64 0, .int .i64 0] 24)).heap.size (w.alloc (.cells #[.int .i64 0, .int .i64 0, .int .i64 0] 24)) w1 := by rw [hw1]; exact below_drewN (Below.refl _ _) n1
  have R1 := Lib.hid ((IdRow.new w 24 0 0 0).step hb1 (by simp))
  have D1 := Lib.hid (RD.out.step hb1)
  have B1 := Lib.hid (((Below.refl _ _).alloc (Nat.le_refl _) _).trans (hb1.mono (by simp)))
  have M1 := Lib.hid (Lib.Below.cellOf hb1 (Lib.Below.cellOf ((Below.refl _ _).alloc (Nat.le_refl _) _) HM.out (Nat.le_refl _)) (Nat.le_refl _))
  clear hw1 hb1 HC1
  go_wp2_with fail
  refine (HC2.out _ M1.out).mono ?_
  rintro q w2 ⟨rfl, n2, hw2⟩
  have hb2 : Below w1.heap.size w1 w2 := by rw [hw2]; exact below_drewN (Below.refl _ _) n2
  have R2 := Lib.hid (R1.out.step hb2 R1.out.lt)
  have D2 := Lib.hid (D1.out.step hb2)
  have B2 := Lib.hid (B1.out.trans (hb2.mono B1.out.size))
  clear hw2 hb2
  go_wp2_with fail
  refine (N1.out _ D2.out).mono ?_
  rintro q w3 ⟨rfl, hb3⟩
  have R3 := Lib.hid (R2.out.step hb3 R2.out.lt)
  have D3 := Lib.hid (D2.out.step hb3)
  have B3 := Lib.hid (B2.out.trans (hb3.mono B2.out.size))
  clear hb3
  go_wp2_with fail
  refine (N2.out _ D3.out).mono ?_
  rintro q w4 ⟨rfl, hb4⟩
  have R4 := Lib.hid (R3.out.step hb4 R3.out.lt)
  have D4 := Lib.hid (D3.out.step hb4)
  have B4 := Lib.hid (B3.out.trans (hb4.mono B3.out.size))
  clear hb4
  go_wp2_with fail
  refine (N3.out _ D4.out).mono ?_
  rintro q w5 ⟨rfl, hb5⟩
  have R5 := Lib.hid (R4.out.step hb5 R4.out.lt)
  have D5 := Lib.hid (D4.out.step hb5)
  have B5 := Lib.hid (B4.out.trans (hb5.mono B4.out.size))
  clear hb5
  go_wp2_with fail
  refine (implText_any x y z _ (D5.out.alloc _).tab).mono ?_
  rintro q w6 ⟨rfl, hb6⟩
  have I6 := (IdRow.new w5 24 x y z).step hb6 (by simp)
  have R6 := IdRow.stepA R5.out hb6
  have B6 := Lib.hid ((B5.out.alloc B5.out.size _).trans (hb6.mono (by have := B5.out.size; simp; omega)))
  obtain ⟨a0, a1, a2⟩ := I6.cells
  obtain ⟨r0, r1, r2⟩ := R6.cells
  obtain ⟨f0, f1, f2⟩ := R6.frozen
  clear hb6 I6 R6
  by_cases ht : textB x y z = s
  · have e3 : ((textB x y z).toList == s.toList) = true := by rw [ht]; exact beq_self_eq_true _
    have HT := Lib.hid ht
    clear ht
    generalize hx : textB x y z = tx at e3 HT ⊢
    have HX := Lib.hid hx
    clear hx
    go_wp2_with fail
    exact bodyPost_ret (v := idV x y z) (by simp [results, Tryd.results28, go_sem, idV, r0, r1, r2]) rfl
      ⟨x, y, z, rfl, .inl ⟨HX.out.trans HT.out, HNIL.out⟩, ((B6.out.setCell (Nat.le_refl _) _).setCell (Nat.le_refl _) _).setCell (Nat.le_refl _) _⟩
  · have e3 : ((textB x y z).toList == s.toList) = false := str_ne ht
    have HT : Hid (∃ a b d, Reads s a b d ∧ textB a b d ≠ s) := Lib.hid ⟨x, y, z, HRC.out, ht⟩
    clear ht
    generalize textB x y z = tx at e3 ⊢
    go_wp2_with fail
    exact bodyPost_ret (v := idV 0 0 0) (by simp [results, Tryd.results28, go_sem, idV, r0, r1, r2]) rfl
      ⟨0, 0, 0, rfl, .inr ⟨rfl, rfl, rfl, HT.out⟩, ((B6.out.setCell (Nat.le_refl _) _).setCell (Nat.le_refl _) _).setCell (Nat.le_refl _) _⟩

set_option maxHeartbeats 2000000 in
set_option maxRecDepth 100000 in
theorem implRead_any (s : ByteArray) (w : World) (hs : s.size ≤ 1048576) (hrd : Ready w) :
    Calls Tryd.prog 11 #[.string s] w fun x w' => x = .returned (rdV s) ∧ Below w.heap.size w w' := by
  by_cases h1 : 8000 < s.size
  · have HV := Lib.hid (rdV_big h1)
    clear hrd
    go_enter Tryd.func11, Tryd.ntmps11
    go_wp2_with fail
    exact bodyPost_ret (v := outV 0 0 0 2) (by simp [results, Tryd.results11, go_sem, outV]) rfl ⟨by rw [HV.out], (Below.refl _ _).alloc (Nat.le_refl _) _⟩
  · have h8 : ¬ (8000 : Int) < (s.size : Int) := by omega
    have HS := Lib.hid h1
    have RD := Lib.hid hrd
    clear h1 hrd
    go_enter Tryd.func11, Tryd.ntmps11
    go_wp2_with fail
    refine (idOf_any s _ (by have := HS.out; omega) (RD.out.alloc _)).mono ?_
    rintro q w1 ⟨x, y, z, rfl, ho, hb⟩
    have HR := (OutRow.new w 32 0 0 0 0).step hb (by simp)
    have HB := Lib.hid (((Below.refl _ _).alloc (Nat.le_refl _) _).trans (hb.mono (by simp)))
    have HO := Lib.hid ho
    unfold idV
    obtain ⟨⟨r0, r1, r2, r3⟩, f0, f1, f2, f3⟩ := HR.cells
    have hlt := HR.lt
    have HR := Lib.hid HR
    clear hb ho
    have key : (x = 0 ∧ y = 0 ∧ z = 0) ∨ (x ≠ 0) ∨ (x = 0 ∧ y ≠ 0) ∨ (x = 0 ∧ y = 0 ∧ z ≠ 0) := by omega
    have ok : ¬ (x = 0 ∧ y = 0 ∧ z = 0) → rdV s = outV x y z 0 := fun hz => by
      rcases HO.out with ⟨ht, hn⟩ | ⟨h1, h2, h3, _⟩
      · exact rdV_ok HS.out (right_of_text ht (fun e => hz (hn e))) ht
      · exact absurd ⟨h1, h2, h3⟩ hz
    rcases key with hz | hz | hz | hz
    · obtain ⟨rfl, rfl, rfl⟩ := hz
      clear ok
      have HV : Hid (rdV s = outV 0 0 0 3) := Lib.hid (by
        rcases HO.out with ⟨ht, _⟩ | ⟨_, _, _, a, b, d, hr, hn⟩
        · exact rdV_of_nil (by rw [← ht]; rfl)
        · exact rdV_of_reads_no HS.out hr hn)
      go_wp2_with fail
      have hsz : w.heap.size ≤ w1.heap.size := Nat.le_of_lt hlt
      obtain ⟨⟨c0, c1, c2, c3⟩, _⟩ := ((HR.out.put 0 0 0 3).alloc (Obj.cells #[.int .i64 0, .int .i64 0, .int .i64 0] 24)).cells
      exact bodyPost_ret (v := outV 0 0 0 3) (by simp [results, Tryd.results11, go_sem, outV, c0, c1, c2, c3]) rfl
        ⟨by rw [HV.out], ((((HB.out.setCell (Nat.le_refl _) _).setCell (Nat.le_refl _) _).setCell (Nat.le_refl _) _).setCell (Nat.le_refl _) _).alloc (by simpa [World.setCell] using hsz) _⟩
    · have HV := Lib.hid (ok (fun h => hz h.1))
      clear ok
      go_wp2_with fail
      have hsz : w.heap.size ≤ w1.heap.size := Nat.le_of_lt hlt
      obtain ⟨⟨c0, c1, c2, c3⟩, _⟩ := ((HR.out.put x y z 0).alloc (Obj.cells #[.int .i64 x, .int .i64 y, .int .i64 z] 24)).cells
      exact bodyPost_ret (v := outV x y z 0) (by simp [results, Tryd.results11, go_sem, outV, c0, c1, c2, c3]) rfl
        ⟨by rw [HV.out], ((((HB.out.setCell (Nat.le_refl _) _).setCell (Nat.le_refl _) _).setCell (Nat.le_refl _) _).setCell (Nat.le_refl _) _).alloc (by simpa [World.setCell] using hsz) _⟩
    · obtain ⟨rfl, hz⟩ := hz
      have HV := Lib.hid (ok (fun h => hz h.2.1))
      clear ok
      go_wp2_with fail
      have hsz : w.heap.size ≤ w1.heap.size := Nat.le_of_lt hlt
      obtain ⟨⟨c0, c1, c2, c3⟩, _⟩ := ((HR.out.put 0 y z 0).alloc (Obj.cells #[.int .i64 0, .int .i64 y, .int .i64 z] 24)).cells
      exact bodyPost_ret (v := outV 0 y z 0) (by simp [results, Tryd.results11, go_sem, outV, c0, c1, c2, c3]) rfl
        ⟨by rw [HV.out], ((((HB.out.setCell (Nat.le_refl _) _).setCell (Nat.le_refl _) _).setCell (Nat.le_refl _) _).setCell (Nat.le_refl _) _).alloc (by simpa [World.setCell] using hsz) _⟩
    · obtain ⟨rfl, rfl, hz⟩ := hz
      have HV := Lib.hid (ok (fun h => hz h.2.2))
      clear ok
      go_wp2_with fail
      have hsz : w.heap.size ≤ w1.heap.size := Nat.le_of_lt hlt
      obtain ⟨⟨c0, c1, c2, c3⟩, _⟩ := ((HR.out.put 0 0 z 0).alloc (Obj.cells #[.int .i64 0, .int .i64 0, .int .i64 z] 24)).cells
      exact bodyPost_ret (v := outV 0 0 z 0) (by simp [results, Tryd.results11, go_sem, outV, c0, c1, c2, c3]) rfl
        ⟨by rw [HV.out], ((((HB.out.setCell (Nat.le_refl _) _).setCell (Nat.le_refl _) _).setCell (Nat.le_refl _) _).setCell (Nat.le_refl _) _).alloc (by simpa [World.setCell] using hsz) _⟩
end Go.Proofs.YtbkgampfehjpaaaDoor.Id
