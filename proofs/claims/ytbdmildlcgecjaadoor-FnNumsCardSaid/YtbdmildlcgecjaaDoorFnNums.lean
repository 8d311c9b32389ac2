/-
  The Go law FnNums answers true for all bytes: a drawn number, or text, comes back from its bytes with the place behind it; of bytes that end too early nothing comes back.
  No condition beside the form's own bounds and the handle of the package's error type.
-/
import Derived.Test.YtbdmildlcgecjaaDoorNumMath
import Derived.Test.YtbdmildlcgecjaaDoorDrawF
namespace Go.Proofs.YtbdmildlcgecjaaDoor.FnNums
open Go.ChangeShapes Go.WideShapes Go.ChangeAt Go.RowKit
set_option linter.unusedVariables false

def IsRow (k : IntKind) (w : World) (a : Option Addr) (len cap : Nat) (zs : List Int) : Prop :=
  (a = none ∧ len = 0 ∧ cap = 0 ∧ zs = []) ∨
  ∃ x, a = some x ∧ len ≤ cap ∧ cap ≤ maxLen ∧ zs.length = cap ∧ (∀ i, i < zs.length → w.cell? (x.add i) = some (.int k (zs.getD i 0))) ∧ ∀ n ∈ zs, (Lit.int k n).wf = true
theorem bytes_of_row {w : World} {a : Option Addr} {len cap : Nat} {zs : List Int} (h : IsRow .u8 w a len cap zs) (hl : len ≤ 1048576) : Src.Bytes w.heap.size w a len cap := by
  refine ⟨hl, fun hp => ?_⟩
  rcases h with ⟨rfl, rfl, _, _⟩ | ⟨x, rfl, h1, h2, h3, h4, h5⟩
  · omega
  · obtain ⟨cb, co, rfl, hc⟩ := ints_at h4 (by omega)
    refine ⟨cb, co, rfl, World.block_lt_of_cell? w ⟨cb, co + 0, none⟩ (hc 0 (by omega)), fun i hi => ?_⟩
    have := range_u8 h5 i
    exact ⟨_, this.1, this.2, by have := hc i (by omega); simpa using this⟩

theorem size_list (s : ByteArray) : s.data.toList.length = s.size := by simp
theorem gen_calls {P : Program} {f : Nat} {args : Array Value} {Q : Ending → World → Prop} {W : World} (R : World → Prop) (h : R W) (k : ∀ W, R W → Calls P f args W Q) : Calls P f args W Q := k W h
theorem getNum_put (n : Int) (h0 : -9223372036854775808 ≤ n) (h1 : n ≤ 9223372036854775807) (w : World) (hw : Gn.Handle w) :
    Calls Tryd.prog 9 #[.string (⟨#[120, 121]⟩ ++ Num.putS n ++ ⟨#[122]⟩), .int .i64 2] w fun e w' => e = .returned (.agg #[.int .i64 n, .int .i64 (((Num.putS n).size : Int) + 2), .int .i64 0]) ∧ Below w.heap.size w w' := by
  have hz := (Num.putS_size n).2
  have h := Gn.implGetNum_any (⟨#[120, 121]⟩ ++ Num.putS n ++ ⟨#[122]⟩) 2 w (by simp only [ByteArray.size_append]; unfold maxLen; show 2 + _ + 1 ≤ _; omega) (by omega) (by omega) hw
  have hg := Gn.gn_at ⟨#[120, 121]⟩ ⟨#[122]⟩ n h0 h1 (by show 2 + 10 + 1 ≤ _; omega)
  rw [show (((⟨#[120, 121]⟩ : ByteArray).size : Int)) = 2 from rfl] at hg
  unfold Gn.gnV at h
  rw [hg, Int.add_comm] at h
  exact h
theorem getNum_cut (n : Int) (h0 : -9223372036854775808 ≤ n) (h1 : n ≤ 9223372036854775807) (w : World) (hw : Gn.Handle w) :
    Calls Tryd.prog 9 #[.string ((Num.putS n).extract 0 ((Num.putS n).size - 1)), .int .i64 0] w fun e w' => e = .returned (.agg #[.int .i64 0, .int .i64 0, .int .i64 4]) ∧ Below w.heap.size w w' := by
  have hz := (Num.putS_size n).2
  have h := Gn.implGetNum_any ((Num.putS n).extract 0 ((Num.putS n).size - 1)) 0 w (by rw [ByteArray.size_extract]; unfold maxLen; omega) (by omega) (by omega) hw
  have hg := Gn.gn_cut n h0 h1
  unfold Gn.gnV at h
  rw [hg] at h
  exact h
theorem getText_put (u : ByteArray) (h : u.size ≤ 8000) (hp : (Text.putT u).size + 1 ≤ 8000) (w : World) (hw : Gn.Handle w) :
    Calls Tryd.prog 13 #[.string (⟨#[120]⟩ ++ Text.putT u), .int .i64 1] w fun e w' => e = .returned (.agg #[.string u, .int .i64 (((Text.putT u).size : Int) + 1), .int .i64 0]) ∧ Below w.heap.size w w' := by
  have hc := Gn.implGetText_any (⟨#[120]⟩ ++ Text.putT u) 1 w (by simp only [ByteArray.size_append]; unfold maxLen; show 1 + _ ≤ _; omega) (by omega) (by omega) hw
  have hg := Gn.gt_put (p := ⟨#[120]⟩) h (by show 1 + _ ≤ _; omega)
  rw [show (((⟨#[120]⟩ : ByteArray).size : Int)) = 1 from rfl] at hg
  rw [hg, Int.add_comm] at hc
  exact hc
theorem getText_cut (u : ByteArray) (h : u.size ≤ 8000) (hp : (Text.putT u).size + 1 ≤ 8000) (w : World) (hw : Gn.Handle w) :
    Calls Tryd.prog 13 #[.string ((Text.putT u).extract 0 ((Text.putT u).size - 1)), .int .i64 0] w fun e w' => e = .returned (.agg #[.string ⟨#[]⟩, .int .i64 0, .int .i64 4]) ∧ Below w.heap.size w w' := by
  have hc := Gn.implGetText_any ((Text.putT u).extract 0 ((Text.putT u).size - 1)) 0 w (by rw [ByteArray.size_extract]; unfold maxLen; omega) (by omega) (by omega) hw
  rw [Gn.gt_cut h (by omega)] at hc
  exact hc

set_option maxRecDepth 100000 in
set_option maxHeartbeats 4000000 in
theorem law (a0 : Option Addr) (len0 cap0 : Nat) (z0 : List Int) (a1 : Option Addr) (len1 cap1 : Nat) (z1 : List Int) (w : World) (w0 : IsRow .u8 w a0 len0 cap0 z0) (w1 : IsRow .u8 w a1 len1 cap1 z1) (hw : Gn.Handle w) :
    Calls Tryd.prog 3 #[.slice a0 len0 cap0, .slice a1 len1 cap1] w fun e w' => e = .returned (.bool true) ∧ Below w.heap.size w w' := by
  by_cases hl0 : 1048576 < len0
  · have h : (1048576 : Int) < (len0 : Int) := by omega
    clear w0 w1
    go_enter Tryd.func3, Tryd.ntmps3
    go_wp2_with fail
    go_ret
    exact ⟨rfl, Below.refl _ _⟩
  by_cases hl1 : 1048576 < len1
  · have h : (1048576 : Int) < (len1 : Int) := by omega
    have h0 : ¬ (1048576 : Int) < (len0 : Int) := by omega
    clear w0 w1
    go_enter Tryd.func3, Tryd.ntmps3
    go_wp2_with fail
    go_ret
    exact ⟨rfl, Below.refl _ _⟩
  have HB0 := Lib.hid (bytes_of_row w0 (by omega))
  have HB1 := Lib.hid (bytes_of_row w1 (by omega))
  have HH := Lib.hid hw
  have h0 : ¬ (1048576 : Int) < (len0 : Int) := by omega
  have h1 : ¬ (1048576 : Int) < (len1 : Int) := by omega
  clear w0 w1 hl0 hl1 hw
  go_enter Tryd.func3, Tryd.ntmps3
  go_wp2_with fail
  refine (Src.drawPutNum_any w.heap.size a0 len0 cap0 w (Nat.le_refl _) HB0.out).mono ?_
  rintro e w2 ⟨n, rfl, hn0, hn1, hb2⟩
  have HI := Lib.hid (Num.implPutNum_any n · hn0 hn1)
  have HS := Lib.hid (Num.specPutNum_any n · hn0 hn1)
  have HG := Lib.hid (getNum_put n hn0 hn1)
  have HC := Lib.hid (getNum_cut n hn0 hn1)
  obtain ⟨ht1, ht2⟩ := Num.putS_size n
  have H2 := Lib.hid hb2
  clear hb2
  generalize Num.putS n = t at *
  go_wp2_with fail
  refine (HI.out _).mono ?_
  rintro e w3 ⟨rfl, hb3⟩
  have H3 := Lib.hid (H2.out.trans (hb3.mono H2.out.size))
  clear hb3
  go_wp2_with fail
  refine (HS.out _).mono ?_
  rintro e w4 ⟨rfl, hb4⟩
  have H4 := Lib.hid (H3.out.trans (hb4.mono H3.out.size))
  clear hb4
  have hw2 : IntKind.i64.wrap ((t.size : Int) + 2) = (t.size : Int) + 2 := IntWalk.i64_in _ (by omega)
  go_wp2_with fail
  refine (HG.out _ (HH.out.below H4.out)).mono ?_
  rintro e w5 ⟨rfl, hb5⟩
  have H5 := Lib.hid (H4.out.trans (hb5.mono H4.out.size))
  clear hb5
  go_wp2_with fail
  refine gen_calls (fun W => Below w.heap.size w W) (H5.out.alloc H5.out.size _) ?_
  intro W5 hW5
  have H5a := Lib.hid hW5
  clear hW5
  refine (HC.out _ (HH.out.below H5a.out)).mono ?_
  rintro e w6 ⟨rfl, hb6⟩
  have H6 := Lib.hid (H5a.out.trans (hb6.mono H5a.out.size))
  clear hb6
  have hfd : ∀ V : World, (Instr.field 26 (.agg #[.int .i64 0, .int .i64 0, .int .i64 4]) 2).run Tryd.prog V = .ok (.int .i64 4) V := fun _ => by kernel_rfl
  go_wp2_with fail
  refine (Src.drawPutText_any w.heap.size a1 len1 cap1 _ H6.out.size (HB1.out.below H6.out)).mono ?_
  rintro e w7 ⟨u, rfl, hu, hb7⟩
  have H7 := Lib.hid (H6.out.trans (hb7.mono H6.out.size))
  clear hb7
  have HPI := Lib.hid (Text.implPutText_any u · (by unfold maxLen; omega))
  have HPS := Lib.hid (Text.specPutText_any u · (by unfold maxLen; omega))
  have HGT := Lib.hid (getText_put u)
  have HCT := Lib.hid (getText_cut u)
  have HZ := Lib.hid (@Gn.putT_size u)
  have HE : Hid (8000 < u.size → Text.putT u = ⟨#[]⟩) := by
    refine Lib.hid fun h => ?_
    unfold Text.putT
    rw [if_neg (by omega)]
  have HL := Lib.hid (Num.vb_length 9 (Num.foldI u.size)).1
  generalize Text.putT u = p at *
  go_wp2_with fail
  refine (HPI.out _).mono ?_
  rintro e w8 ⟨rfl, hb8⟩
  have H8 := Lib.hid (H7.out.trans (hb8.mono H7.out.size))
  clear hb8
  go_wp2_with fail
  refine (HPS.out _).mono ?_
  rintro e w9 ⟨rfl, hb9⟩
  have H9 := Lib.hid (H8.out.trans (hb9.mono H8.out.size))
  clear hb9
  by_cases hsm : u.size ≤ 8000
  · have hz : 1 ≤ p.size := by
      have h1 := HZ.out hsm
      have h2 : 1 ≤ (Num.putB u.size).length := HL.out
      omega
    have hpn : (p.toList == []) = false := by
      rw [beq_eq_false_iff_ne, ByteArray.toList_eq]
      intro x
      have hq := size_list p
      rw [x, List.length_nil] at hq
      omega
    have hpn1 : p.toList.isEmpty = false := by
      rw [List.isEmpty_eq_false_iff, ByteArray.toList_eq]
      intro x
      have hq := size_list p
      rw [x, List.length_nil] at hq
      omega
    have hpn2 : ¬ p.toList = [] := by
      rw [ByteArray.toList_eq]
      intro x
      have hq := size_list p
      rw [x, List.length_nil] at hq
      omega
    have hpm : p.size ≤ 8010 := by
      have h1 := HZ.out hsm
      have h2 := (Num.vb_length 9 (Num.foldI u.size)).2
      have h3 : (Num.putB u.size).length ≤ 10 := h2
      omega
    have hw3 : IntKind.i64.wrap ((p.size : Int) + 1) = (p.size : Int) + 1 := IntWalk.i64_in _ (by omega)
    by_cases hbig : (8000 : Int) < (p.size : Int) + 1
    · go_wp2_with fail
      go_ret
      exact ⟨rfl, H9.out⟩
    · go_wp2_with fail
      refine (HGT.out hsm (by omega) _ (HH.out.below H9.out)).mono ?_
      rintro e w10 ⟨rfl, hb10⟩
      have H10 := Lib.hid (H9.out.trans (hb10.mono H9.out.size))
      clear hb10
      go_wp2_with fail
      refine (HCT.out hsm (by omega) _ (HH.out.below H10.out)).mono ?_
      rintro e w11 ⟨rfl, hb11⟩
      have H11 := Lib.hid (H10.out.trans (hb11.mono H10.out.size))
      clear hb11
      have hfe : ∀ V : World, (Instr.field 31 (.agg #[.string ⟨#[]⟩, .int .i64 0, .int .i64 4]) 2).run Tryd.prog V = .ok (.int .i64 4) V := fun _ => by kernel_rfl
      go_wp2_with fail
      go_ret
      exact ⟨rfl, H11.out⟩
  · have he := HE.out (by omega)
    subst he
    go_wp2_with fail
    refine (HPS.out _).mono ?_
    rintro e w10 ⟨rfl, hb10⟩
    have H10 := Lib.hid (H9.out.trans (hb10.mono H9.out.size))
    clear hb10
    go_wp2_with fail
    go_ret
    exact ⟨rfl, H10.out⟩
end Go.Proofs.YtbdmildlcgecjaaDoor.FnNums
