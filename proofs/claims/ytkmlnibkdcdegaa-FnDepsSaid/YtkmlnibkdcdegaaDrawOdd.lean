/-
  The draws of the given package spec, on: deps that may not be right. Of what was there nothing is written but the source.
-/
import Derived.Test.YtkmlnibkdcdegaaDrawDeps
namespace Go.Proofs.Ytkmlnibkdcdegaa.Src
open Go.ChangeShapes Go.WideShapes Go.ChangeAt Go.RowKit
open Go.Proofs.Ytkmlnibkdcdegaa.Dep (D I slV flat Lies putV specPut_any own_addr put_ne own_less own_step own_alloc one_lies ownBlock_base wpList_append_deps2 D.obj)
set_option linter.unusedVariables false
set_option maxRecDepth 100000

abbrev picks5 : List ByteArray := [⟨#[97]⟩, ⟨#[122]⟩, ⟨#[]⟩, ⟨#[90]⟩, ⟨#[102, 105, 118, 101, 115]⟩]
abbrev texts5 : List ByteArray := [⟨#[101]⟩, ⟨#[102]⟩, ⟨#[103]⟩, ⟨#[104]⟩, ⟨#[105]⟩]
theorem short5 {ps : List ByteArray} (h : ps = picks5 ∨ ps = texts5) : ∀ p ∈ ps, p.size ≤ 5 := by
  rcases h with rfl | rfl
  all_goals
    intro p hp
    simp only [List.mem_cons, List.not_mem_nil, or_false] at hp
    rcases hp with rfl | rfl | rfl | rfl | rfl <;> decide
theorem Mine.mono {w W : World} {n m : Nat} {A : Option Addr} {l : List D} {c : Nat} (h : Mine w W n A l c) (hn : n ≤ m) : Mine w W m A l c :=
  ⟨h.1, h.2.1, h.2.2.1, h.2.2.2.1, Nat.le_trans h.2.2.2.2.1 hn, h.2.2.2.2.2⟩
theorem Mine.below {w W W' : World} {n : Nat} {A : Option Addr} {l : List D} {c : Nat} (h : Mine w W n A l c) (hb : Below W.heap.size W W') : Mine w W' n A l c := by
  obtain ⟨h1, h2, h3, h4, h5, h6⟩ := h
  exact ⟨own_step h1 hb (Nat.le_refl _), h2, h3, (h4.below hb (Nat.le_refl _)).more hb.size, h5, h6⟩
/-- What an append leaves. -/
theorem mine_append {w W' : World} {m : Nat} {l l' : List D} {v : Value} {n : Nat} (ho : W'.ownsRow w.heap.size 66 4 v n (flat (l ++ l'))) (hv : v = .slice none 0 0 → False) (hl : (l ++ l').length ≤ m) (h6 : ∀ d ∈ l ++ l', d.k.size ≤ 5) :
    ∃ ad c, v = slV (some ad) (l ++ l') c ∧ Mine w W' m (some ad) (l ++ l') c := by
  obtain ⟨hn, ad, c, rfl, hc, hcm, hL⟩ := own_addr ho hv
  refine ⟨ad, c, rfl, ?_, hc, hcm, hL, hl, h6⟩
  rw [← hn]; exact ho

theorem own_one (W : World) (d : D) (base : Nat) (hb : base ≤ W.heap.size) : (W.alloc d.obj).ownsRow base 66 4 (.slice (some ⟨W.heap.size, 0, none⟩) 1 1) 1 (flat [d]) :=
  ⟨rfl, .inr ⟨W.heap.size, 1, _, rfl, hb, heap_alloc_new W _, Nat.le_refl _, by simp [maxLen], rfl, rfl⟩⟩

set_option maxHeartbeats 2000000 in
set_option maxRecDepth 100000 in
theorem odd_st (B b len cap : Nat) (a : Option Addr) (w : World) (h : St B b a len cap w) :
    Calls Try.prog 44 #[.pointer (some ⟨b, 0, none⟩)] w (DepsPost B b len cap a 8 w) := by
  have hb := h.2.1
  have HD := Lib.hid (deps_st B b len cap a w h)
  clear h
  go_enter Try.func44, Try.ntmps44
  go_wp2_with fail
  refine HD.out.mono ?_
  rintro x w1 ⟨ad, l, c, rfl, hm, hst, hg⟩
  have M1 := Lib.hid hm
  have S1 := Lib.hid hst
  have G1 := Lib.hid hg
  clear hm hst hg
  unfold slV
  go_wp2_with fail
  refine (n_st B b len cap a 16 _ (by omega) S1.out).mono ?_
  rintro x w2 ⟨r, rfl, hr0, hr1, hst, hg⟩
  obtain ⟨k, rfl⟩ := Int.eq_ofNat_of_zero_le hr0
  have M2 := Lib.hid (M1.out.grown hg hb)
  have S2 := Lib.hid hst
  have G2 := Lib.hid (grown_trans G1.out hg)
  have hl3 := M1.out.2.2.2.2.1
  clear hr0 hr1 hst hg
  by_cases k0 : k = 0
  · subst k0
    have hbw := S2.out.2.1
    have hsz := G2.out.size
    have S3 := S2.out.above ((Below.refl _ w2).alloc (by omega) (Obj.cells (picks5.map Value.string).toArray 9))
    have M3 := Lib.hid (M2.out.below ((Below.refl _ w2).alloc (Nat.le_refl _) (Obj.cells (picks5.map Value.string).toArray 9)))
    have G3 := Lib.hid (grown_above G2.out ((Below.refl _ w2).alloc hsz (Obj.cells (picks5.map Value.string).toArray 9)))
    have HP := Lib.hid (pick_st B b len cap w2.heap.size 9 5 a picks5 _ S3 (by omega) (heap_alloc_new w2 _) (by simp) (by simp) (short5 (.inl rfl)))
    go_wp2_with fail
    refine HP.out.mono ?_
    rintro x w3 ⟨u, rfl, hu, hst, hg⟩
    have M4 := Lib.hid (M3.out.grown hg hb)
    have S4 := Lib.hid hst
    have G4 := Lib.hid (grown_trans G3.out hg)
    clear hst hg S3
    go_wp2_with fail
    refine (id_st B b len cap a _ S4.out).mono ?_
    rintro x w4 ⟨xc, xs, xe, rfl, hst, hg⟩
    have M5 := Lib.hid (M4.out.grown hg hb)
    have S5 := Lib.hid hst
    have G5 := Lib.hid (grown_trans G4.out hg)
    have hsz5 := G5.out.size
    have hbw5 := S5.out.2.1
    clear hst hg
    unfold Id.idV
    go_wp2_with (at_builtin; refine wpList_append_deps2 rfl rfl rfl [⟨u, ⟨xc, xs, xe⟩⟩] rfl rfl rfl (own_alloc M5.out.1 (D.obj ⟨u, ⟨xc, xs, xe⟩⟩)) (one_lies _ ⟨u, ⟨xc, xs, xe⟩⟩) (by simp; omega) (by simp; omega) ?_; intro v1 w5 ho hg hn; have O6 := Lib.hid ho; have N6 := Lib.hid (fun e => by cases hn e : v1 = .slice none 0 0 → False); have B6 := Lib.hid (((Below.refl w.heap.size w4).alloc hsz5 (D.obj ⟨u, ⟨xc, xs, xe⟩⟩)).grown hg (by simp; omega) (ownBlock_base M5.out.1)); clear ho hg hn)
    obtain ⟨ad6, c6, rfl, hm6⟩ := mine_append (m := 8) O6.out N6.out (by simp; omega) (fun d hd => by
      rcases List.mem_append.1 hd with hd | hd
      · exact M5.out.2.2.2.2.2 d hd
      · obtain rfl : d = ⟨u, ⟨xc, xs, xe⟩⟩ := by simpa using hd
        exact hu)
    go_ret
    refine ⟨ad6, _, c6, rfl, hm6, S5.out.above (B6.out.mono (by omega)), grown_above G5.out B6.out⟩
  · by_cases k1 : k = 1
    · subst k1
      have hsz := G2.out.size
      have hbw := S2.out.2.1
      go_wp2_with (at_builtin; refine wpList_append_deps2 rfl rfl rfl l rfl rfl rfl (own_one w2 ⟨⟨#[98]⟩, Dep.zero⟩ w.heap.size hsz) (M2.out.2.2.2.1.alloc (Nat.le_refl _) (D.obj ⟨⟨#[98]⟩, Dep.zero⟩)) (by omega) (by simp; omega) ?_; intro v1 w5 ho hg hn; have O6 := Lib.hid ho; have N6 := Lib.hid (fun e => by cases hn e : v1 = .slice none 0 0 → False); have B6 := Lib.hid (((Below.refl w.heap.size w2).alloc hsz (D.obj ⟨⟨#[98]⟩, Dep.zero⟩)).grown hg (by simp; omega) (fun j e => by cases e; exact hsz)); clear ho hg hn)
      obtain ⟨ad6, c6, rfl, hm6⟩ := mine_append (m := 8) O6.out N6.out (by simp; omega) (fun d hd => by
        rcases List.mem_append.1 hd with hd | hd
        · obtain rfl : d = ⟨⟨#[98]⟩, Dep.zero⟩ := by simpa using hd
          decide
        · exact M2.out.2.2.2.2.2 d hd)
      go_ret
      exact ⟨ad6, _, c6, rfl, hm6, S2.out.above (B6.out.mono (by omega)), grown_above G2.out B6.out⟩
    · by_cases k2 : k = 2
      · subst k2
        have hsz := G2.out.size
        have hbw := S2.out.2.1
        have S3 := Lib.hid (S2.out.above ((Below.refl _ w2).alloc (by omega) (Obj.cells (texts5.map Value.string).toArray 9)))
        have M3 := Lib.hid (M2.out.below ((Below.refl _ w2).alloc (Nat.le_refl _) (Obj.cells (texts5.map Value.string).toArray 9)))
        have G3 := Lib.hid (grown_above G2.out ((Below.refl _ w2).alloc hsz (Obj.cells (texts5.map Value.string).toArray 9)))
        have HT := Lib.hid (heap_alloc_new w2 (Obj.cells (texts5.map Value.string).toArray 9))
        go_wp2_with fail
        go_loopw [3, 32] (fun o i wr => ∃ j : Nat, i = .int .i64 j ∧ j ≤ 5 ∧ ∃ ad l c, o = .slice (some ad) l.length c ∧ Hid (Mine w wr (3 + j) (some ad) l c ∧ St B b a len cap wr ∧ w.grownBy wr (some b) ∧ wr.heap[w2.heap.size]? = some (.cells (texts5.map Value.string).toArray 9 (0, 0)))) (fun _ i _ => 5 - (intOf i).toNat)
        case atStart => exact ⟨0, rfl, by omega, ad, l, c, rfl, Lib.hid ⟨M3.out, S3.out, G3.out, HT.out⟩⟩
        case round =>
          obtain ⟨j, rfl, hj5, ad, l, c, rfl, HR⟩ := hrel
          by_cases hj : j < 5
          · obtain ⟨p, hp⟩ : ∃ p, texts5[j]? = some p := ⟨_, List.getElem?_eq_getElem (by simpa using hj)⟩
            have hcell : wr.cell? ⟨w2.heap.size, j, none⟩ = some (.string p) := (cell_of_row wr w2.heap.size j _ _ (0, 0) HR.out.2.2.2).trans (by rw [List.getElem?_toArray, List.getElem?_map, hp]; rfl)
            have hps : p.size ≤ 5 := short5 (.inr rfl) p (List.mem_of_getElem? hp)
            clear hp
            go_wp2_with fail
            refine (idOf_st B b len cap a _ HR.out.2.1).mono ?_
            rintro x w3 ⟨xc, xs, xe, rfl, hst, hg⟩
            have M4 := Lib.hid (HR.out.1.grown hg hb)
            have S4 := Lib.hid hst
            have G4 := Lib.hid (grown_trans HR.out.2.2.1 hg)
            have T4 := Lib.hid ((hg.block w2.heap.size (Array.getElem?_eq_some_iff.1 HR.out.2.2.2).1 (fun e => by cases e; omega)).trans HR.out.2.2.2)
            clear hst hg hcell
            unfold Id.idV
            go_wp2_with fail
            have hlen := M4.out.2.2.2.2.1
            refine (specPut_any ad l c p ⟨xc, xs, xe⟩ _ M4.out.2.2.2.1 (by omega) M4.out.2.1 M4.out.2.2.1).mono ?_
            rintro x w4 ⟨v, rfl, ho, hbl⟩
            obtain ⟨ad4, c4, rfl, hm4⟩ := mine_put (w := w) (m := 3 + (j + 1)) G4.out.size M4.out.2.2.2.2.2 (by omega) hps ho
            have M5 := Lib.hid hm4
            have S5 := Lib.hid (S4.out.above (hbl.mono (by have := S4.out.2.1; omega)))
            have G5 := Lib.hid (grown_above G4.out (hbl.mono G4.out.size))
            have T5 := Lib.hid ((hbl.block w2.heap.size (Array.getElem?_eq_some_iff.1 T4.out).1).trans T4.out)
            clear ho hbl hm4
            unfold slV
            go_wp2_with fail
            go_roundw
            case rel => exact ⟨j + 1, by go_num, by omega, ad4, _, c4, rfl, Lib.hid ⟨M5.out, S5.out, G5.out, T5.out⟩⟩
            case measure => simp [intOf]; omega
          · go_wp2_with fail
            go_ret
            exact ⟨ad, l, c, rfl, HR.out.1.mono (by omega), HR.out.2.1, HR.out.2.2.1⟩
      · have n0 : ((k : Int) == 0) = false := beq_eq_false_iff_ne.2 (by omega)
        have n1 : ((k : Int) == 1) = false := beq_eq_false_iff_ne.2 (by omega)
        have n2 : ((k : Int) == 2) = false := beq_eq_false_iff_ne.2 (by omega)
        go_wp2_with fail
        go_ret
        exact ⟨ad, l, c, rfl, M2.out.mono (by omega), S2.out, G2.out⟩
end Go.Proofs.Ytkmlnibkdcdegaa.Src
