/-
  The draws of the given package spec, on: a key, right deps. Of what was there nothing is written but the source.
-/
import Derived.Test.YtkmlnibkdcdegaaDrawPick
import Derived.Test.YtkmlnibkdcdegaaDrawI
import Derived.Test.YtkmlnibkdcdegaaDepJoin
namespace Go.Proofs.Ytkmlnibkdcdegaa.Src
open Go.ChangeShapes Go.WideShapes Go.ChangeAt Go.RowKit
open Go.Proofs.Ytkmlnibkdcdegaa.Dep (D I slV flat Lies putV specPut_any own_addr put_ne own_less own_step sem_pure0 sem_store0 own_none mem_put length_put)
set_option linter.unusedVariables false
set_option maxRecDepth 100000

attribute [local go_sem] sem_pure0 sem_store0

theorem key_st (B b len cap : Nat) (a : Option Addr) (w : World) (h : St B b a len cap w) :
    Calls Try.prog 47 #[.pointer (some ⟨b, 0, none⟩)] w (TextPost B b len cap a 5 w) := by
  have hb := h.2.1
  have h1 := h.above ((Below.refl _ w).alloc (by omega) (Obj.cells #[Value.string ⟨#[97]⟩, Value.string ⟨#[98]⟩, Value.string ⟨#[99]⟩, Value.string ⟨#[100]⟩] 9))
  have HP := Lib.hid (pick_st B b len cap w.heap.size 9 5 a [⟨#[97]⟩, ⟨#[98]⟩, ⟨#[99]⟩, ⟨#[100]⟩] _ h1 (by omega) (heap_alloc_new w _) (by simp) (by simp) (by
    intro p hp
    simp only [List.mem_cons, List.not_mem_nil, or_false] at hp
    rcases hp with rfl | rfl | rfl | rfl <;> decide))
  have G0 := Lib.hid (World.grownBy_alloc w (Obj.cells #[Value.string ⟨#[97]⟩, Value.string ⟨#[98]⟩, Value.string ⟨#[99]⟩, Value.string ⟨#[100]⟩] 9) (some b))
  clear h h1
  go_enter Try.func47, Try.ntmps47
  go_wp2_with fail
  refine HP.out.mono ?_
  rintro x w1 ⟨u, rfl, hu, hst, hg⟩
  have HS := Lib.hid hst
  have HG := Lib.hid (grown_trans G0.out hg)
  clear hst hg
  go_wp2_with fail
  go_ret
  exact ⟨u, rfl, hu, HS.out, HG.out⟩

/-- Deps in a row of their own, short, with short keys. -/
def Mine (w W : World) (n : Nat) (A : Option Addr) (l : List D) (c : Nat) : Prop :=
  W.ownsRow w.heap.size 66 4 (slV A l c) l.length (flat l) ∧ l.length ≤ c ∧ c ≤ maxLen ∧ Lies W W.heap.size A l ∧ l.length ≤ n ∧ ∀ d ∈ l, d.k.size ≤ 5
theorem Mine.grown {w W W' : World} {n : Nat} {A : Option Addr} {l : List D} {c b : Nat} (h : Mine w W n A l c) (hg : W.grownBy W' (some b)) (hb : b < w.heap.size) : Mine w W' n A l c := by
  obtain ⟨h1, h2, h3, h4, h5, h6⟩ := h
  have ho : W'.ownsRow w.heap.size 66 4 (slV A l c) l.length (flat l) := by
    refine ⟨h1.1, h1.2.imp id ?_⟩
    rintro ⟨g, cap, cur, e, hb', hh, r⟩
    exact ⟨g, cap, cur, e, hb', (hg.block g (Array.getElem?_eq_some_iff.1 hh).1 (fun e => by cases e; omega)).trans hh, r⟩
  obtain ⟨_, A', c', e, _, hL⟩ := Dep.own_lies ho
  unfold slV at e
  injection e with e1 _ _
  subst e1
  exact ⟨ho, h2, h3, hL, h5, h6⟩
/-- What a draw of deps answers. -/
def DepsPost (B b len cap : Nat) (a : Option Addr) (n : Nat) (w : World) (x : Ending) (w' : World) : Prop :=
  ∃ ad l c, x = .returned (slV (some ad) l c) ∧ Mine w w' n (some ad) l c ∧ St B b a len cap w' ∧ w.grownBy w' (some b)
theorem mine_put {w W W' : World} {m : Nat} {l : List D} {q : ByteArray} {x : I} {v : Value} (hw : w.heap.size ≤ W.heap.size) (h6 : ∀ d ∈ l, d.k.size ≤ 5) (hn : l.length + 1 ≤ m) (hq : q.size ≤ 5)
    (ho : W'.ownsRow W.heap.size 66 4 v (putV l q x).length (flat (putV l q x))) : ∃ ad c, v = slV (some ad) (putV l q x) c ∧ Mine w W' m (some ad) (putV l q x) c := by
  obtain ⟨_, ad, c, rfl, hc, hcm, hL⟩ := own_addr ho (put_ne ho)
  refine ⟨ad, c, rfl, own_less ho hw, hc, hcm, hL, Nat.le_trans (length_put l q x) hn, fun d hd => ?_⟩
  rcases mem_put hd with h | ⟨h, _⟩
  · exact h6 d h
  · rw [h]; exact hq

set_option maxHeartbeats 1000000 in
set_option maxRecDepth 100000 in
theorem deps_st (B b len cap : Nat) (a : Option Addr) (w : World) (h : St B b a len cap w) :
    Calls Try.prog 94 #[.pointer (some ⟨b, 0, none⟩)] w (DepsPost B b len cap a 3 w) := by
  have hb := h.2.1
  have HS := Lib.hid (h.above ((Below.refl _ w).alloc (by omega) (Obj.cells #[] 66)))
  have HO := Lib.hid (own_none w)
  have G0 := Lib.hid (World.grownBy_alloc w (Obj.cells #[] 66) (some b))
  clear h
  go_enter Try.func94, Try.ntmps94
  go_wp2_with fail
  refine (n_st B b len cap a 4 _ (by omega) HS.out).mono ?_
  rintro x w1 ⟨r, rfl, hr0, hr1, hst, hg⟩
  obtain ⟨k, rfl⟩ := Int.eq_ofNat_of_zero_le hr0
  have hk3 : k ≤ 3 := by omega
  have M0 : Mine w (w.alloc (Obj.cells #[] 66)) 0 (some ⟨w.heap.size, 0, none⟩) [] 0 := ⟨HO.out, Nat.le_refl _, by simp [maxLen], fun h0 => absurd h0 (by simp), Nat.le_refl _, fun d hd => absurd hd (by simp)⟩
  have M1 := Lib.hid (M0.grown hg hb)
  have S1 := Lib.hid hst
  have G1 := Lib.hid (grown_trans G0.out hg)
  clear hr0 hr1 hst hg M0
  go_wp2_with fail
  go_loopw [3, 4] (fun o i wr => ∃ j : Nat, i = .int .i64 j ∧ j ≤ 3 ∧ ∃ ad l c, o = .slice (some ad) l.length c ∧ Hid (Mine w wr (3 - j) (some ad) l c ∧ St B b a len cap wr ∧ w.grownBy wr (some b))) (fun _ i _ => (intOf i).toNat)
  case atStart => exact ⟨k, rfl, hk3, ⟨w.heap.size, 0, none⟩, [], 0, rfl, Lib.hid ⟨⟨M1.out.1, M1.out.2.1, M1.out.2.2.1, M1.out.2.2.2.1, Nat.zero_le _, M1.out.2.2.2.2.2⟩, S1.out, G1.out⟩⟩
  case round =>
    obtain ⟨j, rfl, hj3, ad, l, c, rfl, HR⟩ := hrel
    by_cases hj : j = 0
    · subst hj
      go_wp2_with fail
      go_ret
      exact ⟨ad, l, c, rfl, HR.out⟩
    · have hj0 : (0 : Int) < j := by omega
      go_wp2_with fail
      refine (key_st B b len cap a _ HR.out.2.1).mono ?_
      rintro x w2 ⟨q, rfl, hq, hst, hg⟩
      have HM2 := Lib.hid (HR.out.1.grown hg hb)
      have HS2 := Lib.hid hst
      have HG2 := Lib.hid (grown_trans HR.out.2.2 hg)
      clear hst hg
      go_wp2_with fail
      refine (idOf_st B b len cap a _ HS2.out).mono ?_
      rintro x w3 ⟨xc, xs, xe, rfl, hst, hg⟩
      have HM3 := Lib.hid (HM2.out.grown hg hb)
      have HS3 := Lib.hid hst
      have HG3 := Lib.hid (grown_trans HG2.out hg)
      clear hst hg
      unfold Id.idV
      go_wp2_with fail
      have hlen := HM3.out.2.2.2.2.1
      refine (specPut_any ad l c q ⟨xc, xs, xe⟩ _ HM3.out.2.2.2.1 (by omega) HM3.out.2.1 HM3.out.2.2.1).mono ?_
      rintro x w4 ⟨v, rfl, ho, hbl⟩
      obtain ⟨ad4, c4, rfl, hm4⟩ := mine_put (w := w) (m := 3 - (j - 1)) HG3.out.size HM3.out.2.2.2.2.2 (by omega) hq ho
      have HM4 := Lib.hid hm4
      have HS4 := Lib.hid (HS3.out.above (hbl.mono (by have := HS3.out.2.1; omega)))
      have HG4 := Lib.hid (grown_above HG3.out (hbl.mono HG3.out.size))
      clear ho hbl hm4
      unfold slV
      go_wp2_with fail
      go_roundw
      case rel => exact ⟨j - 1, by congr 1; omega, by omega, ad4, _, c4, rfl, Lib.hid ⟨HM4.out, HS4.out, HG4.out⟩⟩
      case measure => simp [intOf]; omega
end Go.Proofs.Ytkmlnibkdcdegaa.Src
