/-
  impl.marksOf, impl.tooWide, slices.IndexFunc and slices.ContainsFunc at rows, impl.StoreRight.
-/
import Derived.Test.YtoagdpbbojlgfaaGreatRowRight
import Derived.Test.YtoagdpbbojlgfaaGreatDepIRight
import Derived.Test.YtoagdpbbojlgfaaGreatPackDep
import Derived.Test.YtoagdpbbojlgfaaGreatPackPut
import Derived.Test.YtoagdpbbojlgfaaGreatPackAll
namespace Go.Proofs.YtoagdpbbojlgfaaGreat.Sto
open Go.ChangeShapes Go.WideShapes Go.ChangeAt Go.RowKit
open Dep (I D zero kl add_block add_add row_set get_ne get_eq)
set_option linter.unusedVariables false
set_option maxRecDepth 100000

/-- A row in a block of its own. -/
abbrev R.obj (d : R) : Obj := Obj.cells #[Value.string d.k, Value.int IntKind.i64 d.i.c, Value.int IntKind.i64 d.i.s, Value.int IntKind.i64 d.i.e, Value.string d.b] 42

theorem deps_step (l : List R) (k : Nat) (h : k < l.length) : deps (l.take (k + 1)) = deps (l.take k) ++ [⟨l[k].k, l[k].i⟩] := by
  unfold deps
  rw [show l.take (k + 1) = l.take k ++ [l[k]] by simp, List.map_append]
  rfl

theorem one_lies_at (W : World) (d : D) {g : Nat} (h : W.heap.size = g) : Dep.Lies (W.alloc d.obj) (W.alloc d.obj).heap.size (some ⟨g, 0, none⟩) [d] := by subst h; exact Dep.one_lies W d

set_option maxHeartbeats 2000000 in
theorem marksOf_any (A : Option Addr) (l : List R) (cap : Nat) (w : World) (h : Lies w w.heap.size A l) (hl : l.length ≤ 1048576) :
    Calls Tryz.prog 189 #[slV A l cap] w fun e w' => ∃ A' c, e = .returned (Dep.slV A' (deps l) c) ∧ (deps l).length ≤ c ∧ Dep.Lies w' w'.heap.size A' (deps l) ∧ w'.ownsRow w.heap.size 161 4 (Dep.slV A' (deps l) c) (deps l).length (Dep.flat (deps l)) ∧ Below w.heap.size w w' := by
  have H := Lib.hid h
  have HDL := Lib.hid (deps_len l)
  clear h
  unfold slV
  go_enter Tryz.func189, Tryz.ntmps189
  go_wp2_with fail
  go_loopw [3, 8] (fun o i wr => ∃ k : Nat, k ≤ l.length ∧ i = .int .i64 k ∧ Hid (wr.ownsRow w.heap.size 161 4 o k (Dep.flat (deps (l.take k))) ∧ Below w.heap.size w wr)) (fun _ i _ => l.length - (intOf i).toNat)
  case atStart => exact ⟨0, by omega, rfl, Lib.hid ⟨Dep.own_nil _ _, Below.refl _ _⟩⟩
  case round =>
    obtain ⟨k, hk, rfl, HR⟩ := hrel
    by_cases hlt : k < l.length
    · obtain ⟨ad, rfl, _, c0, c1, c2, c3, c4⟩ := (H.out.below HR.out.2 (Nat.le_refl _)).at_ hlt
      have HST := Lib.hid (deps_step l k hlt)
      obtain ⟨y, hy⟩ : ∃ y, l[k] = y := ⟨_, rfl⟩
      rw [hy] at c0 c1 c2 c3 c4 HST
      clear hy
      go_wp2_with (at_builtin; refine Dep.wpList_append_deps rfl rfl rfl [⟨y.k, y.i⟩] rfl rfl rfl (Dep.own_alloc (Dep.own_alloc HR.out.1 y.obj) (Dep.D.obj ⟨y.k, y.i⟩)) (one_lies_at (wr.alloc y.obj) ⟨y.k, y.i⟩ (by simp)) (by simp; omega) (by have := HR.out.2.size; simp; omega) ?_; intro v2 W2 ho2 hg2; have hBg := ((HR.out.2.alloc HR.out.2.size y.obj).alloc (by have := HR.out.2.size; simp; omega) (Dep.D.obj ⟨y.k, y.i⟩)).grown hg2 (by have := HR.out.2.size; simp; omega) (Dep.ownBlock_base HR.out.1); have B2 := Lib.hid hBg; rw [← HST.out] at ho2; have O2 := Lib.hid ho2; clear ho2 hg2 hBg)
      go_roundw
      case rel => exact ⟨k + 1, by omega, by go_num, Lib.hid ⟨O2.out, B2.out⟩⟩
      case measure => simp [intOf]; omega
    · have e : k = l.length := by omega
      go_wp2_with fail
      go_ret
      have h1 := HR.out.1
      rw [List.take_of_length_le (by omega), e] at h1
      rw [← HDL.out] at h1
      obtain ⟨_, A, c, ev, hc, hL⟩ := Dep.own_lies h1
      rw [ev] at h1
      refine ⟨A, c, ?_, hc, hL, h1, HR.out.2⟩
      rw [← ev]
      rfl

theorem tooWide_any (y : R) (w : World) (hb : y.b.size ≤ maxLen) :
    Calls Tryz.prog 191 #[y.val] w fun e w' => e = .returned (.bool (decide (300 < y.b.size))) ∧ Below w.heap.size w w' := by
  have hb2 := hb
  unfold maxLen at hb2
  unfold R.val
  by_cases h : 300 < y.b.size
  · have h' : (300 : Int) < y.b.size := by omega
    have HX := Lib.hid h
    clear h
    go_enter Tryz.func191, Tryz.ntmps191
    go_wp2_with fail
    go_ret
    exact ⟨Key.ret_bool (decide_eq_true HX.out).symm, (Below.refl _ _).alloc (Nat.le_refl _) _⟩
  · have h' : ¬ (300 : Int) < y.b.size := by omega
    have HX := Lib.hid h
    clear h
    go_enter Tryz.func191, Tryz.ntmps191
    go_wp2_with fail
    go_ret
    exact ⟨Key.ret_bool (decide_eq_false HX.out).symm, (Below.refl _ _).alloc (Nat.le_refl _) _⟩

set_option maxHeartbeats 2000000 in
theorem indexFunc_any (A : Option Addr) (l : List R) (cap : Nat) (w : World) (h : Lies w w.heap.size A l) (hl : l.length ≤ 1048576) (hk : ∀ d ∈ l, Fits d) :
    Calls Tryz.prog 265 #[slV A l cap, .func (.func 191) #[] #[]] w fun e w' =>
      (∃ n : Int, e = .returned (.int .i64 n) ∧ ((n = -1 ∧ l.any (fun r => decide (300 < r.b.size)) = false) ∨ (0 ≤ n ∧ l.any (fun r => decide (300 < r.b.size)) = true))) ∧ Below w.heap.size w w' := by
  have H := Lib.hid h
  have HK := Lib.hid hk
  clear h hk
  unfold slV
  go_enter Tryz.func265, Tryz.ntmps265
  go_wp2_with fail
  go_loopw [8] (fun i wr => ∃ k : Nat, k ≤ l.length ∧ i = .int .i64 k ∧ Hid ((∀ j (hj : j < l.length), j < k → ¬ 300 < l[j].b.size) ∧ Below w.heap.size w wr)) (fun i _ => l.length - (intOf i).toNat)
  case atStart => exact ⟨0, by omega, rfl, Lib.hid ⟨fun j hj hjk => absurd hjk (by omega), Below.refl _ _⟩⟩
  case round =>
    obtain ⟨k, hk, rfl, HR⟩ := hrel
    by_cases hlt : k < l.length
    · obtain ⟨ad, rfl, _, c0, c1, c2, c3, c4⟩ := (H.out.below HR.out.2 (Nat.le_refl _)).at_ hlt
      have hky := HK.out l[k] (List.getElem_mem hlt)
      obtain ⟨y, hy⟩ : ∃ y, l[k] = y := ⟨_, rfl⟩
      have HY := Lib.hid hy
      rw [hy] at c0 c1 c2 c3 c4 hky
      clear hy
      have HA := Lib.hid (tooWide_any y wr hky.2)
      clear hky
      unfold R.val at HA
      by_cases he : 300 < y.b.size
      · have HE := Lib.hid he
        rw [decide_eq_true he] at HA
        clear he
        go_wp2_with fail
        refine HA.out.mono ?_
        rintro e w1 ⟨rfl, hb1⟩
        have HB := Lib.hid (HR.out.2.trans (hb1.mono HR.out.2.size))
        clear hb1 c0 c1 c2 c3 c4
        go_wp2_with fail
        go_ret
        exact ⟨⟨k, rfl, .inr ⟨by omega, by rw [List.any_eq_true]; exact ⟨l[k], List.getElem_mem hlt, by rw [HY.out]; exact decide_eq_true HE.out⟩⟩⟩, HB.out⟩
      · have HE := Lib.hid he
        rw [decide_eq_false he] at HA
        clear he
        go_wp2_with fail
        refine HA.out.mono ?_
        rintro e w1 ⟨rfl, hb1⟩
        have HB := Lib.hid (HR.out.2.trans (hb1.mono HR.out.2.size))
        clear hb1 c0 c1 c2 c3 c4
        go_wp2_with fail
        go_roundw
        case rel =>
          refine ⟨k + 1, by omega, by go_num, Lib.hid ⟨fun j hj hjk => ?_, HB.out⟩⟩
          by_cases e : j = k
          · subst e; rw [HY.out]; exact HE.out
          · exact HR.out.1 j hj (by omega)
        case measure => simp [intOf]; omega
    · have HN := Lib.hid (show l.any (fun r => decide (300 < r.b.size)) = false by
        rw [List.any_eq_false]
        intro d hd
        obtain ⟨j, hj, rfl⟩ := List.getElem_of_mem hd
        have := HR.out.1 j hj (by omega)
        simpa using this)
      go_wp2_with fail
      go_ret
      exact ⟨⟨-1, rfl, .inl ⟨rfl, HN.out⟩⟩, HR.out.2⟩

theorem containsFunc_any (A : Option Addr) (l : List R) (cap : Nat) (w : World) (h : Lies w w.heap.size A l) (hl : l.length ≤ 1048576) (hk : ∀ d ∈ l, Fits d) :
    Calls Tryz.prog 190 #[slV A l cap, .func (.func 191) #[] #[]] w fun e w' =>
      e = .returned (.bool (l.any fun r => decide (300 < r.b.size))) ∧ Below w.heap.size w w' := by
  have HI := Lib.hid (indexFunc_any A l cap w h hl hk)
  clear h hk
  unfold slV at *
  go_enter Tryz.func190, Tryz.ntmps190
  go_wp2_with fail
  refine HI.out.mono ?_
  rintro e w1 ⟨⟨n, rfl, hn⟩, hb1⟩
  have HB := Lib.hid hb1
  clear hb1
  rcases hn with ⟨rfl, hn⟩ | ⟨h0, hn⟩
  · have HN := Lib.hid hn
    clear hn
    go_wp2_with fail
    go_ret
    exact ⟨Key.ret_bool HN.out.symm, HB.out⟩
  · have HN := Lib.hid hn
    clear hn
    go_wp2_with fail
    go_ret
    exact ⟨Key.ret_bool HN.out.symm, HB.out⟩

theorem implStore_any (A : Option Addr) (l : List R) (cap : Nat) (w : World) (h : Lies w w.heap.size A l) (hl : l.length ≤ 1048576) (hk : ∀ d ∈ l, Fits d) :
    Calls Tryz.prog 81 #[slV A l cap] w fun x w' => x = .returned (.bool (rowsB l)) ∧ Below w.heap.size w w' := by
  have H := Lib.hid h
  have HK := Lib.hid hk
  have HV := Lib.hid (rowsB_deps l)
  have HM := Lib.hid (marksOf_any A l cap w h hl)
  have HD : Hid (∀ d ∈ deps l, d.k.size ≤ maxLen) := Lib.hid fun d hd => by
    obtain ⟨r, hr, rfl⟩ := List.mem_map.1 hd
    exact (hk r hr).1
  have hlm : (deps l).length ≤ maxLen := by rw [deps_len]; unfold maxLen; omega
  have HC := Lib.hid (fun W (hW : Below w.heap.size w W) => containsFunc_any A l cap W ((H.out.below hW (Nat.le_refl _)).more hW.size) hl HK.out)
  clear h hk
  unfold slV at *
  go_enter Tryz.func81, Tryz.ntmps81
  go_wp2_with fail
  refine HM.out.mono ?_
  rintro e w1 ⟨A', c, rfl, hc, hL, _, hb1⟩
  have B1 := Lib.hid hb1
  have HI := Lib.hid (Dep.implDeps_any A' (deps l) c w1 hL hlm HD.out)
  clear hb1 hL hc
  unfold Dep.slV at *
  go_wp2_with fail
  refine HI.out.mono ?_
  rintro e w2 ⟨rfl, hb2⟩
  have B2 := Lib.hid (B1.out.trans (hb2.mono B1.out.size))
  clear hb2
  cases hd : Dep.depsB (deps l)
  · have HD2 := Lib.hid hd
    clear hd
    go_wp2_with fail
    go_ret
    exact ⟨Key.ret_bool (by rw [HV.out, HD2.out]; rfl), B2.out⟩
  · have HD2 := Lib.hid hd
    clear hd
    go_wp2_with fail
    refine (HC.out w2 B2.out).mono ?_
    rintro e w3 ⟨rfl, hb3⟩
    have B3 := Lib.hid (B2.out.trans (hb3.mono B2.out.size))
    clear hb3
    obtain ⟨t, ht⟩ : ∃ t, (l.any fun r => decide (300 < r.b.size)) = t := ⟨_, rfl⟩
    have HT := Lib.hid ht
    rw [ht]
    clear ht
    go_wp2_with fail
    go_ret
    exact ⟨Key.ret_bool (by rw [HV.out, HD2.out, HT.out]; rfl), B3.out⟩
end Go.Proofs.YtoagdpbbojlgfaaGreat.Sto
