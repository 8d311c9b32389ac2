/-
  impl.newStore, impl.newMail.
-/
import Derived.Test.YtoagdpbbojlgfaaGreatNetApp
import Derived.Test.YtoagdpbbojlgfaaGreatRowNew
namespace Go.Proofs.YtoagdpbbojlgfaaGreat.Net
open Go.ChangeShapes Go.WideShapes Go.ChangeAt Go.RowKit
open Sto (R Sl flat)
set_option linter.unusedVariables false
set_option maxRecDepth 100000
set_option linter.unusedSimpArgs false

theorem fit_rows : AppFit 98 42 5 := by
  obtain ⟨i0, hi0, hz0, hz1, hz2⟩ := info_parts Sto.row_info
  exact ⟨Tryz.underlying98, by omega, i0, _, hi0, hz0, hz1, by rw [hz2]; omega, rfl⟩
theorem flat_snoc (l : List R) (k : Nat) (h : k < l.length) : flat (l.take (k + 1)) = flat (l.take k) ++ flat [l[k]] := by rw [take_snoc l k h, Sto.flat_append]

set_option maxHeartbeats 1000000 in
set_option maxRecDepth 100000 in
theorem newStore_any (A : Option Addr) (l : List R) (c : Nat) (w : World) (h : Sto.Lies w w.heap.size A l) (hl : l.length ≤ 1048576) (hk : ∀ d ∈ l, d.k.size ≤ 1048576 ∧ d.b.size ≤ 1048576) :
    Calls Tryz.prog 122 #[.slice A l.length c] w fun e w' => ∃ A' c', e = .returned (.slice A' l.length c') ∧ w'.ownsRow w.heap.size 42 5 (.slice A' l.length c') l.length (flat l) ∧ Below w.heap.size w w' := by
  have H := Lib.hid h
  have HK := Lib.hid hk
  clear h hk
  go_enter Tryz.func122, Tryz.ntmps122
  go_wp2_with fail
  go_loopw [3, 8] (fun o i wr => ∃ k : Nat, k ≤ l.length ∧ i = .int .i64 k ∧ Hid (wr.ownsRow w.heap.size 42 5 o k (flat (l.take k)) ∧ Below w.heap.size w wr)) (fun _ i _ => l.length - (intOf i).toNat)
  case atStart => exact ⟨0, by omega, rfl, Lib.hid ⟨o_nil _ _ _ _, Below.refl _ _⟩⟩
  case round =>
    obtain ⟨k, hk, rfl, HR⟩ := hrel
    by_cases hlt : k < l.length
    · obtain ⟨ad, rfl, _, c0, c1, c2, c3, c4⟩ := (H.out.below HR.out.2 (Nat.le_refl _)).at_ hlt
      have hsz := HK.out l[k] (List.getElem_mem hlt)
      have HJ := Lib.hid (flat_snoc l k hlt)
      obtain ⟨y, hy⟩ : ∃ y, l[k] = y := ⟨_, rfl⟩
      rw [hy] at c0 c1 c2 c3 c4 HJ hsz
      clear hy
      have HC := Lib.hid (fun W => Sto.newRow_any y W hsz.1 hsz.2)
      unfold Sto.R.val at HC
      have HB := Lib.hid (HR.out.2.alloc HR.out.2.size y.obj)
      have HO := Lib.hid (o_alloc HR.out.1 y.obj)
      clear HR
      go_wp2_with fail
      refine (HC.out _).mono ?_
      rintro e w1 ⟨rfl, hb⟩
      have HO1 := Lib.hid (o_step HO.out hb (Nat.le_refl _))
      have HB1 := Lib.hid (HB.out.trans (hb.mono HB.out.size))
      have hs1 := HB1.out.size
      clear hb c0 c1 c2 c3 c4
      go_wp2_with (at_builtin; refine wpList_app fit_rows rfl rfl rfl (flat [y]) rfl rfl (o_alloc HO1.out y.obj) (cl_one_at _ _ #[.string y.k, .int .i64 y.i.c, .int .i64 y.i.s, .int .i64 y.i.e, .string y.b] rfl) rfl (Sto.flat_one _) (by omega) (by simp; omega) ?_; intro v2 W2 ho2 hg2 hn2; have B2 := Lib.hid ((HB1.out.alloc HB1.out.size y.obj).grown hg2 (by simp; omega) (o_base HO1.out)); rw [← HJ.out] at ho2; have O2 := Lib.hid ho2; clear ho2 hg2 hn2)
      go_roundw
      case rel => exact ⟨k + 1, by omega, by go_num, Lib.hid ⟨O2.out, B2.out⟩⟩
      case measure => simp [intOf]; omega
    · have e : k = l.length := by omega
      subst e
      have h1 := HR.out.1
      rw [List.take_of_length_le (by omega)] at h1
      obtain ⟨A', c', hv, _⟩ := o_val h1
      subst hv
      have HF := Lib.hid h1
      clear h1
      go_wp2_with fail
      go_ret
      exact ⟨A', c', rfl, HF.out, HR.out.2⟩

theorem newMail_any (f t : Int) (A : Option Addr) (l : List R) (c : Nat) (w : World) (h : Sto.Lies w w.heap.size A l) (hl : l.length ≤ 1048576) (hk : ∀ d ∈ l, d.k.size ≤ 1048576 ∧ d.b.size ≤ 1048576) :
    Calls Tryz.prog 210 #[.int .i64 f, .int .i64 t, .slice A l.length c] w fun e w' => ∃ A' c', e = .returned (.agg #[.int .i64 f, .int .i64 t, .slice A' l.length c']) ∧ HeldX w' ⟨A', l, c'⟩ w.heap.size w'.heap.size ∧ Below w.heap.size w w' := by
  have B0 := (Below.refl w.heap.size w).alloc (Nat.le_refl _) (Obj.cells #[.int .i64 0, .int .i64 0, .slice none 0 0] 141)
  have p := Blk.new w 141 #[.int .i64 0, .int .i64 0, .slice none 0 0]
  have HC := Lib.hid (newStore_any A l c _ ((h.below B0 (Nat.le_refl _)).more B0.size) hl hk)
  clear h hk
  go_enter Tryz.func210, Tryz.ntmps210
  go_wp2_with fail
  refine HC.out.mono ?_
  rintro e w1 ⟨A', c', rfl, ho, hb⟩
  have p1 := p.on hb
  obtain ⟨q0, q1, q2⟩ := blk3 p1
  have f0 := p1.free 0
  have f1 := p1.free 1
  have f2 := p1.free 2
  have B1 := Lib.hid (B0.trans (hb.mono B0.size))
  have HX := Lib.hid (show HeldX w1 ⟨A', l, c'⟩ (w.heap.size + 1) w1.heap.size from by
    have := HeldX.of (c := c') (Sto.Held.of_own (A := A') (cap := c') ho)
    rwa [World.size_alloc] at this)
  clear hb p p1 B0 ho
  go_wp2_with fail
  refine bodyPost_ret (v := .agg #[.int .i64 f, .int .i64 t, .slice A' l.length c']) (by simp [results, Tryz.results210, go_sem, q0, q1, q2]) rfl ⟨A', c', rfl, ?_, ((B1.out.setCell (Nat.le_refl _) _).setCell (Nat.le_refl _) _).setCell (Nat.le_refl _) _⟩
  have hA := (((Above.refl (w.heap.size + 1) w1).set (p := ⟨w.heap.size, 0, none⟩) (Nat.lt_succ_self _) (.int .i64 f)).set (p := ⟨w.heap.size, 1, none⟩) (Nat.lt_succ_self _) (.int .i64 t)).set (p := ⟨w.heap.size, 2, none⟩) (Nat.lt_succ_self _) (.slice A' l.length c')
  have := (HX.out.above hA).wide (a' := w.heap.size) (b' := w1.heap.size) (by omega) (Nat.le_refl _)
  simpa using this
end Go.Proofs.YtoagdpbbojlgfaaGreat.Net
