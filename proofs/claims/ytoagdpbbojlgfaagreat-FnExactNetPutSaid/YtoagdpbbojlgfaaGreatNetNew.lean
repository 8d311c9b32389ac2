/-
  A net's answer; spec.l06Ill, spec.NetNew, impl.NetNew.
-/
import Derived.Test.YtoagdpbbojlgfaaGreatNetTo
import Derived.Test.YtoagdpbbojlgfaaGreatNetMark
import Derived.Test.YtoagdpbbojlgfaaGreatNetMath
namespace Go.Proofs.YtoagdpbbojlgfaaGreat.Net
open Go.ChangeShapes Go.WideShapes Go.ChangeAt Go.RowKit
open Sto (R Sl Held Turned marks)
set_option linter.unusedVariables false
set_option maxRecDepth 100000
set_option linter.unusedSimpArgs false

/-- What a call answers: a net of its own, and a code. -/
def AnsN (w : World) (e : Ending) (w' : World) (p : List (List R) × List Pm) (c : Int) : Prop :=
  ∃ n, e = .returned (Nt.out n c) ∧ pl n = p ∧ HeldN w' n w.heap.size w'.heap.size ∧ Below w.heap.size w w'
def zeroN : Nt := ⟨none, [], 0, none, [], 0⟩
theorem zero_held (w : World) (a b : Nat) : HeldN w zeroN a b := ⟨.inl rfl, .inl rfl, HeldL.nil _ _ _⟩
theorem AnsN.ill {w w' : World} {c : Int} (h : Below w.heap.size w w') : AnsN w (.returned (.agg #[.slice none 0 0, .slice none 0 0, .int .i64 c])) w' ([], []) c :=
  ⟨zeroN, rfl, rfl, zero_held _ _ _, h⟩

theorem ill_any (c : Int) (w : World) :
    Calls Tryz.prog 103 #[.int .i64 c] w fun e w' => e = .returned (.agg #[.slice none 0 0, .slice none 0 0, .int .i64 c]) ∧ Below w.heap.size w w' := by
  go_enter Tryz.func103, Tryz.ntmps103
  go_wp2_with fail
  refine bodyPost_ret (v := .agg #[.slice none 0 0, .slice none 0 0, .int .i64 c]) (by simp [results, Tryz.results103, go_sem]) rfl ⟨rfl, ?_⟩
  exact (Below.refl _ _).alloc (Nat.le_refl _) _

def emptyS : Sl := ⟨none, [], 0⟩
def newC (k : Int) : Int := if 1 ≤ k ∧ k ≤ 4 then 0 else 1
def newP (k : Int) : List (List R) × List Pm := if 1 ≤ k ∧ k ≤ 4 then (List.replicate k.toNat [], []) else ([], [])
def newN (g m : Nat) : Nt := ⟨some ⟨g, 0, none⟩, List.replicate m emptyS, m, none, [], 0⟩
theorem made_at (z : Value) (n j : Nat) (h : j < n) : (madeCells #[z] n)[j]? = some z := by
  have e : (madeCells #[z] n).toList[j]? = some z := by rw [toList_madeCells_one]; simp [h]
  rwa [Array.getElem?_toList] at e
theorem new_held {w : World} {m : Nat} : HeldN (w.alloc (.cells (madeCells #[.slice none 0 0] m) 98)) (newN w.heap.size m) w.heap.size (w.heap.size + 1) := by
  refine ⟨.inr ⟨w.heap.size, m, rfl, ⟨_, heap_alloc_new w _, size_madeCells _ _, by simp [newN, sv], fun j u hu => ?_⟩, Nat.le_refl _, Nat.lt_succ_self _⟩, .inl rfl, ⟨fun x hx => ?_, ?_⟩⟩
  · have hj : j < m := by have := (List.getElem?_eq_some_iff.1 hu).1; simpa [newN, sv] using this
    rw [made_at _ _ _ hj]
    have : (sv (newN w.heap.size m).s)[j]? = some (.slice none 0 0) := by simp [newN, sv, sval, emptyS, hj]
    rw [this] at hu
    exact hu
  · have : x = emptyS := by
      have := hx
      simp only [newN, Nt.all, List.map_nil, List.append_nil] at this
      exact (List.mem_replicate.1 this).2
    subst this
    exact ⟨.inl ⟨rfl, rfl⟩, .inl rfl⟩
  · simp only [newN, Nt.all, List.map_nil, List.append_nil]
    exact List.pairwise_replicate.2 (.inr (.inl (by decide)))
theorem new_pl (g m : Nat) : pl (newN g m) = (List.replicate m [], []) := by simp [pl, ps, pm, newN, emptyS]

set_option maxRecDepth 100000 in
theorem specNew_any (k : Int) (w : World) :
    Calls Tryz.prog 96 #[.int .i64 k] w fun e w' => AnsN w e w' (newP k) (newC k) := by
  by_cases h : 1 ≤ k ∧ k ≤ 4
  · obtain ⟨m, rfl⟩ : ∃ m : Nat, k = m := ⟨k.toNat, by omega⟩
    have HV := Lib.hid (show Id.inB (m : Int) 1 4 = true by unfold Id.inB; exact decide_eq_true h)
    have HC := Lib.hid (show newC (m : Int) = 0 by unfold newC; rw [if_pos h])
    have HP := Lib.hid (show newP (m : Int) = (List.replicate m [], []) by unfold newP; rw [if_pos h, Int.toNat_natCast])
    rw [HC.out, HP.out]
    have hm : m ≤ 4 := by omega
    have hL := Lib.hid (fun W => (Id.is_any (m : Int) 1 4 W))
    rw [HV.out] at hL
    clear h
    have B1 := (Below.refl w.heap.size w).alloc (Nat.le_refl _) (Obj.cells #[.slice none 0 0, .slice none 0 0, .int .i64 0] 37)
    obtain ⟨i0, hi0, hz0, hz1, hz2⟩ := info_parts store_info
    have hmk := run_make (P := Tryz.prog) (World.alloc w (Obj.cells #[.slice none 0 0, .slice none 0 0, .int .i64 0] 37)) 32 98 i0 _ Tryz.underlying32 hi0 hz0 .i64 .i64 m m (by omega) (Int.le_refl _) (by rw [hz2]; omega) (by omega)
    rw [hz1, Int.toNat_natCast, Nat.mul_one] at hmk
    clear hi0 hz0 hz1 hz2
    have hcells : (Value.slice none 0 0).cells = #[.slice none 0 0] := rfl
    rw [hcells] at hmk
    clear hcells
    have p := (Blk.new w 37 #[.slice none 0 0, .slice none 0 0, .int .i64 0])
    have HN := Lib.hid (new_held (w := World.alloc w (Obj.cells #[.slice none 0 0, .slice none 0 0, .int .i64 0] 37)) (m := m))
    have HB := Lib.hid (B1.alloc B1.size (.cells (madeCells #[.slice none 0 0] m) 98))
    have p1 := p.alloc (.cells (madeCells #[.slice none 0 0] m) 98)
    obtain ⟨q0, q1, q2⟩ := blk3 p1
    have f0 := p1.free 0
    have f1 := p1.free 1
    have f2 := p1.free 2
    have HSZ := Lib.hid (show (World.alloc w (Obj.cells #[.slice none 0 0, .slice none 0 0, .int .i64 0] 37)).heap.size = w.heap.size + 1 by simp)
    rw [HSZ.out] at hmk HN
    clear p p1 B1
    go_enter Tryz.func96, Tryz.ntmps96
    go_wp2_with (go_at_call 117; refine (hL.out _).mono ?_; rintro e w' ⟨rfl, rfl⟩)
    refine bodyPost_ret (v := (newN (w.heap.size + 1) m).out 0) (by simp [results, Tryz.results96, go_sem, Nt.out, newN, q0, q1, q2]) rfl ⟨_, rfl, new_pl _ _, ?_, ?_⟩
    · have := (new_held (w := World.alloc w (Obj.cells #[.slice (some ⟨w.heap.size + 1, 0, none⟩) m m, .slice none 0 0, .int .i64 0] 37)) (m := m)).wide (a' := w.heap.size) (b' := w.heap.size + 2) (by simp) (by simp)
      rw [World.size_alloc] at this
      have hz : ∀ o1 o2 : Obj, ((w.alloc o1).alloc o2).heap.size = w.heap.size + 2 := fun o1 o2 => by simp
      rw [hz]
      exact this
    · exact ((Below.refl _ _).alloc (Nat.le_refl _) _).alloc (by simp) _
  · have HV := Lib.hid (show Id.inB k 1 4 = false by unfold Id.inB; exact decide_eq_false h)
    have HC := Lib.hid (show newC k = 1 by unfold newC; rw [if_neg h])
    have HP := Lib.hid (show newP k = ([], []) by unfold newP; rw [if_neg h])
    rw [HC.out, HP.out]
    have hL := Lib.hid (fun W => (Id.is_any k 1 4 W))
    rw [HV.out] at hL
    clear h
    have HI := Lib.hid (ill_any 1 (World.alloc w (Obj.cells #[.slice none 0 0, .slice none 0 0, .int .i64 0] 37)))
    have p := (Blk.new w 37 #[.slice none 0 0, .slice none 0 0, .int .i64 0])
    have B1 := (Below.refl w.heap.size w).alloc (Nat.le_refl _) (Obj.cells #[.slice none 0 0, .slice none 0 0, .int .i64 0] 37)
    go_enter Tryz.func96, Tryz.ntmps96
    go_wp2_with (go_at_call 117; refine (hL.out _).mono ?_; rintro e w' ⟨rfl, rfl⟩)
    refine HI.out.mono ?_
    rintro e w1 ⟨rfl, hb⟩
    have p1 := p.on hb
    obtain ⟨q0, q1, q2⟩ := blk3 p1
    have f0 := p1.free 0
    have f1 := p1.free 1
    have f2 := p1.free 2
    have B2 := Lib.hid (B1.trans (hb.mono B1.size))
    clear hb p p1 B1
    go_wp2_with fail
    refine bodyPost_ret (v := .agg #[.slice none 0 0, .slice none 0 0, .int .i64 1]) (by simp [results, Tryz.results96, go_sem, q0, q1, q2]) rfl ?_
    exact AnsN.ill (((B2.out.setCell (Nat.le_refl _) _).setCell (Nat.le_refl _) _).setCell (Nat.le_refl _) _)
set_option maxRecDepth 100000 in
theorem implNew_any (k : Int) (w : World) :
    Calls Tryz.prog 95 #[.int .i64 k] w fun e w' => AnsN w e w' (newP k) (newC k) := by
  by_cases h : 1 ≤ k ∧ k ≤ 4
  · obtain ⟨m, rfl⟩ : ∃ m : Nat, k = m := ⟨k.toNat, by omega⟩
    have HV := Lib.hid (show Id.inB (m : Int) 1 4 = true by unfold Id.inB; exact decide_eq_true h)
    have HC := Lib.hid (show newC (m : Int) = 0 by unfold newC; rw [if_pos h])
    have HP := Lib.hid (show newP (m : Int) = (List.replicate m [], []) by unfold newP; rw [if_pos h, Int.toNat_natCast])
    rw [HC.out, HP.out]
    have hm : m ≤ 4 := by omega
    have hL := Lib.hid (fun W => (Id.within_any (m : Int) 1 4 W))
    rw [HV.out] at hL
    clear h
    have B1 := (Below.refl w.heap.size w).alloc (Nat.le_refl _) (Obj.cells #[.slice none 0 0, .slice none 0 0, .int .i64 0] 37)
    obtain ⟨i0, hi0, hz0, hz1, hz2⟩ := info_parts store_info
    have hmk := run_make (P := Tryz.prog) (World.alloc w (Obj.cells #[.slice none 0 0, .slice none 0 0, .int .i64 0] 37)) 32 98 i0 _ Tryz.underlying32 hi0 hz0 .i64 .i64 m m (by omega) (Int.le_refl _) (by rw [hz2]; omega) (by omega)
    rw [hz1, Int.toNat_natCast, Nat.mul_one] at hmk
    clear hi0 hz0 hz1 hz2
    have hcells : (Value.slice none 0 0).cells = #[.slice none 0 0] := rfl
    rw [hcells] at hmk
    clear hcells
    have p := (Blk.new w 37 #[.slice none 0 0, .slice none 0 0, .int .i64 0])
    have HN := Lib.hid (new_held (w := World.alloc w (Obj.cells #[.slice none 0 0, .slice none 0 0, .int .i64 0] 37)) (m := m))
    have HB := Lib.hid (B1.alloc B1.size (.cells (madeCells #[.slice none 0 0] m) 98))
    have p1 := p.alloc (.cells (madeCells #[.slice none 0 0] m) 98)
    obtain ⟨q0, q1, q2⟩ := blk3 p1
    have f0 := p1.free 0
    have f1 := p1.free 1
    have f2 := p1.free 2
    have HSZ := Lib.hid (show (World.alloc w (Obj.cells #[.slice none 0 0, .slice none 0 0, .int .i64 0] 37)).heap.size = w.heap.size + 1 by simp)
    rw [HSZ.out] at hmk HN
    clear p p1 B1
    go_enter Tryz.func95, Tryz.ntmps95
    go_wp2_with (go_at_call 200; refine (hL.out _).mono ?_; rintro e w' ⟨rfl, rfl⟩)
    refine bodyPost_ret (v := (newN (w.heap.size + 1) m).out 0) (by simp [results, Tryz.results95, go_sem, Nt.out, newN, q0, q1, q2]) rfl ⟨_, rfl, new_pl _ _, ?_, ?_⟩
    · have := (new_held (w := World.alloc w (Obj.cells #[.slice (some ⟨w.heap.size + 1, 0, none⟩) m m, .slice none 0 0, .int .i64 0] 37)) (m := m)).wide (a' := w.heap.size) (b' := w.heap.size + 2) (by simp) (by simp)
      rw [World.size_alloc] at this
      have hz : ∀ o1 o2 : Obj, ((w.alloc o1).alloc o2).heap.size = w.heap.size + 2 := fun o1 o2 => by simp
      rw [hz]
      exact this
    · exact ((Below.refl _ _).alloc (Nat.le_refl _) _).alloc (by simp) _
  · have HV := Lib.hid (show Id.inB k 1 4 = false by unfold Id.inB; exact decide_eq_false h)
    have HC := Lib.hid (show newC k = 1 by unfold newC; rw [if_neg h])
    have HP := Lib.hid (show newP k = ([], []) by unfold newP; rw [if_neg h])
    rw [HC.out, HP.out]
    have hL := Lib.hid (fun W => (Id.within_any k 1 4 W))
    rw [HV.out] at hL
    clear h
    go_enter Tryz.func95, Tryz.ntmps95
    go_wp2_with (go_at_call 200; refine (hL.out _).mono ?_; rintro e w' ⟨rfl, rfl⟩)
    refine bodyPost_ret (v := .agg #[.slice none 0 0, .slice none 0 0, .int .i64 1]) (by simp [results, Tryz.results95, go_sem]) rfl ?_
    exact AnsN.ill ((Below.refl _ _).alloc (Nat.le_refl _) _)
end Go.Proofs.YtoagdpbbojlgfaaGreat.Net
