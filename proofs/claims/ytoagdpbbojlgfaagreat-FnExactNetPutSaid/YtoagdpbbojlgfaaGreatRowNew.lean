/-
  impl.newRow.
-/
import Derived.Test.YtoagdpbbojlgfaaGreatRowIRight
import Derived.Test.YtoagdpbbojlgfaaGreatShelf
import Derived.Deep.DeepCutAuto
namespace Go.Proofs.YtoagdpbbojlgfaaGreat.Sto
open Go.ChangeShapes Go.WideShapes Go.ChangeAt Go.RowKit
open Dep (I D zero kl list_eq)
set_option linter.unusedVariables false
set_option maxRecDepth 100000

theorem RowRow.other {W : World} {b t : Nat} {r : R} (h : RowRow W b t r) {p : Addr} (hne : b ≠ p.block) (u : Value) : RowRow (W.setCell p u) b t r := (heap_setCell_other W p b u hne).trans h

theorem clone_big (s : ByteArray) (w : World) (hs : s.size ≤ 1048576) : Calls Tryz.prog 221 #[.string s] w fun e w' => e = .returned (.string s) ∧ Below w.heap.size w w' := by
  go_enter Tryz.func221, Tryz.ntmps221
  go_wp2_with fail
  refine (Tryz.stringslite_Clone s _ (by omega)).mono ?_
  rintro e w1 ⟨rfl, hb⟩
  go_wp2_with fail
  go_ret
  exact ⟨rfl, hb⟩

set_option maxHeartbeats 4000000 in
theorem newRow_any (r : R) (w : World) (hk : r.k.size ≤ 1048576) (hb8 : r.b.size ≤ 1048576) :
    Calls Tryz.prog 186 #[r.val] w fun e w' => e = .returned r.val ∧ Below w.heap.size w w' := by
  have HA := Lib.hid ((RowRow.new w 42 r).alloc (Obj.cells #[Value.string ⟨#[]⟩, Value.int IntKind.i64 0, Value.int IntKind.i64 0, Value.int IntKind.i64 0, Value.string ⟨#[]⟩] 42))
  have HC0 := Lib.hid (show RowRow ((w.alloc r.obj).alloc (Obj.cells #[Value.string ⟨#[]⟩, Value.int IntKind.i64 0, Value.int IntKind.i64 0, Value.int IntKind.i64 0, Value.string ⟨#[]⟩] 42)) (w.heap.size + 1) 42 zeroR by
    have := RowRow.new (w.alloc r.obj) 42 zeroR
    rw [World.size_alloc] at this
    exact this)
  have HB := Lib.hid (((Below.refl w.heap.size w).alloc (Nat.le_refl _) r.obj).alloc (by simp) (Obj.cells #[Value.string ⟨#[]⟩, Value.int IntKind.i64 0, Value.int IntKind.i64 0, Value.int IntKind.i64 0, Value.string ⟨#[]⟩] 42))
  unfold R.val
  go_enter Tryz.func186, Tryz.ntmps186
  go_wp2_with fail
  generalize World.alloc (World.alloc w _) _ = W1 at HA HC0 HB ⊢
  refine wp_region_held_drew (S := (fun W => RowRow W w.heap.size 42 r ∧ Below w.heap.size w W)) (by kernel_rfl) ?_ (fun hHeld => ?_)
  · exact ⟨HA.out, HB.out.drew⟩
  refine wpAnyH_take (i := 0) (v := ?_) rfl (by kernel_rfl) (by kernel_rfl) (by kernel_rfl) (fun _ _ _ h => h) (Or.inl ⟨by rfl, ?_⟩) hHeld ?_
  rotate_left
  · intro W hSw
    obtain ⟨q1, _⟩ := hSw
    obtain ⟨hs1, hs2, hs3, hs4, hs5⟩ := q1.cells
    go_simp
    try with_reducible rfl
  try simp only [Act.put, List.setIfInBounds_toArray, List.set_cons_zero, List.set_cons_succ, List.getElem_toArray, List.getElem_cons_zero]
  refine wpAnyH_take (i := 1) (v := ?_) rfl (by kernel_rfl) (by kernel_rfl) (by kernel_rfl) (fun _ _ _ h => h) (Or.inl ⟨by rfl, ?_⟩) hHeld ?_
  rotate_left
  · intro W hSw
    obtain ⟨q1, _⟩ := hSw
    obtain ⟨hs1, hs2, hs3, hs4, hs5⟩ := q1.cells
    go_simp
    try with_reducible rfl
  try simp only [Act.put, List.setIfInBounds_toArray, List.set_cons_zero, List.set_cons_succ, List.getElem_toArray, List.getElem_cons_succ, List.getElem_cons_zero]
  refine wpAnyH_take (i := 3) (v := ?_) rfl (by kernel_rfl) (by kernel_rfl) (by kernel_rfl) (fun _ _ _ h => h) (Or.inl ⟨by rfl, ?_⟩) hHeld ?_
  rotate_left
  · intro W hSw
    obtain ⟨q1, _⟩ := hSw
    obtain ⟨hs1, hs2, hs3, hs4, hs5⟩ := q1.cells
    go_simp
    try with_reducible rfl
  try simp only [Act.put, List.setIfInBounds_toArray, List.set_cons_zero, List.set_cons_succ, List.getElem_toArray, List.getElem_cons_succ, List.getElem_cons_zero]
  refine wpAnyH_take (i := 4) (v := ?_) rfl (by kernel_rfl) (by kernel_rfl) (by kernel_rfl) (fun _ _ _ h => h) (Or.inl ⟨by rfl, ?_⟩) hHeld ?_
  rotate_left
  · intro W hSw
    obtain ⟨q1, _⟩ := hSw
    obtain ⟨hs1, hs2, hs3, hs4, hs5⟩ := q1.cells
    go_simp
    try with_reducible rfl
  try simp only [Act.put, List.setIfInBounds_toArray, List.set_cons_zero, List.set_cons_succ, List.getElem_toArray, List.getElem_cons_succ, List.getElem_cons_zero]
  refine wpAnyH_take (i := 5) (v := ?_) rfl (by kernel_rfl) (by kernel_rfl) (by kernel_rfl) (fun _ _ _ h => h) (Or.inl ⟨by rfl, ?_⟩) hHeld ?_
  rotate_left
  · intro W hSw
    obtain ⟨q1, _⟩ := hSw
    obtain ⟨hs1, hs2, hs3, hs4, hs5⟩ := q1.cells
    go_simp
    try with_reducible rfl
  try simp only [Act.put, List.setIfInBounds_toArray, List.set_cons_zero, List.set_cons_succ, List.getElem_toArray, List.getElem_cons_succ, List.getElem_cons_zero]
  refine wpAnyH_take (i := 6) (v := ?_) rfl (by kernel_rfl) (by kernel_rfl) (by kernel_rfl) (fun _ _ _ h => h) (Or.inl ⟨by rfl, ?_⟩) hHeld ?_
  rotate_left
  · intro W hSw
    obtain ⟨q1, _⟩ := hSw
    obtain ⟨hs1, hs2, hs3, hs4, hs5⟩ := q1.cells
    go_simp
    try with_reducible rfl
  try simp only [Act.put, List.setIfInBounds_toArray, List.set_cons_zero, List.set_cons_succ, List.getElem_toArray, List.getElem_cons_succ, List.getElem_cons_zero]
  refine wpAnyH_ready (rs := [2]) (by kernel_rfl) (by simp) ?_
  refine AllReadyH.cons rfl (fun K hK => ?_) AllReadyH.nil
  go_simp
  refine (clone_big r.k _ hk).mono ?_
  rintro e w1 ⟨rfl, hb⟩
  have HC1 := Lib.hid ((show RowRow (World.drew W1) (w.heap.size + 1) 42 zeroR from HC0.out).on hb)
  refine hK.out _ _ ?_ (fun hHeld => ?_)
  · exact ⟨hHeld.1.on hb, hHeld.2.trans (hb.mono hHeld.2.size)⟩
  clear hK K
  try simp only [Act.put, List.setIfInBounds_toArray, List.set_cons_zero, List.set_cons_succ, List.getElem_toArray, List.getElem_cons_succ, List.getElem_cons_zero]
  refine wpAnyH_ready (rs := [7]) (by kernel_rfl) (by simp) ?_
  refine AllReadyH.cons rfl (fun K hK => ?_) AllReadyH.nil
  go_simp
  refine (clone_big r.b _ hb8).mono ?_
  rintro e w2 ⟨rfl, hb⟩
  have HC2 := Lib.hid (HC1.out.on hb)
  refine hK.out _ _ ?_ (fun hHeld => ?_)
  · exact ⟨hHeld.1.on hb, hHeld.2.trans (hb.mono hHeld.2.size)⟩
  clear hK K
  try simp only [Act.put, List.setIfInBounds_toArray, List.set_cons_zero, List.set_cons_succ, List.getElem_toArray, List.getElem_cons_succ, List.getElem_cons_zero]
  refine wpAnyH_take (i := 8) (v := ?_) rfl (by kernel_rfl) (by kernel_rfl) (by kernel_rfl) (fun _ _ _ h => h) (Or.inl ⟨by rfl, ?_⟩) hHeld ?_
  rotate_left
  · intro W hSw
    obtain ⟨q1, _⟩ := hSw
    obtain ⟨hs1, hs2, hs3, hs4, hs5⟩ := q1.cells
    go_simp
    try with_reducible rfl
  try simp only [Act.put, List.setIfInBounds_toArray, List.set_cons_zero, List.set_cons_succ, List.getElem_toArray, List.getElem_cons_succ, List.getElem_cons_zero]
  refine wpAnyH_ready (rs := [9]) (by kernel_rfl) (by simp) ?_
  refine AllReadyH.cons rfl (fun K hK => ?_) AllReadyH.nil
  obtain ⟨q0, q1, q2, q3, q4⟩ := HC2.out.cells
  have f0 := HC2.out.free 0
  have f1 := HC2.out.free 1
  have f2 := HC2.out.free 2
  have f3 := HC2.out.free 3
  have f4 := HC2.out.free 4
  have hne : w.heap.size ≠ w.heap.size + 1 := by omega
  have hle : w.heap.size ≤ w.heap.size + 1 := by omega
  go_simp
  refine hK.out _ _ ?_ (fun hHeld => ?_)
  · exact ⟨(((((hHeld.1.other hne _).other hne _).other hne _).other hne _).other hne _), (((((hHeld.2.setCell hle _).setCell hle _).setCell hle _).setCell hle _).setCell hle _)⟩
  clear hK K
  try simp only [Act.put, List.setIfInBounds_toArray, List.set_cons_zero, List.set_cons_succ, List.getElem_toArray, List.getElem_cons_succ, List.getElem_cons_zero]
  refine wpAnyH_done (by kernel_rfl) ?_ _
  go_wp2_with fail
  refine bodyPost_ret (v := .agg #[.string r.k, .int .i64 r.i.c, .int .i64 r.i.s, .int .i64 r.i.e, .string r.b]) (by simp [results, Tryz.results186, go_sem, q0, q1, q2, q3, q4]) rfl ⟨rfl, hHeld.2⟩
end Go.Proofs.YtoagdpbbojlgfaaGreat.Sto
