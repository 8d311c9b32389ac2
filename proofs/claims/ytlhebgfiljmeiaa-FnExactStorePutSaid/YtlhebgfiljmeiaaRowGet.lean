/-
  What a store has at a key: spec.l05Get, spec.StoreGet, impl.newRow, impl.rowsByKey, impl.StoreGet.
-/
import Derived.Test.YtlhebgfiljmeiaaRowMap
import Derived.Test.YtlhebgfiljmeiaaShelf
import Derived.Deep.DeepCutAuto
namespace Go.Proofs.Ytlhebgfiljmeiaa.Sto
open Go.ChangeShapes Go.WideShapes Go.ChangeAt Go.RowKit
open Dep (I D zero kl list_eq)
set_option linter.unusedVariables false
set_option maxRecDepth 100000

theorem RowRow.other {W : World} {b t : Nat} {r : R} (h : RowRow W b t r) {p : Addr} (hne : b ≠ p.block) (u : Value) : RowRow (W.setCell p u) b t r := (heap_setCell_other W p b u hne).trans h

theorem clone_big (s : ByteArray) (w : World) (hs : s.size ≤ 1048576) : Calls Try.prog 61 #[.string s] w fun e w' => e = .returned (.string s) ∧ Below w.heap.size w w' := by
  go_enter Try.func61, Try.ntmps61
  go_wp2_with fail
  refine (Try.stringslite_Clone s _ (by omega)).mono ?_
  rintro e w1 ⟨rfl, hb⟩
  go_wp2_with fail
  go_ret
  exact ⟨rfl, hb⟩

set_option maxHeartbeats 4000000 in
theorem newRow_any (r : R) (w : World) (hk : r.k.size ≤ 1048576) (hb8 : r.b.size ≤ 1048576) :
    Calls Try.prog 44 #[r.val] w fun e w' => e = .returned r.val ∧ Below w.heap.size w w' := by
  have HA := Lib.hid ((RowRow.new w 39 r).alloc (Obj.cells #[Value.string ⟨#[]⟩, Value.int IntKind.i64 0, Value.int IntKind.i64 0, Value.int IntKind.i64 0, Value.string ⟨#[]⟩] 39))
  have HC0 := Lib.hid (show RowRow ((w.alloc r.obj).alloc (Obj.cells #[Value.string ⟨#[]⟩, Value.int IntKind.i64 0, Value.int IntKind.i64 0, Value.int IntKind.i64 0, Value.string ⟨#[]⟩] 39)) (w.heap.size + 1) 39 zeroR by
    have := RowRow.new (w.alloc r.obj) 39 zeroR
    rw [World.size_alloc] at this
    exact this)
  have HB := Lib.hid (((Below.refl w.heap.size w).alloc (Nat.le_refl _) r.obj).alloc (by simp) (Obj.cells #[Value.string ⟨#[]⟩, Value.int IntKind.i64 0, Value.int IntKind.i64 0, Value.int IntKind.i64 0, Value.string ⟨#[]⟩] 39))
  unfold R.val
  go_enter Try.func44, Try.ntmps44
  go_wp2_with fail
  generalize World.alloc (World.alloc w _) _ = W1 at HA HC0 HB ⊢
  refine wp_region_held_drew (S := (fun W => RowRow W w.heap.size 39 r ∧ Below w.heap.size w W)) (by kernel_rfl) ?_ (fun hHeld => ?_)
  · exact ⟨HA.out, HB.out.drew⟩
  refine wpAnyH_take (i := 0) (v := ?_) rfl (by kernel_rfl) (by kernel_rfl) (by kernel_rfl) (fun _ _ _ h => h) (Or.inl ⟨by rfl, ?_⟩) hHeld ?_
  rotate_left
  · intro W hSw
    obtain ⟨q1, _⟩ := hSw
    obtain ⟨hs1, hs2, hs3, hs4, hs5⟩ := q1.cells
    go_simp
    try with_reducible rfl
  try simp only [Act.put, List.setIfInBounds_toArray, List.set_cons_zero, List.set_cons_succ, List.getElem_toArray, List.getElem_cons_zero]
  refine wpAnyH_take (i := 1) (v := ?_) rfl (by kernel_rfl) (by kernel_rfl) (by kernel_rfl) (fun _ _ _ h => h) (Or.inl ⟨by rfl, ?_⟩) hHeld ?_
  rotate_left
  · intro W hSw
    obtain ⟨q1, _⟩ := hSw
    obtain ⟨hs1, hs2, hs3, hs4, hs5⟩ := q1.cells
    go_simp
    try with_reducible rfl
  try simp only [Act.put, List.setIfInBounds_toArray, List.set_cons_zero, List.set_cons_succ, List.getElem_toArray, List.getElem_cons_succ, List.getElem_cons_zero]
  refine wpAnyH_take (i := 3) (v := ?_) rfl (by kernel_rfl) (by kernel_rfl) (by kernel_rfl) (fun _ _ _ h => h) (Or.inl ⟨by rfl, ?_⟩) hHeld ?_
  rotate_left
  · intro W hSw
    obtain ⟨q1, _⟩ := hSw
    obtain ⟨hs1, hs2, hs3, hs4, hs5⟩ := q1.cells
    go_simp
    try with_reducible rfl
  try simp only [Act.put, List.setIfInBounds_toArray, List.set_cons_zero, List.set_cons_succ, List.getElem_toArray, List.getElem_cons_succ, List.getElem_cons_zero]
  refine wpAnyH_take (i := 4) (v := ?_) rfl (by kernel_rfl) (by kernel_rfl) (by kernel_rfl) (fun _ _ _ h => h) (Or.inl ⟨by rfl, ?_⟩) hHeld ?_
  rotate_left
  · intro W hSw
    obtain ⟨q1, _⟩ := hSw
    obtain ⟨hs1, hs2, hs3, hs4, hs5⟩ := q1.cells
    go_simp
    try with_reducible rfl
  try simp only [Act.put, List.setIfInBounds_toArray, List.set_cons_zero, List.set_cons_succ, List.getElem_toArray, List.getElem_cons_succ, List.getElem_cons_zero]
  refine wpAnyH_take (i := 5) (v := ?_) rfl (by kernel_rfl) (by kernel_rfl) (by kernel_rfl) (fun _ _ _ h => h) (Or.inl ⟨by rfl, ?_⟩) hHeld ?_
  rotate_left
  · intro W hSw
    obtain ⟨q1, _⟩ := hSw
    obtain ⟨hs1, hs2, hs3, hs4, hs5⟩ := q1.cells
    go_simp
    try with_reducible rfl
  try simp only [Act.put, List.setIfInBounds_toArray, List.set_cons_zero, List.set_cons_succ, List.getElem_toArray, List.getElem_cons_succ, List.getElem_cons_zero]
  refine wpAnyH_take (i := 6) (v := ?_) rfl (by kernel_rfl) (by kernel_rfl) (by kernel_rfl) (fun _ _ _ h => h) (Or.inl ⟨by rfl, ?_⟩) hHeld ?_
  rotate_left
  · intro W hSw
    obtain ⟨q1, _⟩ := hSw
    obtain ⟨hs1, hs2, hs3, hs4, hs5⟩ := q1.cells
    go_simp
    try with_reducible rfl
  try simp only [Act.put, List.setIfInBounds_toArray, List.set_cons_zero, List.set_cons_succ, List.getElem_toArray, List.getElem_cons_succ, List.getElem_cons_zero]
  refine wpAnyH_ready (rs := [2]) (by kernel_rfl) (by simp) ?_
  refine AllReadyH.cons rfl (fun K hK => ?_) AllReadyH.nil
  go_simp
  refine (clone_big r.k _ hk).mono ?_
  rintro e w1 ⟨rfl, hb⟩
  have HC1 := Lib.hid ((show RowRow (World.drew W1) (w.heap.size + 1) 39 zeroR from HC0.out).on hb)
  refine hK.out _ _ ?_ (fun hHeld => ?_)
  · exact ⟨hHeld.1.on hb, hHeld.2.trans (hb.mono hHeld.2.size)⟩
  clear hK K
  try simp only [Act.put, List.setIfInBounds_toArray, List.set_cons_zero, List.set_cons_succ, List.getElem_toArray, List.getElem_cons_succ, List.getElem_cons_zero]
  refine wpAnyH_ready (rs := [7]) (by kernel_rfl) (by simp) ?_
  refine AllReadyH.cons rfl (fun K hK => ?_) AllReadyH.nil
  go_simp
  refine (clone_big r.b _ hb8).mono ?_
  rintro e w2 ⟨rfl, hb⟩
  have HC2 := Lib.hid (HC1.out.on hb)
  refine hK.out _ _ ?_ (fun hHeld => ?_)
  · exact ⟨hHeld.1.on hb, hHeld.2.trans (hb.mono hHeld.2.size)⟩
  clear hK K
  try simp only [Act.put, List.setIfInBounds_toArray, List.set_cons_zero, List.set_cons_succ, List.getElem_toArray, List.getElem_cons_succ, List.getElem_cons_zero]
  refine wpAnyH_take (i := 8) (v := ?_) rfl (by kernel_rfl) (by kernel_rfl) (by kernel_rfl) (fun _ _ _ h => h) (Or.inl ⟨by rfl, ?_⟩) hHeld ?_
  rotate_left
  · intro W hSw
    obtain ⟨q1, _⟩ := hSw
    obtain ⟨hs1, hs2, hs3, hs4, hs5⟩ := q1.cells
    go_simp
    try with_reducible rfl
  try simp only [Act.put, List.setIfInBounds_toArray, List.set_cons_zero, List.set_cons_succ, List.getElem_toArray, List.getElem_cons_succ, List.getElem_cons_zero]
  refine wpAnyH_ready (rs := [9]) (by kernel_rfl) (by simp) ?_
  refine AllReadyH.cons rfl (fun K hK => ?_) AllReadyH.nil
  obtain ⟨q0, q1, q2, q3, q4⟩ := HC2.out.cells
  have f0 := HC2.out.free 0
  have f1 := HC2.out.free 1
  have f2 := HC2.out.free 2
  have f3 := HC2.out.free 3
  have f4 := HC2.out.free 4
  have hne : w.heap.size ≠ w.heap.size + 1 := by omega
  have hle : w.heap.size ≤ w.heap.size + 1 := by omega
  go_simp
  refine hK.out _ _ ?_ (fun hHeld => ?_)
  · exact ⟨(((((hHeld.1.other hne _).other hne _).other hne _).other hne _).other hne _), (((((hHeld.2.setCell hle _).setCell hle _).setCell hle _).setCell hle _).setCell hle _)⟩
  clear hK K
  try simp only [Act.put, List.setIfInBounds_toArray, List.set_cons_zero, List.set_cons_succ, List.getElem_toArray, List.getElem_cons_succ, List.getElem_cons_zero]
  refine wpAnyH_done (by kernel_rfl) ?_ _
  go_wp2_with fail
  refine bodyPost_ret (v := .agg #[.string r.k, .int .i64 r.i.c, .int .i64 r.i.s, .int .i64 r.i.e, .string r.b]) (by simp [results, Try.results44, go_sem, q0, q1, q2, q3, q4]) rfl ⟨rfl, hHeld.2⟩

/-- A row by value, found or none. -/
theorem specGet_any (A : Option Addr) (l : List R) (cap : Nat) (q : ByteArray) (w : World) (h : Lies w w.heap.size A l) (hl : l.length ≤ maxLen) :
    Calls Try.prog 43 #[slV A l cap, .string q] w fun e w' => e = .returned (getW l q).val ∧ Below w.heap.size w w' := by
  unfold maxLen at hl
  unfold slV
  have H := Lib.hid h
  clear h
  go_enter Try.func43, Try.ntmps43
  go_wp2_with fail
  have H1 := Lib.hid (H.out.alloc (Nat.le_refl _) (Obj.cells #[Value.string ⟨#[]⟩, Value.int IntKind.i64 0, Value.int IntKind.i64 0, Value.int IntKind.i64 0, Value.string ⟨#[]⟩] 39))
  have B1 := Lib.hid ((Below.refl w.heap.size w).alloc (Nat.le_refl _) (Obj.cells #[Value.string ⟨#[]⟩, Value.int IntKind.i64 0, Value.int IntKind.i64 0, Value.int IntKind.i64 0, Value.string ⟨#[]⟩] 39))
  have r : RowRow (w.alloc (Obj.cells #[Value.string ⟨#[]⟩, Value.int IntKind.i64 0, Value.int IntKind.i64 0, Value.int IntKind.i64 0, Value.string ⟨#[]⟩] 39)) w.heap.size 39 zeroR := RowRow.new w 39 zeroR
  obtain ⟨r0, r1, r2, r3, r4⟩ := r.cells
  have f0 := r.free 0
  have f1 := r.free 1
  have f2 := r.free 2
  have f3 := r.free 3
  have f4 := r.free 4
  generalize hb : w.heap.size = b at *
  generalize World.alloc w _ = W at *
  clear r H
  go_loop [5] (fun i => ∃ k : Nat, k ≤ l.length ∧ i = .int .i64 k ∧ Hid (findW (l.drop k) q = findW l q)) (fun i => l.length - (intOf i).toNat)
  case atStart => exact ⟨0, by omega, rfl, Lib.hid rfl⟩
  case round =>
    obtain ⟨k, hk, rfl, HJ⟩ := hrel
    by_cases hlt : k < l.length
    · obtain ⟨ad, rfl, hb, c0, c1, c2, c3, c4⟩ := H1.out.at_ hlt
      have hd : l.drop k = l[k] :: l.drop (k + 1) := List.drop_eq_getElem_cons hlt
      by_cases he : l[k].k = q
      · have hee : (l[k].k.toList == q.toList) = true := by rw [he]; exact beq_self_eq_true _
        have HV : Hid (getW l q = l[k]) := by
          refine Lib.hid ?_
          unfold getW
          rw [← HJ.out, hd, findW, if_pos he]
          rfl
        clear he hd
        go_wp2_with fail
        refine bodyPost_ret (v := .agg #[.string l[k].k, .int .i64 l[k].i.c, .int .i64 l[k].i.s, .int .i64 l[k].i.e, .string l[k].b]) (by simp [results, Try.results43, go_sem, r0, r1, r2, r3, r4]) rfl ⟨?_, ?_⟩
        · rw [HV.out]; rfl
        · exact ((((B1.out.setCell (Nat.le_refl _) _).setCell (Nat.le_refl _) _).setCell (Nat.le_refl _) _).setCell (Nat.le_refl _) _).setCell (Nat.le_refl _) _
      · have hee : (l[k].k.toList == q.toList) = false := beq_eq_false_iff_ne.2 fun h => he (list_eq (by rw [← ByteArray.toList_eq, ← ByteArray.toList_eq]; exact h))
        have HV : Hid (findW (l.drop (k + 1)) q = findW l q) := by exact Lib.hid (by rw [← HJ.out, hd, findW, if_neg he])
        clear he hd
        go_wp2_with fail
        go_round
        case rel => exact ⟨k + 1, by omega, by go_num, HV⟩
        case measure => simp [intOf]; omega
    · have HV : Hid (getW l q = zeroR) := by
        refine Lib.hid ?_
        unfold getW
        rw [← HJ.out, List.drop_eq_nil_of_le (by omega)]
        rfl
      go_wp2_with fail
      refine bodyPost_ret (v := .agg #[.string ⟨#[]⟩, .int .i64 0, .int .i64 0, .int .i64 0, .string ⟨#[]⟩]) (by simp [results, Try.results43, go_sem, r0, r1, r2, r3, r4]) rfl ⟨?_, ?_⟩
      · rw [HV.out]; rfl
      · exact ((((B1.out.setCell (Nat.le_refl _) _).setCell (Nat.le_refl _) _).setCell (Nat.le_refl _) _).setCell (Nat.le_refl _) _).setCell (Nat.le_refl _) _

/-- What a store, be it right or not, tells of a key. -/
noncomputable def tellV (l : List R) (q : ByteArray) : R := if rowsB l = true then getW l q else zeroR
theorem tell_true {l : List R} {q : ByteArray} (h : rowsB l = true) : tellV l q = getW l q := by unfold tellV; rw [if_pos h]
theorem tell_false {l : List R} {q : ByteArray} (h : rowsB l = false) : tellV l q = zeroR := by unfold tellV; rw [if_neg (by rw [h]; decide)]

theorem specStoreGet_any (A : Option Addr) (l : List R) (cap : Nat) (q : ByteArray) (w : World) (h : Lies w w.heap.size A l) (hl : l.length ≤ maxLen) (hk : ∀ d ∈ l, Fits d) :
    Calls Try.prog 22 #[slV A l cap, .string q] w fun e w' => e = .returned (tellV l q).val ∧ Below w.heap.size w w' := by
  have H := Lib.hid h
  have HS := Lib.hid (fun W (hW : Lies W W.heap.size A l) => specStore_any A l cap W hW hl hk)
  have HG := Lib.hid (fun W (hW : Lies W W.heap.size A l) => specGet_any A l cap q W hW hl)
  clear h hk
  have B1 := Lib.hid ((Below.refl w.heap.size w).alloc (Nat.le_refl _) (Obj.cells #[Value.string ⟨#[]⟩, Value.int IntKind.i64 0, Value.int IntKind.i64 0, Value.int IntKind.i64 0, Value.string ⟨#[]⟩] 39))
  have HR := Lib.hid (show RowRow (w.alloc (Obj.cells #[Value.string ⟨#[]⟩, Value.int IntKind.i64 0, Value.int IntKind.i64 0, Value.int IntKind.i64 0, Value.string ⟨#[]⟩] 39)) w.heap.size 39 zeroR from RowRow.new w 39 zeroR)
  unfold slV at *
  go_enter Try.func22, Try.ntmps22
  go_wp2_with fail
  refine (HS.out _ ((H.out.below B1.out (Nat.le_refl _)).more B1.out.size)).mono ?_
  rintro e w1 ⟨rfl, hb1⟩
  have HR1 := Lib.hid (HR.out.on hb1)
  have B2 := Lib.hid (B1.out.trans (hb1.mono B1.out.size))
  clear hb1
  cases hr : rowsB l
  · have HV := Lib.hid (tell_false (q := q) hr)
    obtain ⟨r0, r1, r2, r3, r4⟩ := HR1.out.cells
    have f0 := HR1.out.free 0
    have f1 := HR1.out.free 1
    have f2 := HR1.out.free 2
    have f3 := HR1.out.free 3
    have f4 := HR1.out.free 4
    clear hr
    go_wp2_with fail
    refine bodyPost_ret (v := .agg #[.string ⟨#[]⟩, .int .i64 0, .int .i64 0, .int .i64 0, .string ⟨#[]⟩]) (by simp [results, Try.results22, go_sem, r0, r1, r2, r3, r4]) rfl ⟨?_, ?_⟩
    · rw [HV.out]; rfl
    · exact ((((B2.out.setCell (Nat.le_refl _) _).setCell (Nat.le_refl _) _).setCell (Nat.le_refl _) _).setCell (Nat.le_refl _) _).setCell (Nat.le_refl _) _
  · have HV := Lib.hid (tell_true (q := q) hr)
    clear hr
    go_wp2_with fail
    refine (HG.out _ ((H.out.below B2.out (Nat.le_refl _)).more B2.out.size)).mono ?_
    rintro e w2 ⟨rfl, hb2⟩
    have HR2 := Lib.hid (HR1.out.on hb2)
    have B3 := Lib.hid (B2.out.trans (hb2.mono B2.out.size))
    clear hb2
    obtain ⟨r0, r1, r2, r3, r4⟩ := HR2.out.cells
    have f0 := HR2.out.free 0
    have f1 := HR2.out.free 1
    have f2 := HR2.out.free 2
    have f3 := HR2.out.free 3
    have f4 := HR2.out.free 4
    obtain ⟨x, hx⟩ : ∃ x, getW l q = x := ⟨_, rfl⟩
    have HX := Lib.hid hx
    rw [hx]
    clear hx
    unfold R.val
    go_wp2_with fail
    refine bodyPost_ret (v := .agg #[.string x.k, .int .i64 x.i.c, .int .i64 x.i.s, .int .i64 x.i.e, .string x.b]) (by simp [results, Try.results22, go_sem, r0, r1, r2, r3, r4]) rfl ⟨?_, ?_⟩
    · rw [HV.out, HX.out]; rfl
    · exact ((((B3.out.setCell (Nat.le_refl _) _).setCell (Nat.le_refl _) _).setCell (Nat.le_refl _) _).setCell (Nat.le_refl _) _).setCell (Nat.le_refl _) _

theorem findW_step {l : List R} (hs : Sorted l) {k : Nat} (hk : k < l.length) (q : ByteArray) : upd (findW (l.take k)) l[k].k (some l[k]) q = findW (l.take (k + 1)) q := by
  have e : l.take (k + 1) = l.take k ++ [l[k]] := by simp
  have hs1 : Sorted (l.take (k + 1)) := List.Pairwise.sublist (List.take_sublist _ _) hs
  unfold upd
  by_cases h : q = l[k].k
  · subst h
    rw [if_pos rfl]
    exact (findW_mem hs1 (by rw [e]; exact List.mem_append_right _ (List.mem_singleton.2 rfl))).symm
  · rw [if_neg h, e]
    generalize l.take k = m
    induction m with
    | nil =>
      show none = (if l[k].k = q then some l[k] else none)
      rw [if_neg fun e => h e.symm]
    | cons x m ih => simp only [List.cons_append, findW, ih]

set_option maxHeartbeats 2000000 in
theorem byKey_any (A : Option Addr) (l : List R) (cap : Nat) (w : World) (h : Lies w w.heap.size A l) (hl : l.length ≤ 1000000) (hs : Sorted l) (hk : ∀ d ∈ l, Fits d) :
    Calls Try.prog 45 #[slV A l cap] w fun e w' => e = .returned (.map (some w.heap.size)) ∧ MapIs w' w.heap.size l.length (findW l) ∧ Below w.heap.size w w' := by
  have H := Lib.hid h
  have HK := Lib.hid hk
  have HS := Lib.hid hs
  clear h hk hs
  have hmm := @run_makeMap Try.prog
  unfold slV
  go_enter Try.func45, Try.ntmps45
  go_wp2_with fail
  clear hmm
  go_loopw [9] (fun i wr => ∃ k : Nat, k ≤ l.length ∧ i = .int .i64 k ∧ Hid (MapIs wr w.heap.size k (findW (l.take k)) ∧ Below w.heap.size w wr)) (fun i _ => l.length - (intOf i).toNat)
  case atStart => exact ⟨0, by omega, rfl, Lib.hid ⟨MapIs.made w, (Below.refl _ _).alloc (Nat.le_refl _) _⟩⟩
  case round =>
    obtain ⟨k, hk, rfl, HR⟩ := hrel
    by_cases hlt : k < l.length
    · obtain ⟨ad, rfl, _, c0, c1, c2, c3, c4⟩ := (H.out.below HR.out.2 (Nat.le_refl _)).at_ hlt
      have HST := Lib.hid (findW_step HS.out hlt)
      have hky := (HK.out l[k] (List.getElem_mem hlt)).1
      obtain ⟨y, hy⟩ : ∃ y, l[k] = y := ⟨_, rfl⟩
      rw [hy] at c0 c1 c2 c3 c4 HST hky
      clear hy
      go_wp2_with (first
        | (at_mapUpdate; refine wpList_put rfl _ _ _ rfl (HR.out.1.alloc y.obj) rfl (by unfold maxLen; omega) y.k y hky rfl rfl ?_; intro w2 hm2 hg2; have HM2 := Lib.hid (hm2.congr HST.out); have B2 := Lib.hid ((HR.out.2.alloc HR.out.2.size y.obj).grown hg2 (by have := HR.out.2.size; simp; omega) (fun j hj => by cases hj; exact Nat.le_refl _)); clear hm2 hg2; go_frame)
        | go_in)
      go_roundw
      case rel => exact ⟨k + 1, by omega, by go_num, Lib.hid ⟨HM2.out, B2.out⟩⟩
      case measure => simp [intOf]; omega
    · have e : k = l.length := by omega
      go_wp2_with fail
      go_ret
      refine ⟨rfl, ?_, HR.out.2⟩
      have h1 := HR.out.1
      rw [List.take_of_length_le (by omega), e] at h1
      exact h1

theorem get_fits {l : List R} (hk : ∀ d ∈ l, d.k.size ≤ 1048576 ∧ d.b.size ≤ 1048576) (q : ByteArray) : (getW l q).k.size ≤ 1048576 ∧ (getW l q).b.size ≤ 1048576 := by
  unfold getW
  cases h : findW l q with
  | none => exact ⟨by show (0 : Nat) ≤ _; omega, by show (0 : Nat) ≤ _; omega⟩
  | some r => exact hk r (findW_some h).1
theorem ok_small {l : List R} (h : rowsB l = true) : ∀ d ∈ l, d.k.size ≤ 1048576 ∧ d.b.size ≤ 1048576 := fun d hd => by
  have h1 := (rowB_iff d).1 ((ok_of h).2.1 d hd)
  have h2 := (Key.ok_of h1.1).2.1
  exact ⟨by omega, by omega⟩

set_option maxHeartbeats 1000000 in
theorem implStoreGet_any (A : Option Addr) (l : List R) (cap : Nat) (q : ByteArray) (w : World) (h : Lies w w.heap.size A l) (hl : l.length ≤ 1048576) (hk : ∀ d ∈ l, Fits d) (hq : q.size ≤ maxLen) :
    Calls Try.prog 23 #[slV A l cap, .string q] w fun e w' => e = .returned (tellV l q).val ∧ Below w.heap.size w w' := by
  have H := Lib.hid h
  have HS := Lib.hid (fun W (hW : Lies W W.heap.size A l) => implStore_any A l cap W hW hl hk)
  have HG := Lib.hid (fun W (hW : Lies W W.heap.size A l) (hr : rowsB l = true) => byKey_any A l cap W hW (by have := (ok_of hr).1; omega) (ok_of hr).2.2 hk)
  clear h hk
  have B1 := Lib.hid ((Below.refl w.heap.size w).alloc (Nat.le_refl _) (Obj.cells #[Value.string ⟨#[]⟩, Value.int IntKind.i64 0, Value.int IntKind.i64 0, Value.int IntKind.i64 0, Value.string ⟨#[]⟩] 39))
  have HR := Lib.hid (show RowRow (w.alloc (Obj.cells #[Value.string ⟨#[]⟩, Value.int IntKind.i64 0, Value.int IntKind.i64 0, Value.int IntKind.i64 0, Value.string ⟨#[]⟩] 39)) w.heap.size 39 zeroR from RowRow.new w 39 zeroR)
  unfold slV at *
  go_enter Try.func23, Try.ntmps23
  go_wp2_with fail
  refine (HS.out _ ((H.out.below B1.out (Nat.le_refl _)).more B1.out.size)).mono ?_
  rintro e w1 ⟨rfl, hb1⟩
  have HR1 := Lib.hid (HR.out.on hb1)
  have B2 := Lib.hid (B1.out.trans (hb1.mono B1.out.size))
  clear hb1
  cases hr : rowsB l
  · have HV := Lib.hid (tell_false (q := q) hr)
    obtain ⟨r0, r1, r2, r3, r4⟩ := HR1.out.cells
    have f0 := HR1.out.free 0
    have f1 := HR1.out.free 1
    have f2 := HR1.out.free 2
    have f3 := HR1.out.free 3
    have f4 := HR1.out.free 4
    clear hr
    go_wp2_with fail
    refine bodyPost_ret (v := .agg #[.string ⟨#[]⟩, .int .i64 0, .int .i64 0, .int .i64 0, .string ⟨#[]⟩]) (by simp [results, Try.results23, go_sem, r0, r1, r2, r3, r4]) rfl ⟨?_, ?_⟩
    · rw [HV.out]; rfl
    · exact ((((B2.out.setCell (Nat.le_refl _) _).setCell (Nat.le_refl _) _).setCell (Nat.le_refl _) _).setCell (Nat.le_refl _) _).setCell (Nat.le_refl _) _
  · have HV := Lib.hid (tell_true (q := q) hr)
    have HO := Lib.hid hr
    have HF := Lib.hid (get_fits (ok_small hr) q)
    clear hr
    go_wp2_with fail
    refine (HG.out _ ((H.out.below B2.out (Nat.le_refl _)).more B2.out.size) HO.out).mono ?_
    rintro e w2 ⟨rfl, hm2, hb2⟩
    have HR2 := Lib.hid (HR1.out.on hb2)
    have HM2 := Lib.hid hm2
    have B3 := Lib.hid (B2.out.trans (hb2.mono B2.out.size))
    clear hb2 hm2
    go_wp2_with (at_lookup; refine wpList_get rfl _ _ rfl HM2.out rfl q hq rfl ?_)
    refine (newRow_any (getW l q) _ HF.out.1 HF.out.2).mono ?_
    rintro e w3 ⟨rfl, hb3⟩
    have HR3 := Lib.hid (HR2.out.on hb3)
    have B4 := Lib.hid (B3.out.trans (hb3.mono B3.out.size))
    clear hb3
    obtain ⟨r0, r1, r2, r3, r4⟩ := HR3.out.cells
    have f0 := HR3.out.free 0
    have f1 := HR3.out.free 1
    have f2 := HR3.out.free 2
    have f3 := HR3.out.free 3
    have f4 := HR3.out.free 4
    obtain ⟨x, hx⟩ : ∃ x, getW l q = x := ⟨_, rfl⟩
    have HX := Lib.hid hx
    rw [hx]
    clear hx
    unfold R.val
    go_wp2_with fail
    refine bodyPost_ret (v := .agg #[.string x.k, .int .i64 x.i.c, .int .i64 x.i.s, .int .i64 x.i.e, .string x.b]) (by simp [results, Try.results23, go_sem, r0, r1, r2, r3, r4]) rfl ⟨?_, ?_⟩
    · rw [HV.out, HX.out]; rfl
    · exact ((((B4.out.setCell (Nat.le_refl _) _).setCell (Nat.le_refl _) _).setCell (Nat.le_refl _) _).setCell (Nat.le_refl _) _).setCell (Nat.le_refl _) _
end Go.Proofs.Ytlhebgfiljmeiaa.Sto
