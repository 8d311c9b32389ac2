/-
  The draws of the given package spec for the law of deps: two deps; deps, a key and an Id; two deps of which the one may begin the other.
-/
import Derived.Test.YtkmlnibkdcdegaaDrawOdd
import Derived.Deep.RegionHeld3
import Derived.IntWalk
namespace Go.Proofs.Ytkmlnibkdcdegaa.Src
open Go.ChangeShapes Go.WideShapes Go.ChangeAt Go.RowKit
open Go.Proofs.Ytkmlnibkdcdegaa.Dep (D I slV flat Lies)
set_option linter.unusedVariables false
set_option maxRecDepth 100000

/-- Deps that were drawn. -/
def Drawn (W : World) (A : Option Addr) (l : List D) (c : Nat) : Prop := l.length ≤ c ∧ c ≤ maxLen ∧ Lies W W.heap.size A l ∧ l.length ≤ 8 ∧ ∀ d ∈ l, d.k.size ≤ 5
theorem Mine.drawn {w W : World} {A : Option Addr} {l : List D} {c : Nat} (h : Mine w W 8 A l c) : Drawn W A l c := ⟨h.2.1, h.2.2.1, h.2.2.2.1, h.2.2.2.2.1, h.2.2.2.2.2⟩
theorem Drawn.below {W W' : World} {A : Option Addr} {l : List D} {c : Nat} (h : Drawn W A l c) (hb : Below W.heap.size W W') : Drawn W' A l c := ⟨h.1, h.2.1, (h.2.2.1.below hb (Nat.le_refl _)).more hb.size, h.2.2.2⟩
theorem below_of2 {w w1 w' : World} {b : Nat} (h1 : Below w.heap.size w w1) (hg : w1.grownBy w' (some b)) (hb : w.heap.size ≤ b) : Below w.heap.size w w' :=
  h1.grown hg h1.size (fun k e => by cases e; exact hb)

set_option maxHeartbeats 1000000 in
theorem drawJoin_any (a : Option Addr) (len cap : Nat) (w : World) (hc : Bytes w.heap.size w a len cap) :
    Calls Try.prog 8 #[.slice a len cap] w fun e w' => ∃ A l c A' l' c', e = .returned (.tuple #[slV (some A) l c, slV (some A') l' c']) ∧ Drawn w' (some A) l c ∧ Drawn w' (some A') l' c' ∧ Below w.heap.size w w' := by
  have HC := Lib.hid (source_any w.heap.size a len cap w (Nat.le_refl _) hc)
  clear hc
  go_enter Try.func8, Try.ntmps8
  go_wp2_with fail
  refine HC.out.mono ?_
  rintro x w1 ⟨rfl, hst, hb⟩
  have S1 := Lib.hid hst
  have B1 := Lib.hid hb
  clear hst hb
  go_wp2_with fail
  refine (odd_st w.heap.size w.heap.size len cap a _ S1.out).mono ?_
  rintro x w2 ⟨A, l, c, rfl, hm, hst, hg⟩
  have hlt := S1.out.2.1
  have M2 := Lib.hid hm
  have S2 := Lib.hid hst
  have B2 := Lib.hid (below_of2 B1.out hg (Nat.le_refl _))
  have hsz := hg.size
  clear hm hst hg
  unfold slV
  go_wp2_with fail
  refine (odd_st w.heap.size w.heap.size len cap a _ S2.out).mono ?_
  rintro x w3 ⟨A', l', c', rfl, hm, hst, hg⟩
  have M3 := Lib.hid hm
  have N3 := Lib.hid (M2.out.grown hg hlt)
  have B3 := Lib.hid (below_of2 B2.out hg (Nat.le_refl _))
  clear hm hst hg
  unfold slV
  go_wp2_with fail
  go_ret2
  exact ⟨A, l, c, A', l', c', rfl, N3.out.drawn, M3.out.drawn, B3.out⟩

theorem Mine.put3 {w W : World} {A : Option Addr} {l : List D} {c k : Nat} (h : Mine w W 8 A l c) (hk : k < w.heap.size) (x y z : Value) : Drawn (((W.setCell ⟨k, 0, none⟩ x).setCell ⟨k, 1, none⟩ y).setCell ⟨k, 2, none⟩ z) A l c := by
  obtain ⟨h1, h2, h3, h4, h5, h6⟩ := h
  have ho := Dep.own_set (Dep.own_set (Dep.own_set h1 (p := ⟨k, 0, none⟩) hk x) (p := ⟨k, 1, none⟩) hk y) (p := ⟨k, 2, none⟩) hk z
  obtain ⟨_, A', c', e, _, hL⟩ := Dep.own_lies ho
  unfold slV at e
  injection e with e1 _ _
  subst e1
  exact ⟨h2, h3, hL, h5, h6⟩

abbrev picks3 : List ByteArray := [⟨#[120]⟩, ⟨#[]⟩, ⟨#[89]⟩]
theorem short3 : ∀ p ∈ picks3, p.size ≤ 5 := by
  intro p hp
  simp only [List.mem_cons, List.not_mem_nil, or_false] at hp
  rcases hp with rfl | rfl | rfl <;> decide

set_option maxHeartbeats 2000000 in
theorem drawPut_any (a : Option Addr) (len cap : Nat) (w : World) (hc : Bytes w.heap.size w a len cap) :
    Calls Try.prog 10 #[.slice a len cap] w fun e w' => ∃ A l c q x, e = .returned (.tuple #[slV (some A) l c, .string q, I.val x]) ∧ Drawn w' (some A) l c ∧ q.size ≤ 5 ∧ Below w.heap.size w w' := by
  have HC := Lib.hid hc
  clear hc
  go_enter Try.func10, Try.ntmps10
  go_wp2_with fail
  have A0 := Lib.hid ((Below.refl w.heap.size w).alloc (Nat.le_refl _) (Obj.cells #[Value.int .i64 0, .int .i64 0, .int .i64 0] 30))
  have R0 := Lib.hid (Id.IdRow.new w 30 0 0 0)
  have hz0 : w.heap.size < (w.alloc (Obj.cells #[Value.int .i64 0, .int .i64 0, .int .i64 0] 30)).heap.size := by simp
  generalize World.alloc w _ = W0 at A0 R0 hz0 ⊢
  refine (source_any w.heap.size a len cap W0 (by omega) (HC.out.below A0.out)).mono ?_
  rintro x w1 ⟨rfl, hst1, hb1⟩
  have R1 := Lib.hid (R0.out.step hb1 R0.out.lt)
  have S1 := Lib.hid hst1
  have B1 := Lib.hid (A0.out.trans (hb1.mono (by omega)))
  clear hst1 hb1
  generalize W0.heap.size = b at *
  go_wp2_with fail
  refine (odd_st w.heap.size b len cap a w1 S1.out).mono ?_
  rintro x w2 ⟨A, l, c, rfl, hm, hst, hg⟩
  have hlt := S1.out.2.1
  have hz1 : w.heap.size ≤ w1.heap.size := B1.out.size
  have M2 := Lib.hid hm
  have S2 := Lib.hid hst
  have B2 := Lib.hid (below_of2 B1.out hg (by omega))
  have R2 := Lib.hid (idrow_grown R1.out hg (by omega))
  clear hm hst hg
  unfold slV
  go_wp2_with fail
  refine (key_st w.heap.size b len cap a _ S2.out).mono ?_
  rintro x w3 ⟨q, rfl, hq, hst, hg⟩
  have M3 := Lib.hid (M2.out.grown hg hlt)
  have S3 := Lib.hid hst
  have B3 := Lib.hid (below_of2 B2.out hg (by omega))
  have R3 := Lib.hid (idrow_grown R2.out hg (by omega))
  clear hst hg
  go_wp2_with fail
  refine (one_st w.heap.size b len cap a 8 _ (by omega) S3.out).mono ?_
  rintro x w4 ⟨t, rfl, hst, hg⟩
  have M4 := Lib.hid (M3.out.grown hg hlt)
  have S4 := Lib.hid hst
  have B4 := Lib.hid (below_of2 B3.out hg (by omega))
  have R4 := Lib.hid (idrow_grown R3.out hg (by omega))
  clear hst hg
  cases t
  · go_wp2_with fail
    refine (id_st w.heap.size b len cap a w4 S4.out).mono ?_
    rintro x w9 ⟨xc, xs, xe, rfl, hst, hg⟩
    have M9 := Lib.hid (M4.out.grown hg hlt)
    have B9 := Lib.hid (below_of2 B4.out hg (by omega))
    have R9 := idrow_grown R4.out hg (by omega)
    have hk : w.heap.size < w1.heap.size := by omega
    obtain ⟨r0, r1, r2⟩ := R9.cells
    obtain ⟨f0, f1, f2⟩ := R9.frozen
    obtain ⟨d0, d1, d2⟩ := (Id.IdRow.put (x := xc) (y := xs) (z := xe) R9).cells
    unfold Id.idV
    clear hst hg
    go_wp2_with fail
    refine bodyPost_ret (v := .tuple #[slV (some A) l c, .string q, I.val ⟨xc, xs, xe⟩]) (by simp [results, Try.results10, go_sem, slV, I.val, Id.idV, d0, d1, d2]) rfl ?_
    exact ⟨A, l, c, q, ⟨xc, xs, xe⟩, rfl, M9.out.put3 hk _ _ _, hq, B9.out.trans (put_above w9 w.heap.size w.heap.size (Nat.le_refl _) _ _ _)⟩
  · have hlt4 := S4.out.2.1
    have hsz4 : w.heap.size ≤ w4.heap.size := B4.out.size
    go_wp2_with fail
    have S5 := S4.out.above ((Below.refl _ w4).alloc (by omega) (Obj.cells (picks3.map Value.string).toArray 9))
    have M5 := Lib.hid (M4.out.below ((Below.refl _ w4).alloc (Nat.le_refl _) (Obj.cells (picks3.map Value.string).toArray 9)))
    have B5 := Lib.hid (B4.out.alloc hsz4 (Obj.cells (picks3.map Value.string).toArray 9))
    have R5 := Lib.hid (R4.out.alloc (Obj.cells (picks3.map Value.string).toArray 9))
    have HP := Lib.hid (pick_st w.heap.size b len cap w4.heap.size 9 5 a picks3 _ S5 (by omega) (heap_alloc_new w4 _) (by decide) (by decide) short3)
    refine HP.out.mono ?_
    rintro x w6 ⟨u, rfl, hu, hst, hg⟩
    have M6 := Lib.hid (M5.out.grown hg hlt)
    have S6 := Lib.hid hst
    have B6 := Lib.hid (below_of2 B5.out hg (by omega))
    have R6 := Lib.hid (idrow_grown R5.out hg (by omega))
    clear hst hg S5 HP
    go_wp2_with fail
    refine (id_st w.heap.size b len cap a w6 S6.out).mono ?_
    rintro x w9 ⟨xc, xs, xe, rfl, hst, hg⟩
    have M9 := Lib.hid (M6.out.grown hg hlt)
    have B9 := Lib.hid (below_of2 B6.out hg (by omega))
    have R9 := idrow_grown R6.out hg (by omega)
    have hk : w.heap.size < w1.heap.size := by omega
    obtain ⟨r0, r1, r2⟩ := R9.cells
    obtain ⟨f0, f1, f2⟩ := R9.frozen
    obtain ⟨d0, d1, d2⟩ := (Id.IdRow.put (x := xc) (y := xs) (z := xe) R9).cells
    unfold Id.idV
    clear hst hg
    go_wp2_with fail
    refine bodyPost_ret (v := .tuple #[slV (some A) l c, .string u, I.val ⟨xc, xs, xe⟩]) (by simp [results, Try.results10, go_sem, slV, I.val, Id.idV, d0, d1, d2]) rfl ?_
    exact ⟨A, l, c, u, ⟨xc, xs, xe⟩, rfl, M9.out.put3 hk _ _ _, hu, B9.out.trans (put_above w9 w.heap.size w.heap.size (Nat.le_refl _) _ _ _)⟩

theorem sizeDep (W : World) : (sizeOf (Try.prog.elem 23)).run Try.prog W = .ok 4 W := by kernel_rfl
theorem head_dep (A : Addr) (n c k : Nat) (hk : k < n) (hc : n ≤ c) (W : World) : (Instr.slice 23 (.slice (some A) n c) none (some (.int .i64 ((k : Int) + 1))) none).run Try.prog W = .ok (.slice (some A) (k + 1) c) W := by
  have hsz := sizeDep W
  have e : ((k : Int) + 1).toNat = k + 1 := by omega
  rw [run_slice_h (P := Try.prog) (w := W) 23 (some A) n c Try.underlying23 .i64 ((k : Int) + 1) (by omega) (by omega), hsz]
  simp [Result.andThen, sliced, e, Addr.add]
theorem Drawn.take {W : World} {A : Option Addr} {l : List D} {c : Nat} (h : Drawn W A l c) (k : Nat) : Drawn W A (l.take k) c :=
  ⟨by have := h.1; simp; omega, h.2.1, h.2.2.1.take k, by have := h.2.2.2.1; simp; omega, fun d hd => h.2.2.2.2 d (List.mem_of_mem_take hd)⟩

set_option maxHeartbeats 2000000 in
set_option maxRecDepth 100000 in
theorem drawCovers_any (a : Option Addr) (len cap : Nat) (w : World) (hc : Bytes w.heap.size w a len cap) :
    Calls Try.prog 12 #[.slice a len cap] w fun e w' => ∃ A l c A' l' c', e = .returned (.tuple #[slV (some A) l c, slV (some A') l' c']) ∧ Drawn w' (some A) l c ∧ Drawn w' (some A') l' c' ∧ Below w.heap.size w w' := by
  have HC := Lib.hid (source_any w.heap.size a len cap w (Nat.le_refl _) hc)
  clear hc
  go_enter Try.func12, Try.ntmps12
  go_wp2_with fail
  refine HC.out.mono ?_
  rintro x w1 ⟨rfl, hst, hb⟩
  have S1 := Lib.hid hst
  have B1 := Lib.hid hb
  clear hst hb
  go_wp2_with fail
  refine (odd_st w.heap.size w.heap.size len cap a _ S1.out).mono ?_
  rintro x w2 ⟨A, l, c, rfl, hm, hst, hg⟩
  have hlt := S1.out.2.1
  have M2 := Lib.hid hm
  have S2 := Lib.hid hst
  have B2 := Lib.hid (below_of2 B1.out hg (Nat.le_refl _))
  have hl8 := hm.2.2.2.2.1
  have hcm := hm.2.2.1
  have hlc := hm.2.1
  clear hm hst hg
  unfold slV
  go_wp2_with fail
  refine (one_st w.heap.size w.heap.size len cap a 2 _ (by omega) S2.out).mono ?_
  rintro x w3 ⟨t, rfl, hst, hg⟩
  have M3 := Lib.hid (M2.out.grown hg hlt)
  have S3 := Lib.hid hst
  have B3 := Lib.hid (below_of2 B2.out hg (Nat.le_refl _))
  clear hst hg
  by_cases ht : t = true ∧ 0 < l.length
  · obtain ⟨rfl, hl0⟩ := ht
    have hl00 : (0 : Int) < (l.length : Int) := by omega
    go_upto_region 4 with fail
    have M4 := Lib.hid (M3.out.below ((Below.refl _ _).drew))
    have S4 := Lib.hid (S3.out.above ((Below.refl _ _).drew))
    have B4 := Lib.hid (B3.out.trans (((Below.refl w3.heap.size w3).drew).mono B3.out.size))
    refine wp_region_held_drew (S := fun _ => True) (by kernel_rfl) ?_ (fun hHeld => ?_)
    · trivial
    refine wpAnyH_take (i := 0) (v := ?_) rfl (by kernel_rfl) (by kernel_rfl) (by kernel_rfl) (fun _ _ _ h => h) (Or.inl ⟨by rfl, ?_⟩) hHeld ?_
    rotate_left
    · intro W hSw
      go_simp
      try with_reducible rfl
    try simp only [Act.put, List.setIfInBounds_toArray, List.set_cons_zero, List.set_cons_succ, List.getElem_toArray, List.getElem_cons_zero]
    refine wpAnyH_take (i := 1) (v := ?_) rfl (by kernel_rfl) (by kernel_rfl) (by kernel_rfl) (fun _ _ _ h => h) (Or.inl ⟨by rfl, ?_⟩) hHeld ?_
    rotate_left
    · intro W hSw
      go_simp
      try with_reducible rfl
    try simp only [Act.put, List.setIfInBounds_toArray, List.set_cons_zero, List.set_cons_succ, List.getElem_toArray, List.getElem_cons_succ, List.getElem_cons_zero]
    refine wpAnyH_take (i := 2) (v := ?_) rfl (by kernel_rfl) (by kernel_rfl) (by kernel_rfl) (fun _ _ _ h => h) (Or.inl ⟨by rfl, ?_⟩) hHeld ?_
    rotate_left
    · intro W hSw
      go_simp
      try with_reducible rfl
    try simp only [Act.put, List.setIfInBounds_toArray, List.set_cons_zero, List.set_cons_succ, List.getElem_toArray, List.getElem_cons_succ, List.getElem_cons_zero]
    refine wpAnyH_take (i := 3) (v := ?_) rfl (by kernel_rfl) (by kernel_rfl) (by kernel_rfl) (fun _ _ _ h => h) (Or.inl ⟨by rfl, ?_⟩) hHeld ?_
    rotate_left
    · intro W hSw
      go_simp
      try with_reducible rfl
    try simp only [Act.put, List.setIfInBounds_toArray, List.set_cons_zero, List.set_cons_succ, List.getElem_toArray, List.getElem_cons_succ, List.getElem_cons_zero]
    refine wpAnyH_take (i := 4) (v := ?_) rfl (by kernel_rfl) (by kernel_rfl) (by kernel_rfl) (fun _ _ _ h => h) (Or.inl ⟨by rfl, ?_⟩) hHeld ?_
    rotate_left
    · intro W hSw
      go_simp
      try with_reducible rfl
    try simp only [Act.put, List.setIfInBounds_toArray, List.set_cons_zero, List.set_cons_succ, List.getElem_toArray, List.getElem_cons_succ, List.getElem_cons_zero]
    refine wpAnyH_ready (rs := [5]) (by kernel_rfl) (by simp) ?_
    refine AllReadyH.cons rfl (fun K hK => ?_) AllReadyH.nil
    go_simp
    refine (n_st w.heap.size w.heap.size len cap a (l.length : Int) _ (by omega) S4.out).mono ?_
    rintro x w5 ⟨r, rfl, hr0, hr1, hst, hg⟩
    obtain ⟨k, rfl⟩ := Int.eq_ofNat_of_zero_le hr0
    have hk : k < l.length := by omega
    have M5 := Lib.hid (M4.out.grown hg hlt)
    have B5 := Lib.hid (below_of2 B4.out hg (Nat.le_refl _))
    clear hst hg hr0 hr1
    have hsum : IntKind.i64.wrap ((k : Int) + 1) = (k : Int) + 1 := IntWalk.i64_in _ (by omega)
    have hsl := fun W => head_dep A l.length c k hk hlc W
    refine hK.out _ _ ?_ (fun hHeld => ?_)
    · trivial
    clear hK K
    try simp only [Act.put, List.setIfInBounds_toArray, List.set_cons_zero, List.set_cons_succ, List.getElem_toArray, List.getElem_cons_succ, List.getElem_cons_zero]
    refine wpAnyH_take (i := 6) (v := ?_) rfl (by kernel_rfl) (by kernel_rfl) (by kernel_rfl) (fun _ _ _ h => h) (Or.inl ⟨by rfl, ?_⟩) hHeld ?_
    rotate_left
    · intro W hSw
      go_simp
      try with_reducible rfl
    try simp only [Act.put, List.setIfInBounds_toArray, List.set_cons_zero, List.set_cons_succ, List.getElem_toArray, List.getElem_cons_succ, List.getElem_cons_zero]
    refine wpAnyH_take (i := 7) (v := ?_) rfl (by kernel_rfl) (by kernel_rfl) (by kernel_rfl) (fun _ _ _ h => h) (Or.inl ⟨by rfl, ?_⟩) hHeld ?_
    rotate_left
    · intro W hSw
      go_simp
      try with_reducible rfl
    try simp only [Act.put, List.setIfInBounds_toArray, List.set_cons_zero, List.set_cons_succ, List.getElem_toArray, List.getElem_cons_succ, List.getElem_cons_zero]
    refine wpAnyH_take (i := 8) (v := ?_) rfl (by kernel_rfl) (by kernel_rfl) (by kernel_rfl) (fun _ _ _ h => h) (Or.inl ⟨by rfl, ?_⟩) hHeld ?_
    rotate_left
    · intro W hSw
      go_simp
      try with_reducible rfl
    try simp only [Act.put, List.setIfInBounds_toArray, List.set_cons_zero, List.set_cons_succ, List.getElem_toArray, List.getElem_cons_succ, List.getElem_cons_zero]
    refine wpAnyH_take (i := 9) (v := ?_) rfl (by kernel_rfl) (by kernel_rfl) (by kernel_rfl) (fun _ _ _ h => h) (Or.inl ⟨by rfl, ?_⟩) hHeld ?_
    rotate_left
    · intro W hSw
      go_simp
      try with_reducible rfl
    try simp only [Act.put, List.setIfInBounds_toArray, List.set_cons_zero, List.set_cons_succ, List.getElem_toArray, List.getElem_cons_succ, List.getElem_cons_zero]
    refine wpAnyH_done (by kernel_rfl) ?_ _
    go_wp2_with fail
    go_ret2
    exact ⟨A, l, c, A, l.take (k + 1), c, by simp [slV, Nat.min_eq_left (show k + 1 ≤ l.length by omega)], M5.out.drawn, M5.out.drawn.take _, B5.out⟩
  · have hcase : t = false ∨ (t = true ∧ l.length = 0) := by
      cases t
      · exact .inl rfl
      · exact .inr ⟨rfl, Classical.byContradiction fun h => ht ⟨rfl, by omega⟩⟩
    clear ht
    have HO := Lib.hid (odd_st w.heap.size w.heap.size len cap a _ S3.out)
    rcases hcase with rfl | ⟨rfl, h0⟩
    · go_wp2_with fail
      refine HO.out.mono ?_
      rintro x w4 ⟨A', l', c', rfl, hm, hst, hg⟩
      have M4 := Lib.hid hm
      have N4 := Lib.hid (M3.out.grown hg hlt)
      have B4 := Lib.hid (below_of2 B3.out hg (Nat.le_refl _))
      clear hm hst hg
      unfold slV
      go_wp2_with fail
      go_ret2
      exact ⟨A, l, c, A', l', c', rfl, N4.out.drawn, M4.out.drawn, B4.out⟩
    · obtain rfl := List.eq_nil_of_length_eq_zero h0
      clear h0
      go_wp2_with fail
      refine HO.out.mono ?_
      rintro x w4 ⟨A', l', c', rfl, hm, hst, hg⟩
      have M4 := Lib.hid hm
      have N4 := Lib.hid (M3.out.grown hg hlt)
      have B4 := Lib.hid (below_of2 B3.out hg (Nat.le_refl _))
      clear hm hst hg
      unfold slV
      go_wp2_with fail
      go_ret2
      exact ⟨A, [], c, A', l', c', rfl, N4.out.drawn, M4.out.drawn, B4.out⟩
end Go.Proofs.Ytkmlnibkdcdegaa.Src
