/-
  impl.RecRight, and what it asks: (record).right, depsBelow, bundleRight, joinAll of two lists.
-/
import Derived.Test.YtegnjbdgeibhfaaRecBundled
namespace Go.Proofs.Ytegnjbdgeibhfaa.Rec
open Go.ChangeShapes Go.WideShapes Go.ChangeAt Go.RowKit
open Dep (D I putV flat joinV depsB clockV)
set_option linter.unusedVariables false
set_option maxRecDepth 100000
set_option linter.unusedSimpArgs false

/-- May that be written at that key? -/
noncomputable def contB (k : ByteArray) (d : ByteArray) (g : Bool) : Bool := !(g && !d.toList.isEmpty) && (Key.keyB k && datB d)
/-- What can be told of a record without its lists. -/
noncomputable def rgtB (k : ByteArray) (i : I) (d : ByteArray) (g : Bool) : Bool := i.right && contB k d g

theorem content_any (k : ByteArray) (d : ByteArray) (g : Bool) (w : World) (hk : k.size ≤ maxLen) (hd : d.size ≤ maxLen) :
    Calls Try.prog 110 #[.string k, .string d, .bool g] w fun x w' => x = .returned (.bool (contB k d g)) ∧ w' = w := by
  have HK := Lib.hid (fun W => Key.implKey_any k W hk)
  have HD := Lib.hid (fun W => implData_any d W hd)
  obtain ⟨t, ht⟩ : ∃ t, contB k d g = t := ⟨_, rfl⟩
  have HT := Lib.hid ht
  rw [ht]
  clear ht
  obtain ⟨em, hem⟩ : ∃ em, d.toList.isEmpty = em := ⟨_, rfl⟩
  obtain ⟨kb, hkb⟩ : ∃ kb, Key.keyB k = kb := ⟨_, rfl⟩
  obtain ⟨db, hdb⟩ : ∃ db, datB d = db := ⟨_, rfl⟩
  unfold contB at HT
  rw [hkb] at HK HT
  rw [hdb] at HD HT
  rw [hem] at HT
  clear hkb hdb
  have GO : ∀ (hg : (g && !em) = false), Calls Try.prog 110 #[.string k, .string d, .bool g] w fun x w' => x = .returned (.bool t) ∧ w' = w := by
    intro hg
    cases kb
    · have hf : false = t := by have := HT.out; rw [hg] at this; exact this
      subst hf
      cases g
      · clear hg hem
        go_enter Try.func110, Try.ntmps110
        go_wp2_with fail
        refine (HK.out _).mono ?_
        rintro e w' ⟨rfl, rfl⟩
        go_wp2_with fail
        go_ret
        exact ⟨rfl, rfl⟩
      · have hem2 : d.toList.isEmpty = true := by rw [hem]; simpa using hg
        clear hg hem
        go_enter Try.func110, Try.ntmps110
        go_wp2_with fail
        refine (HK.out _).mono ?_
        rintro e w' ⟨rfl, rfl⟩
        go_wp2_with fail
        go_ret
        exact ⟨rfl, rfl⟩
    · have hf : db = t := by have := HT.out; rw [hg] at this; exact this
      subst hf
      cases g
      · clear hg hem
        go_enter Try.func110, Try.ntmps110
        go_wp2_with fail
        refine (HK.out _).mono ?_
        rintro e w' ⟨rfl, rfl⟩
        go_wp2_with fail
        refine (HD.out _).mono ?_
        rintro e w' ⟨rfl, rfl⟩
        go_wp2_with fail
        go_ret
        exact ⟨rfl, rfl⟩
      · have hem2 : d.toList.isEmpty = true := by rw [hem]; simpa using hg
        clear hg hem
        go_enter Try.func110, Try.ntmps110
        go_wp2_with fail
        refine (HK.out _).mono ?_
        rintro e w' ⟨rfl, rfl⟩
        go_wp2_with fail
        refine (HD.out _).mono ?_
        rintro e w' ⟨rfl, rfl⟩
        go_wp2_with fail
        go_ret
        exact ⟨rfl, rfl⟩
  cases g
  · exact GO rfl
  · cases em
    · have hf : false = t := HT.out
      subst hf
      clear GO
      go_enter Try.func110, Try.ntmps110
      go_wp2_with fail
      go_ret
      exact ⟨rfl, rfl⟩
    · exact GO rfl

theorem rcdRight_any (k : ByteArray) (i : I) (d : ByteArray) (g : Bool) (w : World) (hk : k.size ≤ maxLen) (hd : d.size ≤ maxLen) :
    Calls Try.prog 98 #[.agg #[.int .i64 i.c, .int .i64 i.s, .int .i64 i.e, .string k, .string d, .bool g]] w fun x w' => x = .returned (.bool (rgtB k i d g)) ∧ Below w.heap.size w w' := by
  have B0 := Lib.hid ((Below.refl w.heap.size w).alloc (Nat.le_refl _) (.cells #[.int .i64 i.c, .int .i64 i.s, .int .i64 i.e, .string k, .string d, .bool g] 114))
  have X0 := Lib.hid (Blk.new w 114 #[.int .i64 i.c, .int .i64 i.s, .int .i64 i.e, .string k, .string d, .bool g])
  have HC := Lib.hid (fun W => content_any k d g W hk hd)
  have HI := Lib.hid (fun W => Id.implRight_any i.c i.s i.e W)
  have er : i.right = Id.rightB i.c i.s i.e := rfl
  rw [← er] at HI
  unfold Id.idV at HI
  clear er
  unfold rgtB
  obtain ⟨ib, hib⟩ : ∃ ib, i.right = ib := ⟨_, rfl⟩
  obtain ⟨cb, hcb⟩ : ∃ cb, contB k d g = cb := ⟨_, rfl⟩
  rw [hib] at HI ⊢
  rw [hcb] at HC ⊢
  clear hib hcb
  cases ib
  · go_enter Try.func98, Try.ntmps98
    go_wp2_with fail
    refine (HI.out _).mono ?_
    rintro e w1 ⟨rfl, hb1⟩
    have B1 := Lib.hid (B0.out.trans (hb1.mono B0.out.size))
    clear hb1
    go_wp2_with fail
    go_ret
    exact ⟨rfl, B1.out⟩
  · go_enter Try.func98, Try.ntmps98
    go_wp2_with fail
    refine (HI.out _).mono ?_
    rintro e w1 ⟨rfl, hb1⟩
    have B1 := Lib.hid (B0.out.trans (hb1.mono B0.out.size))
    have x3 : w1.cell? ⟨w.heap.size, 3, none⟩ = some (.string k) := (X0.out.on hb1).cell 3
    have x4 : w1.cell? ⟨w.heap.size, 4, none⟩ = some (.string d) := (X0.out.on hb1).cell 4
    have x5 : w1.cell? ⟨w.heap.size, 5, none⟩ = some (.bool g) := (X0.out.on hb1).cell 5
    clear hb1
    go_wp2_with fail
    refine (HC.out _).mono ?_
    rintro e w' ⟨rfl, rfl⟩
    go_wp2_with fail
    go_ret
    exact ⟨rfl, B1.out⟩

set_option maxHeartbeats 2000000 in
theorem depsBelow_any (r : R) (p : P) (w : World) (h : Lies w w.heap.size r p) (hs : Sound r) :
    Calls Try.prog 99 #[recV r p] w fun x w' => x = .returned (.bool (depsB r.l && decide (clockV r.l < r.i.c))) ∧ Below w.heap.size w w' := by
  obtain ⟨zk, zd, zl, zlk, zb, zbk⟩ := hs
  have HR := Lib.hid (fun W (hW : Below w.heap.size w W) => Dep.implDeps_any p.A r.l p.ca W ((h.1.below hW (Nat.le_refl _)).more hW.size) zl zlk)
  have HC := Lib.hid (fun W (hW : Below w.heap.size w W) => Dep.implClock_any p.A r.l p.ca W ((h.1.below hW (Nat.le_refl _)).more hW.size) zl zlk)
  have HB := Lib.hid ((Below.refl w.heap.size w).alloc (Nat.le_refl _) (.cells (cellsV r p) 61))
  have HX := Lib.hid (Blk.new w 61 (cellsV r p))
  clear h zlk zbk
  unfold Dep.slV at HR HC
  unfold recV
  cases el : depsB r.l
  · rw [el] at HR
    rw [Bool.false_and]
    clear el
    go_enter Try.func99, Try.ntmps99
    go_wp2_with fail
    refine wp_region_held_drew (S := (fun W => Blk W w.heap.size 61 (cellsV r p) ∧ Below w.heap.size w W)) (by kernel_rfl) ?_ (fun hHeld => ?_)
    · exact ⟨HX.out, HB.out.drew⟩
    refine wpAnyH_take (i := 0) (v := ?_) rfl (by kernel_rfl) (by kernel_rfl) (by kernel_rfl) (fun _ _ _ h => h) (Or.inl ⟨by rfl, ?_⟩) hHeld ?_
    rotate_left
    · intro W hSw
      obtain ⟨q1, _⟩ := hSw
      obtain ⟨hs1, hs2, hs3, hs4, hs5, hs6, hs7, hs8⟩ := cells8 q1
      go_simp
      try with_reducible rfl
    try simp only [Act.put, List.setIfInBounds_toArray, List.set_cons_zero, List.set_cons_succ, List.getElem_toArray, List.getElem_cons_zero]
    refine wpAnyH_take (i := 1) (v := ?_) rfl (by kernel_rfl) (by kernel_rfl) (by kernel_rfl) (fun _ _ _ h => h) (Or.inl ⟨by rfl, ?_⟩) hHeld ?_
    rotate_left
    · intro W hSw
      obtain ⟨q1, _⟩ := hSw
      obtain ⟨hs1, hs2, hs3, hs4, hs5, hs6, hs7, hs8⟩ := cells8 q1
      go_simp
      try with_reducible rfl
    try simp only [Act.put, List.setIfInBounds_toArray, List.set_cons_zero, List.set_cons_succ, List.getElem_toArray, List.getElem_cons_succ, List.getElem_cons_zero]
    refine wpAnyH_ready (rs := [2]) (by kernel_rfl) (by simp) ?_
    refine AllReadyH.cons rfl (fun K hK => ?_) AllReadyH.nil
    go_simp
    refine (HR.out _ hHeld.2).mono ?_
    rintro e w2 ⟨rfl, hb⟩
    refine hK.out _ _ ?_ (fun hHeld => ?_)
    · first | exact ⟨hHeld.1.on hb, hHeld.2.trans (hb.mono hHeld.2.size)⟩ | assumption
    clear hK K
    try simp only [Act.put, List.setIfInBounds_toArray, List.set_cons_zero, List.set_cons_succ, List.getElem_toArray, List.getElem_cons_succ, List.getElem_cons_zero]
    refine wpAnyH_take (i := 3) (v := ?_) rfl (by kernel_rfl) (by kernel_rfl) (by kernel_rfl) (fun _ _ _ h => h) (Or.inl ⟨by rfl, ?_⟩) hHeld ?_
    rotate_left
    · intro W hSw
      obtain ⟨q1, _⟩ := hSw
      obtain ⟨hs1, hs2, hs3, hs4, hs5, hs6, hs7, hs8⟩ := cells8 q1
      go_simp
      try with_reducible rfl
    try simp only [Act.put, List.setIfInBounds_toArray, List.set_cons_zero, List.set_cons_succ, List.getElem_toArray, List.getElem_cons_succ, List.getElem_cons_zero]
    refine wpAnyH_take (i := 4) (v := undef) rfl (by kernel_rfl) (by kernel_rfl) (by kernel_rfl) (fun _ _ _ h => h) (Or.inr ⟨by rfl, rfl⟩) hHeld ?_
    try simp only [Act.put, List.setIfInBounds_toArray, List.set_cons_zero, List.set_cons_succ, List.getElem_toArray, List.getElem_cons_succ, List.getElem_cons_zero]
    refine wpAnyH_take (i := 5) (v := undef) rfl (by kernel_rfl) (by kernel_rfl) (by kernel_rfl) (fun _ _ _ h => h) (Or.inr ⟨by rfl, rfl⟩) hHeld ?_
    try simp only [Act.put, List.setIfInBounds_toArray, List.set_cons_zero, List.set_cons_succ, List.getElem_toArray, List.getElem_cons_succ, List.getElem_cons_zero]
    refine wpAnyH_take (i := 7) (v := undef) rfl (by kernel_rfl) (by kernel_rfl) (by kernel_rfl) (fun _ _ _ h => h) (Or.inr ⟨by rfl, rfl⟩) hHeld ?_
    try simp only [Act.put, List.setIfInBounds_toArray, List.set_cons_zero, List.set_cons_succ, List.getElem_toArray, List.getElem_cons_succ, List.getElem_cons_zero]
    refine wpAnyH_take (i := 8) (v := undef) rfl (by kernel_rfl) (by kernel_rfl) (by kernel_rfl) (fun _ _ _ h => h) (Or.inr ⟨by rfl, rfl⟩) hHeld ?_
    try simp only [Act.put, List.setIfInBounds_toArray, List.set_cons_zero, List.set_cons_succ, List.getElem_toArray, List.getElem_cons_succ, List.getElem_cons_zero]
    refine wpAnyH_take (i := 9) (v := undef) rfl (by kernel_rfl) (by kernel_rfl) (by kernel_rfl) (fun _ _ _ h => h) (Or.inr ⟨by rfl, rfl⟩) hHeld ?_
    try simp only [Act.put, List.setIfInBounds_toArray, List.set_cons_zero, List.set_cons_succ, List.getElem_toArray, List.getElem_cons_succ, List.getElem_cons_zero]
    refine wpAnyH_ready (rs := [6]) (by kernel_rfl) (by simp) ?_
    refine AllReadyH.cons rfl (fun K hK => ?_) AllReadyH.nil
    go_simp
    refine hK.out _ _ ?_ (fun hHeld => ?_)
    · assumption
    clear hK K
    try simp only [Act.put, List.setIfInBounds_toArray, List.set_cons_zero, List.set_cons_succ, List.getElem_toArray, List.getElem_cons_succ, List.getElem_cons_zero]
    refine wpAnyH_take (i := 10) (v := undef) rfl (by kernel_rfl) (by kernel_rfl) (by kernel_rfl) (fun _ _ _ h => h) (Or.inr ⟨by rfl, rfl⟩) hHeld ?_
    try simp only [Act.put, List.setIfInBounds_toArray, List.set_cons_zero, List.set_cons_succ, List.getElem_toArray, List.getElem_cons_succ, List.getElem_cons_zero]
    refine wpAnyH_take (i := 11) (v := ?_) rfl (by kernel_rfl) (by kernel_rfl) (by kernel_rfl) (fun _ _ _ h => h) (Or.inl ⟨by rfl, ?_⟩) hHeld ?_
    rotate_left
    · intro W hSw
      obtain ⟨q1, _⟩ := hSw
      obtain ⟨hs1, hs2, hs3, hs4, hs5, hs6, hs7, hs8⟩ := cells8 q1
      go_simp
      try with_reducible rfl
    try simp only [Act.put, List.setIfInBounds_toArray, List.set_cons_zero, List.set_cons_succ, List.getElem_toArray, List.getElem_cons_succ, List.getElem_cons_zero]
    refine wpAnyH_take (i := 12) (v := ?_) rfl (by kernel_rfl) (by kernel_rfl) (by kernel_rfl) (fun _ _ _ h => h) (Or.inl ⟨by rfl, ?_⟩) hHeld ?_
    rotate_left
    · intro W hSw
      obtain ⟨q1, _⟩ := hSw
      obtain ⟨hs1, hs2, hs3, hs4, hs5, hs6, hs7, hs8⟩ := cells8 q1
      go_simp
      try with_reducible rfl
    try simp only [Act.put, List.setIfInBounds_toArray, List.set_cons_zero, List.set_cons_succ, List.getElem_toArray, List.getElem_cons_succ, List.getElem_cons_zero]
    refine wpAnyH_done (by kernel_rfl) ?_ _
    have HE := Lib.hid hHeld.2
    clear hHeld
    go_wp2_with fail
    go_ret
    exact ⟨rfl, HE.out⟩
  · rw [el] at HR
    rw [clockB_ok el] at HC
    rw [Bool.true_and]
    clear el
    go_enter Try.func99, Try.ntmps99
    go_wp2_with fail
    refine wp_region_held_drew (S := (fun W => Blk W w.heap.size 61 (cellsV r p) ∧ Below w.heap.size w W)) (by kernel_rfl) ?_ (fun hHeld => ?_)
    · exact ⟨HX.out, HB.out.drew⟩
    refine wpAnyH_take (i := 0) (v := ?_) rfl (by kernel_rfl) (by kernel_rfl) (by kernel_rfl) (fun _ _ _ h => h) (Or.inl ⟨by rfl, ?_⟩) hHeld ?_
    rotate_left
    · intro W hSw
      obtain ⟨q1, _⟩ := hSw
      obtain ⟨hs1, hs2, hs3, hs4, hs5, hs6, hs7, hs8⟩ := cells8 q1
      go_simp
      try with_reducible rfl
    try simp only [Act.put, List.setIfInBounds_toArray, List.set_cons_zero, List.set_cons_succ, List.getElem_toArray, List.getElem_cons_zero]
    refine wpAnyH_take (i := 1) (v := ?_) rfl (by kernel_rfl) (by kernel_rfl) (by kernel_rfl) (fun _ _ _ h => h) (Or.inl ⟨by rfl, ?_⟩) hHeld ?_
    rotate_left
    · intro W hSw
      obtain ⟨q1, _⟩ := hSw
      obtain ⟨hs1, hs2, hs3, hs4, hs5, hs6, hs7, hs8⟩ := cells8 q1
      go_simp
      try with_reducible rfl
    try simp only [Act.put, List.setIfInBounds_toArray, List.set_cons_zero, List.set_cons_succ, List.getElem_toArray, List.getElem_cons_succ, List.getElem_cons_zero]
    refine wpAnyH_ready (rs := [2]) (by kernel_rfl) (by simp) ?_
    refine AllReadyH.cons rfl (fun K hK => ?_) AllReadyH.nil
    go_simp
    refine (HR.out _ hHeld.2).mono ?_
    rintro e w2 ⟨rfl, hb⟩
    refine hK.out _ _ ?_ (fun hHeld => ?_)
    · first | exact ⟨hHeld.1.on hb, hHeld.2.trans (hb.mono hHeld.2.size)⟩ | assumption
    clear hK K
    try simp only [Act.put, List.setIfInBounds_toArray, List.set_cons_zero, List.set_cons_succ, List.getElem_toArray, List.getElem_cons_succ, List.getElem_cons_zero]
    refine wpAnyH_take (i := 3) (v := ?_) rfl (by kernel_rfl) (by kernel_rfl) (by kernel_rfl) (fun _ _ _ h => h) (Or.inl ⟨by rfl, ?_⟩) hHeld ?_
    rotate_left
    · intro W hSw
      obtain ⟨q1, _⟩ := hSw
      obtain ⟨hs1, hs2, hs3, hs4, hs5, hs6, hs7, hs8⟩ := cells8 q1
      go_simp
      try with_reducible rfl
    try simp only [Act.put, List.setIfInBounds_toArray, List.set_cons_zero, List.set_cons_succ, List.getElem_toArray, List.getElem_cons_succ, List.getElem_cons_zero]
    refine wpAnyH_take (i := 4) (v := ?_) rfl (by kernel_rfl) (by kernel_rfl) (by kernel_rfl) (fun _ _ _ h => h) (Or.inl ⟨by rfl, ?_⟩) hHeld ?_
    rotate_left
    · intro W hSw
      obtain ⟨q1, _⟩ := hSw
      obtain ⟨hs1, hs2, hs3, hs4, hs5, hs6, hs7, hs8⟩ := cells8 q1
      go_simp
      try with_reducible rfl
    try simp only [Act.put, List.setIfInBounds_toArray, List.set_cons_zero, List.set_cons_succ, List.getElem_toArray, List.getElem_cons_succ, List.getElem_cons_zero]
    refine wpAnyH_take (i := 5) (v := ?_) rfl (by kernel_rfl) (by kernel_rfl) (by kernel_rfl) (fun _ _ _ h => h) (Or.inl ⟨by rfl, ?_⟩) hHeld ?_
    rotate_left
    · intro W hSw
      obtain ⟨q1, _⟩ := hSw
      obtain ⟨hs1, hs2, hs3, hs4, hs5, hs6, hs7, hs8⟩ := cells8 q1
      go_simp
      try with_reducible rfl
    try simp only [Act.put, List.setIfInBounds_toArray, List.set_cons_zero, List.set_cons_succ, List.getElem_toArray, List.getElem_cons_succ, List.getElem_cons_zero]
    refine wpAnyH_take (i := 7) (v := ?_) rfl (by kernel_rfl) (by kernel_rfl) (by kernel_rfl) (fun _ _ _ h => h) (Or.inl ⟨by rfl, ?_⟩) hHeld ?_
    rotate_left
    · intro W hSw
      obtain ⟨q1, _⟩ := hSw
      obtain ⟨hs1, hs2, hs3, hs4, hs5, hs6, hs7, hs8⟩ := cells8 q1
      go_simp
      try with_reducible rfl
    try simp only [Act.put, List.setIfInBounds_toArray, List.set_cons_zero, List.set_cons_succ, List.getElem_toArray, List.getElem_cons_succ, List.getElem_cons_zero]
    refine wpAnyH_take (i := 8) (v := ?_) rfl (by kernel_rfl) (by kernel_rfl) (by kernel_rfl) (fun _ _ _ h => h) (Or.inl ⟨by rfl, ?_⟩) hHeld ?_
    rotate_left
    · intro W hSw
      obtain ⟨q1, _⟩ := hSw
      obtain ⟨hs1, hs2, hs3, hs4, hs5, hs6, hs7, hs8⟩ := cells8 q1
      go_simp
      try with_reducible rfl
    try simp only [Act.put, List.setIfInBounds_toArray, List.set_cons_zero, List.set_cons_succ, List.getElem_toArray, List.getElem_cons_succ, List.getElem_cons_zero]
    refine wpAnyH_take (i := 9) (v := ?_) rfl (by kernel_rfl) (by kernel_rfl) (by kernel_rfl) (fun _ _ _ h => h) (Or.inl ⟨by rfl, ?_⟩) hHeld ?_
    rotate_left
    · intro W hSw
      obtain ⟨q1, _⟩ := hSw
      obtain ⟨hs1, hs2, hs3, hs4, hs5, hs6, hs7, hs8⟩ := cells8 q1
      go_simp
      try with_reducible rfl
    try simp only [Act.put, List.setIfInBounds_toArray, List.set_cons_zero, List.set_cons_succ, List.getElem_toArray, List.getElem_cons_succ, List.getElem_cons_zero]
    refine wpAnyH_ready (rs := [6]) (by kernel_rfl) (by simp) ?_
    refine AllReadyH.cons rfl (fun K hK => ?_) AllReadyH.nil
    go_simp
    refine (HC.out _ hHeld.2).mono ?_
    rintro e w6 ⟨rfl, hb⟩
    refine hK.out _ _ ?_ (fun hHeld => ?_)
    · first | exact ⟨hHeld.1.on hb, hHeld.2.trans (hb.mono hHeld.2.size)⟩ | assumption
    clear hK K
    try simp only [Act.put, List.setIfInBounds_toArray, List.set_cons_zero, List.set_cons_succ, List.getElem_toArray, List.getElem_cons_succ, List.getElem_cons_zero]
    refine wpAnyH_take (i := 10) (v := ?_) rfl (by kernel_rfl) (by kernel_rfl) (by kernel_rfl) (fun _ _ _ h => h) (Or.inl ⟨by rfl, ?_⟩) hHeld ?_
    rotate_left
    · intro W hSw
      obtain ⟨q1, _⟩ := hSw
      obtain ⟨hs1, hs2, hs3, hs4, hs5, hs6, hs7, hs8⟩ := cells8 q1
      go_simp
      try with_reducible rfl
    try simp only [Act.put, List.setIfInBounds_toArray, List.set_cons_zero, List.set_cons_succ, List.getElem_toArray, List.getElem_cons_succ, List.getElem_cons_zero]
    refine wpAnyH_take (i := 11) (v := ?_) rfl (by kernel_rfl) (by kernel_rfl) (by kernel_rfl) (fun _ _ _ h => h) (Or.inl ⟨by rfl, ?_⟩) hHeld ?_
    rotate_left
    · intro W hSw
      obtain ⟨q1, _⟩ := hSw
      obtain ⟨hs1, hs2, hs3, hs4, hs5, hs6, hs7, hs8⟩ := cells8 q1
      go_simp
      try with_reducible rfl
    try simp only [Act.put, List.setIfInBounds_toArray, List.set_cons_zero, List.set_cons_succ, List.getElem_toArray, List.getElem_cons_succ, List.getElem_cons_zero]
    refine wpAnyH_take (i := 12) (v := ?_) rfl (by kernel_rfl) (by kernel_rfl) (by kernel_rfl) (fun _ _ _ h => h) (Or.inl ⟨by rfl, ?_⟩) hHeld ?_
    rotate_left
    · intro W hSw
      obtain ⟨q1, _⟩ := hSw
      obtain ⟨hs1, hs2, hs3, hs4, hs5, hs6, hs7, hs8⟩ := cells8 q1
      go_simp
      try with_reducible rfl
    try simp only [Act.put, List.setIfInBounds_toArray, List.set_cons_zero, List.set_cons_succ, List.getElem_toArray, List.getElem_cons_succ, List.getElem_cons_zero]
    refine wpAnyH_done (by kernel_rfl) ?_ _
    have HE := Lib.hid hHeld.2
    clear hHeld hb
    go_wp2_with fail
    go_ret
    exact ⟨rfl, HE.out⟩

set_option maxHeartbeats 2000000 in
theorem bundleRight_any (r : R) (p : P) (w : World) (h : Lies w w.heap.size r p) (hs : Sound r) (hi : r.i.right = true) :
    Calls Try.prog 100 #[recV r p] w fun x w' => x = .returned (.bool (keysB r.b r.k)) ∧ Below w.heap.size w w' := by
  obtain ⟨zk, zd, zl, zlk, zb, zbk⟩ := hs
  have zb2 := zb
  unfold maxLen at zb2
  have HB := Lib.hid ((Below.refl w.heap.size w).alloc (Nat.le_refl _) (.cells (cellsV r p) 61))
  have HX := Lib.hid (Blk.new w 61 (cellsV r p))
  have HCO := Lib.hid (fun W (hW : Below w.heap.size w W) => contains_any p.B r.b p.cb r.k W ((h.2.below hW (Nat.le_refl _)).more hW.size) zb)
  unfold Str.slV at HCO
  unfold recV
  by_cases h4 : 4 < r.b.length
  · have h4' : (4 : Int) < r.b.length := by omega
    have HF := Lib.hid (keysB_false (b := r.b) (q := r.k) fun ho => by have := ho.1; omega)
    rw [HF.out]
    clear h
    go_enter Try.func100, Try.ntmps100
    go_wp2_with fail
    go_ret
    exact ⟨rfl, HB.out⟩
  have h4' : ¬ (4 : Int) < r.b.length := by omega
  cases hin : inB r.b r.b.length r.k
  · rw [hin] at HCO
    have HF := Lib.hid (keysB_false (b := r.b) (q := r.k) fun ho => by
      have : inB r.b r.b.length r.k = true := in_true.2 (by rw [List.take_length]; exact ho.2.2.2)
      rw [hin] at this; cases this)
    rw [HF.out]
    clear h hin
    go_enter Try.func100, Try.ntmps100
    go_wp2_with fail
    refine (HCO.out _ HB.out).mono ?_
    rintro e w' ⟨rfl, rfl⟩
    go_wp2_with fail
    go_ret
    exact ⟨rfl, HB.out⟩
  · rw [hin] at HCO
    have hq : r.k ∈ r.b := by have := in_true.1 hin; rwa [List.take_length] at this
    have HOK := Lib.hid (bun_ok hi (show r.b.length ≤ 4 by omega) hq)
    have HKS := Lib.hid (show ∀ d ∈ bun r.b r.i, d.k.size ≤ maxLen from fun d hd => by obtain ⟨x, hx, rfl⟩ := List.mem_map.1 hd; exact zbk x hx)
    have HBU := Lib.hid (fun W (hW : Below w.heap.size w W) => bundled_any r p W (h.step hW (Nat.le_refl _) hW.size) (by omega))
    have HBL := Lib.hid (bun_length r.b r.i)
    clear h hin zlk zbk
    unfold recV at HBU
    rw [← HOK.out]
    go_enter Try.func100, Try.ntmps100
    go_wp2_with fail
    refine (HCO.out _ HB.out).mono ?_
    rintro e w' ⟨rfl, rfl⟩
    go_wp2_with fail
    refine (HBU.out _ HB.out).mono ?_
    rintro e w1 ⟨A, c, rfl, _, _, hL, hb1⟩
    have B1 := Lib.hid (HB.out.trans (hb1.mono HB.out.size))
    have HR := Lib.hid (Dep.implDeps_any A (bun r.b r.i) c w1 hL (by rw [HBL.out]; exact zb) HKS.out)
    clear hb1 hL
    unfold Dep.slV at HR
    unfold Dep.slV
    go_wp2_with fail
    refine HR.out.mono ?_
    rintro e w2 ⟨rfl, hb2⟩
    have B2 := Lib.hid (B1.out.trans (hb2.mono B1.out.size))
    clear hb2
    go_wp2_with fail
    go_ret
    exact ⟨rfl, B2.out⟩

/-- joinAll of two right lists, in a row that was made for it. -/
theorem all2_any (A B : Option Addr) (a b : List D) (ca cb : Nat) (W : World) (ha : Dep.Lies W W.heap.size A a) (hb : Dep.Lies W W.heap.size B b) (hda : depsB a = true) (hdb : depsB b = true) :
    Calls Try.prog 63 #[.slice (some ⟨W.heap.size, 0, none⟩) 2 2] (W.alloc (Dep.twoObj A B a b ca cb)) fun e w' =>
      Dep.Answers (W.alloc (Dep.twoObj A B a b ca cb)) e w' (if 6 < (joinV a b).length then [] else joinV a b) (if 6 < (joinV a b).length then 9 else 0) := by
  have hoa := Dep.ok_of hda
  have hob := Dep.ok_of hdb
  obtain ⟨ks, hks⟩ := Dep.short_keys (Dep.join_facts b a hoa.2.2 hoa.2.1 hob.2.2 hob.2.1).2.1
  have hlen : ks.length = (joinV a b).length := by have := congrArg List.length hks; simpa using this
  have hJ := Dep.all_any ⟨W.heap.size, 0, none⟩ [⟨A, a, ca⟩, ⟨B, b, cb⟩] 2 ks (by have := Dep.chain_join hoa hob; rw [hks]; simpa [Dep.allOf] using this) (by simp) (Dep.two_len (by have := hoa.1; unfold maxLen; omega) (by have := hob.1; unfold maxLen; omega)) (W.alloc (Dep.twoObj A B a b ca cb)) (Dep.two_lists ha hb (Below.refl _ _))
  simp only [List.map_cons, List.map_nil, List.length_cons, List.length_nil] at hJ
  refine hJ.mono ?_
  rintro e w' ⟨h6, h9⟩
  have hJJ : (ks.map (·.1)).map (Dep.withMost [a, b]) = joinV a b := by rw [hks]; exact (Dep.join_keys hoa hob).symm
  rw [hJJ] at h6
  by_cases h : 6 < (joinV a b).length
  · rw [if_pos h, if_pos h]; exact h9 (by omega)
  · rw [if_neg h, if_neg h]; exact h6 (by omega)

theorem field_code (A : Option Addr) (n c : Nat) (k : Int) (V : World) : (Instr.field 85 (.agg #[.slice A n c, .int .i64 k]) 1).run Try.prog V = .ok (.int .i64 k) V := by kernel_rfl
theorem field_deps (A : Option Addr) (n c : Nat) (k : Int) (V : World) : (Instr.field 85 (.agg #[.slice A n c, .int .i64 k]) 0).run Try.prog V = .ok (.slice A n c) V := by kernel_rfl
theorem base_of {r : R} (h : rgtB r.k r.i r.d r.g = true) : Key.keyB r.k = true ∧ r.i.right = true ∧ datB r.d = true ∧ (r.g = true → r.d = ⟨#[]⟩) := by
  unfold rgtB contB at h
  rw [Bool.and_eq_true, Bool.and_eq_true, Bool.and_eq_true] at h
  refine ⟨h.2.2.1, h.1, h.2.2.2, fun hg => ?_⟩
  cases e : r.d.toList.isEmpty
  · have := h.2.1; rw [hg, e] at this; cases this
  · exact Classical.byContradiction fun hne => by rw [empty_no hne] at e; cases e
theorem base_no {r : R} (h : rgtB r.k r.i r.d r.g = false) : recB r = false := recB_false fun ho => by
  have : rgtB r.k r.i r.d r.g = true := by
    unfold rgtB contB
    rw [ho.1, ho.2.1, ho.2.2.1]
    cases hg : r.g
    · rfl
    · rw [empty_yes (ho.2.2.2.1 hg)]; rfl
  rw [h] at this; cases this

set_option maxHeartbeats 4000000 in
theorem implRec_any (r : R) (p : P) (w : World) (h : Lies w w.heap.size r p) (hs : Sound r) :
    Calls Try.prog 74 #[recV r p] w fun x w' => x = .returned (.bool (recB r)) ∧ Below w.heap.size w w' := by
  have HO := Lib.hid (fun W => recordOf_any r p W)
  have HRG := Lib.hid (fun W => rcdRight_any r.k r.i r.d r.g W hs.1 hs.2.1)
  have HDB := Lib.hid (fun W (hW : Below w.heap.size w W) => depsBelow_any r p W (h.step hW (Nat.le_refl _) hW.size) hs)
  have HBR := Lib.hid (fun (hi : r.i.right = true) W (hW : Below w.heap.size w W) => bundleRight_any r p W (h.step hW (Nat.le_refl _) hW.size) hs hi)
  have HB := Lib.hid ((Below.refl w.heap.size w).alloc (Nat.le_refl _) (.cells (cellsV r p) 61))
  have HX := Lib.hid (Blk.new w 61 (cellsV r p))
  have HBU := Lib.hid (fun (hb4 : r.b.length ≤ 4) W (hW : Below w.heap.size w W) => bundled_any r p W (h.step hW (Nat.le_refl _) hW.size) (by omega))
  have HJ := Lib.hid (fun (hl : depsB r.l = true) (hb : depsB (bun r.b r.i) = true) (A : Option Addr) (c : Nat) W (hW : Below w.heap.size w W) (hL : Dep.Lies W W.heap.size A (bun r.b r.i)) => all2_any p.A A r.l (bun r.b r.i) p.ca c W ((h.1.below hW (Nat.le_refl _)).more hW.size) hL hl hb)
  have HBL := Lib.hid (bun_length r.b r.i)
  clear h hs
  unfold recV at *
  cases eb : rgtB r.k r.i r.d r.g
  · rw [eb] at HRG
    have HF := Lib.hid (base_no eb)
    rw [HF.out]
    clear eb
    go_enter Try.func74, Try.ntmps74
    go_wp2_with fail
    refine (HO.out _).mono ?_
    rintro e w1 ⟨rfl, hb1⟩
    have HB := Lib.hid (HB.out.trans (hb1.mono HB.out.size))
    clear hb1
    unfold rcdV
    go_wp2_with fail
    refine (HRG.out _).mono ?_
    rintro e w2 ⟨rfl, hb2⟩
    have HB := Lib.hid (HB.out.trans (hb2.mono HB.out.size))
    clear hb2
    go_wp2_with fail
    go_ret
    exact ⟨rfl, HB.out⟩
  have EB := Lib.hid (base_of eb)
  rw [eb] at HRG
  clear eb
  cases el : (depsB r.l && decide (clockV r.l < r.i.c))
  · rw [el] at HDB
    have HF := Lib.hid (recB_false (r := r) fun ho => by rw [ho.2.2.2.2.1, decide_eq_true ho.2.2.2.2.2.2.1] at el; cases el)
    rw [HF.out]
    clear el
    go_enter Try.func74, Try.ntmps74
    go_wp2_with fail
    refine (HO.out _).mono ?_
    rintro e w1 ⟨rfl, hb1⟩
    have HB := Lib.hid (HB.out.trans (hb1.mono HB.out.size))
    have HX := Lib.hid (HX.out.on hb1)
    clear hb1
    unfold rcdV
    go_wp2_with fail
    refine (HRG.out _).mono ?_
    rintro e w2 ⟨rfl, hb2⟩
    have HB := Lib.hid (HB.out.trans (hb2.mono HB.out.size))
    have HX := Lib.hid (HX.out.on hb2)
    clear hb2
    obtain ⟨x0, x1, x2, x3, x4, x5, x6, x7⟩ := cells8 HX.out
    go_wp2_with fail
    refine (HDB.out _ HB.out).mono ?_
    rintro e w3 ⟨rfl, hb3⟩
    have HB := Lib.hid (HB.out.trans (hb3.mono HB.out.size))
    have HX := Lib.hid (HX.out.on hb3)
    clear hb3 x0 x1 x2 x3 x4 x5 x6 x7
    obtain ⟨x0, x1, x2, x3, x4, x5, x6, x7⟩ := cells8 HX.out
    go_wp2_with fail
    go_ret
    exact ⟨rfl, HB.out⟩
  rw [el] at HDB
  rw [Bool.and_eq_true] at el
  have EL := Lib.hid el.1
  have EC := Lib.hid (of_decide_eq_true el.2)
  clear el
  have HBR := Lib.hid (HBR.out EB.out.2.1)
  cases ek : keysB r.b r.k
  · rw [ek] at HBR
    have HF := Lib.hid (rec_b (r := r) ek)
    rw [HF.out]
    clear ek
    go_enter Try.func74, Try.ntmps74
    go_wp2_with fail
    refine (HO.out _).mono ?_
    rintro e w1 ⟨rfl, hb1⟩
    have HB := Lib.hid (HB.out.trans (hb1.mono HB.out.size))
    have HX := Lib.hid (HX.out.on hb1)
    clear hb1
    unfold rcdV
    go_wp2_with fail
    refine (HRG.out _).mono ?_
    rintro e w2 ⟨rfl, hb2⟩
    have HB := Lib.hid (HB.out.trans (hb2.mono HB.out.size))
    have HX := Lib.hid (HX.out.on hb2)
    clear hb2
    obtain ⟨x0, x1, x2, x3, x4, x5, x6, x7⟩ := cells8 HX.out
    go_wp2_with fail
    refine (HDB.out _ HB.out).mono ?_
    rintro e w3 ⟨rfl, hb3⟩
    have HB := Lib.hid (HB.out.trans (hb3.mono HB.out.size))
    have HX := Lib.hid (HX.out.on hb3)
    clear hb3 x0 x1 x2 x3 x4 x5 x6 x7
    obtain ⟨x0, x1, x2, x3, x4, x5, x6, x7⟩ := cells8 HX.out
    go_wp2_with fail
    refine (HBR.out _ HB.out).mono ?_
    rintro e w4 ⟨rfl, hb4⟩
    have HB := Lib.hid (HB.out.trans (hb4.mono HB.out.size))
    have HX := Lib.hid (HX.out.on hb4)
    clear hb4 x0 x1 x2 x3 x4 x5 x6 x7
    go_wp2_with fail
    go_ret
    exact ⟨rfl, HB.out⟩
  rw [ek] at HBR
  have EK := Lib.hid ek
  clear ek
  have HBO := Lib.hid (show depsB (bun r.b r.i) = true by rw [bun_ok EB.out.2.1 (keys_of EK.out).1 (keys_of EK.out).2.2.2]; exact EK.out)
  have HBU := Lib.hid (HBU.out (keys_of EK.out).1)
  have HJ := Lib.hid (HJ.out EL.out HBO.out)
  unfold Dep.twoObj at HJ
  by_cases hn : 6 < (joinV r.l (bun r.b r.i)).length
  · have HF := Lib.hid (rec_n (r := r) (by omega))
    rw [HF.out]
    simp only [if_pos hn] at HJ
    clear hn
    go_enter Try.func74, Try.ntmps74
    go_wp2_with fail
    refine (HO.out _).mono ?_
    rintro e w1 ⟨rfl, hb1⟩
    have HB := Lib.hid (HB.out.trans (hb1.mono HB.out.size))
    have HX := Lib.hid (HX.out.on hb1)
    clear hb1
    unfold rcdV
    go_wp2_with fail
    refine (HRG.out _).mono ?_
    rintro e w2 ⟨rfl, hb2⟩
    have HB := Lib.hid (HB.out.trans (hb2.mono HB.out.size))
    have HX := Lib.hid (HX.out.on hb2)
    clear hb2
    obtain ⟨x0, x1, x2, x3, x4, x5, x6, x7⟩ := cells8 HX.out
    go_wp2_with fail
    refine (HDB.out _ HB.out).mono ?_
    rintro e w3 ⟨rfl, hb3⟩
    have HB := Lib.hid (HB.out.trans (hb3.mono HB.out.size))
    have HX := Lib.hid (HX.out.on hb3)
    clear hb3 x0 x1 x2 x3 x4 x5 x6 x7
    obtain ⟨x0, x1, x2, x3, x4, x5, x6, x7⟩ := cells8 HX.out
    go_wp2_with fail
    refine (HBR.out _ HB.out).mono ?_
    rintro e w4 ⟨rfl, hb4⟩
    have HB := Lib.hid (HB.out.trans (hb4.mono HB.out.size))
    have HX := Lib.hid (HX.out.on hb4)
    clear hb4 x0 x1 x2 x3 x4 x5 x6 x7
    go_wp2_with fail
    refine wp_region_held_drew (S := (fun W => Blk W w.heap.size 61 (cellsV r p) ∧ Below w.heap.size w W)) (by kernel_rfl) ?_ (fun hHeld => ?_)
    · exact ⟨HX.out, HB.out.drew⟩
    refine wpAnyH_take (i := 0) (v := ?_) rfl (by kernel_rfl) (by kernel_rfl) (by kernel_rfl) (fun _ _ _ h => h) (Or.inl ⟨by rfl, ?_⟩) hHeld ?_
    rotate_left
    · intro W hSw
      obtain ⟨q1, _⟩ := hSw
      obtain ⟨hs1, hs2, hs3, hs4, hs5, hs6, hs7, hs8⟩ := cells8 q1
      go_simp
      try with_reducible rfl
    try simp only [Act.put, List.setIfInBounds_toArray, List.set_cons_zero, List.set_cons_succ, List.getElem_toArray, List.getElem_cons_zero]
    refine wpAnyH_take (i := 1) (v := ?_) rfl (by kernel_rfl) (by kernel_rfl) (by kernel_rfl) (fun _ _ _ h => h) (Or.inl ⟨by rfl, ?_⟩) hHeld ?_
    rotate_left
    · intro W hSw
      obtain ⟨q1, _⟩ := hSw
      obtain ⟨hs1, hs2, hs3, hs4, hs5, hs6, hs7, hs8⟩ := cells8 q1
      go_simp
      try with_reducible rfl
    try simp only [Act.put, List.setIfInBounds_toArray, List.set_cons_zero, List.set_cons_succ, List.getElem_toArray, List.getElem_cons_succ, List.getElem_cons_zero]
    refine wpAnyH_take (i := 2) (v := ?_) rfl (by kernel_rfl) (by kernel_rfl) (by kernel_rfl) (fun _ _ _ h => h) (Or.inl ⟨by rfl, ?_⟩) hHeld ?_
    rotate_left
    · intro W hSw
      obtain ⟨q1, _⟩ := hSw
      obtain ⟨hs1, hs2, hs3, hs4, hs5, hs6, hs7, hs8⟩ := cells8 q1
      go_simp
      try with_reducible rfl
    try simp only [Act.put, List.setIfInBounds_toArray, List.set_cons_zero, List.set_cons_succ, List.getElem_toArray, List.getElem_cons_succ, List.getElem_cons_zero]
    refine wpAnyH_ready (rs := [3]) (by kernel_rfl) (by simp) ?_
    refine AllReadyH.cons rfl (fun K hK => ?_) AllReadyH.nil
    go_simp
    refine (HBU.out _ hHeld.2).mono ?_
    rintro e w3 ⟨A, c, rfl, _, _, hL, hb⟩
    unfold Dep.slV
    refine hK.out _ _ ?_ (fun hHeld => ?_)
    · first | exact ⟨hHeld.1.on hb, hHeld.2.trans (hb.mono hHeld.2.size)⟩ | assumption
    clear hK K
    try simp only [Act.put, List.setIfInBounds_toArray, List.set_cons_zero, List.set_cons_succ, List.getElem_toArray, List.getElem_cons_succ, List.getElem_cons_zero]
    refine wpAnyH_ready (rs := [4]) (by kernel_rfl) (by simp) ?_
    refine AllReadyH.cons rfl (fun K hK => ?_) AllReadyH.nil
    have hlt4 := Lib.hid hHeld.2
    go_simp
    refine hK.out _ _ ?_ (fun hHeld => ?_)
    · exact ⟨hHeld.1.alloc _, hHeld.2.alloc hHeld.2.size _⟩
    clear hK K
    try simp only [Act.put, List.setIfInBounds_toArray, List.set_cons_zero, List.set_cons_succ, List.getElem_toArray, List.getElem_cons_succ, List.getElem_cons_zero]
    refine wpAnyH_ready (rs := [5]) (by kernel_rfl) (by simp) ?_
    refine AllReadyH.cons rfl (fun K hK => ?_) AllReadyH.nil
    go_simp
    have hJ := HJ.out A c _ hlt4.out hL
    refine hJ.mono ?_
    rintro e w5 ⟨A2, c2, rfl, _, _, _, hb⟩
    have hfd := fun n k V => field_code A2 n c2 k V
    unfold Dep.outV Dep.slV
    refine hK.out _ _ ?_ (fun hHeld => ?_)
    · first | exact ⟨hHeld.1.on hb, hHeld.2.trans (hb.mono hHeld.2.size)⟩ | assumption
    clear hK K
    try simp only [Act.put, List.setIfInBounds_toArray, List.set_cons_zero, List.set_cons_succ, List.getElem_toArray, List.getElem_cons_succ, List.getElem_cons_zero]
    refine wpAnyH_take (i := 6) (v := ?_) rfl (by kernel_rfl) (by kernel_rfl) (by kernel_rfl) (fun _ _ _ h => h) (Or.inl ⟨by rfl, ?_⟩) hHeld ?_
    rotate_left
    · intro W hSw
      obtain ⟨q1, _⟩ := hSw
      obtain ⟨hs1, hs2, hs3, hs4, hs5, hs6, hs7, hs8⟩ := cells8 q1
      go_simp
      try with_reducible rfl
    try simp only [Act.put, List.setIfInBounds_toArray, List.set_cons_zero, List.set_cons_succ, List.getElem_toArray, List.getElem_cons_succ, List.getElem_cons_zero]
    refine wpAnyH_take (i := 7) (v := ?_) rfl (by kernel_rfl) (by kernel_rfl) (by kernel_rfl) (fun _ _ _ h => h) (Or.inl ⟨by rfl, ?_⟩) hHeld ?_
    rotate_left
    · intro W hSw
      obtain ⟨q1, _⟩ := hSw
      obtain ⟨hs1, hs2, hs3, hs4, hs5, hs6, hs7, hs8⟩ := cells8 q1
      go_simp
      try with_reducible rfl
    try simp only [Act.put, List.setIfInBounds_toArray, List.set_cons_zero, List.set_cons_succ, List.getElem_toArray, List.getElem_cons_succ, List.getElem_cons_zero]
    refine wpAnyH_take (i := 8) (v := ?_) rfl (by kernel_rfl) (by kernel_rfl) (by kernel_rfl) (fun _ _ _ h => h) (Or.inl ⟨by rfl, ?_⟩) hHeld ?_
    rotate_left
    · intro W hSw
      obtain ⟨q1, _⟩ := hSw
      obtain ⟨hs1, hs2, hs3, hs4, hs5, hs6, hs7, hs8⟩ := cells8 q1
      go_simp
      try with_reducible rfl
    try simp only [Act.put, List.setIfInBounds_toArray, List.set_cons_zero, List.set_cons_succ, List.getElem_toArray, List.getElem_cons_succ, List.getElem_cons_zero]
    refine wpAnyH_done (by kernel_rfl) ?_ _

    have HE := Lib.hid hHeld.2
    clear hHeld hb
    go_wp2_with fail
    go_ret
    exact ⟨rfl, HE.out⟩
  · have HF := Lib.hid (recB_true (r := r) ⟨EB.out.1, EB.out.2.1, EB.out.2.2.1, EB.out.2.2.2, EL.out, EK.out, EC.out, by omega⟩)
    rw [HF.out]
    simp only [if_neg hn] at HJ
    clear hn
    go_enter Try.func74, Try.ntmps74
    go_wp2_with fail
    refine (HO.out _).mono ?_
    rintro e w1 ⟨rfl, hb1⟩
    have HB := Lib.hid (HB.out.trans (hb1.mono HB.out.size))
    have HX := Lib.hid (HX.out.on hb1)
    clear hb1
    unfold rcdV
    go_wp2_with fail
    refine (HRG.out _).mono ?_
    rintro e w2 ⟨rfl, hb2⟩
    have HB := Lib.hid (HB.out.trans (hb2.mono HB.out.size))
    have HX := Lib.hid (HX.out.on hb2)
    clear hb2
    obtain ⟨x0, x1, x2, x3, x4, x5, x6, x7⟩ := cells8 HX.out
    go_wp2_with fail
    refine (HDB.out _ HB.out).mono ?_
    rintro e w3 ⟨rfl, hb3⟩
    have HB := Lib.hid (HB.out.trans (hb3.mono HB.out.size))
    have HX := Lib.hid (HX.out.on hb3)
    clear hb3 x0 x1 x2 x3 x4 x5 x6 x7
    obtain ⟨x0, x1, x2, x3, x4, x5, x6, x7⟩ := cells8 HX.out
    go_wp2_with fail
    refine (HBR.out _ HB.out).mono ?_
    rintro e w4 ⟨rfl, hb4⟩
    have HB := Lib.hid (HB.out.trans (hb4.mono HB.out.size))
    have HX := Lib.hid (HX.out.on hb4)
    clear hb4 x0 x1 x2 x3 x4 x5 x6 x7
    go_wp2_with fail
    refine wp_region_held_drew (S := (fun W => Blk W w.heap.size 61 (cellsV r p) ∧ Below w.heap.size w W)) (by kernel_rfl) ?_ (fun hHeld => ?_)
    · exact ⟨HX.out, HB.out.drew⟩
    refine wpAnyH_take (i := 0) (v := ?_) rfl (by kernel_rfl) (by kernel_rfl) (by kernel_rfl) (fun _ _ _ h => h) (Or.inl ⟨by rfl, ?_⟩) hHeld ?_
    rotate_left
    · intro W hSw
      obtain ⟨q1, _⟩ := hSw
      obtain ⟨hs1, hs2, hs3, hs4, hs5, hs6, hs7, hs8⟩ := cells8 q1
      go_simp
      try with_reducible rfl
    try simp only [Act.put, List.setIfInBounds_toArray, List.set_cons_zero, List.set_cons_succ, List.getElem_toArray, List.getElem_cons_zero]
    refine wpAnyH_take (i := 1) (v := ?_) rfl (by kernel_rfl) (by kernel_rfl) (by kernel_rfl) (fun _ _ _ h => h) (Or.inl ⟨by rfl, ?_⟩) hHeld ?_
    rotate_left
    · intro W hSw
      obtain ⟨q1, _⟩ := hSw
      obtain ⟨hs1, hs2, hs3, hs4, hs5, hs6, hs7, hs8⟩ := cells8 q1
      go_simp
      try with_reducible rfl
    try simp only [Act.put, List.setIfInBounds_toArray, List.set_cons_zero, List.set_cons_succ, List.getElem_toArray, List.getElem_cons_succ, List.getElem_cons_zero]
    refine wpAnyH_take (i := 2) (v := ?_) rfl (by kernel_rfl) (by kernel_rfl) (by kernel_rfl) (fun _ _ _ h => h) (Or.inl ⟨by rfl, ?_⟩) hHeld ?_
    rotate_left
    · intro W hSw
      obtain ⟨q1, _⟩ := hSw
      obtain ⟨hs1, hs2, hs3, hs4, hs5, hs6, hs7, hs8⟩ := cells8 q1
      go_simp
      try with_reducible rfl
    try simp only [Act.put, List.setIfInBounds_toArray, List.set_cons_zero, List.set_cons_succ, List.getElem_toArray, List.getElem_cons_succ, List.getElem_cons_zero]
    refine wpAnyH_ready (rs := [3]) (by kernel_rfl) (by simp) ?_
    refine AllReadyH.cons rfl (fun K hK => ?_) AllReadyH.nil
    go_simp
    refine (HBU.out _ hHeld.2).mono ?_
    rintro e w3 ⟨A, c, rfl, _, _, hL, hb⟩
    unfold Dep.slV
    refine hK.out _ _ ?_ (fun hHeld => ?_)
    · first | exact ⟨hHeld.1.on hb, hHeld.2.trans (hb.mono hHeld.2.size)⟩ | assumption
    clear hK K
    try simp only [Act.put, List.setIfInBounds_toArray, List.set_cons_zero, List.set_cons_succ, List.getElem_toArray, List.getElem_cons_succ, List.getElem_cons_zero]
    refine wpAnyH_ready (rs := [4]) (by kernel_rfl) (by simp) ?_
    refine AllReadyH.cons rfl (fun K hK => ?_) AllReadyH.nil
    have hlt4 := Lib.hid hHeld.2
    go_simp
    refine hK.out _ _ ?_ (fun hHeld => ?_)
    · exact ⟨hHeld.1.alloc _, hHeld.2.alloc hHeld.2.size _⟩
    clear hK K
    try simp only [Act.put, List.setIfInBounds_toArray, List.set_cons_zero, List.set_cons_succ, List.getElem_toArray, List.getElem_cons_succ, List.getElem_cons_zero]
    refine wpAnyH_ready (rs := [5]) (by kernel_rfl) (by simp) ?_
    refine AllReadyH.cons rfl (fun K hK => ?_) AllReadyH.nil
    go_simp
    have hJ := HJ.out A c _ hlt4.out hL
    refine hJ.mono ?_
    rintro e w5 ⟨A2, c2, rfl, _, _, _, hb⟩
    have hfd := fun n k V => field_code A2 n c2 k V
    unfold Dep.outV Dep.slV
    refine hK.out _ _ ?_ (fun hHeld => ?_)
    · first | exact ⟨hHeld.1.on hb, hHeld.2.trans (hb.mono hHeld.2.size)⟩ | assumption
    clear hK K
    try simp only [Act.put, List.setIfInBounds_toArray, List.set_cons_zero, List.set_cons_succ, List.getElem_toArray, List.getElem_cons_succ, List.getElem_cons_zero]
    refine wpAnyH_take (i := 6) (v := ?_) rfl (by kernel_rfl) (by kernel_rfl) (by kernel_rfl) (fun _ _ _ h => h) (Or.inl ⟨by rfl, ?_⟩) hHeld ?_
    rotate_left
    · intro W hSw
      obtain ⟨q1, _⟩ := hSw
      obtain ⟨hs1, hs2, hs3, hs4, hs5, hs6, hs7, hs8⟩ := cells8 q1
      go_simp
      try with_reducible rfl
    try simp only [Act.put, List.setIfInBounds_toArray, List.set_cons_zero, List.set_cons_succ, List.getElem_toArray, List.getElem_cons_succ, List.getElem_cons_zero]
    refine wpAnyH_take (i := 7) (v := ?_) rfl (by kernel_rfl) (by kernel_rfl) (by kernel_rfl) (fun _ _ _ h => h) (Or.inl ⟨by rfl, ?_⟩) hHeld ?_
    rotate_left
    · intro W hSw
      obtain ⟨q1, _⟩ := hSw
      obtain ⟨hs1, hs2, hs3, hs4, hs5, hs6, hs7, hs8⟩ := cells8 q1
      go_simp
      try with_reducible rfl
    try simp only [Act.put, List.setIfInBounds_toArray, List.set_cons_zero, List.set_cons_succ, List.getElem_toArray, List.getElem_cons_succ, List.getElem_cons_zero]
    refine wpAnyH_take (i := 8) (v := ?_) rfl (by kernel_rfl) (by kernel_rfl) (by kernel_rfl) (fun _ _ _ h => h) (Or.inl ⟨by rfl, ?_⟩) hHeld ?_
    rotate_left
    · intro W hSw
      obtain ⟨q1, _⟩ := hSw
      obtain ⟨hs1, hs2, hs3, hs4, hs5, hs6, hs7, hs8⟩ := cells8 q1
      go_simp
      try with_reducible rfl
    try simp only [Act.put, List.setIfInBounds_toArray, List.set_cons_zero, List.set_cons_succ, List.getElem_toArray, List.getElem_cons_succ, List.getElem_cons_zero]
    refine wpAnyH_done (by kernel_rfl) ?_ _

    have HE := Lib.hid hHeld.2
    clear hHeld hb
    go_wp2_with fail
    go_ret
    exact ⟨rfl, HE.out⟩
end Go.Proofs.Ytegnjbdgeibhfaa.Rec
