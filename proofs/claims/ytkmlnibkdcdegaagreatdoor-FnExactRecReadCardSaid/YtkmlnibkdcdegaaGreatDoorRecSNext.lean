/-
  The given reader of a record's text: what its methods read and where they stand then.
-/
import Derived.Test.YtkmlnibkdcdegaaGreatDoorRecSMath
import Derived.Test.YtkmlnibkdcdegaaGreatDoorRecNextR
namespace Go.Proofs.YtkmlnibkdcdegaaGreatDoor.Rec
open Go.ChangeShapes Go.WideShapes Go.ChangeAt Go.RowKit
open Dep (D I)
set_option linter.unusedVariables false
set_option maxRecDepth 100000
set_option linter.unusedSimpArgs false

/-- Block b is the given reader of the text s. -/
def RdrS (W : World) (b : Nat) (s : ByteArray) (x : St) : Prop := Blk W b 39 #[.string s, .int .i64 x.a, .bool x.b]
theorem RdrS.lt {W : World} {b : Nat} {s : ByteArray} {x : St} (h : RdrS W b s x) : b < W.heap.size := Blk.lt h
theorem RdrS.alloc {W : World} {b : Nat} {s : ByteArray} {x : St} (h : RdrS W b s x) (o : Obj) : RdrS (W.alloc o) b s x := Blk.alloc h o
theorem RdrS.other {W : World} {b : Nat} {s : ByteArray} {x : St} (h : RdrS W b s x) {p : Addr} (hne : b ≠ p.block) (u : Value) : RdrS (W.setCell p u) b s x := Blk.other h hne u
set_option maxHeartbeats 8000000 in
theorem sNum_any (b : Nat) (s : ByteArray) (x : St) (w : World) (h : RdrS w b s x) (hs : s.size ≤ maxLen) (hx : x.ok) :
    Calls Tryz.prog 12 #[.pointer (some ⟨b, 0, none⟩)] w fun e w' => e = .returned (.int .i64 (sN s x).1) ∧ RdrS w' b s (sN s x).2 ∧ w.grownBy w' (some b) := by
  obtain ⟨a, bd⟩ := x
  have ha0 : 0 ≤ a := hx.1
  have ha1 : a ≤ 8000 := hx.2
  clear hx
  have HN := Lib.hid (fun W => Gn.specGetNum_any s a W hs (by omega) (by omega))
  unfold Gn.gnV at HN
  unfold sN
  have HX := Lib.hid h
  clear h
  dsimp only
  generalize (Gn.gn s a).1 = x0 at *
  generalize (Gn.gn s a).2.1 = x1 at *
  generalize (Gn.gn s a).2.2 = x2 at *
  unfold RdrS at HX
  go_enter Tryz.func12, Tryz.ntmps12
  go_upto_region 1 with fail
  go_cut [3] (fun s3 wx => ∃ c, s3 = .pointer (some ⟨c, 0, none⟩) ∧ b ≠ c ∧ w.heap.size ≤ c ∧ Blk wx c 55 #[.int .i64 x0, .int .i64 x1, .int .i64 x2] ∧ Blk wx b 39 #[.string s, .int .i64 a, .bool bd] ∧ Below w.heap.size w wx)
  case first =>
    refine wp_region_held_drew (S := (fun W => Blk W b 39 #[.string s, .int .i64 a, .bool bd] ∧ Below w.heap.size w W)) (by kernel_rfl) ?_ (fun hHeld => ?_)
    · exact ⟨HX.out, (Below.refl _ _).drew⟩
    refine wpAnyH_take (i := 0) (v := ?_) rfl (by kernel_rfl) (by kernel_rfl) (by kernel_rfl) (fun _ _ _ h => h) (Or.inl ⟨by rfl, ?_⟩) hHeld ?_
    rotate_left
    · intro W hSw
      obtain ⟨q1, _⟩ := hSw
      have hs1 := q1.cell 0
      have hs2 := q1.cell 1
      have hs3 := q1.cell 2
      go_simp
      try with_reducible rfl
    try simp only [Act.put, List.setIfInBounds_toArray, List.set_cons_zero, List.set_cons_succ, List.getElem_toArray, List.getElem_cons_zero]
    refine wpAnyH_take (i := 1) (v := ?_) rfl (by kernel_rfl) (by kernel_rfl) (by kernel_rfl) (fun _ _ _ h => h) (Or.inl ⟨by rfl, ?_⟩) hHeld ?_
    rotate_left
    · intro W hSw
      obtain ⟨q1, _⟩ := hSw
      have hs1 := q1.cell 0
      have hs2 := q1.cell 1
      have hs3 := q1.cell 2
      go_simp
      try with_reducible rfl
    try simp only [Act.put, List.setIfInBounds_toArray, List.set_cons_zero, List.set_cons_succ, List.getElem_toArray, List.getElem_cons_succ, List.getElem_cons_zero]
    refine wpAnyH_take (i := 2) (v := ?_) rfl (by kernel_rfl) (by kernel_rfl) (by kernel_rfl) (fun _ _ _ h => h) (Or.inl ⟨by rfl, ?_⟩) hHeld ?_
    rotate_left
    · intro W hSw
      obtain ⟨q1, _⟩ := hSw
      have hs1 := q1.cell 0
      have hs2 := q1.cell 1
      have hs3 := q1.cell 2
      go_simp
      try with_reducible rfl
    try simp only [Act.put, List.setIfInBounds_toArray, List.set_cons_zero, List.set_cons_succ, List.getElem_toArray, List.getElem_cons_succ, List.getElem_cons_zero]
    refine wpAnyH_take (i := 3) (v := ?_) rfl (by kernel_rfl) (by kernel_rfl) (by kernel_rfl) (fun _ _ _ h => h) (Or.inl ⟨by rfl, ?_⟩) hHeld ?_
    rotate_left
    · intro W hSw
      obtain ⟨q1, _⟩ := hSw
      have hs1 := q1.cell 0
      have hs2 := q1.cell 1
      have hs3 := q1.cell 2
      go_simp
      try with_reducible rfl
    try simp only [Act.put, List.setIfInBounds_toArray, List.set_cons_zero, List.set_cons_succ, List.getElem_toArray, List.getElem_cons_succ, List.getElem_cons_zero]
    refine wpAnyH_take (i := 4) (v := ?_) rfl (by kernel_rfl) (by kernel_rfl) (by kernel_rfl) (fun _ _ _ h => h) (Or.inl ⟨by rfl, ?_⟩) hHeld ?_
    rotate_left
    · intro W hSw
      obtain ⟨q1, _⟩ := hSw
      have hs1 := q1.cell 0
      have hs2 := q1.cell 1
      have hs3 := q1.cell 2
      go_simp
      try with_reducible rfl
    try simp only [Act.put, List.setIfInBounds_toArray, List.set_cons_zero, List.set_cons_succ, List.getElem_toArray, List.getElem_cons_succ, List.getElem_cons_zero]
    refine wpAnyH_take (i := 5) (v := ?_) rfl (by kernel_rfl) (by kernel_rfl) (by kernel_rfl) (fun _ _ _ h => h) (Or.inl ⟨by rfl, ?_⟩) hHeld ?_
    rotate_left
    · intro W hSw
      obtain ⟨q1, _⟩ := hSw
      have hs1 := q1.cell 0
      have hs2 := q1.cell 1
      have hs3 := q1.cell 2
      go_simp
      try with_reducible rfl
    try simp only [Act.put, List.setIfInBounds_toArray, List.set_cons_zero, List.set_cons_succ, List.getElem_toArray, List.getElem_cons_succ, List.getElem_cons_zero]
    refine wpAnyH_take (i := 6) (v := ?_) rfl (by kernel_rfl) (by kernel_rfl) (by kernel_rfl) (fun _ _ _ h => h) (Or.inl ⟨by rfl, ?_⟩) hHeld ?_
    rotate_left
    · intro W hSw
      obtain ⟨q1, _⟩ := hSw
      have hs1 := q1.cell 0
      have hs2 := q1.cell 1
      have hs3 := q1.cell 2
      go_simp
      try with_reducible rfl
    try simp only [Act.put, List.setIfInBounds_toArray, List.set_cons_zero, List.set_cons_succ, List.getElem_toArray, List.getElem_cons_succ, List.getElem_cons_zero]
    refine wpAnyH_take (i := 7) (v := ?_) rfl (by kernel_rfl) (by kernel_rfl) (by kernel_rfl) (fun _ _ _ h => h) (Or.inl ⟨by rfl, ?_⟩) hHeld ?_
    rotate_left
    · intro W hSw
      obtain ⟨q1, _⟩ := hSw
      have hs1 := q1.cell 0
      have hs2 := q1.cell 1
      have hs3 := q1.cell 2
      go_simp
      try with_reducible rfl
    try simp only [Act.put, List.setIfInBounds_toArray, List.set_cons_zero, List.set_cons_succ, List.getElem_toArray, List.getElem_cons_succ, List.getElem_cons_zero]
    refine wpAnyH_ready (rs := [8, 9]) (by kernel_rfl) (by simp) ?_
    refine AllReadyH.cons rfl (fun K hK => ?_) (AllReadyH.cons rfl (fun K hK => ?_) AllReadyH.nil)
    · go_simp
      refine (HN.out _).mono ?_
      rintro e w1 ⟨rfl, hb⟩
      have HB := Lib.hid hb
      refine hK.out _ _ ?_ (fun hHeld => ?_)
      · exact ⟨hHeld.1.on hb, hHeld.2.trans (hb.mono hHeld.2.size)⟩
      clear hK K
      try simp only [Act.put, List.setIfInBounds_toArray, List.set_cons_zero, List.set_cons_succ, List.getElem_toArray, List.getElem_cons_succ, List.getElem_cons_zero]
      have hsz := hHeld.2.size
      have hbl := hHeld.1.lt
      have HE := Lib.hid hHeld
      refine wpAnyH_ready (rs := [9]) (by kernel_rfl) (by simp) ?_
      refine AllReadyH.cons rfl (fun K hK => ?_) AllReadyH.nil
      go_simp
      refine hK.out _ _ ?_ (fun hHeld => ?_)
      · exact ⟨hHeld.1.alloc _, hHeld.2.alloc hHeld.2.size _⟩
      clear hK K
      try simp only [Act.put, List.setIfInBounds_toArray, List.set_cons_zero, List.set_cons_succ, List.getElem_toArray, List.getElem_cons_succ, List.getElem_cons_zero]
      have HC := Lib.hid (Blk.new w1 55 #[.int .i64 0, .int .i64 0, .int .i64 0])
      refine wpAnyH_ready (rs := [10]) (by kernel_rfl) (by simp) ?_
      refine AllReadyH.cons rfl (fun K hK => ?_) AllReadyH.nil
      have hc0 := HC.out.cell 0
      have hc1 := HC.out.cell 1
      have hc2 := HC.out.cell 2
      have hfr := HC.out.free
      have hlt := HC.out.lt
      have hne := ne_of (b := b) HC.out (by omega)
      have hle := le_of (n := w.heap.size) HC.out (by omega)
      go_simp
      refine hK.out _ _ ?_ (fun hHeld => ?_)
      · exact ⟨HE.out.1.alloc _, HE.out.2.alloc HE.out.2.size _⟩
      clear hK K
      try simp only [Act.put, List.setIfInBounds_toArray, List.set_cons_zero, List.set_cons_succ, List.getElem_toArray, List.getElem_cons_succ, List.getElem_cons_zero]
      refine wpAnyH_done (by kernel_rfl) ?_ _
      go_wp2_with fail
      go_meet
      exact ⟨_, rfl, hne, hle, Blk.new w1 55 #[.int .i64 x0, .int .i64 x1, .int .i64 x2], hHeld.1, hHeld.2⟩
    · have hsz := hHeld.2.size
      have hbl : b < w.heap.size := HX.out.lt
      go_simp
      refine hK.out _ _ ?_ (fun hHeld => ?_)
      · exact ⟨hHeld.1.alloc _, hHeld.2.alloc hHeld.2.size _⟩
      clear hK K
      try simp only [Act.put, List.setIfInBounds_toArray, List.set_cons_zero, List.set_cons_succ, List.getElem_toArray, List.getElem_cons_succ, List.getElem_cons_zero]
      refine wpAnyH_ready (rs := [8]) (by kernel_rfl) (by simp) ?_
      refine AllReadyH.cons rfl (fun K hK => ?_) AllReadyH.nil
      go_simp
      refine (HN.out _).mono ?_
      rintro e w1 ⟨rfl, hb⟩
      have HC : Hid (Blk w1 w.heap.size 55 #[.int .i64 0, .int .i64 0, .int .i64 0]) := Lib.hid ((Blk.new (World.drew w) 55 #[.int .i64 0, .int .i64 0, .int .i64 0]).on hb)
      refine hK.out _ _ ?_ (fun hHeld => ?_)
      · exact ⟨hHeld.1.on hb, hHeld.2.trans (hb.mono hHeld.2.size)⟩
      clear hK K
      try simp only [Act.put, List.setIfInBounds_toArray, List.set_cons_zero, List.set_cons_succ, List.getElem_toArray, List.getElem_cons_succ, List.getElem_cons_zero]
      refine wpAnyH_ready (rs := [10]) (by kernel_rfl) (by simp) ?_
      refine AllReadyH.cons rfl (fun K hK => ?_) AllReadyH.nil
      have hc0 := HC.out.cell 0
      have hc1 := HC.out.cell 1
      have hc2 := HC.out.cell 2
      have hfr := HC.out.free
      have hlt := HC.out.lt
      have hne := ne_of (b := b) HC.out (by omega)
      have hle := le_of (n := w.heap.size) HC.out (by omega)
      go_simp
      refine hK.out _ _ ?_ (fun hHeld => ?_)
      · exact ⟨other3 hHeld.1 hne, below3 hHeld.2 hle⟩
      clear hK K
      try simp only [Act.put, List.setIfInBounds_toArray, List.set_cons_zero, List.set_cons_succ, List.getElem_toArray, List.getElem_cons_succ, List.getElem_cons_zero]
      refine wpAnyH_done (by kernel_rfl) ?_ _
      go_wp2_with fail
      go_meet
      exact ⟨_, rfl, hne, hle, ((HC.out.set 0 _ rfl).set 1 _ rfl).set 2 _ rfl, hHeld.1, hHeld.2⟩
  case rest =>
    obtain ⟨c, rfl, hbc, hwc, hC, hR, hB⟩ := hcut
    have hcb : c ≠ b := fun e => hbc e.symm
    have hc0 : wc.cell? ⟨c, 0, none⟩ = some (.int .i64 x0) := hC.cell 0
    have hc1 : wc.cell? ⟨c, 1, none⟩ = some (.int .i64 x1) := hC.cell 1
    have hc2 : wc.cell? ⟨c, 2, none⟩ = some (.int .i64 x2) := hC.cell 2
    have hb1 : wc.cell? ⟨b, 1, none⟩ = some (.int .i64 a) := hR.cell 1
    have hb2 : wc.cell? ⟨b, 2, none⟩ = some (.bool bd) := hR.cell 2
    have hfb := hR.free
    have hlb := hR.lt
    have HC := Lib.hid hC
    have HR := Lib.hid hR
    have HB := Lib.hid hB
    clear hC hR hB
    cases bd with
    | true =>
      go_wp2_with fail
      go_ret
      try rw [if_neg (by simp)]
      exact ⟨rfl, HR.out.set 2 _ rfl, Src.grown_set ⟨HB.out.os, HB.out.tape, HB.out.output, HB.out.size, fun k hk _ => HB.out.block k hk⟩ 2 _⟩
    | false =>
      by_cases h2 : x2 = 0
      · subst h2
        go_wp2_with fail
        go_ret
        try rw [if_pos ⟨rfl, rfl⟩]
        try rw [if_pos rfl]
        exact ⟨rfl, HR.out.set 1 _ rfl, Src.grown_set ⟨HB.out.os, HB.out.tape, HB.out.output, HB.out.size, fun k hk _ => HB.out.block k hk⟩ 1 _⟩
      · have k1 : (x2 == 0) = false := beq_eq_false_iff_ne.2 h2
        have k2 : (x2 != 0) = true := bne_iff_ne.2 h2
        go_wp2_with fail
        go_ret
        try rw [if_neg (fun e => h2 e.2)]
        try rw [if_neg h2]
        exact ⟨rfl, HR.out.set 2 _ rfl, Src.grown_set ⟨HB.out.os, HB.out.tape, HB.out.output, HB.out.size, fun k hk _ => HB.out.block k hk⟩ 2 _⟩

set_option maxHeartbeats 8000000 in
theorem sText_any (b : Nat) (s : ByteArray) (x : St) (w : World) (h : RdrS w b s x) (hs : s.size ≤ maxLen) (hx : x.ok) :
    Calls Tryz.prog 10 #[.pointer (some ⟨b, 0, none⟩)] w fun e w' => e = .returned (.string (sT s x).1) ∧ RdrS w' b s (sT s x).2 ∧ w.grownBy w' (some b) := by
  obtain ⟨a, bd⟩ := x
  have ha0 : 0 ≤ a := hx.1
  have ha1 : a ≤ 8000 := hx.2
  clear hx
  have HN := Lib.hid (fun W => Gn.specGetText_any s a W hs (by omega) (by omega))
  unfold Gn.gtV at HN
  unfold sT
  have HX := Lib.hid h
  clear h
  dsimp only
  generalize (Gn.gt s a).1 = x0 at *
  generalize (Gn.gt s a).2.1 = x1 at *
  generalize (Gn.gt s a).2.2 = x2 at *
  unfold RdrS at HX
  go_enter Tryz.func10, Tryz.ntmps10
  go_upto_region 1 with fail
  go_cut [3] (fun s3 wx => ∃ c, s3 = .pointer (some ⟨c, 0, none⟩) ∧ b ≠ c ∧ w.heap.size ≤ c ∧ Blk wx c 35 #[.string x0, .int .i64 x1, .int .i64 x2] ∧ Blk wx b 39 #[.string s, .int .i64 a, .bool bd] ∧ Below w.heap.size w wx)
  case first =>
    refine wp_region_held_drew (S := (fun W => Blk W b 39 #[.string s, .int .i64 a, .bool bd] ∧ Below w.heap.size w W)) (by kernel_rfl) ?_ (fun hHeld => ?_)
    · exact ⟨HX.out, (Below.refl _ _).drew⟩
    refine wpAnyH_take (i := 0) (v := ?_) rfl (by kernel_rfl) (by kernel_rfl) (by kernel_rfl) (fun _ _ _ h => h) (Or.inl ⟨by rfl, ?_⟩) hHeld ?_
    rotate_left
    · intro W hSw
      obtain ⟨q1, _⟩ := hSw
      have hs1 := q1.cell 0
      have hs2 := q1.cell 1
      have hs3 := q1.cell 2
      go_simp
      try with_reducible rfl
    try simp only [Act.put, List.setIfInBounds_toArray, List.set_cons_zero, List.set_cons_succ, List.getElem_toArray, List.getElem_cons_zero]
    refine wpAnyH_take (i := 1) (v := ?_) rfl (by kernel_rfl) (by kernel_rfl) (by kernel_rfl) (fun _ _ _ h => h) (Or.inl ⟨by rfl, ?_⟩) hHeld ?_
    rotate_left
    · intro W hSw
      obtain ⟨q1, _⟩ := hSw
      have hs1 := q1.cell 0
      have hs2 := q1.cell 1
      have hs3 := q1.cell 2
      go_simp
      try with_reducible rfl
    try simp only [Act.put, List.setIfInBounds_toArray, List.set_cons_zero, List.set_cons_succ, List.getElem_toArray, List.getElem_cons_succ, List.getElem_cons_zero]
    refine wpAnyH_take (i := 2) (v := ?_) rfl (by kernel_rfl) (by kernel_rfl) (by kernel_rfl) (fun _ _ _ h => h) (Or.inl ⟨by rfl, ?_⟩) hHeld ?_
    rotate_left
    · intro W hSw
      obtain ⟨q1, _⟩ := hSw
      have hs1 := q1.cell 0
      have hs2 := q1.cell 1
      have hs3 := q1.cell 2
      go_simp
      try with_reducible rfl
    try simp only [Act.put, List.setIfInBounds_toArray, List.set_cons_zero, List.set_cons_succ, List.getElem_toArray, List.getElem_cons_succ, List.getElem_cons_zero]
    refine wpAnyH_take (i := 3) (v := ?_) rfl (by kernel_rfl) (by kernel_rfl) (by kernel_rfl) (fun _ _ _ h => h) (Or.inl ⟨by rfl, ?_⟩) hHeld ?_
    rotate_left
    · intro W hSw
      obtain ⟨q1, _⟩ := hSw
      have hs1 := q1.cell 0
      have hs2 := q1.cell 1
      have hs3 := q1.cell 2
      go_simp
      try with_reducible rfl
    try simp only [Act.put, List.setIfInBounds_toArray, List.set_cons_zero, List.set_cons_succ, List.getElem_toArray, List.getElem_cons_succ, List.getElem_cons_zero]
    refine wpAnyH_take (i := 4) (v := ?_) rfl (by kernel_rfl) (by kernel_rfl) (by kernel_rfl) (fun _ _ _ h => h) (Or.inl ⟨by rfl, ?_⟩) hHeld ?_
    rotate_left
    · intro W hSw
      obtain ⟨q1, _⟩ := hSw
      have hs1 := q1.cell 0
      have hs2 := q1.cell 1
      have hs3 := q1.cell 2
      go_simp
      try with_reducible rfl
    try simp only [Act.put, List.setIfInBounds_toArray, List.set_cons_zero, List.set_cons_succ, List.getElem_toArray, List.getElem_cons_succ, List.getElem_cons_zero]
    refine wpAnyH_take (i := 5) (v := ?_) rfl (by kernel_rfl) (by kernel_rfl) (by kernel_rfl) (fun _ _ _ h => h) (Or.inl ⟨by rfl, ?_⟩) hHeld ?_
    rotate_left
    · intro W hSw
      obtain ⟨q1, _⟩ := hSw
      have hs1 := q1.cell 0
      have hs2 := q1.cell 1
      have hs3 := q1.cell 2
      go_simp
      try with_reducible rfl
    try simp only [Act.put, List.setIfInBounds_toArray, List.set_cons_zero, List.set_cons_succ, List.getElem_toArray, List.getElem_cons_succ, List.getElem_cons_zero]
    refine wpAnyH_take (i := 6) (v := ?_) rfl (by kernel_rfl) (by kernel_rfl) (by kernel_rfl) (fun _ _ _ h => h) (Or.inl ⟨by rfl, ?_⟩) hHeld ?_
    rotate_left
    · intro W hSw
      obtain ⟨q1, _⟩ := hSw
      have hs1 := q1.cell 0
      have hs2 := q1.cell 1
      have hs3 := q1.cell 2
      go_simp
      try with_reducible rfl
    try simp only [Act.put, List.setIfInBounds_toArray, List.set_cons_zero, List.set_cons_succ, List.getElem_toArray, List.getElem_cons_succ, List.getElem_cons_zero]
    refine wpAnyH_take (i := 7) (v := ?_) rfl (by kernel_rfl) (by kernel_rfl) (by kernel_rfl) (fun _ _ _ h => h) (Or.inl ⟨by rfl, ?_⟩) hHeld ?_
    rotate_left
    · intro W hSw
      obtain ⟨q1, _⟩ := hSw
      have hs1 := q1.cell 0
      have hs2 := q1.cell 1
      have hs3 := q1.cell 2
      go_simp
      try with_reducible rfl
    try simp only [Act.put, List.setIfInBounds_toArray, List.set_cons_zero, List.set_cons_succ, List.getElem_toArray, List.getElem_cons_succ, List.getElem_cons_zero]
    refine wpAnyH_ready (rs := [8, 9]) (by kernel_rfl) (by simp) ?_
    refine AllReadyH.cons rfl (fun K hK => ?_) (AllReadyH.cons rfl (fun K hK => ?_) AllReadyH.nil)
    · go_simp
      refine (HN.out _).mono ?_
      rintro e w1 ⟨rfl, hb⟩
      have HB := Lib.hid hb
      refine hK.out _ _ ?_ (fun hHeld => ?_)
      · exact ⟨hHeld.1.on hb, hHeld.2.trans (hb.mono hHeld.2.size)⟩
      clear hK K
      try simp only [Act.put, List.setIfInBounds_toArray, List.set_cons_zero, List.set_cons_succ, List.getElem_toArray, List.getElem_cons_succ, List.getElem_cons_zero]
      have hsz := hHeld.2.size
      have hbl := hHeld.1.lt
      have HE := Lib.hid hHeld
      refine wpAnyH_ready (rs := [9]) (by kernel_rfl) (by simp) ?_
      refine AllReadyH.cons rfl (fun K hK => ?_) AllReadyH.nil
      go_simp
      refine hK.out _ _ ?_ (fun hHeld => ?_)
      · exact ⟨hHeld.1.alloc _, hHeld.2.alloc hHeld.2.size _⟩
      clear hK K
      try simp only [Act.put, List.setIfInBounds_toArray, List.set_cons_zero, List.set_cons_succ, List.getElem_toArray, List.getElem_cons_succ, List.getElem_cons_zero]
      have HC := Lib.hid (Blk.new w1 35 #[.string ⟨#[]⟩, .int .i64 0, .int .i64 0])
      refine wpAnyH_ready (rs := [10]) (by kernel_rfl) (by simp) ?_
      refine AllReadyH.cons rfl (fun K hK => ?_) AllReadyH.nil
      have hc0 := HC.out.cell 0
      have hc1 := HC.out.cell 1
      have hc2 := HC.out.cell 2
      have hfr := HC.out.free
      have hlt := HC.out.lt
      have hne := ne_of (b := b) HC.out (by omega)
      have hle := le_of (n := w.heap.size) HC.out (by omega)
      go_simp
      refine hK.out _ _ ?_ (fun hHeld => ?_)
      · exact ⟨HE.out.1.alloc _, HE.out.2.alloc HE.out.2.size _⟩
      clear hK K
      try simp only [Act.put, List.setIfInBounds_toArray, List.set_cons_zero, List.set_cons_succ, List.getElem_toArray, List.getElem_cons_succ, List.getElem_cons_zero]
      refine wpAnyH_done (by kernel_rfl) ?_ _
      go_wp2_with fail
      go_meet
      exact ⟨_, rfl, hne, hle, Blk.new w1 35 #[.string x0, .int .i64 x1, .int .i64 x2], hHeld.1, hHeld.2⟩
    · have hsz := hHeld.2.size
      have hbl : b < w.heap.size := HX.out.lt
      go_simp
      refine hK.out _ _ ?_ (fun hHeld => ?_)
      · exact ⟨hHeld.1.alloc _, hHeld.2.alloc hHeld.2.size _⟩
      clear hK K
      try simp only [Act.put, List.setIfInBounds_toArray, List.set_cons_zero, List.set_cons_succ, List.getElem_toArray, List.getElem_cons_succ, List.getElem_cons_zero]
      refine wpAnyH_ready (rs := [8]) (by kernel_rfl) (by simp) ?_
      refine AllReadyH.cons rfl (fun K hK => ?_) AllReadyH.nil
      go_simp
      refine (HN.out _).mono ?_
      rintro e w1 ⟨rfl, hb⟩
      have HC : Hid (Blk w1 w.heap.size 35 #[.string ⟨#[]⟩, .int .i64 0, .int .i64 0]) := Lib.hid ((Blk.new (World.drew w) 35 #[.string ⟨#[]⟩, .int .i64 0, .int .i64 0]).on hb)
      refine hK.out _ _ ?_ (fun hHeld => ?_)
      · exact ⟨hHeld.1.on hb, hHeld.2.trans (hb.mono hHeld.2.size)⟩
      clear hK K
      try simp only [Act.put, List.setIfInBounds_toArray, List.set_cons_zero, List.set_cons_succ, List.getElem_toArray, List.getElem_cons_succ, List.getElem_cons_zero]
      refine wpAnyH_ready (rs := [10]) (by kernel_rfl) (by simp) ?_
      refine AllReadyH.cons rfl (fun K hK => ?_) AllReadyH.nil
      have hc0 := HC.out.cell 0
      have hc1 := HC.out.cell 1
      have hc2 := HC.out.cell 2
      have hfr := HC.out.free
      have hlt := HC.out.lt
      have hne := ne_of (b := b) HC.out (by omega)
      have hle := le_of (n := w.heap.size) HC.out (by omega)
      go_simp
      refine hK.out _ _ ?_ (fun hHeld => ?_)
      · exact ⟨other3 hHeld.1 hne, below3 hHeld.2 hle⟩
      clear hK K
      try simp only [Act.put, List.setIfInBounds_toArray, List.set_cons_zero, List.set_cons_succ, List.getElem_toArray, List.getElem_cons_succ, List.getElem_cons_zero]
      refine wpAnyH_done (by kernel_rfl) ?_ _
      go_wp2_with fail
      go_meet
      exact ⟨_, rfl, hne, hle, ((HC.out.set 0 _ rfl).set 1 _ rfl).set 2 _ rfl, hHeld.1, hHeld.2⟩
  case rest =>
    obtain ⟨c, rfl, hbc, hwc, hC, hR, hB⟩ := hcut
    have hcb : c ≠ b := fun e => hbc e.symm
    have hc0 : wc.cell? ⟨c, 0, none⟩ = some (.string x0) := hC.cell 0
    have hc1 : wc.cell? ⟨c, 1, none⟩ = some (.int .i64 x1) := hC.cell 1
    have hc2 : wc.cell? ⟨c, 2, none⟩ = some (.int .i64 x2) := hC.cell 2
    have hb1 : wc.cell? ⟨b, 1, none⟩ = some (.int .i64 a) := hR.cell 1
    have hb2 : wc.cell? ⟨b, 2, none⟩ = some (.bool bd) := hR.cell 2
    have hfb := hR.free
    have hlb := hR.lt
    have HC := Lib.hid hC
    have HR := Lib.hid hR
    have HB := Lib.hid hB
    clear hC hR hB
    cases bd with
    | true =>
      go_wp2_with fail
      go_ret
      try rw [if_neg (by simp)]
      exact ⟨rfl, HR.out.set 2 _ rfl, Src.grown_set ⟨HB.out.os, HB.out.tape, HB.out.output, HB.out.size, fun k hk _ => HB.out.block k hk⟩ 2 _⟩
    | false =>
      by_cases h2 : x2 = 0
      · subst h2
        go_wp2_with fail
        go_ret
        try rw [if_pos ⟨rfl, rfl⟩]
        try rw [if_pos rfl]
        exact ⟨rfl, HR.out.set 1 _ rfl, Src.grown_set ⟨HB.out.os, HB.out.tape, HB.out.output, HB.out.size, fun k hk _ => HB.out.block k hk⟩ 1 _⟩
      · have k1 : (x2 == 0) = false := beq_eq_false_iff_ne.2 h2
        have k2 : (x2 != 0) = true := bne_iff_ne.2 h2
        go_wp2_with fail
        go_ret
        try rw [if_neg (fun e => h2 e.2)]
        try rw [if_neg h2]
        exact ⟨rfl, HR.out.set 2 _ rfl, Src.grown_set ⟨HB.out.os, HB.out.tape, HB.out.output, HB.out.size, fun k hk _ => HB.out.block k hk⟩ 2 _⟩

set_option maxHeartbeats 4000000 in
theorem sId_any (b : Nat) (s : ByteArray) (x : St) (w : World) (h : RdrS w b s x) (hs : s.size ≤ maxLen) (hx : x.ok) :
    Calls Tryz.prog 11 #[.pointer (some ⟨b, 0, none⟩)] w fun e w' => e = .returned (.agg #[.int .i64 (sI s x).1.c, .int .i64 (sI s x).1.s, .int .i64 (sI s x).1.e]) ∧ RdrS w' b s (sI s x).2 ∧ w.grownBy w' (some b) := by
  have hl := h.lt
  have HX0 := Lib.hid (show RdrS (w.alloc (.cells #[.int .i64 0, .int .i64 0, .int .i64 0] 23)) b s x from h.alloc _)
  have HC0 := Lib.hid (Blk.new w 23 #[.int .i64 0, .int .i64 0, .int .i64 0])
  have HG0 := Lib.hid (show w.grownBy (w.alloc (.cells #[.int .i64 0, .int .i64 0, .int .i64 0] 23)) (some b) from grown_alloc (World.grownBy.refl w _) _)
  have hrb : w.heap.size ≠ b := by omega
  have p1 := (sN_fwd s hx).1
  have p2 := (sN_fwd s p1).1
  have C1 := Lib.hid (fun W h => sNum_any b s x W h hs hx)
  have C2 := Lib.hid (fun W h => sNum_any b s (sN s x).2 W h hs p1)
  have C3 := Lib.hid (fun W h => sNum_any b s (sN s (sN s x).2).2 W h hs p2)
  unfold sI
  dsimp only
  clear h hx p1 p2
  generalize (sN s (sN s (sN s x).2).2).2 = y3 at *
  generalize (sN s (sN s (sN s x).2).2).1 = n3 at *
  generalize (sN s (sN s x).2).2 = y2 at *
  generalize (sN s (sN s x).2).1 = n2 at *
  generalize (sN s x).2 = y1 at *
  generalize (sN s x).1 = n1 at *
  go_enter Tryz.func11, Tryz.ntmps11
  go_wp2_with fail
  refine (C1.out _ HX0.out).mono ?_
  rintro e w1 ⟨rfl, hr, hg⟩
  have HB := Lib.hid (Blk.new w1 23 #[.int .i64 n1, .int .i64 0, .int .i64 0])
  have HX1 := Lib.hid (show RdrS (w1.alloc (.cells #[.int .i64 n1, .int .i64 0, .int .i64 0] 23)) b s y1 from hr.alloc _)
  have HC1 := Lib.hid ((blk_grown hg HC0.out hrb).alloc (.cells #[.int .i64 n1, .int .i64 0, .int .i64 0] 23))
  have HG1 := Lib.hid (grown_alloc (Src.grown_trans HG0.out hg) (.cells #[.int .i64 n1, .int .i64 0, .int .i64 0] 23))
  have hz1 : w.heap.size < w1.heap.size := by have := hg.size; simp at this; omega
  have hb1 : b < w1.heap.size := by omega
  clear hr hg HX0 HC0 HG0
  go_wp2_with fail
  refine (C2.out _ HX1.out).mono ?_
  rintro e w2 ⟨rfl, hr, hg⟩
  have HB2 := Lib.hid (blk_grown hg HB.out (by omega))
  have HX2 := Lib.hid hr
  have HC2 := Lib.hid (blk_grown hg HC1.out hrb)
  have HG2 := Lib.hid (Src.grown_trans HG1.out hg)
  clear hr hg HX1 HC1 HG1 HB
  have q0 := HB2.out.cell 0
  have q1 := HB2.out.cell 1
  have q2 := HB2.out.cell 2
  have qf := HB2.out.free
  have HX3 := Lib.hid (show RdrS (w2.setCell ⟨w1.heap.size, 1, none⟩ (.int .i64 n2)) b s y2 from HX2.out.other (p := ⟨w1.heap.size, 1, none⟩) (by simp; omega) _)
  have HC3 := Lib.hid (HC2.out.other (p := ⟨w1.heap.size, 1, none⟩) (by simp; omega) (.int .i64 n2))
  have HB3 := Lib.hid (HB2.out.set 1 (.int .i64 n2) rfl)
  have HG3 := Lib.hid (grown_set_new (i := 1) (v := .int .i64 n2) HG2.out (show w.heap.size ≤ w1.heap.size by omega))
  go_wp2_with fail
  clear q0 q1 q2 qf
  refine (C3.out _ HX3.out).mono ?_
  rintro e w3 ⟨rfl, hr, hg⟩
  have HB4 := Lib.hid (blk_grown hg HB3.out (by omega))
  have HX4 := Lib.hid hr
  have HC4 := Lib.hid (blk_grown hg HC3.out hrb)
  have HG4 := Lib.hid (Src.grown_trans HG3.out hg)
  clear hr hg HX3 HC3 HG3 HB3 HX2 HC2 HG2 HB2
  have q0 := HB4.out.cell 0
  have q1 := HB4.out.cell 1
  have q2 := HB4.out.cell 2
  have qf := HB4.out.free
  have hc0 := HC4.out.cell 0
  have hc1 := HC4.out.cell 1
  have hc2 := HC4.out.cell 2
  have hcf := HC4.out.free
  have hcl := HC4.out.lt
  go_wp2_with fail
  exact bodyPost_ret (v := .agg #[.int .i64 n1, .int .i64 n2, .int .i64 n3]) (by simp [results, Tryz.results11, go_sem, hc0, hc1, hc2, hcl]) rfl ⟨rfl, ((((HX4.out.other (p := ⟨w1.heap.size, 2, none⟩) (by simp; omega) _).other (p := ⟨w.heap.size, 0, none⟩) (fun e => hrb e.symm) _).other (p := ⟨w.heap.size, 1, none⟩) (fun e => hrb e.symm) _).other (p := ⟨w.heap.size, 2, none⟩) (fun e => hrb e.symm) _), grown_set_new (grown_set_new (grown_set_new (grown_set_new HG4.out (show w.heap.size ≤ w1.heap.size by omega)) (Nat.le_refl _)) (Nat.le_refl _)) (Nat.le_refl _)⟩

end Go.Proofs.YtkmlnibkdcdegaaGreatDoor.Rec
