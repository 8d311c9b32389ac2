/-
  The reader of a record's text: what the program's methods read and where they stand then.
-/
import Derived.Test.YtkmlnibkdcdegaaGreatDoorPackSeal
import Derived.Test.YtkmlnibkdcdegaaGreatDoorPackDep
import Derived.Test.YtkmlnibkdcdegaaGreatDoorPackSrc
import Derived.Deep.DeepCutAuto
import Derived.Deep.RegionHeld3
namespace Go.Proofs.YtkmlnibkdcdegaaGreatDoor.Rec
open Go.ChangeShapes Go.WideShapes Go.ChangeAt Go.RowKit
set_option linter.unusedVariables false
set_option maxRecDepth 100000
set_option linter.unusedSimpArgs false

/-- Block b is a reader of the text s, at place a. -/
def Rdr (W : World) (b : Nat) (s : ByteArray) (a : Int) : Prop := Blk W b 47 #[.string s, .int .i64 a]
theorem ne_of {W : World} {b c t : Nat} {cs : Array Value} (h : Blk W c t cs) (e : b ≠ c) : b ≠ c := e
theorem le_of {W : World} {n c t : Nat} {cs : Array Value} (h : Blk W c t cs) (e : n ≤ c) : n ≤ c := e
theorem other3 {W : World} {b c t i j k : Nat} {cs : Array Value} {x y z : Value} (h : Blk W b t cs) (hne : b ≠ c) : Blk (((W.setCell ⟨c, i, none⟩ x).setCell ⟨c, j, none⟩ y).setCell ⟨c, k, none⟩ z) b t cs :=
  ((h.other hne x).other hne y).other hne z
theorem below3 {w W : World} {n c i j k : Nat} {x y z : Value} (h : Below n w W) (hle : n ≤ c) : Below n w (((W.setCell ⟨c, i, none⟩ x).setCell ⟨c, j, none⟩ y).setCell ⟨c, k, none⟩ z) :=
  ((h.setCell hle x).setCell hle y).setCell hle z
set_option maxHeartbeats 8000000 in
theorem nextNum_any (b : Nat) (s : ByteArray) (a : Int) (w : World) (h : Rdr w b s a) (hs : s.size ≤ maxLen) (ha0 : -9223372036854775808 ≤ a) (ha1 : a ≤ 9223372036854775807) (hw : Gn.Handle w) :
    Calls Tryz.prog 33 #[.pointer (some ⟨b, 0, none⟩)] w fun e w' => e = .returned (.int .i64 (rN s a).1) ∧ Rdr w' b s (rN s a).2 ∧ w.grownBy w' (some b) := by
  have HN := Lib.hid (fun W hW => Gn.implGetNum_any s a W hs ha0 ha1 hW)
  unfold Gn.gnV at HN
  unfold rN
  have HX := Lib.hid h
  have HW := Lib.hid hw
  clear h hw
  generalize (Gn.gn s a).1 = x0 at *
  generalize (Gn.gn s a).2.1 = x1 at *
  generalize (Gn.gn s a).2.2 = x2 at *
  go_enter Tryz.func33, Tryz.ntmps33
  go_upto_region 2 with fail
  go_cut [3] (fun s3 wx => ∃ c, s3 = .pointer (some ⟨c, 0, none⟩) ∧ b ≠ c ∧ w.heap.size ≤ c ∧ Blk wx c 55 #[.int .i64 x0, .int .i64 x1, .int .i64 x2] ∧ Rdr wx b s a ∧ Below w.heap.size w wx)
  case first =>
    refine wp_region_held_drew (S := (fun W => Blk W b 47 #[.string s, .int .i64 a] ∧ Below w.heap.size w W)) (by kernel_rfl) ?_ (fun hHeld => ?_)
    · exact ⟨HX.out, (Below.refl _ _).drew⟩
    refine wpAnyH_take (i := 0) (v := ?_) rfl (by kernel_rfl) (by kernel_rfl) (by kernel_rfl) (fun _ _ _ h => h) (Or.inl ⟨by rfl, ?_⟩) hHeld ?_
    rotate_left
    · intro W hSw
      obtain ⟨q1, _⟩ := hSw
      have hs1 := q1.cell 0
      have hs2 := q1.cell 1
      go_simp
      try with_reducible rfl
    try simp only [Act.put, List.setIfInBounds_toArray, List.set_cons_zero, List.set_cons_succ, List.getElem_toArray, List.getElem_cons_zero]
    refine wpAnyH_take (i := 1) (v := ?_) rfl (by kernel_rfl) (by kernel_rfl) (by kernel_rfl) (fun _ _ _ h => h) (Or.inl ⟨by rfl, ?_⟩) hHeld ?_
    rotate_left
    · intro W hSw
      obtain ⟨q1, _⟩ := hSw
      have hs1 := q1.cell 0
      have hs2 := q1.cell 1
      go_simp
      try with_reducible rfl
    try simp only [Act.put, List.setIfInBounds_toArray, List.set_cons_zero, List.set_cons_succ, List.getElem_toArray, List.getElem_cons_succ, List.getElem_cons_zero]
    refine wpAnyH_take (i := 2) (v := ?_) rfl (by kernel_rfl) (by kernel_rfl) (by kernel_rfl) (fun _ _ _ h => h) (Or.inl ⟨by rfl, ?_⟩) hHeld ?_
    rotate_left
    · intro W hSw
      obtain ⟨q1, _⟩ := hSw
      have hs1 := q1.cell 0
      have hs2 := q1.cell 1
      go_simp
      try with_reducible rfl
    try simp only [Act.put, List.setIfInBounds_toArray, List.set_cons_zero, List.set_cons_succ, List.getElem_toArray, List.getElem_cons_succ, List.getElem_cons_zero]
    refine wpAnyH_take (i := 3) (v := ?_) rfl (by kernel_rfl) (by kernel_rfl) (by kernel_rfl) (fun _ _ _ h => h) (Or.inl ⟨by rfl, ?_⟩) hHeld ?_
    rotate_left
    · intro W hSw
      obtain ⟨q1, _⟩ := hSw
      have hs1 := q1.cell 0
      have hs2 := q1.cell 1
      go_simp
      try with_reducible rfl
    try simp only [Act.put, List.setIfInBounds_toArray, List.set_cons_zero, List.set_cons_succ, List.getElem_toArray, List.getElem_cons_succ, List.getElem_cons_zero]
    refine wpAnyH_take (i := 4) (v := ?_) rfl (by kernel_rfl) (by kernel_rfl) (by kernel_rfl) (fun _ _ _ h => h) (Or.inl ⟨by rfl, ?_⟩) hHeld ?_
    rotate_left
    · intro W hSw
      obtain ⟨q1, _⟩ := hSw
      have hs1 := q1.cell 0
      have hs2 := q1.cell 1
      go_simp
      try with_reducible rfl
    try simp only [Act.put, List.setIfInBounds_toArray, List.set_cons_zero, List.set_cons_succ, List.getElem_toArray, List.getElem_cons_succ, List.getElem_cons_zero]
    refine wpAnyH_take (i := 5) (v := ?_) rfl (by kernel_rfl) (by kernel_rfl) (by kernel_rfl) (fun _ _ _ h => h) (Or.inl ⟨by rfl, ?_⟩) hHeld ?_
    rotate_left
    · intro W hSw
      obtain ⟨q1, _⟩ := hSw
      have hs1 := q1.cell 0
      have hs2 := q1.cell 1
      go_simp
      try with_reducible rfl
    try simp only [Act.put, List.setIfInBounds_toArray, List.set_cons_zero, List.set_cons_succ, List.getElem_toArray, List.getElem_cons_succ, List.getElem_cons_zero]
    refine wpAnyH_take (i := 6) (v := ?_) rfl (by kernel_rfl) (by kernel_rfl) (by kernel_rfl) (fun _ _ _ h => h) (Or.inl ⟨by rfl, ?_⟩) hHeld ?_
    rotate_left
    · intro W hSw
      obtain ⟨q1, _⟩ := hSw
      have hs1 := q1.cell 0
      have hs2 := q1.cell 1
      go_simp
      try with_reducible rfl
    try simp only [Act.put, List.setIfInBounds_toArray, List.set_cons_zero, List.set_cons_succ, List.getElem_toArray, List.getElem_cons_succ, List.getElem_cons_zero]
    refine wpAnyH_take (i := 7) (v := ?_) rfl (by kernel_rfl) (by kernel_rfl) (by kernel_rfl) (fun _ _ _ h => h) (Or.inl ⟨by rfl, ?_⟩) hHeld ?_
    rotate_left
    · intro W hSw
      obtain ⟨q1, _⟩ := hSw
      have hs1 := q1.cell 0
      have hs2 := q1.cell 1
      go_simp
      try with_reducible rfl
    try simp only [Act.put, List.setIfInBounds_toArray, List.set_cons_zero, List.set_cons_succ, List.getElem_toArray, List.getElem_cons_succ, List.getElem_cons_zero]
    refine wpAnyH_ready (rs := [8, 9]) (by kernel_rfl) (by simp) ?_
    refine AllReadyH.cons rfl (fun K hK => ?_) (AllReadyH.cons rfl (fun K hK => ?_) AllReadyH.nil)
    · go_simp
      refine (HN.out _ (HW.out.below hHeld.2)).mono ?_
      rintro e w1 ⟨rfl, hb⟩
      have HB := Lib.hid hb
      refine hK.out _ _ ?_ (fun hHeld => ?_)
      · exact ⟨hHeld.1.on hb, hHeld.2.trans (hb.mono hHeld.2.size)⟩
      clear hK K
      try simp only [Act.put, List.setIfInBounds_toArray, List.set_cons_zero, List.set_cons_succ, List.getElem_toArray, List.getElem_cons_succ, List.getElem_cons_zero]
      have hsz := hHeld.2.size
      have hbl := hHeld.1.lt
      have HE := Lib.hid hHeld
      refine wpAnyH_ready (rs := [9]) (by kernel_rfl) (by simp) ?_
      refine AllReadyH.cons rfl (fun K hK => ?_) AllReadyH.nil
      go_simp
      refine hK.out _ _ ?_ (fun hHeld => ?_)
      · exact ⟨hHeld.1.alloc _, hHeld.2.alloc hHeld.2.size _⟩
      clear hK K
      try simp only [Act.put, List.setIfInBounds_toArray, List.set_cons_zero, List.set_cons_succ, List.getElem_toArray, List.getElem_cons_succ, List.getElem_cons_zero]
      have HC := Lib.hid (Blk.new w1 55 #[.int .i64 0, .int .i64 0, .int .i64 0])
      refine wpAnyH_ready (rs := [10]) (by kernel_rfl) (by simp) ?_
      refine AllReadyH.cons rfl (fun K hK => ?_) AllReadyH.nil
      have hc0 := HC.out.cell 0
      have hc1 := HC.out.cell 1
      have hc2 := HC.out.cell 2
      have hfr := HC.out.free
      have hlt := HC.out.lt
      have hne := ne_of (b := b) HC.out (by omega)
      have hle := le_of (n := w.heap.size) HC.out (by omega)
      go_simp
      refine hK.out _ _ ?_ (fun hHeld => ?_)
      · exact ⟨HE.out.1.alloc _, HE.out.2.alloc HE.out.2.size _⟩
      clear hK K
      try simp only [Act.put, List.setIfInBounds_toArray, List.set_cons_zero, List.set_cons_succ, List.getElem_toArray, List.getElem_cons_succ, List.getElem_cons_zero]
      refine wpAnyH_done (by kernel_rfl) ?_ _
      go_wp2_with fail
      go_meet
      exact ⟨_, rfl, hne, hle, Blk.new w1 55 #[.int .i64 x0, .int .i64 x1, .int .i64 x2], hHeld.1, hHeld.2⟩
    · have hsz := hHeld.2.size
      have hbl : b < w.heap.size := HX.out.lt
      go_simp
      refine hK.out _ _ ?_ (fun hHeld => ?_)
      · exact ⟨hHeld.1.alloc _, hHeld.2.alloc hHeld.2.size _⟩
      clear hK K
      try simp only [Act.put, List.setIfInBounds_toArray, List.set_cons_zero, List.set_cons_succ, List.getElem_toArray, List.getElem_cons_succ, List.getElem_cons_zero]
      refine wpAnyH_ready (rs := [8]) (by kernel_rfl) (by simp) ?_
      refine AllReadyH.cons rfl (fun K hK => ?_) AllReadyH.nil
      go_simp
      refine (HN.out _ (HW.out.below hHeld.2)).mono ?_
      rintro e w1 ⟨rfl, hb⟩
      have HC : Hid (Blk w1 w.heap.size 55 #[.int .i64 0, .int .i64 0, .int .i64 0]) := Lib.hid ((Blk.new (World.drew w) 55 #[.int .i64 0, .int .i64 0, .int .i64 0]).on hb)
      refine hK.out _ _ ?_ (fun hHeld => ?_)
      · exact ⟨hHeld.1.on hb, hHeld.2.trans (hb.mono hHeld.2.size)⟩
      clear hK K
      try simp only [Act.put, List.setIfInBounds_toArray, List.set_cons_zero, List.set_cons_succ, List.getElem_toArray, List.getElem_cons_succ, List.getElem_cons_zero]
      refine wpAnyH_ready (rs := [10]) (by kernel_rfl) (by simp) ?_
      refine AllReadyH.cons rfl (fun K hK => ?_) AllReadyH.nil
      have hc0 := HC.out.cell 0
      have hc1 := HC.out.cell 1
      have hc2 := HC.out.cell 2
      have hfr := HC.out.free
      have hlt := HC.out.lt
      have hne := ne_of (b := b) HC.out (by omega)
      have hle := le_of (n := w.heap.size) HC.out (by omega)
      go_simp
      refine hK.out _ _ ?_ (fun hHeld => ?_)
      · exact ⟨other3 hHeld.1 hne, below3 hHeld.2 hle⟩
      clear hK K
      try simp only [Act.put, List.setIfInBounds_toArray, List.set_cons_zero, List.set_cons_succ, List.getElem_toArray, List.getElem_cons_succ, List.getElem_cons_zero]
      refine wpAnyH_done (by kernel_rfl) ?_ _
      go_wp2_with fail
      go_meet
      exact ⟨_, rfl, hne, hle, ((HC.out.set 0 _ rfl).set 1 _ rfl).set 2 _ rfl, hHeld.1, hHeld.2⟩
  case rest =>
    obtain ⟨c, rfl, hbc, hwc, hC, hR, hB⟩ := hcut
    have hcb : c ≠ b := fun e => hbc e.symm
    have hc0 : wc.cell? ⟨c, 0, none⟩ = some (.int .i64 x0) := hC.cell 0
    have hc1 : wc.cell? ⟨c, 1, none⟩ = some (.int .i64 x1) := hC.cell 1
    have hb1 : wc.cell? ⟨b, 1, none⟩ = some (.int .i64 a) := hR.cell 1
    have hfb := hR.free
    have hlb := hR.lt
    have HC := Lib.hid hC
    have HR := Lib.hid hR
    have HB := Lib.hid hB
    clear hC hR hB
    go_wp2_with fail
    go_ret
    exact ⟨rfl, HR.out.set 1 _ rfl, Src.grown_set ⟨HB.out.os, HB.out.tape, HB.out.output, HB.out.size, fun k hk _ => HB.out.block k hk⟩ 1 _⟩

set_option maxHeartbeats 8000000 in
theorem nextText_any (b : Nat) (s : ByteArray) (a : Int) (w : World) (h : Rdr w b s a) (hs : s.size ≤ maxLen) (ha0 : -9223372036854775808 ≤ a) (ha1 : a ≤ 9223372036854775807) (hw : Gn.Handle w) :
    Calls Tryz.prog 31 #[.pointer (some ⟨b, 0, none⟩)] w fun e w' => e = .returned (.string (rT s a).1) ∧ Rdr w' b s (rT s a).2 ∧ w.grownBy w' (some b) := by
  have HN := Lib.hid (fun W hW => Gn.implGetText_any s a W hs ha0 ha1 hW)
  unfold Gn.gtV at HN
  unfold rT
  have HX := Lib.hid h
  have HW := Lib.hid hw
  clear h hw
  generalize (Gn.gt s a).1 = x0 at *
  generalize (Gn.gt s a).2.1 = x1 at *
  generalize (Gn.gt s a).2.2 = x2 at *
  go_enter Tryz.func31, Tryz.ntmps31
  go_upto_region 2 with fail
  go_cut [3] (fun s3 wx => ∃ c, s3 = .pointer (some ⟨c, 0, none⟩) ∧ b ≠ c ∧ w.heap.size ≤ c ∧ Blk wx c 35 #[.string x0, .int .i64 x1, .int .i64 x2] ∧ Rdr wx b s a ∧ Below w.heap.size w wx)
  case first =>
    refine wp_region_held_drew (S := (fun W => Blk W b 47 #[.string s, .int .i64 a] ∧ Below w.heap.size w W)) (by kernel_rfl) ?_ (fun hHeld => ?_)
    · exact ⟨HX.out, (Below.refl _ _).drew⟩
    refine wpAnyH_take (i := 0) (v := ?_) rfl (by kernel_rfl) (by kernel_rfl) (by kernel_rfl) (fun _ _ _ h => h) (Or.inl ⟨by rfl, ?_⟩) hHeld ?_
    rotate_left
    · intro W hSw
      obtain ⟨q1, _⟩ := hSw
      have hs1 := q1.cell 0
      have hs2 := q1.cell 1
      go_simp
      try with_reducible rfl
    try simp only [Act.put, List.setIfInBounds_toArray, List.set_cons_zero, List.set_cons_succ, List.getElem_toArray, List.getElem_cons_zero]
    refine wpAnyH_take (i := 1) (v := ?_) rfl (by kernel_rfl) (by kernel_rfl) (by kernel_rfl) (fun _ _ _ h => h) (Or.inl ⟨by rfl, ?_⟩) hHeld ?_
    rotate_left
    · intro W hSw
      obtain ⟨q1, _⟩ := hSw
      have hs1 := q1.cell 0
      have hs2 := q1.cell 1
      go_simp
      try with_reducible rfl
    try simp only [Act.put, List.setIfInBounds_toArray, List.set_cons_zero, List.set_cons_succ, List.getElem_toArray, List.getElem_cons_succ, List.getElem_cons_zero]
    refine wpAnyH_take (i := 2) (v := ?_) rfl (by kernel_rfl) (by kernel_rfl) (by kernel_rfl) (fun _ _ _ h => h) (Or.inl ⟨by rfl, ?_⟩) hHeld ?_
    rotate_left
    · intro W hSw
      obtain ⟨q1, _⟩ := hSw
      have hs1 := q1.cell 0
      have hs2 := q1.cell 1
      go_simp
      try with_reducible rfl
    try simp only [Act.put, List.setIfInBounds_toArray, List.set_cons_zero, List.set_cons_succ, List.getElem_toArray, List.getElem_cons_succ, List.getElem_cons_zero]
    refine wpAnyH_take (i := 3) (v := ?_) rfl (by kernel_rfl) (by kernel_rfl) (by kernel_rfl) (fun _ _ _ h => h) (Or.inl ⟨by rfl, ?_⟩) hHeld ?_
    rotate_left
    · intro W hSw
      obtain ⟨q1, _⟩ := hSw
      have hs1 := q1.cell 0
      have hs2 := q1.cell 1
      go_simp
      try with_reducible rfl
    try simp only [Act.put, List.setIfInBounds_toArray, List.set_cons_zero, List.set_cons_succ, List.getElem_toArray, List.getElem_cons_succ, List.getElem_cons_zero]
    refine wpAnyH_take (i := 4) (v := ?_) rfl (by kernel_rfl) (by kernel_rfl) (by kernel_rfl) (fun _ _ _ h => h) (Or.inl ⟨by rfl, ?_⟩) hHeld ?_
    rotate_left
    · intro W hSw
      obtain ⟨q1, _⟩ := hSw
      have hs1 := q1.cell 0
      have hs2 := q1.cell 1
      go_simp
      try with_reducible rfl
    try simp only [Act.put, List.setIfInBounds_toArray, List.set_cons_zero, List.set_cons_succ, List.getElem_toArray, List.getElem_cons_succ, List.getElem_cons_zero]
    refine wpAnyH_take (i := 5) (v := ?_) rfl (by kernel_rfl) (by kernel_rfl) (by kernel_rfl) (fun _ _ _ h => h) (Or.inl ⟨by rfl, ?_⟩) hHeld ?_
    rotate_left
    · intro W hSw
      obtain ⟨q1, _⟩ := hSw
      have hs1 := q1.cell 0
      have hs2 := q1.cell 1
      go_simp
      try with_reducible rfl
    try simp only [Act.put, List.setIfInBounds_toArray, List.set_cons_zero, List.set_cons_succ, List.getElem_toArray, List.getElem_cons_succ, List.getElem_cons_zero]
    refine wpAnyH_take (i := 6) (v := ?_) rfl (by kernel_rfl) (by kernel_rfl) (by kernel_rfl) (fun _ _ _ h => h) (Or.inl ⟨by rfl, ?_⟩) hHeld ?_
    rotate_left
    · intro W hSw
      obtain ⟨q1, _⟩ := hSw
      have hs1 := q1.cell 0
      have hs2 := q1.cell 1
      go_simp
      try with_reducible rfl
    try simp only [Act.put, List.setIfInBounds_toArray, List.set_cons_zero, List.set_cons_succ, List.getElem_toArray, List.getElem_cons_succ, List.getElem_cons_zero]
    refine wpAnyH_take (i := 7) (v := ?_) rfl (by kernel_rfl) (by kernel_rfl) (by kernel_rfl) (fun _ _ _ h => h) (Or.inl ⟨by rfl, ?_⟩) hHeld ?_
    rotate_left
    · intro W hSw
      obtain ⟨q1, _⟩ := hSw
      have hs1 := q1.cell 0
      have hs2 := q1.cell 1
      go_simp
      try with_reducible rfl
    try simp only [Act.put, List.setIfInBounds_toArray, List.set_cons_zero, List.set_cons_succ, List.getElem_toArray, List.getElem_cons_succ, List.getElem_cons_zero]
    refine wpAnyH_ready (rs := [8, 9]) (by kernel_rfl) (by simp) ?_
    refine AllReadyH.cons rfl (fun K hK => ?_) (AllReadyH.cons rfl (fun K hK => ?_) AllReadyH.nil)
    · go_simp
      refine (HN.out _ (HW.out.below hHeld.2)).mono ?_
      rintro e w1 ⟨rfl, hb⟩
      have HB := Lib.hid hb
      refine hK.out _ _ ?_ (fun hHeld => ?_)
      · exact ⟨hHeld.1.on hb, hHeld.2.trans (hb.mono hHeld.2.size)⟩
      clear hK K
      try simp only [Act.put, List.setIfInBounds_toArray, List.set_cons_zero, List.set_cons_succ, List.getElem_toArray, List.getElem_cons_succ, List.getElem_cons_zero]
      have hsz := hHeld.2.size
      have hbl := hHeld.1.lt
      have HE := Lib.hid hHeld
      refine wpAnyH_ready (rs := [9]) (by kernel_rfl) (by simp) ?_
      refine AllReadyH.cons rfl (fun K hK => ?_) AllReadyH.nil
      go_simp
      refine hK.out _ _ ?_ (fun hHeld => ?_)
      · exact ⟨hHeld.1.alloc _, hHeld.2.alloc hHeld.2.size _⟩
      clear hK K
      try simp only [Act.put, List.setIfInBounds_toArray, List.set_cons_zero, List.set_cons_succ, List.getElem_toArray, List.getElem_cons_succ, List.getElem_cons_zero]
      have HC := Lib.hid (Blk.new w1 35 #[.string ⟨#[]⟩, .int .i64 0, .int .i64 0])
      refine wpAnyH_ready (rs := [10]) (by kernel_rfl) (by simp) ?_
      refine AllReadyH.cons rfl (fun K hK => ?_) AllReadyH.nil
      have hc0 := HC.out.cell 0
      have hc1 := HC.out.cell 1
      have hc2 := HC.out.cell 2
      have hfr := HC.out.free
      have hlt := HC.out.lt
      have hne := ne_of (b := b) HC.out (by omega)
      have hle := le_of (n := w.heap.size) HC.out (by omega)
      go_simp
      refine hK.out _ _ ?_ (fun hHeld => ?_)
      · exact ⟨HE.out.1.alloc _, HE.out.2.alloc HE.out.2.size _⟩
      clear hK K
      try simp only [Act.put, List.setIfInBounds_toArray, List.set_cons_zero, List.set_cons_succ, List.getElem_toArray, List.getElem_cons_succ, List.getElem_cons_zero]
      refine wpAnyH_done (by kernel_rfl) ?_ _
      go_wp2_with fail
      go_meet
      exact ⟨_, rfl, hne, hle, Blk.new w1 35 #[.string x0, .int .i64 x1, .int .i64 x2], hHeld.1, hHeld.2⟩
    · have hsz := hHeld.2.size
      have hbl : b < w.heap.size := HX.out.lt
      go_simp
      refine hK.out _ _ ?_ (fun hHeld => ?_)
      · exact ⟨hHeld.1.alloc _, hHeld.2.alloc hHeld.2.size _⟩
      clear hK K
      try simp only [Act.put, List.setIfInBounds_toArray, List.set_cons_zero, List.set_cons_succ, List.getElem_toArray, List.getElem_cons_succ, List.getElem_cons_zero]
      refine wpAnyH_ready (rs := [8]) (by kernel_rfl) (by simp) ?_
      refine AllReadyH.cons rfl (fun K hK => ?_) AllReadyH.nil
      go_simp
      refine (HN.out _ (HW.out.below hHeld.2)).mono ?_
      rintro e w1 ⟨rfl, hb⟩
      have HC : Hid (Blk w1 w.heap.size 35 #[.string ⟨#[]⟩, .int .i64 0, .int .i64 0]) := Lib.hid ((Blk.new (World.drew w) 35 #[.string ⟨#[]⟩, .int .i64 0, .int .i64 0]).on hb)
      refine hK.out _ _ ?_ (fun hHeld => ?_)
      · exact ⟨hHeld.1.on hb, hHeld.2.trans (hb.mono hHeld.2.size)⟩
      clear hK K
      try simp only [Act.put, List.setIfInBounds_toArray, List.set_cons_zero, List.set_cons_succ, List.getElem_toArray, List.getElem_cons_succ, List.getElem_cons_zero]
      refine wpAnyH_ready (rs := [10]) (by kernel_rfl) (by simp) ?_
      refine AllReadyH.cons rfl (fun K hK => ?_) AllReadyH.nil
      have hc0 := HC.out.cell 0
      have hc1 := HC.out.cell 1
      have hc2 := HC.out.cell 2
      have hfr := HC.out.free
      have hlt := HC.out.lt
      have hne := ne_of (b := b) HC.out (by omega)
      have hle := le_of (n := w.heap.size) HC.out (by omega)
      go_simp
      refine hK.out _ _ ?_ (fun hHeld => ?_)
      · exact ⟨other3 hHeld.1 hne, below3 hHeld.2 hle⟩
      clear hK K
      try simp only [Act.put, List.setIfInBounds_toArray, List.set_cons_zero, List.set_cons_succ, List.getElem_toArray, List.getElem_cons_succ, List.getElem_cons_zero]
      refine wpAnyH_done (by kernel_rfl) ?_ _
      go_wp2_with fail
      go_meet
      exact ⟨_, rfl, hne, hle, ((HC.out.set 0 _ rfl).set 1 _ rfl).set 2 _ rfl, hHeld.1, hHeld.2⟩
  case rest =>
    obtain ⟨c, rfl, hbc, hwc, hC, hR, hB⟩ := hcut
    have hcb : c ≠ b := fun e => hbc e.symm
    have hc0 : wc.cell? ⟨c, 0, none⟩ = some (.string x0) := hC.cell 0
    have hc1 : wc.cell? ⟨c, 1, none⟩ = some (.int .i64 x1) := hC.cell 1
    have hb1 : wc.cell? ⟨b, 1, none⟩ = some (.int .i64 a) := hR.cell 1
    have hfb := hR.free
    have hlb := hR.lt
    have HC := Lib.hid hC
    have HR := Lib.hid hR
    have HB := Lib.hid hB
    clear hC hR hB
    go_wp2_with fail
    go_ret
    exact ⟨rfl, HR.out.set 1 _ rfl, Src.grown_set ⟨HB.out.os, HB.out.tape, HB.out.output, HB.out.size, fun k hk _ => HB.out.block k hk⟩ 1 _⟩

end Go.Proofs.YtkmlnibkdcdegaaGreatDoor.Rec
