/-
  A record's text read again: impl.RecRead.
-/
import Derived.Test.YtkmlnibkdcdegaaGreatDoorRecNextR
import Derived.Test.YtkmlnibkdcdegaaGreatDoorRecIBytes
import Derived.Test.YtkmlnibkdcdegaaGreatDoorPackSeal
namespace Go.Proofs.YtkmlnibkdcdegaaGreatDoor.Rec
open Go.ChangeShapes Go.WideShapes Go.ChangeAt Go.RowKit
open Dep (D I)
set_option linter.unusedVariables false
set_option maxRecDepth 100000
set_option linter.unusedSimpArgs false

/-- A record that nothing was read into. -/
def zeroR : R := ⟨⟨#[]⟩, ⟨0, 0, 0⟩, ⟨#[]⟩, false, [], []⟩
def outR (r : R) (p : P) (c : Int) : Value := .agg #[.string r.k, .int .i64 r.i.c, .int .i64 r.i.s, .int .i64 r.i.e, .string r.d, .bool r.g, .slice p.A r.l.length p.ca, .slice p.B r.b.length p.cb, .int .i64 c]
/-- What RecRead answers: the record, the code. -/
noncomputable def rdR (s : ByteArray) : R := if Seal.unC s = 0 ∧ bytesV (rR (Seal.unT s) 0) = s then rR (Seal.unT s) 0 else zeroR
noncomputable def rdC (s : ByteArray) : Int := if Seal.unC s = 0 then (if bytesV (rR (Seal.unT s) 0) = s then 0 else 3) else Seal.unC s
def Reads (w : World) (r : R) (c : Int) (e : Ending) (w' : World) : Prop :=
  ∃ p, e = .returned (outR r p c) ∧ Held w' r p w.heap.size w'.heap.size ∧ r.l.length ≤ p.ca ∧ r.b.length ≤ p.cb ∧ Below w.heap.size w w'
theorem reads_zero {w W : World} {c : Int} (h : Below w.heap.size w W) : Reads w zeroR c (.returned (outR zeroR ⟨none, 0, none, 0⟩ c)) W := ⟨⟨none, 0, none, 0⟩, rfl, ⟨.inl ⟨rfl, rfl⟩, .inl ⟨rfl, rfl⟩⟩, by simp [zeroR], by simp [zeroR], h⟩
theorem reads_touch {w w1 W : World} {c : Int} (t : Touch w.heap.size w1 W) (h : Below w.heap.size w w1) : Reads w zeroR c (.returned (outR zeroR ⟨none, 0, none, 0⟩ c)) W := reads_zero (t.below h (Nat.le_refl _))
theorem reads_alloc {w w1 W : World} {c : Int} (t : Touch w.heap.size w1 W) (h : Below w.heap.size w w1) (o : Obj) : Reads w zeroR c (.returned (outR zeroR ⟨none, 0, none, 0⟩ c)) (W.alloc o) := reads_zero ((t.below h (Nat.le_refl _)).alloc (by rw [t.size]; exact h.size) o)
theorem reads_rec {w w3 W : World} {r : R} {p : P} {x y : Nat} (t : Touch w.heap.size w3 W) (hx : w.heap.size < x) (hy : y ≤ w3.heap.size) (h : Held w3 r p x y) (h1 : r.l.length ≤ p.ca) (h2 : r.b.length ≤ p.cb) (hb : Below w.heap.size w w3) : Reads w r 0 (.returned (outR r p 0)) W :=
  ⟨p, rfl, ⟨(h.1.keep (fun k a b c => t.block k (by omega))).wide (by omega) (by rw [t.size]; exact hy), (h.2.keep (fun k a b c => t.block k (by omega))).wide (by omega) (by rw [t.size]; exact hy)⟩, h1, h2, t.below hb (Nat.le_refl _)⟩
theorem rDs_sizes (s : ByteArray) (a : Int) : ∀ k, ∀ d ∈ (rDs s k a).1, d.k.size ≤ 8000 := by
  intro k
  induction k with
  | zero => intro d hd; cases hd
  | succ k ih =>
    intro d hd
    simp only [rDs, List.mem_append, List.mem_singleton] at hd
    rcases hd with hd | rfl
    · exact ih d hd
    · exact (gt_all s _).1
theorem rKs_sizes (s : ByteArray) (a : Int) : ∀ k, ∀ x ∈ (rKs s k a).1, x.size ≤ 8000 := by
  intro k
  induction k with
  | zero => intro d hd; cases hd
  | succ k ih =>
    intro d hd
    simp only [rKs, List.mem_append, List.mem_singleton] at hd
    rcases hd with hd | rfl
    · exact ih d hd
    · exact (gt_all s _).1
theorem many_le (n : Int) (m : Nat) : many n m ≤ m := by unfold many; omega
theorem rR_sound (s : ByteArray) (a : Int) : Sound (rR s a) := by
  have e : 8000 ≤ maxLen := by unfold maxLen; omega
  refine ⟨Nat.le_trans (gt_all s _).1 e, Nat.le_trans (gt_all s _).1 e, ?_, fun d hd => Nat.le_trans (rDs_sizes s _ _ d hd) e, ?_, fun x hx => Nat.le_trans (rKs_sizes s _ _ x hx) e⟩
  · unfold rR
    simp only
    rw [(rDs_place s _ (rN_place s _) _).1]
    exact Nat.le_trans (many_le _ _) (by unfold maxLen; omega)
  · unfold rR
    simp only
    rw [(rKs_place s _ (rN_place s _) _).1]
    exact Nat.le_trans (many_le _ _) (by unfold maxLen; omega)

set_option maxHeartbeats 8000000 in
theorem implRead_any (s : ByteArray) (w : World) (hs : s.size ≤ maxLen) (hw : Gn.Handle w) :
    Calls Tryz.prog 5 #[.string s] w (Reads w (rdR s) (rdC s)) := by
  have hp := hw.pos
  have HU := Lib.hid (fun W => Seal.implUnseal_any s W hs)
  unfold Seal.unV at HU
  have hts : (Seal.unT s).size ≤ maxLen := by
    unfold Seal.unT; split
    · rw [Seal.bodyOf_size]; omega
    · exact Nat.zero_le _
  have HB0 := Lib.hid ((Below.refl w.heap.size w).alloc (Nat.le_refl _) (.cells #[.string ⟨#[]⟩, .int .i64 0, .int .i64 0, .int .i64 0, .string ⟨#[]⟩, .bool false, .slice none 0 0, .slice none 0 0, .int .i64 0] 29))
  have HC0 := Lib.hid (Blk.new w 29 #[.string ⟨#[]⟩, .int .i64 0, .int .i64 0, .int .i64 0, .string ⟨#[]⟩, .bool false, .slice none 0 0, .slice none 0 0, .int .i64 0])
  have HW0 := Lib.hid (hw.alloc (.cells #[.string ⟨#[]⟩, .int .i64 0, .int .i64 0, .int .i64 0, .string ⟨#[]⟩, .bool false, .slice none 0 0, .slice none 0 0, .int .i64 0] 29))
  have HS := Lib.hid (rR_sound (Seal.unT s) 0)
  have HN := Lib.hid (fun b W h hw hb => nextRec_any b (Seal.unT s) 0 W h hts (by omega) (by omega) hw hb)
  unfold rdR rdC
  clear hw
  generalize rR (Seal.unT s) 0 = r at *
  generalize Seal.unT s = body at *
  generalize Seal.unC s = c at *
  have HBY := Lib.hid (fun p W h => implBytes_any r p W h HS.out)
  clear HS
  by_cases hc : c = 0
  · subst hc
    by_cases hq : bytesV r = s
    · rw [if_pos ⟨rfl, hq⟩, if_pos rfl, if_pos hq]
      rw [hq] at HBY
      clear hq
      go_enter Tryz.func5, Tryz.ntmps5
      go_wp2_with fail
      refine (HU.out _).mono ?_
      rintro e w1 ⟨rfl, hb⟩
      have HB1 := Lib.hid (HB0.out.trans (hb.mono HB0.out.size))
      have HC1 := Lib.hid (HC0.out.on hb)
      have HW1 := Lib.hid (HW0.out.below hb)
      have hz1 : w.heap.size < w1.heap.size := HC1.out.lt
      clear hb
      have HX := Lib.hid (Blk.new (w1.alloc (.cells #[.string body, .int .i64 0, .int .i64 0] 35)) 47 #[.string body, .int .i64 0])
      have HW2 := Lib.hid ((HW1.out.alloc (.cells #[.string body, .int .i64 0, .int .i64 0] 35)).alloc (.cells #[.string body, .int .i64 0] 47))
      have HB2 := Lib.hid ((HB1.out.alloc HB1.out.size (.cells #[.string body, .int .i64 0, .int .i64 0] 35)).alloc (by have := HB1.out.size; simp; omega) (.cells #[.string body, .int .i64 0] 47))
      have HC2 := Lib.hid ((HC1.out.alloc (.cells #[.string body, .int .i64 0, .int .i64 0] 35)).alloc (.cells #[.string body, .int .i64 0] 47))
      rw [show (w1.alloc (.cells #[.string body, .int .i64 0, .int .i64 0] 35)).heap.size = w1.heap.size + 1 by simp] at HX
      go_wp2_with fail
      refine (HN.out (w1.heap.size + 1) _ HX.out HW2.out (by omega)).mono ?_
      rintro e w2 ⟨p, rfl, hh, hl1, hl2, hg⟩
      have HB3 := Lib.hid (HB2.out.trans (Src.below_of_grown hg (by omega) HX.out.lt))
      have HC3 := Lib.hid (blk_grown hg HC2.out (by omega))
      have HH := Lib.hid hh
      clear hh hg HX HW1 HW2 HB1 HB2 HC1 HC2
      have HB4 := Lib.hid (HB3.out.alloc HB3.out.size (.cells (cellsV r p) 27))
      have HC4 := Lib.hid (HC3.out.alloc (.cells (cellsV r p) 27))
      have HX4 := Lib.hid (Blk.new w2 27 (cellsV r p))
      have HH4 := Lib.hid (HH.out.step ((Below.refl w2.heap.size w2).alloc (Nat.le_refl _) (.cells (cellsV r p) 27)) (.inr (Nat.le_refl _)))
      have HL4 := Lib.hid (HH4.out.lies (show w2.heap.size ≤ (w2.alloc (.cells (cellsV r p) 27)).heap.size by simp))
      unfold recV
      unfold recV at HBY
      go_wp2_with fail
      refine (HBY.out p _ HL4.out).mono ?_
      rintro e w3 ⟨rfl, hb⟩
      have HB5 := Lib.hid (HB4.out.trans (hb.mono HB4.out.size))
      have HC5 := Lib.hid (HC4.out.on hb)
      have HX5 := Lib.hid (HX4.out.on hb)
      have HH5 := Lib.hid (HH4.out.step hb (.inr (by simp)))
      have hz3 : w2.heap.size ≤ w3.heap.size := by have := hb.size; simp at this; omega
      clear hb HB3 HC3 HH HB4 HC4 HX4 HH4 HL4
      have hc0 : w3.cell? ⟨w.heap.size, 0, none⟩ = some (.string ⟨#[]⟩) := HC5.out.cell 0
      have hc1 : w3.cell? ⟨w.heap.size, 1, none⟩ = some (.int .i64 0) := HC5.out.cell 1
      have hc2 : w3.cell? ⟨w.heap.size, 2, none⟩ = some (.int .i64 0) := HC5.out.cell 2
      have hc3 : w3.cell? ⟨w.heap.size, 3, none⟩ = some (.int .i64 0) := HC5.out.cell 3
      have hc4 : w3.cell? ⟨w.heap.size, 4, none⟩ = some (.string ⟨#[]⟩) := HC5.out.cell 4
      have hc5 : w3.cell? ⟨w.heap.size, 5, none⟩ = some (.bool false) := HC5.out.cell 5
      have hc6 : w3.cell? ⟨w.heap.size, 6, none⟩ = some (.slice none 0 0) := HC5.out.cell 6
      have hc7 : w3.cell? ⟨w.heap.size, 7, none⟩ = some (.slice none 0 0) := HC5.out.cell 7
      have hc8 : w3.cell? ⟨w.heap.size, 8, none⟩ = some (.int .i64 0) := HC5.out.cell 8
      have hcf := HC5.out.free
      have hcl := HC5.out.lt
      obtain ⟨x0, x1, x2, x3, x4, x5, x6, x7⟩ := cells8 HX5.out
      have hxl := HX5.out.lt
      have hxf := HX5.out.free
      have e1 : (s.toList == s.toList) = true := beq_self_eq_true _
      have e2 : (s.toList != s.toList) = false := by simp
      go_wp2_with fail
      refine bodyPost_ret (v := outR r p 0) (by simp [results, Tryz.results5, go_sem, hc0, hc1, hc2, hc3, hc4, hc5, hc6, hc7, hc8, hcl, outR, zeroR]) rfl ?_
      exact reads_rec (((((((((Touch.refl _ w3).set 0 _).set 1 _).set 2 _).set 3 _).set 4 _).set 5 _).set 6 _ |>.set 7 _).set 8 _) (by simp; omega) hz3 HH5.out hl1 hl2 HB5.out
    · rw [if_neg (fun h => hq h.2), if_pos rfl, if_neg hq]
      generalize bytesV r = y at *
      go_enter Tryz.func5, Tryz.ntmps5
      go_wp2_with fail
      refine (HU.out _).mono ?_
      rintro e w1 ⟨rfl, hb⟩
      have HB1 := Lib.hid (HB0.out.trans (hb.mono HB0.out.size))
      have HC1 := Lib.hid (HC0.out.on hb)
      have HW1 := Lib.hid (HW0.out.below hb)
      have hz1 : w.heap.size < w1.heap.size := HC1.out.lt
      clear hb
      have HX := Lib.hid (Blk.new (w1.alloc (.cells #[.string body, .int .i64 0, .int .i64 0] 35)) 47 #[.string body, .int .i64 0])
      have HW2 := Lib.hid ((HW1.out.alloc (.cells #[.string body, .int .i64 0, .int .i64 0] 35)).alloc (.cells #[.string body, .int .i64 0] 47))
      have HB2 := Lib.hid ((HB1.out.alloc HB1.out.size (.cells #[.string body, .int .i64 0, .int .i64 0] 35)).alloc (by have := HB1.out.size; simp; omega) (.cells #[.string body, .int .i64 0] 47))
      have HC2 := Lib.hid ((HC1.out.alloc (.cells #[.string body, .int .i64 0, .int .i64 0] 35)).alloc (.cells #[.string body, .int .i64 0] 47))
      rw [show (w1.alloc (.cells #[.string body, .int .i64 0, .int .i64 0] 35)).heap.size = w1.heap.size + 1 by simp] at HX
      go_wp2_with fail
      refine (HN.out (w1.heap.size + 1) _ HX.out HW2.out (by omega)).mono ?_
      rintro e w2 ⟨p, rfl, hh, hl1, hl2, hg⟩
      have HB3 := Lib.hid (HB2.out.trans (Src.below_of_grown hg (by omega) HX.out.lt))
      have HC3 := Lib.hid (blk_grown hg HC2.out (by omega))
      have HH := Lib.hid hh
      clear hh hg HX HW1 HW2 HB1 HB2 HC1 HC2
      have HB4 := Lib.hid (HB3.out.alloc HB3.out.size (.cells (cellsV r p) 27))
      have HC4 := Lib.hid (HC3.out.alloc (.cells (cellsV r p) 27))
      have HX4 := Lib.hid (Blk.new w2 27 (cellsV r p))
      have HH4 := Lib.hid (HH.out.step ((Below.refl w2.heap.size w2).alloc (Nat.le_refl _) (.cells (cellsV r p) 27)) (.inr (Nat.le_refl _)))
      have HL4 := Lib.hid (HH4.out.lies (show w2.heap.size ≤ (w2.alloc (.cells (cellsV r p) 27)).heap.size by simp))
      unfold recV
      unfold recV at HBY
      go_wp2_with fail
      refine (HBY.out p _ HL4.out).mono ?_
      rintro e w3 ⟨rfl, hb⟩
      have HB5 := Lib.hid (HB4.out.trans (hb.mono HB4.out.size))
      have HC5 := Lib.hid (HC4.out.on hb)
      have HX5 := Lib.hid (HX4.out.on hb)
      have HH5 := Lib.hid (HH4.out.step hb (.inr (by simp)))
      have hz3 : w2.heap.size ≤ w3.heap.size := by have := hb.size; simp at this; omega
      clear hb HB3 HC3 HH HB4 HC4 HX4 HH4 HL4
      have e1 : (y.toList == s.toList) = false := Seal.str_ne hq
      have e2 : (y.toList != s.toList) = true := by simp [bne, e1]
      have hc0 : w3.cell? ⟨w.heap.size, 0, none⟩ = some (.string ⟨#[]⟩) := HC5.out.cell 0
      have hc1 : w3.cell? ⟨w.heap.size, 1, none⟩ = some (.int .i64 0) := HC5.out.cell 1
      have hc2 : w3.cell? ⟨w.heap.size, 2, none⟩ = some (.int .i64 0) := HC5.out.cell 2
      have hc3 : w3.cell? ⟨w.heap.size, 3, none⟩ = some (.int .i64 0) := HC5.out.cell 3
      have hc4 : w3.cell? ⟨w.heap.size, 4, none⟩ = some (.string ⟨#[]⟩) := HC5.out.cell 4
      have hc5 : w3.cell? ⟨w.heap.size, 5, none⟩ = some (.bool false) := HC5.out.cell 5
      have hc6 : w3.cell? ⟨w.heap.size, 6, none⟩ = some (.slice none 0 0) := HC5.out.cell 6
      have hc7 : w3.cell? ⟨w.heap.size, 7, none⟩ = some (.slice none 0 0) := HC5.out.cell 7
      have hc8 : w3.cell? ⟨w.heap.size, 8, none⟩ = some (.int .i64 0) := HC5.out.cell 8
      have hcf := HC5.out.free
      have hcl := HC5.out.lt
      go_wp2_with fail
      refine bodyPost_ret (v := outR zeroR ⟨none, 0, none, 0⟩ 3) (by simp [results, Tryz.results5, go_sem, hc0, hc1, hc2, hc3, hc4, hc5, hc6, hc7, hc8, hcl, outR, zeroR]) rfl ?_
      exact reads_touch (((((((((Touch.refl _ w3).set 0 _).set 1 _).set 2 _).set 3 _).set 4 _).set 5 _).set 6 _ |>.set 7 _).set 8 _) HB5.out
  · rw [if_neg (fun h => hc h.1), if_neg hc]
    go_enter Tryz.func5, Tryz.ntmps5
    go_wp2_with fail
    refine (HU.out _).mono ?_
    rintro e w1 ⟨rfl, hb⟩
    have HB1 := Lib.hid (HB0.out.trans (hb.mono HB0.out.size))
    have HC1 := Lib.hid (HC0.out.on hb)
    clear hb
    have k1 : (c == 0) = false := beq_eq_false_iff_ne.2 hc
    have k2 : (c != 0) = true := bne_iff_ne.2 hc
    have hc0 : w1.cell? ⟨w.heap.size, 0, none⟩ = some (.string ⟨#[]⟩) := HC1.out.cell 0
    have hc1 : w1.cell? ⟨w.heap.size, 1, none⟩ = some (.int .i64 0) := HC1.out.cell 1
    have hc2 : w1.cell? ⟨w.heap.size, 2, none⟩ = some (.int .i64 0) := HC1.out.cell 2
    have hc3 : w1.cell? ⟨w.heap.size, 3, none⟩ = some (.int .i64 0) := HC1.out.cell 3
    have hc4 : w1.cell? ⟨w.heap.size, 4, none⟩ = some (.string ⟨#[]⟩) := HC1.out.cell 4
    have hc5 : w1.cell? ⟨w.heap.size, 5, none⟩ = some (.bool false) := HC1.out.cell 5
    have hc6 : w1.cell? ⟨w.heap.size, 6, none⟩ = some (.slice none 0 0) := HC1.out.cell 6
    have hc7 : w1.cell? ⟨w.heap.size, 7, none⟩ = some (.slice none 0 0) := HC1.out.cell 7
    have hc8 : w1.cell? ⟨w.heap.size, 8, none⟩ = some (.int .i64 0) := HC1.out.cell 8
    have hcf := HC1.out.free
    have hcl := HC1.out.lt
    go_wp2_with fail
    refine bodyPost_ret (v := outR zeroR ⟨none, 0, none, 0⟩ c) (by simp [results, Tryz.results5, go_sem, hc0, hc1, hc2, hc3, hc4, hc5, hc6, hc7, hc8, hcl, outR, zeroR]) rfl ?_
    exact reads_alloc (((((((((Touch.refl _ w1).set 0 _).set 1 _).set 2 _).set 3 _).set 4 _).set 5 _).set 6 _ |>.set 7 _).set 8 _) HB1.out _
end Go.Proofs.YtkmlnibkdcdegaaGreatDoor.Rec
