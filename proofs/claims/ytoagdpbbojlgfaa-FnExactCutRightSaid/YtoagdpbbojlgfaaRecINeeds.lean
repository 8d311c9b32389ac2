/-
  What a record needs: spec.Needs, impl.Needs.
-/
import Derived.Test.YtoagdpbbojlgfaaRecDel2
namespace Go.Proofs.Ytoagdpbbojlgfaa.Rec
open Go.ChangeShapes Go.WideShapes Go.ChangeAt Go.RowKit
open Dep (D I putV flat joinV depsB clockV)
set_option linter.unusedVariables false
set_option maxRecDepth 100000
set_option linter.unusedSimpArgs false

/-- What Needs answers. -/
noncomputable def needsR (r : R) : List D := if recB r = true then needs r.l r.b r.k r.i else []
theorem needsR_no {r : R} (h : recB r = false) : needsR r = [] := by unfold needsR; rw [h]; rfl
theorem needsR_ok {r : R} (h : RecOk r) : needsR r = needs r.l r.b r.k r.i := by unfold needsR; rw [if_pos (recB_true h)]
theorem needsR_len (r : R) : (needsR r).length ≤ 6 := by
  cases e : recB r
  · rw [needsR_no e]; simp
  · have h := rec_of e
    rw [needsR_ok h]
    exact ((both_le h.2.2.2.2.1 h.2.2.2.2.2.1 h.2.1).2 h.2.2.2.2.2.2.2).1
/-- What a call hands back: a list in a row of its own. -/
def Gives (w : World) (e : Ending) (w' : World) (l : List D) : Prop := ∃ A cap, e = .returned (.slice A l.length cap) ∧ Dep.Held w' A l w.heap.size w'.heap.size ∧ Below w.heap.size w w'

set_option maxHeartbeats 2000000 in
theorem implNeeds_any (r : R) (p : P) (w : World) (h : Lies w w.heap.size r p) (hs : Sound r) :
    Calls Try.prog 31 #[recV r p] w fun e w' => Gives w e w' (needsR r) := by
  have HRC := Lib.hid (fun W (hW : Below w.heap.size w W) => implRec_any r p W (h.step hW (Nat.le_refl _) hW.size) hs)
  have HBU := Lib.hid (fun (hb4 : r.b.length ≤ 4) W (hW : Below w.heap.size w W) => bundled_any r p W (h.step hW (Nat.le_refl _) hW.size) (by omega))
  have HJ := Lib.hid (fun (hl : depsB r.l = true) (hb : depsB (others r.b r.k r.i) = true) (A : Option Addr) (c : Nat) W (hW : Below w.heap.size w W) (hL : Dep.Lies W W.heap.size A (others r.b r.k r.i)) => all2_any p.A A r.l (others r.b r.k r.i) p.ca c W ((h.1.below hW (Nat.le_refl _)).more hW.size) hL hl hb)
  have HB := Lib.hid ((Below.refl w.heap.size w).alloc (Nat.le_refl _) (.cells (cellsV r p) 47))
  have HX := Lib.hid (Blk.new w 47 (cellsV r p))
  clear h hs
  unfold recV at *
  cases er : recB r
  · rw [er] at HRC
    rw [needsR_no er]
    clear er
    go_enter Try.func31, Try.ntmps31
    go_wp2_with fail
    refine (HRC.out _ HB.out).mono ?_
    rintro e w1 ⟨rfl, hb1⟩
    have HB := Lib.hid (HB.out.trans (hb1.mono HB.out.size))
    clear hb1
    go_wp2_with fail
    go_ret
    exact ⟨none, 0, rfl, .inl ⟨rfl, rfl⟩, HB.out⟩
  have ho := rec_of er
  rw [er] at HRC
  rw [needsR_ok ho]
  have hk := keys_of ho.2.2.2.2.2.1
  have hno := needs_ok ho.2.2.2.2.1 ho.2.2.2.2.2.1 ho.2.1 ho.2.2.2.2.2.2.2
  have HBU := Lib.hid (HBU.out hk.1)
  have HJ := Lib.hid (HJ.out ho.2.2.2.2.1 hno.2)
  have hn6 : ¬ 6 < (joinV r.l (others r.b r.k r.i)).length := by have := (Dep.ok_of hno.1).1; unfold needs at this; omega
  simp only [if_neg hn6] at HJ
  have HQ := Lib.hid (show ∃ d ∈ bun r.b r.i, d.k = r.k from ⟨⟨r.k, r.i⟩, List.mem_map.2 ⟨r.k, hk.2.2.2, rfl⟩, rfl⟩)
  have HBL := Lib.hid (bun_length r.b r.i)
  have hb4 := hk.1
  have HKO := Lib.hid (show kept (bun r.b r.i) r.k (bun r.b r.i).length = others r.b r.k r.i from kept_all)
  clear er ho hk hno hn6
  unfold Dep.twoObj at HJ
  go_enter Try.func31, Try.ntmps31
  go_wp2_with fail
  refine (HRC.out _ HB.out).mono ?_
  rintro e w1 ⟨rfl, hb1⟩
  have HB := Lib.hid (HB.out.trans (hb1.mono HB.out.size))
  have HX := Lib.hid (HX.out.on hb1)
  clear hb1
  obtain ⟨x0, x1, x2, x3, x4, x5, x6, x7⟩ := cells8 HX.out
  go_wp2_with fail
  refine (HBU.out _ HB.out).mono ?_
  rintro e w2 ⟨A, c, rfl, hlc, hown, hL, hb2⟩
  have HB2 := Lib.hid (HB.out.trans (hb2.mono HB.out.size))
  have HX2 := Lib.hid (HX.out.on hb2)
  have hhd := Dep.Held.of_own hown
  have hcm : c ≤ 9223372036854775807 := by
    rcases hown.2 with ⟨e1, e2⟩ | ⟨g, cap, cur, e1, _, _, _, hm, _⟩
    · unfold Dep.slV at e1; injection e1 with _ _ e3; omega
    · unfold Dep.slV at e1; injection e1 with _ _ e3; unfold maxLen at hm; omega
  have hne : bun r.b r.i ≠ [] := by obtain ⟨d, hd, _⟩ := HQ.out; exact List.ne_nil_of_mem hd
  rcases hhd with ⟨rfl, h0⟩ | ⟨g, rfl, hrow, hlo, hhi⟩
  · exact absurd h0 hne
  have hbx : w.heap.size ≠ g := by have := HX.out.lt; omega
  have HDF := Lib.hid (deleteFunc_any g (bun r.b r.i) c r p w.heap.size w2 hrow hlc (by rw [HBL.out]; omega) hcm hbx HX2.out HQ.out)
  have hwg : w.heap.size ≤ g := by have := HB.out.size; omega
  clear hown hL hb2 hne hrow hhi hlo hlc x0 x1 x2 x3 x4 x5 x6 x7
  unfold Dep.slV
  go_wp2_with fail
  refine HDF.out.mono ?_
  rintro e w3 ⟨rfl, hL3, hg3⟩
  have HB3 := Lib.hid (HB2.out.grown hg3 HB2.out.size (fun k e => by cases e; exact hwg))
  have HX3 := Lib.hid (show Blk w3 w.heap.size 47 (cellsV r p) from (hg3.block _ HX2.out.lt (fun e => hbx (Option.some.inj e))).trans HX2.out)
  rw [HKO.out] at hL3
  rw [HKO.out]
  have hJ := HJ.out _ c w3 HB3.out hL3
  have HJ3 := Lib.hid hJ
  clear hL3 hg3 hJ hbx hcm
  obtain ⟨x0, x1, x2, x3, x4, x5, x6, x7⟩ := cells8 HX3.out
  go_wp2_with fail
  refine HJ3.out.mono ?_
  rintro e w4 ⟨A2, c2, rfl, ho4, hc4, hL4, hb4⟩
  have HB4 := Lib.hid ((HB3.out.alloc HB3.out.size (Obj.cells #[Value.slice p.A r.l.length p.ca, Value.slice (some ⟨g, 0, none⟩) (others r.b r.k r.i).length c] 38)).trans (hb4.mono (by have := HB3.out.size; simp; omega)))
  have HH := Lib.hid ((Dep.Held.of_own ho4).wide (lo' := w.heap.size) (by have := HB3.out.size; simp; omega) (Nat.le_refl _))
  have hfd := fun n k V => field_deps A2 n c2 k V
  unfold Dep.outV Dep.slV
  clear ho4 hc4 hL4 hb4
  go_wp2_with fail
  go_ret
  exact ⟨A2, c2, rfl, HH.out, HB4.out⟩
end Go.Proofs.Ytoagdpbbojlgfaa.Rec
