/-
  FnExactClosed answers true at every slice of records.
-/
import Derived.Test.YtegnjbdgeibhfaaRsI
import Derived.Test.YtegnjbdgeibhfaaRsS
import Derived.Test.YtegnjbdgeibhfaaRsOpen
namespace Go.Proofs.Ytegnjbdgeibhfaa.Rs
open Go.ChangeShapes Go.WideShapes Go.ChangeAt Go.RowKit
open Rec (R P Sound Small recV cellsV)
set_option linter.unusedVariables false
set_option maxRecDepth 100000

set_option maxHeartbeats 4000000 in
set_option maxRecDepth 100000 in
theorem lawClosed_any (A : Option Addr) (l : List Q) (cap : Nat) (w : World) (h : IsRecs w A l) :
    Calls Try.prog 5 #[.slice A l.length cap] w fun e w' => e = .returned (.bool true) ∧ Below w.heap.size w w' := by
  obtain ⟨h, hlm, hs⟩ := h
  have H := Lib.hid h
  have HK := Lib.hid hs
  clear h hs
  go_enter Try.func5, Try.ntmps5
  go_wp2_with fail
  refine (szRecS_any A l cap 1048576 w H.out hlm HK.out (by omega) (by omega)).mono ?_
  rintro e w1 ⟨r, rfl, hr, hb1⟩
  have B1 := Lib.hid hb1
  clear hb1
  rcases hr with rfl | ⟨hr0, hr1, hr2, hr3⟩
  · go_wp2_with fail
    go_ret
    exact ⟨rfl, B1.out⟩
  have hl0 : l.length ≤ 1048576 := by omega
  have hr00 : ¬ r < 0 := by omega
  have HL0 := Lib.hid (show ∀ q ∈ l, q.r.l.length ≤ 1048576 ∧ q.r.b.length ≤ 1048576 from fun q hq => by
    have := hr3 q hq
    exact ⟨by have := this.2.2.1; omega, by have := this.2.2.2.2.1; omega⟩)
  clear hr3
  have HP := Lib.hid (fun (l' : List Q) (e : pr l' = pr l) => (show l'.length = l.length ∧ (∀ q ∈ l', Sound q.r) ∧ ∀ q ∈ l', q.r.l.length ≤ maxLen ∧ q.r.b.length ≤ maxLen from by
    have hm : ∀ q ∈ l', ∃ x ∈ l, q.r = x.r := fun q hq => by
      have : q.r ∈ pr l' := List.mem_map.2 ⟨q, hq, rfl⟩
      rw [e] at this
      obtain ⟨x, hx, e2⟩ := List.mem_map.1 this
      exact ⟨x, hx, e2.symm⟩
    refine ⟨by have := congrArg List.length e; simpa [pr_len] using this, fun q hq => ?_, fun q hq => ?_⟩
    · obtain ⟨x, hx, e2⟩ := hm q hq
      rw [e2]; exact HK.out x hx
    · obtain ⟨x, hx, e2⟩ := hm q hq
      rw [e2]; have := HL0.out x hx; unfold maxLen; omega))
  go_wp2_with fail
  refine (toRecS_any A l cap _ ((H.out.below B1.out (Nat.le_refl _)).more B1.out.size) hl0 HL0.out).mono ?_
  rintro e w2 ⟨g2, l2, rfl, e2, hg2, ho2, hh2, hb2⟩
  obtain ⟨n2, s2, t2⟩ := HP.out l2 e2
  have B2 := Lib.hid (B1.out.trans (hb2.mono B1.out.size))
  have L2 := Lib.hid (show LRs w2 w2.heap.size (some ⟨g2, 0, none⟩) l2 from ⟨ho2.cl ho2.lt, hh2.lies (Nat.le_refl _)⟩)
  have E2 := Lib.hid e2
  have N2 := Lib.hid n2
  have S2 := Lib.hid s2
  have T2 := Lib.hid t2
  clear hb2 ho2 hh2 e2 s2 t2 n2
  go_wp2_with fail
  refine (specClosed_any _ l2 _ _ L2.out (by have := N2.out; omega) S2.out).mono ?_
  rintro e w3 ⟨rfl, hb3⟩
  have B3 := Lib.hid (B2.out.trans (hb3.mono B2.out.size))
  clear hb3
  rw [E2.out]
  obtain ⟨bb, hbb⟩ : ∃ bb, closedB (pr l) = bb := ⟨_, rfl⟩
  have HBB := Lib.hid hbb
  rw [hbb]
  clear hbb
  go_wp2_with fail
  refine (toRecS_any A l cap _ ((H.out.below B3.out (Nat.le_refl _)).more B3.out.size) hl0 HL0.out).mono ?_
  rintro e w4 ⟨g4, l4, rfl, e4, hg4, ho4, hh4, hb4⟩
  obtain ⟨n4, s4, t4⟩ := HP.out l4 e4
  have B4 := Lib.hid (B3.out.trans (hb4.mono B3.out.size))
  have L4 := Lib.hid (show LRs w4 w4.heap.size (some ⟨g4, 0, none⟩) l4 from ⟨ho4.cl ho4.lt, hh4.lies (Nat.le_refl _)⟩)
  have E4 := Lib.hid e4
  have N4 := Lib.hid n4
  have S4 := Lib.hid s4
  have T4 := Lib.hid t4
  clear hb4 ho4 hh4 e4 s4 t4 n4
  go_wp2_with fail
  refine (implClosed_any _ l4 _ _ L4.out (by have := N4.out; omega) S4.out).mono ?_
  rintro e w5 ⟨rfl, hb5⟩
  have B5 := Lib.hid (B4.out.trans (hb5.mono B4.out.size))
  have L5 := Lib.hid (L4.out.on hb5)
  clear hb5
  rw [E4.out, HBB.out]
  have hee : (bb != bb) = false := by cases bb <;> rfl
  go_wp2_with fail
  refine (toRecS_any A l cap _ ((H.out.below B5.out (Nat.le_refl _)).more B5.out.size) hl0 HL0.out).mono ?_
  rintro e w6 ⟨g6, l6, rfl, e6, hg6, ho6, hh6, hb6⟩
  have B6 := Lib.hid (B5.out.trans (hb6.mono B5.out.size))
  have L6 := Lib.hid (show LRs w6 w6.heap.size (some ⟨g6, 0, none⟩) l6 from ⟨ho6.cl ho6.lt, hh6.lies (Nat.le_refl _)⟩)
  have L56 := Lib.hid (L5.out.on hb6)
  have E6 := Lib.hid e6
  clear hb6 ho6 hh6 e6
  go_wp2_with fail
  refine (eqRecS_same _ _ l4 l6 _ _ _ L56.out L6.out (E4.out.trans E6.out.symm) (by have := N4.out; omega) T4.out).mono ?_
  rintro e w7 ⟨rfl, hb7⟩
  have B7 := Lib.hid (B6.out.trans (hb7.mono B6.out.size))
  clear hb7
  go_wp2_with fail
  go_ret
  exact ⟨rfl, B7.out⟩
end Go.Proofs.Ytegnjbdgeibhfaa.Rs
