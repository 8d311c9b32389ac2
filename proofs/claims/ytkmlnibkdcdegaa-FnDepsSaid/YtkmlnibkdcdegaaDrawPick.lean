/-
  The draws of the given package spec, on: one of some texts. Of what was there nothing is written but the source.
-/
import Derived.Test.YtkmlnibkdcdegaaDrawS
namespace Go.Proofs.Ytkmlnibkdcdegaa.Src
open Go.ChangeShapes Go.WideShapes Go.ChangeAt Go.RowKit
set_option linter.unusedVariables false
set_option maxRecDepth 100000

/-- What a draw of a text answers. -/
def TextPost (B b len cap : Nat) (a : Option Addr) (n : Nat) (w : World) (x : Ending) (w' : World) : Prop :=
  ∃ u : ByteArray, x = .returned (.string u) ∧ u.size ≤ n ∧ St B b a len cap w' ∧ w.grownBy w' (some b)

set_option maxHeartbeats 1000000 in
theorem pick_st (B b len cap g t n : Nat) (a : Option Addr) (ps : List ByteArray) (w : World) (h : St B b a len cap w) (hg : g ≠ b) (hrow : w.heap[g]? = some (.cells (ps.map Value.string).toArray t (0, 0)))
    (h1 : 1 ≤ ps.length) (h2 : ps.length ≤ 1000) (hn : ∀ p ∈ ps, p.size ≤ n) :
    Calls Try.prog 49 #[.pointer (some ⟨b, 0, none⟩), .slice (some ⟨g, 0, none⟩) ps.length ps.length] w (TextPost B b len cap a n w) := by
  have HS := Lib.hid h
  have HR := Lib.hid hrow
  have HN := Lib.hid hn
  have hbw := h.2.1
  clear h hrow hn
  go_enter Try.func49, Try.ntmps49
  go_wp2_with fail
  refine (n_st B b len cap a (ps.length : Int) _ (by omega) HS.out).mono ?_
  rintro x w1 ⟨r, rfl, hr0, hr1, hst, hg1⟩
  obtain ⟨q, rfl⟩ := Int.eq_ofNat_of_zero_le hr0
  have hq : q < ps.length := by omega
  have hq2 : (q : Int) < (ps.length : Int) := by omega
  have hlt : g < w.heap.size := (Array.getElem?_eq_some_iff.1 HR.out).1
  have hblk := (hg1.block g hlt (fun e => by cases e; exact hg rfl)).trans HR.out
  obtain ⟨p, hp⟩ : ∃ p, ps[q]? = some p := ⟨_, List.getElem?_eq_getElem hq⟩
  have hcell : w1.cell? ⟨g, q, none⟩ = some (.string p) := (cell_of_row w1 g q _ _ (0, 0) hblk).trans (by simp [hp])
  have HP : Hid (p ∈ ps) := Lib.hid (List.mem_of_getElem? hp)
  have HE := Lib.hid (And.intro hst hg1)
  clear hst hg1 hblk hp hr1
  go_wp2_with fail
  go_ret
  exact ⟨p, rfl, HN.out p HP.out, HE.out.1, HE.out.2⟩

end Go.Proofs.Ytkmlnibkdcdegaa.Src
