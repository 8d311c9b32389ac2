/-
  A store put in place of one that a net of a call's own tells.
-/
import Derived.Test.YtoagdpbbojlgfaaGreatNetOwn
namespace Go.Proofs.YtoagdpbbojlgfaaGreat.Net
open Go.ChangeShapes Go.WideShapes Go.ChangeAt Go.RowKit
open Sto (R Sl flat)
set_option linter.unusedVariables false
set_option maxRecDepth 100000

theorem apart_symm {x y : Sl} (h : Apart x y) : Apart y x := Or.symm h
theorem HeldL.put {w : World} {L : List Sl} {x : Sl} {a b : Nat} (k : Nat) (h : HeldL w (L ++ [x]) a b) : HeldL w (L.set k x) a b := by
  obtain ⟨h1, h2⟩ := h
  obtain ⟨p1, _, p3⟩ := List.pairwise_append.1 h2
  refine ⟨fun y hy => ?_, ?_⟩
  · rcases List.mem_or_eq_of_mem_set hy with hy | rfl
    · exact h1 y (List.mem_append_left _ hy)
    · exact h1 y (List.mem_append_right _ (List.mem_singleton.2 rfl))
  · have hx : ∀ y ∈ L, Apart y x := fun y hy => p3 y hy x (List.mem_singleton.2 rfl)
    rw [List.pairwise_iff_getElem] at p1 ⊢
    intro i j hi hj hij
    rw [List.length_set] at hi hj
    rw [List.getElem_set, List.getElem_set]
    by_cases e1 : k = i
    · rw [if_pos e1, if_neg (by omega)]
      exact apart_symm (hx _ (List.getElem_mem hj))
    · rw [if_neg e1]
      by_cases e2 : k = j
      · rw [if_pos e2]; exact hx _ (List.getElem_mem hi)
      · rw [if_neg e2]; exact p1 i j hi hj hij
theorem sv_set (s : List Sl) (k : Nat) (x : Sl) : sv (s.set k x) = (sv s).set k (.slice x.A x.l.length x.c) := by unfold sv; rw [List.map_set]; rfl
theorem ps_set (s : List Sl) (k : Nat) (x : Sl) : ps (s.set k x) = (ps s).set k x.l := by unfold ps; rw [List.map_set]
/-- The cell of a store. -/
theorem OwnN.cellS {W : World} {n : Nt} {a g k : Nat} (h : OwnN W n a) (hA : n.A = some ⟨g, 0, none⟩) (hk : k < n.s.length) :
    W.cell? ⟨g, k, none⟩ = some (.slice n.s[k].A n.s[k].l.length n.s[k].c) ∧ W.frozen? ⟨g, k, none⟩ = false := by
  obtain ⟨g', c', e, _, _, _, hB⟩ := o_val_ne h.s0 (fun e => by rw [hA] at e; cases e)
  rw [hA] at e
  injection e with e1 e2 e3
  injection e1 with e1
  injection e1 with e4
  subst e4
  exact ⟨hB.at_ (by unfold sv; rw [List.getElem?_map, List.getElem?_eq_getElem hk]; rfl), hB.free _⟩
theorem OwnN.someS {W : World} {n : Nt} {a : Nat} (h : OwnN W n a) (hm : 0 < n.s.length) : ∃ g, n.A = some ⟨g, 0, none⟩ ∧ a ≤ g ∧ g < W.heap.size := by
  rcases h.s0.2 with ⟨_, h0⟩ | ⟨g, cap, cur, e, hb, hh, _⟩
  · omega
  · injection e with e1 e2 e3
    exact ⟨g, e1, hb, (Array.getElem?_eq_some_iff.1 hh).1⟩
/-- A store in the place of another one. -/
theorem OwnN.putS {W : World} {n : Nt} {a g k : Nat} (h : OwnN W n a) (hA : n.A = some ⟨g, 0, none⟩) (hk : k < n.s.length) {x : Sl} (hx : HeldL W (n.all ++ [x]) a W.heap.size) :
    OwnN (W.setCell ⟨g, k, none⟩ (.slice x.A x.l.length x.c)) ⟨n.A, n.s.set k x, n.ca, n.B, n.m, n.cb⟩ a := by
  obtain ⟨hl, h2⟩ := h.s0
  rcases h2 with ⟨_, h0⟩ | ⟨g', cap, cur, e, hb, hh, hnc, hcm, hsz, hcs⟩
  · omega
  rw [hA] at e
  injection e with e1 e2 e3
  injection e1 with e1
  injection e1 with e4
  subst e4 e3
  have hB : Blk W g 98 cur := hh
  refine ⟨?_, o_box h.m0 hB (by decide), ?_⟩
  · simp only [List.length_set]
    refine ⟨by rw [sv_set, List.length_set]; exact hl, .inr ⟨g, n.ca, cur.setIfInBounds k (.slice x.A x.l.length x.c), by rw [hA], hb, Dep.row_set hh k _, hnc, hcm, by simpa using hsz, ?_⟩⟩
    rw [sv_set, ← hcs, Array.toList_setIfInBounds, List.take_set]
  · have h3 := held_box (hx.put k) hB (by decide) k (.slice x.A x.l.length x.c)
    rw [World.size_setCell]
    have e5 : (Nt.mk n.A (n.s.set k x) n.ca n.B n.m n.cb).all = n.all.set k x := by
      unfold Nt.all
      rw [List.set_append_left _ _ hk]
    rw [e5]
    exact h3
end Go.Proofs.YtoagdpbbojlgfaaGreat.Net
