/-
  Nets that are few enough to be compared and marked.
-/
import Derived.Test.YtoagdpbbojlgfaaGreatNetNew
import Derived.Test.YtoagdpbbojlgfaaGreatPackNFw
import Derived.Test.YtoagdpbbojlgfaaGreatNetOpen
namespace Go.Proofs.YtoagdpbbojlgfaaGreat.Net
open Sto (R Sl)
set_option linter.unusedVariables false
set_option maxRecDepth 100000

def sumL (L : List (List R)) : Nat := (L.map List.length).sum
theorem tot_sum (xs : List Sl) : tot xs = sumL (ps xs) := by unfold tot sumL ps; rw [List.map_map]; rfl
theorem all_pl (n : Nt) : ps n.all = allP (pl n) := by unfold Nt.all allP pl ps pm; simp
theorem sumL_le (L : List (List R)) (k : Nat) (h : ∀ l ∈ L, l.length ≤ k) : sumL L ≤ k * L.length := by
  induction L with
  | nil => simp [sumL]
  | cons l L ih =>
    have h1 := h l List.mem_cons_self
    have h2 := ih fun x hx => h x (List.mem_cons_of_mem _ hx)
    have e : sumL (l :: L) = l.length + sumL L := by simp [sumL]
    rw [e, List.length_cons, Nat.mul_add, Nat.mul_one]
    omega
theorem short_of {n : Nt} (h : n.s.length + n.m.length + tot n.all ≤ 1048576) : Few n ∧ Short 1 n := by
  have e : tot n.all = tot n.s + tot (n.m.map (·.x)) := by unfold Nt.all; rw [tot_append]
  refine ⟨⟨by unfold maxLen; omega, by unfold maxLen; omega, fun x hx => ?_, fun y hy => ?_⟩, by omega, by omega, by omega, ?_⟩
  · have := tot_mem hx; unfold maxLen; omega
  · have := tot_mem (List.mem_map.2 ⟨y, hy, rfl⟩ : y.x ∈ n.m.map (·.x)); unfold maxLen; omega
  · unfold kN kM; omega
theorem little_pl {x n : Nt} (h : pl x = pl n) (hn : Little n) : Little x := by
  have h1 : ps x.s = ps n.s := congrArg Prod.fst h
  have h2 : pm x.m = pm n.m := congrArg Prod.snd h
  have e1 : x.s.length = n.s.length := by have := congrArg List.length h1; simpa [ps_len] using this
  have e2 : x.m.length = n.m.length := by have := congrArg List.length h2; simpa [pm_len] using this
  have e3 : ps x.all = ps n.all := by rw [all_pl, all_pl, h]
  refine ⟨by rw [tot_sum, e1, e2, e3, ← tot_sum]; exact hn.1, fun y hy d hd => ?_⟩
  have : y.l ∈ ps n.all := by rw [← e3]; exact List.mem_map.2 ⟨y, hy, rfl⟩
  obtain ⟨z, hz, e⟩ := List.mem_map.1 this
  exact hn.2 z hz d (by rw [e]; exact hd)
theorem few_of {x n : Nt} (h : pl x = pl n) (hn : Little n) : Few x ∧ Short 1 x := short_of (little_pl h hn).1
/-- An answer's size. -/
def Sm (p : List (List R) × List Pm) : Prop := p.1.length ≤ 400 ∧ p.2.length ≤ 400 ∧ ∀ l ∈ allP p, l.length ≤ 400
theorem fewA_of {x : Nt} {p : List (List R) × List Pm} (h : pl x = p) (hp : Sm p) : Few x ∧ Short 1 x := by
  subst h
  obtain ⟨h1, h2, h3⟩ := hp
  have e := sumL_le _ _ h3
  rw [← all_pl, ← tot_sum, all_pl] at e
  have e1 : (pl x).1.length = x.s.length := ps_len _
  have e2 : (pl x).2.length = x.m.length := pm_len _
  have e3 : (allP (pl x)).length = x.s.length + x.m.length := by unfold allP; rw [List.length_append, List.length_map, e1, e2]
  rw [e3] at e
  exact short_of (by omega)
theorem newP_sm (k : Int) : Sm (newP k) := by
  unfold newP
  split
  · refine ⟨by simp; omega, by simp, fun l hl => ?_⟩
    simp only [allP, List.map_nil, List.append_nil] at hl
    rw [(List.mem_replicate.1 hl).2]
    simp
  · exact ⟨by simp, by simp, fun l hl => by simp [allP] at hl⟩
theorem IsNet.fine {w : World} {n : Nt} (h : IsNet w n) : ∀ x ∈ n.all, Fine x := fun x hx => by
  have := h.2.2.2 x hx
  exact ⟨Nat.le_trans this.1 this.2.1, fun d hd => ⟨(this.2.2.2 d hd).1, (this.2.2.2 d hd).2.2.2.2⟩⟩
end Go.Proofs.YtoagdpbbojlgfaaGreat.Net
