/-
  Several texts in one: Src, DrawS.
-/
import Derived.Test.YtkmlnibkdcdegaaGreatDoorRows
import Derived.WalkKit
import Derived.ProofKit
import Derived.OpenShut
import Derived.ShutString
import Derived.Lib.Hide
import Derived.StillTailTactics
import Derived.Deep.QuietTactic
import Derived.BigQuiet
/-
  The draws of the given package spec: a source of numbers over some bytes. What each function answers lies in its range; the bytes are read, nothing of what was there is written.
-/
namespace Go.Proofs.YtkmlnibkdcdegaaGreatDoor.Src
open Go.ChangeShapes Go.WideShapes Go.ChangeAt Go.RowKit
set_option linter.unusedVariables false
set_option maxRecDepth 100000

/-- Bytes that came in: a slice of len bytes, each of them readable, below block B. -/
def Bytes (B : Nat) (w : World) (a : Option Addr) (len cap : Nat) : Prop :=
  len ≤ 1048576 ∧ (0 < len → ∃ cb co, a = some ⟨cb, co, none⟩ ∧ cb < B ∧ ∀ i, i < len → ∃ z : Int, 0 ≤ z ∧ z ≤ 255 ∧ w.cell? ⟨cb, co + i, none⟩ = some (.int .u8 z))
theorem Bytes.below {B : Nat} {w w' : World} {a : Option Addr} {len cap : Nat} (h : Bytes B w a len cap) (hb : Below B w w') : Bytes B w' a len cap := by
  refine ⟨h.1, fun hp => ?_⟩
  obtain ⟨cb, co, ha, hcb, hc⟩ := h.2 hp
  refine ⟨cb, co, ha, hcb, fun i hi => ?_⟩
  obtain ⟨z, z0, z1, hz⟩ := hc i hi
  exact ⟨z, z0, z1, (hb.cell (p := ⟨cb, co + i, none⟩) hcb).trans hz⟩

theorem cellOf {w : World} {b : Nat} {cs : Array Value} {t : TypeId} (h : w.heap[b]? = some (.cells cs t (0, 0))) (i : Nat) : w.cell? ⟨b, i, none⟩ = cs[i]? := cell_of_row w b i cs _ (0, 0) h
theorem frozenOf {w : World} {b : Nat} {cs : Array Value} {t : TypeId} (h : w.heap[b]? = some (.cells cs t (0, 0))) (i : Nat) : w.frozen? ⟨b, i, none⟩ = false := by simp [World.frozen?, h]

theorem heap_set {W : World} {b i : Nat} {cs : Array Value} {t : TypeId} (h : W.heap[b]? = some (.cells cs t (0, 0))) (v : Value) : (W.setCell ⟨b, i, none⟩ v).heap[b]? = some (.cells (cs.setIfInBounds i v) t (0, 0)) := by
  simp [World.setCell, Array.getElem?_modify, h]
theorem grown_set {w W : World} {b : Nat} (h : w.grownBy W (some b)) (i : Nat) (v : Value) : w.grownBy (W.setCell ⟨b, i, none⟩ v) (some b) := by
  refine ⟨h.os, h.tape, h.output, by simpa [World.setCell] using h.size, fun k hk hne => ?_⟩
  rw [Below.heap_setCell _ _ _ _ (fun e => hne (by simp [e]))]
  exact h.block k hk hne
/-- The walk goes on in a world of which this alone is known. -/
theorem gen_world {P : Program} {c : Code} {Q : Exit → Act → World → Prop} {a : Act} {W : World} (R : World → Prop) (h : R W) (k : ∀ W, R W → c.wp P Q a W) : c.wp P Q a W := k W h
theorem xor_range (x y : Int) : 0 ≤ bits .xor .u64 x y ∧ bits .xor .u64 x y < 18446744073709551616 := by
  have := bounds_u64 (wf_bits .xor .u64 x y); omega

theorem mod_range (x m : Int) (hm : 1 < m) : 0 ≤ x % m ∧ x % m < m := ⟨Int.emod_nonneg _ (by omega), Int.emod_lt_of_pos _ (by omega)⟩

theorem ret_wrap {x m : Int} (h : 0 ≤ x ∧ x < m) (hm2 : m ≤ 4611686018427387904) : Ending.returned (.int .i64 (wrap64 x)) = .returned (.int .i64 x) := by
  rw [show wrap64 x = x by unfold wrap64; omega]

end Go.Proofs.YtkmlnibkdcdegaaGreatDoor.Src

/-
  The draws of the given package spec, on: a new source, a yes or no. What each answers lies in its range; of what was there nothing is written but the source.
-/
namespace Go.Proofs.YtkmlnibkdcdegaaGreatDoor.Src
open Go.ChangeShapes Go.WideShapes Go.ChangeAt Go.RowKit
set_option linter.unusedVariables false
set_option maxRecDepth 100000

theorem below_of_grown {B b : Nat} {w w' : World} (hg : w.grownBy w' (some b)) (hB : B ≤ b) (hb : b < w.heap.size) : Below B w w' :=
  (Below.refl _ _).grown hg (by omega) (fun k hk => by cases hk; exact hB)
theorem grown_refl (w : World) (r : Option Nat) : w.grownBy w r := ⟨rfl, rfl, rfl, Nat.le_refl _, fun _ _ _ => rfl⟩
theorem grown_trans {w w1 w2 : World} {r : Option Nat} (h1 : w.grownBy w1 r) (h2 : w1.grownBy w2 r) : w.grownBy w2 r :=
  ⟨h2.os.trans h1.os, h2.tape.trans h1.tape, h2.output.trans h1.output, Nat.le_trans h1.size h2.size, fun k hk hn => (h2.block k (Nat.lt_of_lt_of_le hk h1.size) hn).trans (h1.block k hk hn)⟩
/-- Whatever is written above w's end. -/
theorem grown_above {w w1 w2 : World} {r : Option Nat} (h1 : w.grownBy w1 r) (h2 : Below w.heap.size w1 w2) : w.grownBy w2 r :=
  ⟨h2.os.trans h1.os, h2.tape.trans h1.tape, h2.output.trans h1.output, Nat.le_trans h1.size h2.size, fun k hk hn => (h2.block k hk).trans (h1.block k hk hn)⟩

theorem below_new {w W : World} {o : Obj} (h : (w.alloc o).grownBy W (some w.heap.size)) : Below w.heap.size w W :=
  ⟨h.os, h.tape, h.output, by have := h.size; simp at this; omega, fun k hk => (h.block k (by simp; omega) (fun e => by cases e; omega)).trans (heap_alloc_old w o hk)⟩
end Go.Proofs.YtkmlnibkdcdegaaGreatDoor.Src
