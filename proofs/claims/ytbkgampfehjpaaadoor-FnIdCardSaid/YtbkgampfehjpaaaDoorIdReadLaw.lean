/-
  The Go law FnExactIdRead answers true for every string.
-/
import Derived.Test.YtbkgampfehjpaaaDoorIdReadI
namespace Go.Proofs.YtbkgampfehjpaaaDoor.Id
open Go.ChangeShapes Go.WideShapes Go.ChangeAt Go.RowKit
set_option linter.unusedVariables false

theorem rdV_form (x : ByteArray) : ∃ c s e k, rdV x = outV c s e k := by
  classical
  unfold rdV
  split
  · exact ⟨_, _, _, _, rfl⟩
  · split
    · exact ⟨_, _, _, _, rfl⟩
    · exact ⟨_, _, _, _, rfl⟩

set_option maxRecDepth 100000 in
theorem eqOut_same (c s e k : Int) (w : World) :
    Calls Tryd.prog 20 #[outV c s e k, outV c s e k] w fun x w' => x = .returned (.bool true) ∧ Below w.heap.size w w' := by
  unfold outV
  go_enter Tryd.func20, Tryd.ntmps20
  go_wp2_with fail
  refine (eqId_same c s e _).mono ?_
  rintro x w1 ⟨rfl, hb⟩
  have h1 := (((OutRow.new w 32 c s e k).alloc (Obj.cells #[.int .i64 c, .int .i64 s, .int .i64 e, .int .i64 k] 32)).step hb (by simp; omega)).cells.1.2.2.2
  have h2 := ((OutRow.new (w.alloc (Obj.cells #[.int .i64 c, .int .i64 s, .int .i64 e, .int .i64 k] 32)) 32 c s e k).step hb (by simp)).cells.1.2.2.2
  have h2' : w1.cell? ⟨w.heap.size + 1, 3, none⟩ = some (.int .i64 k) := by simpa using h2
  have HB := Lib.hid ((((Below.refl _ _).alloc (Nat.le_refl _) _).alloc (by simp) _).trans (hb.mono (by simp; omega)))
  have hk : (k == k) = true := beq_self_eq_true k
  clear hb h2
  go_wp2
  go_ret
  exact ⟨rfl, HB.out⟩

set_option maxRecDepth 100000 in
theorem lawIdRead (s : ByteArray) (hs : s.size ≤ maxLen) (w : World) (hrd : Ready w) :
    Calls Tryd.prog 5 #[.string s] w fun e w' => e = .returned (.bool true) ∧ Below w.heap.size w w' := by
  unfold maxLen at hs
  by_cases h1 : 1048576 < s.size
  · clear hrd
    go_enter Tryd.func5, Tryd.ntmps5
    go_wp2_with fail
    go_ret
    exact ⟨rfl, Below.refl _ _⟩
  · have h2 : ¬ (1048576 : Int) < (s.size : Int) := by omega
    obtain ⟨c, a, e, k, hv⟩ := rdV_form s
    have HS := Lib.hid (fun w => specRead_any s w (by omega))
    have HI := Lib.hid (fun w (h : Ready w) => implRead_any s w (by omega) h)
    have RD := Lib.hid hrd
    rw [hv] at HS HI
    clear hv hrd
    unfold outV at HS HI
    go_enter Tryd.func5, Tryd.ntmps5
    go_wp2_with fail
    refine (HS.out _).mono ?_
    rintro q w1 ⟨rfl, hb1⟩
    have R1 := Lib.hid (RD.out.on hb1 (Nat.le_refl _))
    have B1 := Lib.hid hb1
    clear hb1
    go_wp2_with fail
    refine (HI.out _ (R1.out.alloc _)).mono ?_
    rintro q w2 ⟨rfl, hb2⟩
    have h3 := (OutRow.new w1 32 c a e k).step hb2 (by simp)
    have hz : w1.heap.size < w2.heap.size := h3.lt
    have B2 := Lib.hid ((B1.out.alloc B1.out.size _).trans (hb2.mono (by have := B1.out.size; simp; omega)))
    obtain ⟨⟨c0, c1, c2, c3⟩, _⟩ := h3.cells
    clear hb2 h3
    go_wp2_with fail
    refine (eqOut_same c a e k _).mono ?_
    rintro q w3 ⟨rfl, hb3⟩
    have B3 := Lib.hid ((B2.out.alloc B2.out.size _).trans (hb3.mono (by have := B2.out.size; simp; omega)))
    clear hb3 c0 c1 c2 c3 hz
    go_wp2_with fail
    go_ret
    exact ⟨rfl, B3.out⟩
end Go.Proofs.YtbkgampfehjpaaaDoor.Id
