/-
  What a world must hold for the library's FormatInt, ParseInt and Cut to be called: the table of powers of ten, and the library's variables MaxLen, ErrSyntax, ErrRange. It goes on holding whatever is laid above. And impl.digits, impl.numberOf by these.
-/
import Derived.Test.YtbkgampfehjpaaaDoorRows
import Derived.Test.YtbkgampfehjpaaaDoorShelf
import Derived.WalkKit
import Derived.ProofKit
import Derived.OpenShut
import Derived.ShutString
import Derived.Lib.Hide
import Derived.Lib.SlBuf
import Derived.Lib.AppendIntMem
namespace Go.Proofs.YtbkgampfehjpaaaDoor.Id
open Go.ChangeShapes Go.WideShapes Go.ChangeAt Go.RowKit
set_option linter.unusedVariables false

/-- The table of powers of ten reads as its text lays it. -/
def Tab (w : World) : Prop := Lib.TabIs Tryd.prog w "internal/strconv.uint64pow10" .u64 Lib.pow10Tab
theorem Tab.step {w w' : World} (h : Tab w) (hb : Below w.heap.size w w') : Tab w' := Lib.tabBelow_of_tabIs h w' hb
theorem Tab.drew {w : World} (h : Tab w) : Tab w.drew := h.step (Below.refl _ _).drew
theorem Tab.on {w w' : World} {B : Nat} (h : Tab w) (hb : Below B w w') (hB : w.heap.size ≤ B) : Tab w' := h.step (hb.mono hB)

def Ready (w : World) : Prop :=
  Lib.TabIs Tryd.prog w "internal/strconv.uint64pow10" .u64 Lib.pow10Tab ∧ (∃ m, w.cell? ⟨1, 0, none⟩ = some (.int .i64 m)) ∧
  (∃ ev, w.cell? ⟨2, 0, none⟩ = some ev ∧ (ev = .nilIface ∨ ∃ te pe, ev = .iface te pe)) ∧
  (∃ ev, w.cell? ⟨3, 0, none⟩ = some ev ∧ (ev = .nilIface ∨ ∃ te pe, ev = .iface te pe))
theorem Ready.step {w w' : World} (h : Ready w) (hb : Below w.heap.size w w') : Ready w' := by
  obtain ⟨h2, ⟨m, h3⟩, ⟨e1, h4, h5⟩, ⟨e2, h6, h7⟩⟩ := h
  exact ⟨Lib.tabBelow_of_tabIs h2 w' hb, ⟨m, Lib.Below.cellOf hb h3 (Nat.le_refl _)⟩, ⟨e1, Lib.Below.cellOf hb h4 (Nat.le_refl _), h5⟩, ⟨e2, Lib.Below.cellOf hb h6 (Nat.le_refl _), h7⟩⟩
theorem Ready.drew {w : World} (h : Ready w) : Ready w.drew := h.step (Below.refl _ _).drew
theorem Ready.alloc {w : World} (h : Ready w) (o : Obj) : Ready (w.alloc o) := h.step ((Below.refl _ _).alloc (Nat.le_refl _) _)
theorem Ready.on {w w' : World} {B : Nat} (h : Ready w) (hb : Below B w w') (hB : w.heap.size ≤ B) : Ready w' := h.step (hb.mono hB)

theorem Ready.tab {w : World} (h : Ready w) : Tab w := h.1

theorem digits_any (n : Int) (h0 : -9223372036854775808 ≤ n) (h1 : n ≤ 9223372036854775807) (w : World) (hr : Tab w) :
    Calls Tryd.prog 24 #[.int .i64 n] w fun e w' => e = .returned (.string ⟨(Lib.itoa n).toArray⟩) ∧ Below w.heap.size w w' := by
  have HR := Lib.hid hr
  clear hr
  go_enter Tryd.func24, Tryd.ntmps24
  go_wp2_with fail
  refine (Tryd.strconv_FormatInt_10 n h0 h1 _ HR.out).mono ?_
  rintro e w1 ⟨rfl, k, os, rfl⟩
  have HB := Lib.hid (Lib.below_grow w.heap.size w (Nat.le_refl _) k os)
  generalize Sort.grow (w.drewN k) os = w2 at *
  go_wp2_with fail
  go_ret
  exact ⟨rfl, HB.out⟩

/-- What numberOf makes of a text: whatever ParseInt answers. -/
def numV (l : List UInt8) : Int := match Lib.parseIntB 64 l with
  | .ok v => v
  | .range => Lib.intSat 64 l
  | _ => 0

theorem numberOf_any (s : ByteArray) (hs : s.size ≤ 1048576) (w : World) (hr : Ready w) :
    Calls Tryd.prog 39 #[.string s] w fun e w' => e = .returned (.int .i64 (numV s.data.toList)) ∧ Below w.heap.size w w' := by
  obtain ⟨hr2, hr3, ⟨e1, h4, h5⟩, ⟨e2, h6, h7⟩⟩ := hr
  have H4 := Lib.hid h4
  have H6 := Lib.hid h6
  clear h4 h6 hr2 hr3
  rcases hp : Lib.parseIntB 64 s.data.toList with v | _ | _
  · have HV := Lib.hid (show numV s.data.toList = v by unfold numV; rw [hp])
    have HP := Lib.hid hp
    clear hp
    go_enter Tryd.func39, Tryd.ntmps39
    go_wp2_with fail
    refine (Tryd.strconv_ParseInt_10_at64_ok s (by omega) v HP.out _).mono ?_
    rintro e w1 ⟨rfl, hw⟩
    have HB : Hid (Below w.heap.size w w1) := Lib.hid (by rcases hw with rfl | ⟨t, rfl⟩; exact Below.refl _ _; exact Lib.bytesWorld_below _ _ _)
    clear hw
    go_wp2_with fail
    go_ret
    exact ⟨by rw [HV.out]; rfl, HB.out⟩
  · have HV := Lib.hid (show numV s.data.toList = 0 by unfold numV; rw [hp])
    have HP := Lib.hid (Any.strconv_ParseInt_10_at64_syntax Tryd.laysC174 s (by omega) hp e1 w H4.out h5)
    clear hp
    go_enter Tryd.func39, Tryd.ntmps39
    go_wp2_with fail
    refine HP.out.mono ?_
    rintro e w1 ⟨N, rfl, _, _, hb⟩
    have HB := Lib.hid hb
    clear hb
    go_wp2_with fail
    go_ret
    exact ⟨by rw [HV.out]; rfl, HB.out⟩
  · have HV := Lib.hid (show numV s.data.toList = Lib.intSat 64 s.data.toList by unfold numV; rw [hp])
    have HP := Lib.hid hp
    clear hp
    go_enter Tryd.func39, Tryd.ntmps39
    go_wp2_with fail
    refine (Tryd.strconv_ParseInt_10_at64_range s (by omega) HP.out e2 _ H6.out h7).mono ?_
    rintro e w1 ⟨N, rfl, _, _, hb⟩
    have HB := Lib.hid hb
    clear hb
    generalize Lib.intSat 64 s.data.toList = v at *
    go_wp2_with fail
    go_ret
    exact ⟨by rw [HV.out]; rfl, HB.out⟩
end Go.Proofs.YtbkgampfehjpaaaDoor.Id
