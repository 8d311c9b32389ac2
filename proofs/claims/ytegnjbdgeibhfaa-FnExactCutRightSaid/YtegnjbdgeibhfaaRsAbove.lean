/-
  impl.above, impl.recAt.
-/
import Derived.Test.YtegnjbdgeibhfaaPackRsA
import Derived.Test.YtegnjbdgeibhfaaRsI
namespace Go.Proofs.Ytegnjbdgeibhfaa.Rs
open Go.ChangeShapes Go.WideShapes Go.ChangeAt Go.RowKit
open Rec (R P Sound Small recV cellsV recB needsR)
open Net (Cl Bk HeldV)
open Dep (D I depsB coversB covB ofV)
set_option linter.unusedVariables false
set_option maxRecDepth 100000

/-- Those of which the id is above that of the one of its key. -/
def upper (M : List D) (l : List Q) : List Q := l.filter fun q => (ofV M q.r.k).less q.r.i
theorem upper_yes {M : List D} {l : List Q} {k : Nat} (h : k < l.length) (ht : (ofV M l[k].r.k).less l[k].r.i = true) : upper M (l.take (k + 1)) = upper M (l.take k) ++ [l[k]] := by
  unfold upper; rw [take_snoc l k h, List.filter_append]; simp [ht]
theorem upper_no {M : List D} {l : List Q} {k : Nat} (h : k < l.length) (ht : (ofV M l[k].r.k).less l[k].r.i = false) : upper M (l.take (k + 1)) = upper M (l.take k) := by
  unfold upper; rw [take_snoc l k h, List.filter_append]; simp [ht]
theorem upper_len (M : List D) (l : List Q) : (upper M l).length ≤ l.length := List.length_filter_le _ _
theorem cl_rec (W : World) (r : R) (p : P) {g : Nat} (h : W.heap.size = g) : Cl (W.alloc (Obj.cells (cellsV r p) 61)) (g + 1) (some ⟨g, 0, none⟩) (rv [⟨r, p⟩]) := by
  have := cl_one_at W 61 (cellsV r p) h
  simpa [rv, qc] using this

/-- A record stands in a block of its own; nothing below is written, nor what was there when it was made. -/
abbrev Nine (w w1 : World) (n : Nat) (r : R) (p : P) (W : World) : Prop := Rec.C8 W n r p ∧ Below w.heap.size w W ∧ Below w1.heap.size w1 W
theorem Nine.step {w w1 W W' : World} {n : Nat} {r : R} {p : P} (h : Nine w w1 n r p W) (hb : Below W.heap.size W W') : Nine w w1 n r p W' := ⟨Rec.C8.step h.1 hb, h.2.1.trans (hb.mono h.2.1.size), h.2.2.trans (hb.mono h.2.2.size)⟩
theorem Nine.drew {w w1 W : World} {n : Nat} {r : R} {p : P} (h : Nine w w1 n r p W) : Nine w w1 n r p W.drew := ⟨h.1, h.2.1.drew, h.2.2.drew⟩
theorem Nine.below {w w1 W : World} {n : Nat} {r : R} {p : P} (h : Nine w w1 n r p W) : Below w.heap.size w W := h.2.1

set_option maxHeartbeats 8000000 in
set_option maxRecDepth 100000 in
theorem above_any (A B : Option Addr) (s l : List Q) (ca cb : Nat) (w : World) (hs : LRs w w.heap.size A s) (h : LRs w w.heap.size B l) (hsl : s.length ≤ 1048576) (hl : l.length ≤ 1000000) :
    Calls Try.prog 40 #[.slice A s.length ca, .slice B l.length cb] w fun e w' => ∃ v, e = .returned v ∧ w'.ownsRow w.heap.size 61 8 v (upper (mk (pr s)) l).length (rv (upper (mk (pr s)) l)) ∧ Below w.heap.size w w' := by
  have H := Lib.hid h
  have HM := Lib.hid (recMarks_any A s ca w hs hsl)
  have hml : (mk (pr s)).length ≤ maxLen := by rw [mk_pr_len]; unfold maxLen; omega
  have HML := Lib.hid hml
  clear h hs hml
  obtain ⟨M, hM⟩ : ∃ M, mk (pr s) = M := ⟨_, rfl⟩
  rw [hM] at HM HML ⊢
  clear hM
  go_enter Try.func40, Try.ntmps40
  go_wp2_with fail
  refine HM.out.mono ?_
  rintro e w1 ⟨A', c, rfl, hc, hL, _, hb1⟩
  have B1 := Lib.hid hb1
  have HC := Lib.hid (fun (q : ByteArray) (W : World) (hW : Below w1.heap.size w1 W) => Dep.implAt_any A' M c q W ((hL.below hW (Nat.le_refl _)).more hW.size) HML.out)
  have HL1 := Lib.hid (H.out.on hb1)
  have HZ := Lib.hid hb1.size
  unfold Dep.slV at HC ⊢
  clear hb1 hL hc HM H
  go_wp2_with fail
  go_loopw [6, 13] (fun o i wr => ∃ k : Nat, k ≤ l.length ∧ i = .int .i64 k ∧ Hid (wr.ownsRow w1.heap.size 61 8 o (upper M (l.take k)).length (rv (upper M (l.take k))) ∧ Below w1.heap.size w1 wr)) (fun _ i _ => l.length - (intOf i).toNat)
  case atStart => exact ⟨0, by omega, rfl, Lib.hid ⟨o_nil _ _ _ _, Below.refl _ _⟩⟩
  case round =>
    obtain ⟨k, hk, rfl, HR⟩ := hrel
    by_cases hlt : k < l.length
    · obtain ⟨ad, rfl, _, ⟨c0, c1, c2, c3, c4, c5, c6, c7⟩, -⟩ := (HL1.out.below HR.out.2 (Nat.le_refl _)).at_ hlt
      have HY := Lib.hid (fun ht => upper_yes (M := M) hlt ht)
      have HN := Lib.hid (fun ht => upper_no (M := M) hlt ht)
      have HU := Lib.hid (upper_len M (l.take k))
      obtain ⟨y, hy⟩ : ∃ y, l[k] = y := ⟨_, rfl⟩
      rw [hy] at c0 c1 c2 c3 c4 c5 c6 c7 HY HN
      clear hy
      obtain ⟨r, p⟩ := y
      simp only at c0 c1 c2 c3 c4 c5 c6 c7 HY HN
      obtain ⟨t, ht⟩ : ∃ t, (ofV M r.k).less r.i = t := ⟨_, rfl⟩
      have HT := Lib.hid ht
      rw [ht] at HY HN
      clear ht
      have HO := Lib.hid (o_alloc HR.out.1 (Obj.cells (cellsV r p) 61))
      have hst0 : Rec.One w1 wr.heap.size r p (wr.alloc (Obj.cells (cellsV r p) 61)) := ⟨Rec.cells8 (Blk.new wr 61 (cellsV r p)), HR.out.2.alloc HR.out.2.size _⟩
      have HWZ := Lib.hid (show w1.heap.size ≤ (wr.alloc (Obj.cells (cellsV r p) 61)).heap.size from hst0.2.size)
      go_wp2_with fail
      generalize World.alloc wr _ = W1 at hst0 HO HWZ ⊢
      generalize wr.heap.size = n at hst0 ⊢
      have hst : Nine w1 W1 n r p W1 := ⟨hst0.1, hst0.2, Below.refl _ _⟩
      clear hst0
      go_region_held3 (fun W => Rec.C8 W n r p ∧ Below w1.heap.size w1 W ∧ Below W1.heap.size W1 W)
        (first | exact Nine.drew (by assumption) | exact Nine.step (by assumption) hb)
        (first | (go_at_call 65; refine (HC.out r.k _ (Nine.below (by assumption))).mono ?_; rintro x w' ⟨rfl, hb⟩) | (go_at_call 64; refine (Dep.implLessI_any (ofV M r.k) r.i _).mono ?_; rintro x w' ⟨rfl, hb⟩; rw [HT.out]))
      have hend : Nine w1 W1 n r p w' := by assumption
      have HE := Lib.hid hend.2.1
      have HO2 := Lib.hid (o_step HO.out hend.2.2 (Nat.le_refl _))
      cases t
      · have e4 := HN.out rfl
        clear hend hst
        go_wp2_with fail
        go_roundw
        case rel => exact ⟨k + 1, by omega, by go_num, Lib.hid ⟨by rw [e4]; exact HO2.out, HE.out⟩⟩
        case measure => simp [intOf]; omega
      · have HY4 := Lib.hid (HY.out rfl)
        obtain ⟨x0, x1, x2, x3, x4, x5, x6, x7⟩ := hend.1
        have HWZ2 := Lib.hid (show w1.heap.size ≤ w'.heap.size from HE.out.size)
        clear hend hst
        go_wp2_with (at_builtin; refine wpList_app fit_recs rfl rfl rfl (rv [⟨r, p⟩]) rfl rfl (o_alloc HO2.out (Obj.cells (cellsV r p) 61)) (cl_rec w' r p rfl) rfl (rv_one _) (by have := HU.out; rw [List.length_take] at this; omega) (by have := HWZ2.out; simp; omega) ?_; intro v2 W2 ho2 hg2 hn2; have hBg := (HE.out.alloc HWZ2.out (Obj.cells (cellsV r p) 61)).grown hg2 (by have := HWZ2.out; simp; omega) (o_base HO2.out); have B2 := Lib.hid hBg; rw [← rv_append, ← HY4.out] at ho2; have O2 := Lib.hid ho2; clear ho2 hg2 hn2 hBg)
        go_roundw
        case rel =>
          refine ⟨k + 1, by omega, by go_num, Lib.hid ⟨?_, B2.out⟩⟩
          have e5 : (upper M (l.take k)).length + 1 = (upper M (l.take (k + 1))).length := by rw [HY4.out]; simp
          rw [← e5]
          exact O2.out
        case measure => simp [intOf]; omega
    · have e3 : l.take k = l := List.take_of_length_le (by omega)
      rw [e3] at HR
      clear e3
      go_wp2_with fail
      go_ret
      exact ⟨_, rfl, o_less HR.out.1 HZ.out, B1.out.trans (HR.out.2.mono HZ.out)⟩
end Go.Proofs.Ytegnjbdgeibhfaa.Rs
