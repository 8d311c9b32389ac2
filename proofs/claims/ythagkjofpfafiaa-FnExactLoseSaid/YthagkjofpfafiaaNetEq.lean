/-
  The law's own eqNet, eqNetOut, and what they call.
-/
import Derived.Test.YthagkjofpfafiaaNetTo
namespace Go.Proofs.Ythagkjofpfafiaa.Net
open Go.ChangeShapes Go.WideShapes Go.ChangeAt Go.RowKit
open Sto (R Sl Held Turned marks)
open Dep (add_block add_add)
set_option linter.unusedVariables false
set_option maxRecDepth 100000

/-- Two cells stand, and nothing below is written. -/
abbrev Pair2 (w : World) (p q : Addr) (u v : Value) (W : World) : Prop := W.cell? p = some u ∧ W.cell? q = some v ∧ Below w.heap.size w W
theorem Pair2.step {w W W' : World} {p q : Addr} {u v : Value} (h : Pair2 w p q u v W) (hb : Below W.heap.size W W') : Pair2 w p q u v W' :=
  ⟨Lib.Below.cellOf hb h.1 (Nat.le_refl _), Lib.Below.cellOf hb h.2.1 (Nat.le_refl _), h.2.2.trans (hb.mono h.2.2.size)⟩
theorem Pair2.drew {w W : World} {p q : Addr} {u v : Value} (h : Pair2 w p q u v W) : Pair2 w p q u v W.drew := ⟨h.1, h.2.1, h.2.2.drew⟩
theorem Pair2.below {w W : World} {p q : Addr} {u v : Value} (h : Pair2 w p q u v W) : Below w.heap.size w W := h.2.2
theorem mat_step {W W' : World} {p : Addr} {y : Ml} (h : MAt W p y) (hb : Below W.heap.size W W') : MAt W' p y :=
  ⟨Lib.Below.cellOf hb h.1 (Nat.le_refl _), Lib.Below.cellOf hb h.2.1 (Nat.le_refl _), Lib.Below.cellOf hb h.2.2 (Nat.le_refl _)⟩
abbrev PairM (w : World) (p q : Addr) (y z : Ml) (W : World) : Prop := MAt W p y ∧ MAt W q z ∧ Below w.heap.size w W
theorem PairM.step {w W W' : World} {p q : Addr} {y z : Ml} (h : PairM w p q y z W) (hb : Below W.heap.size W W') : PairM w p q y z W' :=
  ⟨mat_step h.1 hb, mat_step h.2.1 hb, h.2.2.trans (hb.mono h.2.2.size)⟩
theorem PairM.drew {w W : World} {p q : Addr} {y z : Ml} (h : PairM w p q y z W) : PairM w p q y z W.drew := ⟨h.1, h.2.1, h.2.2.drew⟩
theorem PairM.below {w W : World} {p q : Addr} {y z : Ml} (h : PairM w p q y z W) : Below w.heap.size w W := h.2.2

theorem eqRowSS_same (A B : Option Addr) (s s' : List Sl) (ca cb : Nat) (w : World) (ha : LSs w w.heap.size A s) (hb : LSs w w.heap.size B s') (he : ps s = ps s') (hl : s.length ≤ maxLen) (hll : ∀ x ∈ s, x.l.length ≤ maxLen) :
    Calls Try.prog 38 #[.slice A s.length ca, .slice B s'.length cb] w fun x w' => x = .returned (.bool true) ∧ Below w.heap.size w w' := by
  have hl2 := hl
  unfold maxLen at hl2
  have hlen : s'.length = s.length := by have := congrArg List.length he; simpa [ps_len] using this.symm
  have HA := Lib.hid ha
  have HB := Lib.hid hb
  have HL := Lib.hid hll
  have HLEN := Lib.hid hlen
  have HE := Lib.hid (show ∀ k (h1 : k < s.length) (h2 : k < s'.length), s[k].l = s'[k].l from fun k h1 h2 => by
    have e1 := ps_at h1
    have e2 := ps_at h2
    rw [← e1, ← e2]
    congr 1)
  rw [hlen]
  clear ha hb hll he hlen
  go_enter Try.func38, Try.ntmps38
  go_wp2_with fail
  go_loopw [5] (fun i wr => ∃ k : Nat, k ≤ s.length ∧ i = .int .i64 k ∧ Hid (Below w.heap.size w wr)) (fun i _ => s.length - (intOf i).toNat)
  case atStart => exact ⟨0, by omega, rfl, Lib.hid (Below.refl _ _)⟩
  case round =>
    obtain ⟨k, hk, rfl, HR⟩ := hrel
    by_cases hlt : k < s.length
    · have hlt2 : k < s'.length := by rw [HLEN.out]; exact hlt
      obtain ⟨a1, rfl, hb1, c0, -⟩ := (HA.out.below HR.out (Nat.le_refl _)).at_ hlt
      obtain ⟨a2, rfl, hb2, d0, -⟩ := (HB.out.below HR.out (Nat.le_refl _)).at_ hlt2
      have hL1 := HA.out.2 s[k] (List.getElem_mem hlt)
      have hL2 := HB.out.2 s'[k] (List.getElem_mem hlt2)
      have hxy := HE.out k hlt hlt2
      have hxl := HL.out s[k] (List.getElem_mem hlt)
      obtain ⟨x, hx⟩ : ∃ x, s[k] = x := ⟨_, rfl⟩
      obtain ⟨y, hy⟩ : ∃ y, s'[k] = y := ⟨_, rfl⟩
      rw [hx] at c0 hL1 hxy hxl
      rw [hy] at d0 hL2 hxy
      clear hx hy hlt2
      obtain ⟨xA, xl, xc⟩ := x
      obtain ⟨yA, yl, yc⟩ := y
      simp only at hxy hxl c0 d0 hL1 hL2
      subst hxy
      have HC := Lib.hid (fun W (hW : Below w.heap.size w W) => Sto.eqRowS_same xA yA xl xc yc W ((hL1.below hW (Nat.le_refl _)).more hW.size) ((hL2.below hW (Nat.le_refl _)).more hW.size) hxl)
      unfold Sto.slV at HC
      clear hL1 hL2
      have hp : Pair2 w (a1.add k) (a2.add k) (.slice xA xl.length xc) (.slice yA xl.length yc) wr := ⟨c0, d0, HR.out⟩
      clear c0 d0
      go_wp2_with fail
      go_region_held3 (fun W => W.cell? (a1.add k) = some (Value.slice xA xl.length xc) ∧ W.cell? (a2.add k) = some (Value.slice yA xl.length yc) ∧ Below w.heap.size w W)
        (first | exact Pair2.drew (by assumption) | exact Pair2.step (by assumption) hb)
        (first | (go_at_call 64; refine (HC.out _ (Pair2.below (by assumption))).mono ?_; rintro x w' ⟨rfl, hb⟩))
      have h2 : Pair2 w (a1.add k) (a2.add k) (.slice xA xl.length xc) (.slice yA xl.length yc) w' := by assumption
      have HB1 := Lib.hid h2.2.2
      clear h2 hp
      go_wp2_with fail
      go_roundw
      case rel => exact ⟨k + 1, by omega, by go_num, HB1⟩
      case measure => simp [intOf]; omega
    · go_wp2_with fail
      go_ret
      exact ⟨rfl, HR.out⟩

theorem eqMail_same (f t : Int) (A B : Option Addr) (l : List R) (ca cb : Nat) (w : World) (ha : Sto.Lies w w.heap.size A l) (hb : Sto.Lies w w.heap.size B l) (hl : l.length ≤ maxLen) :
    Calls Try.prog 65 #[.agg #[.int .i64 f, .int .i64 t, .slice A l.length ca], .agg #[.int .i64 f, .int .i64 t, .slice B l.length cb]] w fun x w' => x = .returned (.bool true) ∧ Below w.heap.size w w' := by
  have hf : (f != f) = false := by simp
  have ht : (t != t) = false := by simp
  have HC := Lib.hid (fun W (hW : Below w.heap.size w W) => Sto.eqRowS_same A B l ca cb W ((ha.below hW (Nat.le_refl _)).more hW.size) ((hb.below hW (Nat.le_refl _)).more hW.size) hl)
  unfold Sto.slV at HC
  clear ha hb
  have B0 := (((Below.refl w.heap.size w).alloc (Nat.le_refl _) (Obj.cells #[.int .i64 f, .int .i64 t, .slice A l.length ca] 51)).alloc (by simp) (Obj.cells #[.int .i64 f, .int .i64 t, .slice B l.length cb] 51))
  go_enter Try.func65, Try.ntmps65
  go_wp2_with fail
  refine (HC.out _ B0).mono ?_
  rintro x w1 ⟨rfl, hb⟩
  have B1 := Lib.hid (B0.trans (hb.mono (by simp; omega)))
  clear hb B0
  go_wp2_with fail
  go_ret
  exact ⟨rfl, B1.out⟩

theorem eqMailS_same (A B : Option Addr) (s s' : List Ml) (ca cb : Nat) (w : World) (ha : LMs w w.heap.size A s) (hb : LMs w w.heap.size B s') (he : pm s = pm s') (hl : s.length ≤ maxLen) (hll : ∀ y ∈ s, y.x.l.length ≤ maxLen) :
    Calls Try.prog 39 #[.slice A s.length ca, .slice B s'.length cb] w fun x w' => x = .returned (.bool true) ∧ Below w.heap.size w w' := by
  have hl2 := hl
  unfold maxLen at hl2
  have hlen : s'.length = s.length := by have := congrArg List.length he; simpa [pm_len] using this.symm
  have HA := Lib.hid ha
  have HB := Lib.hid hb
  have HL := Lib.hid hll
  have HLEN := Lib.hid hlen
  have HE := Lib.hid (show ∀ k (h1 : k < s.length) (h2 : k < s'.length), (⟨s[k].f, s[k].t, s[k].x.l⟩ : Pm) = ⟨s'[k].f, s'[k].t, s'[k].x.l⟩ from fun k h1 h2 => by
    have e1 := pm_at h1
    have e2 := pm_at h2
    rw [← e1, ← e2]
    congr 1)
  rw [hlen]
  clear ha hb hll he hlen
  go_enter Try.func39, Try.ntmps39
  go_wp2_with fail
  go_loopw [5] (fun i wr => ∃ k : Nat, k ≤ s.length ∧ i = .int .i64 k ∧ Hid (Below w.heap.size w wr)) (fun i _ => s.length - (intOf i).toNat)
  case atStart => exact ⟨0, by omega, rfl, Lib.hid (Below.refl _ _)⟩
  case round =>
    obtain ⟨k, hk, rfl, HR⟩ := hrel
    by_cases hlt : k < s.length
    · have hlt2 : k < s'.length := by rw [HLEN.out]; exact hlt
      obtain ⟨a1, rfl, hb1, c0, -⟩ := (HA.out.below HR.out (Nat.le_refl _)).at_ hlt
      obtain ⟨a2, rfl, hb2, d0, -⟩ := (HB.out.below HR.out (Nat.le_refl _)).at_ hlt2
      have hL1 := HA.out.2 s[k] (List.getElem_mem hlt)
      have hL2 := HB.out.2 s'[k] (List.getElem_mem hlt2)
      have hxy := HE.out k hlt hlt2
      have hxl := HL.out s[k] (List.getElem_mem hlt)
      obtain ⟨x, hx⟩ : ∃ x, s[k] = x := ⟨_, rfl⟩
      obtain ⟨y, hy⟩ : ∃ y, s'[k] = y := ⟨_, rfl⟩
      rw [hx] at c0 hL1 hxy hxl
      rw [hy] at d0 hL2 hxy
      clear hx hy hlt2
      obtain ⟨xf, xt, xA, xl, xc⟩ := x
      obtain ⟨yf, yt, yA, yl, yc⟩ := y
      simp only [Pm.mk.injEq] at hxy hxl hL1 hL2
      obtain ⟨rfl, rfl, rfl⟩ := hxy
      have HC := Lib.hid (fun W (hW : Below w.heap.size w W) => eqMail_same xf xt xA yA xl xc yc W ((hL1.below hW (Nat.le_refl _)).more hW.size) ((hL2.below hW (Nat.le_refl _)).more hW.size) hxl)
      clear hL1 hL2
      have hp : PairM w (a1.add (k * 3)) (a2.add (k * 3)) ⟨xf, xt, xA, xl, xc⟩ ⟨xf, xt, yA, xl, yc⟩ wr := ⟨c0, d0, HR.out⟩
      clear c0 d0
      go_wp2_with fail
      go_region_held3 (fun W => MAt W (a1.add (k * 3)) ⟨xf, xt, xA, xl, xc⟩ ∧ MAt W (a2.add (k * 3)) ⟨xf, xt, yA, xl, yc⟩ ∧ Below w.heap.size w W)
        (first | exact PairM.drew (by assumption) | exact PairM.step (by assumption) hb)
        (first | (go_at_call 65; refine (HC.out _ (PairM.below (by assumption))).mono ?_; rintro x w' ⟨rfl, hb⟩))
      have h2 : PairM w (a1.add (k * 3)) (a2.add (k * 3)) ⟨xf, xt, xA, xl, xc⟩ ⟨xf, xt, yA, xl, yc⟩ w' := by assumption
      have HB1 := Lib.hid h2.2.2
      clear h2 hp
      go_wp2_with fail
      go_roundw
      case rel => exact ⟨k + 1, by omega, by go_num, HB1⟩
      case measure => simp [intOf]; omega
    · go_wp2_with fail
      go_ret
      exact ⟨rfl, HR.out⟩

/-- Few enough to be compared. -/
def Few (n : Nt) : Prop := n.s.length ≤ maxLen ∧ n.m.length ≤ maxLen ∧ (∀ x ∈ n.s, x.l.length ≤ maxLen) ∧ ∀ y ∈ n.m, y.x.l.length ≤ maxLen

theorem eqNet_same (n n' : Nt) (w : World) (ha : NLies w w.heap.size n) (hb : NLies w w.heap.size n') (he : pl n = pl n') (hl : Few n) :
    Calls Try.prog 12 #[n.val, n'.val] w fun x w' => x = .returned (.bool true) ∧ Below w.heap.size w w' := by
  obtain ⟨A, s, ca, B, m, cb⟩ := n
  obtain ⟨A', s', ca', B', m', cb'⟩ := n'
  have hps : ps s = ps s' := congrArg Prod.fst he
  have hpm : pm m = pm m' := congrArg Prod.snd he
  have HS := Lib.hid (fun W (hW : Below w.heap.size w W) => eqRowSS_same A A' s s' ca ca' W ((ha.1.below hW (Nat.le_refl _)).more hW.size) ((hb.1.below hW (Nat.le_refl _)).more hW.size) hps hl.1 hl.2.2.1)
  have HM := Lib.hid (fun W (hW : Below w.heap.size w W) => eqMailS_same B B' m m' cb cb' W ((ha.2.below hW (Nat.le_refl _)).more hW.size) ((hb.2.below hW (Nat.le_refl _)).more hW.size) hpm hl.2.1 hl.2.2.2)
  clear ha hb hl he hps hpm
  unfold Nt.val
  have B0 := (((Below.refl w.heap.size w).alloc (Nat.le_refl _) (Obj.cells #[.slice A s.length ca, .slice B m.length cb] 31)).alloc (by simp) (Obj.cells #[.slice A' s'.length ca', .slice B' m'.length cb'] 31))
  go_enter Try.func12, Try.ntmps12
  go_wp2_with fail
  refine (HS.out _ B0).mono ?_
  rintro x w1 ⟨rfl, hb⟩
  have p := ((Blk.new w 31 #[.slice A s.length ca, .slice B m.length cb]).alloc (Obj.cells #[.slice A' s'.length ca', .slice B' m'.length cb'] 31)).step hb (by simp; omega)
  have q := (Blk.new (World.alloc w (Obj.cells #[.slice A s.length ca, .slice B m.length cb] 31)) 31 #[.slice A' s'.length ca', .slice B' m'.length cb']).step hb (by simp)
  have B1 := B0.trans (hb.mono (by simp; omega))
  simp only [World.size_alloc] at p q
  obtain ⟨p0, p1⟩ := blk2 p
  obtain ⟨q0, q1⟩ := blk2 q
  clear hb B0 p q
  go_wp2_with fail
  refine (HM.out _ B1).mono ?_
  rintro x w2 ⟨rfl, hb⟩
  have B2 := Lib.hid (B1.trans (hb.mono B1.size))
  clear hb B1 p0 p1 q0 q1
  go_wp2_with fail
  go_ret
  exact ⟨rfl, B2.out⟩

theorem eqNetOut_same (n n' : Nt) (c : Int) (w : World) (ha : NLies w w.heap.size n) (hb : NLies w w.heap.size n') (he : pl n = pl n') (hl : Few n) :
    Calls Try.prog 15 #[n.out c, n'.out c] w fun x w' => x = .returned (.bool true) ∧ Below w.heap.size w w' := by
  have hcc : (c == c) = true := beq_self_eq_true c
  have hcn : (c != c) = false := by simp
  have HN := Lib.hid (fun W (hW : Below w.heap.size w W) => eqNet_same n n' W ((ha.below hW (Nat.le_refl _)).more hW.size) ((hb.below hW (Nat.le_refl _)).more hW.size) he hl)
  clear ha hb hl he
  obtain ⟨A, s, ca, B, m, cb⟩ := n
  obtain ⟨A', s', ca', B', m', cb'⟩ := n'
  unfold Nt.val at HN
  unfold Nt.out
  have B0 := (((Below.refl w.heap.size w).alloc (Nat.le_refl _) (Obj.cells #[.slice A s.length ca, .slice B m.length cb, .int .i64 c] 36)).alloc (by simp) (Obj.cells #[.slice A' s'.length ca', .slice B' m'.length cb', .int .i64 c] 36))
  go_enter Try.func15, Try.ntmps15
  go_wp2_with fail
  refine (HN.out _ B0).mono ?_
  rintro x w1 ⟨rfl, hb⟩
  have p := ((Blk.new w 36 #[.slice A s.length ca, .slice B m.length cb, .int .i64 c]).alloc (Obj.cells #[.slice A' s'.length ca', .slice B' m'.length cb', .int .i64 c] 36)).step hb (by simp; omega)
  have q := (Blk.new (World.alloc w (Obj.cells #[.slice A s.length ca, .slice B m.length cb, .int .i64 c] 36)) 36 #[.slice A' s'.length ca', .slice B' m'.length cb', .int .i64 c]).step hb (by simp)
  have B1 := Lib.hid (B0.trans (hb.mono (by simp; omega)))
  simp only [World.size_alloc] at p q
  obtain ⟨p0, p1, p2⟩ := blk3 p
  obtain ⟨q0, q1, q2⟩ := blk3 q
  clear hb B0 p q
  go_wp2_with fail
  go_ret
  exact ⟨rfl, B1.out⟩
end Go.Proofs.Ythagkjofpfafiaa.Net
