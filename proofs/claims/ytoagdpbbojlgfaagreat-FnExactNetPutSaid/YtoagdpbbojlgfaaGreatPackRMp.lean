/-
  Several texts in one: RowMap, RowGet.
-/
import Derived.Test.YtoagdpbbojlgfaaGreatRowIRight
import Derived.Maps.OwnSet
import Derived.Maps.OwnOps
import Derived.Maps.RangeWalk
import Derived.Sort.KeysCollected
import Derived.Test.YtoagdpbbojlgfaaGreatRowNew
import Derived.Deep.DeepCutAuto
/-
  A map from strings to rows: what it has at each key, and what the operations make of it.
-/
namespace Go.Proofs.YtoagdpbbojlgfaaGreat.Sto
open Go.ChangeShapes Go.WideShapes Go.ChangeAt Go.RowKit
open Dep (I D zero kl list_eq)
set_option linter.unusedVariables false
set_option maxRecDepth 100000

theorem keyed : Go.Maps.Keyed Tryz.prog 9 := Go.Maps.string_keyed Tryz.underlying9
theorem mapT : Tryz.prog.underlying 183 = some (.map 9 42) := Tryz.underlying183
theorem zeroE (w : World) : (zeroValue 42).run Tryz.prog w = .ok zeroR.val w := by kernel_rfl

open Classical in
/-- How a row in a map reads: as itself. -/
noncomputable def rowE (v : Value) : Option (DataW Value × List MemPlace) := if ∃ r : R, v = r.val then some (.held v, []) else none
theorem rowE_mk (r : R) : rowE r.val = some (.held r.val, []) := by unfold rowE; rw [if_pos ⟨r, rfl⟩]
theorem rowE_inv {v : Value} {y : DataW Value × List MemPlace} (h : rowE v = some y) : ∃ r : R, v = r.val ∧ y = (.held r.val, []) := by
  unfold rowE at h
  by_cases e : ∃ r : R, v = r.val
  · rw [if_pos e] at h
    obtain ⟨r, rfl⟩ := e
    exact ⟨r, rfl, by cases h; rfl⟩
  · rw [if_neg e] at h; cases h
theorem val_inj {a b : R} (h : a.val = b.val) : a = b := by
  cases a with | mk k i b1 => cases b with | mk k2 i2 b2 =>
    cases i; cases i2
    unfold R.val at h
    simp only [Value.agg.injEq, Array.mk.injEq, List.cons.injEq, Value.string.injEq, Value.int.injEq, and_true, true_and] at h
    obtain ⟨h1, h2, h3, h4, h5⟩ := h
    subst h1 h2 h3 h4 h5; rfl

/-- What a key reads as. -/
abbrev lit (q : ByteArray) : Lit := .string q.data.toList
theorem lit_inj {p q : ByteArray} (h : lit p = lit q) : p = q := by
  injection h with h
  exact list_eq h
theorem key_lit {q : ByteArray} (hq : q.size ≤ maxLen) : keyOf Tryz.prog 9 (.string q) = some (lit q) := Go.WideMaps.keyOf_string_mk Tryz.underlying9 hq

def Reads (D : DataW Value) (f : ByteArray → Option R) : Prop := ∀ q, (f q = none → Go.Maps.has D (lit q) = false) ∧ ∀ r, f q = some r → ∀ z, D.atKey (lit q) z = .held r.val
/-- Block b is a map of at most n entries that has f. -/
def MapIs (w : World) (b n : Nat) (f : ByteArray → Option R) : Prop := ∃ D, w.ownsMap Tryz.prog 9 rowE b n D ∧ Reads D f
theorem MapIs.lt {w : World} {b n : Nat} {f : ByteArray → Option R} (h : MapIs w b n f) : b < w.heap.size := by obtain ⟨D, h, _⟩ := h; exact h.lt
theorem MapIs.mono {w : World} {b n n' : Nat} {f : ByteArray → Option R} (h : MapIs w b n f) (hn : n ≤ n') : MapIs w b n' f := by obtain ⟨D, h, h2⟩ := h; exact ⟨D, h.mono hn, h2⟩
theorem MapIs.kept {w w' : World} {b n : Nat} {row : Option Nat} {f : ByteArray → Option R} (h : MapIs w b n f) (hg : w.grownBy w' row) (hne : some b ≠ row) : MapIs w' b n f := by obtain ⟨D, h, h2⟩ := h; exact ⟨D, h.kept hg hne, h2⟩
theorem MapIs.alloc {w : World} {b n : Nat} {f : ByteArray → Option R} (h : MapIs w b n f) (o : Obj) : MapIs (w.alloc o) b n f := h.kept (World.grownBy_alloc w o none) (by simp)
theorem MapIs.step {w w' : World} {b n N : Nat} {f : ByteArray → Option R} (h : MapIs w b n f) (hb : Below N w w') (hN : w.heap.size ≤ N) : MapIs w' b n f :=
  h.kept (row := none) ⟨hb.os, hb.tape, hb.output, hb.size, fun k hk _ => hb.block k (by omega)⟩ (by simp)
theorem MapIs.congr {w : World} {b n : Nat} {f g : ByteArray → Option R} (h : MapIs w b n f) (e : ∀ q, f q = g q) : MapIs w b n g := by
  have : f = g := funext e
  rwa [← this]
theorem MapIs.made (w : World) : MapIs (w.alloc (.map #[] 0)) w.heap.size 0 (fun _ => none) :=
  ⟨_, World.ownsMap_made w _ _ _, fun q => ⟨fun _ => rfl, fun r h => (by cases h)⟩⟩

def upd (f : ByteArray → Option R) (q : ByteArray) (r : Option R) : ByteArray → Option R := fun p => if p = q then r else f p

section
variable {ops : Array Oper} {rest : List Oper} {o : Oper} {a : Act} {w : World} {Q : Exit → Act → World → Prop} {b n : Nat} {f : ByteArray → Option R}

theorem wpList_put (hg : o.guard = none) (m x v : Operand) (hop : o.op = Op.mapUpdate 183 m x v) (h : MapIs w b n f) (hm : a.eval m = .map (some b)) (hn : n < maxLen) (q : ByteArray) (r : R) (hq : q.size ≤ maxLen)
    (hx : a.eval x = .string q) (hv : a.eval v = r.val) (hK : ∀ w', MapIs w' b (n + 1) (upd f q (some r)) → w.grownBy w' (some b) → wpList Tryz.prog ops Q rest (a.put o.dst undef) w') : wpList Tryz.prog ops Q (o :: rest) a w := by
  obtain ⟨D, hown, hf⟩ := h
  refine wpList_mapUpdate_own w hg m x v _ hop _ _ keyed mapT rowE b n D hm hown hn _ _ (lit q) hx hv (key_lit hq) (.held r.val) [] (rowE_mk r) ?_
  intro w' ho hgw
  refine hK w' ⟨_, ho, fun p => ?_⟩ hgw
  unfold upd
  by_cases e : p = q
  · subst e
    rw [if_pos rfl]
    exact ⟨fun h => (by cases h), fun r' h z => (by cases h; exact Go.Maps.atKey_put_same (k := lit p) hown.isMap trivial _ z)⟩
  · have hne : lit p ≠ lit q := fun h => e (lit_inj h)
    rw [if_neg e]
    exact ⟨fun h => (by rw [Go.Maps.has_put_other hne]; exact (hf p).1 h), fun r' h z => (by rw [Go.Maps.atKey_put_other hne]; exact (hf p).2 r' h z)⟩

theorem wpList_get (hg : o.guard = none) (m x : Operand) (hop : o.op = Op.lookup 183 m x false) (h : MapIs w b n f) (hm : a.eval m = .map (some b)) (q : ByteArray) (hq : q.size ≤ maxLen)
    (hx : a.eval x = .string q) (hK : wpList Tryz.prog ops Q rest (a.put o.dst ((f q).getD zeroR).val) w) : wpList Tryz.prog ops Q (o :: rest) a w := by
  obtain ⟨D, hown, hf⟩ := h
  refine wpList_plain hg fun K' hK' => ?_
  obtain ⟨v, ps, hrun, hv⟩ := hown.lookup keyed mapT (zeroE w) (rowE_mk zeroR) (key_lit hq)
  have e : v = ((f q).getD zeroR).val := by
    obtain ⟨r, rfl, hr⟩ := rowE_inv hv
    injection hr with hr _
    cases hq : f q with
    | none =>
      rw [Go.Maps.atKey_of_not_has ((hf q).1 hq)] at hr
      injection hr with hr
      exact hr.symm
    | some r' =>
      rw [(hf q).2 r' hq] at hr
      injection hr with hr
      exact hr.symm
  subst e
  unfold Oper.wp
  simp [execOp, hop, hm, hx, hrun, Result.andThen]
  exact hK' _ _ hK

theorem wpList_del (hg : o.guard = none) (m x : Operand) (hop : o.op = Op.call { callee := Callee.builtin Builtin.delete, args := #[m, x], argTypes := #[183, 9] }) (h : MapIs w b n f) (hm : a.eval m = .map (some b)) (q : ByteArray) (hq : q.size ≤ maxLen)
    (hx : a.eval x = .string q) (hK : ∀ w', MapIs w' b n (upd f q none) → w.grownBy w' (some b) → wpList Tryz.prog ops Q rest (a.put o.dst (.tuple #[])) w') : wpList Tryz.prog ops Q (o :: rest) a w := by
  obtain ⟨D, hown, hf⟩ := h
  refine wpList_delete_own w hg m x _ _ hop _ keyed mapT rowE b n D hm hown _ (lit q) hx (key_lit hq) ?_
  intro w' ho ht
  refine hK w' ⟨_, ho, fun p => ?_⟩ ht.grown
  unfold upd
  by_cases e : p = q
  · subst e
    rw [if_pos rfl]
    exact ⟨fun _ => Go.Maps.has_del_same, fun r' h => (by cases h)⟩
  · have hne : lit p ≠ lit q := fun h => e (lit_inj h)
    rw [if_neg e]
    exact ⟨fun h => (by rw [Go.Maps.has_del_other hne]; exact (hf p).1 h), fun r' h z => (by rw [Go.Maps.atKey_del_other hne]; exact (hf p).2 r' h z)⟩

theorem reads_has {D : DataW Value} (hf : Reads D f) (q : ByteArray) : Go.Maps.has D (lit q) = (f q).isSome := by
  cases h : f q with
  | none => rw [(hf q).1 h]; rfl
  | some r => rw [Go.Maps.has_true_of_atKey ((hf q).2 r h)]; rfl
theorem keys_perm {D : DataW Value} (hown : w.ownsMap Tryz.prog 9 rowE b n D) (hf : Reads D f) {ks : List (List UInt8)} (hk : ks.Nodup) (hm : ∀ x, x ∈ ks ↔ (f ⟨x.toArray⟩).isSome = true) : ks.Perm (strKeys D) := by
  obtain ⟨es, hD, hpw, _⟩ := hown.entries keyed
  obtain ⟨es', hD', hko⟩ := hown.keysOf
  obtain rfl : es = es' := by rw [hD] at hD'; simpa using hD'
  subst hD
  refine perm_strKeys hpw (fun p hp => ?_) hk fun x => ?_
  · obtain ⟨v, hv⟩ := hko p hp
    obtain ⟨x, _, hx, _⟩ := Go.Maps.keyOf_str Tryz.underlying9 hv
    exact ⟨x, hx⟩
  · rw [hm x, ← reads_has hf]
theorem size_keys {D : DataW Value} (hown : w.ownsMap Tryz.prog 9 rowE b n D) (hf : Reads D f) {ks : List (List UInt8)} (hk : ks.Nodup) (hm : ∀ x, x ∈ ks ↔ (f ⟨x.toArray⟩).isSome = true) : Go.Maps.size D = ks.length := by
  have hp := keys_perm hown hf hk hm
  obtain ⟨es, hD, _⟩ := hown.keysOf
  subst hD
  rw [hp.length_eq]
  simp [strKeys, Go.Maps.size]

theorem wpList_size (hg : o.guard = none) (m : Operand) (hop : o.op = Op.call { callee := Callee.builtin Builtin.len, args := #[m], argTypes := #[183] }) (h : MapIs w b n f) (hm : a.eval m = .map (some b))
    {ks : List (List UInt8)} (hk : ks.Nodup) (hmem : ∀ x, x ∈ ks ↔ (f ⟨x.toArray⟩).isSome = true) (hK : wpList Tryz.prog ops Q rest (a.put o.dst (.int .i64 (ks.length : Int))) w) : wpList Tryz.prog ops Q (o :: rest) a w := by
  obtain ⟨D, hown, hf⟩ := h
  refine wpList_len_own w hg m _ hop _ _ mapT rowE b n D hm hown ?_
  rw [size_keys hown hf hk hmem]
  exact hK
end

/-- A map, and what is laid over it. -/
def over (fd fs : ByteArray → Option R) : ByteArray → Option R := fun q => match fs q with | some r => some r | none => fd q
/-- .. but for what is still to come. -/
def mixed (fd fs : ByteArray → Option R) (left : Lit → Bool) : ByteArray → Option R := fun q => match fs q with | some r => if left (lit q) = true then fd q else some r | none => fd q
theorem mixed_start {D : DataW Value} {fd fs : ByteArray → Option R} (hf : Reads D fs) (q : ByteArray) : fd q = mixed fd fs (Go.Maps.has D) q := by
  unfold mixed
  have := reads_has hf q
  cases h : fs q with
  | none => rfl
  | some r =>
    rw [h] at this
    show fd q = if Go.Maps.has D (lit q) = true then fd q else some r
    rw [this]; rfl
theorem mixed_step {fd fs : ByteArray → Option R} {left : Lit → Bool} {x : ByteArray} {r : R} (hx : fs x = some r) (q : ByteArray) :
    upd (mixed fd fs left) x (some r) q = mixed fd fs (fun z => left z && !z.sameKey (lit x)) q := by
  unfold upd mixed
  by_cases e : q = x
  · subst e
    rw [if_pos rfl, hx]
    have : (lit q).sameKey (lit q) = true := WideAt.sameKey_self trivial
    show some r = if (left (lit q) && !(lit q).sameKey (lit q)) = true then fd q else some r
    rw [this]
    simp
  · rw [if_neg e]
    have : (lit q).sameKey (lit x) = false := Go.Maps.sameKey_ne fun h => e (lit_inj h)
    cases fs q with
    | none => rfl
    | some r' =>
      show (if left (lit q) = true then fd q else some r') = if (left (lit q) && !(lit q).sameKey (lit x)) = true then fd q else some r'
      rw [this]
      simp
theorem mixed_end {fd fs : ByteArray → Option R} {left : Lit → Bool} (hl : ∀ z, left z = false) (q : ByteArray) : mixed fd fs left q = over fd fs q := by
  unfold mixed over
  cases fs q with
  | none => rfl
  | some r => simp [hl]

set_option maxHeartbeats 4000000 in
theorem copy_any (bd bs nd ns : Nat) (fd fs : ByteArray → Option R) (w : World) (hd : MapIs w bd nd fd) (hs : MapIs w bs ns fs) (hne : bd ≠ bs) (hroom : nd + ns ≤ 1000000) :
    Calls Tryz.prog 180 #[.map (some bd), .map (some bs)] w fun e w' => e = .returned (.tuple #[]) ∧ MapIs w' bd (nd + ns) (over fd fs) ∧ w.grownBy w' (some bd) := by
  have hbd := hd.lt
  have hbs := hs.lt
  obtain ⟨Ds, hso, hsf⟩ := hs
  have hsz := hso.size_le
  have HS := Lib.hid hsf
  have HD := Lib.hid hd
  clear hsf hd
  go_enter Tryz.func180, Tryz.ntmps180
  go_wp2_with (first
    | (at_range; refine wpList_range_own _ rfl _ 183 rfl 9 42 keyed mapT rowE bs ns _ rfl hso ?_; intro w0 hrg0 hg0 hs0)
    | go_in)
  go_frame
  go_loopw [8] (fun _ wr => ∃ (left : Lit → Bool) (cnt n : Nat), wr.ranges Tryz.prog 9 rowE bs w.heap.size ns Ds left cnt ∧ n + cnt ≤ nd + ns ∧ Hid (MapIs wr bd n (mixed fd fs left) ∧ w.grownBy wr (some bd)))
    (fun _ wr => wr.rangeLeft bs w.heap.size)
  case atStart =>
    exact ⟨_, _, nd, hrg0, by omega, Lib.hid ⟨(HD.out.kept hg0 (by simp)).congr (mixed_start HS.out), hg0.but _⟩⟩
  case round =>
    obtain ⟨left, cnt, n, hrg, hcs, HR⟩ := hrel
    go_wp2_with (first
      | (at_next; refine wpList_next_ranges _ rfl _ rfl 9 keyed rowE Value.string R.val (fun key kl h => by obtain ⟨x, hx, _⟩ := Go.Maps.keyOf_str Tryz.underlying9 h; exact ⟨⟨x.toArray⟩, hx⟩) (fun v y h => by obtain ⟨r, hr, _⟩ := rowE_inv h; exact ⟨r, hr⟩) bs w.heap.size ns _ _ _ rfl hrg ?_ ?_)
      | go_in)
    · intro hc0 hl0
      have HL := Lib.hid hl0
      clear hl0
      go_wp2_with fail
      go_end0
      exact ⟨rfl, (HR.out.1.congr (mixed_end HL.out)).mono (by omega), HR.out.2⟩
    · intro x r kl yd yp w1 cnt1 hkey hlx hv hat hrg1 hlt hg1 hs1 hen
      have hxs : x.size ≤ maxLen := by
        obtain ⟨u, hu, _, hul⟩ := Go.Maps.keyOf_str Tryz.underlying9 hkey
        have : x = ⟨u.toArray⟩ := by injection hu
        rw [this]
        simpa [ByteArray.size] using hul
      have hkl : kl = lit x := by rw [key_lit hxs] at hkey; injection hkey with hkey; exact hkey.symm
      subst hkl
      have hfx : fs x = some r := by
        cases hx : fs x with
        | none =>
          have h1 := (HS.out x).1 hx
          rw [Go.Maps.has_true_of_atKey hat] at h1
          cases h1
        | some r' =>
          have h1 := (HS.out x).2 r' hx
          have h2 := (h1 .nil).symm.trans (hat .nil)
          obtain ⟨r2, e2, e3⟩ := rowE_inv hv
          injection e3 with e3 _
          rw [e3] at h2
          injection h2 with h2
          rw [← e2] at h2
          rw [val_inj h2]
      have HF := Lib.hid hfx
      have hout1 := HR.out.1.kept hg1 (fun e => by have := Option.some.inj e; omega)
      have HO := Lib.hid (hout1.alloc r.obj)
      have HG := Lib.hid (HR.out.2.andThen hg1 (fun j hj => .inl (by cases hj; exact Nat.le_refl _)))
      clear hfx hout1 hkey hv hat hlx hg1
      unfold R.val at hen ⊢
      go_wp2_with (first
        | (at_mapUpdate; refine wpList_put rfl _ _ _ rfl HO.out rfl (by unfold maxLen; omega) x r hxs rfl rfl ?_; intro w2 hout2 hg2; go_frame)
        | go_in)
      have hrg2 := (hrg1.alloc r.obj).kept hg2 (fun e => hne (Option.some.inj e).symm) (fun e => by have := Option.some.inj e; omega)
      go_roundw
      case rel =>
        exact ⟨_, cnt1, n + 1, hrg2, by omega, Lib.hid ⟨hout2.congr (mixed_step HF.out), (HG.out.andThen (World.grownBy_alloc w1 r.obj none) (fun j hj => by cases hj)).andThen hg2 (fun j hj => .inr hj)⟩⟩
      case measure => rw [hrg2.left_eq, hrg.left_eq]; exact hlt
end Go.Proofs.YtoagdpbbojlgfaaGreat.Sto

/-
  What a store has at a key: spec.l05Get, spec.StoreGet, impl.rowsByKey, impl.StoreGet.
-/
namespace Go.Proofs.YtoagdpbbojlgfaaGreat.Sto
open Go.ChangeShapes Go.WideShapes Go.ChangeAt Go.RowKit
open Dep (I D zero kl list_eq)
set_option linter.unusedVariables false
set_option maxRecDepth 100000

/-- A row by value, found or none. -/
theorem specGet_any (A : Option Addr) (l : List R) (cap : Nat) (q : ByteArray) (w : World) (h : Lies w w.heap.size A l) (hl : l.length ≤ maxLen) :
    Calls Tryz.prog 187 #[slV A l cap, .string q] w fun e w' => e = .returned (getW l q).val ∧ Below w.heap.size w w' := by
  unfold maxLen at hl
  unfold slV
  have H := Lib.hid h
  clear h
  go_enter Tryz.func187, Tryz.ntmps187
  go_wp2_with fail
  have H1 := Lib.hid (H.out.alloc (Nat.le_refl _) (Obj.cells #[Value.string ⟨#[]⟩, Value.int IntKind.i64 0, Value.int IntKind.i64 0, Value.int IntKind.i64 0, Value.string ⟨#[]⟩] 42))
  have B1 := Lib.hid ((Below.refl w.heap.size w).alloc (Nat.le_refl _) (Obj.cells #[Value.string ⟨#[]⟩, Value.int IntKind.i64 0, Value.int IntKind.i64 0, Value.int IntKind.i64 0, Value.string ⟨#[]⟩] 42))
  have r : RowRow (w.alloc (Obj.cells #[Value.string ⟨#[]⟩, Value.int IntKind.i64 0, Value.int IntKind.i64 0, Value.int IntKind.i64 0, Value.string ⟨#[]⟩] 42)) w.heap.size 42 zeroR := RowRow.new w 42 zeroR
  obtain ⟨r0, r1, r2, r3, r4⟩ := r.cells
  have f0 := r.free 0
  have f1 := r.free 1
  have f2 := r.free 2
  have f3 := r.free 3
  have f4 := r.free 4
  generalize hb : w.heap.size = b at *
  generalize World.alloc w _ = W at *
  clear r H
  go_loop [5] (fun i => ∃ k : Nat, k ≤ l.length ∧ i = .int .i64 k ∧ Hid (findW (l.drop k) q = findW l q)) (fun i => l.length - (intOf i).toNat)
  case atStart => exact ⟨0, by omega, rfl, Lib.hid rfl⟩
  case round =>
    obtain ⟨k, hk, rfl, HJ⟩ := hrel
    by_cases hlt : k < l.length
    · obtain ⟨ad, rfl, hb, c0, c1, c2, c3, c4⟩ := H1.out.at_ hlt
      have hd : l.drop k = l[k] :: l.drop (k + 1) := List.drop_eq_getElem_cons hlt
      by_cases he : l[k].k = q
      · have hee : (l[k].k.toList == q.toList) = true := by rw [he]; exact beq_self_eq_true _
        have HV : Hid (getW l q = l[k]) := by
          refine Lib.hid ?_
          unfold getW
          rw [← HJ.out, hd, findW, if_pos he]
          rfl
        clear he hd
        go_wp2_with fail
        refine bodyPost_ret (v := .agg #[.string l[k].k, .int .i64 l[k].i.c, .int .i64 l[k].i.s, .int .i64 l[k].i.e, .string l[k].b]) (by simp [results, Tryz.results187, go_sem, r0, r1, r2, r3, r4]) rfl ⟨?_, ?_⟩
        · rw [HV.out]; rfl
        · exact ((((B1.out.setCell (Nat.le_refl _) _).setCell (Nat.le_refl _) _).setCell (Nat.le_refl _) _).setCell (Nat.le_refl _) _).setCell (Nat.le_refl _) _
      · have hee : (l[k].k.toList == q.toList) = false := beq_eq_false_iff_ne.2 fun h => he (list_eq (by rw [← ByteArray.toList_eq, ← ByteArray.toList_eq]; exact h))
        have HV : Hid (findW (l.drop (k + 1)) q = findW l q) := by exact Lib.hid (by rw [← HJ.out, hd, findW, if_neg he])
        clear he hd
        go_wp2_with fail
        go_round
        case rel => exact ⟨k + 1, by omega, by go_num, HV⟩
        case measure => simp [intOf]; omega
    · have HV : Hid (getW l q = zeroR) := by
        refine Lib.hid ?_
        unfold getW
        rw [← HJ.out, List.drop_eq_nil_of_le (by omega)]
        rfl
      go_wp2_with fail
      refine bodyPost_ret (v := .agg #[.string ⟨#[]⟩, .int .i64 0, .int .i64 0, .int .i64 0, .string ⟨#[]⟩]) (by simp [results, Tryz.results187, go_sem, r0, r1, r2, r3, r4]) rfl ⟨?_, ?_⟩
      · rw [HV.out]; rfl
      · exact ((((B1.out.setCell (Nat.le_refl _) _).setCell (Nat.le_refl _) _).setCell (Nat.le_refl _) _).setCell (Nat.le_refl _) _).setCell (Nat.le_refl _) _

/-- What a store, be it right or not, tells of a key. -/
noncomputable def tellV (l : List R) (q : ByteArray) : R := if rowsB l = true then getW l q else zeroR
theorem tell_true {l : List R} {q : ByteArray} (h : rowsB l = true) : tellV l q = getW l q := by unfold tellV; rw [if_pos h]
theorem tell_false {l : List R} {q : ByteArray} (h : rowsB l = false) : tellV l q = zeroR := by unfold tellV; rw [if_neg (by rw [h]; decide)]

theorem specStoreGet_any (A : Option Addr) (l : List R) (cap : Nat) (q : ByteArray) (w : World) (h : Lies w w.heap.size A l) (hl : l.length ≤ maxLen) (hk : ∀ d ∈ l, Fits d) :
    Calls Tryz.prog 76 #[slV A l cap, .string q] w fun e w' => e = .returned (tellV l q).val ∧ Below w.heap.size w w' := by
  have H := Lib.hid h
  have HS := Lib.hid (fun W (hW : Lies W W.heap.size A l) => specStore_any A l cap W hW hl hk)
  have HG := Lib.hid (fun W (hW : Lies W W.heap.size A l) => specGet_any A l cap q W hW hl)
  clear h hk
  have B1 := Lib.hid ((Below.refl w.heap.size w).alloc (Nat.le_refl _) (Obj.cells #[Value.string ⟨#[]⟩, Value.int IntKind.i64 0, Value.int IntKind.i64 0, Value.int IntKind.i64 0, Value.string ⟨#[]⟩] 42))
  have HR := Lib.hid (show RowRow (w.alloc (Obj.cells #[Value.string ⟨#[]⟩, Value.int IntKind.i64 0, Value.int IntKind.i64 0, Value.int IntKind.i64 0, Value.string ⟨#[]⟩] 42)) w.heap.size 42 zeroR from RowRow.new w 42 zeroR)
  unfold slV at *
  go_enter Tryz.func76, Tryz.ntmps76
  go_wp2_with fail
  refine (HS.out _ ((H.out.below B1.out (Nat.le_refl _)).more B1.out.size)).mono ?_
  rintro e w1 ⟨rfl, hb1⟩
  have HR1 := Lib.hid (HR.out.on hb1)
  have B2 := Lib.hid (B1.out.trans (hb1.mono B1.out.size))
  clear hb1
  cases hr : rowsB l
  · have HV := Lib.hid (tell_false (q := q) hr)
    obtain ⟨r0, r1, r2, r3, r4⟩ := HR1.out.cells
    have f0 := HR1.out.free 0
    have f1 := HR1.out.free 1
    have f2 := HR1.out.free 2
    have f3 := HR1.out.free 3
    have f4 := HR1.out.free 4
    clear hr
    go_wp2_with fail
    refine bodyPost_ret (v := .agg #[.string ⟨#[]⟩, .int .i64 0, .int .i64 0, .int .i64 0, .string ⟨#[]⟩]) (by simp [results, Tryz.results76, go_sem, r0, r1, r2, r3, r4]) rfl ⟨?_, ?_⟩
    · rw [HV.out]; rfl
    · exact ((((B2.out.setCell (Nat.le_refl _) _).setCell (Nat.le_refl _) _).setCell (Nat.le_refl _) _).setCell (Nat.le_refl _) _).setCell (Nat.le_refl _) _
  · have HV := Lib.hid (tell_true (q := q) hr)
    clear hr
    go_wp2_with fail
    refine (HG.out _ ((H.out.below B2.out (Nat.le_refl _)).more B2.out.size)).mono ?_
    rintro e w2 ⟨rfl, hb2⟩
    have HR2 := Lib.hid (HR1.out.on hb2)
    have B3 := Lib.hid (B2.out.trans (hb2.mono B2.out.size))
    clear hb2
    obtain ⟨r0, r1, r2, r3, r4⟩ := HR2.out.cells
    have f0 := HR2.out.free 0
    have f1 := HR2.out.free 1
    have f2 := HR2.out.free 2
    have f3 := HR2.out.free 3
    have f4 := HR2.out.free 4
    obtain ⟨x, hx⟩ : ∃ x, getW l q = x := ⟨_, rfl⟩
    have HX := Lib.hid hx
    rw [hx]
    clear hx
    unfold R.val
    go_wp2_with fail
    refine bodyPost_ret (v := .agg #[.string x.k, .int .i64 x.i.c, .int .i64 x.i.s, .int .i64 x.i.e, .string x.b]) (by simp [results, Tryz.results76, go_sem, r0, r1, r2, r3, r4]) rfl ⟨?_, ?_⟩
    · rw [HV.out, HX.out]; rfl
    · exact ((((B3.out.setCell (Nat.le_refl _) _).setCell (Nat.le_refl _) _).setCell (Nat.le_refl _) _).setCell (Nat.le_refl _) _).setCell (Nat.le_refl _) _

theorem findW_step {l : List R} (hs : Sorted l) {k : Nat} (hk : k < l.length) (q : ByteArray) : upd (findW (l.take k)) l[k].k (some l[k]) q = findW (l.take (k + 1)) q := by
  have e : l.take (k + 1) = l.take k ++ [l[k]] := by simp
  have hs1 : Sorted (l.take (k + 1)) := List.Pairwise.sublist (List.take_sublist _ _) hs
  unfold upd
  by_cases h : q = l[k].k
  · subst h
    rw [if_pos rfl]
    exact (findW_mem hs1 (by rw [e]; exact List.mem_append_right _ (List.mem_singleton.2 rfl))).symm
  · rw [if_neg h, e]
    generalize l.take k = m
    induction m with
    | nil =>
      show none = (if l[k].k = q then some l[k] else none)
      rw [if_neg fun e => h e.symm]
    | cons x m ih => simp only [List.cons_append, findW, ih]

set_option maxHeartbeats 2000000 in
theorem byKey_any (A : Option Addr) (l : List R) (cap : Nat) (w : World) (h : Lies w w.heap.size A l) (hl : l.length ≤ 1000000) (hs : Sorted l) (hk : ∀ d ∈ l, Fits d) :
    Calls Tryz.prog 179 #[slV A l cap] w fun e w' => e = .returned (.map (some w.heap.size)) ∧ MapIs w' w.heap.size l.length (findW l) ∧ Below w.heap.size w w' := by
  have H := Lib.hid h
  have HK := Lib.hid hk
  have HS := Lib.hid hs
  clear h hk hs
  have hmm := @run_makeMap Tryz.prog
  unfold slV
  go_enter Tryz.func179, Tryz.ntmps179
  go_wp2_with fail
  clear hmm
  go_loopw [9] (fun i wr => ∃ k : Nat, k ≤ l.length ∧ i = .int .i64 k ∧ Hid (MapIs wr w.heap.size k (findW (l.take k)) ∧ Below w.heap.size w wr)) (fun i _ => l.length - (intOf i).toNat)
  case atStart => exact ⟨0, by omega, rfl, Lib.hid ⟨MapIs.made w, (Below.refl _ _).alloc (Nat.le_refl _) _⟩⟩
  case round =>
    obtain ⟨k, hk, rfl, HR⟩ := hrel
    by_cases hlt : k < l.length
    · obtain ⟨ad, rfl, _, c0, c1, c2, c3, c4⟩ := (H.out.below HR.out.2 (Nat.le_refl _)).at_ hlt
      have HST := Lib.hid (findW_step HS.out hlt)
      have hky := (HK.out l[k] (List.getElem_mem hlt)).1
      obtain ⟨y, hy⟩ : ∃ y, l[k] = y := ⟨_, rfl⟩
      rw [hy] at c0 c1 c2 c3 c4 HST hky
      clear hy
      go_wp2_with (first
        | (at_mapUpdate; refine wpList_put rfl _ _ _ rfl (HR.out.1.alloc y.obj) rfl (by unfold maxLen; omega) y.k y hky rfl rfl ?_; intro w2 hm2 hg2; have HM2 := Lib.hid (hm2.congr HST.out); have B2 := Lib.hid ((HR.out.2.alloc HR.out.2.size y.obj).grown hg2 (by have := HR.out.2.size; simp; omega) (fun j hj => by cases hj; exact Nat.le_refl _)); clear hm2 hg2; go_frame)
        | go_in)
      go_roundw
      case rel => exact ⟨k + 1, by omega, by go_num, Lib.hid ⟨HM2.out, B2.out⟩⟩
      case measure => simp [intOf]; omega
    · have e : k = l.length := by omega
      go_wp2_with fail
      go_ret
      refine ⟨rfl, ?_, HR.out.2⟩
      have h1 := HR.out.1
      rw [List.take_of_length_le (by omega), e] at h1
      exact h1

theorem get_fits {l : List R} (hk : ∀ d ∈ l, d.k.size ≤ 1048576 ∧ d.b.size ≤ 1048576) (q : ByteArray) : (getW l q).k.size ≤ 1048576 ∧ (getW l q).b.size ≤ 1048576 := by
  unfold getW
  cases h : findW l q with
  | none => exact ⟨by show (0 : Nat) ≤ _; omega, by show (0 : Nat) ≤ _; omega⟩
  | some r => exact hk r (findW_some h).1
theorem ok_small {l : List R} (h : rowsB l = true) : ∀ d ∈ l, d.k.size ≤ 1048576 ∧ d.b.size ≤ 1048576 := fun d hd => by
  have h1 := (rowB_iff d).1 ((ok_of h).2.1 d hd)
  have h2 := (Key.ok_of h1.1).2.1
  exact ⟨by omega, by omega⟩

set_option maxHeartbeats 1000000 in
theorem implStoreGet_any (A : Option Addr) (l : List R) (cap : Nat) (q : ByteArray) (w : World) (h : Lies w w.heap.size A l) (hl : l.length ≤ 1048576) (hk : ∀ d ∈ l, Fits d) (hq : q.size ≤ maxLen) :
    Calls Tryz.prog 75 #[slV A l cap, .string q] w fun e w' => e = .returned (tellV l q).val ∧ Below w.heap.size w w' := by
  have H := Lib.hid h
  have HS := Lib.hid (fun W (hW : Lies W W.heap.size A l) => implStore_any A l cap W hW hl hk)
  have HG := Lib.hid (fun W (hW : Lies W W.heap.size A l) (hr : rowsB l = true) => byKey_any A l cap W hW (by have := (ok_of hr).1; omega) (ok_of hr).2.2 hk)
  clear h hk
  have B1 := Lib.hid ((Below.refl w.heap.size w).alloc (Nat.le_refl _) (Obj.cells #[Value.string ⟨#[]⟩, Value.int IntKind.i64 0, Value.int IntKind.i64 0, Value.int IntKind.i64 0, Value.string ⟨#[]⟩] 42))
  have HR := Lib.hid (show RowRow (w.alloc (Obj.cells #[Value.string ⟨#[]⟩, Value.int IntKind.i64 0, Value.int IntKind.i64 0, Value.int IntKind.i64 0, Value.string ⟨#[]⟩] 42)) w.heap.size 42 zeroR from RowRow.new w 42 zeroR)
  unfold slV at *
  go_enter Tryz.func75, Tryz.ntmps75
  go_wp2_with fail
  refine (HS.out _ ((H.out.below B1.out (Nat.le_refl _)).more B1.out.size)).mono ?_
  rintro e w1 ⟨rfl, hb1⟩
  have HR1 := Lib.hid (HR.out.on hb1)
  have B2 := Lib.hid (B1.out.trans (hb1.mono B1.out.size))
  clear hb1
  cases hr : rowsB l
  · have HV := Lib.hid (tell_false (q := q) hr)
    obtain ⟨r0, r1, r2, r3, r4⟩ := HR1.out.cells
    have f0 := HR1.out.free 0
    have f1 := HR1.out.free 1
    have f2 := HR1.out.free 2
    have f3 := HR1.out.free 3
    have f4 := HR1.out.free 4
    clear hr
    go_wp2_with fail
    refine bodyPost_ret (v := .agg #[.string ⟨#[]⟩, .int .i64 0, .int .i64 0, .int .i64 0, .string ⟨#[]⟩]) (by simp [results, Tryz.results75, go_sem, r0, r1, r2, r3, r4]) rfl ⟨?_, ?_⟩
    · rw [HV.out]; rfl
    · exact ((((B2.out.setCell (Nat.le_refl _) _).setCell (Nat.le_refl _) _).setCell (Nat.le_refl _) _).setCell (Nat.le_refl _) _).setCell (Nat.le_refl _) _
  · have HV := Lib.hid (tell_true (q := q) hr)
    have HO := Lib.hid hr
    have HF := Lib.hid (get_fits (ok_small hr) q)
    clear hr
    go_wp2_with fail
    refine (HG.out _ ((H.out.below B2.out (Nat.le_refl _)).more B2.out.size) HO.out).mono ?_
    rintro e w2 ⟨rfl, hm2, hb2⟩
    have HR2 := Lib.hid (HR1.out.on hb2)
    have HM2 := Lib.hid hm2
    have B3 := Lib.hid (B2.out.trans (hb2.mono B2.out.size))
    clear hb2 hm2
    go_wp2_with (at_lookup; refine wpList_get rfl _ _ rfl HM2.out rfl q hq rfl ?_)
    refine (newRow_any (getW l q) _ HF.out.1 HF.out.2).mono ?_
    rintro e w3 ⟨rfl, hb3⟩
    have HR3 := Lib.hid (HR2.out.on hb3)
    have B4 := Lib.hid (B3.out.trans (hb3.mono B3.out.size))
    clear hb3
    obtain ⟨r0, r1, r2, r3, r4⟩ := HR3.out.cells
    have f0 := HR3.out.free 0
    have f1 := HR3.out.free 1
    have f2 := HR3.out.free 2
    have f3 := HR3.out.free 3
    have f4 := HR3.out.free 4
    obtain ⟨x, hx⟩ : ∃ x, getW l q = x := ⟨_, rfl⟩
    have HX := Lib.hid hx
    rw [hx]
    clear hx
    unfold R.val
    go_wp2_with fail
    refine bodyPost_ret (v := .agg #[.string x.k, .int .i64 x.i.c, .int .i64 x.i.s, .int .i64 x.i.e, .string x.b]) (by simp [results, Tryz.results75, go_sem, r0, r1, r2, r3, r4]) rfl ⟨?_, ?_⟩
    · rw [HV.out, HX.out]; rfl
    · exact ((((B4.out.setCell (Nat.le_refl _) _).setCell (Nat.le_refl _) _).setCell (Nat.le_refl _) _).setCell (Nat.le_refl _) _).setCell (Nat.le_refl _) _
end Go.Proofs.YtoagdpbbojlgfaaGreat.Sto
