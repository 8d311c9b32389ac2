/-
  A map from strings to rows: what it has at each key, and what the operations make of it.
-/
import Derived.Test.YtlhebgfiljmeiaaRowIRight
import Derived.Maps.OwnSet
import Derived.Maps.OwnOps
import Derived.Maps.RangeWalk
import Derived.Sort.KeysCollected
namespace Go.Proofs.Ytlhebgfiljmeiaa.Sto
open Go.ChangeShapes Go.WideShapes Go.ChangeAt Go.RowKit
open Dep (I D zero kl list_eq)
set_option linter.unusedVariables false
set_option maxRecDepth 100000

theorem keyed : Go.Maps.Keyed Try.prog 9 := Go.Maps.string_keyed Try.underlying9
theorem mapT : Try.prog.underlying 61 = some (.map 9 39) := Try.underlying61
theorem zeroE (w : World) : (zeroValue 39).run Try.prog w = .ok zeroR.val w := by kernel_rfl

open Classical in
/-- How a row in a map reads: as itself. -/
noncomputable def rowE (v : Value) : Option (DataW Value × List MemPlace) := if ∃ r : R, v = r.val then some (.held v, []) else none
theorem rowE_mk (r : R) : rowE r.val = some (.held r.val, []) := by unfold rowE; rw [if_pos ⟨r, rfl⟩]
theorem rowE_inv {v : Value} {y : DataW Value × List MemPlace} (h : rowE v = some y) : ∃ r : R, v = r.val ∧ y = (.held r.val, []) := by
  unfold rowE at h
  by_cases e : ∃ r : R, v = r.val
  · rw [if_pos e] at h
    obtain ⟨r, rfl⟩ := e
    exact ⟨r, rfl, by cases h; rfl⟩
  · rw [if_neg e] at h; cases h
theorem val_inj {a b : R} (h : a.val = b.val) : a = b := by
  cases a with | mk k i b1 => cases b with | mk k2 i2 b2 =>
    cases i; cases i2
    unfold R.val at h
    simp only [Value.agg.injEq, Array.mk.injEq, List.cons.injEq, Value.string.injEq, Value.int.injEq, and_true, true_and] at h
    obtain ⟨h1, h2, h3, h4, h5⟩ := h
    subst h1 h2 h3 h4 h5; rfl

/-- What a key reads as. -/
abbrev lit (q : ByteArray) : Lit := .string q.data.toList
theorem lit_inj {p q : ByteArray} (h : lit p = lit q) : p = q := by
  injection h with h
  exact list_eq h
theorem key_lit {q : ByteArray} (hq : q.size ≤ maxLen) : keyOf Try.prog 9 (.string q) = some (lit q) := Go.WideMaps.keyOf_string_mk Try.underlying9 hq

def Reads (D : DataW Value) (f : ByteArray → Option R) : Prop := ∀ q, (f q = none → Go.Maps.has D (lit q) = false) ∧ ∀ r, f q = some r → ∀ z, D.atKey (lit q) z = .held r.val
/-- Block b is a map of at most n entries that has f. -/
def MapIs (w : World) (b n : Nat) (f : ByteArray → Option R) : Prop := ∃ D, w.ownsMap Try.prog 9 rowE b n D ∧ Reads D f
theorem MapIs.lt {w : World} {b n : Nat} {f : ByteArray → Option R} (h : MapIs w b n f) : b < w.heap.size := by obtain ⟨D, h, _⟩ := h; exact h.lt
theorem MapIs.mono {w : World} {b n n' : Nat} {f : ByteArray → Option R} (h : MapIs w b n f) (hn : n ≤ n') : MapIs w b n' f := by obtain ⟨D, h, h2⟩ := h; exact ⟨D, h.mono hn, h2⟩
theorem MapIs.kept {w w' : World} {b n : Nat} {row : Option Nat} {f : ByteArray → Option R} (h : MapIs w b n f) (hg : w.grownBy w' row) (hne : some b ≠ row) : MapIs w' b n f := by obtain ⟨D, h, h2⟩ := h; exact ⟨D, h.kept hg hne, h2⟩
theorem MapIs.alloc {w : World} {b n : Nat} {f : ByteArray → Option R} (h : MapIs w b n f) (o : Obj) : MapIs (w.alloc o) b n f := h.kept (World.grownBy_alloc w o none) (by simp)
theorem MapIs.step {w w' : World} {b n N : Nat} {f : ByteArray → Option R} (h : MapIs w b n f) (hb : Below N w w') (hN : w.heap.size ≤ N) : MapIs w' b n f :=
  h.kept (row := none) ⟨hb.os, hb.tape, hb.output, hb.size, fun k hk _ => hb.block k (by omega)⟩ (by simp)
theorem MapIs.congr {w : World} {b n : Nat} {f g : ByteArray → Option R} (h : MapIs w b n f) (e : ∀ q, f q = g q) : MapIs w b n g := by
  have : f = g := funext e
  rwa [← this]
theorem MapIs.made (w : World) : MapIs (w.alloc (.map #[] 0)) w.heap.size 0 (fun _ => none) :=
  ⟨_, World.ownsMap_made w _ _ _, fun q => ⟨fun _ => rfl, fun r h => (by cases h)⟩⟩

def upd (f : ByteArray → Option R) (q : ByteArray) (r : Option R) : ByteArray → Option R := fun p => if p = q then r else f p

section
variable {ops : Array Oper} {rest : List Oper} {o : Oper} {a : Act} {w : World} {Q : Exit → Act → World → Prop} {b n : Nat} {f : ByteArray → Option R}

theorem wpList_put (hg : o.guard = none) (m x v : Operand) (hop : o.op = Op.mapUpdate 61 m x v) (h : MapIs w b n f) (hm : a.eval m = .map (some b)) (hn : n < maxLen) (q : ByteArray) (r : R) (hq : q.size ≤ maxLen)
    (hx : a.eval x = .string q) (hv : a.eval v = r.val) (hK : ∀ w', MapIs w' b (n + 1) (upd f q (some r)) → w.grownBy w' (some b) → wpList Try.prog ops Q rest (a.put o.dst undef) w') : wpList Try.prog ops Q (o :: rest) a w := by
  obtain ⟨D, hown, hf⟩ := h
  refine wpList_mapUpdate_own w hg m x v _ hop _ _ keyed mapT rowE b n D hm hown hn _ _ (lit q) hx hv (key_lit hq) (.held r.val) [] (rowE_mk r) ?_
  intro w' ho hgw
  refine hK w' ⟨_, ho, fun p => ?_⟩ hgw
  unfold upd
  by_cases e : p = q
  · subst e
    rw [if_pos rfl]
    exact ⟨fun h => (by cases h), fun r' h z => (by cases h; exact Go.Maps.atKey_put_same (k := lit p) hown.isMap trivial _ z)⟩
  · have hne : lit p ≠ lit q := fun h => e (lit_inj h)
    rw [if_neg e]
    exact ⟨fun h => (by rw [Go.Maps.has_put_other hne]; exact (hf p).1 h), fun r' h z => (by rw [Go.Maps.atKey_put_other hne]; exact (hf p).2 r' h z)⟩

theorem wpList_get (hg : o.guard = none) (m x : Operand) (hop : o.op = Op.lookup 61 m x false) (h : MapIs w b n f) (hm : a.eval m = .map (some b)) (q : ByteArray) (hq : q.size ≤ maxLen)
    (hx : a.eval x = .string q) (hK : wpList Try.prog ops Q rest (a.put o.dst ((f q).getD zeroR).val) w) : wpList Try.prog ops Q (o :: rest) a w := by
  obtain ⟨D, hown, hf⟩ := h
  refine wpList_plain hg fun K' hK' => ?_
  obtain ⟨v, ps, hrun, hv⟩ := hown.lookup keyed mapT (zeroE w) (rowE_mk zeroR) (key_lit hq)
  have e : v = ((f q).getD zeroR).val := by
    obtain ⟨r, rfl, hr⟩ := rowE_inv hv
    injection hr with hr _
    cases hq : f q with
    | none =>
      rw [Go.Maps.atKey_of_not_has ((hf q).1 hq)] at hr
      injection hr with hr
      exact hr.symm
    | some r' =>
      rw [(hf q).2 r' hq] at hr
      injection hr with hr
      exact hr.symm
  subst e
  unfold Oper.wp
  simp [execOp, hop, hm, hx, hrun, Result.andThen]
  exact hK' _ _ hK

theorem wpList_del (hg : o.guard = none) (m x : Operand) (hop : o.op = Op.call { callee := Callee.builtin Builtin.delete, args := #[m, x], argTypes := #[61, 9] }) (h : MapIs w b n f) (hm : a.eval m = .map (some b)) (q : ByteArray) (hq : q.size ≤ maxLen)
    (hx : a.eval x = .string q) (hK : ∀ w', MapIs w' b n (upd f q none) → w.grownBy w' (some b) → wpList Try.prog ops Q rest (a.put o.dst (.tuple #[])) w') : wpList Try.prog ops Q (o :: rest) a w := by
  obtain ⟨D, hown, hf⟩ := h
  refine wpList_delete_own w hg m x _ _ hop _ keyed mapT rowE b n D hm hown _ (lit q) hx (key_lit hq) ?_
  intro w' ho ht
  refine hK w' ⟨_, ho, fun p => ?_⟩ ht.grown
  unfold upd
  by_cases e : p = q
  · subst e
    rw [if_pos rfl]
    exact ⟨fun _ => Go.Maps.has_del_same, fun r' h => (by cases h)⟩
  · have hne : lit p ≠ lit q := fun h => e (lit_inj h)
    rw [if_neg e]
    exact ⟨fun h => (by rw [Go.Maps.has_del_other hne]; exact (hf p).1 h), fun r' h z => (by rw [Go.Maps.atKey_del_other hne]; exact (hf p).2 r' h z)⟩

theorem reads_has {D : DataW Value} (hf : Reads D f) (q : ByteArray) : Go.Maps.has D (lit q) = (f q).isSome := by
  cases h : f q with
  | none => rw [(hf q).1 h]; rfl
  | some r => rw [Go.Maps.has_true_of_atKey ((hf q).2 r h)]; rfl
theorem keys_perm {D : DataW Value} (hown : w.ownsMap Try.prog 9 rowE b n D) (hf : Reads D f) {ks : List (List UInt8)} (hk : ks.Nodup) (hm : ∀ x, x ∈ ks ↔ (f ⟨x.toArray⟩).isSome = true) : ks.Perm (strKeys D) := by
  obtain ⟨es, hD, hpw, _⟩ := hown.entries keyed
  obtain ⟨es', hD', hko⟩ := hown.keysOf
  obtain rfl : es = es' := by rw [hD] at hD'; simpa using hD'
  subst hD
  refine perm_strKeys hpw (fun p hp => ?_) hk fun x => ?_
  · obtain ⟨v, hv⟩ := hko p hp
    obtain ⟨x, _, hx, _⟩ := Go.Maps.keyOf_str Try.underlying9 hv
    exact ⟨x, hx⟩
  · rw [hm x, ← reads_has hf]
theorem size_keys {D : DataW Value} (hown : w.ownsMap Try.prog 9 rowE b n D) (hf : Reads D f) {ks : List (List UInt8)} (hk : ks.Nodup) (hm : ∀ x, x ∈ ks ↔ (f ⟨x.toArray⟩).isSome = true) : Go.Maps.size D = ks.length := by
  have hp := keys_perm hown hf hk hm
  obtain ⟨es, hD, _⟩ := hown.keysOf
  subst hD
  rw [hp.length_eq]
  simp [strKeys, Go.Maps.size]

theorem wpList_size (hg : o.guard = none) (m : Operand) (hop : o.op = Op.call { callee := Callee.builtin Builtin.len, args := #[m], argTypes := #[61] }) (h : MapIs w b n f) (hm : a.eval m = .map (some b))
    {ks : List (List UInt8)} (hk : ks.Nodup) (hmem : ∀ x, x ∈ ks ↔ (f ⟨x.toArray⟩).isSome = true) (hK : wpList Try.prog ops Q rest (a.put o.dst (.int .i64 (ks.length : Int))) w) : wpList Try.prog ops Q (o :: rest) a w := by
  obtain ⟨D, hown, hf⟩ := h
  refine wpList_len_own w hg m _ hop _ _ mapT rowE b n D hm hown ?_
  rw [size_keys hown hf hk hmem]
  exact hK
end

/-- A map, and what is laid over it. -/
def over (fd fs : ByteArray → Option R) : ByteArray → Option R := fun q => match fs q with | some r => some r | none => fd q
/-- .. but for what is still to come. -/
def mixed (fd fs : ByteArray → Option R) (left : Lit → Bool) : ByteArray → Option R := fun q => match fs q with | some r => if left (lit q) = true then fd q else some r | none => fd q
theorem mixed_start {D : DataW Value} {fd fs : ByteArray → Option R} (hf : Reads D fs) (q : ByteArray) : fd q = mixed fd fs (Go.Maps.has D) q := by
  unfold mixed
  have := reads_has hf q
  cases h : fs q with
  | none => rfl
  | some r =>
    rw [h] at this
    show fd q = if Go.Maps.has D (lit q) = true then fd q else some r
    rw [this]; rfl
theorem mixed_step {fd fs : ByteArray → Option R} {left : Lit → Bool} {x : ByteArray} {r : R} (hx : fs x = some r) (q : ByteArray) :
    upd (mixed fd fs left) x (some r) q = mixed fd fs (fun z => left z && !z.sameKey (lit x)) q := by
  unfold upd mixed
  by_cases e : q = x
  · subst e
    rw [if_pos rfl, hx]
    have : (lit q).sameKey (lit q) = true := WideAt.sameKey_self trivial
    show some r = if (left (lit q) && !(lit q).sameKey (lit q)) = true then fd q else some r
    rw [this]
    simp
  · rw [if_neg e]
    have : (lit q).sameKey (lit x) = false := Go.Maps.sameKey_ne fun h => e (lit_inj h)
    cases fs q with
    | none => rfl
    | some r' =>
      show (if left (lit q) = true then fd q else some r') = if (left (lit q) && !(lit q).sameKey (lit x)) = true then fd q else some r'
      rw [this]
      simp
theorem mixed_end {fd fs : ByteArray → Option R} {left : Lit → Bool} (hl : ∀ z, left z = false) (q : ByteArray) : mixed fd fs left q = over fd fs q := by
  unfold mixed over
  cases fs q with
  | none => rfl
  | some r => simp [hl]

set_option maxHeartbeats 4000000 in
theorem copy_any (bd bs nd ns : Nat) (fd fs : ByteArray → Option R) (w : World) (hd : MapIs w bd nd fd) (hs : MapIs w bs ns fs) (hne : bd ≠ bs) (hroom : nd + ns ≤ 1000000) :
    Calls Try.prog 49 #[.map (some bd), .map (some bs)] w fun e w' => e = .returned (.tuple #[]) ∧ MapIs w' bd (nd + ns) (over fd fs) ∧ w.grownBy w' (some bd) := by
  have hbd := hd.lt
  have hbs := hs.lt
  obtain ⟨Ds, hso, hsf⟩ := hs
  have hsz := hso.size_le
  have HS := Lib.hid hsf
  have HD := Lib.hid hd
  clear hsf hd
  go_enter Try.func49, Try.ntmps49
  go_wp2_with (first
    | (at_range; refine wpList_range_own _ rfl _ 61 rfl 9 39 keyed mapT rowE bs ns _ rfl hso ?_; intro w0 hrg0 hg0 hs0)
    | go_in)
  go_frame
  go_loopw [8] (fun _ wr => ∃ (left : Lit → Bool) (cnt n : Nat), wr.ranges Try.prog 9 rowE bs w.heap.size ns Ds left cnt ∧ n + cnt ≤ nd + ns ∧ Hid (MapIs wr bd n (mixed fd fs left) ∧ w.grownBy wr (some bd)))
    (fun _ wr => wr.rangeLeft bs w.heap.size)
  case atStart =>
    exact ⟨_, _, nd, hrg0, by omega, Lib.hid ⟨(HD.out.kept hg0 (by simp)).congr (mixed_start HS.out), hg0.but _⟩⟩
  case round =>
    obtain ⟨left, cnt, n, hrg, hcs, HR⟩ := hrel
    go_wp2_with (first
      | (at_next; refine wpList_next_ranges _ rfl _ rfl 9 keyed rowE Value.string R.val (fun key kl h => by obtain ⟨x, hx, _⟩ := Go.Maps.keyOf_str Try.underlying9 h; exact ⟨⟨x.toArray⟩, hx⟩) (fun v y h => by obtain ⟨r, hr, _⟩ := rowE_inv h; exact ⟨r, hr⟩) bs w.heap.size ns _ _ _ rfl hrg ?_ ?_)
      | go_in)
    · intro hc0 hl0
      have HL := Lib.hid hl0
      clear hl0
      go_wp2_with fail
      go_end0
      exact ⟨rfl, (HR.out.1.congr (mixed_end HL.out)).mono (by omega), HR.out.2⟩
    · intro x r kl yd yp w1 cnt1 hkey hlx hv hat hrg1 hlt hg1 hs1 hen
      have hxs : x.size ≤ maxLen := by
        obtain ⟨u, hu, _, hul⟩ := Go.Maps.keyOf_str Try.underlying9 hkey
        have : x = ⟨u.toArray⟩ := by injection hu
        rw [this]
        simpa [ByteArray.size] using hul
      have hkl : kl = lit x := by rw [key_lit hxs] at hkey; injection hkey with hkey; exact hkey.symm
      subst hkl
      have hfx : fs x = some r := by
        cases hx : fs x with
        | none =>
          have h1 := (HS.out x).1 hx
          rw [Go.Maps.has_true_of_atKey hat] at h1
          cases h1
        | some r' =>
          have h1 := (HS.out x).2 r' hx
          have h2 := (h1 .nil).symm.trans (hat .nil)
          obtain ⟨r2, e2, e3⟩ := rowE_inv hv
          injection e3 with e3 _
          rw [e3] at h2
          injection h2 with h2
          rw [← e2] at h2
          rw [val_inj h2]
      have HF := Lib.hid hfx
      have hout1 := HR.out.1.kept hg1 (fun e => by have := Option.some.inj e; omega)
      have HO := Lib.hid (hout1.alloc r.obj)
      have HG := Lib.hid (HR.out.2.andThen hg1 (fun j hj => .inl (by cases hj; exact Nat.le_refl _)))
      clear hfx hout1 hkey hv hat hlx hg1
      unfold R.val at hen ⊢
      go_wp2_with (first
        | (at_mapUpdate; refine wpList_put rfl _ _ _ rfl HO.out rfl (by unfold maxLen; omega) x r hxs rfl rfl ?_; intro w2 hout2 hg2; go_frame)
        | go_in)
      have hrg2 := (hrg1.alloc r.obj).kept hg2 (fun e => hne (Option.some.inj e).symm) (fun e => by have := Option.some.inj e; omega)
      go_roundw
      case rel =>
        exact ⟨_, cnt1, n + 1, hrg2, by omega, Lib.hid ⟨hout2.congr (mixed_step HF.out), (HG.out.andThen (World.grownBy_alloc w1 r.obj none) (fun j hj => by cases hj)).andThen hg2 (fun j hj => .inr hj)⟩⟩
      case measure => rw [hrg2.left_eq, hrg.left_eq]; exact hlt
end Go.Proofs.Ytlhebgfiljmeiaa.Sto
