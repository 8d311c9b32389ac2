/-
  Several texts in one: Seal, StrApp, RecText, RecParse, Unseal.
-/
import Derived.Test.YtkmlnibkdcdegaaGreatDoorPackDep
import Derived.Test.YtkmlnibkdcdegaaGreatDoorPackGet
import Derived.Laws.AppendOwn
import Derived.Maps.AppendAt
import Derived.Deep.RegionWith
import Derived.Lib.IndexBytes
/-
  The Go functions impl.Seal, impl.Unseal and spec.Seal, spec.Unseal answer the same for every string, and the laws over them answer true.
  No condition beside the form's own bound on a string's length.
-/
namespace Go.Proofs.YtkmlnibkdcdegaaGreatDoor.Seal
open Go.ChangeShapes Go.WideShapes Go.ChangeAt Go.RowKit
set_option linter.unusedVariables false
set_option maxRecDepth 100000

/-- The four bytes of a CRC. -/
def four (n : Int) : ByteArray := strOfNums [n % 256, n / 256 % 256, n / 65536 % 256, n / 16777216]
theorem four_size (n : Int) : (four n).size = 4 := by simp [four, strOfNums_size]
/-- What Seal answers. -/
def sealS (s : ByteArray) : ByteArray := if s.size ≤ 7996 then ⟨(s.data.toList ++ (four (Crc.crcOn 0 s.data.toList)).data.toList).toArray⟩ else ⟨#[]⟩
theorem ret_str {a b : ByteArray} (h : a = b) : Ending.returned (.string a) = .returned (.string b) := by rw [h]

theorem and255 (x : Int) (h0 : 0 ≤ x) (h1 : x ≤ 4294967295) : bits .and .i64 x 255 % 256 = x % 256 := by
  have h := bits_mask .i64 63 (by decide) (fun n a b => by rw [IntKind.wrap_i64]; omega) 8 (by decide) x h0 (by omega)
  have e : ((2 : Int) ^ 8 - 1) = 255 := by decide
  have e2 : ((2 : Int) ^ 8) = 256 := by decide
  rw [e, e2] at h
  rw [h]; omega

theorem conv4 (T : TypeId) (a b c d : Int) (w : World) :
    (convert 73 9 (.slice (some ⟨w.heap.size, 0, none⟩) 4 4)).run Tryz.prog (w.alloc (.cells #[.int .u8 a, .int .u8 b, .int .u8 c, .int .u8 d] T)) =
      .ok (.string (strOfNums [a, b, c, d])) (w.alloc (.cells #[.int .u8 a, .int .u8 b, .int .u8 c, .int .u8 d] T)) :=
  run_convert_bytes_arg (P := Tryz.prog) _ 73 5 Tryz.underlying73 Tryz.underlying5 w.heap.size 0 4 4 [a, b, c, d] rfl (fun i hi => by
    rw [Nat.zero_add, cell_of_row _ w.heap.size i _ _ (0, 0) (heap_alloc_new w _)]
    match i, hi with
    | 0, _ => rfl
    | 1, _ => rfl
    | 2, _ => rfl
    | 3, _ => rfl) _ Tryz.underlying9

theorem four_any (n : Int) (w : World) (h0 : 0 ≤ n) (h1 : n ≤ 4294967295) :
    Calls Tryz.prog 20 #[.int .i64 n] w fun e w' => e = .returned (.string (four n)) ∧ Below w.heap.size w w' := by
  have hc := conv4 5 (n % 256) (n / 256 % 256) (n / 65536 % 256) (n / 16777216) w
  go_enter Tryz.func20, Tryz.ntmps20
  go_wp2
  go_ret
  exact ⟨rfl, (Below.refl _ _).alloc (Nat.le_refl _) _⟩

theorem crcText_any (n : Int) (w : World) (h0 : 0 ≤ n) (h1 : n ≤ 4294967295) :
    Calls Tryz.prog 58 #[.int .i64 n] w fun e w' => e = .returned (.string (four n)) ∧ Below w.heap.size w w' := by
  have hc := conv4 95 (bits .and .i64 n 255 % 256) (bits .and .i64 (n / 256) 255 % 256) (bits .and .i64 (n / 65536) 255 % 256) (bits .and .i64 (n / 16777216) 255 % 256) w
  go_enter Tryz.func58, Tryz.ntmps58
  go_wp2
  refine wp_loop_rounds 5 ?_
  repeat any_goals (rw [rounds_succ]; go_wp2)
  go_ret
  refine ⟨ret_str ?_, (Below.refl _ _).alloc (Nat.le_refl _) _⟩
  unfold four
  rw [and255 n h0 h1, and255 (n / 256) (by omega) (by omega), and255 (n / 65536) (by omega) (by omega), and255 (n / 16777216) (by omega) (by omega)]
  have e : n / 16777216 % 256 = n / 16777216 := by omega
  rw [e]

set_option maxHeartbeats 400000 in
theorem implSeal_any (s : ByteArray) (w : World) (hs : s.size ≤ maxLen) :
    Calls Tryz.prog 29 #[.string s] w fun e w' => e = .returned (.string (sealS s)) ∧ Below w.heap.size w w' := by
  have hm := hs
  unfold maxLen at hm
  by_cases h : s.size ≤ 7996
  · have HT : Hid (sealS s = ⟨(Join.flat [s, four (Crc.crcOn 0 s.data.toList)]).toArray⟩) := by
      refine Lib.hid ?_
      unfold sealS
      rw [if_pos h, Text.flat2]
    have HC : Hid (Crc.crc0 s = Crc.crcOn 0 s.data.toList) := by exact Lib.hid (by unfold Crc.crc0; rw [if_pos (by omega)])
    have hr := Crc.crcOn_range 0 s.data.toList
    generalize Crc.crcOn 0 s.data.toList = c at *
    obtain ⟨hr0, hr1⟩ := hr
    go_enter Tryz.func29, Tryz.ntmps29
    go_wp2_with fail
    refine (Crc.implCrc_any _ _ hs).mono ?_
    rintro e w1 ⟨rfl, rfl⟩
    rw [HC.out]
    go_wp2_with fail
    refine (crcText_any _ _ hr0 hr1).mono ?_
    rintro e w1 ⟨rfl, hb1⟩
    have hz := four_size c
    generalize four c = f at *
    have HZ := Lib.hid hz
    clear hz
    go_wp2_with fail
    have hb2 : Below w.heap.size w (w1.alloc (.cells #[.string s, .string f] 9)) := hb1.alloc hb1.size _
    refine (Join.joined_any [s, f] w1.heap.size _ (by simp) (by simp) (by rw [Text.flat2, List.length_append, Join.size_len, Join.size_len, HZ.out]; omega) (Text.put_cells _ _ _ _)).mono ?_
    rintro e w2 ⟨rfl, hb3⟩
    go_wp2_with fail
    go_ret
    exact ⟨ret_str HT.out.symm, hb2.trans (hb3.mono (by have := hb1.size; simp; omega))⟩
  · have HT : Hid (sealS s = ⟨#[]⟩) := by exact Lib.hid (by unfold sealS; rw [if_neg h])
    go_enter Tryz.func29, Tryz.ntmps29
    go_wp2_with fail
    go_ret
    exact ⟨ret_str HT.out.symm, Below.refl _ _⟩

set_option maxHeartbeats 400000 in
theorem specSeal_any (s : ByteArray) (w : World) (hs : s.size ≤ maxLen) :
    Calls Tryz.prog 28 #[.string s] w fun e w' => e = .returned (.string (sealS s)) ∧ Below w.heap.size w w' := by
  have hm := hs
  unfold maxLen at hm
  by_cases h : s.size ≤ 7996
  · have HT : Hid (sealS s = s ++ four (Crc.crcOn 0 s.data.toList)) := by
      refine Lib.hid ?_
      unfold sealS
      rw [if_pos h]
      apply ByteArray.ext
      apply Array.toList_inj.1
      simp
    have hr := Crc.crcOn_range 0 s.data.toList
    go_enter Tryz.func28, Tryz.ntmps28
    go_wp2_with fail
    refine (Crc.l01Crc_any _ _ _ hs (by omega) (by omega)).mono ?_
    rintro e w1 ⟨rfl, rfl⟩
    generalize Crc.crcOn 0 s.data.toList = c at *
    obtain ⟨hr0, hr1⟩ := hr
    go_wp2_with fail
    refine (four_any _ _ hr0 hr1).mono ?_
    rintro e w1 ⟨rfl, hb1⟩
    have hz := four_size c
    generalize four c = f at *
    have hz1 : f.size ≤ 4 := by omega
    clear hz
    go_wp2_with fail
    go_ret
    exact ⟨ret_str HT.out.symm, hb1⟩
  · have HT : Hid (sealS s = ⟨#[]⟩) := by exact Lib.hid (by unfold sealS; rw [if_neg h])
    go_enter Tryz.func28, Tryz.ntmps28
    go_wp2_with fail
    go_ret
    exact ⟨ret_str HT.out.symm, Below.refl _ _⟩

end Go.Proofs.YtkmlnibkdcdegaaGreatDoor.Seal

/-
  Appending strings to a row of one's own.
-/
namespace Go.Proofs.YtkmlnibkdcdegaaGreatDoor.Str
open Go.ChangeShapes Go.WideShapes Go.ChangeAt Go.RowKit
open Dep (add_block add_add)
set_option linter.unusedVariables false
set_option maxRecDepth 100000
set_option linter.unusedSimpArgs false

/-- The cells of strings. -/
def flat (l : List ByteArray) : List Value := l.map .string
theorem flat_append (l m : List ByteArray) : flat (l ++ m) = flat l ++ flat m := by simp [flat]
theorem flat_length (l : List ByteArray) : (flat l).length = l.length * 1 := by simp [flat]
theorem flat_at {l : List ByteArray} {q : Nat} (hq : q < l.length) : (flat l)[q]? = some (.string l[q]) := by simp [flat, hq]
theorem flat_one (l : List ByteArray) : ∀ u ∈ flat l, u.oneCell' = true := by
  intro u hu
  simp only [flat, List.mem_map] at hu
  obtain ⟨d, _, rfl⟩ := hu
  rfl
theorem Lies.cell {w : World} {B : Nat} {ad : Addr} {l : List ByteArray} (h : Lies w B (some ad) l) {j : Nat} {u : Value} (hu : (flat l)[j]? = some u) : w.cell? (ad.add j) = some u := by
  have hj : j < l.length := by have := (List.getElem?_eq_some_iff.1 hu).1; rw [flat_length] at this; omega
  obtain ⟨ad', e, _, c0⟩ := h.at_ hj
  cases e
  rw [flat_at hj] at hu
  rw [← hu]; exact c0

/-- What a row of one's own reads as. -/
theorem own_lies {w : World} {base n : Nat} {v : Value} {o : List ByteArray} (h : w.ownsRow base 9 1 v n (flat o)) :
    n = o.length ∧ ∃ A c, v = slV A o c ∧ o.length ≤ c ∧ Lies w w.heap.size A o := by
  have hn : n = o.length := by have := h.1; rw [flat_length] at this; omega
  refine ⟨hn, ?_⟩
  subst hn
  rcases h.2 with ⟨rfl, h0⟩ | ⟨g, cap, cur, rfl, hb, hh, hnc, hcm, hsz, hx⟩
  · refine ⟨none, 0, by unfold slV; rw [h0], by omega, fun hp => absurd hp (by omega)⟩
  · refine ⟨_, cap, rfl, hnc, fun hp => ⟨_, rfl, (Array.getElem?_eq_some_iff.1 hh).1, fun j hj => ?_⟩⟩
    have e : (Addr.add ⟨g, 0, none⟩ j) = ⟨g, j, none⟩ := by
      unfold Addr.add
      split
      · rename_i h; rw [h]
      · simp
    rw [e, cell_of_row w g j cur _ (0, 0) hh, ← Array.getElem?_toList]
    have := flat_at hj
    rw [← hx, List.getElem?_take, if_pos (by omega)] at this
    exact this
/-- An address that is none stands for no strings. -/
theorem own_some {w : World} {base n : Nat} {v : Value} {o : List ByteArray} (h : w.ownsRow base 9 1 v n (flat o)) (ho : 0 < o.length) : ∃ g c, v = .slice (some ⟨g, 0, none⟩) o.length c ∧ o.length ≤ c ∧ (∀ j (hj : j < o.length), w.cell? ⟨g, j, none⟩ = some (.string o[j])) ∧ g < w.heap.size := by
  obtain ⟨hn, A, c, e, hc, hL⟩ := own_lies h
  subst hn
  rcases h.2 with ⟨rfl, h0⟩ | ⟨g, cap, cur, rfl, hb, hh, hnc, hcm, hsz, hx⟩
  · omega
  · refine ⟨g, cap, rfl, hnc, fun j hj => ?_, (Array.getElem?_eq_some_iff.1 hh).1⟩
    rw [cell_of_row w g j cur _ (0, 0) hh, ← Array.getElem?_toList]
    have := flat_at hj
    rw [← hx, List.getElem?_take, if_pos (by omega)] at this
    exact this

theorem run_append_strs (base : Nat) (v : Value) (n : Nat) (o : List ByteArray) (w : World) (hown : w.ownsRow base 9 1 v n (flat o)) (B : Nat) (ad : Addr) (m : List ByteArray) (c : Nat) (hr : Lies w B (some ad) m) (h63 : n + m.length ≤ 4194304) (hbase : base ≤ w.heap.size) :
    ∃ v' w', (Builtin.append_ #[25, 25] 25 #[v, slV (some ad) m c]).run Tryz.prog w = .ok v' w' ∧ w'.ownsRow base 9 1 v' (n + m.length) (flat (o ++ m)) ∧ w.grownBy w' v.ownBlock := by
  obtain ⟨i0, hi0, hz0, hz1, hz2⟩ := info_parts str_info
  rw [flat_append]
  obtain ⟨v', w', hrun, h2, h3, _, h5⟩ := run_append_own_at (P := Tryz.prog) w base 25 25 9 i0 _ 1 16 Tryz.underlying25 hi0 hz0 hz1 hz2 rfl (by omega) v n (flat o) hown ad m.length c (flat m) (flat_length m) (fun j u hu => hr.cell hu) (flat_one m) (by simp only [maxLen]; omega) (by omega) hbase
  exact ⟨v', w', hrun, h2, h3⟩
theorem wp_append_strs {o : Oper} {a : Act} {w : World} {K : Act → World → Prop} {Q : Exit → Act → World → Prop} {s x : Operand}
    (ho : o.op = .call { callee := .builtin .append, args := #[s, x], argTypes := #[25, 25] }) (hty : o.type = 25) {base : Nat} {v : Value} {n : Nat} {l : List ByteArray} {A : Addr} {j c B : Nat} (m : List ByteArray)
    (hs : a.eval s = v) (hx : a.eval x = .slice (some A) j c) (hj : m.length = j) (hown : w.ownsRow base 9 1 v n (flat l)) (hr : Lies w B (some A) m) (h63 : n + m.length ≤ 4194304) (hbase : base ≤ w.heap.size)
    (h : ∀ v' w', w'.ownsRow base 9 1 v' (n + m.length) (flat (l ++ m)) → w.grownBy w' v.ownBlock → K (a.put o.dst v') w') : Oper.wp Tryz.prog o a w K Q := by
  obtain ⟨v', w', hrun, h2, h3⟩ := run_append_strs base v n l w hown B A m c hr h63 hbase
  unfold slV at hrun
  rw [hj] at hrun
  unfold Oper.wp execOp
  rw [hty]
  simp only [ho, resolve, invoke, builtin, Sem.run_bind, Sem.run_pure, Result.andThen_ok, List.map_toArray, List.map_cons, List.map_nil, hs, hx, hrun]
  exact h v' w' h2 h3
theorem wpList_append_strs {ops : Array Oper} {rest : List Oper} {o : Oper} {a : Act} {w : World} {Q : Exit → Act → World → Prop} (hgd : o.guard = none) {s x : Operand}
    (ho : o.op = .call { callee := .builtin .append, args := #[s, x], argTypes := #[25, 25] }) (hty : o.type = 25) {base : Nat} {v : Value} {n : Nat} {l : List ByteArray} {A : Addr} {j c B : Nat} (m : List ByteArray)
    (hs : a.eval s = v) (hx : a.eval x = .slice (some A) j c) (hj : m.length = j) (hown : w.ownsRow base 9 1 v n (flat l)) (hr : Lies w B (some A) m) (h63 : n + m.length ≤ 4194304) (hbase : base ≤ w.heap.size)
    (h : ∀ v' w', w'.ownsRow base 9 1 v' (n + m.length) (flat (l ++ m)) → w.grownBy w' v.ownBlock → wpList Tryz.prog ops Q rest (a.put o.dst v') w') : wpList Tryz.prog ops Q (o :: rest) a w := by
  refine wpList_plain hgd fun K hK => ?_
  exact wp_append_strs ho hty m hs hx hj hown hr h63 hbase fun v' w' h2 h3 => hK _ _ (h v' w' h2 h3)

theorem own_none (w : World) (base : Nat) : w.ownsRow base 9 1 (.slice none 0 0) 0 (flat []) := ⟨rfl, .inl ⟨rfl, rfl⟩⟩
theorem own_step {w w' : World} {base n : Nat} {v : Value} {xs : List Value} (h : w.ownsRow base 9 1 v n xs) {N : Nat} (hb : Below N w w') (hN : w.heap.size ≤ N) : w'.ownsRow base 9 1 v n xs := by
  refine ⟨h.1, h.2.imp id ?_⟩
  rintro ⟨g, cap, cur, e, hb', hh, r⟩
  exact ⟨g, cap, cur, e, hb', (hb.block g (by have := (Array.getElem?_eq_some_iff.1 hh).1; omega)).trans hh, r⟩
theorem own_alloc {w : World} {base n : Nat} {v : Value} {xs : List Value} (h : w.ownsRow base 9 1 v n xs) (o : Obj) : (w.alloc o).ownsRow base 9 1 v n xs := by
  refine ⟨h.1, h.2.imp id ?_⟩
  rintro ⟨g, cap, cur, e, hb, hh, r⟩
  exact ⟨g, cap, cur, e, hb, (heap_alloc_old w o (Array.getElem?_eq_some_iff.1 hh).1).trans hh, r⟩
theorem own_less {w : World} {base base' n : Nat} {v : Value} {xs : List Value} (h : w.ownsRow base 9 1 v n xs) (hb : base' ≤ base) : w.ownsRow base' 9 1 v n xs :=
  ⟨h.1, h.2.imp id fun ⟨g, cap, cur, e, hb', r⟩ => ⟨g, cap, cur, e, by omega, r⟩⟩
theorem ownBlock_base {w : World} {base n : Nat} {v : Value} {xs : List Value} (h : w.ownsRow base 9 1 v n xs) : ∀ k, v.ownBlock = some k → base ≤ k := by
  rcases h.2 with ⟨rfl, _⟩ | ⟨g, cap, cur, rfl, hb, _⟩
  · intro k e; cases e
  · intro k e; cases e; exact hb
theorem blk_not_row {W : World} {b t : Nat} {cs : Array Value} {base n : Nat} {v : Value} {xs : List Value} (h : Blk W b t cs) (ht : t ≠ 9) (ho : W.ownsRow base 9 1 v n xs) : some b ≠ v.ownBlock := by
  rcases ho.2 with ⟨rfl, _⟩ | ⟨g, cap, cur, rfl, _, hg, _⟩
  · intro e; cases e
  · intro e
    cases e
    rw [show W.heap[g]? = _ from h] at hg
    injection hg with hg
    injection hg with _ h2
    exact ht h2
/-- A row that was just made of strings. -/
theorem new_own (w : World) (l : List ByteArray) (hl : l.length ≤ 1000) (base : Nat) (hb : base ≤ w.heap.size) : (w.alloc (.cells (flat l).toArray 9)).ownsRow base 9 1 (.slice (some ⟨w.heap.size, 0, none⟩) l.length l.length) l.length (flat l) :=
  ⟨flat_length l, .inr ⟨_, l.length, (flat l).toArray, rfl, hb, heap_alloc_new w _, Nat.le_refl _, by simp only [maxLen]; omega, by simp [flat], by rw [List.take_of_length_le (by simp [flat])]⟩⟩
theorem new_lies (w : World) (l : List ByteArray) : Lies (w.alloc (.cells (flat l).toArray 9)) (w.alloc (.cells (flat l).toArray 9)).heap.size (some ⟨w.heap.size, 0, none⟩) l := fun _ => by
  refine ⟨_, rfl, by simp, fun j hj => ?_⟩
  have e : (Addr.add ⟨w.heap.size, 0, none⟩ j) = ⟨w.heap.size, j, none⟩ := by
    unfold Addr.add
    split
    · rename_i h; rw [h]
    · simp
  rw [e, cell_of_row _ w.heap.size j _ _ (0, 0) (heap_alloc_new w _), List.getElem?_toArray]
  exact flat_at hj
end Go.Proofs.YtkmlnibkdcdegaaGreatDoor.Str

/-
  A record's bytes, as lists of bytes.
-/
namespace Go.Proofs.YtkmlnibkdcdegaaGreatDoor.Rec
open Dep (D I Ok Sorted depsB ofV putV joinV clockV)
set_option linter.unusedVariables false
set_option maxRecDepth 100000

def str (l : List UInt8) : ByteArray := ⟨l.toArray⟩
theorem str_list (l : List UInt8) : (str l).data.toList = l := by simp [str]
theorem str_of (s : ByteArray) : str s.data.toList = s := Dep.list_eq (str_list _)
theorem str_append (a b : List UInt8) : str a ++ str b = str (a ++ b) := by
  apply Dep.list_eq
  simp [str]
theorem str_size (l : List UInt8) : (str l).size = l.length := by simp [str, ByteArray.size]
theorem put_str (n : Int) : Num.putS n = str (Num.putB n) := rfl
def tL (s : ByteArray) : List UInt8 := Num.putB s.size ++ s.data.toList
theorem putT_str {s : ByteArray} (h : s.size ≤ 8000) : Text.putT s = str (tL s) := by unfold Text.putT; rw [if_pos h]; rfl
def idL (i : I) : List UInt8 := Num.putB i.c ++ (Num.putB i.s ++ Num.putB i.e)
def depL (d : D) : List UInt8 := tL d.k ++ idL d.i
def goneN (g : Bool) : Int := if g = true then 1 else 0
/-- What stands ahead of the lists. -/
def hdL (r : R) : List UInt8 := tL r.k ++ (idL r.i ++ (tL r.d ++ Num.putB (goneN r.g)))
def bodyL (r : R) : List UInt8 := hdL r ++ (Num.putB r.l.length ++ (r.l.flatMap depL ++ (Num.putB r.b.length ++ r.b.flatMap tL)))
/-- What RecBytes answers. -/
noncomputable def bytesV (r : R) : ByteArray := if recB r = true then Seal.sealS (str (bodyL r)) else ⟨#[]⟩

theorem nB_le (n : Int) : (Num.putB n).length ≤ 10 := by
  have := (Num.putS_size n).2
  rwa [put_str, str_size] at this
theorem tL_le (s : ByteArray) : (tL s).length ≤ 10 + s.size := by
  have := nB_le s.size
  unfold tL
  rw [List.length_append]
  have e : s.data.toList.length = s.size := by simp
  omega
theorem idL_le (i : I) : (idL i).length ≤ 30 := by
  have h1 := nB_le i.c
  have h2 := nB_le i.s
  have h3 := nB_le i.e
  unfold idL
  rw [List.length_append, List.length_append]; omega
theorem flatMap_le {α : Type} (f : α → List UInt8) (n : Nat) (l : List α) (h : ∀ x ∈ l, (f x).length ≤ n) : (l.flatMap f).length ≤ l.length * n := by
  induction l with
  | nil => simp
  | cons x l ih =>
    rw [List.flatMap_cons, List.length_append, List.length_cons, Nat.add_mul]
    have := h x (by simp)
    have := ih fun y hy => h y (by simp [hy])
    omega
theorem key_le {s : ByteArray} (h : Key.keyB s = true) : s.size ≤ 4 := (Key.ok_of h).2.1
theorem hdL_le {r : R} (h : RecOk r) : (hdL r).length ≤ 72 := by
  have h1 := tL_le r.k
  have h2 := key_le h.1
  have h3 := idL_le r.i
  have h4 := tL_le r.d
  have h5 := (dat_of h.2.2.1).1
  have h6 := nB_le (goneN r.g)
  unfold hdL
  rw [List.length_append, List.length_append, List.length_append]; omega
theorem deps_le {r : R} (h : RecOk r) (k : Nat) : ((r.l.take k).flatMap depL).length ≤ 264 := by
  have ho := Dep.ok_of h.2.2.2.2.1
  have := flatMap_le depL 44 (r.l.take k) fun d hd => by
    have h1 := tL_le d.k
    have h2 := key_le (ho.2.1 d (List.mem_of_mem_take hd)).1
    have h3 := idL_le d.i
    unfold depL
    rw [List.length_append]; omega
  have h6 := ho.1
  rw [List.length_take] at this
  have : min k r.l.length * 44 ≤ 6 * 44 := Nat.mul_le_mul_right _ (by omega)
  omega
theorem keys_le {r : R} (h : RecOk r) (k : Nat) : ((r.b.take k).flatMap tL).length ≤ 56 := by
  have ho := keys_of h.2.2.2.2.2.1
  have := flatMap_le tL 14 (r.b.take k) fun x hx => by
    have h1 := tL_le x
    have h2 := key_le (ho.2.1 x (List.mem_of_mem_take hx))
    omega
  have h6 := ho.1
  rw [List.length_take] at this
  have : min k r.b.length * 14 ≤ 4 * 14 := Nat.mul_le_mul_right _ (by omega)
  omega
theorem bodyL_le {r : R} (h : RecOk r) : (bodyL r).length ≤ 500 := by
  have h1 := hdL_le h
  have h2 := nB_le r.l.length
  have h3 := deps_le h r.l.length
  have h4 := nB_le r.b.length
  have h5 := keys_le h r.b.length
  rw [List.take_length] at h3 h5
  unfold bodyL
  rw [List.length_append, List.length_append, List.length_append, List.length_append]; omega
theorem bytes_ok {r : R} (h : RecOk r) : bytesV r = Seal.sealS (str (bodyL r)) := by unfold bytesV; rw [if_pos (recB_true h)]
theorem bytes_no {r : R} (h : recB r = false) : bytesV r = ⟨#[]⟩ := by unfold bytesV; rw [h]; rfl

/-- The given model's way: what is written ahead of the k-th dep, of the k-th key. -/
def upDeps (r : R) (k : Nat) : List UInt8 := hdL r ++ (Num.putB r.l.length ++ (r.l.take k).flatMap depL)
def upKeys (r : R) (k : Nat) : List UInt8 := upDeps r r.l.length ++ (Num.putB r.b.length ++ (r.b.take k).flatMap tL)
theorem upDeps_zero (r : R) : upDeps r 0 = hdL r ++ Num.putB r.l.length := by simp [upDeps]
theorem upDeps_step (r : R) (k : Nat) (h : k < r.l.length) : upDeps r (k + 1) = upDeps r k ++ (tL r.l[k].k ++ idL r.l[k].i) := by
  unfold upDeps
  rw [show r.l.take (k + 1) = r.l.take k ++ [r.l[k]] by simp, List.flatMap_append]
  simp [depL]
theorem upKeys_zero (r : R) : upKeys r 0 = upDeps r r.l.length ++ Num.putB r.b.length := by simp [upKeys]
theorem upKeys_step (r : R) (k : Nat) (h : k < r.b.length) : upKeys r (k + 1) = upKeys r k ++ tL r.b[k] := by
  unfold upKeys
  rw [show r.b.take (k + 1) = r.b.take k ++ [r.b[k]] by simp, List.flatMap_append]
  simp
theorem upKeys_all (r : R) : upKeys r r.b.length = bodyL r := by
  unfold upKeys upDeps bodyL
  rw [List.take_length, List.take_length]
  simp
theorem upDeps_le {r : R} (h : RecOk r) (k : Nat) : (upDeps r k).length ≤ 500 := by
  have h1 := hdL_le h
  have h2 := nB_le r.l.length
  have h3 := deps_le h k
  unfold upDeps
  rw [List.length_append, List.length_append]; omega
theorem upKeys_le {r : R} (h : RecOk r) (k : Nat) : (upKeys r k).length ≤ 1000 := by
  have h1 := upDeps_le h r.l.length
  have h4 := nB_le r.b.length
  have h5 := keys_le h k
  unfold upKeys
  rw [List.length_append, List.length_append]; omega

/-- The program's way: the parts so far. -/
def psD (r : R) (k : Nat) : List ByteArray := [str (hdL r), str (Num.putB r.l.length)] ++ (r.l.take k).flatMap fun d => [str (tL d.k), str (idL d.i)]
def psK (r : R) (k : Nat) : List ByteArray := psD r r.l.length ++ [str (Num.putB r.b.length)] ++ (r.b.take k).map fun x => str (tL x)
theorem psD_step (r : R) (k : Nat) (h : k < r.l.length) : psD r (k + 1) = psD r k ++ [str (tL r.l[k].k), str (idL r.l[k].i)] := by
  unfold psD
  rw [show r.l.take (k + 1) = r.l.take k ++ [r.l[k]] by simp, List.flatMap_append]
  simp
theorem psK_step (r : R) (k : Nat) (h : k < r.b.length) : psK r (k + 1) = psK r k ++ [str (tL r.b[k])] := by
  unfold psK
  rw [show r.b.take (k + 1) = r.b.take k ++ [r.b[k]] by simp, List.map_append]
  simp
theorem psK_zero (r : R) : psK r 0 = psD r r.l.length ++ [str (Num.putB r.b.length)] := by simp [psK]
theorem psD_len (r : R) (k : Nat) (h : k ≤ r.l.length) : (psD r k).length = 2 + k * 2 := by
  unfold psD
  rw [List.length_append, List.length_flatMap]
  have : ((r.l.take k).map fun d => [str (tL d.k), str (idL d.i)].length).sum = k * 2 := by
    have e : (r.l.take k).map (fun d => [str (tL d.k), str (idL d.i)].length) = List.replicate k 2 := by
      rw [List.eq_replicate_iff]
      refine ⟨by simp; omega, fun b hb => ?_⟩
      obtain ⟨d, _, rfl⟩ := List.mem_map.1 hb
      rfl
    rw [e]; simp
  rw [this]; rfl
theorem psK_len (r : R) (k : Nat) (h : k ≤ r.b.length) : (psK r k).length = 3 + r.l.length * 2 + k := by
  unfold psK
  rw [List.length_append, List.length_append, psD_len r r.l.length (Nat.le_refl _), List.length_map, List.length_take]
  simp; omega
theorem flat_map (l : List D) : Join.flat (l.flatMap fun d => [str (tL d.k), str (idL d.i)]) = l.flatMap depL := by
  induction l with
  | nil => rfl
  | cons d l ih =>
    rw [List.flatMap_cons, List.flatMap_cons, ← ih]
    simp [Join.flat, str_list, depL]
theorem flat_keys (l : List ByteArray) : Join.flat (l.map fun x => str (tL x)) = l.flatMap tL := by
  induction l with
  | nil => rfl
  | cons d l ih =>
    rw [List.map_cons, List.flatMap_cons, ← ih]
    simp [Join.flat, str_list]
theorem flat_app (a b : List ByteArray) : Join.flat (a ++ b) = Join.flat a ++ Join.flat b := by simp [Join.flat]
theorem psK_all (r : R) : Join.flat (psK r r.b.length) = bodyL r := by
  unfold psK psD bodyL
  rw [List.take_length, List.take_length, flat_app, flat_app, flat_app, flat_map, flat_keys]
  simp [Join.flat, str_list]
end Go.Proofs.YtkmlnibkdcdegaaGreatDoor.Rec

/-
  A record's bytes read again: numbers and texts at a place, and what a whole record reads as.
-/
namespace Go.Proofs.YtkmlnibkdcdegaaGreatDoor.Rec
open Dep (D I)
open Gn (gn gt gtOf rd val)
set_option linter.unusedVariables false
set_option maxRecDepth 100000

theorem val_range {u : Int} (h0 : 0 ≤ u) (h : u < 18446744073709551616) : -9223372036854775808 ≤ val u ∧ val u ≤ 9223372036854775807 := by
  unfold val
  split <;> omega
theorem rd_range (f : Nat) : ∀ (l : List UInt8) (k : Nat) (u a : Int), k ≤ 9 → 0 ≤ u → u < 128 ^ k → -9223372036854775808 ≤ (rd f l k u a).1 ∧ (rd f l k u a).1 ≤ 9223372036854775807 := by
  induction f with
  | zero => intro l k u a _ _ _; simp [rd]
  | succ f ih =>
    intro l k u a hk h0 hu
    cases l with
    | nil => simp [rd]
    | cons c l =>
      rw [rd]
      split
      · simp
      · rename_i h1
        have hn := Gn.next_lt k (c := c) h0 hu
        split
        · rename_i h2
          split
          · simp
          · refine val_range hn.1 ?_
            rcases Nat.lt_or_ge k 9 with h9 | h9
            · have h3 : (128 : Int) ^ (k + 1) ≤ 128 ^ 9 := by
                have h := Int.ofNat_le.2 (Nat.pow_le_pow_right (n := 128) (by decide) (show k + 1 ≤ 9 by omega))
                simpa only [Int.natCast_pow, show ((128 : Nat) : Int) = 128 from rfl] using h
              have e : (128 : Int) ^ 9 = 9223372036854775808 := by decide
              omega
            · have e9 : k = 9 := by omega
              subst e9
              have e : (128 : Int) ^ 9 = 9223372036854775808 := by decide
              rw [e] at hu ⊢
              have h4 : c.toNat ≤ 1 := by omega
              have h5 : (c.toNat : Int) % 128 ≤ 1 := by omega
              have h6 : 0 ≤ (c.toNat : Int) % 128 := by omega
              have h7 : (c.toNat : Int) % 128 * 9223372036854775808 ≤ 9223372036854775808 := by omega
              omega
        · rename_i h2
          rcases Nat.lt_or_ge k 9 with h9 | h9
          · exact ih l (k + 1) _ _ (by omega) hn.1 hn.2
          · have : c.toNat ≤ 1 := by omega
            omega
/-- A number that is read is one of 64 bits; the place behind it lies in the text. -/
theorem gn_range (s : ByteArray) (a : Int) : -9223372036854775808 ≤ (gn s a).1 ∧ (gn s a).1 ≤ 9223372036854775807 := by
  unfold gn
  split
  · simp
  · split
    · simp
    · exact rd_range 10 _ 0 0 a (by omega) (by omega) (by simp)
theorem gn_fault {s : ByteArray} {a : Int} (h : (gn s a).2.2 ≠ 0) : (gn s a).1 = 0 ∧ (gn s a).2.1 = 0 := by
  unfold gn at h ⊢
  split
  · exact ⟨rfl, rfl⟩
  · rename_i h1
    rw [if_neg h1] at h
    split
    · exact ⟨rfl, rfl⟩
    · rename_i h2
      rw [if_neg h2] at h
      exact Gn.rd_fault 10 _ 0 0 a _ _ _ rfl h
theorem gn_place (s : ByteArray) (a : Int) : 0 ≤ (gn s a).2.1 ∧ (gn s a).2.1 ≤ 8000 := by
  by_cases h : (gn s a).2.2 = 0
  · have := Gn.gn_end (s := s) (a := a) (n := (gn s a).1) (e := (gn s a).2.1) (by rw [← h])
    omega
  · rw [(gn_fault h).2]; omega
theorem gn_ahead {s : ByteArray} {a : Int} (h : (gn s a).2.2 = 0) : a + 1 ≤ (gn s a).2.1 := by
  unfold gn at h ⊢
  split
  · rename_i h1; rw [if_pos h1] at h; cases h
  · rename_i h1
    rw [if_neg h1] at h
    split
    · rename_i h2; rw [if_pos h2] at h; cases h
    · rename_i h2
      rw [if_neg h2] at h
      exact (Gn.rd_end 10 _ 0 0 a _ _ _ rfl h).1
theorem gt_all (s : ByteArray) (a : Int) : (gt s a).1.size ≤ 8000 ∧ 0 ≤ (gt s a).2.1 ∧ (gt s a).2.1 ≤ 8000 ∧ ((gt s a).2.2 = 0 → a + 1 ≤ (gt s a).2.1) := by
  have hp := gn_place s a
  unfold gt gtOf
  split
  · rename_i h; exact ⟨Nat.zero_le 8000, Int.le_refl 0, by (show (0 : Int) ≤ 8000; decide), fun e => absurd e h⟩
  · rename_i h
    have h0 : (gn s a).2.2 = 0 := Classical.byContradiction h
    have he := Gn.gn_end (s := s) (a := a) (n := (gn s a).1) (e := (gn s a).2.1) (by rw [← h0])
    have ha := gn_ahead h0
    split
    · exact ⟨Nat.zero_le 8000, Int.le_refl 0, by (show (0 : Int) ≤ 8000; decide), fun e => by simp at e⟩
    · split
      · exact ⟨Nat.zero_le 8000, Int.le_refl 0, by (show (0 : Int) ≤ 8000; decide), fun e => by simp at e⟩
      · refine ⟨?_, by simp only; omega, by simp only; omega, fun _ => by simp only; omega⟩
        simp only [ByteArray.size_extract]
        omega

/-- From place a on the text reads as that. -/
def Here (s : ByteArray) (a : Int) (l : List UInt8) : Prop := 0 ≤ a ∧ s.size ≤ 8000 ∧ s.data.toList.drop a.toNat = l
theorem Here.on {s : ByteArray} {a : Int} {x l : List UInt8} (h : Here s a (x ++ l)) : Here s (a + x.length) l := by
  refine ⟨by have := h.1; omega, h.2.1, ?_⟩
  rw [show (a + x.length).toNat = a.toNat + x.length by have := h.1; omega, ← List.drop_drop, h.2.2, List.drop_left]
theorem gn_here {s : ByteArray} {a n : Int} {l : List UInt8} (h : Here s a (Num.putB n ++ l)) (h0 : -9223372036854775808 ≤ n) (h1 : n ≤ 9223372036854775807) : gn s a = (n, a + (Num.putB n).length, 0) := by
  unfold gn
  rw [if_neg (by have := h.2.1; omega), if_neg (by have := h.1; omega), h.2.2, Gn.rd_put n h0 h1]
theorem gt_here {s u : ByteArray} {a : Int} {l : List UInt8} (h : Here s a (tL u ++ l)) (hu : u.size ≤ 8000) : gt s a = (u, a + (tL u).length, 0) := by
  have hl : Here s a (Num.putB u.size ++ (u.data.toList ++ l)) := by unfold tL at h; rwa [List.append_assoc] at h
  have hg := gn_here hl (by omega) (by omega)
  have h2 := hl.on
  have hul : u.data.toList.length = u.size := by simp
  have htl : (tL u).length = (Num.putB u.size).length + u.size := by unfold tL; rw [List.length_append, hul]
  have hsz : a.toNat + (tL u).length ≤ s.size := by
    have := congrArg List.length h.2.2
    rw [List.length_drop, List.length_append] at this
    have e : s.data.toList.length = s.size := by simp
    have h9 := (Num.putS_size u.size).1
    rw [put_str, str_size] at h9
    omega
  unfold gt gtOf
  rw [hg]
  simp only
  rw [if_neg (by omega), if_neg (by omega), if_neg (by have := h.1; omega)]
  have hx : s.extract (a + (Num.putB u.size).length).toNat (a + (Num.putB u.size).length + u.size).toNat = u := by
    apply Gn.ext_bytes
    rw [show (a + (Num.putB u.size).length + u.size).toNat = (a + (Num.putB u.size).length).toNat + u.size by have := h.1; omega, Gn.ext_mid, h2.2.2, ← hul, List.take_left]
  rw [hx, htl]
  congr 2
  omega

/-- What the program reads, whatever stands there. -/
def rN (s : ByteArray) (a : Int) : Int × Int := ((gn s a).1, (gn s a).2.1)
def rT (s : ByteArray) (a : Int) : ByteArray × Int := ((gt s a).1, (gt s a).2.1)
def rI (s : ByteArray) (a : Int) : I × Int := (⟨(rN s a).1, (rN s (rN s a).2).1, (rN s (rN s (rN s a).2).2).1⟩, (rN s (rN s (rN s a).2).2).2)
def rDs (s : ByteArray) : Nat → Int → List D × Int
  | 0, a => ([], a)
  | k + 1, a => let x := rDs s k a; (x.1 ++ [⟨(rT s x.2).1, (rI s (rT s x.2).2).1⟩], (rI s (rT s x.2).2).2)
def rKs (s : ByteArray) : Nat → Int → List ByteArray × Int
  | 0, a => ([], a)
  | k + 1, a => let x := rKs s k a; (x.1 ++ [(rT s x.2).1], (rT s x.2).2)
/-- How many, as the program counts them. -/
def many (n : Int) (m : Nat) : Nat := (min n m).toNat
end Go.Proofs.YtkmlnibkdcdegaaGreatDoor.Rec

/-
  The Go functions impl.Unseal and spec.Unseal answer the same for every string, and the law over them answers true.
  No condition beside the form's own bound on a string's length.
-/
namespace Go.Proofs.YtkmlnibkdcdegaaGreatDoor.Seal
open Go.ChangeShapes Go.WideShapes Go.ChangeAt Go.RowKit
set_option linter.unusedVariables false
set_option maxRecDepth 100000

theorem bcell {W w1 : World} (hb : Below W.heap.size W w1) : (∀ b o, b < W.heap.size → w1.cell? ⟨b, o, none⟩ = W.cell? ⟨b, o, none⟩) ∧ (∀ b o, b < W.heap.size → w1.frozen? ⟨b, o, none⟩ = W.frozen? ⟨b, o, none⟩) :=
  ⟨fun b o h => hb.cell (p := ⟨b, o, none⟩) h, fun b o h => hb.frozen (p := ⟨b, o, none⟩) h⟩

/-- All but the last four bytes; the last four. -/
def bodyOf (s : ByteArray) : ByteArray := s.extract 0 (s.size - 4)
def tailOf (s : ByteArray) : ByteArray := s.extract (s.size - 4) s.size
theorem bodyOf_size (s : ByteArray) : (bodyOf s).size = s.size - 4 := by unfold bodyOf; rw [ByteArray.size_extract]; omega
theorem body_tail (s : ByteArray) : (bodyOf s).data.toList ++ (tailOf s).data.toList = s.data.toList := by
  unfold bodyOf tailOf
  rw [Lib.extract_to_end]
  simp
theorem seal_iff (s : ByteArray) (h : s.size ≤ 8000) : sealS (bodyOf s) = s ↔ four (Crc.crcOn 0 (bodyOf s).data.toList) = tailOf s := by
  unfold sealS
  rw [if_pos (by rw [bodyOf_size]; omega)]
  constructor
  · intro e
    have e1 : (bodyOf s).data.toList ++ (four (Crc.crcOn 0 (bodyOf s).data.toList)).data.toList = (bodyOf s).data.toList ++ (tailOf s).data.toList := by
      rw [body_tail]
      have := congrArg (fun t : ByteArray => t.data.toList) e
      simpa using this
    have e2 := List.append_cancel_left e1
    apply ByteArray.ext
    apply Array.toList_inj.1
    exact e2
  · intro e
    rw [e, body_tail]
/-- What Unseal answers: the text, and the code. -/
def unT (s : ByteArray) : ByteArray := if s.size ≤ 8000 ∧ 4 ≤ s.size ∧ sealS (bodyOf s) = s then bodyOf s else ⟨#[]⟩
def unC (s : ByteArray) : Int := if 8000 < s.size then 2 else if s.size < 4 then 4 else if sealS (bodyOf s) = s then 0 else 5
def unV (s : ByteArray) : Value := .agg #[.string (unT s), .int .i64 0, .int .i64 (unC s)]
theorem ret_agg {a b : ByteArray} {x y : Int} (h : a = b) (g : x = y) : Ending.returned (.agg #[.string a, .int .i64 0, .int .i64 x]) = .returned (.agg #[.string b, .int .i64 0, .int .i64 y]) := by rw [h, g]
theorem un_big {s : ByteArray} (h : 8000 < s.size) : unV s = .agg #[.string ⟨#[]⟩, .int .i64 0, .int .i64 2] := by
  unfold unV unT unC; rw [if_neg (by omega), if_pos h]
theorem un_small {s : ByteArray} (h : s.size < 4) : unV s = .agg #[.string ⟨#[]⟩, .int .i64 0, .int .i64 4] := by
  unfold unV unT unC; rw [if_neg (by omega), if_neg (by omega), if_pos h]
theorem un_ok {s : ByteArray} (h1 : s.size ≤ 8000) (h2 : 4 ≤ s.size) (h : sealS (bodyOf s) = s) : unV s = .agg #[.string (bodyOf s), .int .i64 0, .int .i64 0] := by
  unfold unV unT unC; rw [if_pos ⟨h1, h2, h⟩, if_neg (by omega), if_neg (by omega), if_pos h]
theorem un_sum {s : ByteArray} (h1 : s.size ≤ 8000) (h2 : 4 ≤ s.size) (h : ¬ sealS (bodyOf s) = s) : unV s = .agg #[.string ⟨#[]⟩, .int .i64 0, .int .i64 5] := by
  unfold unV unT unC; rw [if_neg (fun x => h x.2.2), if_neg (by omega), if_neg (by omega), if_neg h]

theorem str_ne {a b : ByteArray} (h : ¬ a = b) : (a.toList == b.toList) = false := by
  refine beq_eq_false_iff_ne.2 fun e => h ?_
  rw [ByteArray.toList_eq, ByteArray.toList_eq] at e
  apply ByteArray.ext
  exact Array.toList_inj.1 e

set_option maxHeartbeats 400000 in
theorem implUnseal_any (s : ByteArray) (w : World) (hs : s.size ≤ maxLen) :
    Calls Tryz.prog 14 #[.string s] w fun e w' => e = .returned (unV s) ∧ Below w.heap.size w w' := by
  have hm := hs
  unfold maxLen at hm
  by_cases h1 : 8000 < s.size
  · have HU := Lib.hid (un_big h1)
    go_enter Tryz.func14, Tryz.ntmps14
    go_wp2_with fail
    exact bodyPost_ret (v := .agg #[.string ⟨#[]⟩, .int .i64 0, .int .i64 2]) (by simp [results, Tryz.results14, go_sem]) rfl ⟨by rw [HU.out], (Below.refl _ _).alloc (Nat.le_refl _) _⟩
  by_cases h2 : s.size < 4
  · have HU := Lib.hid (un_small h2)
    go_enter Tryz.func14, Tryz.ntmps14
    go_wp2_with fail
    exact bodyPost_ret (v := .agg #[.string ⟨#[]⟩, .int .i64 0, .int .i64 4]) (by simp [results, Tryz.results14, go_sem]) rfl ⟨by rw [HU.out], (Below.refl _ _).alloc (Nat.le_refl _) _⟩
  have hbs := bodyOf_size s
  have HB : Hid (s.extract 0 (s.size - 4) = bodyOf s) := by exact Lib.hid rfl
  have h3 : s.size ≤ 8000 := by omega
  have h4 : 4 ≤ s.size := by omega
  clear h1 h2
  have HBS := Lib.hid hbs
  clear hbs
  go_enter Tryz.func14, Tryz.ntmps14
  go_wp2_with fail
  rw [HB.out]
  refine (implSeal_any _ _ (by rw [HBS.out]; unfold maxLen; omega)).mono ?_
  rintro e w1 ⟨rfl, hb1⟩
  obtain ⟨hc, hf⟩ := bcell hb1
  have hz : w.heap.size < w1.heap.size := by have := hb1.size; simp at this; omega
  have hb0 : Below w.heap.size w w1 := ((Below.refl _ _).alloc (Nat.le_refl _) _).trans (hb1.mono (by simp))
  by_cases he : sealS (bodyOf s) = s
  · have HU := Lib.hid (un_ok h3 h4 he)
    generalize bodyOf s = b at *
    generalize sealS b = z at *
    have he1 : (z.toList == s.toList) = true := by rw [he]; exact beq_self_eq_true _
    clear he
    go_wp2_with fail
    have hb2 : Below w1.heap.size w1 (w1.alloc (.cells #[.string b] 9)) := (Below.refl _ _).alloc (Nat.le_refl _) _
    refine (Join.joined_any [b] w1.heap.size _ (by simp) (by simp) (by rw [Text.flat1, Join.size_len, HBS.out]; omega) (Text.one_cell _ _ _)).mono ?_
    rintro e w2 ⟨rfl, hb3⟩
    have HE : Hid ((⟨(Join.flat [b]).toArray⟩ : ByteArray) = b) := by exact Lib.hid (by rw [Text.flat1])
    rw [HE.out]
    have hb4 : Below w.heap.size w w2 := (hb0.trans (hb2.mono (by omega))).trans (hb3.mono (by simp; omega))
    have hz2 : w.heap.size < w2.heap.size := by have := hb3.size; simp at this; omega
    have hc2 : ∀ o, w2.cell? ⟨w.heap.size, o, none⟩ = (w.alloc (Obj.cells #[Value.string { data := #[] }, Value.int IntKind.i64 0, Value.int IntKind.i64 0] 35)).cell? ⟨w.heap.size, o, none⟩ := by
      intro o
      rw [hb3.cell (p := ⟨w.heap.size, o, none⟩) (by simp; omega), hb2.cell (p := ⟨w.heap.size, o, none⟩) hz]
      exact hc _ _ (by simp)
    have hf2 : ∀ o, w2.frozen? ⟨w.heap.size, o, none⟩ = (w.alloc (Obj.cells #[Value.string { data := #[] }, Value.int IntKind.i64 0, Value.int IntKind.i64 0] 35)).frozen? ⟨w.heap.size, o, none⟩ := by
      intro o
      rw [hb3.frozen (p := ⟨w.heap.size, o, none⟩) (by simp; omega), hb2.frozen (p := ⟨w.heap.size, o, none⟩) hz]
      exact hf _ _ (by simp)
    clear hc hf
    go_wp2_with fail
    exact bodyPost_ret (v := .agg #[.string b, .int .i64 0, .int .i64 0]) (by simp [results, Tryz.results14, go_sem, hc2]) rfl ⟨by rw [HU.out], ((hb4.setCell (Nat.le_refl _) _).setCell (Nat.le_refl _) _).setCell (Nat.le_refl _) _⟩
  · have HU := Lib.hid (un_sum h3 h4 he)
    generalize bodyOf s = b at *
    generalize sealS b = z at *
    have he1 : (z.toList == s.toList) = false := str_ne he
    clear he
    go_wp2_with fail
    exact bodyPost_ret (v := .agg #[.string ⟨#[]⟩, .int .i64 0, .int .i64 5]) (by simp [results, Tryz.results14, go_sem, hc]) rfl ⟨by rw [HU.out], ((hb0.setCell (Nat.le_refl _) _).setCell (Nat.le_refl _) _).setCell (Nat.le_refl _) _⟩

theorem below_over (W : World) {w1 : World} (h : Below W.drew.heap.size W.drew w1) : Below W.heap.size W w1 := (Below.drew (Below.refl _ _)).trans h

set_option maxHeartbeats 1600000 in
theorem specUnseal_any (s : ByteArray) (w : World) (hs : s.size ≤ maxLen) :
    Calls Tryz.prog 9 #[.string s] w fun e w' => e = .returned (unV s) ∧ Below w.heap.size w w' := by
  have hm := hs
  unfold maxLen at hm
  by_cases h1 : 8000 < s.size
  · have HU := Lib.hid (un_big h1)
    go_enter Tryz.func9, Tryz.ntmps9
    go_wp2_with fail
    exact bodyPost_ret (v := .agg #[.string ⟨#[]⟩, .int .i64 0, .int .i64 2]) (by simp [results, Tryz.results9, go_sem]) rfl ⟨by rw [HU.out], (Below.refl _ _).alloc (Nat.le_refl _) _⟩
  by_cases h2 : s.size < 4
  · have HU := Lib.hid (un_small h2)
    go_enter Tryz.func9, Tryz.ntmps9
    go_wp2_with fail
    exact bodyPost_ret (v := .agg #[.string ⟨#[]⟩, .int .i64 0, .int .i64 4]) (by simp [results, Tryz.results9, go_sem]) rfl ⟨by rw [HU.out], (Below.refl _ _).alloc (Nat.le_refl _) _⟩
  have HBS := Lib.hid (bodyOf_size s)
  have hbl : (bodyOf s).size ≤ maxLen := by rw [HBS.out]; unfold maxLen; omega
  have HB : Hid (s.extract 0 (s.size - 4) = bodyOf s) := by exact Lib.hid rfl
  have h3 : s.size ≤ 8000 := by omega
  have h4 : 4 ≤ s.size := by omega
  have HI := Lib.hid (seal_iff s h3)
  have HUo := Lib.hid (un_ok h3 h4)
  have HUs := Lib.hid (un_sum h3 h4)
  have hr := Crc.crcOn_range 0 (bodyOf s).data.toList
  have hr0 := hr.1
  have hr1 := hr.2
  clear h1 h2 hr
  go_enter Tryz.func9, Tryz.ntmps9
  go_wp2_with fail
  rw [HB.out]
  have HT : Hid (s.extract (s.size - 4) s.size = tailOf s) := by exact Lib.hid rfl
  have HL := Lib.hid (Crc.l01Crc_any 0 (bodyOf s) · hbl (by omega) (by omega))
  have HF := Lib.hid (four_any (Crc.crcOn 0 (bodyOf s).data.toList) · hr0 hr1)
  generalize Crc.crcOn 0 (bodyOf s).data.toList = c at *
  generalize four c = f at *
  generalize bodyOf s = b at *
  by_cases he : f = tailOf s
  · have HU := Lib.hid (HUo.out (HI.out.2 he))
    have he1 : (f.toList == (s.extract (s.size - 4) s.size).toList) = true := by rw [HT.out, he]; exact beq_self_eq_true _
    clear he
    have hw4 : IntKind.i64.wrap ((s.size : Int) - 4) = (s.size : Int) - 4 := IntWalk.i64_in _ (by omega)
    have hw5 : (0 : Int) ≤ (s.size : Int) - 4 := by omega
    have hw6 : ((s.size : Int) - 4).toNat = s.size - 4 := by omega
    go_region_with (first | (go_at_call 21; refine (HL.out _).mono ?_; rintro e w' ⟨rfl, rfl⟩) | (go_at_call 20; refine (HF.out _).mono ?_; rintro e w1 ⟨rfl, hb1⟩))
    all_goals
      clear hw4 hw5 hw6
      have hb0 := below_over _ hb1
      obtain ⟨hc, hf⟩ := bcell hb0
      have hz : w.heap.size < w1.heap.size := by have := hb0.size; simp at this; omega
      have hb2 : Below w.heap.size w w1 := ((Below.refl _ _).alloc (Nat.le_refl _) _).trans (hb0.mono (by simp))
      clear hb0 hb1
      go_wp2_with fail
      exact bodyPost_ret (v := .agg #[.string b, .int .i64 0, .int .i64 0]) (by simp [results, Tryz.results9, go_sem, hc]) rfl ⟨by rw [HU.out], ((hb2.setCell (Nat.le_refl _) _).setCell (Nat.le_refl _) _).setCell (Nat.le_refl _) _⟩
  · have HU := Lib.hid (HUs.out (fun x => he (HI.out.1 x)))
    have he1 : (f.toList == (s.extract (s.size - 4) s.size).toList) = false := by rw [HT.out]; exact str_ne he
    clear he
    have hw4 : IntKind.i64.wrap ((s.size : Int) - 4) = (s.size : Int) - 4 := IntWalk.i64_in _ (by omega)
    have hw5 : (0 : Int) ≤ (s.size : Int) - 4 := by omega
    have hw6 : ((s.size : Int) - 4).toNat = s.size - 4 := by omega
    go_region_with (first | (go_at_call 21; refine (HL.out _).mono ?_; rintro e w' ⟨rfl, rfl⟩) | (go_at_call 20; refine (HF.out _).mono ?_; rintro e w1 ⟨rfl, hb1⟩))
    all_goals
      clear hw4 hw5 hw6
      have hb0 := below_over _ hb1
      obtain ⟨hc, hf⟩ := bcell hb0
      have hz : w.heap.size < w1.heap.size := by have := hb0.size; simp at this; omega
      have hb2 : Below w.heap.size w w1 := ((Below.refl _ _).alloc (Nat.le_refl _) _).trans (hb0.mono (by simp))
      clear hb0 hb1
      go_wp2_with fail
      exact bodyPost_ret (v := .agg #[.string ⟨#[]⟩, .int .i64 0, .int .i64 5]) (by simp [results, Tryz.results9, go_sem, hc]) rfl ⟨by rw [HU.out], ((hb2.setCell (Nat.le_refl _) _).setCell (Nat.le_refl _) _).setCell (Nat.le_refl _) _⟩

theorem implUnseal_at (s t : ByteArray) (c : Int) (hv : unV s = .agg #[.string t, .int .i64 0, .int .i64 c]) (w : World) (hs : s.size ≤ maxLen) :
    Calls Tryz.prog 14 #[.string s] w fun e w' => e = .returned (.agg #[.string t, .int .i64 0, .int .i64 c]) ∧ Below w.heap.size w w' := by
  rw [← hv]; exact implUnseal_any s w hs
theorem specUnseal_at (s t : ByteArray) (c : Int) (hv : unV s = .agg #[.string t, .int .i64 0, .int .i64 c]) (w : World) (hs : s.size ≤ maxLen) :
    Calls Tryz.prog 9 #[.string s] w fun e w' => e = .returned (.agg #[.string t, .int .i64 0, .int .i64 c]) ∧ Below w.heap.size w w' := by
  rw [← hv]; exact specUnseal_any s w hs

end Go.Proofs.YtkmlnibkdcdegaaGreatDoor.Seal
