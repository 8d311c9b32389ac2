/-
  Several texts in one: RowNews, RowIMerge.
-/
import Derived.Test.YtoagdpbbojlgfaaGreatPackRMp
import Derived.Test.YtoagdpbbojlgfaaGreatRowPut
import Derived.Test.YtoagdpbbojlgfaaGreatStrApp
import Derived.Test.YtoagdpbbojlgfaaGreatDepCov
import Derived.Test.YtoagdpbbojlgfaaGreatDepICov
import Derived.Test.YtoagdpbbojlgfaaGreatIter
import Derived.Test.YtoagdpbbojlgfaaGreatRowLists
import Derived.Test.YtoagdpbbojlgfaaGreatRowOut
/-
  impl.newsFor: the rows of one store that another one lacks; impl.rowsInOrder: a map's rows, rising by key.
-/
namespace Go.Proofs.YtoagdpbbojlgfaaGreat.Sto
open Go.ChangeShapes Go.WideShapes Go.ChangeAt Go.RowKit
open Dep (I D zero kl kl_iff list_eq)
set_option linter.unusedVariables false
set_option maxRecDepth 100000
set_option linter.unusedSimpArgs false

/-- What a store has that another one lacks, or has of a lesser id. -/
def newsF (a b : List R) : ByteArray → Option R := fun q => match findW b q with
  | none => none
  | some y => match findW a q with
    | none => some y
    | some x => if x.i.less y.i = true then some y else none
theorem news_nil (b : List R) (q : ByteArray) : findW b q = newsF [] b q := by
  unfold newsF
  cases findW b q <;> rfl
theorem find_take_none {a : List R} (sa : Sorted a) {k : Nat} (hk : k < a.length) : findW (a.take k) a[k].k = none := by
  refine findW_none fun r hr => ?_
  obtain ⟨j, hj, rfl⟩ := List.getElem_of_mem hr
  rw [List.length_take] at hj
  rw [List.getElem_take]
  exact Dep.kl_ne (List.pairwise_iff_getElem.1 sa j k (by omega) hk (by omega))
theorem find_take_other {a : List R} (sa : Sorted a) {k : Nat} (hk : k < a.length) {q : ByteArray} (h : q ≠ a[k].k) : findW (a.take (k + 1)) q = findW (a.take k) q := by
  rw [← findW_step sa hk q]
  unfold upd
  rw [if_neg h]
theorem find_take_here {a : List R} (sa : Sorted a) {k : Nat} (hk : k < a.length) : findW (a.take (k + 1)) a[k].k = some a[k] := by
  rw [← findW_step sa hk a[k].k]
  unfold upd
  rw [if_pos rfl]
/-- What stands in the map at the row's key, ahead of the round. -/
theorem news_at {a b : List R} (sa : Sorted a) {k : Nat} (hk : k < a.length) : newsF (a.take k) b a[k].k = findW b a[k].k := by
  unfold newsF
  rw [find_take_none sa hk]
  cases findW b a[k].k <;> rfl
theorem news_del {a b : List R} (sa : Sorted a) {k : Nat} (hk : k < a.length) (h : a[k].i.less ((newsF (a.take k) b a[k].k).getD zeroR).i = false) (q : ByteArray) : upd (newsF (a.take k) b) a[k].k none q = newsF (a.take (k + 1)) b q := by
  unfold upd
  by_cases e : q = a[k].k
  · subst e
    rw [if_pos rfl]
    rw [news_at sa hk] at h
    unfold newsF
    rw [find_take_here sa hk]
    cases hb : findW b a[k].k with
    | none => rfl
    | some y =>
      rw [hb] at h
      show none = if a[k].i.less y.i = true then some y else none
      rw [if_neg (by rw [show a[k].i.less y.i = false from h]; decide)]
  · rw [if_neg e]
    unfold newsF
    rw [find_take_other sa hk e]
theorem news_keep {a b : List R} (sa : Sorted a) {k : Nat} (hk : k < a.length) (hr : a[k].i.right = true) (h : a[k].i.less ((newsF (a.take k) b a[k].k).getD zeroR).i = true) (q : ByteArray) : newsF (a.take k) b q = newsF (a.take (k + 1)) b q := by
  by_cases e : q = a[k].k
  · subst e
    rw [news_at sa hk] at h ⊢
    unfold newsF
    rw [find_take_here sa hk]
    cases hb : findW b a[k].k with
    | none => rfl
    | some y =>
      rw [hb] at h
      show some y = if a[k].i.less y.i = true then some y else none
      rw [if_pos (show a[k].i.less y.i = true from h)]
  · unfold newsF
    rw [find_take_other sa hk e]
theorem news_merge {a b : List R} (sa : Sorted a) (sb : Sorted b) (q : ByteArray) : over (findW a) (newsF a b) q = findW (mergeW a b) q := by
  rw [(merge_facts b a sa sb).2]
  unfold over newsF both
  cases findW b q with
  | none => rfl
  | some y =>
    cases findW a q with
    | none => rfl
    | some x =>
      show (match (if x.i.less y.i = true then some y else none) with | some r => some r | none => some x) = some (if x.i.less y.i = true then y else x)
      by_cases h : x.i.less y.i = true
      · rw [if_pos h, if_pos h]
      · rw [if_neg h, if_neg h]
theorem news_size {a b : List R} (q : ByteArray) (r : R) (h : newsF a b q = some r) : r ∈ b ∧ r.k = q := by
  unfold newsF at h
  cases hb : findW b q with
  | none => rw [hb] at h; cases h
  | some y =>
    rw [hb] at h
    have hy := findW_some hb
    cases ha : findW a q with
    | none => rw [ha] at h; cases h; exact hy
    | some x =>
      rw [ha] at h
      by_cases hl : x.i.less y.i = true
      · rw [show (match some x with | none => some y | some x => if x.i.less y.i = true then some y else none) = some y from if_pos hl] at h
        cases h; exact hy
      · rw [show (match some x with | none => some y | some x => if x.i.less y.i = true then some y else none) = none from if_neg hl] at h
        cases h

theorem field_id (k : ByteArray) (c s e : Int) (b : ByteArray) (V : World) : (Instr.field 42 (.agg #[.string k, .int .i64 c, .int .i64 s, .int .i64 e, .string b]) 1).run Tryz.prog V = .ok (.agg #[.int .i64 c, .int .i64 s, .int .i64 e]) V := by kernel_rfl
theorem implLess_any (x y : I) (w : World) :
    Calls Tryz.prog 231 #[.agg #[.int .i64 x.c, .int .i64 x.s, .int .i64 x.e], .agg #[.int .i64 y.c, .int .i64 y.s, .int .i64 y.e]] w fun e w' => e = .returned (.bool (x.less y)) ∧ Below w.heap.size w w' := Dep.implLessI_any x y w

set_option maxHeartbeats 4000000 in
theorem news_any (A B : Option Addr) (a b : List R) (ca cb : Nat) (w : World) (ha : Lies w w.heap.size A a) (hb : Lies w w.heap.size B b) (oa : rowsB a = true) (ob : rowsB b = true) :
    Calls Tryz.prog 181 #[slV A a ca, slV B b cb] w fun e w' => ∃ m, e = .returned (.map (some m)) ∧ w.heap.size ≤ m ∧ MapIs w' m b.length (newsF a b) ∧ Below w.heap.size w w' := by
  have hla := (ok_of oa).1
  have hlb := (ok_of ob).1
  have HA := Lib.hid ha
  have HSA := Lib.hid (ok_of oa).2.2
  have HGA := Lib.hid (ok_of oa).2.1
  have HKA := Lib.hid (ok_small oa)
  have HB := Lib.hid (byKey_any B b cb w hb (by omega) (ok_of ob).2.2 (fun d hd => ⟨Nat.le_trans (ok_small ob d hd).1 (by unfold maxLen; omega), Nat.le_trans (ok_small ob d hd).2 (by unfold maxLen; omega)⟩))
  clear ha hb oa ob
  unfold slV at *
  go_enter Tryz.func181, Tryz.ntmps181
  go_wp2_with fail
  refine HB.out.mono ?_
  rintro e w1 ⟨rfl, hm1, hb1⟩
  have HM1 := Lib.hid hm1
  have B1 := Lib.hid hb1
  clear hm1 hb1
  generalize hg : w.heap.size = g at HM1 ⊢
  have HG := Lib.hid hg
  go_wp2_with fail
  go_loopw [12] (fun i wr => ∃ k : Nat, k ≤ a.length ∧ i = .int .i64 k ∧ Hid (MapIs wr g b.length (newsF (a.take k) b) ∧ Below w.heap.size w wr)) (fun i _ => a.length - (intOf i).toNat)
  case atStart => exact ⟨0, by omega, rfl, Lib.hid ⟨HM1.out.congr (news_nil b), B1.out⟩⟩
  case round =>
    obtain ⟨k, hk, rfl, HR⟩ := hrel
    by_cases hlt : k < a.length
    · obtain ⟨ad, rfl, _, c0, c1, c2, c3, c4⟩ := (HA.out.below HR.out.2 (Nat.le_refl _)).at_ hlt
      have hky := (HKA.out a[k] (List.getElem_mem hlt)).1
      have hkr := ((rowB_iff a[k]).1 (HGA.out a[k] (List.getElem_mem hlt))).2.1
      have HD := Lib.hid (fun h => news_del (b := b) HSA.out hlt h)
      have HK := Lib.hid (fun h => news_keep (b := b) HSA.out hlt hkr h)
      obtain ⟨y, hy⟩ : ∃ y, a[k] = y := ⟨_, rfl⟩
      rw [hy] at c0 c1 c2 c3 c4 hky HD HK
      clear hy hkr
      have hkm : y.k.size ≤ maxLen := by unfold maxLen; omega
      obtain ⟨x, hx⟩ : ∃ x, (newsF (a.take k) b y.k).getD zeroR = x := ⟨_, rfl⟩
      have HX := Lib.hid hx
      rw [hx] at HD HK
      clear hx
      have HM := Lib.hid (HR.out.1.alloc y.obj)
      have BA := Lib.hid (HR.out.2.alloc HR.out.2.size y.obj)
      have X1 := Lib.hid (RowRow.new wr 42 y)
      have hf := fun V => field_id x.k x.i.c x.i.s x.i.e x.b V
      have hgm : g < wr.heap.size := HR.out.1.lt
      go_wp2_with (at_lookup; refine wpList_get rfl _ _ rfl HM.out rfl y.k hkm rfl ?_; rw [HX.out]; unfold R.val)
      refine (implLess_any y.i x.i _).mono ?_
      rintro e w2 ⟨rfl, hb2⟩
      have HM2 := Lib.hid (HM.out.step hb2 (Nat.le_refl _))
      have B2 := Lib.hid (BA.out.trans (hb2.mono BA.out.size))
      obtain ⟨x0, x1, x2, x3, x4⟩ := (X1.out.on hb2).cells
      clear hb2 hf c0 c1 c2 c3 c4
      cases hls : y.i.less x.i
      · have HN := Lib.hid (HD.out hls)
        clear hls
        go_wp2_with (at_delete; refine wpList_del rfl _ _ rfl HM2.out rfl y.k hkm rfl ?_; intro w3 hm3 hg3; have HM3 := Lib.hid (hm3.congr HN.out); have B3 := Lib.hid (B2.out.grown hg3 B2.out.size (fun j e => by cases e; have := HG.out; omega)); clear hm3 hg3; go_frame)
        go_roundw
        case rel => exact ⟨k + 1, by omega, by go_num, Lib.hid ⟨HM3.out, B3.out⟩⟩
        case measure => simp [intOf]; omega
      · have HN := Lib.hid (HK.out hls)
        clear hls
        go_wp2_with fail
        go_roundw
        case rel => exact ⟨k + 1, by omega, by go_num, Lib.hid ⟨HM2.out.congr HN.out, B2.out⟩⟩
        case measure => simp [intOf]; omega
    · have e : k = a.length := by omega
      go_wp2_with fail
      go_ret
      have h1 := HR.out.1
      rw [List.take_of_length_le (by omega)] at h1
      exact ⟨g, rfl, by have := HG.out; omega, h1, HR.out.2⟩

/-- The keys of rising rows, as the bytes that they are. -/
def keyL (l : List R) : List (List UInt8) := l.map fun d => d.k.data.toList
theorem keyL_rising {l : List R} (hs : Sorted l) : (keyL l).Pairwise fun x y => x < y := by
  unfold keyL
  rw [List.pairwise_map]
  exact hs.imp fun h => (kl_iff _ _).1 h
theorem keyL_nodup {l : List R} (hs : Sorted l) : (keyL l).Nodup := (keyL_rising hs).imp fun h e => by rw [e] at h; exact List.lt_irrefl _ h
theorem keyL_mem {l : List R} (hs : Sorted l) (x : List UInt8) : x ∈ keyL l ↔ (findW l ⟨x.toArray⟩).isSome = true := by
  unfold keyL
  rw [List.mem_map]
  constructor
  · rintro ⟨r, hr, rfl⟩
    have : (⟨r.k.data.toList.toArray⟩ : ByteArray) = r.k := by cases h : r.k; simp
    rw [this, findW_mem hs hr]; rfl
  · intro h
    obtain ⟨r, hr⟩ := Option.isSome_iff_exists.1 h
    obtain ⟨h1, h2⟩ := findW_some hr
    exact ⟨r, h1, by rw [h2]⟩
theorem keyL_sort {l : List R} (hs : Sorted l) : (keyL l).mergeSort (fun x y => decide (x ≤ y)) = keyL l :=
  List.mergeSort_of_pairwise ((keyL_rising hs).imp fun h => decide_eq_true (List.le_of_lt h))
theorem keyL_str (l : List R) : (keyL l).map Go.Proofs.encStr = Str.flat (l.map R.k) := by
  unfold keyL Str.flat
  rw [List.map_map, List.map_map]
  refine List.map_congr_left fun d _ => ?_
  show Value.string ⟨d.k.data.toList.toArray⟩ = Value.string d.k
  congr 1

set_option maxHeartbeats 4000000 in
theorem inOrder_any (b n : Nat) (l : List R) (w : World) (hm : MapIs w b n (findW l)) (hs : Sorted l) (hf : ∀ d ∈ l, d.k.size ≤ 1048576 ∧ d.b.size ≤ 1048576) (hl : l.length ≤ 1000) :
    Calls Tryz.prog 182 #[.map (some b)] w fun e w' => ∃ v, e = .returned v ∧ w'.ownsRow w.heap.size 42 5 v l.length (flat l) ∧ Below w.heap.size w w' := by
  have hbl := hm.lt
  have HM := Lib.hid hm
  obtain ⟨Dd, hown, hrd⟩ := hm
  have hsz := size_keys hown hrd (keyL_nodup hs) (keyL_mem hs)
  have hlen : (keyL l).length = l.length := by simp [keyL]
  have HPM := Lib.hid (keys_perm hown hrd (keyL_nodup hs) (keyL_mem hs))
  have cK : Hid (∀ W, Calls Tryz.prog 262 #[.map (some b)] W fun e w' => e = .returned (.func (.func 304) #[] #[.pointer (some ⟨W.heap.size, 0, none⟩)]) ∧ w' = W.alloc (.cells #[.map (some b)] 183)) :=
    Lib.hid fun W => callsIn_wide.1 (Tryz.keysCall (some b) W)
  have cS := Lib.hid (callsIn_wide.1 (Tryz.sortedCall b n Dd rowE w hown (by rw [hsz, hlen]; unfold maxLen; omega) (by rw [hsz, hlen]; omega)))
  have HSO := Lib.hid hs
  have HF := Lib.hid hf
  clear hown hrd hsz hs hf
  go_enter Tryz.func182, Tryz.ntmps182
  go_wp2_with fail
  refine (cK.out _).mono ?_
  rintro e w1 ⟨rfl, rfl⟩
  go_wp2_with fail
  refine cS.out.mono ?_
  rintro e w2 ⟨v, ss, rfl, hS, hrow, -, hb2⟩
  have B2 := Lib.hid (((Below.refl w.heap.size w).alloc (Nat.le_refl _) (.cells #[.map (some b)] 183)).trans (hb2.mono (by simp)))
  have hms : ss.mergeSort (fun x y => decide (x ≤ y)) = keyL l := by
    rw [← keyL_sort HSO.out]
    exact Go.mergeSort_of_perm (hS.trans HPM.out.symm)
  have hll : ss.length = l.length := by rw [(hS.trans HPM.out.symm).length_eq, hlen]
  rw [hms, keyL_str, hll] at hrow
  obtain ⟨-, A, c, hv, hc, hL⟩ := Str.own_lies hrow
  have HL := Lib.hid hL
  have hlm : (l.map R.k).length = l.length := by simp
  have hv2 : v = .slice A l.length c := by rw [hv]; unfold Str.slV; rw [hlm]
  have hsz2 : w.heap.size + 1 ≤ w2.heap.size := by have := hb2.size; simpa using this
  clear hrow hms hll hS hb2 hL hv hc
  subst hv2
  have HLM := Lib.hid hlm
  clear hlm
  go_wp2_with fail
  go_loopw [3, 10] (fun o i wr => ∃ k : Nat, k ≤ l.length ∧ i = .int .i64 k ∧ Hid (wr.ownsRow w2.heap.size 42 5 o k (flat (l.take k)) ∧ Below w.heap.size w wr ∧ Str.Lies wr w2.heap.size A (l.map R.k) ∧ w2.heap.size ≤ wr.heap.size)) (fun _ i _ => l.length - (intOf i).toNat)
  case atStart => exact ⟨0, by omega, rfl, Lib.hid ⟨⟨rfl, .inl ⟨rfl, rfl⟩⟩, B2.out, HL.out, Nat.le_refl _⟩⟩
  case round =>
    obtain ⟨k, hk, rfl, HR⟩ := hrel
    by_cases hlt : k < l.length
    · have hlk : k < (l.map R.k).length := by rw [HLM.out]; exact hlt
      obtain ⟨ad, rfl, _, c0⟩ := HR.out.2.2.1.at_ hlk
      rw [List.getElem_map] at c0
      have HST := Lib.hid (show flat (l.take (k + 1)) = flat (l.take k ++ [l[k]]) by rw [show l.take (k + 1) = l.take k ++ [l[k]] by simp])
      have HGT : Hid ((findW l l[k].k).getD zeroR = l[k]) := by
        refine Lib.hid ?_
        rw [findW_mem HSO.out (List.getElem_mem hlt)]
        rfl
      have hky := HF.out l[k] (List.getElem_mem hlt)
      obtain ⟨y, hy⟩ : ∃ y, l[k] = y := ⟨_, rfl⟩
      rw [hy] at c0 HST HGT hky
      clear hy hlk
      have hkm : y.k.size ≤ maxLen := by have := hky.1; unfold maxLen; omega
      have HMr := Lib.hid (HM.out.step HR.out.2.1 (Nat.le_refl _))
      go_wp2_with (at_lookup; refine wpList_get rfl _ _ rfl HMr.out rfl y.k hkm rfl ?_; rw [HGT.out])
      refine (newRow_any y _ hky.1 hky.2).mono ?_
      rintro e w3 ⟨rfl, hb3⟩
      have O3 := Lib.hid (own_step HR.out.1 hb3 (Nat.le_refl _))
      have B3 := Lib.hid (HR.out.2.1.trans (hb3.mono HR.out.2.1.size))
      have S3 := Lib.hid (HR.out.2.2.1.below hb3 HR.out.2.2.2)
      have Z3 := Lib.hid (Nat.le_trans HR.out.2.2.2 hb3.size)
      clear hb3 c0
      unfold R.val
      go_wp2_with (at_builtin; refine wpList_append_rows rfl rfl rfl [y] rfl rfl rfl (own_alloc O3.out y.obj) (one_lies _ y) (by simp; omega) (by have := Z3.out; simp; omega) ?_; intro v2 W2 ho2 hg2; have hB := ((Below.refl w2.heap.size w3).alloc Z3.out y.obj).grown hg2 (by have := Z3.out; simp; omega) (ownBlock_base O3.out); have BB := Lib.hid hB; have B4 := Lib.hid (B3.out.trans (hB.mono (by omega))); have S4 := Lib.hid (S3.out.below hB (Nat.le_refl _)); have Z4 := Lib.hid (Nat.le_trans Z3.out hB.size); rw [← HST.out] at ho2; have O4 := Lib.hid ho2; clear ho2 hg2 hB)
      go_roundw
      case rel => exact ⟨k + 1, by omega, by go_num, Lib.hid ⟨O4.out, B4.out, S4.out, Z4.out⟩⟩
      case measure => simp [intOf]; omega
    · have e : k = l.length := by omega
      go_wp2_with fail
      go_ret
      have h1 := HR.out.1
      rw [List.take_of_length_le (by omega), e] at h1
      exact ⟨_, rfl, own_less h1 (by omega), HR.out.2.1⟩
end Go.Proofs.YtoagdpbbojlgfaaGreat.Sto

/-
  impl.listsCode at rows, impl.StoreMerge, impl.StorePut.
-/
namespace Go.Proofs.YtoagdpbbojlgfaaGreat.Sto
open Go.ChangeShapes Go.WideShapes Go.ChangeAt Go.RowKit
open Dep (I D zero kl list_eq add_block)
set_option linter.unusedVariables false
set_option maxRecDepth 100000
set_option linter.unusedSimpArgs false


/-- Two lists in a new row. -/
abbrev twoObj (A B : Option Addr) (a b : List R) (ca cb : Nat) : Obj := Obj.cells #[Value.slice A a.length ca, Value.slice B b.length cb] 98
theorem two_lists {w W : World} {A B : Option Addr} {a b : List R} {ca cb : Nat} (ha : Lies w w.heap.size A a) (hb : Lies w w.heap.size B b) (hW : Below w.heap.size w W) :
    Lists (W.alloc (twoObj A B a b ca cb)) (W.alloc (twoObj A B a b ca cb)).heap.size ⟨W.heap.size, 0, none⟩ [⟨A, a, ca⟩, ⟨B, b, cb⟩] := by
  have hr := heap_alloc_new W (twoObj A B a b ca cb)
  have hB : Below w.heap.size w (W.alloc (twoObj A B a b ca cb)) := hW.alloc hW.size _
  have hs := hB.size
  refine ⟨by simp, fun j hj => ?_, fun j hj => ?_⟩
  · have : j = 0 ∨ j = 1 := by simp at hj; omega
    rcases this with rfl | rfl
    · exact cell_of_row _ _ 0 _ _ (0, 0) hr
    · exact cell_of_row _ _ 1 _ _ (0, 0) hr
  · have : j = 0 ∨ j = 1 := by simp at hj; omega
    rcases this with rfl | rfl
    · exact (ha.below hB (Nat.le_refl _)).more hs
    · exact (hb.below hB (Nat.le_refl _)).more hs
theorem two_len {a b : List R} {A B : Option Addr} {ca cb : Nat} (hla : a.length ≤ 1048576) (hlb : b.length ≤ 1048576) : ∀ j (h : j < [(⟨A, a, ca⟩ : Sl), ⟨B, b, cb⟩].length), ([(⟨A, a, ca⟩ : Sl), ⟨B, b, cb⟩][j]).l.length ≤ 1048576 := by
  intro j hj
  have : j = 0 ∨ j = 1 := by simp at hj; omega
  rcases this with rfl | rfl <;> assumption
theorem two_keys {a b : List R} {A B : Option Addr} {ca cb : Nat} (ka : ∀ d ∈ a, Fits d) (kb : ∀ d ∈ b, Fits d) : ∀ j (h : j < [(⟨A, a, ca⟩ : Sl), ⟨B, b, cb⟩].length), ∀ d ∈ ([(⟨A, a, ca⟩ : Sl), ⟨B, b, cb⟩][j]).l, Fits d := by
  intro j hj
  have : j = 0 ∨ j = 1 := by simp at hj; omega
  rcases this with rfl | rfl <;> assumption
theorem mergeC_code (a b : List R) : (codeV [a, b] ≠ 0 ∧ mergeC a b = codeV [a, b] ∧ mergeR a b = []) ∨ (codeV [a, b] = 0 ∧ rowsB a = true ∧ rowsB b = true ∧ ¬ (400 < a.length ∨ 400 < b.length)) := by
  by_cases h : 400 < a.length ∨ 400 < b.length
  · have e : codeV [a, b] = 2 := by
      rcases h with h | h
      · exact code_big (l := a) (by simp) h
      · exact code_big (l := b) (by simp) h
    have e2 : mergeC a b = 2 := by unfold mergeC; rw [if_pos h]
    exact .inl ⟨by omega, by omega, by unfold mergeR; rw [if_neg (by omega)]⟩
  · have hn : ∀ l ∈ [a, b], ¬ 400 < l.length := by
      intro l hl
      simp only [List.mem_cons, List.not_mem_nil, or_false] at hl
      rcases hl with rfl | rfl <;> omega
    by_cases h2 : rowsB a = true ∧ rowsB b = true
    · refine .inr ⟨?_, h2.1, h2.2, h⟩
      rw [code_all hn, if_pos]
      simpa using h2
    · have e : codeV [a, b] = 1 := by
        rw [code_all hn, if_neg]
        simpa using h2
      have e2 : mergeC a b = 1 := by unfold mergeC; rw [if_neg h, if_neg h2]
      exact .inl ⟨by omega, by omega, by unfold mergeR; rw [if_neg (by omega)]⟩
theorem merge_small {a b : List R} (ha : rowsB a = true) (hb : rowsB b = true) : ∀ d ∈ mergeW a b, d.k.size ≤ 1048576 ∧ d.b.size ≤ 1048576 := fun d hd => by
  have h1 := (rowB_iff d).1 (good_merge (ok_of ha).2.1 (ok_of hb).2.1 d hd)
  have h2 := (Key.ok_of h1.1).2.1
  exact ⟨by omega, by omega⟩

set_option maxHeartbeats 4000000 in
theorem implMergeOut_any (A B : Option Addr) (a b : List R) (ca cb : Nat) (w : World) (ha : Lies w w.heap.size A a) (hb : Lies w w.heap.size B b) (hla : a.length ≤ 1048576) (hlb : b.length ≤ 1048576) (ka : ∀ d ∈ a, Fits d) (kb : ∀ d ∈ b, Fits d) :
    Calls Tryz.prog 67 #[slV A a ca, slV B b cb] w fun e w' => Answers w e w' (mergeR a b) (mergeC a b) := by
  have HC : Hid (∀ W, Below w.heap.size w W → Calls Tryz.prog 178 #[.func (.func 81) #[] #[], .slice (some ⟨W.heap.size, 0, none⟩) 2 2] (W.alloc (twoObj A B a b ca cb)) fun e w' => e = .returned (.int .i64 (codeV [a, b])) ∧ Below (W.alloc (twoObj A B a b ca cb)).heap.size (W.alloc (twoObj A B a b ca cb)) w') := by
    refine Lib.hid fun W hW => ?_
    have := lists_any ⟨W.heap.size, 0, none⟩ [⟨A, a, ca⟩, ⟨B, b, cb⟩] 2 (W.alloc (twoObj A B a b ca cb)) (two_lists ha hb hW) (by simp) (two_len hla hlb) (two_keys ka kb)
    simpa only [List.map_cons, List.map_nil, List.length_cons, List.length_nil] using this
  have HLa := Lib.hid (fun W (hW : Below w.heap.size w W) => (ha.below hW (Nat.le_refl _)).more hW.size)
  have HLb := Lib.hid (fun W (hW : Below w.heap.size w W) => (hb.below hW (Nat.le_refl _)).more hW.size)
  have HKa := Lib.hid ka
  clear ha hb ka kb
  have B1 := (Below.refl w.heap.size w).alloc (Nat.le_refl _) (Obj.cells #[Value.slice none 0 0, Value.int IntKind.i64 0] 102)
  have hR := SRow.new w (.slice none 0 0) 0
  have HB1 := Lib.hid B1
  have hlt := hR.lt
  unfold slV
  go_enter Tryz.func67, Tryz.ntmps67
  go_wp2_with fail
  have hsz : (World.alloc w (Obj.cells #[Value.slice none 0 0, Value.int IntKind.i64 0] 102)).heap.size = w.heap.size + 1 := by simp
  generalize World.alloc w _ = W1 at B1 HB1 hR hlt hsz ⊢
  have hcall := HC.out W1 HB1.out
  rw [hsz] at hcall
  refine hcall.mono ?_
  clear hcall
  rintro e w1 ⟨rfl, hb1⟩
  have hR1 := (hR.alloc (twoObj A B a b ca cb)).step hb1 (by simp; omega)
  have B2 := Lib.hid ((B1.alloc B1.size (twoObj A B a b ca cb)).trans (hb1.mono (by have := B1.size; simp; omega)))
  clear hb1 hR B1
  rcases mergeC_code a b with ⟨hc, hcj, hr⟩ | ⟨hc, hda, hdb, h400⟩
  · have HV := Lib.hid hcj
    have HR := Lib.hid hr
    obtain ⟨r0, r1⟩ := hR1.cells
    have f0 := hR1.free 0
    have f1 := hR1.free 1
    clear hcj hr hR1
    obtain ⟨cv, hcv⟩ : ∃ cv, codeV [a, b] = cv := ⟨_, rfl⟩
    have HCV := Lib.hid hcv
    rw [hcv] at hc ⊢
    clear hcv
    have hc3 : ¬ cv = 0 := hc
    have hc4 : (cv != 0) = true := by simpa using hc
    go_wp2_with fail
    refine bodyPost_ret (v := outV (.slice none 0 0) cv) (by simp [results, Tryz.results67, go_sem, outV, r0, r1]) rfl ?_
    rw [HV.out, HR.out, HCV.out]
    exact Answers.nil ((B2.out.setCell (Nat.le_refl _) _).setCell (Nat.le_refl _) _)
  · have HR1 := Lib.hid hR1
    have hsa := (ok_of hda).2.2
    have hsb := (ok_of hdb).2.2
    have h6a := (ok_of hda).1
    have h6b := (ok_of hdb).1
    have HBK := Lib.hid (fun W hW => byKey_any A a ca W (HLa.out W hW) (by omega) hsa HKa.out)
    have HNW := Lib.hid (fun W hW => news_any A B a b ca cb W (HLa.out W hW) (HLb.out W hW) hda hdb)
    have HSM := Lib.hid (merge_facts b a hsa hsb).1
    have HFM := Lib.hid (fun q => news_merge hsa hsb q)
    have HFS := Lib.hid (merge_small hda hdb)
    have hml := merge_len b a
    have hC0 : mergeC a b = if 6 < (mergeW a b).length then 9 else 0 := by unfold mergeC; rw [if_neg h400, if_pos ⟨hda, hdb⟩]
    have HC0 := Lib.hid hC0
    have HKN := Lib.hid (keyL_nodup HSM.out)
    have HKM := Lib.hid (keyL_mem HSM.out)
    have HKL := Lib.hid (show (keyL (mergeW a b)).length = (mergeW a b).length by simp [keyL])
    clear hR1 hsa hsb hda hdb h400 hC0
    unfold slV at HBK HNW
    rw [hc]
    clear hc
    go_wp2_with fail
    refine (HBK.out _ B2.out).mono ?_
    rintro e w2 ⟨rfl, hm2, hb2⟩
    have HM2 := Lib.hid hm2
    have B3 := Lib.hid (B2.out.trans (hb2.mono B2.out.size))
    have HR2 := Lib.hid (HR1.out.step hb2 HR1.out.lt)
    have hlt2 := hm2.lt
    have hsz1 := HR1.out.lt
    clear hm2 hb2
    obtain ⟨g, hg⟩ : ∃ g, w1.heap.size = g := ⟨_, rfl⟩
    have HG := Lib.hid hg
    rw [hg] at HM2 hlt2 hsz1 ⊢
    clear hg
    go_wp2_with fail
    refine (HNW.out _ B3.out).mono ?_
    rintro e w3 ⟨m, rfl, hmg, hm3, hb3⟩
    have HM3 := Lib.hid hm3
    have HM2 := Lib.hid (HM2.out.step hb3 (Nat.le_refl _))
    have B4 := Lib.hid (B3.out.trans (hb3.mono B3.out.size))
    have HR3 := Lib.hid (HR2.out.step hb3 HR2.out.lt)
    clear hm3 hb3
    have hgm : g ≠ m := by omega
    go_wp2_with fail
    refine (copy_any g m a.length b.length _ _ w3 HM2.out HM3.out hgm (by omega)).mono ?_
    rintro e w4 ⟨rfl, hm4, hg4⟩
    have HM4 := Lib.hid (hm4.congr HFM.out)
    have hwg : w.heap.size < g := by have := hsz1; omega
    have B5 := Lib.hid (B4.out.grown hg4 B4.out.size (fun j e => by cases e; omega))
    have HR4 := Lib.hid (show SRow w4 w.heap.size (.slice none 0 0) 0 from (hg4.block _ HR3.out.lt (fun e => by have := Option.some.inj e; omega)).trans HR3.out)
    clear hm4 hg4
    by_cases h6 : 6 < (mergeW a b).length
    · have HV := Lib.hid (show mergeC a b = 9 by rw [HC0.out, if_pos h6])
      have HR := Lib.hid (show mergeR a b = [] by unfold mergeR; rw [HV.out]; rfl)
      have h6i : (6 : Int) < ((mergeW a b).length : Int) := by omega
      obtain ⟨r0, r1⟩ := HR4.out.cells
      have f0 := HR4.out.free 0
      have f1 := HR4.out.free 1
      go_wp2_with (at_len; refine wpList_size rfl _ rfl HM4.out rfl HKN.out HKM.out ?_; rw [HKL.out])
      refine bodyPost_ret (v := outV (.slice none 0 0) 9) (by simp [results, Tryz.results67, go_sem, outV, r0, r1]) rfl ?_
      rw [HV.out, HR.out]
      exact Answers.nil ((B5.out.setCell (Nat.le_refl _) _).setCell (Nat.le_refl _) _)
    · have HV := Lib.hid (show mergeC a b = 0 by rw [HC0.out, if_neg h6])
      have HR := Lib.hid (show mergeR a b = mergeW a b by unfold mergeR; rw [HV.out]; rfl)
      have h6i : ¬ (6 : Int) < ((mergeW a b).length : Int) := by omega
      go_wp2_with (at_len; refine wpList_size rfl _ rfl HM4.out rfl HKN.out HKM.out ?_; rw [HKL.out])
      refine (inOrder_any g _ (mergeW a b) w4 HM4.out HSM.out HFS.out (by omega)).mono ?_
      rintro e w5 ⟨v, rfl, ho5, hb5⟩
      obtain ⟨-, A5, c5, hv, -, -⟩ := own_lies ho5
      subst hv
      have HO := Lib.hid ho5
      have B6 := Lib.hid (B5.out.trans (hb5.mono B5.out.size))
      have HR5 := Lib.hid (HR4.out.step hb5 HR4.out.lt)
      have hlt4 := HR4.out.lt
      clear ho5 hb5
      obtain ⟨r0, r1⟩ := HR5.out.cells
      have f0 := HR5.out.free 0
      have f1 := HR5.out.free 1
      unfold slV
      go_wp2_with fail
      refine bodyPost_ret (v := outV (.slice A5 (mergeW a b).length c5) 0) (by simp [results, Tryz.results67, go_sem, outV, r0, r1]) rfl ?_
      rw [HV.out, HR.out]
      exact Answers.row (own_less (own_set2 HO.out (b := w.heap.size) hlt4 _ _) (by omega)) ((B6.out.setCell (Nat.le_refl _) _).setCell (Nat.le_refl _) _)

/-- What the inner call hands back, told once more in a cell. -/
theorem Answers.cell {w w1 w2 : World} {e : Ending} {r : List R} {c : Int} {b : Nat} (h : Answers w1 e w2 r c) (hw : Below w.heap.size w w1) (hb : w.heap.size ≤ b) (hb1 : b < w1.heap.size) (hR : SRow w1 b (.slice none 0 0) 0) :
    ∃ v, e = .returned (outV v c) ∧ SRow w2 b (.slice none 0 0) 0 ∧ (∃ (A : Option Addr) (m : Nat × Nat), v = .slice A m.1 m.2) ∧ Answers w (.returned (outV v c)) ((w2.setCell ⟨b, 0, none⟩ v).setCell ⟨b, 1, none⟩ (.int .i64 c)) r c := by
  obtain ⟨A, cap, rfl, ho, hc, hL, hB⟩ := h
  refine ⟨slV A r cap, rfl, hR.step hB hb1, ⟨A, (r.length, cap), rfl⟩, ?_⟩
  exact Answers.row (own_less (own_set2 ho hb1 _ _) hw.size) (((hw.trans (hB.mono hw.size)).setCell (p := ⟨b, 0, none⟩) hb _).setCell (p := ⟨b, 1, none⟩) hb _)

set_option maxHeartbeats 2000000 in
theorem implPutOut_any (A : Option Addr) (l : List R) (cap : Nat) (x : R) (w : World) (h : Lies w w.heap.size A l) (hl : l.length ≤ 1048576) (hk : ∀ d ∈ l, Fits d) (hx : Fits x) :
    Calls Tryz.prog 69 #[slV A l cap, x.val] w fun e w' => Answers w e w' (putR l x) (putC l x) := by
  unfold putR putC
  have B0 := (Below.refl w.heap.size w).alloc (Nat.le_refl _) x.obj
  have B1 := B0.alloc B0.size (Obj.cells #[Value.slice none 0 0, Value.int IntKind.i64 0] 102)
  have hX := (RowRow.new w 42 x).alloc (Obj.cells #[Value.slice none 0 0, Value.int IntKind.i64 0] 102)
  have hR := SRow.new (w.alloc x.obj) (.slice none 0 0) 0
  rw [World.size_alloc] at hR
  have hB2 := B1.alloc B1.size x.obj
  have HM := Lib.hid (implMergeOut_any A (some ⟨((w.alloc x.obj).alloc (Obj.cells #[Value.slice none 0 0, Value.int IntKind.i64 0] 102)).heap.size, 0, none⟩) l [x] cap 1 (((w.alloc x.obj).alloc (Obj.cells #[Value.slice none 0 0, Value.int IntKind.i64 0] 102)).alloc x.obj) ((h.below hB2 (Nat.le_refl _)).more hB2.size) (one_lies _ x) hl (by simp) hk (fun d hd => by rw [List.mem_singleton.1 hd]; exact hx))
  have HB2 := Lib.hid hB2
  have HR2 := Lib.hid (hR.alloc x.obj)
  obtain ⟨x0, x1, x2, x3, x4⟩ := hX.cells
  have hsz : ((w.alloc x.obj).alloc (Obj.cells #[Value.slice none 0 0, Value.int IntKind.i64 0] 102)).heap.size = w.heap.size + 1 + 1 := by simp
  rw [hsz] at HM
  clear h hk hx B0 B1 hR hX hB2
  unfold slV at HM ⊢
  unfold R.val
  go_enter Tryz.func69, Tryz.ntmps69
  go_wp2_with fail
  refine HM.out.mono ?_
  intro e w2 hans
  obtain ⟨v, rfl, hR3, ⟨A3, m3, rfl⟩, hA⟩ := hans.cell HB2.out (show w.heap.size ≤ w.heap.size + 1 by omega) HR2.out.lt HR2.out
  have HA := Lib.hid hA
  obtain ⟨r0, r1⟩ := hR3.cells
  have f0 := hR3.free 0
  have f1 := hR3.free 1
  clear hA hans hR3
  unfold outV
  go_wp2_with fail
  refine bodyPost_ret (v := outV (.slice A3 m3.1 m3.2) (mergeC l [x])) (by simp [results, Tryz.results69, go_sem, outV, r0, r1]) rfl ?_
  exact HA.out
end Go.Proofs.YtoagdpbbojlgfaaGreat.Sto
