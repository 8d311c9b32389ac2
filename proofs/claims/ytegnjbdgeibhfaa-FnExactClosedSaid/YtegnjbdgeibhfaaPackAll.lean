/-
  Several texts in one: DepAbove, DepKeys, DepChain, DepInv, DepFence.
-/
import Derived.Test.YtegnjbdgeibhfaaPackCov
import Derived.RangeFuncNested
import Derived.RangeFuncBound
import Derived.RangeFuncCalls
import Derived.RangeFuncLeaves
import Derived.RangeFuncBox
import Derived.Shelf.Abstract
import Derived.Shelf.RegionOpen
import Derived.WalkKit
import Derived.OwnWalkIn
import Derived.TacticsInMore
import Derived.LoopNIn
import Derived.LoopIn
import Derived.Test.YtegnjbdgeibhfaaPackPut
import Derived.Test.YtegnjbdgeibhfaaShelf
import Derived.Deep.RegionHeld3
/-
  impl.keyAbove: the least key above another one in some lists, or the empty text.
-/
namespace Go.Proofs.Ytegnjbdgeibhfaa.Dep
open Go.ChangeShapes Go.WideShapes Go.ChangeAt Go.RowKit
set_option linter.unusedVariables false
set_option maxRecDepth 100000

open Classical in
noncomputable def upV (last m k : ByteArray) : ByteArray := if kl last k = true ∧ (m = ⟨#[]⟩ ∨ kl k m = true) then k else m
noncomputable def aboveV (last : ByteArray) (L : List D) : ByteArray := L.foldl (fun m d => upV last m d.k) ⟨#[]⟩
theorem above_snoc (last : ByteArray) (L : List D) (d : D) : aboveV last (L ++ [d]) = upV last (aboveV last L) d.k := by
  unfold aboveV; rw [List.foldl_append]; rfl
theorem not_less_empty (x : ByteArray) : kl x ⟨#[]⟩ = false := by
  cases h : kl x ⟨#[]⟩
  · rfl
  · rw [kl_iff] at h; exact absurd h (List.not_lt_nil _)
theorem above_spec (last : ByteArray) (L : List D) :
    (aboveV last L = ⟨#[]⟩ ∧ ∀ d ∈ L, kl last d.k = false) ∨ ((∃ d ∈ L, d.k = aboveV last L) ∧ kl last (aboveV last L) = true ∧ ∀ d ∈ L, kl last d.k = true → kl d.k (aboveV last L) = false) := by
  have key : ∀ n, ∀ L : List D, L.length = n → (aboveV last L = ⟨#[]⟩ ∧ ∀ d ∈ L, kl last d.k = false) ∨ ((∃ d ∈ L, d.k = aboveV last L) ∧ kl last (aboveV last L) = true ∧ ∀ d ∈ L, kl last d.k = true → kl d.k (aboveV last L) = false) := by
    intro n
    induction n with
    | zero =>
      intro L hL
      rw [List.eq_nil_of_length_eq_zero hL]
      exact .inl ⟨rfl, fun d hd => absurd hd (by simp)⟩
    | succ n ih =>
      intro L hL
      have hne : L ≠ [] := by intro e; subst e; simp at hL
      obtain ⟨M, d, rfl⟩ : ∃ M d, L = M ++ [d] := ⟨L.dropLast, L.getLast hne, (List.dropLast_concat_getLast hne).symm⟩
      have hM : M.length = n := by simpa using hL
      rw [above_snoc]
      have em := ih M hM
      by_cases h1 : kl last d.k = true
      · rcases em with ⟨e, hn⟩ | ⟨⟨x, hx, hxe⟩, h2, h3⟩
        · refine .inr ?_
          have hu : upV last (aboveV last M) d.k = d.k := by unfold upV; rw [if_pos ⟨h1, .inl e⟩]
          rw [hu]
          refine ⟨⟨d, by simp, rfl⟩, h1, fun y hy hyl => ?_⟩
          rcases List.mem_append.1 hy with hy | hy
          · rw [hn y hy] at hyl; cases hyl
          · obtain rfl : y = d := by simpa using hy
            cases hc : kl y.k y.k
            · rfl
            · exact absurd hc (kl_irrefl _)
        · refine .inr ?_
          by_cases h4 : kl d.k (aboveV last M) = true
          · have hu : upV last (aboveV last M) d.k = d.k := by unfold upV; rw [if_pos ⟨h1, .inr h4⟩]
            rw [hu]
            refine ⟨⟨d, by simp, rfl⟩, h1, fun y hy hyl => ?_⟩
            rcases List.mem_append.1 hy with hy | hy
            · cases hc : kl y.k d.k
              · rfl
              · have := h3 y hy hyl
                rw [kl_trans hc h4] at this
                cases this
            · obtain rfl : y = d := by simpa using hy
              cases hc : kl y.k y.k
              · rfl
              · exact absurd hc (kl_irrefl _)
          · have hu : upV last (aboveV last M) d.k = aboveV last M := by
              unfold upV
              rw [if_neg]
              rintro ⟨_, h | h⟩
              · rw [h, not_less_empty] at h2; cases h2
              · exact h4 h
            rw [hu]
            refine ⟨⟨x, by simp [hx], hxe⟩, h2, fun y hy hyl => ?_⟩
            rcases List.mem_append.1 hy with hy | hy
            · exact h3 y hy hyl
            · obtain rfl : y = d := by simpa using hy
              cases hc : kl y.k (aboveV last M)
              · rfl
              · exact absurd hc h4
      · have hu : upV last (aboveV last M) d.k = aboveV last M := by unfold upV; rw [if_neg (fun h => h1 h.1)]
        rw [hu]
        have h1f : kl last d.k = false := by cases hc : kl last d.k; rfl; exact absurd hc h1
        rcases em with ⟨e, hn⟩ | ⟨⟨x, hx, hxe⟩, h2, h3⟩
        · refine .inl ⟨e, fun y hy => ?_⟩
          rcases List.mem_append.1 hy with hy | hy
          · exact hn y hy
          · obtain rfl : y = d := by simpa using hy
            exact h1f
        · refine .inr ⟨⟨x, by simp [hx], hxe⟩, h2, fun y hy hyl => ?_⟩
          rcases List.mem_append.1 hy with hy | hy
          · exact h3 y hy hyl
          · obtain rfl : y = d := by simpa using hy
            exact absurd hyl h1
  exact key _ L rfl

/-- A slice of deps as a thing. -/
structure Sl where
  A : Option Addr
  l : List D
  c : Nat
/-- Some lists, told by a slice of slices. -/
def Lists (w : World) (B : Nat) (ad : Addr) (ls : List Sl) : Prop :=
  ad.block < B ∧ (∀ j (h : j < ls.length), w.cell? (ad.add j) = some (.slice ls[j].A ls[j].l.length ls[j].c)) ∧ ∀ j (h : j < ls.length), Lies w B ls[j].A ls[j].l
theorem Lists.below {w w' : World} {B N : Nat} {ad : Addr} {ls : List Sl} (h : Lists w B ad ls) (hb : Below N w w') (hN : B ≤ N) : Lists w' B ad ls :=
  ⟨h.1, fun j hj => (hb.cell (p := ad.add j) (by rw [add_block]; have := h.1; omega)).trans (h.2.1 j hj), fun j hj => (h.2.2 j hj).below hb hN⟩
theorem Lists.more {w : World} {B B' : Nat} {ad : Addr} {ls : List Sl} (h : Lists w B ad ls) (hB : B ≤ B') : Lists w B' ad ls :=
  ⟨by have := h.1; omega, h.2.1, fun j hj => (h.2.2 j hj).more hB⟩
def allOf (ls : List Sl) : List D := ls.flatMap (·.l)
theorem allOf_step (ls : List Sl) (i : Nat) (h : i < ls.length) : allOf (ls.take (i + 1)) = allOf (ls.take i) ++ ls[i].l := by
  unfold allOf
  rw [show ls.take (i + 1) = ls.take i ++ [ls[i]] by simp, List.flatMap_append]
  simp

theorem toList_empty : ByteArray.toList ⟨#[]⟩ = [] := by rw [ByteArray.toList_eq]
theorem binOp_string_gtr_dep (t : TypeId) (a b : ByteArray) : binOp .gtr t (.string a) (.string b) = pure (.bool (Op.bytesLess b.toList a.toList)) := by
  have h : (!(Op.bytesLess a.toList b.toList || a.toList == b.toList)) = Op.bytesLess b.toList a.toList := by
    rw [bytesLess_eq, bytesLess_eq, ByteArray.toList_eq, ByteArray.toList_eq]
    by_cases h1 : a.data.toList < b.data.toList
    · have h2 : ¬ b.data.toList < a.data.toList := fun h2 => List.lt_irrefl _ (List.lt_trans h1 h2)
      simp [h1, h2]
    · by_cases h2 : b.data.toList < a.data.toList
      · have h3 : (a.data.toList == b.data.toList) = false := beq_eq_false_iff_ne.2 fun e => by rw [e] at h2; exact List.lt_irrefl _ h2
        rw [h3]
        simp [h1, h2]
      · have h3 : (a.data.toList == b.data.toList) = true := beq_iff_eq.2 (List.le_antisymm h2 h1)
        rw [h3]
        simp [h2]
  simp [binOp, Op.stringOp, ← h]
attribute [local go_sem] binOp_string_gtr_dep

set_option maxHeartbeats 1000000 in
set_option maxRecDepth 100000 in
theorem above_any (last : ByteArray) (ad : Addr) (ls : List Sl) (cap : Nat) (w : World) (h : Lists w w.heap.size ad ls) (hl : ls.length ≤ 400) (hll : ∀ j (h : j < ls.length), ls[j].l.length ≤ maxLen) :
    Calls Try.prog 105 #[.string last, .slice (some ad) ls.length cap] w fun e w' => e = .returned (.string (aboveV last (allOf ls))) ∧ Below w.heap.size w w' := by
  have H := Lib.hid h
  have HL := Lib.hid hll
  clear h hll
  go_enter Try.func105, Try.ntmps105
  go_wp2_with fail
  go_loopw [5, 12] (fun m i wr => ∃ k : Nat, k ≤ ls.length ∧ i = .int .i64 k ∧ ∃ mv : ByteArray, m = .string mv ∧ Hid (mv = aboveV last (allOf (ls.take k)) ∧ Below w.heap.size w wr)) (fun _ i _ => ls.length - (intOf i).toNat)
  case atStart => exact ⟨0, by omega, rfl, _, rfl, Lib.hid ⟨rfl, Below.refl _ _⟩⟩
  case round =>
    obtain ⟨k, hk, rfl, mv, rfl, HR⟩ := hrel
    by_cases hlt : k < ls.length
    · have c0 := (H.out.below HR.out.2 (Nat.le_refl _)).2.1 k hlt
      have hlen := HL.out k hlt
      unfold maxLen at hlen
      obtain ⟨s, hs⟩ : ∃ s, ls[k] = s := ⟨_, rfl⟩
      have HS := Lib.hid hs
      have hLs := H.out.2.2 k hlt
      rw [hs] at c0 hlen hLs
      clear hs
      obtain ⟨sA, sl, sc⟩ := s
      simp only at c0 hlen hLs
      have HLs := Lib.hid hLs
      clear hLs
      go_wp2_with fail
      go_loopw [5, 18] (fun m i wx => ∃ j : Nat, j ≤ sl.length ∧ i = .int .i64 j ∧ ∃ mv : ByteArray, m = .string mv ∧ Hid (mv = aboveV last (allOf (ls.take k) ++ sl.take j) ∧ Below w.heap.size w wx)) (fun _ i _ => sl.length - (intOf i).toNat)
      case atStart => exact ⟨0, by omega, rfl, _, rfl, Lib.hid ⟨by rw [HR.out.1]; simp, HR.out.2⟩⟩
      case round =>
        obtain ⟨j, hj, rfl, m2, rfl, HX⟩ := hrel
        by_cases hjl : j < sl.length
        · obtain ⟨ed, rfl, _, e0, e1, e2, e3⟩ := (HLs.out.below HX.out.2 (Nat.le_refl _)).at_ hjl
          have HN := Lib.hid (show aboveV last (allOf (ls.take k) ++ sl.take (j + 1)) = upV last m2 sl[j].k by rw [show sl.take (j + 1) = sl.take j ++ [sl[j]] by simp, ← List.append_assoc, above_snoc, ← HX.out.1])
          obtain ⟨y, hy⟩ : ∃ y, sl[j] = y := ⟨_, rfl⟩
          rw [hy] at e0 e1 e2 e3 HN
          clear hy
          have HB0 := Lib.hid (HX.out.2.alloc HX.out.2.size y.obj)
          cases hc1 : Op.bytesLess last.toList y.k.toList
          · have HV := Lib.hid (show upV last m2 y.k = m2 by unfold upV; rw [if_neg]; rintro ⟨h, _⟩; rw [show kl last y.k = false from hc1] at h; cases h)
            go_wp2_with fail
            go_roundw
            case rel => exact ⟨j + 1, by omega, by go_num, m2, rfl, Lib.hid ⟨by rw [HN.out, HV.out], HB0.out⟩⟩
            case measure => simp [intOf]; omega
          · by_cases hc2 : m2 = ⟨#[]⟩
            · have HV := Lib.hid (show upV last m2 y.k = y.k by unfold upV; rw [if_pos ⟨hc1, .inl hc2⟩])
              have hee : (m2.toList == ByteArray.toList ⟨#[]⟩) = true := by rw [hc2]; exact beq_self_eq_true _
              have hee2 : (m2.toList == []) = true := by rw [← toList_empty]; exact hee
              clear hc2
              go_wp2_with fail
              go_roundw
              case rel => exact ⟨j + 1, by omega, by go_num, y.k, rfl, Lib.hid ⟨by rw [HN.out, HV.out], HB0.out⟩⟩
              case measure => simp [intOf]; omega
            · have hne : ¬ m2.toList = ByteArray.toList ⟨#[]⟩ := fun e => hc2 (list_eq (by rw [← ByteArray.toList_eq, ← ByteArray.toList_eq]; exact e))
              have hee : (m2.toList == ByteArray.toList ⟨#[]⟩) = false := beq_eq_false_iff_ne.2 hne
              have hee2 : (m2.toList == []) = false := by rw [← toList_empty]; exact hee
              cases hc3 : Op.bytesLess y.k.toList m2.toList
              · have HV := Lib.hid (show upV last m2 y.k = m2 by unfold upV; rw [if_neg]; rintro ⟨_, h | h⟩; exact hc2 h; rw [show kl y.k m2 = false from hc3] at h; cases h)
                clear hc2 hne
                go_wp2_with fail
                go_roundw
                case rel => exact ⟨j + 1, by omega, by go_num, m2, rfl, Lib.hid ⟨by rw [HN.out, HV.out], HB0.out⟩⟩
                case measure => simp [intOf]; omega
              · have HV := Lib.hid (show upV last m2 y.k = y.k by unfold upV; rw [if_pos ⟨hc1, .inr hc3⟩])
                clear hc2 hne
                go_wp2_with fail
                go_roundw
                case rel => exact ⟨j + 1, by omega, by go_num, y.k, rfl, Lib.hid ⟨by rw [HN.out, HV.out], HB0.out⟩⟩
                case measure => simp [intOf]; omega
        · go_wp2_with fail
          go_roundw
          case rel =>
            refine ⟨k + 1, by omega, by go_num, m2, rfl, Lib.hid ⟨?_, HX.out.2⟩⟩
            rw [HX.out.1, allOf_step ls k hlt, HS.out, show sl.take j = sl from List.take_of_length_le (by omega)]
          case measure => simp [intOf]; omega
    · go_wp2_with fail
      go_ret
      have := HR.out.1
      rw [List.take_of_length_le (by omega)] at this
      exact ⟨by rw [← this]; rfl, HR.out.2⟩
end Go.Proofs.Ytegnjbdgeibhfaa.Dep

/-
  impl.keysOf: what it hands back, ranged over, hands out each key of some lists, rising.
-/
namespace Go.Proofs.Ytegnjbdgeibhfaa.Dep
open Go.ChangeShapes Go.WideShapes Go.ChangeAt Go.RowKit Go.Shelf
set_option linter.unusedVariables false
set_option maxRecDepth 100000

attribute [local go_sem] Oper.semAt_some

/-- These are the keys of some deps, one above the other. -/
def Chain (L : List D) (ks : List ByteArray) : Prop :=
  (∀ i, i ≤ ks.length → aboveV (if i = 0 then ⟨#[]⟩ else ks.getD (i - 1) ⟨#[]⟩) L = ks.getD i ⟨#[]⟩) ∧ (∀ k ∈ ks, k ≠ ⟨#[]⟩) ∧ ks.Nodup

theorem cell_ltk {w : World} {a : Addr} {v : Value} (h : w.cell? a = some v) : a.block < w.heap.size := by
  rcases Nat.lt_or_ge a.block w.heap.size with h' | h'
  · exact h'
  · simp [World.cell?, Array.getElem?_eq_none h'] at h
theorem Chain.next {L : List D} {pre rest : List ByteArray} (h : Chain L (pre ++ rest)) : aboveV (if pre = [] then ⟨#[]⟩ else pre.getLastD ⟨#[]⟩) L = rest.head?.getD ⟨#[]⟩ := by
  have := h.1 pre.length (by simp)
  rw [show (pre ++ rest).getD pre.length ⟨#[]⟩ = rest.head?.getD ⟨#[]⟩ by cases rest <;> simp [List.getD]] at this
  rw [← this]
  congr 1
  cases hp : pre with
  | nil => simp
  | cons a l =>
    rw [if_neg (by simp), if_neg (by simp)]
    have hl : (a :: l).length - 1 < (a :: l).length := by simp
    rw [List.getD, List.getElem?_append_left hl, List.getLastD_eq_getLast?, List.getLast?_eq_getElem?]
open Classical in
/-- How many are still to come, read off the key. -/
noncomputable def leftOf (ks : List ByteArray) : Value → Nat
  | .string k => (ks.dropWhile fun x => decide (x ≠ k)).length
  | _ => 0
theorem left_none {ks : List ByteArray} (h : ∀ k ∈ ks, k ≠ ⟨#[]⟩) : leftOf ks (.string ⟨#[]⟩) = 0 := by
  unfold leftOf
  have : ks.dropWhile (fun x => decide (x ≠ (⟨#[]⟩ : ByteArray))) = [] := by
    induction ks with
    | nil => rfl
    | cons a l ih =>
      rw [List.dropWhile_cons_of_pos (by simpa using h a (by simp))]
      exact ih fun k hk => h k (by simp [hk])
  simp only [this]; rfl
theorem left_some {pre rest : List ByteArray} {x : ByteArray} (h : (pre ++ x :: rest).Nodup) : leftOf (pre ++ x :: rest) (.string x) = rest.length + 1 := by
  unfold leftOf
  have hx : ∀ y ∈ pre, y ≠ x := by
    intro y hy e
    subst e
    have := (List.nodup_append.1 h).2.2 y hy y (by simp)
    exact this rfl
  have : (pre ++ x :: rest).dropWhile (fun y => decide (y ≠ x)) = x :: rest := by
    clear h
    induction pre with
    | nil => simp
    | cons a l ih =>
      rw [List.cons_append, List.dropWhile_cons_of_pos (by simpa using hx a (by simp))]
      exact ih fun y hy => hx y (by simp [hy])
  simp only [this]; rfl

/-- A key that is handed out: it is short. -/
abbrev K4 := { k : ByteArray // k.size ≤ 4 }
/-- What a round of the caller's keeps: what lies below n₀, and the iterator's own box. -/
def KeepsBox (n₀ Bn : Nat) (W W' : World) : Prop := Below n₀ W W' ∧ W'.heap[Bn]? = W.heap[Bn]?
theorem KeepsBox.trans {n₀ Bn : Nat} {A B C : World} (h1 : KeepsBox n₀ Bn A B) (h2 : KeepsBox n₀ Bn B C) : KeepsBox n₀ Bn A C := ⟨h1.1.trans h2.1, h2.2.trans h1.2⟩
theorem cell_same {W W' : World} {b : Nat} (h : W'.heap[b]? = W.heap[b]?) (j : Nat) : W'.cell? ⟨b, j, none⟩ = W.cell? ⟨b, j, none⟩ := World.cell?_of_block (w := W) h

theorem keys_in (n : Nat) (hn : 1 ≤ n) (l Bn n₀ : Nat) (ad : Addr) (ls : List Sl) (cap : Nat) (ks : List K4) (hc : Chain (allOf ls) (ks.map (·.1))) (hl : ls.length ≤ 400) (hll : ∀ j (h : j < ls.length), ls[j].l.length ≤ maxLen) (J Jx : List K4 → World → Prop)
    (hY : ∀ pre x W, J pre W → pre.length < ks.length → YieldAt Fence.wide (n - 1) Try.prog l #[.string x.1] W fun e W' =>
      (e = .returned (.bool true) ∧ J (pre ++ [x]) W' ∧ KeepsBox n₀ Bn W W') ∨ (e = .returned (.bool false) ∧ Jx (pre ++ [x]) W'))
    (W : World) (hJb : ∀ pre A B, J pre A → Below A.heap.size A B → J pre B) (hBn : W.cell? ⟨Bn, 0, none⟩ = some (.slice (some ad) ls.length cap)) (hL : Lists W n₀ ad ls) (hn₀ : n₀ ≤ W.heap.size) (h0 : J [] W) :
    CallsIn Fence.wide n Try.prog 104 #[.func (.yield l) #[] #[], .pointer (some ⟨Bn, 0, none⟩)] W fun e W' => (∃ v, e = .returned v) ∧
      ((∃ ys, ys = ks ∧ J ys W') ∨ (∃ pre, pre <+: ks ∧ Jx pre W')) := by
  have HC := Lib.hid hc
  clear hc
  refine callsIn_of_wp Try.func104 rfl trivial ?_ rfl
  simp only [Try.ntmps104, List.size_toArray, List.length_cons, List.length_nil, Nat.reduceAdd, Nat.reduceSub, Array.replicate_succ, Array.replicate_zero, List.push_toArray, List.append_toArray, List.nil_append, List.cons_append]
  gi_wp2_with (refine ⟨trivial, ?_⟩; gi_at_call 105; refine (callsIn_wide.2 (above_any ⟨#[]⟩ ad ls cap W (hL.more hn₀) hl hll)).mono ?_; rintro e w' ⟨rfl, hb⟩)
  have hJ0 := hJb [] W w' h0 hb
  have B0 := hb.mono hn₀
  have hBn' := (hb.cell (p := ⟨Bn, 0, none⟩) (cell_ltk hBn)).trans hBn
  have hfirst := HC.out.next (pre := []) (rest := ks.map (·.1))
  rw [if_pos rfl] at hfirst
  rw [hfirst]
  obtain ⟨k0, hk0⟩ : ∃ k0, (ks.map (·.1)).head?.getD ⟨#[]⟩ = k0 := ⟨_, rfl⟩
  rw [hk0]
  have HK0 := Lib.hid hk0
  clear hb h0 hk0 hfirst
  gi_loopw [3] (fun p wr => ∃ (pre rest : List K4), Hid (ks = pre ++ rest) ∧ p = .string ((rest.map (·.1)).head?.getD ⟨#[]⟩) ∧ J pre wr ∧ Hid (Below n₀ W wr ∧ wr.cell? ⟨Bn, 0, none⟩ = some (.slice (some ad) ls.length cap)))
    (fun p _ => leftOf (ks.map (·.1)) p)
  case atStart => exact ⟨[], ks, Lib.hid rfl, by rw [HK0.out], hJ0, Lib.hid ⟨B0, hBn'⟩⟩
  case round =>
    obtain ⟨pre, rest, HX, rfl, hJs, HB⟩ := hrel
    cases rest with
    | nil =>
      have hee : (ByteArray.toList ⟨#[]⟩ == ByteArray.toList ⟨#[]⟩) = true := beq_self_eq_true _
      simp only [List.map_nil, List.head?_nil, Option.getD_none]
      gi_wp2
      go_end0
      exact ⟨⟨_, rfl⟩, .inl ⟨pre, by simp [HX.out], hJs⟩⟩
    | cons x rest =>
      have hxm : x.1 ∈ ks.map (·.1) := by rw [HX.out]; simp
      have hne : ¬ x.1.toList = ByteArray.toList ⟨#[]⟩ := fun e => HC.out.2.1 x.1 hxm (list_eq (by rw [← ByteArray.toList_eq, ← ByteArray.toList_eq]; exact e))
      have hee : (x.1.toList == ByteArray.toList ⟨#[]⟩) = false := beq_eq_false_iff_ne.2 hne
      have hee2 : (x.1.toList == []) = false := by rw [← toList_empty]; exact hee
      obtain ⟨fn, tmps, assign, body, hy, hR⟩ := hY pre x wr hJs (by rw [HX.out]; simp)
      simp only [List.map_cons, List.head?_cons, Option.getD_some]
      clear hne
      gi_wp2
      refine hR.mono ?_
      rintro e W3 (⟨rfl, hJ3, hk3⟩ | ⟨rfl, hJx3⟩)
      · have B3 := HB.out.1.trans hk3.1
        have hB3 : W3.cell? ⟨Bn, 0, none⟩ = some (.slice (some ad) ls.length cap) := (cell_same hk3.2 0).trans HB.out.2
        have hL3 := (hL.below B3 (Nat.le_refl _)).more (B' := W3.heap.size) (by have := B3.size; omega)
        have hnx := (show Chain (allOf ls) ((pre.map (·.1) ++ [x.1]) ++ rest.map (·.1)) by have := HC.out; rw [HX.out] at this; simpa using this).next
        rw [if_neg (by simp)] at hnx
        simp only [List.getLastD_concat] at hnx
        gi_wp2_with (refine ⟨trivial, ?_⟩; gi_at_call 105; refine (callsIn_wide.2 (above_any x.1 ad ls cap W3 hL3 hl hll)).mono ?_; rintro e w4 ⟨rfl, hb4⟩)
        go_roundw
        case rel => exact ⟨pre ++ [x], rest, Lib.hid (by rw [HX.out]; simp), by simp, hJb _ _ _ hJ3 hb4, Lib.hid ⟨B3.trans (hb4.mono (by have := B3.size; omega)), (hb4.cell (p := ⟨Bn, 0, none⟩) (cell_ltk hB3)).trans hB3⟩⟩
        case measure =>
          have hnd := HC.out.2.2
          have hks : ks.map (·.1) = pre.map (·.1) ++ x.1 :: rest.map (·.1) := by rw [HX.out]; simp
          rw [hks] at hnd
          have e1 := left_some hnd
          rw [← hks] at e1
          have e2 : leftOf (ks.map (·.1)) (.string ((rest.map (·.1)).head?.getD ⟨#[]⟩)) = (rest.map (·.1)).length := by
            cases rest with
            | nil =>
              simpa using left_none (ks := ks.map (·.1)) HC.out.2.1
            | cons y rest =>
              have := left_some (pre := pre.map (·.1) ++ [x.1]) (x := y.1) (rest := rest.map (·.1)) (by simpa using hnd)
              rw [List.append_assoc, List.singleton_append, show x.1 :: y.1 :: rest.map (·.1) = x.1 :: (y :: rest).map (·.1) from rfl, ← hks] at this
              simpa using this
          show leftOf (ks.map (·.1)) (.string ((rest.map (·.1)).head?.getD ⟨#[]⟩)) < leftOf (ks.map (·.1)) (.string x.1)
          omega
      · gi_wp2
        refine bodyPost_ret (results_none rfl _ _ _) rfl ?_
        exact ⟨⟨_, rfl⟩, .inr ⟨pre ++ [x], ⟨rest, by simp [HX.out]⟩, hJx3⟩⟩

theorem keys_stops (n : Nat) (hn : 1 ≤ n) (Bn n₀ : Nat) (ad : Addr) (ls : List Sl) (cap : Nat) (ks : List K4) (hc : Chain (allOf ls) (ks.map (·.1))) (hl : ls.length ≤ 400) (hll : ∀ j (h : j < ls.length), ls[j].l.length ≤ maxLen)
    (w : World) (hn₀ : n₀ ≤ w.heap.size) (hBn : w.cell? ⟨Bn, 0, none⟩ = some (.slice (some ad) ls.length cap)) (hL : Lists w n₀ ad ls) :
    SeqStopsK Fence.wide n Try.prog 104 #[.pointer (some ⟨Bn, 0, none⟩)] (fun x : K4 => #[Value.string x.1]) (KeepsBox n₀ Bn) (fun ys => ys = ks) (fun pre => pre <+: ks) ks.length w := fun l J Jx W hW hJ _ hY h0 =>
  keys_in n hn l Bn n₀ ad ls cap ks hc hl hll J Jx hY W (fun pre A B hj hb => hJ pre A B none hj ⟨hb.os, hb.tape, hb.output, hb.size, fun k hk _ => hb.block k hk⟩ (fun r e => by cases e))
    ((hW.cell (p := ⟨Bn, 0, none⟩) (cell_ltk hBn)).trans hBn) (hL.below (hW.mono hn₀) (Nat.le_refl _)) (Nat.le_trans hn₀ hW.size) h0

theorem keysOf_in (n : Nat) (ad : Option Addr) (len cap : Nat) (w : World) :
    CallsIn Fence.wide n Try.prog 89 #[.slice ad len cap] w fun e w' => e = .returned (.func (.func 104) #[] #[.pointer (some ⟨w.heap.size, 0, none⟩)]) ∧ w' = w.alloc (.cells #[.slice ad len cap] 83) := by
  refine callsIn_of_wp Try.func89 rfl trivial ?_ rfl
  simp only [Try.ntmps89, List.size_toArray, List.length_cons, List.length_nil, Nat.reduceAdd, Nat.reduceSub, Array.replicate_succ, Array.replicate_zero, List.push_toArray, List.append_toArray, List.nil_append, List.cons_append]
  gi_wp2
  go_ret
  exact ⟨rfl, rfl⟩
end Go.Proofs.Ytegnjbdgeibhfaa.Dep

/-
  The keys of what is joined, one above the other; what is joined, key by key.
-/
namespace Go.Proofs.Ytegnjbdgeibhfaa.Dep
open Go.ChangeShapes Go.WideShapes Go.ChangeAt Go.RowKit
set_option linter.unusedVariables false
set_option maxRecDepth 100000

theorem zero_max' {x : I} (h : x.right = true ∨ x = zero) : zero.max x = x := by
  rcases h with h | h
  · exact I.zero_max h
  · rw [h, I.max_idem]
theorem max_zero_iff {x y : I} (hx : x.right = true ∨ x = zero) (hy : y.right = true ∨ y = zero) (h : x.max y = zero) : x = zero ∧ y = zero := by
  rcases hx with hx | hx <;> rcases hy with hy | hy
  · exact absurd h (I.ne_zero (I.max_right hx hy))
  · rw [hy, I.max_comm, I.zero_max hx] at h; exact ⟨h, hy⟩
  · rw [hx, I.zero_max hy] at h; exact ⟨hx, h⟩
  · exact ⟨hx, hy⟩
theorem key_of_ne {l : List D} {q : ByteArray} (h : ofV l q ≠ zero) : ∃ d ∈ l, d.k = q := by
  rcases ofV_cases l q with ⟨d, hd, hk, _⟩ | ⟨_, h0⟩
  · exact ⟨d, hd, hk⟩
  · exact absurd h0 h
theorem ofV_ne {l : List D} (hs : Sorted l) (hg : Good l) {d : D} (hd : d ∈ l) : ofV l d.k ≠ zero := by
  rw [ofV_mem hs hd]; exact I.ne_zero (hg d hd).2

section
variable {a b : List D}
theorem join_key (ha : Ok a) (hb : Ok b) {d : D} (hd : d ∈ joinV a b) : ∃ x ∈ a ++ b, x.k = d.k := by
  obtain ⟨h1, h2, h3⟩ := join_facts b a ha.2.2 ha.2.1 hb.2.2 hb.2.1
  have hne := ofV_ne h1 h2 hd
  rw [h3] at hne
  by_cases e : ofV a d.k = zero
  · by_cases e2 : ofV b d.k = zero
    · rw [e, e2, I.max_idem] at hne; exact absurd rfl hne
    · obtain ⟨x, hx, hk⟩ := key_of_ne e2
      exact ⟨x, by simp [hx], hk⟩
  · obtain ⟨x, hx, hk⟩ := key_of_ne e
    exact ⟨x, by simp [hx], hk⟩
theorem join_has (ha : Ok a) (hb : Ok b) {x : D} (hx : x ∈ a ++ b) : ∃ d ∈ joinV a b, d.k = x.k := by
  obtain ⟨h1, h2, h3⟩ := join_facts b a ha.2.2 ha.2.1 hb.2.2 hb.2.1
  apply key_of_ne
  rw [h3]
  intro e
  obtain ⟨e1, e2⟩ := max_zero_iff (ofV_right ha.2.1 _) (ofV_right hb.2.1 _) e
  rcases List.mem_append.1 hx with hx | hx
  · exact ofV_ne ha.2.2 ha.2.1 hx e1
  · exact ofV_ne hb.2.2 hb.2.1 hx e2

theorem getD_map (l : List D) (i : Nat) (h : i < l.length) : (l.map D.k).getD i ⟨#[]⟩ = l[i].k := by
  simp [List.getD, h]
theorem sorted_lt {l : List D} (h : Sorted l) {i j : Nat} (hj : j < l.length) (hij : i < j) : kl (l[i]'(by omega)).k l[j].k = true :=
  List.pairwise_iff_getElem.1 h i j (by omega) hj hij

theorem chain_join (ha : Ok a) (hb : Ok b) : Chain (a ++ b) ((joinV a b).map D.k) := by
  obtain ⟨h1, h2, h3⟩ := join_facts b a ha.2.2 ha.2.1 hb.2.2 hb.2.1
  have hne : ∀ k ∈ (joinV a b).map D.k, k ≠ ⟨#[]⟩ := by
    intro k hk e
    obtain ⟨d, hd, rfl⟩ := List.mem_map.1 hk
    have := (Key.ok_of (h2 d hd).1).1
    rw [e] at this
    have h0 : (⟨#[]⟩ : ByteArray).size = 0 := rfl
    omega
  refine ⟨fun i hi => ?_, hne, ?_⟩
  · rw [List.length_map] at hi
    obtain ⟨last, hlast⟩ : ∃ last, (if i = 0 then ⟨#[]⟩ else ((joinV a b).map D.k).getD (i - 1) ⟨#[]⟩) = last := ⟨_, rfl⟩
    rw [hlast]
    -- what stands at i or beyond is above the last one; what stands ahead is not
    have above : ∀ j (hj : j < (joinV a b).length), i ≤ j → kl last (joinV a b)[j].k = true := by
      intro j hj hij
      rw [← hlast]
      by_cases e : i = 0
      · rw [if_pos e]; exact kl_empty (h2 _ (List.getElem_mem hj)).1
      · rw [if_neg e, getD_map _ _ (by omega)]; exact sorted_lt h1 hj (by omega)
    have under : ∀ j (hj : j < (joinV a b).length), j < i → kl last (joinV a b)[j].k = false := by
      intro j hj hij
      cases hc : kl last (joinV a b)[j].k
      · rfl
      · rw [← hlast, if_neg (by omega), getD_map _ _ (by omega)] at hc
        by_cases e : j = i - 1
        · subst e; exact absurd hc (kl_irrefl _)
        · exact absurd hc (kl_asymm (sorted_lt h1 (by omega) (by omega)))
    rcases above_spec last (a ++ b) with ⟨e, hn⟩ | ⟨⟨x, hx, hxe⟩, hl, hmin⟩
    · rw [e]
      by_cases hin : i < (joinV a b).length
      · obtain ⟨y, hy, hye⟩ := join_key ha hb (List.getElem_mem hin)
        have := hn y hy
        rw [hye, above i hin (Nat.le_refl _)] at this
        cases this
      · rw [List.getD, List.getElem?_eq_none (by simp; omega)]; rfl
    · obtain ⟨d, hd, hdk⟩ := join_has ha hb hx
      obtain ⟨j, hj, rfl⟩ := List.getElem_of_mem hd
      rw [← hxe, ← hdk] at hl hmin ⊢
      by_cases hji : j < i
      · rw [under j hj hji] at hl; cases hl
      · have hin : i < (joinV a b).length := by omega
        rw [getD_map _ _ hin]
        by_cases e : j = i
        · subst e; rfl
        · obtain ⟨y, hy, hye⟩ := join_key ha hb (List.getElem_mem hin)
          have := hmin y hy (by rw [hye]; exact above i hin (Nat.le_refl _))
          rw [hye, sorted_lt h1 hj (by omega)] at this
          cases this
  · rw [List.nodup_iff_pairwise_ne, List.pairwise_map]
    exact h1.imp fun h => kl_ne h
/-- The greatest Id of a key in some lists. -/
def mostV (ls : List (List D)) (k : ByteArray) : I := ls.foldl (fun m l => m.max (ofV l k)) zero
theorem most_snoc (ls : List (List D)) (l : List D) (k : ByteArray) : mostV (ls ++ [l]) k = (mostV ls k).max (ofV l k) := by
  unfold mostV; rw [List.foldl_append]; rfl
theorem join_keys (ha : Ok a) (hb : Ok b) : joinV a b = ((joinV a b).map D.k).map fun k => ⟨k, mostV [a, b] k⟩ := by
  obtain ⟨h1, h2, h3⟩ := join_facts b a ha.2.2 ha.2.1 hb.2.2 hb.2.1
  rw [List.map_map]
  have : ∀ d ∈ joinV a b, (Function.comp (fun k => (⟨k, mostV [a, b] k⟩ : D)) D.k) d = d := by
    intro d hd
    have e : mostV [a, b] d.k = d.i := by
      show (zero.max (ofV a d.k)).max (ofV b d.k) = d.i
      rw [zero_max' (ofV_right ha.2.1 _), ← h3, ofV_mem h1 hd]
    show (⟨d.k, mostV [a, b] d.k⟩ : D) = d
    rw [e]
  rw [List.map_congr_left this]
  simp
end
end Go.Proofs.Ytegnjbdgeibhfaa.Dep

/-
  What joinAll's rounds keep.
-/
namespace Go.Proofs.Ytegnjbdgeibhfaa.Dep
open Go.ChangeShapes Go.WideShapes Go.ChangeAt Go.RowKit Go.Shelf
set_option linter.unusedVariables false
set_option maxRecDepth 100000

/-- A key with the greatest Id of it. -/
def withMost (L : List (List D)) (k : ByteArray) : D := ⟨k, mostV L k⟩
/-- What holds ahead of a round: the keys pre have come. -/
structure Inv (w : World) (ad : Addr) (len cap : Nat) (L : List (List D)) (pre : List ByteArray) (W : World) : Prop where
  lists : Boxed W w.heap.size 83 (.slice (some ad) len cap)
  res : ORow W (w.heap.size + 1) (.slice none 0 0) 0
  deps : ∃ A c, Boxed W (w.heap.size + 2) 22 (slV A (pre.map (withMost L)) c) ∧ W.ownsRow (w.heap.size + 4) 80 4 (slV A (pre.map (withMost L)) c) (pre.map (withMost L)).length (flat (pre.map (withMost L)))
  six : pre.length ≤ 6
  below : Below w.heap.size w W
  size : w.heap.size + 4 ≤ W.heap.size
/-- What holds where a round has left. -/
def InvX (w : World) (c : Code) (pre : List ByteArray) (W : World) : Prop := c = .ret ∧ ORow W (w.heap.size + 1) (.slice none 0 0) 9 ∧ 6 < pre.length ∧ Below w.heap.size w W

theorem cells_kept {W W' : World} {row : Option Nat} (hg : W.grownBy W' row) (hr : ∀ r, row = some r → ∃ o : Obj, W.heap[r]? = some o ∧ o.isCells = false) {b t : Nat} {cs : Array Value} {f : Nat × Nat} (h : W.heap[b]? = some (.cells cs t f)) : W'.heap[b]? = some (.cells cs t f) := by
  refine (hg.block b (Array.getElem?_eq_some_iff.1 h).1 (fun e => ?_)).trans h
  obtain ⟨o, ho, hc⟩ := hr b e.symm
  rw [h] at ho; cases ho; cases hc
theorem own_kept {W W' : World} {row : Option Nat} (hg : W.grownBy W' row) (hr : ∀ r, row = some r → ∃ o : Obj, W.heap[r]? = some o ∧ o.isCells = false) {base n : Nat} {v : Value} {xs : List Value} (h : W.ownsRow base 80 4 v n xs) : W'.ownsRow base 80 4 v n xs := by
  refine ⟨h.1, h.2.imp id ?_⟩
  rintro ⟨g, cap, cur, e, hb', hh, r⟩
  exact ⟨g, cap, cur, e, hb', cells_kept hg hr hh, r⟩
theorem Inv.own (w : World) (ad : Addr) (len cap : Nat) (L : List (List D)) (B : Nat) (hB : w.heap.size ≤ B) : OwnFrom B (Inv w ad len cap L) := by
  rintro pre W W' row ⟨h1, h2, ⟨A, c, h3, h4⟩, h5, h6, h7⟩ hg hr
  have hr' : ∀ r, row = some r → ∃ o : Obj, W.heap[r]? = some o ∧ o.isCells = false := fun r e => (hr r e).2
  exact ⟨cells_kept hg hr' h1, cells_kept hg hr' h2, ⟨A, c, cells_kept hg hr' h3, own_kept hg hr' h4⟩, h5, h6.grown hg h6.size (fun k e => Nat.le_trans hB (hr k e).1), Nat.le_trans h7 hg.size⟩
theorem InvX.own (w : World) (c : Code) (B : Nat) (hB : w.heap.size ≤ B) : OwnFrom B (InvX w c) := by
  rintro pre W W' row ⟨h1, h2, h3, h6⟩ hg hr
  exact ⟨h1, cells_kept hg (fun r e => (hr r e).2) h2, h3, h6.grown hg h6.size (fun k e => Nat.le_trans hB (hr k e).1)⟩
theorem keepsBox_put {n₀ Bn : Nat} {w : World} (hn : n₀ ≤ w.heap.size) (hB : Bn < w.heap.size) (W : World) (l : Nat) (o o' : Obj) (hl : w.heap.size ≤ l) (h : W.heap[l]? = some o) (hc : o.isCells = false) (hw : o.isWalk = false) : KeepsBox n₀ Bn W (W.putObj l o') :=
  ⟨belowK_b hn W l o o' hl h hc hw, (grownBy_putObj' W l o').block Bn (by have := (Array.getElem?_eq_some_iff.1 h).1; omega) (fun e => by cases e; omega)⟩
/-- A box below what is written. -/
theorem box_below {W W' : World} {B N : Nat} {t : TypeId} {v : Value} (h : Boxed W B t v) (hb : Below N W W') (hB : B < N) : Boxed W' B t v := (hb.block B hB).trans h

/-- Where the loop begins. -/
def start (w : World) (ad : Addr) (len cap : Nat) : World :=
  (((w.alloc (.cells #[.slice (some ad) len cap] 83)).alloc (.cells #[.slice none 0 0, .int .i64 0] 85)).alloc (.cells #[.slice none 0 0] 22)).alloc (.cells #[.slice (some ad) len cap] 83)
theorem start_size (w : World) (ad : Addr) (len cap : Nat) : (start w ad len cap).heap.size = w.heap.size + 4 := by simp [start]
theorem start_below (w : World) (ad : Addr) (len cap : Nat) : Below w.heap.size w (start w ad len cap) :=
  ((((Below.refl _ w).alloc (Nat.le_refl _) _).alloc (by simp) _).alloc (by simp; omega) _).alloc (by simp; omega) _
theorem start_inv (w : World) (ad : Addr) (len cap : Nat) (L : List (List D)) : Inv w ad len cap L [] (start w ad len cap) := by
  have e0 := Boxed.new w 83 (.slice (some ad) len cap)
  have e1 := ORow.new (w.alloc (.cells #[.slice (some ad) len cap] 83)) (.slice none 0 0) 0
  have e2 := Boxed.new ((w.alloc (.cells #[.slice (some ad) len cap] 83)).alloc (.cells #[.slice none 0 0, .int .i64 0] 85)) 22 (.slice none 0 0)
  simp only [World.size_alloc] at e1 e2
  exact ⟨((e0.alloc _).alloc _).alloc _, (e1.alloc _).alloc _, ⟨none, 0, e2.alloc _, own_nil _ _⟩, by simp, start_below w ad len cap, by rw [start_size]; omega⟩
theorem start_box (w : World) (ad : Addr) (len cap : Nat) : (start w ad len cap).cell? ⟨w.heap.size + 3, 0, none⟩ = some (.slice (some ad) len cap) := by
  have := (Boxed.new (((w.alloc (.cells #[.slice (some ad) len cap] 83)).alloc (.cells #[.slice none 0 0, .int .i64 0] 85)).alloc (.cells #[.slice none 0 0] 22)) 83 (.slice (some ad) len cap)).cell
  simp only [World.size_alloc] at this
  exact this
end Go.Proofs.Ytegnjbdgeibhfaa.Dep

/-
  A region that draws its order, inside a round, by the laws of the plain calculus; a clone of a string; an append.
-/
namespace Go.Proofs.Ytegnjbdgeibhfaa.Dep
open Go.ChangeShapes Go.WideShapes Go.ChangeAt Go.RowKit Go.Shelf
set_option linter.unusedVariables false
set_option maxRecDepth 100000

/-- What is asked at an ordinary end; no other end is let by. -/
def OnlyN (Q : Exit → Act → World → Prop) : Exit → Act → World → Prop
  | .normal, a, w => Q .normal a w
  | _, _, _ => False
theorem onlyN_lets (Q : Exit → Act → World → Prop) : ¬ LetsOut (OnlyN Q) := fun ⟨_, _, h⟩ => h
/-- No operation of the region is a defer statement. -/
def NoDefer (ops : Array Oper) : Prop := ∀ (i : Nat) (o : Oper) (c : Call), ops[i]? = some o → o.op ≠ .defer c

section
variable {P : Program} {ops : Array Oper} {Q : Exit → Act → World → Prop} {n l : Nat}

theorem rowsIn_plain {row : String} {args : Array Value} {w : World} {R : Value → World → Prop} (h : Rows P row args w R) : RowsIn (Fence.wide.inRound l) n P row args w R :=
  fun c cs _ => let ⟨v, w', r, s⟩ := h c cs; ⟨v, w', r, stepsIn_wide.2 s⟩

theorem opIn_plain (hnd : NoDefer ops) {i : Nat} {K K' : Act → World → Prop} (hK : ∀ a w, K a w → K' a w) {a : Act} {w : World} (h : wpOp P ops (OnlyN Q) i K a w) : wpOpIn (Fence.wide.inRound l) n P ops Q i K' a w := by
  unfold wpOp at h
  unfold wpOpIn
  cases ho : ops[i]? with
  | none => simp only [ho] at h; exact hK _ _ h
  | some o =>
    simp only [ho] at h ⊢
    by_cases hw : Region.wanted o (yielded ops a.tmps) = true
    · simp only [hw, if_true] at h ⊢
      rcases h with h | ⟨_, h⟩
      · refine ⟨fun _ _ => trivial, ?_⟩
        rw [show (Fence.wide.inRound l).round = some l from rfl, Oper.semAt_some l a.eval o (fun c => hnd i o c ho)]
        unfold Oper.wp at h
        generalize (execOp a.eval o).run P w = r at h
        cases r with
        | ok x w' =>
          cases x with
          | value v => exact hK _ _ h
          | skip => exact hK _ _ h
          | defer d => exact hK _ _ h
          | enter f args =>
            refine ⟨fun hd => absurd hd (by simp [Fence.inRound, Fence.wide]), ?_⟩
            have hc : Calls P f args w' _ := h
            refine CallsIn.mono (CallsIn.inRound l (callsIn_wide.2 hc)) ?_
            intro e w'' he
            cases e with
            | returned v => exact hK _ _ he
            | panicked c => exact he.elim
            | outgrown => exact absurd he (onlyN_lets Q)
          | row r args =>
            refine ⟨fun hd => absurd hd (by simp [Fence.inRound, Fence.wide]), ?_⟩
            have hc : Rows P r args w' _ := h
            exact (rowsIn_plain hc).mono fun v w'' he => hK _ _ he
          | _ => exact (h : False).elim
        | halt x w' =>
          cases x <;> first | exact h.elim | exact (h : False).elim
      · exact absurd h (onlyN_lets Q)
    · rw [if_neg hw] at h ⊢
      exact ⟨fun _ _ => trivial, hK _ _ h⟩

theorem anyIn_plain (hnd : NoDefer ops) {md : Region.Mode} : ∀ (fuel : Nat) (listed : Array Bool) (a : Act) (w : World), wpAny P md ops (OnlyN Q) fuel listed a w → wpAnyIn (Fence.wide.inRound l) n P md ops Q fuel listed a w
  | 0, _, _, _, h => ⟨h.1, h.2⟩
  | fuel + 1, _, _, _, h => ⟨fun h0 => h.1 h0, fun i hi => opIn_plain hnd (fun a' w' => anyIn_plain hnd fuel _ a' w') (h.2 i hi)⟩

/-- The beginning of a region that draws, in a round. -/
theorem regionIn_held {S : World → Prop} {id : Nat} {a : Act} {w : World} (hm : P.follows .mixedOrders = true) (hnd : NoDefer ops) (hS : S w.drew)
    (h : S w.drew → wpAnyH P .any ops (OnlyN Q) S ops.size (Array.replicate ops.size false) a w.drew) : (Code.region id ops true).wpIn (Fence.wide.inRound l) n P Q a w :=
  wpIn_region_any hm (anyIn_plain hnd _ _ _ _ (wpAny_of_held _ _ _ _ (h hS)))
end

theorem noDefer_of {ops : Array Oper} (h : ops.all (fun o => match o.op with | .defer _ => false | _ => true) = true) : NoDefer ops := by
  intro i o c ho e
  rw [Array.all_eq_true] at h
  obtain ⟨hi, hoi⟩ := Array.getElem?_eq_some_iff.1 ho
  have := h i hi
  rw [hoi, e] at this
  cases this

theorem clone_any (s : ByteArray) (w : World) (hs : s.size ≤ 4) : Calls Try.prog 91 #[.string s] w fun e w' => e = .returned (.string s) ∧ Below w.heap.size w w' := by
  go_enter Try.func91, Try.ntmps91
  go_wp2_with fail
  refine (Try.stringslite_Clone s _ (by omega)).mono ?_
  rintro e w1 ⟨rfl, hb⟩
  have HB := Lib.hid hb
  clear hb
  go_wp2_with fail
  go_ret
  exact ⟨rfl, HB.out⟩

theorem implMaxI_any (x y : I) (w : World) :
    Calls Try.prog 90 #[x.val, y.val] w fun e w' => e = .returned (x.max y).val ∧ Below w.heap.size w w' :=
  (Id.implMax_any x.c x.s x.e y.c y.s y.e w).mono fun e w' ⟨h1, h2⟩ => ⟨by rw [h1]; congr 1; unfold Id.maxV I.max I.less; split <;> rfl, h2⟩

theorem orow_put {W : World} {b : Nat} {s : Value} {c : Int} (h : ORow W b s c) (s' : Value) (k : Int) : ORow ((W.setCell ⟨b, 0, none⟩ s').setCell ⟨b, 1, none⟩ (.int .i64 k)) b s' k := by
  have h1 := row_set (row_set h 0 s') 1 (.int .i64 k)
  exact h1

theorem wp_append_deps {o : Oper} {a : Act} {w : World} {K : Act → World → Prop} {Q : Exit → Act → World → Prop} {s x : Operand}
    (ho : o.op = .call { callee := .builtin .append, args := #[s, x], argTypes := #[22, 22] }) (hty : o.type = 22) {base : Nat} {v : Value} {n : Nat} {l : List D} {A : Option Addr} {j c B : Nat} (m : List D)
    (hs : a.eval s = v) (hx : a.eval x = .slice A j c) (hj : m.length = j) (hown : w.ownsRow base 80 4 v n (flat l)) (hr : Lies w B A m) (h63 : n + m.length ≤ 4194304) (hbase : base ≤ w.heap.size)
    (h : ∀ v' w', w'.ownsRow base 80 4 v' (n + m.length) (flat (l ++ m)) → w.grownBy w' v.ownBlock → K (a.put o.dst v') w') : Oper.wp Try.prog o a w K Q := by
  obtain ⟨v', w', hrun, h2, h3, _⟩ := run_append_deps base v n l w hown B A m c hr h63 hbase
  unfold slV at hrun
  rw [hj] at hrun
  unfold Oper.wp execOp
  rw [hty]
  simp only [ho, resolve, invoke, builtin, Sem.run_bind, Sem.run_pure, Result.andThen_ok, List.map_toArray, List.map_cons, List.map_nil, hs, hx, hrun]
  exact h v' w' h2 h3
end Go.Proofs.Ytegnjbdgeibhfaa.Dep
