/-
  impl.keyAbove: the least key above another one in some lists, or the empty text.
-/
import Derived.Test.YthagkjofpfafiaaDepIRight
namespace Go.Proofs.Ythagkjofpfafiaa.Dep
open Go.ChangeShapes Go.WideShapes Go.ChangeAt Go.RowKit
set_option linter.unusedVariables false
set_option maxRecDepth 100000

open Classical in
noncomputable def upV (last m k : ByteArray) : ByteArray := if kl last k = true ∧ (m = ⟨#[]⟩ ∨ kl k m = true) then k else m
noncomputable def aboveV (last : ByteArray) (L : List D) : ByteArray := L.foldl (fun m d => upV last m d.k) ⟨#[]⟩
theorem above_snoc (last : ByteArray) (L : List D) (d : D) : aboveV last (L ++ [d]) = upV last (aboveV last L) d.k := by
  unfold aboveV; rw [List.foldl_append]; rfl
theorem not_less_empty (x : ByteArray) : kl x ⟨#[]⟩ = false := by
  cases h : kl x ⟨#[]⟩
  · rfl
  · rw [kl_iff] at h; exact absurd h (List.not_lt_nil _)
theorem above_spec (last : ByteArray) (L : List D) :
    (aboveV last L = ⟨#[]⟩ ∧ ∀ d ∈ L, kl last d.k = false) ∨ ((∃ d ∈ L, d.k = aboveV last L) ∧ kl last (aboveV last L) = true ∧ ∀ d ∈ L, kl last d.k = true → kl d.k (aboveV last L) = false) := by
  have key : ∀ n, ∀ L : List D, L.length = n → (aboveV last L = ⟨#[]⟩ ∧ ∀ d ∈ L, kl last d.k = false) ∨ ((∃ d ∈ L, d.k = aboveV last L) ∧ kl last (aboveV last L) = true ∧ ∀ d ∈ L, kl last d.k = true → kl d.k (aboveV last L) = false) := by
    intro n
    induction n with
    | zero =>
      intro L hL
      rw [List.eq_nil_of_length_eq_zero hL]
      exact .inl ⟨rfl, fun d hd => absurd hd (by simp)⟩
    | succ n ih =>
      intro L hL
      have hne : L ≠ [] := by intro e; subst e; simp at hL
      obtain ⟨M, d, rfl⟩ : ∃ M d, L = M ++ [d] := ⟨L.dropLast, L.getLast hne, (List.dropLast_concat_getLast hne).symm⟩
      have hM : M.length = n := by simpa using hL
      rw [above_snoc]
      have em := ih M hM
      by_cases h1 : kl last d.k = true
      · rcases em with ⟨e, hn⟩ | ⟨⟨x, hx, hxe⟩, h2, h3⟩
        · refine .inr ?_
          have hu : upV last (aboveV last M) d.k = d.k := by unfold upV; rw [if_pos ⟨h1, .inl e⟩]
          rw [hu]
          refine ⟨⟨d, by simp, rfl⟩, h1, fun y hy hyl => ?_⟩
          rcases List.mem_append.1 hy with hy | hy
          · rw [hn y hy] at hyl; cases hyl
          · obtain rfl : y = d := by simpa using hy
            cases hc : kl y.k y.k
            · rfl
            · exact absurd hc (kl_irrefl _)
        · refine .inr ?_
          by_cases h4 : kl d.k (aboveV last M) = true
          · have hu : upV last (aboveV last M) d.k = d.k := by unfold upV; rw [if_pos ⟨h1, .inr h4⟩]
            rw [hu]
            refine ⟨⟨d, by simp, rfl⟩, h1, fun y hy hyl => ?_⟩
            rcases List.mem_append.1 hy with hy | hy
            · cases hc : kl y.k d.k
              · rfl
              · have := h3 y hy hyl
                rw [kl_trans hc h4] at this
                cases this
            · obtain rfl : y = d := by simpa using hy
              cases hc : kl y.k y.k
              · rfl
              · exact absurd hc (kl_irrefl _)
          · have hu : upV last (aboveV last M) d.k = aboveV last M := by
              unfold upV
              rw [if_neg]
              rintro ⟨_, h | h⟩
              · rw [h, not_less_empty] at h2; cases h2
              · exact h4 h
            rw [hu]
            refine ⟨⟨x, by simp [hx], hxe⟩, h2, fun y hy hyl => ?_⟩
            rcases List.mem_append.1 hy with hy | hy
            · exact h3 y hy hyl
            · obtain rfl : y = d := by simpa using hy
              cases hc : kl y.k (aboveV last M)
              · rfl
              · exact absurd hc h4
      · have hu : upV last (aboveV last M) d.k = aboveV last M := by unfold upV; rw [if_neg (fun h => h1 h.1)]
        rw [hu]
        have h1f : kl last d.k = false := by cases hc : kl last d.k; rfl; exact absurd hc h1
        rcases em with ⟨e, hn⟩ | ⟨⟨x, hx, hxe⟩, h2, h3⟩
        · refine .inl ⟨e, fun y hy => ?_⟩
          rcases List.mem_append.1 hy with hy | hy
          · exact hn y hy
          · obtain rfl : y = d := by simpa using hy
            exact h1f
        · refine .inr ⟨⟨x, by simp [hx], hxe⟩, h2, fun y hy hyl => ?_⟩
          rcases List.mem_append.1 hy with hy | hy
          · exact h3 y hy hyl
          · obtain rfl : y = d := by simpa using hy
            exact absurd hyl h1
  exact key _ L rfl

/-- A slice of deps as a thing. -/
structure Sl where
  A : Option Addr
  l : List D
  c : Nat
/-- Some lists, told by a slice of slices. -/
def Lists (w : World) (B : Nat) (ad : Addr) (ls : List Sl) : Prop :=
  ad.block < B ∧ (∀ j (h : j < ls.length), w.cell? (ad.add j) = some (.slice ls[j].A ls[j].l.length ls[j].c)) ∧ ∀ j (h : j < ls.length), Lies w B ls[j].A ls[j].l
theorem Lists.below {w w' : World} {B N : Nat} {ad : Addr} {ls : List Sl} (h : Lists w B ad ls) (hb : Below N w w') (hN : B ≤ N) : Lists w' B ad ls :=
  ⟨h.1, fun j hj => (hb.cell (p := ad.add j) (by rw [add_block]; have := h.1; omega)).trans (h.2.1 j hj), fun j hj => (h.2.2 j hj).below hb hN⟩
theorem Lists.more {w : World} {B B' : Nat} {ad : Addr} {ls : List Sl} (h : Lists w B ad ls) (hB : B ≤ B') : Lists w B' ad ls :=
  ⟨by have := h.1; omega, h.2.1, fun j hj => (h.2.2 j hj).more hB⟩
def allOf (ls : List Sl) : List D := ls.flatMap (·.l)
theorem allOf_step (ls : List Sl) (i : Nat) (h : i < ls.length) : allOf (ls.take (i + 1)) = allOf (ls.take i) ++ ls[i].l := by
  unfold allOf
  rw [show ls.take (i + 1) = ls.take i ++ [ls[i]] by simp, List.flatMap_append]
  simp

theorem toList_empty : ByteArray.toList ⟨#[]⟩ = [] := by rw [ByteArray.toList_eq]
theorem binOp_string_gtr_dep (t : TypeId) (a b : ByteArray) : binOp .gtr t (.string a) (.string b) = pure (.bool (Op.bytesLess b.toList a.toList)) := by
  have h : (!(Op.bytesLess a.toList b.toList || a.toList == b.toList)) = Op.bytesLess b.toList a.toList := by
    rw [bytesLess_eq, bytesLess_eq, ByteArray.toList_eq, ByteArray.toList_eq]
    by_cases h1 : a.data.toList < b.data.toList
    · have h2 : ¬ b.data.toList < a.data.toList := fun h2 => List.lt_irrefl _ (List.lt_trans h1 h2)
      simp [h1, h2]
    · by_cases h2 : b.data.toList < a.data.toList
      · have h3 : (a.data.toList == b.data.toList) = false := beq_eq_false_iff_ne.2 fun e => by rw [e] at h2; exact List.lt_irrefl _ h2
        rw [h3]
        simp [h1, h2]
      · have h3 : (a.data.toList == b.data.toList) = true := beq_iff_eq.2 (List.le_antisymm h2 h1)
        rw [h3]
        simp [h2]
  simp [binOp, Op.stringOp, ← h]
attribute [local go_sem] binOp_string_gtr_dep

set_option maxHeartbeats 1000000 in
set_option maxRecDepth 100000 in
theorem above_any (last : ByteArray) (ad : Addr) (ls : List Sl) (cap : Nat) (w : World) (h : Lists w w.heap.size ad ls) (hl : ls.length ≤ 400) (hll : ∀ j (h : j < ls.length), ls[j].l.length ≤ maxLen) :
    Calls Try.prog 93 #[.string last, .slice (some ad) ls.length cap] w fun e w' => e = .returned (.string (aboveV last (allOf ls))) ∧ Below w.heap.size w w' := by
  have H := Lib.hid h
  have HL := Lib.hid hll
  clear h hll
  go_enter Try.func93, Try.ntmps93
  go_wp2_with fail
  go_loopw [5, 12] (fun m i wr => ∃ k : Nat, k ≤ ls.length ∧ i = .int .i64 k ∧ ∃ mv : ByteArray, m = .string mv ∧ Hid (mv = aboveV last (allOf (ls.take k)) ∧ Below w.heap.size w wr)) (fun _ i _ => ls.length - (intOf i).toNat)
  case atStart => exact ⟨0, by omega, rfl, _, rfl, Lib.hid ⟨rfl, Below.refl _ _⟩⟩
  case round =>
    obtain ⟨k, hk, rfl, mv, rfl, HR⟩ := hrel
    by_cases hlt : k < ls.length
    · have c0 := (H.out.below HR.out.2 (Nat.le_refl _)).2.1 k hlt
      have hlen := HL.out k hlt
      unfold maxLen at hlen
      obtain ⟨s, hs⟩ : ∃ s, ls[k] = s := ⟨_, rfl⟩
      have HS := Lib.hid hs
      have hLs := H.out.2.2 k hlt
      rw [hs] at c0 hlen hLs
      clear hs
      obtain ⟨sA, sl, sc⟩ := s
      simp only at c0 hlen hLs
      have HLs := Lib.hid hLs
      clear hLs
      go_wp2_with fail
      go_loopw [5, 18] (fun m i wx => ∃ j : Nat, j ≤ sl.length ∧ i = .int .i64 j ∧ ∃ mv : ByteArray, m = .string mv ∧ Hid (mv = aboveV last (allOf (ls.take k) ++ sl.take j) ∧ Below w.heap.size w wx)) (fun _ i _ => sl.length - (intOf i).toNat)
      case atStart => exact ⟨0, by omega, rfl, _, rfl, Lib.hid ⟨by rw [HR.out.1]; simp, HR.out.2⟩⟩
      case round =>
        obtain ⟨j, hj, rfl, m2, rfl, HX⟩ := hrel
        by_cases hjl : j < sl.length
        · obtain ⟨ed, rfl, _, e0, e1, e2, e3⟩ := (HLs.out.below HX.out.2 (Nat.le_refl _)).at_ hjl
          have HN := Lib.hid (show aboveV last (allOf (ls.take k) ++ sl.take (j + 1)) = upV last m2 sl[j].k by rw [show sl.take (j + 1) = sl.take j ++ [sl[j]] by simp, ← List.append_assoc, above_snoc, ← HX.out.1])
          obtain ⟨y, hy⟩ : ∃ y, sl[j] = y := ⟨_, rfl⟩
          rw [hy] at e0 e1 e2 e3 HN
          clear hy
          have HB0 := Lib.hid (HX.out.2.alloc HX.out.2.size y.obj)
          cases hc1 : Op.bytesLess last.toList y.k.toList
          · have HV := Lib.hid (show upV last m2 y.k = m2 by unfold upV; rw [if_neg]; rintro ⟨h, _⟩; rw [show kl last y.k = false from hc1] at h; cases h)
            go_wp2_with fail
            go_roundw
            case rel => exact ⟨j + 1, by omega, by go_num, m2, rfl, Lib.hid ⟨by rw [HN.out, HV.out], HB0.out⟩⟩
            case measure => simp [intOf]; omega
          · by_cases hc2 : m2 = ⟨#[]⟩
            · have HV := Lib.hid (show upV last m2 y.k = y.k by unfold upV; rw [if_pos ⟨hc1, .inl hc2⟩])
              have hee : (m2.toList == ByteArray.toList ⟨#[]⟩) = true := by rw [hc2]; exact beq_self_eq_true _
              have hee2 : (m2.toList == []) = true := by rw [← toList_empty]; exact hee
              clear hc2
              go_wp2_with fail
              go_roundw
              case rel => exact ⟨j + 1, by omega, by go_num, y.k, rfl, Lib.hid ⟨by rw [HN.out, HV.out], HB0.out⟩⟩
              case measure => simp [intOf]; omega
            · have hne : ¬ m2.toList = ByteArray.toList ⟨#[]⟩ := fun e => hc2 (list_eq (by rw [← ByteArray.toList_eq, ← ByteArray.toList_eq]; exact e))
              have hee : (m2.toList == ByteArray.toList ⟨#[]⟩) = false := beq_eq_false_iff_ne.2 hne
              have hee2 : (m2.toList == []) = false := by rw [← toList_empty]; exact hee
              cases hc3 : Op.bytesLess y.k.toList m2.toList
              · have HV := Lib.hid (show upV last m2 y.k = m2 by unfold upV; rw [if_neg]; rintro ⟨_, h | h⟩; exact hc2 h; rw [show kl y.k m2 = false from hc3] at h; cases h)
                clear hc2 hne
                go_wp2_with fail
                go_roundw
                case rel => exact ⟨j + 1, by omega, by go_num, m2, rfl, Lib.hid ⟨by rw [HN.out, HV.out], HB0.out⟩⟩
                case measure => simp [intOf]; omega
              · have HV := Lib.hid (show upV last m2 y.k = y.k by unfold upV; rw [if_pos ⟨hc1, .inr hc3⟩])
                clear hc2 hne
                go_wp2_with fail
                go_roundw
                case rel => exact ⟨j + 1, by omega, by go_num, y.k, rfl, Lib.hid ⟨by rw [HN.out, HV.out], HB0.out⟩⟩
                case measure => simp [intOf]; omega
        · go_wp2_with fail
          go_roundw
          case rel =>
            refine ⟨k + 1, by omega, by go_num, m2, rfl, Lib.hid ⟨?_, HX.out.2⟩⟩
            rw [HX.out.1, allOf_step ls k hlt, HS.out, show sl.take j = sl from List.take_of_length_le (by omega)]
          case measure => simp [intOf]; omega
    · go_wp2_with fail
      go_ret
      have := HR.out.1
      rw [List.take_of_length_le (by omega)] at this
      exact ⟨by rw [← this]; rfl, HR.out.2⟩
end Go.Proofs.Ythagkjofpfafiaa.Dep
