/-
  spec.l06There, spec.l06All.
-/
import Derived.Test.YtoagdpbbojlgfaaGreatNetMath
import Derived.Test.YtoagdpbbojlgfaaGreatNetTo
import Derived.Test.YtoagdpbbojlgfaaGreatRowOut
namespace Go.Proofs.YtoagdpbbojlgfaaGreat.Net
open Go.ChangeShapes Go.WideShapes Go.ChangeAt Go.RowKit
open Sto (R Sl mergeW flat)
set_option linter.unusedVariables false
set_option maxRecDepth 100000
set_option linter.unusedSimpArgs false

theorem there_any (n : Nt) (i : Int) (w : World) (hl : n.s.length ≤ 1048576) :
    Calls Tryz.prog 198 #[n.val, .int .i64 i] w fun e w' => e = .returned (.bool (place n.s.length i)) ∧ Below w.heap.size w w' := by
  unfold Nt.val place
  go_enter Tryz.func198, Tryz.ntmps198
  go_wp2_with (go_at_call 117; refine (Id.is_any _ _ _ _).mono ?_; rintro e w' ⟨rfl, rfl⟩)
  go_ret
  exact ⟨rfl, (Below.refl _ _).alloc (Nat.le_refl _) _⟩

theorem ps_snoc (s : List Sl) (k : Nat) (h : k < s.length) : ps (s.take (k + 1)) = ps (s.take k) ++ [s[k].l] := by rw [take_snoc s k h]; unfold ps; rw [List.map_append]; rfl
/-- What letters tell. -/
def pr (m : List Ml) : List (List R) := m.map fun y => y.x.l
theorem pr_len (m : List Ml) : (pr m).length = m.length := by simp [pr]
theorem pr_snoc (m : List Ml) (k : Nat) (h : k < m.length) : pr (m.take (k + 1)) = pr (m.take k) ++ [m[k].x.l] := by rw [take_snoc m k h]; unfold pr; rw [List.map_append]; rfl
theorem all_eq (n : Nt) : allP (pl n) = ps n.s ++ pr n.m := by unfold allP pl pm pr; simp

/-- What is merged so far, in a row of its own, beside the box of the net. -/
def Acc (w wr : World) (b t : Nat) (cs : Array Value) (ad : Addr) (acc : List R) (c : Nat) : Prop :=
  wr.ownsRow w.heap.size 42 5 (Sto.slV (some ad) acc c) acc.length (flat acc) ∧ (acc.length ≤ c ∧ c ≤ maxLen ∧ Sto.Lies wr wr.heap.size (some ad) acc) ∧ Blk wr b t cs ∧ Below w.heap.size w wr

set_option maxHeartbeats 2000000 in
set_option maxRecDepth 100000 in
theorem specAll_any (n : Nt) (w : World) (h : NLies w w.heap.size n) (h1 : n.s.length ≤ 4) (h2 : n.m.length ≤ 40) (h6 : ∀ l ∈ allP (pl n), l.length ≤ 6) :
    Calls Tryz.prog 202 #[n.val] w fun e w' => ∃ v, e = .returned v ∧ w'.ownsRow w.heap.size 42 5 v (mergeAll (allP (pl n))).length (flat (mergeAll (allP (pl n)))) ∧ (v = .slice none 0 0 → False) ∧ Below w.heap.size w w' := by
  rw [all_eq] at h6 ⊢
  obtain ⟨A, s, ca, B, m, cb⟩ := n
  simp only at h1 h2 h6 ⊢
  have HS := Lib.hid h.1
  have HM := Lib.hid h.2
  have H6s := Lib.hid (show ∀ x ∈ s, x.l.length ≤ 6 from fun x hx => h6 _ (List.mem_append_left _ (List.mem_map.2 ⟨x, hx, rfl⟩)))
  have H6m := Lib.hid (show ∀ y ∈ m, y.x.l.length ≤ 6 from fun y hy => h6 _ (List.mem_append_right _ (List.mem_map.2 ⟨y, hy, rfl⟩)))
  have HLA := Lib.hid (show ∀ k, (mergeAll (ps (s.take k))).length ≤ 24 from fun k => by
    have := mergeAll_len (ps (s.take k)) 6 (fun l hl => by obtain ⟨x, hx, rfl⟩ := List.mem_map.1 hl; exact H6s.out x (List.mem_of_mem_take hx))
    rw [ps_len, List.length_take] at this
    omega)
  have HLB := Lib.hid (show ∀ k, (mergeAll (ps s ++ pr (m.take k))).length ≤ 264 from fun k => by
    have := mergeAll_len (ps s ++ pr (m.take k)) 6 (fun l hl => by
      rcases List.mem_append.1 hl with hl | hl
      · obtain ⟨x, hx, rfl⟩ := List.mem_map.1 hl; exact H6s.out x hx
      · obtain ⟨x, hx, rfl⟩ := List.mem_map.1 hl; exact H6m.out x (List.mem_of_mem_take hx))
    rw [List.length_append, ps_len, pr_len, List.length_take] at this
    omega)
  clear h h6
  have B0 := ((Below.refl w.heap.size w).alloc (Nat.le_refl _) (Obj.cells #[.slice A s.length ca, .slice B m.length cb] 35)).alloc (by simp) (Obj.cells #[] 42)
  have p := (Blk.new w 35 #[.slice A s.length ca, .slice B m.length cb]).alloc (Obj.cells #[] 42)
  have o := Sto.own_less (Sto.own_none (World.alloc w (Obj.cells #[.slice A s.length ca, .slice B m.length cb] 35))) (base' := w.heap.size) (by simp)
  rw [World.size_alloc] at o
  have HI := Lib.hid (show Acc w ((w.alloc (Obj.cells #[.slice A s.length ca, .slice B m.length cb] 35)).alloc (Obj.cells #[] 42)) w.heap.size 35 #[.slice A s.length ca, .slice B m.length cb] ⟨w.heap.size + 1, 0, none⟩ [] 0 from ⟨o, ⟨Nat.le_refl _, by simp [maxLen], fun h0 => absurd h0 (by simp)⟩, p, B0⟩)
  clear B0 p o
  unfold Nt.val
  go_enter Tryz.func202, Tryz.ntmps202
  go_wp2_with fail
  go_loopw [3, 4] (fun o i wr => ∃ k : Nat, k ≤ s.length ∧ i = .int .i64 k ∧ ∃ ad c, o = .slice (some ad) (mergeAll (ps (s.take k))).length c ∧ Hid (Acc w wr w.heap.size 35 #[.slice A s.length ca, .slice B m.length cb] ad (mergeAll (ps (s.take k))) c)) (fun _ i _ => s.length - (intOf i).toNat)
  case atStart => exact ⟨0, by omega, rfl, _, _, rfl, HI⟩
  case round =>
    obtain ⟨k, hk, rfl, ad, c, rfl, HR⟩ := hrel
    obtain ⟨b0, b1⟩ := blk2 HR.out.2.2.1
    by_cases hlt : k < s.length
    · obtain ⟨sd, rfl, _, c0, hLx⟩ := (HS.out.below HR.out.2.2.2 (Nat.le_refl _)).at_ hlt
      have hx6 := H6s.out s[k] (List.getElem_mem hlt)
      have HJ := Lib.hid (ps_snoc s k hlt)
      have hla := HLA.out k
      obtain ⟨x, hx⟩ : ∃ x, s[k] = x := ⟨_, rfl⟩
      rw [hx] at c0 hLx hx6 HJ
      clear hx
      have HJ2 := Lib.hid (show mergeAll (ps (s.take (k + 1))) = mergeW (mergeAll (ps (s.take k))) x.l by rw [HJ.out, mergeAll_snoc])
      obtain ⟨acc, hacc⟩ : ∃ acc, mergeAll (ps (s.take k)) = acc := ⟨_, rfl⟩
      rw [hacc] at HR hla HJ2 ⊢
      clear hacc
      have HC := Lib.hid (Sto.specMerge_any (some ad) x.A acc x.l c x.c wr HR.out.2.1.2.2 (hLx.more HR.out.2.2.2.size) (by omega) (by omega))
      unfold Sto.slV at HC
      clear hLx
      go_wp2_with fail
      refine HC.out.mono ?_
      rintro e w2 ⟨v, rfl, ho2, hn2, hb2⟩
      obtain ⟨_, ad3, c4, rfl, hd1, hd2, hL3⟩ := Sto.own_addr ho2 hn2
      rw [← HJ2.out] at ho2 hd1 hL3
      have HN := Lib.hid (show Acc w w2 w.heap.size 35 #[.slice (some sd) s.length ca, .slice B m.length cb] ad3 (mergeAll (ps (s.take (k + 1)))) c4 from ⟨Sto.own_less ho2 HR.out.2.2.2.size, ⟨hd1, hd2, hL3⟩, HR.out.2.2.1.on hb2, HR.out.2.2.2.trans (hb2.mono HR.out.2.2.2.size)⟩)
      rw [← HJ2.out]
      clear ho2 hd1 hd2 hL3 hb2 hn2 c0 b0 b1
      unfold Sto.slV
      go_wp2_with fail
      go_roundw
      case rel => exact ⟨k + 1, by omega, by go_num, ad3, c4, rfl, HN⟩
      case measure => simp [intOf]; omega
    · have ek : s.take k = s := List.take_of_length_le (by omega)
      rw [ek] at HR ⊢
      clear ek HLA
      have HI2 := Lib.hid (show Acc w wr w.heap.size 35 #[.slice A s.length ca, .slice B m.length cb] ad (mergeAll (ps s ++ pr (m.take 0))) c by simpa [pr] using HR.out)
      have HE := Lib.hid (show mergeAll (ps s) = mergeAll (ps s ++ pr (m.take 0)) by simp [pr])
      rw [HE.out]
      clear HR
      go_wp2_with fail
      clear b0 b1
      go_loopw [3, 5] (fun o i wr => ∃ k : Nat, k ≤ m.length ∧ i = .int .i64 k ∧ ∃ ad c, o = .slice (some ad) (mergeAll (ps s ++ pr (m.take k))).length c ∧ Hid (Acc w wr w.heap.size 35 #[.slice A s.length ca, .slice B m.length cb] ad (mergeAll (ps s ++ pr (m.take k))) c)) (fun _ i _ => m.length - (intOf i).toNat)
      case atStart => exact ⟨0, by omega, rfl, _, _, rfl, HI2⟩
      case round =>
        obtain ⟨k, hk, rfl, ad, c, rfl, HR⟩ := hrel
        obtain ⟨b0, b1⟩ := blk2 HR.out.2.2.1
        by_cases hlt : k < m.length
        · obtain ⟨sd, rfl, _, ⟨c0, c1, c2⟩, hLx⟩ := (HM.out.below HR.out.2.2.2 (Nat.le_refl _)).at_ hlt
          have hx6 := H6m.out m[k] (List.getElem_mem hlt)
          have HJ := Lib.hid (pr_snoc m k hlt)
          have hla := HLB.out k
          obtain ⟨x, hx⟩ : ∃ x, m[k] = x := ⟨_, rfl⟩
          rw [hx] at c0 c1 c2 hLx hx6 HJ
          clear hx
          have HJ2 := Lib.hid (show mergeAll (ps s ++ pr (m.take (k + 1))) = mergeW (mergeAll (ps s ++ pr (m.take k))) x.x.l by rw [HJ.out, ← List.append_assoc, mergeAll_snoc])
          obtain ⟨acc, hacc⟩ : ∃ acc, mergeAll (ps s ++ pr (m.take k)) = acc := ⟨_, rfl⟩
          rw [hacc] at HR hla HJ2 ⊢
          clear hacc
          have HC := Lib.hid (Sto.specMerge_any (some ad) x.x.A acc x.x.l c x.x.c wr HR.out.2.1.2.2 (hLx.more HR.out.2.2.2.size) (by omega) (by omega))
          unfold Sto.slV at HC
          clear hLx
          go_wp2_with fail
          refine HC.out.mono ?_
          rintro e w2 ⟨v, rfl, ho2, hn2, hb2⟩
          obtain ⟨_, ad3, c4, rfl, hd1, hd2, hL3⟩ := Sto.own_addr ho2 hn2
          rw [← HJ2.out] at ho2 hd1 hL3
          have HN := Lib.hid (show Acc w w2 w.heap.size 35 #[.slice A s.length ca, .slice (some sd) m.length cb] ad3 (mergeAll (ps s ++ pr (m.take (k + 1)))) c4 from ⟨Sto.own_less ho2 HR.out.2.2.2.size, ⟨hd1, hd2, hL3⟩, HR.out.2.2.1.on hb2, HR.out.2.2.2.trans (hb2.mono HR.out.2.2.2.size)⟩)
          rw [← HJ2.out]
          clear ho2 hd1 hd2 hL3 hb2 hn2 c0 c1 c2 b0 b1
          unfold Sto.slV
          go_wp2_with fail
          go_roundw
          case rel => exact ⟨k + 1, by omega, by go_num, ad3, c4, rfl, HN⟩
          case measure => simp [intOf]; omega
        · have ek : m.take k = m := List.take_of_length_le (by omega)
          rw [ek] at HR ⊢
          clear ek
          go_wp2_with fail
          go_ret
          exact ⟨_, rfl, HR.out.1, (fun e => by cases e), HR.out.2.2.2⟩
end Go.Proofs.YtoagdpbbojlgfaaGreat.Net
