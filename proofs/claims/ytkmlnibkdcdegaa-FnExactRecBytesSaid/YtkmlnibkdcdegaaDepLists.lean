/-
  impl.listsCode: the first fault of some lists.
-/
import Derived.Test.YtkmlnibkdcdegaaDepAbove
namespace Go.Proofs.Ytkmlnibkdcdegaa.Dep
open Go.ChangeShapes Go.WideShapes Go.ChangeAt Go.RowKit
set_option linter.unusedVariables false
set_option maxRecDepth 100000

open Classical in
noncomputable def codeV (L : List (List D)) : Int := if (∃ l ∈ L, 400 < l.length) then 2 else if (∀ l ∈ L, depsB l = true) then 0 else 1
theorem code_big {L : List (List D)} {l : List D} (h : l ∈ L) (hl : 400 < l.length) : codeV L = 2 := by unfold codeV; rw [if_pos ⟨l, h, hl⟩]
theorem code_all {L : List (List D)} (h : ∀ l ∈ L, ¬ 400 < l.length) : codeV L = if @decide (∀ l ∈ L, depsB l = true) (Classical.propDecidable _) = true then 0 else 1 := by
  unfold codeV
  rw [if_neg (by rintro ⟨l, hl, h2⟩; exact h l hl h2)]
  by_cases e : ∀ l ∈ L, depsB l = true
  · rw [if_pos e, if_pos (by simpa using e)]
  · rw [if_neg e, if_neg (by simpa using e)]
theorem take_mem {L : List (List D)} {k : Nat} (hk : k < L.length) (p : List D → Prop) : (∀ l ∈ L.take (k + 1), p l) ↔ (∀ l ∈ L.take k, p l) ∧ p L[k] := by
  rw [show L.take (k + 1) = L.take k ++ [L[k]] by simp]
  constructor
  · intro h
    exact ⟨fun l hl => h l (List.mem_append_left _ hl), h _ (List.mem_append_right _ (List.mem_singleton.2 rfl))⟩
  · rintro ⟨h1, h2⟩ l hl
    rcases List.mem_append.1 hl with hl | hl
    · exact h1 l hl
    · obtain rfl : l = L[k] := by simpa using hl
      exact h2

set_option maxHeartbeats 1000000 in
set_option maxRecDepth 100000 in
theorem lists_any (ad : Addr) (ls : List Sl) (cap : Nat) (w : World) (h : Lists w w.heap.size ad ls) (hl : ls.length ≤ 400) (hll : ∀ j (h : j < ls.length), ls[j].l.length ≤ maxLen) (hkk : ∀ j (h : j < ls.length), ∀ d ∈ ls[j].l, d.k.size ≤ maxLen) :
    Calls Try.prog 45 #[.func (.func 22) #[] #[], .slice (some ad) ls.length cap] w fun e w' => e = .returned (.int .i64 (codeV (ls.map (·.l)))) ∧ Below w.heap.size w w' := by
  have H := Lib.hid h
  have HL := Lib.hid hll
  have HK := Lib.hid hkk
  clear h hll hkk
  go_enter Try.func45, Try.ntmps45
  go_wp2_with fail
  go_loopw [5, 10] (fun m i wr => ∃ k : Nat, k ≤ ls.length ∧ i = .int .i64 k ∧ ∃ c : Int, m = .int .i64 c ∧ Hid ((∀ l ∈ (ls.map (·.l)).take k, ¬ 400 < l.length) ∧ ((c = 0 ∧ ∀ l ∈ (ls.map (·.l)).take k, depsB l = true) ∨ (c = 1 ∧ ¬ ∀ l ∈ (ls.map (·.l)).take k, depsB l = true)) ∧ Below w.heap.size w wr)) (fun _ i _ => ls.length - (intOf i).toNat)
  case atStart => exact ⟨0, by omega, rfl, 0, rfl, Lib.hid ⟨by simp, .inl ⟨rfl, by simp⟩, Below.refl _ _⟩⟩
  case round =>
    obtain ⟨k, hk, rfl, c, rfl, HR⟩ := hrel
    by_cases hlt : k < ls.length
    · have c0 := (H.out.below HR.out.2.2 (Nat.le_refl _)).2.1 k hlt
      have hlen := HL.out k hlt
      have hky := HK.out k hlt
      have hLs := H.out.2.2 k hlt
      have hkm : k < (ls.map (·.l)).length := by simpa using hlt
      have he : (ls.map (·.l))[k] = ls[k].l := by simp
      have HT1 := Lib.hid (take_mem hkm (fun l => ¬ 400 < l.length))
      have HT2 := Lib.hid (take_mem hkm (fun l => depsB l = true))
      have HM := Lib.hid (show ls[k].l ∈ ls.map (·.l) by rw [← he]; exact List.getElem_mem hkm)
      rw [he] at HT1 HT2
      clear he hkm
      obtain ⟨s, hs⟩ : ∃ s, ls[k] = s := ⟨_, rfl⟩
      rw [hs] at c0 hlen hky hLs HT1 HT2 HM
      clear hs
      obtain ⟨sA, sl, sc⟩ := s
      simp only at c0 hlen hky hLs HT1 HT2 HM
      have HD := Lib.hid (fun W (hW : Below w.heap.size w W) => implDeps_any sA sl sc W ((hLs.below hW (Nat.le_refl _)).more hW.size) hlen hky)
      unfold slV at HD
      unfold maxLen at hlen
      clear hLs hky
      by_cases h400 : 400 < sl.length
      · go_wp2_with fail
        go_ret
        exact ⟨by rw [code_big HM.out h400]; rfl, HR.out.2.2⟩
      · cases hd : depsB sl
        · have HD1 := Lib.hid hd
          rw [hd] at HD
          clear hd
          go_wp2_with fail
          refine (HD.out _ HR.out.2.2).mono ?_
          rintro e w1 ⟨rfl, hb⟩
          have HB := Lib.hid (HR.out.2.2.trans (hb.mono HR.out.2.2.size))
          clear hb
          go_wp2_with fail
          go_roundw
          case rel => exact ⟨k + 1, by omega, by go_num, 1, rfl, Lib.hid ⟨HT1.out.2 ⟨HR.out.1, h400⟩, .inr ⟨rfl, fun h => by have := (HT2.out.1 h).2; rw [HD1.out] at this; cases this⟩, HB.out⟩⟩
          case measure => simp [intOf]; omega
        · have HD1 := Lib.hid hd
          rw [hd] at HD
          clear hd
          go_wp2_with fail
          refine (HD.out _ HR.out.2.2).mono ?_
          rintro e w1 ⟨rfl, hb⟩
          have HB := Lib.hid (HR.out.2.2.trans (hb.mono HR.out.2.2.size))
          clear hb
          go_wp2_with fail
          go_roundw
          case rel =>
            refine ⟨k + 1, by omega, by go_num, c, rfl, Lib.hid ⟨HT1.out.2 ⟨HR.out.1, h400⟩, ?_, HB.out⟩⟩
            rcases HR.out.2.1 with ⟨hc, ha⟩ | ⟨hc, ha⟩
            · exact .inl ⟨hc, HT2.out.2 ⟨ha, HD1.out⟩⟩
            · exact .inr ⟨hc, fun h => ha (HT2.out.1 h).1⟩
          case measure => simp [intOf]; omega
    · have HV := Lib.hid (show codeV (ls.map (·.l)) = c by
        have h1 := HR.out.1
        have h2 := HR.out.2.1
        rw [List.take_of_length_le (by simp; omega)] at h1 h2
        rw [code_all h1]
        rcases h2 with ⟨hc, ha⟩ | ⟨hc, ha⟩
        · rw [if_pos (by simpa using ha), hc]
        · rw [if_neg (by simpa using ha), hc])
      go_wp2_with fail
      go_ret
      exact ⟨by rw [HV.out]; rfl, HR.out.2.2⟩
end Go.Proofs.Ytkmlnibkdcdegaa.Dep
