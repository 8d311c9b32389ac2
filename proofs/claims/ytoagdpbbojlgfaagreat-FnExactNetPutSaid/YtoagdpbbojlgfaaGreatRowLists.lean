/-
  Some lists of rows; impl.listsCode at rows.
-/
import Derived.Test.YtoagdpbbojlgfaaGreatRowIRight
namespace Go.Proofs.YtoagdpbbojlgfaaGreat.Sto
open Go.ChangeShapes Go.WideShapes Go.ChangeAt Go.RowKit
open Dep (I D zero kl list_eq add_block)
set_option linter.unusedVariables false
set_option maxRecDepth 100000
set_option linter.unusedSimpArgs false

/-- A slice of deps as a thing. -/
structure Sl where
  A : Option Addr
  l : List R
  c : Nat
/-- Some lists, told by a slice of slices. -/
def Lists (w : World) (B : Nat) (ad : Addr) (ls : List Sl) : Prop :=
  ad.block < B ∧ (∀ j (h : j < ls.length), w.cell? (ad.add j) = some (.slice ls[j].A ls[j].l.length ls[j].c)) ∧ ∀ j (h : j < ls.length), Lies w B ls[j].A ls[j].l
theorem Lists.below {w w' : World} {B N : Nat} {ad : Addr} {ls : List Sl} (h : Lists w B ad ls) (hb : Below N w w') (hN : B ≤ N) : Lists w' B ad ls :=
  ⟨h.1, fun j hj => (hb.cell (p := ad.add j) (by rw [add_block]; have := h.1; omega)).trans (h.2.1 j hj), fun j hj => (h.2.2 j hj).below hb hN⟩
theorem Lists.more {w : World} {B B' : Nat} {ad : Addr} {ls : List Sl} (h : Lists w B ad ls) (hB : B ≤ B') : Lists w B' ad ls :=
  ⟨by have := h.1; omega, h.2.1, fun j hj => (h.2.2 j hj).more hB⟩
open Classical in
noncomputable def codeV (L : List (List R)) : Int := if (∃ l ∈ L, 400 < l.length) then 2 else if (∀ l ∈ L, rowsB l = true) then 0 else 1
theorem code_big {L : List (List R)} {l : List R} (h : l ∈ L) (hl : 400 < l.length) : codeV L = 2 := by unfold codeV; rw [if_pos ⟨l, h, hl⟩]
theorem code_all {L : List (List R)} (h : ∀ l ∈ L, ¬ 400 < l.length) : codeV L = if @decide (∀ l ∈ L, rowsB l = true) (Classical.propDecidable _) = true then 0 else 1 := by
  unfold codeV
  rw [if_neg (by rintro ⟨l, hl, h2⟩; exact h l hl h2)]
  by_cases e : ∀ l ∈ L, rowsB l = true
  · rw [if_pos e, if_pos (by simpa using e)]
  · rw [if_neg e, if_neg (by simpa using e)]
theorem take_mem {L : List (List R)} {k : Nat} (hk : k < L.length) (p : List R → Prop) : (∀ l ∈ L.take (k + 1), p l) ↔ (∀ l ∈ L.take k, p l) ∧ p L[k] := by
  rw [show L.take (k + 1) = L.take k ++ [L[k]] by simp]
  constructor
  · intro h
    exact ⟨fun l hl => h l (List.mem_append_left _ hl), h _ (List.mem_append_right _ (List.mem_singleton.2 rfl))⟩
  · rintro ⟨h1, h2⟩ l hl
    rcases List.mem_append.1 hl with hl | hl
    · exact h1 l hl
    · obtain rfl : l = L[k] := by simpa using hl
      exact h2

set_option maxHeartbeats 1000000 in
set_option maxRecDepth 100000 in
theorem lists_any (ad : Addr) (ls : List Sl) (cap : Nat) (w : World) (h : Lists w w.heap.size ad ls) (hl : ls.length ≤ 400) (hll : ∀ j (h : j < ls.length), ls[j].l.length ≤ 1048576) (hkk : ∀ j (h : j < ls.length), ∀ d ∈ ls[j].l, Fits d) :
    Calls Tryz.prog 178 #[.func (.func 81) #[] #[], .slice (some ad) ls.length cap] w fun e w' => e = .returned (.int .i64 (codeV (ls.map (·.l)))) ∧ Below w.heap.size w w' := by
  have H := Lib.hid h
  have HL := Lib.hid hll
  have HK := Lib.hid hkk
  clear h hll hkk
  go_enter Tryz.func178, Tryz.ntmps178
  go_wp2_with fail
  go_loopw [5, 10] (fun m i wr => ∃ k : Nat, k ≤ ls.length ∧ i = .int .i64 k ∧ ∃ c : Int, m = .int .i64 c ∧ Hid ((∀ l ∈ (ls.map (·.l)).take k, ¬ 400 < l.length) ∧ ((c = 0 ∧ ∀ l ∈ (ls.map (·.l)).take k, rowsB l = true) ∨ (c = 1 ∧ ¬ ∀ l ∈ (ls.map (·.l)).take k, rowsB l = true)) ∧ Below w.heap.size w wr)) (fun _ i _ => ls.length - (intOf i).toNat)
  case atStart => exact ⟨0, by omega, rfl, 0, rfl, Lib.hid ⟨by simp, .inl ⟨rfl, by simp⟩, Below.refl _ _⟩⟩
  case round =>
    obtain ⟨k, hk, rfl, c, rfl, HR⟩ := hrel
    by_cases hlt : k < ls.length
    · have c0 := (H.out.below HR.out.2.2 (Nat.le_refl _)).2.1 k hlt
      have hlen := HL.out k hlt
      have hky := HK.out k hlt
      have hLs := H.out.2.2 k hlt
      have hkm : k < (ls.map (·.l)).length := by simpa using hlt
      have he : (ls.map (·.l))[k] = ls[k].l := by simp
      have HT1 := Lib.hid (take_mem hkm (fun l => ¬ 400 < l.length))
      have HT2 := Lib.hid (take_mem hkm (fun l => rowsB l = true))
      have HM := Lib.hid (show ls[k].l ∈ ls.map (·.l) by rw [← he]; exact List.getElem_mem hkm)
      rw [he] at HT1 HT2
      clear he hkm
      obtain ⟨s, hs⟩ : ∃ s, ls[k] = s := ⟨_, rfl⟩
      rw [hs] at c0 hlen hky hLs HT1 HT2 HM
      clear hs
      obtain ⟨sA, sl, sc⟩ := s
      simp only at c0 hlen hky hLs HT1 HT2 HM
      have HD := Lib.hid (fun W (hW : Below w.heap.size w W) => implStore_any sA sl sc W ((hLs.below hW (Nat.le_refl _)).more hW.size) hlen hky)
      unfold slV at HD
      clear hLs hky
      by_cases h400 : 400 < sl.length
      · go_wp2_with fail
        go_ret
        exact ⟨by rw [code_big HM.out h400]; rfl, HR.out.2.2⟩
      · cases hd : rowsB sl
        · have HD1 := Lib.hid hd
          rw [hd] at HD
          clear hd
          go_wp2_with fail
          refine (HD.out _ HR.out.2.2).mono ?_
          rintro e w1 ⟨rfl, hb⟩
          have HB := Lib.hid (HR.out.2.2.trans (hb.mono HR.out.2.2.size))
          clear hb
          go_wp2_with fail
          go_roundw
          case rel => exact ⟨k + 1, by omega, by go_num, 1, rfl, Lib.hid ⟨HT1.out.2 ⟨HR.out.1, h400⟩, .inr ⟨rfl, fun h => by have := (HT2.out.1 h).2; rw [HD1.out] at this; cases this⟩, HB.out⟩⟩
          case measure => simp [intOf]; omega
        · have HD1 := Lib.hid hd
          rw [hd] at HD
          clear hd
          go_wp2_with fail
          refine (HD.out _ HR.out.2.2).mono ?_
          rintro e w1 ⟨rfl, hb⟩
          have HB := Lib.hid (HR.out.2.2.trans (hb.mono HR.out.2.2.size))
          clear hb
          go_wp2_with fail
          go_roundw
          case rel =>
            refine ⟨k + 1, by omega, by go_num, c, rfl, Lib.hid ⟨HT1.out.2 ⟨HR.out.1, h400⟩, ?_, HB.out⟩⟩
            rcases HR.out.2.1 with ⟨hc, ha⟩ | ⟨hc, ha⟩
            · exact .inl ⟨hc, HT2.out.2 ⟨ha, HD1.out⟩⟩
            · exact .inr ⟨hc, fun h => ha (HT2.out.1 h).1⟩
          case measure => simp [intOf]; omega
    · have HV := Lib.hid (show codeV (ls.map (·.l)) = c by
        have h1 := HR.out.1
        have h2 := HR.out.2.1
        rw [List.take_of_length_le (by simp; omega)] at h1 h2
        rw [code_all h1]
        rcases h2 with ⟨hc, ha⟩ | ⟨hc, ha⟩
        · rw [if_pos (by simpa using ha), hc]
        · rw [if_neg (by simpa using ha), hc])
      go_wp2_with fail
      go_ret
      exact ⟨by rw [HV.out]; rfl, HR.out.2.2⟩
end Go.Proofs.YtoagdpbbojlgfaaGreat.Sto
