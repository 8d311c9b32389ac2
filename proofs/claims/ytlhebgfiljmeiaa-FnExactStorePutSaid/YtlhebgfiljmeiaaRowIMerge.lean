/-
  impl.listsCode at rows, impl.StoreMerge, impl.StorePut.
-/
import Derived.Test.YtlhebgfiljmeiaaRowNews
import Derived.Test.YtlhebgfiljmeiaaRowOut
namespace Go.Proofs.Ytlhebgfiljmeiaa.Sto
open Go.ChangeShapes Go.WideShapes Go.ChangeAt Go.RowKit
open Dep (I D zero kl list_eq add_block)
set_option linter.unusedVariables false
set_option maxRecDepth 100000
set_option linter.unusedSimpArgs false

/-- A slice of deps as a thing. -/
structure Sl where
  A : Option Addr
  l : List R
  c : Nat
/-- Some lists, told by a slice of slices. -/
def Lists (w : World) (B : Nat) (ad : Addr) (ls : List Sl) : Prop :=
  ad.block < B ∧ (∀ j (h : j < ls.length), w.cell? (ad.add j) = some (.slice ls[j].A ls[j].l.length ls[j].c)) ∧ ∀ j (h : j < ls.length), Lies w B ls[j].A ls[j].l
theorem Lists.below {w w' : World} {B N : Nat} {ad : Addr} {ls : List Sl} (h : Lists w B ad ls) (hb : Below N w w') (hN : B ≤ N) : Lists w' B ad ls :=
  ⟨h.1, fun j hj => (hb.cell (p := ad.add j) (by rw [add_block]; have := h.1; omega)).trans (h.2.1 j hj), fun j hj => (h.2.2 j hj).below hb hN⟩
theorem Lists.more {w : World} {B B' : Nat} {ad : Addr} {ls : List Sl} (h : Lists w B ad ls) (hB : B ≤ B') : Lists w B' ad ls :=
  ⟨by have := h.1; omega, h.2.1, fun j hj => (h.2.2 j hj).more hB⟩
open Classical in
noncomputable def codeV (L : List (List R)) : Int := if (∃ l ∈ L, 400 < l.length) then 2 else if (∀ l ∈ L, rowsB l = true) then 0 else 1
theorem code_big {L : List (List R)} {l : List R} (h : l ∈ L) (hl : 400 < l.length) : codeV L = 2 := by unfold codeV; rw [if_pos ⟨l, h, hl⟩]
theorem code_all {L : List (List R)} (h : ∀ l ∈ L, ¬ 400 < l.length) : codeV L = if @decide (∀ l ∈ L, rowsB l = true) (Classical.propDecidable _) = true then 0 else 1 := by
  unfold codeV
  rw [if_neg (by rintro ⟨l, hl, h2⟩; exact h l hl h2)]
  by_cases e : ∀ l ∈ L, rowsB l = true
  · rw [if_pos e, if_pos (by simpa using e)]
  · rw [if_neg e, if_neg (by simpa using e)]
theorem take_mem {L : List (List R)} {k : Nat} (hk : k < L.length) (p : List R → Prop) : (∀ l ∈ L.take (k + 1), p l) ↔ (∀ l ∈ L.take k, p l) ∧ p L[k] := by
  rw [show L.take (k + 1) = L.take k ++ [L[k]] by simp]
  constructor
  · intro h
    exact ⟨fun l hl => h l (List.mem_append_left _ hl), h _ (List.mem_append_right _ (List.mem_singleton.2 rfl))⟩
  · rintro ⟨h1, h2⟩ l hl
    rcases List.mem_append.1 hl with hl | hl
    · exact h1 l hl
    · obtain rfl : l = L[k] := by simpa using hl
      exact h2

set_option maxHeartbeats 1000000 in
set_option maxRecDepth 100000 in
theorem lists_any (ad : Addr) (ls : List Sl) (cap : Nat) (w : World) (h : Lists w w.heap.size ad ls) (hl : ls.length ≤ 400) (hll : ∀ j (h : j < ls.length), ls[j].l.length ≤ 1048576) (hkk : ∀ j (h : j < ls.length), ∀ d ∈ ls[j].l, Fits d) :
    Calls Try.prog 48 #[.func (.func 12) #[] #[], .slice (some ad) ls.length cap] w fun e w' => e = .returned (.int .i64 (codeV (ls.map (·.l)))) ∧ Below w.heap.size w w' := by
  have H := Lib.hid h
  have HL := Lib.hid hll
  have HK := Lib.hid hkk
  clear h hll hkk
  go_enter Try.func48, Try.ntmps48
  go_wp2_with fail
  go_loopw [5, 10] (fun m i wr => ∃ k : Nat, k ≤ ls.length ∧ i = .int .i64 k ∧ ∃ c : Int, m = .int .i64 c ∧ Hid ((∀ l ∈ (ls.map (·.l)).take k, ¬ 400 < l.length) ∧ ((c = 0 ∧ ∀ l ∈ (ls.map (·.l)).take k, rowsB l = true) ∨ (c = 1 ∧ ¬ ∀ l ∈ (ls.map (·.l)).take k, rowsB l = true)) ∧ Below w.heap.size w wr)) (fun _ i _ => ls.length - (intOf i).toNat)
  case atStart => exact ⟨0, by omega, rfl, 0, rfl, Lib.hid ⟨by simp, .inl ⟨rfl, by simp⟩, Below.refl _ _⟩⟩
  case round =>
    obtain ⟨k, hk, rfl, c, rfl, HR⟩ := hrel
    by_cases hlt : k < ls.length
    · have c0 := (H.out.below HR.out.2.2 (Nat.le_refl _)).2.1 k hlt
      have hlen := HL.out k hlt
      have hky := HK.out k hlt
      have hLs := H.out.2.2 k hlt
      have hkm : k < (ls.map (·.l)).length := by simpa using hlt
      have he : (ls.map (·.l))[k] = ls[k].l := by simp
      have HT1 := Lib.hid (take_mem hkm (fun l => ¬ 400 < l.length))
      have HT2 := Lib.hid (take_mem hkm (fun l => rowsB l = true))
      have HM := Lib.hid (show ls[k].l ∈ ls.map (·.l) by rw [← he]; exact List.getElem_mem hkm)
      rw [he] at HT1 HT2
      clear he hkm
      obtain ⟨s, hs⟩ : ∃ s, ls[k] = s := ⟨_, rfl⟩
      rw [hs] at c0 hlen hky hLs HT1 HT2 HM
      clear hs
      obtain ⟨sA, sl, sc⟩ := s
      simp only at c0 hlen hky hLs HT1 HT2 HM
      have HD := Lib.hid (fun W (hW : Below w.heap.size w W) => implStore_any sA sl sc W ((hLs.below hW (Nat.le_refl _)).more hW.size) hlen hky)
      unfold slV at HD
      clear hLs hky
      by_cases h400 : 400 < sl.length
      · go_wp2_with fail
        go_ret
        exact ⟨by rw [code_big HM.out h400]; rfl, HR.out.2.2⟩
      · cases hd : rowsB sl
        · have HD1 := Lib.hid hd
          rw [hd] at HD
          clear hd
          go_wp2_with fail
          refine (HD.out _ HR.out.2.2).mono ?_
          rintro e w1 ⟨rfl, hb⟩
          have HB := Lib.hid (HR.out.2.2.trans (hb.mono HR.out.2.2.size))
          clear hb
          go_wp2_with fail
          go_roundw
          case rel => exact ⟨k + 1, by omega, by go_num, 1, rfl, Lib.hid ⟨HT1.out.2 ⟨HR.out.1, h400⟩, .inr ⟨rfl, fun h => by have := (HT2.out.1 h).2; rw [HD1.out] at this; cases this⟩, HB.out⟩⟩
          case measure => simp [intOf]; omega
        · have HD1 := Lib.hid hd
          rw [hd] at HD
          clear hd
          go_wp2_with fail
          refine (HD.out _ HR.out.2.2).mono ?_
          rintro e w1 ⟨rfl, hb⟩
          have HB := Lib.hid (HR.out.2.2.trans (hb.mono HR.out.2.2.size))
          clear hb
          go_wp2_with fail
          go_roundw
          case rel =>
            refine ⟨k + 1, by omega, by go_num, c, rfl, Lib.hid ⟨HT1.out.2 ⟨HR.out.1, h400⟩, ?_, HB.out⟩⟩
            rcases HR.out.2.1 with ⟨hc, ha⟩ | ⟨hc, ha⟩
            · exact .inl ⟨hc, HT2.out.2 ⟨ha, HD1.out⟩⟩
            · exact .inr ⟨hc, fun h => ha (HT2.out.1 h).1⟩
          case measure => simp [intOf]; omega
    · have HV := Lib.hid (show codeV (ls.map (·.l)) = c by
        have h1 := HR.out.1
        have h2 := HR.out.2.1
        rw [List.take_of_length_le (by simp; omega)] at h1 h2
        rw [code_all h1]
        rcases h2 with ⟨hc, ha⟩ | ⟨hc, ha⟩
        · rw [if_pos (by simpa using ha), hc]
        · rw [if_neg (by simpa using ha), hc])
      go_wp2_with fail
      go_ret
      exact ⟨by rw [HV.out]; rfl, HR.out.2.2⟩

/-- Two lists in a new row. -/
abbrev twoObj (A B : Option Addr) (a b : List R) (ca cb : Nat) : Obj := Obj.cells #[Value.slice A a.length ca, Value.slice B b.length cb] 25
theorem two_lists {w W : World} {A B : Option Addr} {a b : List R} {ca cb : Nat} (ha : Lies w w.heap.size A a) (hb : Lies w w.heap.size B b) (hW : Below w.heap.size w W) :
    Lists (W.alloc (twoObj A B a b ca cb)) (W.alloc (twoObj A B a b ca cb)).heap.size ⟨W.heap.size, 0, none⟩ [⟨A, a, ca⟩, ⟨B, b, cb⟩] := by
  have hr := heap_alloc_new W (twoObj A B a b ca cb)
  have hB : Below w.heap.size w (W.alloc (twoObj A B a b ca cb)) := hW.alloc hW.size _
  have hs := hB.size
  refine ⟨by simp, fun j hj => ?_, fun j hj => ?_⟩
  · have : j = 0 ∨ j = 1 := by simp at hj; omega
    rcases this with rfl | rfl
    · exact cell_of_row _ _ 0 _ _ (0, 0) hr
    · exact cell_of_row _ _ 1 _ _ (0, 0) hr
  · have : j = 0 ∨ j = 1 := by simp at hj; omega
    rcases this with rfl | rfl
    · exact (ha.below hB (Nat.le_refl _)).more hs
    · exact (hb.below hB (Nat.le_refl _)).more hs
theorem two_len {a b : List R} {A B : Option Addr} {ca cb : Nat} (hla : a.length ≤ 1048576) (hlb : b.length ≤ 1048576) : ∀ j (h : j < [(⟨A, a, ca⟩ : Sl), ⟨B, b, cb⟩].length), ([(⟨A, a, ca⟩ : Sl), ⟨B, b, cb⟩][j]).l.length ≤ 1048576 := by
  intro j hj
  have : j = 0 ∨ j = 1 := by simp at hj; omega
  rcases this with rfl | rfl <;> assumption
theorem two_keys {a b : List R} {A B : Option Addr} {ca cb : Nat} (ka : ∀ d ∈ a, Fits d) (kb : ∀ d ∈ b, Fits d) : ∀ j (h : j < [(⟨A, a, ca⟩ : Sl), ⟨B, b, cb⟩].length), ∀ d ∈ ([(⟨A, a, ca⟩ : Sl), ⟨B, b, cb⟩][j]).l, Fits d := by
  intro j hj
  have : j = 0 ∨ j = 1 := by simp at hj; omega
  rcases this with rfl | rfl <;> assumption
theorem mergeC_code (a b : List R) : (codeV [a, b] ≠ 0 ∧ mergeC a b = codeV [a, b] ∧ mergeR a b = []) ∨ (codeV [a, b] = 0 ∧ rowsB a = true ∧ rowsB b = true ∧ ¬ (400 < a.length ∨ 400 < b.length)) := by
  by_cases h : 400 < a.length ∨ 400 < b.length
  · have e : codeV [a, b] = 2 := by
      rcases h with h | h
      · exact code_big (l := a) (by simp) h
      · exact code_big (l := b) (by simp) h
    have e2 : mergeC a b = 2 := by unfold mergeC; rw [if_pos h]
    exact .inl ⟨by omega, by omega, by unfold mergeR; rw [if_neg (by omega)]⟩
  · have hn : ∀ l ∈ [a, b], ¬ 400 < l.length := by
      intro l hl
      simp only [List.mem_cons, List.not_mem_nil, or_false] at hl
      rcases hl with rfl | rfl <;> omega
    by_cases h2 : rowsB a = true ∧ rowsB b = true
    · refine .inr ⟨?_, h2.1, h2.2, h⟩
      rw [code_all hn, if_pos]
      simpa using h2
    · have e : codeV [a, b] = 1 := by
        rw [code_all hn, if_neg]
        simpa using h2
      have e2 : mergeC a b = 1 := by unfold mergeC; rw [if_neg h, if_neg h2]
      exact .inl ⟨by omega, by omega, by unfold mergeR; rw [if_neg (by omega)]⟩
theorem merge_small {a b : List R} (ha : rowsB a = true) (hb : rowsB b = true) : ∀ d ∈ mergeW a b, d.k.size ≤ 1048576 ∧ d.b.size ≤ 1048576 := fun d hd => by
  have h1 := (rowB_iff d).1 (good_merge (ok_of ha).2.1 (ok_of hb).2.1 d hd)
  have h2 := (Key.ok_of h1.1).2.1
  exact ⟨by omega, by omega⟩

set_option maxHeartbeats 4000000 in
theorem implMergeOut_any (A B : Option Addr) (a b : List R) (ca cb : Nat) (w : World) (ha : Lies w w.heap.size A a) (hb : Lies w w.heap.size B b) (hla : a.length ≤ 1048576) (hlb : b.length ≤ 1048576) (ka : ∀ d ∈ a, Fits d) (kb : ∀ d ∈ b, Fits d) :
    Calls Try.prog 26 #[slV A a ca, slV B b cb] w fun e w' => Answers w e w' (mergeR a b) (mergeC a b) := by
  have HC : Hid (∀ W, Below w.heap.size w W → Calls Try.prog 48 #[.func (.func 12) #[] #[], .slice (some ⟨W.heap.size, 0, none⟩) 2 2] (W.alloc (twoObj A B a b ca cb)) fun e w' => e = .returned (.int .i64 (codeV [a, b])) ∧ Below (W.alloc (twoObj A B a b ca cb)).heap.size (W.alloc (twoObj A B a b ca cb)) w') := by
    refine Lib.hid fun W hW => ?_
    have := lists_any ⟨W.heap.size, 0, none⟩ [⟨A, a, ca⟩, ⟨B, b, cb⟩] 2 (W.alloc (twoObj A B a b ca cb)) (two_lists ha hb hW) (by simp) (two_len hla hlb) (two_keys ka kb)
    simpa only [List.map_cons, List.map_nil, List.length_cons, List.length_nil] using this
  have HLa := Lib.hid (fun W (hW : Below w.heap.size w W) => (ha.below hW (Nat.le_refl _)).more hW.size)
  have HLb := Lib.hid (fun W (hW : Below w.heap.size w W) => (hb.below hW (Nat.le_refl _)).more hW.size)
  have HKa := Lib.hid ka
  clear ha hb ka kb
  have B1 := (Below.refl w.heap.size w).alloc (Nat.le_refl _) (Obj.cells #[Value.slice none 0 0, Value.int IntKind.i64 0] 35)
  have hR := SRow.new w (.slice none 0 0) 0
  have HB1 := Lib.hid B1
  have hlt := hR.lt
  unfold slV
  go_enter Try.func26, Try.ntmps26
  go_wp2_with fail
  have hsz : (World.alloc w (Obj.cells #[Value.slice none 0 0, Value.int IntKind.i64 0] 35)).heap.size = w.heap.size + 1 := by simp
  generalize World.alloc w _ = W1 at B1 HB1 hR hlt hsz ⊢
  have hcall := HC.out W1 HB1.out
  rw [hsz] at hcall
  refine hcall.mono ?_
  clear hcall
  rintro e w1 ⟨rfl, hb1⟩
  have hR1 := (hR.alloc (twoObj A B a b ca cb)).step hb1 (by simp; omega)
  have B2 := Lib.hid ((B1.alloc B1.size (twoObj A B a b ca cb)).trans (hb1.mono (by have := B1.size; simp; omega)))
  clear hb1 hR B1
  rcases mergeC_code a b with ⟨hc, hcj, hr⟩ | ⟨hc, hda, hdb, h400⟩
  · have HV := Lib.hid hcj
    have HR := Lib.hid hr
    obtain ⟨r0, r1⟩ := hR1.cells
    have f0 := hR1.free 0
    have f1 := hR1.free 1
    clear hcj hr hR1
    obtain ⟨cv, hcv⟩ : ∃ cv, codeV [a, b] = cv := ⟨_, rfl⟩
    have HCV := Lib.hid hcv
    rw [hcv] at hc ⊢
    clear hcv
    have hc3 : ¬ cv = 0 := hc
    have hc4 : (cv != 0) = true := by simpa using hc
    go_wp2_with fail
    refine bodyPost_ret (v := outV (.slice none 0 0) cv) (by simp [results, Try.results26, go_sem, outV, r0, r1]) rfl ?_
    rw [HV.out, HR.out, HCV.out]
    exact Answers.nil ((B2.out.setCell (Nat.le_refl _) _).setCell (Nat.le_refl _) _)
  · have HR1 := Lib.hid hR1
    have hsa := (ok_of hda).2.2
    have hsb := (ok_of hdb).2.2
    have h6a := (ok_of hda).1
    have h6b := (ok_of hdb).1
    have HBK := Lib.hid (fun W hW => byKey_any A a ca W (HLa.out W hW) (by omega) hsa HKa.out)
    have HNW := Lib.hid (fun W hW => news_any A B a b ca cb W (HLa.out W hW) (HLb.out W hW) hda hdb)
    have HSM := Lib.hid (merge_facts b a hsa hsb).1
    have HFM := Lib.hid (fun q => news_merge hsa hsb q)
    have HFS := Lib.hid (merge_small hda hdb)
    have hml := merge_len b a
    have hC0 : mergeC a b = if 6 < (mergeW a b).length then 9 else 0 := by unfold mergeC; rw [if_neg h400, if_pos ⟨hda, hdb⟩]
    have HC0 := Lib.hid hC0
    have HKN := Lib.hid (keyL_nodup HSM.out)
    have HKM := Lib.hid (keyL_mem HSM.out)
    have HKL := Lib.hid (show (keyL (mergeW a b)).length = (mergeW a b).length by simp [keyL])
    clear hR1 hsa hsb hda hdb h400 hC0
    unfold slV at HBK HNW
    rw [hc]
    clear hc
    go_wp2_with fail
    refine (HBK.out _ B2.out).mono ?_
    rintro e w2 ⟨rfl, hm2, hb2⟩
    have HM2 := Lib.hid hm2
    have B3 := Lib.hid (B2.out.trans (hb2.mono B2.out.size))
    have HR2 := Lib.hid (HR1.out.step hb2 HR1.out.lt)
    have hlt2 := hm2.lt
    have hsz1 := HR1.out.lt
    clear hm2 hb2
    obtain ⟨g, hg⟩ : ∃ g, w1.heap.size = g := ⟨_, rfl⟩
    have HG := Lib.hid hg
    rw [hg] at HM2 hlt2 hsz1 ⊢
    clear hg
    go_wp2_with fail
    refine (HNW.out _ B3.out).mono ?_
    rintro e w3 ⟨m, rfl, hmg, hm3, hb3⟩
    have HM3 := Lib.hid hm3
    have HM2 := Lib.hid (HM2.out.step hb3 (Nat.le_refl _))
    have B4 := Lib.hid (B3.out.trans (hb3.mono B3.out.size))
    have HR3 := Lib.hid (HR2.out.step hb3 HR2.out.lt)
    clear hm3 hb3
    have hgm : g ≠ m := by omega
    go_wp2_with fail
    refine (copy_any g m a.length b.length _ _ w3 HM2.out HM3.out hgm (by omega)).mono ?_
    rintro e w4 ⟨rfl, hm4, hg4⟩
    have HM4 := Lib.hid (hm4.congr HFM.out)
    have hwg : w.heap.size < g := by have := hsz1; omega
    have B5 := Lib.hid (B4.out.grown hg4 B4.out.size (fun j e => by cases e; omega))
    have HR4 := Lib.hid (show SRow w4 w.heap.size (.slice none 0 0) 0 from (hg4.block _ HR3.out.lt (fun e => by have := Option.some.inj e; omega)).trans HR3.out)
    clear hm4 hg4
    by_cases h6 : 6 < (mergeW a b).length
    · have HV := Lib.hid (show mergeC a b = 9 by rw [HC0.out, if_pos h6])
      have HR := Lib.hid (show mergeR a b = [] by unfold mergeR; rw [HV.out]; rfl)
      have h6i : (6 : Int) < ((mergeW a b).length : Int) := by omega
      obtain ⟨r0, r1⟩ := HR4.out.cells
      have f0 := HR4.out.free 0
      have f1 := HR4.out.free 1
      go_wp2_with (at_len; refine wpList_size rfl _ rfl HM4.out rfl HKN.out HKM.out ?_; rw [HKL.out])
      refine bodyPost_ret (v := outV (.slice none 0 0) 9) (by simp [results, Try.results26, go_sem, outV, r0, r1]) rfl ?_
      rw [HV.out, HR.out]
      exact Answers.nil ((B5.out.setCell (Nat.le_refl _) _).setCell (Nat.le_refl _) _)
    · have HV := Lib.hid (show mergeC a b = 0 by rw [HC0.out, if_neg h6])
      have HR := Lib.hid (show mergeR a b = mergeW a b by unfold mergeR; rw [HV.out]; rfl)
      have h6i : ¬ (6 : Int) < ((mergeW a b).length : Int) := by omega
      go_wp2_with (at_len; refine wpList_size rfl _ rfl HM4.out rfl HKN.out HKM.out ?_; rw [HKL.out])
      refine (inOrder_any g _ (mergeW a b) w4 HM4.out HSM.out HFS.out (by omega)).mono ?_
      rintro e w5 ⟨v, rfl, ho5, hb5⟩
      obtain ⟨-, A5, c5, hv, -, -⟩ := own_lies ho5
      subst hv
      have HO := Lib.hid ho5
      have B6 := Lib.hid (B5.out.trans (hb5.mono B5.out.size))
      have HR5 := Lib.hid (HR4.out.step hb5 HR4.out.lt)
      have hlt4 := HR4.out.lt
      clear ho5 hb5
      obtain ⟨r0, r1⟩ := HR5.out.cells
      have f0 := HR5.out.free 0
      have f1 := HR5.out.free 1
      unfold slV
      go_wp2_with fail
      refine bodyPost_ret (v := outV (.slice A5 (mergeW a b).length c5) 0) (by simp [results, Try.results26, go_sem, outV, r0, r1]) rfl ?_
      rw [HV.out, HR.out]
      exact Answers.row (own_less (own_set2 HO.out (b := w.heap.size) hlt4 _ _) (by omega)) ((B6.out.setCell (Nat.le_refl _) _).setCell (Nat.le_refl _) _)

/-- What the inner call hands back, told once more in a cell. -/
theorem Answers.cell {w w1 w2 : World} {e : Ending} {r : List R} {c : Int} {b : Nat} (h : Answers w1 e w2 r c) (hw : Below w.heap.size w w1) (hb : w.heap.size ≤ b) (hb1 : b < w1.heap.size) (hR : SRow w1 b (.slice none 0 0) 0) :
    ∃ v, e = .returned (outV v c) ∧ SRow w2 b (.slice none 0 0) 0 ∧ (∃ (A : Option Addr) (m : Nat × Nat), v = .slice A m.1 m.2) ∧ Answers w (.returned (outV v c)) ((w2.setCell ⟨b, 0, none⟩ v).setCell ⟨b, 1, none⟩ (.int .i64 c)) r c := by
  obtain ⟨A, cap, rfl, ho, hc, hL, hB⟩ := h
  refine ⟨slV A r cap, rfl, hR.step hB hb1, ⟨A, (r.length, cap), rfl⟩, ?_⟩
  exact Answers.row (own_less (own_set2 ho hb1 _ _) hw.size) (((hw.trans (hB.mono hw.size)).setCell (p := ⟨b, 0, none⟩) hb _).setCell (p := ⟨b, 1, none⟩) hb _)

set_option maxHeartbeats 2000000 in
theorem implPutOut_any (A : Option Addr) (l : List R) (cap : Nat) (x : R) (w : World) (h : Lies w w.heap.size A l) (hl : l.length ≤ 1048576) (hk : ∀ d ∈ l, Fits d) (hx : Fits x) :
    Calls Try.prog 17 #[slV A l cap, x.val] w fun e w' => Answers w e w' (putR l x) (putC l x) := by
  unfold putR putC
  have B0 := (Below.refl w.heap.size w).alloc (Nat.le_refl _) x.obj
  have B1 := B0.alloc B0.size (Obj.cells #[Value.slice none 0 0, Value.int IntKind.i64 0] 35)
  have hX := (RowRow.new w 39 x).alloc (Obj.cells #[Value.slice none 0 0, Value.int IntKind.i64 0] 35)
  have hR := SRow.new (w.alloc x.obj) (.slice none 0 0) 0
  rw [World.size_alloc] at hR
  have hB2 := B1.alloc B1.size x.obj
  have HM := Lib.hid (implMergeOut_any A (some ⟨((w.alloc x.obj).alloc (Obj.cells #[Value.slice none 0 0, Value.int IntKind.i64 0] 35)).heap.size, 0, none⟩) l [x] cap 1 (((w.alloc x.obj).alloc (Obj.cells #[Value.slice none 0 0, Value.int IntKind.i64 0] 35)).alloc x.obj) ((h.below hB2 (Nat.le_refl _)).more hB2.size) (one_lies _ x) hl (by simp) hk (fun d hd => by rw [List.mem_singleton.1 hd]; exact hx))
  have HB2 := Lib.hid hB2
  have HR2 := Lib.hid (hR.alloc x.obj)
  obtain ⟨x0, x1, x2, x3, x4⟩ := hX.cells
  have hsz : ((w.alloc x.obj).alloc (Obj.cells #[Value.slice none 0 0, Value.int IntKind.i64 0] 35)).heap.size = w.heap.size + 1 + 1 := by simp
  rw [hsz] at HM
  clear h hk hx B0 B1 hR hX hB2
  unfold slV at HM ⊢
  unfold R.val
  go_enter Try.func17, Try.ntmps17
  go_wp2_with fail
  refine HM.out.mono ?_
  intro e w2 hans
  obtain ⟨v, rfl, hR3, ⟨A3, m3, rfl⟩, hA⟩ := hans.cell HB2.out (show w.heap.size ≤ w.heap.size + 1 by omega) HR2.out.lt HR2.out
  have HA := Lib.hid hA
  obtain ⟨r0, r1⟩ := hR3.cells
  have f0 := hR3.free 0
  have f1 := hR3.free 1
  clear hA hans hR3
  unfold outV
  go_wp2_with fail
  refine bodyPost_ret (v := outV (.slice A3 m3.1 m3.2) (mergeC l [x])) (by simp [results, Try.results17, go_sem, outV, r0, r1]) rfl ?_
  exact HA.out
end Go.Proofs.Ytlhebgfiljmeiaa.Sto
