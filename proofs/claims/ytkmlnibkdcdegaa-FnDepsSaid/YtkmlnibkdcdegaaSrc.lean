/-
  The draws of the given package spec: a source of numbers over some bytes. What each function answers lies in its range; the bytes are read, nothing of what was there is written.
-/
import Derived.Test.YtkmlnibkdcdegaaRows
import Derived.WalkKit
import Derived.ProofKit
import Derived.OpenShut
import Derived.ShutString
import Derived.Lib.Hide
import Derived.StillTailTactics
import Derived.Deep.QuietTactic
import Derived.BigQuiet
namespace Go.Proofs.Ytkmlnibkdcdegaa.Src
open Go.ChangeShapes Go.WideShapes Go.ChangeAt Go.RowKit
set_option linter.unusedVariables false
set_option maxRecDepth 100000

/-- Bytes that came in: a slice of len bytes, each of them readable, below block B. -/
def Bytes (B : Nat) (w : World) (a : Option Addr) (len cap : Nat) : Prop :=
  len ≤ 1048576 ∧ (0 < len → ∃ cb co, a = some ⟨cb, co, none⟩ ∧ cb < B ∧ ∀ i, i < len → ∃ z : Int, 0 ≤ z ∧ z ≤ 255 ∧ w.cell? ⟨cb, co + i, none⟩ = some (.int .u8 z))
theorem Bytes.below {B : Nat} {w w' : World} {a : Option Addr} {len cap : Nat} (h : Bytes B w a len cap) (hb : Below B w w') : Bytes B w' a len cap := by
  refine ⟨h.1, fun hp => ?_⟩
  obtain ⟨cb, co, ha, hcb, hc⟩ := h.2 hp
  refine ⟨cb, co, ha, hcb, fun i hi => ?_⟩
  obtain ⟨z, z0, z1, hz⟩ := hc i hi
  exact ⟨z, z0, z1, (hb.cell (p := ⟨cb, co + i, none⟩) hcb).trans hz⟩

/-- Block b is a source over the bytes (a, len, cap): at bytes are read. -/
def IsSrc (w : World) (b : Nat) (a : Option Addr) (len cap : Nat) : Prop :=
  ∃ (at' : Nat) (mix size : Int), at' ≤ len ∧ 0 ≤ mix ∧ mix < 18446744073709551616 ∧ 0 ≤ size ∧ size ≤ 12 ∧ w.heap[b]? = some (.cells #[.slice a len cap, .int .i64 at', .int .u64 mix, .int .i64 size] 101 (0, 0))

theorem cellOf {w : World} {b : Nat} {cs : Array Value} {t : TypeId} (h : w.heap[b]? = some (.cells cs t (0, 0))) (i : Nat) : w.cell? ⟨b, i, none⟩ = cs[i]? := cell_of_row w b i cs _ (0, 0) h
theorem frozenOf {w : World} {b : Nat} {cs : Array Value} {t : TypeId} (h : w.heap[b]? = some (.cells cs t (0, 0))) (i : Nat) : w.frozen? ⟨b, i, none⟩ = false := by simp [World.frozen?, h]

/-- From w on, block b alone has been written; it holds these four cells. -/
def Inv (w : World) (b : Nat) (x0 x1 x2 x3 : Value) (W : World) : Prop := W.heap[b]? = some (.cells #[x0, x1, x2, x3] 101 (0, 0)) ∧ w.grownBy W (some b)
theorem Inv.refl {w : World} {b : Nat} {x0 x1 x2 x3 : Value} (h : w.heap[b]? = some (.cells #[x0, x1, x2, x3] 101 (0, 0))) : Inv w b x0 x1 x2 x3 w := ⟨h, ⟨rfl, rfl, rfl, Nat.le_refl _, fun _ _ _ => rfl⟩⟩
theorem Inv.drew {w W : World} {b : Nat} {x0 x1 x2 x3 : Value} (h : Inv w b x0 x1 x2 x3 W) : Inv w b x0 x1 x2 x3 W.drew := ⟨h.1, ⟨h.2.os, h.2.tape, h.2.output, h.2.size, h.2.block⟩⟩
theorem Inv.drewN {w W : World} {b : Nat} {x0 x1 x2 x3 : Value} (h : Inv w b x0 x1 x2 x3 W) (n : Nat) : Inv w b x0 x1 x2 x3 (W.drewN n) := ⟨h.1, ⟨h.2.os, h.2.tape, h.2.output, h.2.size, h.2.block⟩⟩
theorem heap_set {W : World} {b i : Nat} {cs : Array Value} {t : TypeId} (h : W.heap[b]? = some (.cells cs t (0, 0))) (v : Value) : (W.setCell ⟨b, i, none⟩ v).heap[b]? = some (.cells (cs.setIfInBounds i v) t (0, 0)) := by
  simp [World.setCell, Array.getElem?_modify, h]
theorem grown_set {w W : World} {b : Nat} (h : w.grownBy W (some b)) (i : Nat) (v : Value) : w.grownBy (W.setCell ⟨b, i, none⟩ v) (some b) := by
  refine ⟨h.os, h.tape, h.output, by simpa [World.setCell] using h.size, fun k hk hne => ?_⟩
  rw [Below.heap_setCell _ _ _ _ (fun e => hne (by simp [e]))]
  exact h.block k hk hne
theorem Inv.set1 {w W : World} {b : Nat} {x0 x1 x2 x3 : Value} (h : Inv w b x0 x1 x2 x3 W) (y : Value) : Inv w b x0 y x2 x3 (W.setCell ⟨b, 1, none⟩ y) := ⟨heap_set h.1 y, grown_set h.2 1 y⟩
theorem Inv.set2 {w W : World} {b : Nat} {x0 x1 x2 x3 : Value} (h : Inv w b x0 x1 x2 x3 W) (y : Value) : Inv w b x0 x1 y x3 (W.setCell ⟨b, 2, none⟩ y) := ⟨heap_set h.1 y, grown_set h.2 2 y⟩
theorem Inv.set3 {w W : World} {b : Nat} {x0 x1 x2 x3 : Value} (h : Inv w b x0 x1 x2 x3 W) (y : Value) : Inv w b x0 x1 x2 y (W.setCell ⟨b, 3, none⟩ y) := ⟨heap_set h.1 y, grown_set h.2 3 y⟩
theorem Inv.c0 {w W : World} {b : Nat} {x0 x1 x2 x3 : Value} (h : Inv w b x0 x1 x2 x3 W) : W.cell? ⟨b, 0, none⟩ = some x0 := cellOf h.1 0
theorem Inv.c1 {w W : World} {b : Nat} {x0 x1 x2 x3 : Value} (h : Inv w b x0 x1 x2 x3 W) : W.cell? ⟨b, 1, none⟩ = some x1 := cellOf h.1 1
theorem Inv.c2 {w W : World} {b : Nat} {x0 x1 x2 x3 : Value} (h : Inv w b x0 x1 x2 x3 W) : W.cell? ⟨b, 2, none⟩ = some x2 := cellOf h.1 2
theorem Inv.c3 {w W : World} {b : Nat} {x0 x1 x2 x3 : Value} (h : Inv w b x0 x1 x2 x3 W) : W.cell? ⟨b, 3, none⟩ = some x3 := cellOf h.1 3
theorem Inv.fr {w W : World} {b : Nat} {x0 x1 x2 x3 : Value} (h : Inv w b x0 x1 x2 x3 W) (i : Nat) : W.frozen? ⟨b, i, none⟩ = false := frozenOf h.1 i
/-- The walk goes on in a world of which this alone is known. -/
theorem gen_world {P : Program} {c : Code} {Q : Exit → Act → World → Prop} {a : Act} {W : World} (R : World → Prop) (h : R W) (k : ∀ W, R W → c.wp P Q a W) : c.wp P Q a W := k W h
theorem xor_range (x y : Int) : 0 ≤ bits .xor .u64 x y ∧ bits .xor .u64 x y < 18446744073709551616 := by
  have := bounds_u64 (wf_bits .xor .u64 x y); omega

/-- What a draw of a number below m leaves. -/
def NPost (w : World) (b : Nat) (a : Option Addr) (len cap : Nat) (size m : Int) (e : Ending) (w' : World) : Prop :=
  ∃ (r : Int) (at' : Nat) (mix : Int), e = .returned (.int .i64 r) ∧ 0 ≤ r ∧ (r < m ∨ (m ≤ 1 ∧ r = 0)) ∧ at' ≤ len ∧ 0 ≤ mix ∧ mix < 18446744073709551616 ∧ Inv w b (.slice a len cap) (.int .i64 at') (.int .u64 mix) (.int .i64 size) w'

theorem mod_range (x m : Int) (hm : 1 < m) : 0 ≤ x % m ∧ x % m < m := ⟨Int.emod_nonneg _ (by omega), Int.emod_lt_of_pos _ (by omega)⟩

theorem ret_wrap {x m : Int} (h : 0 ≤ x ∧ x < m) (hm2 : m ≤ 4611686018427387904) : Ending.returned (.int .i64 (wrap64 x)) = .returned (.int .i64 x) := by
  rw [show wrap64 x = x by unfold wrap64; omega]

set_option maxRecDepth 100000 in
set_option maxHeartbeats 8000000 in
theorem n_read (b len cap co cb at' : Nat) (mix size z m : Int) (w : World) (hm : 1 < m) (hm2 : m ≤ 4611686018427387904) (hat : at' < len) (hlen : len ≤ 1048576) (hz0 : 0 ≤ z) (hz1 : z ≤ 255) (hmix0 : 0 ≤ mix) (hmix1 : mix < 18446744073709551616)
    (hI : w.heap[b]? = some (.cells #[.slice (some ⟨cb, co, none⟩) len cap, .int .i64 at', .int .u64 mix, .int .i64 size] 101 (0, 0))) (hcz : w.cell? ⟨cb, co + at', none⟩ = some (.int .u8 z)) :
    Calls Try.prog 51 #[.pointer (some ⟨b, 0, none⟩), .int .i64 m] w (NPost w b (some ⟨cb, co, none⟩) len cap size m) := by
  have hl1 : (0 : Int) ≤ (at' : Int) := by omega
  have hl2 : (at' : Int) < (len : Int) := by omega
  have I0 := Lib.hid (Inv.refl hI)
  clear hI
  have hb0 := I0.out.c0
  have hb1 := I0.out.c1
  have hb2 := I0.out.c2
  have hf1 := I0.out.fr 1
  have hf2 := I0.out.fr 2
  go_enter Try.func51, Try.ntmps51
  go_wp2
  go_quiet (fail)
  go_wp2
  go_quiet (fail)
  go_wp2
  refine gen_world (Inv w b (.slice (some ⟨cb, co, none⟩) len cap) (.int .i64 ((at' : Int) + 1)) (.int .u64 mix) (.int .i64 size)) ((I0.out.drewN _).set1 _) (fun W1 hI1 => ?_)
  clear hb0 hb1 hb2 hf1 hf2 hcz I0
  have J0 := Lib.hid hI1
  clear hI1
  have hb2 := J0.out.c2
  have hf2 := J0.out.fr 2
  refine wp_region_still_tail 13 (by kernel_rfl) (by kernel_rfl) ?_
  change wpStill _ _ (World.drew _) (fun a' => wpList _ _ _ _ a' (World.drew _)) _ _
  simp only [List.take_succ_cons, List.take_zero, List.drop_succ_cons, List.drop_zero]
  repeat still_step
  refine wpStill_nil ?_
  go_wp2
  have HX0 := Lib.hid (xor_range mix (IntKind.u64.wrap (mix * 8192)))
  refine gen_world (Inv w b (.slice (some ⟨cb, co, none⟩) len cap) (.int .i64 ((at' : Int) + 1)) (.int .u64 (bits .xor .u64 mix (IntKind.u64.wrap (mix * 8192)))) (.int .i64 size)) ((J0.out.set2 _).drew) (fun W2 hI2 => ?_)
  generalize bits .xor .u64 mix (IntKind.u64.wrap (mix * 8192)) = mix1 at *
  have J1 := Lib.hid hI2
  clear hI2 hb2 hf2
  have hb2 := J1.out.c2
  have hf2 := J1.out.fr 2
  have g10 := HX0.out.1
  have g11 := HX0.out.2
  clear HX0 J0 hmix0 hmix1
  refine wp_region_still_tail 13 (by kernel_rfl) (by kernel_rfl) ?_
  change wpStill _ _ (World.drew _) (fun a' => wpList _ _ _ _ a' (World.drew _)) _ _
  simp only [List.take_succ_cons, List.take_zero, List.drop_succ_cons, List.drop_zero]
  repeat still_step
  refine wpStill_nil ?_
  go_wp2
  have HX1 := Lib.hid (xor_range mix1 (mix1 / 128))
  refine gen_world (Inv w b (.slice (some ⟨cb, co, none⟩) len cap) (.int .i64 ((at' : Int) + 1)) (.int .u64 (bits .xor .u64 mix1 (mix1 / 128))) (.int .i64 size)) ((J1.out.set2 _).drew) (fun W3 hI3 => ?_)
  generalize bits .xor .u64 mix1 (mix1 / 128) = mix2 at *
  have J2 := Lib.hid hI3
  clear hI3 hb2 hf2
  have hb2 := J2.out.c2
  have hf2 := J2.out.fr 2
  have g20 := HX1.out.1
  have g21 := HX1.out.2
  clear HX1 J1 g10 g11
  have HX2 := Lib.hid (xor_range mix2 (IntKind.u64.wrap (mix2 * 131072)))
  have g30 := HX2.out.1
  have g31 := HX2.out.2
  have hmr := mod_range (z + bits .xor .u64 mix2 (IntKind.u64.wrap (mix2 * 131072)) / 1048576) m hm
  have HM := Lib.hid hmr
  clear hmr
  refine wp_region_still_tail 13 (by kernel_rfl) (by kernel_rfl) ?_
  change wpStill _ _ (World.drew _) (fun a' => wpList _ _ _ _ a' (World.drew _)) _ _
  simp only [List.take_succ_cons, List.take_zero, List.drop_succ_cons, List.drop_zero]
  repeat still_step
  refine wpStill_nil ?_
  go_wp2
  go_ret
  exact ⟨(z + bits .xor .u64 mix2 (IntKind.u64.wrap (mix2 * 131072)) / 1048576) % m, at' + 1, bits .xor .u64 mix2 (IntKind.u64.wrap (mix2 * 131072)), ret_wrap HM.out hm2, HM.out.1, .inl HM.out.2, by omega, HX2.out.1, HX2.out.2, by have h := (J2.out.set2 (Value.int .u64 (bits .xor .u64 mix2 (IntKind.u64.wrap (mix2 * 131072))))).drew; rw [show ((at' + 1 : Nat) : Int) = (at' : Int) + 1 by omega]; exact h⟩

set_option maxRecDepth 100000 in
set_option maxHeartbeats 8000000 in
theorem n_past (b len cap at' : Nat) (a : Option Addr) (mix size m : Int) (w : World) (hm : 1 < m) (hm2 : m ≤ 4611686018427387904) (hat : at' ≤ len) (hge : len ≤ at') (hlen : len ≤ 1048576) (hmix0 : 0 ≤ mix) (hmix1 : mix < 18446744073709551616)
    (hI : w.heap[b]? = some (.cells #[.slice a len cap, .int .i64 at', .int .u64 mix, .int .i64 size] 101 (0, 0))) :
    Calls Try.prog 51 #[.pointer (some ⟨b, 0, none⟩), .int .i64 m] w (NPost w b a len cap size m) := by
  have hl2 : ¬ (at' : Int) < (len : Int) := by omega
  have I0 := Lib.hid (Inv.refl hI)
  clear hI
  have hb0 := I0.out.c0
  have hb1 := I0.out.c1
  have hb2 := I0.out.c2
  have hf2 := I0.out.fr 2
  go_enter Try.func51, Try.ntmps51
  go_wp2
  go_quiet (fail)
  go_wp2
  refine gen_world (Inv w b (.slice a len cap) (.int .i64 (at' : Int)) (.int .u64 mix) (.int .i64 size)) (I0.out.drewN _) (fun W1 hI1 => ?_)
  clear hb0 hb1 hb2 hf2 I0
  have J0 := Lib.hid hI1
  clear hI1
  have hb2 := J0.out.c2
  have hf2 := J0.out.fr 2
  refine wp_region_still_tail 13 (by kernel_rfl) (by kernel_rfl) ?_
  change wpStill _ _ (World.drew _) (fun a' => wpList _ _ _ _ a' (World.drew _)) _ _
  simp only [List.take_succ_cons, List.take_zero, List.drop_succ_cons, List.drop_zero]
  repeat still_step
  refine wpStill_nil ?_
  go_wp2
  have HX0 := Lib.hid (xor_range mix (IntKind.u64.wrap (mix * 8192)))
  refine gen_world (Inv w b (.slice a len cap) (.int .i64 ((at' : Int))) (.int .u64 (bits .xor .u64 mix (IntKind.u64.wrap (mix * 8192)))) (.int .i64 size)) ((J0.out.set2 _).drew) (fun W2 hI2 => ?_)
  generalize bits .xor .u64 mix (IntKind.u64.wrap (mix * 8192)) = mix1 at *
  have J1 := Lib.hid hI2
  clear hI2 hb2 hf2
  have hb2 := J1.out.c2
  have hf2 := J1.out.fr 2
  have g10 := HX0.out.1
  have g11 := HX0.out.2
  clear HX0 J0 hmix0 hmix1
  refine wp_region_still_tail 13 (by kernel_rfl) (by kernel_rfl) ?_
  change wpStill _ _ (World.drew _) (fun a' => wpList _ _ _ _ a' (World.drew _)) _ _
  simp only [List.take_succ_cons, List.take_zero, List.drop_succ_cons, List.drop_zero]
  repeat still_step
  refine wpStill_nil ?_
  go_wp2
  have HX1 := Lib.hid (xor_range mix1 (mix1 / 128))
  refine gen_world (Inv w b (.slice a len cap) (.int .i64 ((at' : Int))) (.int .u64 (bits .xor .u64 mix1 (mix1 / 128))) (.int .i64 size)) ((J1.out.set2 _).drew) (fun W3 hI3 => ?_)
  generalize bits .xor .u64 mix1 (mix1 / 128) = mix2 at *
  have J2 := Lib.hid hI3
  clear hI3 hb2 hf2
  have hb2 := J2.out.c2
  have hf2 := J2.out.fr 2
  have g20 := HX1.out.1
  have g21 := HX1.out.2
  clear HX1 J1 g10 g11
  have HX2 := Lib.hid (xor_range mix2 (IntKind.u64.wrap (mix2 * 131072)))
  have g30 := HX2.out.1
  have g31 := HX2.out.2
  have hmr := mod_range (bits .xor .u64 mix2 (IntKind.u64.wrap (mix2 * 131072)) / 1048576) m hm
  have HM := Lib.hid hmr
  clear hmr
  refine wp_region_still_tail 13 (by kernel_rfl) (by kernel_rfl) ?_
  change wpStill _ _ (World.drew _) (fun a' => wpList _ _ _ _ a' (World.drew _)) _ _
  simp only [List.take_succ_cons, List.take_zero, List.drop_succ_cons, List.drop_zero]
  repeat still_step
  refine wpStill_nil ?_
  go_wp2
  go_ret
  exact ⟨(bits .xor .u64 mix2 (IntKind.u64.wrap (mix2 * 131072)) / 1048576) % m, at', bits .xor .u64 mix2 (IntKind.u64.wrap (mix2 * 131072)), ret_wrap HM.out hm2, HM.out.1, .inl HM.out.2, by omega, HX2.out.1, HX2.out.2, (J2.out.set2 _).drew⟩

theorem n_small (b len cap at' : Nat) (a : Option Addr) (mix size m : Int) (w : World) (hm : m ≤ 1) (hat : at' ≤ len) (hmix0 : 0 ≤ mix) (hmix1 : mix < 18446744073709551616)
    (hI : w.heap[b]? = some (.cells #[.slice a len cap, .int .i64 at', .int .u64 mix, .int .i64 size] 101 (0, 0))) :
    Calls Try.prog 51 #[.pointer (some ⟨b, 0, none⟩), .int .i64 m] w (NPost w b a len cap size m) := by
  have I0 := Lib.hid (Inv.refl hI)
  clear hI
  go_enter Try.func51, Try.ntmps51
  go_wp2
  go_ret
  exact ⟨0, at', mix, rfl, by omega, .inr ⟨hm, rfl⟩, hat, hmix0, hmix1, I0.out⟩

/-- The draw of one number, whatever the source. -/
theorem n_any (B b len cap : Nat) (a : Option Addr) (m : Int) (w : World) (hm2 : m ≤ 4611686018427387904) (hB : B ≤ b) (hc : Bytes B w a len cap) (hs : IsSrc w b a len cap) :
    Calls Try.prog 51 #[.pointer (some ⟨b, 0, none⟩), .int .i64 m] w fun e w' => ∃ r : Int, e = .returned (.int .i64 r) ∧ 0 ≤ r ∧ (r < m ∨ (m ≤ 1 ∧ r = 0)) ∧ IsSrc w' b a len cap ∧ w.grownBy w' (some b) := by
  obtain ⟨at', mix, size, h1, h2, h3, h4, h5, h6⟩ := hs
  have fin : ∀ e w', NPost w b a len cap size m e w' → ∃ r : Int, e = .returned (.int .i64 r) ∧ 0 ≤ r ∧ (r < m ∨ (m ≤ 1 ∧ r = 0)) ∧ IsSrc w' b a len cap ∧ w.grownBy w' (some b) := by
    rintro e w' ⟨r, q, mx, he, g1, g2, g3, g4, g5, g6⟩
    exact ⟨r, he, g1, g2, ⟨q, mx, size, g3, g4, g5, h4, h5, g6.1⟩, g6.2⟩
  by_cases hm : 1 < m
  · by_cases hl : at' < len
    · obtain ⟨cb, co, rfl, hcb, hcz⟩ := hc.2 (by omega)
      obtain ⟨z, z0, z1, hz⟩ := hcz at' hl
      exact (n_read b len cap co cb at' mix size z m w hm hm2 hl hc.1 z0 z1 h2 h3 h6 hz).mono fin
    · exact (n_past b len cap at' a mix size m w hm hm2 h1 (by omega) hc.1 h2 h3 h6).mono fin
  · exact (n_small b len cap at' a mix size m w (by omega) h1 h2 h3 h6).mono fin
end Go.Proofs.Ytkmlnibkdcdegaa.Src
