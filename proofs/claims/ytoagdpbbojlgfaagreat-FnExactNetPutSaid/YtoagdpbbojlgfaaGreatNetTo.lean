/-
  The law's own toNet, eqNet, eqNetOut, and what they call.
-/
import Derived.Test.YtoagdpbbojlgfaaGreatNetLies
import Derived.Test.YtoagdpbbojlgfaaGreatRowTo
namespace Go.Proofs.YtoagdpbbojlgfaaGreat.Net
open Go.ChangeShapes Go.WideShapes Go.ChangeAt Go.RowKit
open Sto (R Sl Held Turned marks)
open Dep (add_block add_add)
set_option linter.unusedVariables false
set_option maxRecDepth 100000

theorem store_info : (Tryz.prog.info? 98).map (fun i => (i.zero, i.size, i.bytes)) = some (some (.slice none 0 0), 1, 24) := by kernel_rfl
theorem mail_info : (Tryz.prog.info? 141).map (fun i => (i.zero, i.size, i.bytes)) = some (some (.agg #[.int .i64 0, .int .i64 0, .slice none 0 0]), 3, 40) := by kernel_rfl

theorem take_snoc {α : Type} (l : List α) (k : Nat) (h : k < l.length) : l.take (k + 1) = l.take k ++ [l[k]] := by simp

set_option maxHeartbeats 400000 in
theorem toRowSS_any (A : Option Addr) (s : List Sl) (cap : Nat) (w : World) (h : LSs w w.heap.size A s) (hl : s.length ≤ 1048576) (hll : ∀ x ∈ s, x.l.length ≤ 1048576) :
    Calls Tryz.prog 105 #[.slice A s.length cap] w fun e w' => ∃ g s', e = .returned (.slice (some ⟨g, 0, none⟩) s'.length s'.length) ∧ ps s' = ps s ∧ w.heap.size ≤ g ∧ Bk w' g 98 s'.length (sv s') ∧ HeldL w' s' w.heap.size w'.heap.size ∧ Below w.heap.size w w' := by
  have H := Lib.hid h
  have HL := Lib.hid hll
  clear h hll
  obtain ⟨i0, hi0, hz0, hz1, hz2⟩ := info_parts store_info
  have hmk := run_make (P := Tryz.prog) w 32 98 i0 _ Tryz.underlying32 hi0 hz0 .i64 .i64 s.length s.length (by omega) (Int.le_refl _) (by rw [hz2]; omega) (by omega)
  rw [hz1] at hmk
  clear hi0 hz0 hz1 hz2
  go_enter Tryz.func105, Tryz.ntmps105
  go_wp2_with fail
  rw [Int.toNat_natCast, Nat.mul_one] at hmk
  have HO := Lib.hid (Bk.new w (Value.slice none 0 0).cells 98 s.length)
  generalize hg : w.heap.size = g at *
  go_loopw [4] (fun i wr => ∃ k : Nat, k ≤ s.length ∧ i = .int .i64 k ∧ ∃ s' : List Sl, Hid (ps s' = ps (s.take k) ∧ Bk wr g 98 s.length (sv s') ∧ HeldL wr s' g wr.heap.size ∧ Below g w wr)) (fun i _ => s.length - (intOf i).toNat)
  case atStart => exact ⟨0, by omega, rfl, [], Lib.hid ⟨rfl, HO.out, HeldL.nil _ _ _, (Below.refl _ _).alloc (by omega) _⟩⟩
  case round =>
    obtain ⟨k, hk, rfl, s', HR⟩ := hrel
    by_cases hlt : k < s.length
    · obtain ⟨ad, rfl, hb, c0, hLs⟩ := (H.out.below HR.out.2.2.2 (Nat.le_refl _)).at_ hlt
      have hxl := HL.out s[k] (List.getElem_mem hlt)
      have HT := Lib.hid (take_snoc s k hlt)
      obtain ⟨x, hx⟩ : ∃ x, s[k] = x := ⟨_, rfl⟩
      rw [hx] at c0 hLs hxl HT
      clear hx
      obtain ⟨xA, xl, xc⟩ := x
      simp only at c0 hLs hxl
      have HC := Lib.hid (Sto.toRowS_any xA xl xc wr (hLs.more (by have := HR.out.2.2.2.size; omega)) hxl)
      unfold Sto.slV at HC
      clear hLs
      go_wp2_with fail
      refine HC.out.mono ?_
      rintro e w1 ⟨g1, rfl, hg1, ho1, hb1⟩
      have hbk := HR.out.2.1.on hb1
      have hlen : s'.length = k := by have := congrArg List.length HR.out.1; simpa [ps_len, Nat.min_eq_left hk] using this
      obtain ⟨u0, e0⟩ := hbk.cell (j := k) hlt
      have f0 := hbk.free k
      have HN := Lib.hid (show HeldL w1 (s' ++ [⟨some ⟨g1, 0, none⟩, xl, xl.length⟩]) g w1.heap.size from (HR.out.2.2.1.step hb1 (.inr (Nat.le_refl _))).snoc (HeldX.of (Sto.Held.of_row ho1 (Nat.le_refl _) hg1)) (by have := HR.out.2.1.lt; omega) (Nat.le_refl _) hb1.size)
      have HB := Lib.hid (HR.out.2.2.2.trans (hb1.mono (by have := HR.out.2.2.2.size; omega)))
      have HBK := Lib.hid (hbk.put (k := k) (by rw [sv_len]; exact hlen) hlt (.slice (some ⟨g1, 0, none⟩) xl.length xl.length))
      have HP := Lib.hid HR.out.1
      have HBK0 := Lib.hid hbk
      clear hbk hb1 ho1 c0
      go_wp2_with fail
      go_roundw
      case rel =>
        refine ⟨k + 1, by omega, by go_num, s' ++ [⟨some ⟨g1, 0, none⟩, xl, xl.length⟩], Lib.hid ⟨?_, ?_, ?_, HB.out.setCell (Nat.le_refl _) _⟩⟩
        · rw [HT.out]; simp only [ps, List.map_append]; have := HP.out; unfold ps at this; rw [this]; rfl
        · rw [sv_append]; exact HBK.out
        · rw [World.size_setCell]
          exact HN.out.set HBK0.out (by decide) k _
      case measure => simp [intOf]; omega
    · go_wp2_with fail
      go_ret
      have e1 := HR.out.1
      rw [List.take_of_length_le (by omega)] at e1
      have e2 : s'.length = s.length := by have := congrArg List.length e1; simpa [ps_len] using this
      exact ⟨g, s', by rw [e2]; rfl, e1, by omega, by rw [e2]; exact HR.out.2.1, hg ▸ HR.out.2.2.1, hg ▸ HR.out.2.2.2⟩

theorem blk3 {W : World} {b t : Nat} {u0 u1 u2 : Value} (h : Blk W b t #[u0, u1, u2]) : W.cell? ⟨b, 0, none⟩ = some u0 ∧ W.cell? ⟨b, 1, none⟩ = some u1 ∧ W.cell? ⟨b, 2, none⟩ = some u2 := ⟨h.cell 0, h.cell 1, h.cell 2⟩
theorem blk2 {W : World} {b t : Nat} {u0 u1 : Value} (h : Blk W b t #[u0, u1]) : W.cell? ⟨b, 0, none⟩ = some u0 ∧ W.cell? ⟨b, 1, none⟩ = some u1 := ⟨h.cell 0, h.cell 1⟩

theorem own_other {w : World} {g n : Nat} {l : List R} (h : Sto.Own w g n l) {p : Addr} (hne : g ≠ p.block) (u : Value) : Sto.Own (w.setCell p u) g n l := by
  obtain ⟨cs, h, h2⟩ := h
  exact ⟨cs, (heap_setCell_other w p g u hne).trans h, h2⟩

theorem toMail_any (f t : Int) (A : Option Addr) (l : List R) (c : Nat) (w : World) (h : Sto.Lies w w.heap.size A l) (hl : l.length ≤ 1048576) :
    Calls Tryz.prog 208 #[.agg #[.int .i64 f, .int .i64 t, .slice A l.length c]] w fun e w' => ∃ g, e = .returned (.agg #[.int .i64 f, .int .i64 t, .slice (some ⟨g, 0, none⟩) l.length l.length]) ∧ w.heap.size ≤ g ∧ Sto.Own w' g l.length l ∧ Below w.heap.size w w' := by
  have HC := Lib.hid (fun W (hW : Below w.heap.size w W) => Sto.toRowS_any A l c W ((h.below hW (Nat.le_refl _)).more hW.size) hl)
  unfold Sto.slV at HC
  clear h
  have B0 := (((Below.refl w.heap.size w).alloc (Nat.le_refl _) (Obj.cells #[.int .i64 f, .int .i64 t, .slice A l.length c] 205)).alloc (by simp) (Obj.cells #[.int .i64 0, .int .i64 0, .slice none 0 0] 141)).alloc (by simp; omega) (Obj.cells #[.int .i64 f, .int .i64 t, .slice none 0 0] 141)
  go_enter Tryz.func208, Tryz.ntmps208
  go_wp2_with fail
  refine (HC.out _ B0).mono ?_
  rintro x w1 ⟨g, rfl, hg, ho, hb⟩
  have p := (((Blk.new w 205 #[.int .i64 f, .int .i64 t, .slice A l.length c]).alloc (Obj.cells #[.int .i64 0, .int .i64 0, .slice none 0 0] 141)).alloc (Obj.cells #[.int .i64 f, .int .i64 t, .slice none 0 0] 141)).step hb (by simp; omega)
  have r := (Blk.new (World.alloc (World.alloc w (Obj.cells #[.int .i64 f, .int .i64 t, .slice A l.length c] 205)) (Obj.cells #[.int .i64 0, .int .i64 0, .slice none 0 0] 141)) 141 #[.int .i64 f, .int .i64 t, .slice none 0 0]).step hb (by simp)
  have q := ((Blk.new (World.alloc w (Obj.cells #[.int .i64 f, .int .i64 t, .slice A l.length c] 205)) 141 #[.int .i64 0, .int .i64 0, .slice none 0 0]).alloc (Obj.cells #[.int .i64 f, .int .i64 t, .slice none 0 0] 141)).step hb (by simp)
  simp only [World.size_alloc] at p q r hg
  have B1 := Lib.hid (B0.trans (hb.mono (by simp; omega)))
  have HO := Lib.hid ho
  obtain ⟨p0, p1, p2⟩ := blk3 p
  obtain ⟨r0, r1, r2⟩ := blk3 r
  obtain ⟨q0, q1, q2⟩ := blk3 q
  have f0 := r.free 0
  have f1 := r.free 1
  have f2 := r.free 2
  have g0 := q.free 0
  have g1 := q.free 1
  have g2 := q.free 2
  clear hb r q p B0 ho
  go_wp2_with fail
  refine bodyPost_ret (v := .agg #[.int .i64 f, .int .i64 t, .slice (some ⟨g, 0, none⟩) l.length l.length]) (by simp [results, Tryz.results208, go_sem, q0, q1, q2]) rfl ⟨g, rfl, by omega, ?_, ?_⟩
  · exact own_other (own_other (own_other (own_other HO.out (by show g ≠ w.heap.size + 2; omega) _) (by show g ≠ w.heap.size + 1; omega) _) (by show g ≠ w.heap.size + 1; omega) _) (by show g ≠ w.heap.size + 1; omega) _
  · exact ((((B1.out.setCell (by simp; omega) _).setCell (by simp) _).setCell (by simp) _).setCell (by simp) _)

set_option maxHeartbeats 400000 in
theorem toMailS_any (A : Option Addr) (s : List Ml) (cap : Nat) (w : World) (h : LMs w w.heap.size A s) (hl : s.length ≤ 1048576) (hll : ∀ y ∈ s, y.x.l.length ≤ 1048576) :
    Calls Tryz.prog 106 #[.slice A s.length cap] w fun e w' => ∃ g s', e = .returned (.slice (some ⟨g, 0, none⟩) s'.length s'.length) ∧ pm s' = pm s ∧ w.heap.size ≤ g ∧ Bk w' g 141 (s'.length * 3) (mv s') ∧ HeldL w' (s'.map (·.x)) w.heap.size w'.heap.size ∧ Below w.heap.size w w' := by
  have H := Lib.hid h
  have HL := Lib.hid hll
  clear h hll
  obtain ⟨i0, hi0, hz0, hz1, hz2⟩ := info_parts mail_info
  have hmk := run_make (P := Tryz.prog) w 33 141 i0 _ Tryz.underlying33 hi0 hz0 .i64 .i64 s.length s.length (by omega) (Int.le_refl _) (by rw [hz2]; omega) (by omega)
  rw [hz1] at hmk
  clear hi0 hz0 hz1 hz2
  go_enter Tryz.func106, Tryz.ntmps106
  go_wp2_with fail
  rw [Int.toNat_natCast] at hmk
  have HO := Lib.hid (Bk.new w (Value.agg #[.int .i64 0, .int .i64 0, .slice none 0 0]).cells 141 (s.length * 3))
  generalize hg : w.heap.size = g at *
  go_loopw [4] (fun i wr => ∃ k : Nat, k ≤ s.length ∧ i = .int .i64 k ∧ ∃ s' : List Ml, Hid (pm s' = pm (s.take k) ∧ Bk wr g 141 (s.length * 3) (mv s') ∧ HeldL wr (s'.map (·.x)) g wr.heap.size ∧ Below g w wr)) (fun i _ => s.length - (intOf i).toNat)
  case atStart => exact ⟨0, by omega, rfl, [], Lib.hid ⟨rfl, HO.out, HeldL.nil _ _ _, (Below.refl _ _).alloc (by omega) _⟩⟩
  case round =>
    obtain ⟨k, hk, rfl, s', HR⟩ := hrel
    by_cases hlt : k < s.length
    · obtain ⟨ad, rfl, hb, ⟨c0, c1, c2⟩, hLs⟩ := (H.out.below HR.out.2.2.2 (Nat.le_refl _)).at_ hlt
      have hxl := HL.out s[k] (List.getElem_mem hlt)
      have HT := Lib.hid (take_snoc s k hlt)
      obtain ⟨x, hx⟩ : ∃ x, s[k] = x := ⟨_, rfl⟩
      rw [hx] at c0 c1 c2 hLs hxl HT
      clear hx
      obtain ⟨yf, yt, xA, xl, xc⟩ := x
      simp only at c0 c1 c2 hLs hxl
      have HC := Lib.hid (toMail_any yf yt xA xl xc wr (hLs.more (by have := HR.out.2.2.2.size; omega)) hxl)
      clear hLs
      go_wp2_with fail
      refine HC.out.mono ?_
      rintro e w1 ⟨g1, rfl, hg1, ho1, hb1⟩
      have hbk := HR.out.2.1.on hb1
      have hlen : s'.length = k := by have := congrArg List.length HR.out.1; simpa [pm_len, Nat.min_eq_left hk] using this
      obtain ⟨u0, e0⟩ := hbk.cell (j := k * 3) (by omega)
      obtain ⟨u1, e1⟩ := hbk.cell (j := k * 3 + 1) (by omega)
      obtain ⟨u2, e2⟩ := hbk.cell (j := k * 3 + 2) (by omega)
      have f0 := hbk.free (k * 3)
      have f1 := hbk.free (k * 3 + 1)
      have f2 := hbk.free (k * 3 + 2)
      have HN := Lib.hid (show HeldL w1 ((s' ++ [(⟨yf, yt, ⟨some ⟨g1, 0, none⟩, xl, xl.length⟩⟩ : Ml)]).map (fun y : Ml => y.x)) g w1.heap.size from by rw [List.map_append]; exact (HR.out.2.2.1.step hb1 (.inr (Nat.le_refl _))).snoc (HeldX.of (Sto.Held.of_row ho1 (Nat.le_refl _) hg1)) (by have := HR.out.2.1.lt; omega) (Nat.le_refl _) hb1.size)
      have HB := Lib.hid (HR.out.2.2.2.trans (hb1.mono (by have := HR.out.2.2.2.size; omega)))
      have h1 := hbk.put (k := k * 3) (by rw [mv_len, hlen]) (by omega) (.int .i64 yf)
      have h2 := h1.put (k := k * 3 + 1) (by simp [mv_len, hlen]) (by omega) (.int .i64 yt)
      have h3 := h2.put (k := k * 3 + 2) (by simp [mv_len, hlen]) (by omega) (.slice (some ⟨g1, 0, none⟩) xl.length xl.length)
      have HP := Lib.hid HR.out.1
      have HBK0 := Lib.hid hbk
      have HBK1 := Lib.hid h1
      have HBK2 := Lib.hid h2
      have HBK3 := Lib.hid h3
      clear hbk hb1 ho1 c0 c1 c2 h1 h2 h3 hlen
      go_wp2_with fail
      go_roundw
      case rel =>
        refine ⟨k + 1, by omega, by go_num, s' ++ [⟨yf, yt, ⟨some ⟨g1, 0, none⟩, xl, xl.length⟩⟩], Lib.hid ⟨?_, ?_, ?_, ((HB.out.setCell (Nat.le_refl _) _).setCell (Nat.le_refl _) _).setCell (Nat.le_refl _) _⟩⟩
        · rw [HT.out]; simp only [pm, List.map_append]; have := HP.out; unfold pm at this; rw [this]; rfl
        · rw [mv_append]; have := HBK3.out; simpa [mv, sval] using this
        · rw [World.size_setCell, World.size_setCell, World.size_setCell]
          exact ((HN.out.set HBK0.out (by decide) _ _).set HBK1.out (by decide) _ _).set HBK2.out (by decide) _ _
      case measure => simp [intOf]; omega
    · go_wp2_with fail
      go_ret
      have e1 := HR.out.1
      rw [List.take_of_length_le (by omega)] at e1
      have e2 : s'.length = s.length := by have := congrArg List.length e1; simpa [pm_len] using this
      exact ⟨g, s', by rw [e2]; rfl, e1, by omega, by rw [e2]; exact HR.out.2.1, hg ▸ HR.out.2.2.1, hg ▸ HR.out.2.2.2⟩

/-- What a net tells. -/
def pl (n : Nt) : List (List R) × List Pm := (ps n.s, pm n.m)

theorem heldL_append {w : World} {xs ys : List Sl} {a b c d : Nat} (h : HeldL w xs a b) (k : HeldL w ys c d) (hbc : b ≤ c) (hcd : c ≤ d) (hac : a ≤ c) : HeldL w (xs ++ ys) a d := by
  refine ⟨fun x hx => ?_, List.pairwise_append.2 ⟨h.apart, k.apart, fun x hx y hy => ?_⟩⟩
  · rcases List.mem_append.1 hx with hx | hx
    · exact (h.each x hx).wide (Nat.le_refl _) (by omega)
    · exact (k.each x hx).wide hac (Nat.le_refl _)
  · rcases (h.each x hx).2 with e | e
    · left; omega
    · rcases (k.each y hy).2 with e2 | e2
      · right; omega
      · left; omega

set_option maxHeartbeats 400000 in
theorem toNet_any (n : Nt) (w : World) (h : NLies w w.heap.size n) (h1 : n.s.length ≤ 1048576) (h2 : n.m.length ≤ 1048576) (hll : ∀ x ∈ n.all, x.l.length ≤ 1048576) :
    Calls Tryz.prog 16 #[n.val] w fun e w' => ∃ n', e = .returned n'.val ∧ pl n' = pl n ∧ HeldN w' n' w.heap.size w'.heap.size ∧ Below w.heap.size w w' := by
  obtain ⟨A, s, ca, B, m, cb⟩ := n
  have HS := Lib.hid (fun W (hW : Below w.heap.size w W) => toRowSS_any A s ca W ((h.1.below hW (Nat.le_refl _)).more hW.size) h1 (fun x hx => hll x (List.mem_append_left _ hx)))
  have HM := Lib.hid (fun W (hW : Below w.heap.size w W) => toMailS_any B m cb W ((h.2.below hW (Nat.le_refl _)).more hW.size) h2 (fun y hy => hll y.x (List.mem_append_right _ (List.mem_map.2 ⟨y, hy, rfl⟩))))
  clear h hll h1 h2
  unfold Nt.val
  have B0 := (((Below.refl w.heap.size w).alloc (Nat.le_refl _) (Obj.cells #[.slice A s.length ca, .slice B m.length cb] 25)).alloc (by simp) (Obj.cells #[.slice none 0 0, .slice none 0 0] 35)).alloc (by simp; omega) (Obj.cells #[.slice none 0 0, .slice none 0 0] 35)
  have p := (((Blk.new w 25 #[.slice A s.length ca, .slice B m.length cb]).alloc (Obj.cells #[.slice none 0 0, .slice none 0 0] 35)).alloc (Obj.cells #[.slice none 0 0, .slice none 0 0] 35))
  have r := (Blk.new (World.alloc (World.alloc w (Obj.cells #[.slice A s.length ca, .slice B m.length cb] 25)) (Obj.cells #[.slice none 0 0, .slice none 0 0] 35)) 35 #[.slice none 0 0, .slice none 0 0])
  have q := ((Blk.new (World.alloc w (Obj.cells #[.slice A s.length ca, .slice B m.length cb] 25)) 35 #[.slice none 0 0, .slice none 0 0]).alloc (Obj.cells #[.slice none 0 0, .slice none 0 0] 35))
  simp only [World.size_alloc] at p q r
  have hz := (show w.heap.size + 3 = (World.alloc (World.alloc (World.alloc w (Obj.cells #[.slice A s.length ca, .slice B m.length cb] 25)) (Obj.cells #[.slice none 0 0, .slice none 0 0] 35)) (Obj.cells #[.slice none 0 0, .slice none 0 0] 35)).heap.size by simp)
  go_enter Tryz.func16, Tryz.ntmps16
  go_wp2_with fail
  refine (HS.out _ B0).mono ?_
  rintro x w1 ⟨g, s', rfl, hps, hg, hbk, hhl, hb⟩
  rw [← hz] at hg hhl
  have P := Lib.hid (p.step hb (by omega))
  have Q := Lib.hid (q.step hb (by omega))
  have r1 := r.step hb (by omega)
  have B1 := Lib.hid (B0.trans (hb.mono (by omega)))
  have HBK := Lib.hid hbk
  have HHL := Lib.hid hhl
  have HPS := Lib.hid hps
  have hz1 := hb.size
  have hgl := hbk.lt
  clear hb hbk hhl hps p q r B0
  obtain ⟨p0, p1⟩ := blk2 P.out
  obtain ⟨r0, r1'⟩ := blk2 r1
  have f0 := r1.free 0
  have R1 := Lib.hid (r1.set 0 (.slice (some ⟨g, 0, none⟩) s'.length s'.length) rfl)
  have RN := Lib.hid r1
  clear r1
  go_wp2_with fail
  clear p0 p1 r0 r1' f0
  have B2 := B1.out.setCell (p := ⟨w.heap.size + 2, 0, none⟩) (by show w.heap.size ≤ w.heap.size + 2; omega) (.slice (some ⟨g, 0, none⟩) s'.length s'.length)
  refine (HM.out _ B2).mono ?_
  rintro x w2 ⟨g2, m', rfl, hpm, hg2, hbk2, hhl2, hb⟩
  rw [World.size_setCell] at hg2 hhl2
  have Q2 := ((Q.out.other (p := ⟨w.heap.size + 2, 0, none⟩) (by show w.heap.size + 1 ≠ w.heap.size + 2; omega) (.slice (some ⟨g, 0, none⟩) s'.length s'.length)).step hb (by rw [World.size_setCell]; omega))
  have P2 := ((P.out.other (p := ⟨w.heap.size + 2, 0, none⟩) (by show w.heap.size ≠ w.heap.size + 2; omega) (.slice (some ⟨g, 0, none⟩) s'.length s'.length)).step hb (by rw [World.size_setCell]; omega))
  have R2 := (R1.out.step hb (by rw [World.size_setCell]; omega))
  have B3 := Lib.hid (B2.trans (hb.mono (by rw [World.size_setCell]; omega)))
  have HBK1 := Lib.hid ((HBK.out.same (heap_setCell_other w1 ⟨w.heap.size + 2, 0, none⟩ g (.slice (some ⟨g, 0, none⟩) s'.length s'.length) (by show g ≠ w.heap.size + 2; omega))).step hb (by rw [World.size_setCell]; omega))
  have hz2 := hb.size
  rw [World.size_setCell] at hz2
  have HHL1 := Lib.hid ((HHL.out.types (w' := w1.setCell ⟨w.heap.size + 2, 0, none⟩ (.slice (some ⟨g, 0, none⟩) s'.length s'.length)) fun k cs hc => heap_setCell_other w1 _ k _ fun e => by
      rw [show k = w.heap.size + 2 from e, show w1.heap[w.heap.size + 2]? = _ from RN.out] at hc
      injection hc with hc
      injection hc with _ h5
      exact absurd h5 (by decide)).step hb (.inr (by rw [World.size_setCell]; omega)))
  have HBK2 := Lib.hid hbk2
  have HHL2 := Lib.hid hhl2
  have HPM := Lib.hid hpm
  have hgl2 := hbk2.lt
  clear hb hbk2 hhl2 hpm B2
  obtain ⟨p0, p1⟩ := blk2 P2
  obtain ⟨r0, r1⟩ := blk2 R2
  obtain ⟨q0, q1⟩ := blk2 Q2
  have f1 := R2.free 1
  have k0 := Q2.free 0
  have k1 := Q2.free 1
  have HQ := Lib.hid Q2
  clear P2 R2 Q2
  go_wp2_with fail
  refine bodyPost_ret (v := (⟨some ⟨g, 0, none⟩, s', s'.length, some ⟨g2, 0, none⟩, m', m'.length⟩ : Nt).val) (by simp [results, Tryz.results16, go_sem, Nt.val, q0, q1]) rfl ⟨_, rfl, ?_, ?_, ?_⟩
  · unfold pl; rw [HPS.out, HPM.out]
  · have hN : HeldN w2 ⟨some ⟨g, 0, none⟩, s', s'.length, some ⟨g2, 0, none⟩, m', m'.length⟩ (w.heap.size + 3) w2.heap.size :=
      ⟨HeldV.of_bk HBK1.out hg (by omega), HeldV.of_bk HBK2.out (by omega) hgl2, heldL_append HHL1.out HHL2.out (Nat.le_refl _) hz2 (by omega)⟩
    have hA := (((Above.refl (w.heap.size + 3) w2).set (p := ⟨w.heap.size + 2, 1, none⟩) (by show w.heap.size + 2 < _; omega) (.slice (some ⟨g2, 0, none⟩) m'.length m'.length)).set (p := ⟨w.heap.size + 1, 0, none⟩) (by show w.heap.size + 1 < _; omega) (.slice (some ⟨g, 0, none⟩) s'.length s'.length)).set (p := ⟨w.heap.size + 1, 1, none⟩) (by show w.heap.size + 1 < _; omega) (.slice (some ⟨g2, 0, none⟩) m'.length m'.length)
    have := (hN.above hA).wide (a' := w.heap.size) (b' := w2.heap.size) (by omega) (Nat.le_refl _)
    simpa using this
  · exact ((B3.out.setCell (p := ⟨w.heap.size + 2, 1, none⟩) (by show w.heap.size ≤ w.heap.size + 2; omega) _).setCell (p := ⟨w.heap.size + 1, 0, none⟩) (by show w.heap.size ≤ w.heap.size + 1; omega) _).setCell (p := ⟨w.heap.size + 1, 1, none⟩) (by show w.heap.size ≤ w.heap.size + 1; omega) _
end Go.Proofs.YtoagdpbbojlgfaaGreat.Net
