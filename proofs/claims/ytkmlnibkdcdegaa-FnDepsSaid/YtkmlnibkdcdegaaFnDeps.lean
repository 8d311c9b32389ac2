/-
  The Go law FnDeps answers true for all bytes: what is joined covers both, and is covered by whatever covers both; it does not ask which is first; put again nothing is new.
-/
import Derived.Test.YtkmlnibkdcdegaaFnDepsM
import Derived.Test.YtkmlnibkdcdegaaDepLw
import Derived.Test.YtkmlnibkdcdegaaDrawDD
import Derived.Test.YtkmlnibkdcdegaaDepIJoin
import Derived.Test.YtkmlnibkdcdegaaDepIPut
import Derived.Test.YtkmlnibkdcdegaaDepOutP
import Derived.Test.YtkmlnibkdcdegaaDepICov
import Derived.Test.YtkmlnibkdcdegaaDepIOf2
import Derived.Test.YtkmlnibkdcdegaaDepMarkOut
import Derived.Deep.RegionHeld3
import Derived.Deep.DeepCutAuto
namespace Go.Proofs.Ytkmlnibkdcdegaa.Dep
open Go.ChangeShapes Go.WideShapes Go.ChangeAt Go.RowKit
set_option linter.unusedVariables false
set_option maxRecDepth 100000
set_option linter.unusedSimpArgs false

def IsRow (k : IntKind) (w : World) (a : Option Addr) (len cap : Nat) (zs : List Int) : Prop :=
  (a = none ∧ len = 0 ∧ cap = 0 ∧ zs = []) ∨
  ∃ x, a = some x ∧ len ≤ cap ∧ cap ≤ maxLen ∧ zs.length = cap ∧ (∀ i, i < zs.length → w.cell? (x.add i) = some (.int k (zs.getD i 0))) ∧ ∀ n ∈ zs, (Lit.int k n).wf = true
theorem bytes_of_row {w : World} {a : Option Addr} {len cap : Nat} {zs : List Int} (h : IsRow .u8 w a len cap zs) (hl : len ≤ 1048576) : Src.Bytes w.heap.size w a len cap := by
  refine ⟨hl, fun hp => ?_⟩
  rcases h with ⟨rfl, rfl, _, _⟩ | ⟨x, rfl, h1, h2, h3, h4, h5⟩
  · omega
  · obtain ⟨cb, co, rfl, hc⟩ := ints_at h4 (by omega)
    refine ⟨cb, co, rfl, World.block_lt_of_cell? w ⟨cb, co + 0, none⟩ (hc 0 (by omega)), fun i hi => ?_⟩
    have hr := range_u8 h5 i
    exact ⟨_, hr.1, hr.2, hc i (by omega)⟩
theorem val_mk (x y z : Int) : (⟨x, y, z⟩ : I).val = .agg #[.int .i64 x, .int .i64 y, .int .i64 z] := rfl

/-- What the law has in hand: three boxes, seven lists. -/
structure Env (w : World) (bj bp bi : Nat) (Aj Ap : Option Addr) (r s : List D) (cj cp : Nat) (jc pc xc xs xe : Int) (A1 A2 A3 A4 A5 : Addr) (a b l c d : List D) (W : World) : Prop where
  j : ORow W bj (.slice Aj r.length cj) jc
  p : ORow W bp (.slice Ap s.length cp) pc
  i : Id.IdRow W bi 30 xc xs xe
  lj : Lies W W.heap.size Aj r
  lp : Lies W W.heap.size Ap s
  la : Lies W W.heap.size (some A1) a
  lb : Lies W W.heap.size (some A2) b
  ll : Lies W W.heap.size (some A3) l
  lc : Lies W W.heap.size (some A4) c
  ld : Lies W W.heap.size (some A5) d
  bw : Below w.heap.size w W
theorem Env.step {w : World} {bj bp bi : Nat} {Aj Ap : Option Addr} {r s : List D} {cj cp : Nat} {jc pc xc xs xe : Int} {A1 A2 A3 A4 A5 : Addr} {a b l c d : List D} {W W' : World} (h : Env w bj bp bi Aj Ap r s cj cp jc pc xc xs xe A1 A2 A3 A4 A5 a b l c d W) (hb : Below W.heap.size W W') : Env w bj bp bi Aj Ap r s cj cp jc pc xc xs xe A1 A2 A3 A4 A5 a b l c d W' :=
  ⟨h.j.step hb h.j.lt, h.p.step hb h.p.lt, Id.IdRow.step h.i hb (Id.IdRow.lt h.i), (h.lj.below hb (Nat.le_refl _)).more hb.size, (h.lp.below hb (Nat.le_refl _)).more hb.size, (h.la.below hb (Nat.le_refl _)).more hb.size, (h.lb.below hb (Nat.le_refl _)).more hb.size,
   (h.ll.below hb (Nat.le_refl _)).more hb.size, (h.lc.below hb (Nat.le_refl _)).more hb.size, (h.ld.below hb (Nat.le_refl _)).more hb.size, h.bw.trans (hb.mono h.bw.size)⟩

set_option maxRecDepth 100000 in
set_option maxHeartbeats 20000000 in
theorem lawDeps (a0 : Option Addr) (len0 cap0 : Nat) (z0 : List Int) (a1 : Option Addr) (len1 cap1 : Nat) (z1 : List Int) (w : World) (w0 : IsRow .u8 w a0 len0 cap0 z0) (w1 : IsRow .u8 w a1 len1 cap1 z1) :
    Calls Try.prog 3 #[.slice a0 len0 cap0, .slice a1 len1 cap1] w fun e w' => e = .returned (.bool true) ∧ Below w.heap.size w w' := by
  by_cases hl0 : 1048576 < len0
  · have h : (1048576 : Int) < (len0 : Int) := by omega
    clear w0 w1
    go_enter Try.func3, Try.ntmps3
    go_wp2_with fail
    go_ret
    exact ⟨rfl, Below.refl _ _⟩
  by_cases hl1 : 1048576 < len1
  · have h : (1048576 : Int) < (len1 : Int) := by omega
    have h0 : ¬ (1048576 : Int) < (len0 : Int) := by omega
    clear w0 w1
    go_enter Try.func3, Try.ntmps3
    go_wp2_with fail
    go_ret
    exact ⟨rfl, Below.refl _ _⟩
  have h0 : ¬ (1048576 : Int) < (len0 : Int) := by omega
  have h1 : ¬ (1048576 : Int) < (len1 : Int) := by omega
  have HB0 := Lib.hid (bytes_of_row w0 (by omega))
  have HB1 := Lib.hid (bytes_of_row w1 (by omega))
  clear w0 w1 hl0 hl1
  go_enter Try.func3, Try.ntmps3
  go_wp2_with fail
  refine (Src.drawJoin_any a0 len0 cap0 w HB0.out).mono ?_
  rintro e v1 ⟨A1, a, ca, A2, b, cb, rfl, hda, hdb, hb⟩
  have da := Lib.hid hda
  have db := Lib.hid hdb
  have bw := Lib.hid hb
  clear hda hdb hb HB0
  have ha8 : a.length ≤ 8 := da.out.2.2.2.1
  have hac : a.length ≤ ca := da.out.1
  have ham : ca ≤ maxLen := da.out.2.1
  have hal : a.length ≤ maxLen := Nat.le_trans hac ham
  have KA := Lib.hid (fun z (hz : z ∈ a) => Nat.le_trans (da.out.2.2.2.2 z hz) (by decide : 5 ≤ maxLen))
  have hb8 : b.length ≤ 8 := db.out.2.2.2.1
  have hbc : b.length ≤ cb := db.out.1
  have hbm : cb ≤ maxLen := db.out.2.1
  have hbl : b.length ≤ maxLen := Nat.le_trans hbc hbm
  have KB := Lib.hid (fun z (hz : z ∈ b) => Nat.le_trans (db.out.2.2.2.2 z hz) (by decide : 5 ≤ maxLen))
  obtain ⟨r, hr⟩ : ∃ r, joinR a b = r := ⟨_, rfl⟩
  obtain ⟨jc, hj⟩ : ∃ jc, joinC a b = jc := ⟨_, rfl⟩
  have HR := Lib.hid hr
  have HJ := Lib.hid hj
  have MJl : r.length ≤ 6 := by rw [← hr]; exact joinR_len a b
  have MJk := Lib.hid (show ∀ z ∈ r, z.k.size ≤ maxLen by rw [← hr]; exact joinR_keys a b)
  have MJ0 := Lib.hid (show jc = 0 → depsB r = true from fun h => by rw [← hr]; exact joinR_right (hj.trans h))
  have MJc := Lib.hid (show jc = 0 → joinC b a = 0 ∧ joinR b a = r from fun h => by rw [← hr]; exact joinC_comm (hj.trans h))
  have MJa := Lib.hid (show jc = 0 → joinC r a = 0 ∧ joinR r a = r from fun h => by rw [← hr]; exact joinC_again (hj.trans h))
  have MJ1 := Lib.hid (show jc = 0 → covB r a = true from fun h => by rw [← hr]; exact cov_left (hj.trans h))
  have MJ2 := Lib.hid (show jc = 0 → covB r b = true from fun h => by rw [← hr]; exact cov_right (hj.trans h))
  have MJ3 := Lib.hid (show ∀ c, jc = 0 → covB c a = true → covB c b = true → covB c r = true from fun c h g1 g2 => by rw [← hr]; exact cov_join (hj.trans h) g1 g2)
  clear hr hj
  unfold slV
  go_wp2_with fail
  refine (implJoinOut_any (some A1) (some A2) a b ca cb v1 da.out.2.2.1 db.out.2.2.1 hal hbl KA.out KB.out).mono ?_
  rintro e v2 hans
  rw [HR.out, HJ.out] at hans
  obtain ⟨Aj, cj, rfl, _, _, hL, hb⟩ := hans
  replace da := Lib.hid (da.out.below hb)
  replace db := Lib.hid (db.out.below hb)
  replace bw := Lib.hid (bw.out.trans (hb.mono bw.out.size))
  have lj := Lib.hid hL
  clear hL hb
  unfold outV slV
  go_wp2_with fail
  have hb := (Below.refl v2.heap.size v2).alloc (Nat.le_refl _) (Obj.cells #[Value.slice Aj r.length cj, Value.int IntKind.i64 jc] 27)
  replace da := Lib.hid (da.out.below hb)
  replace db := Lib.hid (db.out.below hb)
  replace bw := Lib.hid (bw.out.trans (hb.mono bw.out.size))
  replace lj := Lib.hid ((lj.out.below hb (Nat.le_refl _)).more hb.size)
  have bxj := Lib.hid (ORow.new v2 (.slice Aj r.length cj) jc)
  clear hb
  generalize World.alloc v2 _ = v3 at da db bw lj bxj ⊢
  generalize v2.heap.size = bj at *
  refine (Src.drawPut_any a1 len1 cap1 v3 (by
    have h5 := HB1.out.below bw.out
    exact ⟨h5.1, fun hp => by
      obtain ⟨cb, co, e1, e2, e3⟩ := h5.2 hp
      exact ⟨cb, co, e1, by have := bw.out.size; omega, e3⟩⟩)).mono ?_
  rintro e v4 ⟨A3, l, cl, q, x, rfl, hdl, hq5, hb⟩
  replace da := Lib.hid (da.out.below hb)
  replace db := Lib.hid (db.out.below hb)
  replace bw := Lib.hid (bw.out.trans (hb.mono bw.out.size))
  replace lj := Lib.hid ((lj.out.below hb (Nat.le_refl _)).more hb.size)
  replace bxj := Lib.hid (bxj.out.step hb bxj.out.lt)
  have dl := Lib.hid hdl
  obtain ⟨xc, xs, xe⟩ := x
  clear hdl hb
  have hl8 : l.length ≤ 8 := dl.out.2.2.2.1
  have hlc : l.length ≤ cl := dl.out.1
  have hlm : cl ≤ maxLen := dl.out.2.1
  have hll : l.length ≤ maxLen := Nat.le_trans hlc hlm
  have KL := Lib.hid (fun z (hz : z ∈ l) => Nat.le_trans (dl.out.2.2.2.2 z hz) (by decide : 5 ≤ maxLen))
  have hqm := Lib.hid (Nat.le_trans hq5 (by decide : 5 ≤ maxLen))
  clear hq5
  obtain ⟨s, hs⟩ : ∃ s, putR l q ⟨xc, xs, xe⟩ = s := ⟨_, rfl⟩
  obtain ⟨pc, hp⟩ : ∃ pc, putC l q ⟨xc, xs, xe⟩ = pc := ⟨_, rfl⟩
  have HS := Lib.hid hs
  have HP := Lib.hid hp
  have MPl : s.length ≤ 6 := by rw [← hs]; exact putR_len l q _
  have MPk := Lib.hid (show ∀ z ∈ s, z.k.size ≤ maxLen by rw [← hs]; exact putR_keys l q _)
  have MP0 := Lib.hid (show pc = 0 → depsB s = true from fun h => by rw [← hs]; exact putR_right (hp.trans h))
  have MPa := Lib.hid (show pc = 0 → putC s q ⟨xc, xs, xe⟩ = 0 ∧ putR s q ⟨xc, xs, xe⟩ = s from fun h => by rw [← hs]; exact putC_again (hp.trans h))
  have MPn := Lib.hid (show pc = 0 → (depOf s q).less ⟨xc, xs, xe⟩ = false from fun h => by rw [← hs]; exact put_not_less (hp.trans h))
  clear hs hp
  rw [val_mk]
  unfold slV
  go_wp2_with fail
  have hb := (Below.refl v4.heap.size v4).alloc (Nat.le_refl _) (Obj.cells #[Value.int IntKind.i64 xc, Value.int IntKind.i64 xs, Value.int IntKind.i64 xe] 30)
  replace da := Lib.hid (da.out.below hb)
  replace db := Lib.hid (db.out.below hb)
  replace bw := Lib.hid (bw.out.trans (hb.mono bw.out.size))
  replace lj := Lib.hid ((lj.out.below hb (Nat.le_refl _)).more hb.size)
  replace bxj := Lib.hid (bxj.out.step hb bxj.out.lt)
  replace dl := Lib.hid (dl.out.below hb)
  have bxi := Lib.hid (Id.IdRow.new v4 30 xc xs xe)
  clear hb
  generalize World.alloc v4 _ = v5 at da db bw lj bxj dl bxi ⊢
  generalize v4.heap.size = bi at *
  obtain ⟨i0, i1, i2⟩ := Id.IdRow.cells bxi.out
  go_wp2_with fail
  refine (implPutOut_any (some A3) l cl q ⟨xc, xs, xe⟩ v5 dl.out.2.2.1 hll KL.out hqm.out).mono ?_
  rintro e v6 hans
  rw [HS.out, HP.out] at hans
  obtain ⟨Ap, cp, rfl, _, _, hL, hb⟩ := hans
  clear i0 i1 i2
  replace da := Lib.hid (da.out.below hb)
  replace db := Lib.hid (db.out.below hb)
  replace bw := Lib.hid (bw.out.trans (hb.mono bw.out.size))
  replace lj := Lib.hid ((lj.out.below hb (Nat.le_refl _)).more hb.size)
  replace bxj := Lib.hid (bxj.out.step hb bxj.out.lt)
  replace dl := Lib.hid (dl.out.below hb)
  replace bxi := Lib.hid (Id.IdRow.step bxi.out hb (Id.IdRow.lt bxi.out))
  have lp := Lib.hid hL
  clear hL hb
  unfold outV slV
  go_wp2_with fail
  have hb := (Below.refl v6.heap.size v6).alloc (Nat.le_refl _) (Obj.cells #[Value.slice Ap s.length cp, Value.int IntKind.i64 pc] 27)
  replace da := Lib.hid (da.out.below hb)
  replace db := Lib.hid (db.out.below hb)
  replace bw := Lib.hid (bw.out.trans (hb.mono bw.out.size))
  replace lj := Lib.hid ((lj.out.below hb (Nat.le_refl _)).more hb.size)
  replace bxj := Lib.hid (bxj.out.step hb bxj.out.lt)
  replace dl := Lib.hid (dl.out.below hb)
  replace bxi := Lib.hid (Id.IdRow.step bxi.out hb (Id.IdRow.lt bxi.out))
  replace lp := Lib.hid ((lp.out.below hb (Nat.le_refl _)).more hb.size)
  have bxp := Lib.hid (ORow.new v6 (.slice Ap s.length cp) pc)
  clear hb
  generalize World.alloc v6 _ = v7 at da db bw lj bxj dl bxi lp bxp ⊢
  generalize v6.heap.size = bp at *
  refine (Src.drawCovers_any a1 len1 cap1 v7 (by
    have h5 := HB1.out.below bw.out
    exact ⟨h5.1, fun hp => by
      obtain ⟨cb, co, e1, e2, e3⟩ := h5.2 hp
      exact ⟨cb, co, e1, by have := bw.out.size; omega, e3⟩⟩)).mono ?_
  rintro e v8 ⟨A4, c, cc, A5, d, cd, rfl, hdc, hdd, hb⟩
  replace da := Lib.hid (da.out.below hb)
  replace db := Lib.hid (db.out.below hb)
  replace bw := Lib.hid (bw.out.trans (hb.mono bw.out.size))
  replace lj := Lib.hid ((lj.out.below hb (Nat.le_refl _)).more hb.size)
  replace bxj := Lib.hid (bxj.out.step hb bxj.out.lt)
  replace dl := Lib.hid (dl.out.below hb)
  replace bxi := Lib.hid (Id.IdRow.step bxi.out hb (Id.IdRow.lt bxi.out))
  replace lp := Lib.hid ((lp.out.below hb (Nat.le_refl _)).more hb.size)
  replace bxp := Lib.hid (bxp.out.step hb bxp.out.lt)
  have dc := Lib.hid hdc
  have dd := Lib.hid hdd
  clear hdc hdd hb
  have hc8 : c.length ≤ 8 := dc.out.2.2.2.1
  have hcc : c.length ≤ cc := dc.out.1
  have hcm : cc ≤ maxLen := dc.out.2.1
  have hcl : c.length ≤ maxLen := Nat.le_trans hcc hcm
  have KC := Lib.hid (fun z (hz : z ∈ c) => Nat.le_trans (dc.out.2.2.2.2 z hz) (by decide : 5 ≤ maxLen))
  have hd8 : d.length ≤ 8 := dd.out.2.2.2.1
  have hdc : d.length ≤ cd := dd.out.1
  have hdm : cd ≤ maxLen := dd.out.2.1
  have hdl : d.length ≤ maxLen := Nat.le_trans hdc hdm
  have KD := Lib.hid (fun z (hz : z ∈ d) => Nat.le_trans (dd.out.2.2.2.2 z hz) (by decide : 5 ≤ maxLen))
  have EE := Lib.hid (show Env w bj bp bi Aj Ap r s cj cp jc pc xc xs xe A1 A2 A3 A4 A5 a b l c d v8 from ⟨bxj.out, bxp.out, bxi.out, lj.out, lp.out, da.out.2.2.1, db.out.2.2.1, dl.out.2.2.1, dc.out.2.2.1, dd.out.2.2.1, bw.out⟩)
  clear da db bw lj bxj dl bxi lp bxp dc dd HB1
  obtain ⟨g, hg⟩ : ∃ g, covB c d = g := ⟨_, rfl⟩
  have HG := Lib.hid hg
  obtain ⟨⟨y0, y1, y2⟩, hy⟩ : ∃ y, depOf l q = y := ⟨_, rfl⟩
  have HY := Lib.hid hy
  obtain ⟨ck, hck⟩ : ∃ ck, clockB c = ck := ⟨_, rfl⟩
  have HK := Lib.hid hck
  obtain ⟨dr, hdr⟩ : ∃ dr, depsB c = dr := ⟨_, rfl⟩
  have HD := Lib.hid hdr
  clear hg hy hck hdr
  unfold slV
  go_upto_region 8 with fail
  go_cut [91] (fun s91 wx => s91 = .bool false ∧ Env w bj bp bi Aj Ap r s cj cp jc pc xc xs xe A1 A2 A3 A4 A5 a b l c d wx)
  case first =>
    have g1 : (g == g) = true := beq_self_eq_true _
    have g2 : (g != g) = false := by simp
    have q1 : (ck != ck) = false := by simp
    have q2 : (ck == ck) = true := beq_self_eq_true _
    have t1 : (dr == dr) = true := beq_self_eq_true _
    have t2 : (dr != dr) = false := by simp
    have u0 : (y0 == y0) = true := beq_self_eq_true _
    have u1 : (y1 == y1) = true := beq_self_eq_true _
    have u2 : (y2 == y2) = true := beq_self_eq_true _
    have hEE := EE.out
    clear EE
    refine wp_region_held_drew (S := Env w bj bp bi Aj Ap r s cj cp jc pc xc xs xe A1 A2 A3 A4 A5 a b l c d) (by kernel_rfl) ?_ (fun hHeld => ?_)
    · exact hEE.step ((Below.refl _ _).drew)
    refine wpAnyH_take (i := 0) (v := ?_) rfl (by kernel_rfl) (by kernel_rfl) (by kernel_rfl) (fun _ _ _ h => h) (Or.inl ⟨by rfl, ?_⟩) hHeld ?_
    rotate_left
    · intro W hSw
      obtain ⟨y0_, y1_⟩ := ORow.cells hSw.j
      obtain ⟨z0_, z1_⟩ := ORow.cells hSw.p
      obtain ⟨i0_, i1_, i2_⟩ := Id.IdRow.cells hSw.i
      clear hSw
      go_simp
      try with_reducible rfl
    try simp only [Act.put, List.setIfInBounds_toArray, List.set_cons_zero, List.set_cons_succ, List.getElem_toArray, List.getElem_cons_zero]
    refine wpAnyH_take (i := 1) (v := ?_) rfl (by kernel_rfl) (by kernel_rfl) (by kernel_rfl) (fun _ _ _ h => h) (Or.inl ⟨by rfl, ?_⟩) hHeld ?_
    rotate_left
    · intro W hSw
      go_simp
      try with_reducible rfl
    try simp only [Act.put, List.setIfInBounds_toArray, List.set_cons_zero, List.set_cons_succ, List.getElem_toArray, List.getElem_cons_succ, List.getElem_cons_zero]
    refine wpAnyH_take (i := 2) (v := ?_) rfl (by kernel_rfl) (by kernel_rfl) (by kernel_rfl) (fun _ _ _ h => h) (Or.inl ⟨by rfl, ?_⟩) hHeld ?_
    rotate_left
    · intro W hSw
      go_simp
      try with_reducible rfl
    try simp only [Act.put, List.setIfInBounds_toArray, List.set_cons_zero, List.set_cons_succ, List.getElem_toArray, List.getElem_cons_succ, List.getElem_cons_zero]
    refine wpAnyH_ready (rs := [3]) (by kernel_rfl) (by simp) ?_
    refine AllReadyH.cons rfl (fun K hK => ?_) AllReadyH.nil
    go_simp
    refine (specJoinOut_any (some A1) (some A2) a b ca cb _ hHeld.la hHeld.lb hal hbl KA.out KB.out).mono ?_
    rintro e v hans
    rw [HR.out, HJ.out] at hans
    obtain ⟨At, ct, rfl, _, _, lt, hb⟩ := hans
    unfold outV slV
    have hE := hHeld.step hb
    clear hb hHeld
    refine hK.out _ _ ?_ (fun hHeld => ?_)
    · exact hE
    clear hK K
    try simp only [Act.put, List.setIfInBounds_toArray, List.set_cons_zero, List.set_cons_succ, List.getElem_toArray, List.getElem_cons_succ, List.getElem_cons_zero]
    refine wpAnyH_ready (rs := [4]) (by kernel_rfl) (by simp) ?_
    refine AllReadyH.cons rfl (fun K hK => ?_) AllReadyH.nil
    go_simp
    refine (lwOut_same Aj At r cj ct jc _ hHeld.lj lt (by omega) MJk.out MJ0.out).mono ?_
    rintro e v ⟨rfl, hb⟩
    clear lt
    have hE := hHeld.step hb
    clear hb hHeld
    refine hK.out _ _ ?_ (fun hHeld => ?_)
    · exact hE
    clear hK K
    try simp only [Act.put, List.setIfInBounds_toArray, List.set_cons_zero, List.set_cons_succ, List.getElem_toArray, List.getElem_cons_succ, List.getElem_cons_zero]
    refine wpAnyH_take (i := 5) (v := ?_) rfl (by kernel_rfl) (by kernel_rfl) (by kernel_rfl) (fun _ _ _ h => h) (Or.inl ⟨by rfl, ?_⟩) hHeld ?_
    rotate_left
    · intro W hSw
      go_simp
      try with_reducible rfl
    try simp only [Act.put, List.setIfInBounds_toArray, List.set_cons_zero, List.set_cons_succ, List.getElem_toArray, List.getElem_cons_succ, List.getElem_cons_zero]
    refine wpAnyH_take (i := 6) (v := ?_) rfl (by kernel_rfl) (by kernel_rfl) (by kernel_rfl) (fun _ _ _ h => h) (Or.inl ⟨by rfl, ?_⟩) hHeld ?_
    rotate_left
    · intro W hSw
      go_simp
      try with_reducible rfl
    try simp only [Act.put, List.setIfInBounds_toArray, List.set_cons_zero, List.set_cons_succ, List.getElem_toArray, List.getElem_cons_succ, List.getElem_cons_zero]
    refine wpAnyH_take (i := 7) (v := ?_) rfl (by kernel_rfl) (by kernel_rfl) (by kernel_rfl) (fun _ _ _ h => h) (Or.inl ⟨by rfl, ?_⟩) hHeld ?_
    rotate_left
    · intro W hSw
      obtain ⟨y0_, y1_⟩ := ORow.cells hSw.j
      obtain ⟨z0_, z1_⟩ := ORow.cells hSw.p
      obtain ⟨i0_, i1_, i2_⟩ := Id.IdRow.cells hSw.i
      clear hSw
      go_simp
      try with_reducible rfl
    try simp only [Act.put, List.setIfInBounds_toArray, List.set_cons_zero, List.set_cons_succ, List.getElem_toArray, List.getElem_cons_succ, List.getElem_cons_zero]
    refine wpAnyH_take (i := 8) (v := ?_) rfl (by kernel_rfl) (by kernel_rfl) (by kernel_rfl) (fun _ _ _ h => h) (Or.inl ⟨by rfl, ?_⟩) hHeld ?_
    rotate_left
    · intro W hSw
      go_simp
      try with_reducible rfl
    try simp only [Act.put, List.setIfInBounds_toArray, List.set_cons_zero, List.set_cons_succ, List.getElem_toArray, List.getElem_cons_succ, List.getElem_cons_zero]
    refine wpAnyH_take (i := 9) (v := ?_) rfl (by kernel_rfl) (by kernel_rfl) (by kernel_rfl) (fun _ _ _ h => h) (Or.inl ⟨by rfl, ?_⟩) hHeld ?_
    rotate_left
    · intro W hSw
      go_simp
      try with_reducible rfl
    try simp only [Act.put, List.setIfInBounds_toArray, List.set_cons_zero, List.set_cons_succ, List.getElem_toArray, List.getElem_cons_succ, List.getElem_cons_zero]
    refine wpAnyH_take (i := 10) (v := ?_) rfl (by kernel_rfl) (by kernel_rfl) (by kernel_rfl) (fun _ _ _ h => h) (Or.inl ⟨by rfl, ?_⟩) hHeld ?_
    rotate_left
    · intro W hSw
      obtain ⟨y0_, y1_⟩ := ORow.cells hSw.j
      obtain ⟨z0_, z1_⟩ := ORow.cells hSw.p
      obtain ⟨i0_, i1_, i2_⟩ := Id.IdRow.cells hSw.i
      clear hSw
      go_simp
      try with_reducible rfl
    try simp only [Act.put, List.setIfInBounds_toArray, List.set_cons_zero, List.set_cons_succ, List.getElem_toArray, List.getElem_cons_succ, List.getElem_cons_zero]
    refine wpAnyH_ready (rs := [11]) (by kernel_rfl) (by simp) ?_
    refine AllReadyH.cons rfl (fun K hK => ?_) AllReadyH.nil
    go_simp
    refine (specPutOut_any A3 l cl q ⟨xc, xs, xe⟩ _ hHeld.ll hlc hlm KL.out hqm.out).mono ?_
    rintro e v hans
    rw [HS.out, HP.out] at hans
    obtain ⟨At, ct, rfl, _, _, lt, hb⟩ := hans
    unfold outV slV
    have hE := hHeld.step hb
    clear hb hHeld
    refine hK.out _ _ ?_ (fun hHeld => ?_)
    · exact hE
    clear hK K
    try simp only [Act.put, List.setIfInBounds_toArray, List.set_cons_zero, List.set_cons_succ, List.getElem_toArray, List.getElem_cons_succ, List.getElem_cons_zero]
    refine wpAnyH_ready (rs := [12]) (by kernel_rfl) (by simp) ?_
    refine AllReadyH.cons rfl (fun K hK => ?_) AllReadyH.nil
    go_simp
    refine (lwOut_same Ap At s cp ct pc _ hHeld.lp lt (by omega) MPk.out MP0.out).mono ?_
    rintro e v ⟨rfl, hb⟩
    clear lt
    have hE := hHeld.step hb
    clear hb hHeld
    refine hK.out _ _ ?_ (fun hHeld => ?_)
    · exact hE
    clear hK K
    try simp only [Act.put, List.setIfInBounds_toArray, List.set_cons_zero, List.set_cons_succ, List.getElem_toArray, List.getElem_cons_succ, List.getElem_cons_zero]
    refine wpAnyH_take (i := 13) (v := ?_) rfl (by kernel_rfl) (by kernel_rfl) (by kernel_rfl) (fun _ _ _ h => h) (Or.inl ⟨by rfl, ?_⟩) hHeld ?_
    rotate_left
    · intro W hSw
      go_simp
      try with_reducible rfl
    try simp only [Act.put, List.setIfInBounds_toArray, List.set_cons_zero, List.set_cons_succ, List.getElem_toArray, List.getElem_cons_succ, List.getElem_cons_zero]
    refine wpAnyH_take (i := 14) (v := ?_) rfl (by kernel_rfl) (by kernel_rfl) (by kernel_rfl) (fun _ _ _ h => h) (Or.inl ⟨by rfl, ?_⟩) hHeld ?_
    rotate_left
    · intro W hSw
      go_simp
      try with_reducible rfl
    try simp only [Act.put, List.setIfInBounds_toArray, List.set_cons_zero, List.set_cons_succ, List.getElem_toArray, List.getElem_cons_succ, List.getElem_cons_zero]
    refine wpAnyH_take (i := 15) (v := ?_) rfl (by kernel_rfl) (by kernel_rfl) (by kernel_rfl) (fun _ _ _ h => h) (Or.inl ⟨by rfl, ?_⟩) hHeld ?_
    rotate_left
    · intro W hSw
      go_simp
      try with_reducible rfl
    try simp only [Act.put, List.setIfInBounds_toArray, List.set_cons_zero, List.set_cons_succ, List.getElem_toArray, List.getElem_cons_succ, List.getElem_cons_zero]
    refine wpAnyH_take (i := 16) (v := ?_) rfl (by kernel_rfl) (by kernel_rfl) (by kernel_rfl) (fun _ _ _ h => h) (Or.inl ⟨by rfl, ?_⟩) hHeld ?_
    rotate_left
    · intro W hSw
      go_simp
      try with_reducible rfl
    try simp only [Act.put, List.setIfInBounds_toArray, List.set_cons_zero, List.set_cons_succ, List.getElem_toArray, List.getElem_cons_succ, List.getElem_cons_zero]
    refine wpAnyH_take (i := 17) (v := ?_) rfl (by kernel_rfl) (by kernel_rfl) (by kernel_rfl) (fun _ _ _ h => h) (Or.inl ⟨by rfl, ?_⟩) hHeld ?_
    rotate_left
    · intro W hSw
      go_simp
      try with_reducible rfl
    try simp only [Act.put, List.setIfInBounds_toArray, List.set_cons_zero, List.set_cons_succ, List.getElem_toArray, List.getElem_cons_succ, List.getElem_cons_zero]
    refine wpAnyH_take (i := 19) (v := ?_) rfl (by kernel_rfl) (by kernel_rfl) (by kernel_rfl) (fun _ _ _ h => h) (Or.inl ⟨by rfl, ?_⟩) hHeld ?_
    rotate_left
    · intro W hSw
      go_simp
      try with_reducible rfl
    try simp only [Act.put, List.setIfInBounds_toArray, List.set_cons_zero, List.set_cons_succ, List.getElem_toArray, List.getElem_cons_succ, List.getElem_cons_zero]
    refine wpAnyH_take (i := 20) (v := ?_) rfl (by kernel_rfl) (by kernel_rfl) (by kernel_rfl) (fun _ _ _ h => h) (Or.inl ⟨by rfl, ?_⟩) hHeld ?_
    rotate_left
    · intro W hSw
      go_simp
      try with_reducible rfl
    try simp only [Act.put, List.setIfInBounds_toArray, List.set_cons_zero, List.set_cons_succ, List.getElem_toArray, List.getElem_cons_succ, List.getElem_cons_zero]
    refine wpAnyH_ready (rs := [18]) (by kernel_rfl) (by simp) ?_
    refine AllReadyH.cons rfl (fun K hK => ?_) AllReadyH.nil
    go_simp
    refine (implCovers_any (some A4) (some A5) c d cc cd _ hHeld.lc hHeld.ld hcl hdl KC.out KD.out).mono ?_
    rintro e v ⟨rfl, hb⟩
    rw [HG.out]
    have hE := hHeld.step hb
    clear hb hHeld
    refine hK.out _ _ ?_ (fun hHeld => ?_)
    · exact hE
    clear hK K
    try simp only [Act.put, List.setIfInBounds_toArray, List.set_cons_zero, List.set_cons_succ, List.getElem_toArray, List.getElem_cons_succ, List.getElem_cons_zero]
    refine wpAnyH_ready (rs := [21]) (by kernel_rfl) (by simp) ?_
    refine AllReadyH.cons rfl (fun K hK => ?_) AllReadyH.nil
    go_simp
    refine (specCovers_any (some A4) (some A5) c d cc cd _ hHeld.lc hHeld.ld hcl hdl KC.out KD.out).mono ?_
    rintro e v ⟨rfl, hb⟩
    rw [HG.out]
    have hE := hHeld.step hb
    clear hb hHeld
    refine hK.out _ _ ?_ (fun hHeld => ?_)
    · exact hE
    clear hK K
    try simp only [Act.put, List.setIfInBounds_toArray, List.set_cons_zero, List.set_cons_succ, List.getElem_toArray, List.getElem_cons_succ, List.getElem_cons_zero]
    refine wpAnyH_take (i := 22) (v := ?_) rfl (by kernel_rfl) (by kernel_rfl) (by kernel_rfl) (fun _ _ _ h => h) (Or.inl ⟨by rfl, ?_⟩) hHeld ?_
    rotate_left
    · intro W hSw
      go_simp
      try with_reducible rfl
    try simp only [Act.put, List.setIfInBounds_toArray, List.set_cons_zero, List.set_cons_succ, List.getElem_toArray, List.getElem_cons_succ, List.getElem_cons_zero]
    refine wpAnyH_take (i := 23) (v := ?_) rfl (by kernel_rfl) (by kernel_rfl) (by kernel_rfl) (fun _ _ _ h => h) (Or.inl ⟨by rfl, ?_⟩) hHeld ?_
    rotate_left
    · intro W hSw
      go_simp
      try with_reducible rfl
    try simp only [Act.put, List.setIfInBounds_toArray, List.set_cons_zero, List.set_cons_succ, List.getElem_toArray, List.getElem_cons_succ, List.getElem_cons_zero]
    refine wpAnyH_take (i := 24) (v := ?_) rfl (by kernel_rfl) (by kernel_rfl) (by kernel_rfl) (fun _ _ _ h => h) (Or.inl ⟨by rfl, ?_⟩) hHeld ?_
    rotate_left
    · intro W hSw
      go_simp
      try with_reducible rfl
    try simp only [Act.put, List.setIfInBounds_toArray, List.set_cons_zero, List.set_cons_succ, List.getElem_toArray, List.getElem_cons_succ, List.getElem_cons_zero]
    refine wpAnyH_take (i := 25) (v := ?_) rfl (by kernel_rfl) (by kernel_rfl) (by kernel_rfl) (fun _ _ _ h => h) (Or.inl ⟨by rfl, ?_⟩) hHeld ?_
    rotate_left
    · intro W hSw
      go_simp
      try with_reducible rfl
    try simp only [Act.put, List.setIfInBounds_toArray, List.set_cons_zero, List.set_cons_succ, List.getElem_toArray, List.getElem_cons_succ, List.getElem_cons_zero]
    refine wpAnyH_take (i := 26) (v := ?_) rfl (by kernel_rfl) (by kernel_rfl) (by kernel_rfl) (fun _ _ _ h => h) (Or.inl ⟨by rfl, ?_⟩) hHeld ?_
    rotate_left
    · intro W hSw
      go_simp
      try with_reducible rfl
    try simp only [Act.put, List.setIfInBounds_toArray, List.set_cons_zero, List.set_cons_succ, List.getElem_toArray, List.getElem_cons_succ, List.getElem_cons_zero]
    refine wpAnyH_take (i := 28) (v := ?_) rfl (by kernel_rfl) (by kernel_rfl) (by kernel_rfl) (fun _ _ _ h => h) (Or.inl ⟨by rfl, ?_⟩) hHeld ?_
    rotate_left
    · intro W hSw
      go_simp
      try with_reducible rfl
    try simp only [Act.put, List.setIfInBounds_toArray, List.set_cons_zero, List.set_cons_succ, List.getElem_toArray, List.getElem_cons_succ, List.getElem_cons_zero]
    refine wpAnyH_take (i := 29) (v := ?_) rfl (by kernel_rfl) (by kernel_rfl) (by kernel_rfl) (fun _ _ _ h => h) (Or.inl ⟨by rfl, ?_⟩) hHeld ?_
    rotate_left
    · intro W hSw
      go_simp
      try with_reducible rfl
    try simp only [Act.put, List.setIfInBounds_toArray, List.set_cons_zero, List.set_cons_succ, List.getElem_toArray, List.getElem_cons_succ, List.getElem_cons_zero]
    refine wpAnyH_ready (rs := [27]) (by kernel_rfl) (by simp) ?_
    refine AllReadyH.cons rfl (fun K hK => ?_) AllReadyH.nil
    go_simp
    refine (implDepOf_any (some A3) l cl q _ hHeld.ll hll KL.out).mono ?_
    rintro e v ⟨rfl, hb⟩
    rw [HY.out, val_mk]
    have hE := hHeld.step hb
    clear hb hHeld
    refine hK.out _ _ ?_ (fun hHeld => ?_)
    · exact hE
    clear hK K
    try simp only [Act.put, List.setIfInBounds_toArray, List.set_cons_zero, List.set_cons_succ, List.getElem_toArray, List.getElem_cons_succ, List.getElem_cons_zero]
    refine wpAnyH_ready (rs := [30]) (by kernel_rfl) (by simp) ?_
    refine AllReadyH.cons rfl (fun K hK => ?_) AllReadyH.nil
    go_simp
    refine (specDepOf_any (some A3) l cl q _ hHeld.ll hll KL.out).mono ?_
    rintro e v ⟨rfl, hb⟩
    rw [HY.out, val_mk]
    have hE := hHeld.step hb
    clear hb hHeld
    refine hK.out _ _ ?_ (fun hHeld => ?_)
    · exact hE
    clear hK K
    try simp only [Act.put, List.setIfInBounds_toArray, List.set_cons_zero, List.set_cons_succ, List.getElem_toArray, List.getElem_cons_succ, List.getElem_cons_zero]
    refine wpAnyH_take (i := 31) (v := ?_) rfl (by kernel_rfl) (by kernel_rfl) (by kernel_rfl) (fun _ _ _ h => h) (Or.inl ⟨by rfl, ?_⟩) hHeld ?_
    rotate_left
    · intro W hSw
      go_simp
      try with_reducible rfl
    try simp only [Act.put, List.setIfInBounds_toArray, List.set_cons_zero, List.set_cons_succ, List.getElem_toArray, List.getElem_cons_succ, List.getElem_cons_zero]
    refine wpAnyH_take (i := 32) (v := ?_) rfl (by kernel_rfl) (by kernel_rfl) (by kernel_rfl) (fun _ _ _ h => h) (Or.inl ⟨by rfl, ?_⟩) hHeld ?_
    rotate_left
    · intro W hSw
      go_simp
      try with_reducible rfl
    try simp only [Act.put, List.setIfInBounds_toArray, List.set_cons_zero, List.set_cons_succ, List.getElem_toArray, List.getElem_cons_succ, List.getElem_cons_zero]
    refine wpAnyH_take (i := 33) (v := ?_) rfl (by kernel_rfl) (by kernel_rfl) (by kernel_rfl) (fun _ _ _ h => h) (Or.inl ⟨by rfl, ?_⟩) hHeld ?_
    rotate_left
    · intro W hSw
      go_simp
      try with_reducible rfl
    try simp only [Act.put, List.setIfInBounds_toArray, List.set_cons_zero, List.set_cons_succ, List.getElem_toArray, List.getElem_cons_succ, List.getElem_cons_zero]
    refine wpAnyH_take (i := 34) (v := ?_) rfl (by kernel_rfl) (by kernel_rfl) (by kernel_rfl) (fun _ _ _ h => h) (Or.inl ⟨by rfl, ?_⟩) hHeld ?_
    rotate_left
    · intro W hSw
      go_simp
      try with_reducible rfl
    try simp only [Act.put, List.setIfInBounds_toArray, List.set_cons_zero, List.set_cons_succ, List.getElem_toArray, List.getElem_cons_succ, List.getElem_cons_zero]
    refine wpAnyH_take (i := 36) (v := ?_) rfl (by kernel_rfl) (by kernel_rfl) (by kernel_rfl) (fun _ _ _ h => h) (Or.inl ⟨by rfl, ?_⟩) hHeld ?_
    rotate_left
    · intro W hSw
      go_simp
      try with_reducible rfl
    try simp only [Act.put, List.setIfInBounds_toArray, List.set_cons_zero, List.set_cons_succ, List.getElem_toArray, List.getElem_cons_succ, List.getElem_cons_zero]
    refine wpAnyH_ready (rs := [35]) (by kernel_rfl) (by simp) ?_
    refine AllReadyH.cons rfl (fun K hK => ?_) AllReadyH.nil
    go_simp
    refine (implClock_any (some A4) c cc _ hHeld.lc hcl KC.out).mono ?_
    rintro e v ⟨rfl, hb⟩
    rw [HK.out]
    have hE := hHeld.step hb
    clear hb hHeld
    refine hK.out _ _ ?_ (fun hHeld => ?_)
    · exact hE
    clear hK K
    try simp only [Act.put, List.setIfInBounds_toArray, List.set_cons_zero, List.set_cons_succ, List.getElem_toArray, List.getElem_cons_succ, List.getElem_cons_zero]
    refine wpAnyH_ready (rs := [37]) (by kernel_rfl) (by simp) ?_
    refine AllReadyH.cons rfl (fun K hK => ?_) AllReadyH.nil
    go_simp
    refine (specClock_any (some A4) c cc _ hHeld.lc hcl KC.out).mono ?_
    rintro e v ⟨rfl, hb⟩
    rw [HK.out]
    have hE := hHeld.step hb
    clear hb hHeld
    refine hK.out _ _ ?_ (fun hHeld => ?_)
    · exact hE
    clear hK K
    try simp only [Act.put, List.setIfInBounds_toArray, List.set_cons_zero, List.set_cons_succ, List.getElem_toArray, List.getElem_cons_succ, List.getElem_cons_zero]
    refine wpAnyH_take (i := 38) (v := ?_) rfl (by kernel_rfl) (by kernel_rfl) (by kernel_rfl) (fun _ _ _ h => h) (Or.inl ⟨by rfl, ?_⟩) hHeld ?_
    rotate_left
    · intro W hSw
      go_simp
      try with_reducible rfl
    try simp only [Act.put, List.setIfInBounds_toArray, List.set_cons_zero, List.set_cons_succ, List.getElem_toArray, List.getElem_cons_succ, List.getElem_cons_zero]
    refine wpAnyH_take (i := 39) (v := ?_) rfl (by kernel_rfl) (by kernel_rfl) (by kernel_rfl) (fun _ _ _ h => h) (Or.inl ⟨by rfl, ?_⟩) hHeld ?_
    rotate_left
    · intro W hSw
      go_simp
      try with_reducible rfl
    try simp only [Act.put, List.setIfInBounds_toArray, List.set_cons_zero, List.set_cons_succ, List.getElem_toArray, List.getElem_cons_succ, List.getElem_cons_zero]
    refine wpAnyH_take (i := 40) (v := ?_) rfl (by kernel_rfl) (by kernel_rfl) (by kernel_rfl) (fun _ _ _ h => h) (Or.inl ⟨by rfl, ?_⟩) hHeld ?_
    rotate_left
    · intro W hSw
      go_simp
      try with_reducible rfl
    try simp only [Act.put, List.setIfInBounds_toArray, List.set_cons_zero, List.set_cons_succ, List.getElem_toArray, List.getElem_cons_succ, List.getElem_cons_zero]
    refine wpAnyH_take (i := 41) (v := ?_) rfl (by kernel_rfl) (by kernel_rfl) (by kernel_rfl) (fun _ _ _ h => h) (Or.inl ⟨by rfl, ?_⟩) hHeld ?_
    rotate_left
    · intro W hSw
      go_simp
      try with_reducible rfl
    try simp only [Act.put, List.setIfInBounds_toArray, List.set_cons_zero, List.set_cons_succ, List.getElem_toArray, List.getElem_cons_succ, List.getElem_cons_zero]
    refine wpAnyH_take (i := 43) (v := ?_) rfl (by kernel_rfl) (by kernel_rfl) (by kernel_rfl) (fun _ _ _ h => h) (Or.inl ⟨by rfl, ?_⟩) hHeld ?_
    rotate_left
    · intro W hSw
      go_simp
      try with_reducible rfl
    try simp only [Act.put, List.setIfInBounds_toArray, List.set_cons_zero, List.set_cons_succ, List.getElem_toArray, List.getElem_cons_succ, List.getElem_cons_zero]
    refine wpAnyH_ready (rs := [42]) (by kernel_rfl) (by simp) ?_
    refine AllReadyH.cons rfl (fun K hK => ?_) AllReadyH.nil
    go_simp
    refine (implDeps_any (some A4) c cc _ hHeld.lc hcl KC.out).mono ?_
    rintro e v ⟨rfl, hb⟩
    rw [HD.out]
    have hE := hHeld.step hb
    clear hb hHeld
    refine hK.out _ _ ?_ (fun hHeld => ?_)
    · exact hE
    clear hK K
    try simp only [Act.put, List.setIfInBounds_toArray, List.set_cons_zero, List.set_cons_succ, List.getElem_toArray, List.getElem_cons_succ, List.getElem_cons_zero]
    refine wpAnyH_ready (rs := [44]) (by kernel_rfl) (by simp) ?_
    refine AllReadyH.cons rfl (fun K hK => ?_) AllReadyH.nil
    go_simp
    refine (specDeps_any (some A4) c cc _ hHeld.lc hcl KC.out).mono ?_
    rintro e v ⟨rfl, hb⟩
    rw [HD.out]
    have hE := hHeld.step hb
    clear hb hHeld
    refine hK.out _ _ ?_ (fun hHeld => ?_)
    · exact hE
    clear hK K
    try simp only [Act.put, List.setIfInBounds_toArray, List.set_cons_zero, List.set_cons_succ, List.getElem_toArray, List.getElem_cons_succ, List.getElem_cons_zero]
    refine wpAnyH_take (i := 45) (v := ?_) rfl (by kernel_rfl) (by kernel_rfl) (by kernel_rfl) (fun _ _ _ h => h) (Or.inl ⟨by rfl, ?_⟩) hHeld ?_
    rotate_left
    · intro W hSw
      go_simp
      try with_reducible rfl
    try simp only [Act.put, List.setIfInBounds_toArray, List.set_cons_zero, List.set_cons_succ, List.getElem_toArray, List.getElem_cons_succ, List.getElem_cons_zero]
    refine wpAnyH_take (i := 46) (v := ?_) rfl (by kernel_rfl) (by kernel_rfl) (by kernel_rfl) (fun _ _ _ h => h) (Or.inl ⟨by rfl, ?_⟩) hHeld ?_
    rotate_left
    · intro W hSw
      go_simp
      try with_reducible rfl
    try simp only [Act.put, List.setIfInBounds_toArray, List.set_cons_zero, List.set_cons_succ, List.getElem_toArray, List.getElem_cons_succ, List.getElem_cons_zero]
    refine wpAnyH_done (by kernel_rfl) ?_ _
    go_wp2_with fail
    go_meet
    exact ⟨rfl, hHeld⟩
  case rest =>
    obtain ⟨rfl, hEE⟩ := hcut
    clear EE HG HY HK HD
    go_upto_region 10 with fail
    go_cut [112] (fun s112 wx => s112 = .bool false ∧ Env w bj bp bi Aj Ap r s cj cp jc pc xc xs xe A1 A2 A3 A4 A5 a b l c d wx)
    case first =>
      by_cases hpc : pc = 0
      · subst hpc
        obtain ⟨⟨z0, z1, z2⟩, hz⟩ : ∃ z, depOf s q = z := ⟨_, rfl⟩
        have HZ := Lib.hid hz
        have HL := Lib.hid (show (⟨z0, z1, z2⟩ : I).less ⟨xc, xs, xe⟩ = false by rw [← hz]; exact MPn.out rfl)
        clear hz
        refine wp_region_held_drew (S := Env w bj bp bi Aj Ap r s cj cp jc 0 xc xs xe A1 A2 A3 A4 A5 a b l c d) (by kernel_rfl) ?_ (fun hHeld => ?_)
        · exact hEE.step ((Below.refl _ _).drew)
        refine wpAnyH_take (i := 0) (v := ?_) rfl (by kernel_rfl) (by kernel_rfl) (by kernel_rfl) (fun _ _ _ h => h) (Or.inl ⟨by rfl, ?_⟩) hHeld ?_
        rotate_left
        · intro W hSw
          go_simp
          try with_reducible rfl
        try simp only [Act.put, List.setIfInBounds_toArray, List.set_cons_zero, List.set_cons_succ, List.getElem_toArray, List.getElem_cons_zero]
        refine wpAnyH_take (i := 1) (v := ?_) rfl (by kernel_rfl) (by kernel_rfl) (by kernel_rfl) (fun _ _ _ h => h) (Or.inl ⟨by rfl, ?_⟩) hHeld ?_
        rotate_left
        · intro W hSw
          obtain ⟨y0_, y1_⟩ := ORow.cells hSw.j
          obtain ⟨z0_, z1_⟩ := ORow.cells hSw.p
          obtain ⟨i0_, i1_, i2_⟩ := Id.IdRow.cells hSw.i
          clear hSw
          go_simp
          try with_reducible rfl
        try simp only [Act.put, List.setIfInBounds_toArray, List.set_cons_zero, List.set_cons_succ, List.getElem_toArray, List.getElem_cons_succ, List.getElem_cons_zero]
        refine wpAnyH_take (i := 2) (v := ?_) rfl (by kernel_rfl) (by kernel_rfl) (by kernel_rfl) (fun _ _ _ h => h) (Or.inl ⟨by rfl, ?_⟩) hHeld ?_
        rotate_left
        · intro W hSw
          go_simp
          try with_reducible rfl
        try simp only [Act.put, List.setIfInBounds_toArray, List.set_cons_zero, List.set_cons_succ, List.getElem_toArray, List.getElem_cons_succ, List.getElem_cons_zero]
        refine wpAnyH_take (i := 3) (v := ?_) rfl (by kernel_rfl) (by kernel_rfl) (by kernel_rfl) (fun _ _ _ h => h) (Or.inl ⟨by rfl, ?_⟩) hHeld ?_
        rotate_left
        · intro W hSw
          go_simp
          try with_reducible rfl
        try simp only [Act.put, List.setIfInBounds_toArray, List.set_cons_zero, List.set_cons_succ, List.getElem_toArray, List.getElem_cons_succ, List.getElem_cons_zero]
        refine wpAnyH_take (i := 4) (v := ?_) rfl (by kernel_rfl) (by kernel_rfl) (by kernel_rfl) (fun _ _ _ h => h) (Or.inl ⟨by rfl, ?_⟩) hHeld ?_
        rotate_left
        · intro W hSw
          go_simp
          try with_reducible rfl
        try simp only [Act.put, List.setIfInBounds_toArray, List.set_cons_zero, List.set_cons_succ, List.getElem_toArray, List.getElem_cons_succ, List.getElem_cons_zero]
        refine wpAnyH_take (i := 5) (v := ?_) rfl (by kernel_rfl) (by kernel_rfl) (by kernel_rfl) (fun _ _ _ h => h) (Or.inl ⟨by rfl, ?_⟩) hHeld ?_
        rotate_left
        · intro W hSw
          obtain ⟨y0_, y1_⟩ := ORow.cells hSw.j
          obtain ⟨z0_, z1_⟩ := ORow.cells hSw.p
          obtain ⟨i0_, i1_, i2_⟩ := Id.IdRow.cells hSw.i
          clear hSw
          go_simp
          try with_reducible rfl
        try simp only [Act.put, List.setIfInBounds_toArray, List.set_cons_zero, List.set_cons_succ, List.getElem_toArray, List.getElem_cons_succ, List.getElem_cons_zero]
        refine wpAnyH_take (i := 6) (v := ?_) rfl (by kernel_rfl) (by kernel_rfl) (by kernel_rfl) (fun _ _ _ h => h) (Or.inl ⟨by rfl, ?_⟩) hHeld ?_
        rotate_left
        · intro W hSw
          go_simp
          try with_reducible rfl
        try simp only [Act.put, List.setIfInBounds_toArray, List.set_cons_zero, List.set_cons_succ, List.getElem_toArray, List.getElem_cons_succ, List.getElem_cons_zero]
        refine wpAnyH_take (i := 8) (v := ?_) rfl (by kernel_rfl) (by kernel_rfl) (by kernel_rfl) (fun _ _ _ h => h) (Or.inl ⟨by rfl, ?_⟩) hHeld ?_
        rotate_left
        · intro W hSw
          obtain ⟨y0_, y1_⟩ := ORow.cells hSw.j
          obtain ⟨z0_, z1_⟩ := ORow.cells hSw.p
          obtain ⟨i0_, i1_, i2_⟩ := Id.IdRow.cells hSw.i
          clear hSw
          go_simp
          try with_reducible rfl
        try simp only [Act.put, List.setIfInBounds_toArray, List.set_cons_zero, List.set_cons_succ, List.getElem_toArray, List.getElem_cons_succ, List.getElem_cons_zero]
        refine wpAnyH_ready (rs := [7]) (by kernel_rfl) (by simp) ?_
        refine AllReadyH.cons rfl (fun K hK => ?_) AllReadyH.nil
        go_simp
        refine (implDepOf_any Ap s cp q _ hHeld.lp (by unfold maxLen; omega) MPk.out).mono ?_
        rintro e v ⟨rfl, hb⟩
        rw [HZ.out, val_mk]
        have hE := hHeld.step hb
        clear hb hHeld
        refine hK.out _ _ ?_ (fun hHeld => ?_)
        · exact hE
        clear hK K
        try simp only [Act.put, List.setIfInBounds_toArray, List.set_cons_zero, List.set_cons_succ, List.getElem_toArray, List.getElem_cons_succ, List.getElem_cons_zero]
        refine wpAnyH_ready (rs := [9]) (by kernel_rfl) (by simp) ?_
        refine AllReadyH.cons rfl (fun K hK => ?_) AllReadyH.nil
        go_simp
        refine (specLessI_any ⟨z0, z1, z2⟩ ⟨xc, xs, xe⟩ _).mono ?_
        rintro e v ⟨rfl, hb⟩
        rw [HL.out]
        have hE := hHeld.step hb
        clear hb hHeld
        refine hK.out _ _ ?_ (fun hHeld => ?_)
        · exact hE
        clear hK K
        try simp only [Act.put, List.setIfInBounds_toArray, List.set_cons_zero, List.set_cons_succ, List.getElem_toArray, List.getElem_cons_succ, List.getElem_cons_zero]
        refine wpAnyH_take (i := 10) (v := ?_) rfl (by kernel_rfl) (by kernel_rfl) (by kernel_rfl) (fun _ _ _ h => h) (Or.inl ⟨by rfl, ?_⟩) hHeld ?_
        rotate_left
        · intro W hSw
          go_simp
          try with_reducible rfl
        try simp only [Act.put, List.setIfInBounds_toArray, List.set_cons_zero, List.set_cons_succ, List.getElem_toArray, List.getElem_cons_succ, List.getElem_cons_zero]
        refine wpAnyH_take (i := 11) (v := ?_) rfl (by kernel_rfl) (by kernel_rfl) (by kernel_rfl) (fun _ _ _ h => h) (Or.inl ⟨by rfl, ?_⟩) hHeld ?_
        rotate_left
        · intro W hSw
          go_simp
          try with_reducible rfl
        try simp only [Act.put, List.setIfInBounds_toArray, List.set_cons_zero, List.set_cons_succ, List.getElem_toArray, List.getElem_cons_succ, List.getElem_cons_zero]
        refine wpAnyH_take (i := 12) (v := ?_) rfl (by kernel_rfl) (by kernel_rfl) (by kernel_rfl) (fun _ _ _ h => h) (Or.inl ⟨by rfl, ?_⟩) hHeld ?_
        rotate_left
        · intro W hSw
          obtain ⟨y0_, y1_⟩ := ORow.cells hSw.j
          obtain ⟨z0_, z1_⟩ := ORow.cells hSw.p
          obtain ⟨i0_, i1_, i2_⟩ := Id.IdRow.cells hSw.i
          clear hSw
          go_simp
          try with_reducible rfl
        try simp only [Act.put, List.setIfInBounds_toArray, List.set_cons_zero, List.set_cons_succ, List.getElem_toArray, List.getElem_cons_succ, List.getElem_cons_zero]
        refine wpAnyH_take (i := 13) (v := ?_) rfl (by kernel_rfl) (by kernel_rfl) (by kernel_rfl) (fun _ _ _ h => h) (Or.inl ⟨by rfl, ?_⟩) hHeld ?_
        rotate_left
        · intro W hSw
          go_simp
          try with_reducible rfl
        try simp only [Act.put, List.setIfInBounds_toArray, List.set_cons_zero, List.set_cons_succ, List.getElem_toArray, List.getElem_cons_succ, List.getElem_cons_zero]
        refine wpAnyH_take (i := 14) (v := ?_) rfl (by kernel_rfl) (by kernel_rfl) (by kernel_rfl) (fun _ _ _ h => h) (Or.inl ⟨by rfl, ?_⟩) hHeld ?_
        rotate_left
        · intro W hSw
          obtain ⟨y0_, y1_⟩ := ORow.cells hSw.j
          obtain ⟨z0_, z1_⟩ := ORow.cells hSw.p
          obtain ⟨i0_, i1_, i2_⟩ := Id.IdRow.cells hSw.i
          clear hSw
          go_simp
          try with_reducible rfl
        try simp only [Act.put, List.setIfInBounds_toArray, List.set_cons_zero, List.set_cons_succ, List.getElem_toArray, List.getElem_cons_succ, List.getElem_cons_zero]
        refine wpAnyH_take (i := 16) (v := ?_) rfl (by kernel_rfl) (by kernel_rfl) (by kernel_rfl) (fun _ _ _ h => h) (Or.inl ⟨by rfl, ?_⟩) hHeld ?_
        rotate_left
        · intro W hSw
          obtain ⟨y0_, y1_⟩ := ORow.cells hSw.j
          obtain ⟨z0_, z1_⟩ := ORow.cells hSw.p
          obtain ⟨i0_, i1_, i2_⟩ := Id.IdRow.cells hSw.i
          clear hSw
          go_simp
          try with_reducible rfl
        try simp only [Act.put, List.setIfInBounds_toArray, List.set_cons_zero, List.set_cons_succ, List.getElem_toArray, List.getElem_cons_succ, List.getElem_cons_zero]
        refine wpAnyH_ready (rs := [15]) (by kernel_rfl) (by simp) ?_
        refine AllReadyH.cons rfl (fun K hK => ?_) AllReadyH.nil
        go_simp
        refine (implPutOut_any Ap s cp q ⟨xc, xs, xe⟩ _ hHeld.lp (by unfold maxLen; omega) MPk.out hqm.out).mono ?_
        rintro e v hans
        rw [(MPa.out rfl).2, (MPa.out rfl).1] at hans
        obtain ⟨At, ct, rfl, _, _, lt, hb⟩ := hans
        unfold outV slV
        have hE := hHeld.step hb
        clear hb hHeld
        refine hK.out _ _ ?_ (fun hHeld => ?_)
        · exact hE
        clear hK K
        try simp only [Act.put, List.setIfInBounds_toArray, List.set_cons_zero, List.set_cons_succ, List.getElem_toArray, List.getElem_cons_succ, List.getElem_cons_zero]
        refine wpAnyH_ready (rs := [17]) (by kernel_rfl) (by simp) ?_
        refine AllReadyH.cons rfl (fun K hK => ?_) AllReadyH.nil
        go_simp
        refine (lwOut_same At Ap s ct cp 0 _ lt hHeld.lp (by omega) MPk.out MP0.out).mono ?_
        rintro e v ⟨rfl, hb⟩
        clear lt
        have hE := hHeld.step hb
        clear hb hHeld
        refine hK.out _ _ ?_ (fun hHeld => ?_)
        · exact hE
        clear hK K
        try simp only [Act.put, List.setIfInBounds_toArray, List.set_cons_zero, List.set_cons_succ, List.getElem_toArray, List.getElem_cons_succ, List.getElem_cons_zero]
        refine wpAnyH_take (i := 18) (v := ?_) rfl (by kernel_rfl) (by kernel_rfl) (by kernel_rfl) (fun _ _ _ h => h) (Or.inl ⟨by rfl, ?_⟩) hHeld ?_
        rotate_left
        · intro W hSw
          go_simp
          try with_reducible rfl
        try simp only [Act.put, List.setIfInBounds_toArray, List.set_cons_zero, List.set_cons_succ, List.getElem_toArray, List.getElem_cons_succ, List.getElem_cons_zero]
        refine wpAnyH_take (i := 19) (v := ?_) rfl (by kernel_rfl) (by kernel_rfl) (by kernel_rfl) (fun _ _ _ h => h) (Or.inl ⟨by rfl, ?_⟩) hHeld ?_
        rotate_left
        · intro W hSw
          go_simp
          try with_reducible rfl
        try simp only [Act.put, List.setIfInBounds_toArray, List.set_cons_zero, List.set_cons_succ, List.getElem_toArray, List.getElem_cons_succ, List.getElem_cons_zero]
        refine wpAnyH_take (i := 20) (v := ?_) rfl (by kernel_rfl) (by kernel_rfl) (by kernel_rfl) (fun _ _ _ h => h) (Or.inl ⟨by rfl, ?_⟩) hHeld ?_
        rotate_left
        · intro W hSw
          go_simp
          try with_reducible rfl
        try simp only [Act.put, List.setIfInBounds_toArray, List.set_cons_zero, List.set_cons_succ, List.getElem_toArray, List.getElem_cons_succ, List.getElem_cons_zero]
        refine wpAnyH_done (by kernel_rfl) ?_ _
        go_wp2_with fail
        go_meet
        exact ⟨rfl, hHeld⟩
      · have hpn : (pc == 0) = false := beq_eq_false_iff_ne.2 hpc
        refine wp_region_held_drew (S := Env w bj bp bi Aj Ap r s cj cp jc pc xc xs xe A1 A2 A3 A4 A5 a b l c d) (by kernel_rfl) ?_ (fun hHeld => ?_)
        · exact hEE.step ((Below.refl _ _).drew)
        refine wpAnyH_take (i := 0) (v := ?_) rfl (by kernel_rfl) (by kernel_rfl) (by kernel_rfl) (fun _ _ _ h => h) (Or.inl ⟨by rfl, ?_⟩) hHeld ?_
        rotate_left
        · intro W hSw
          go_simp
          try with_reducible rfl
        try simp only [Act.put, List.setIfInBounds_toArray, List.set_cons_zero, List.set_cons_succ, List.getElem_toArray, List.getElem_cons_zero]
        refine wpAnyH_take (i := 1) (v := ?_) rfl (by kernel_rfl) (by kernel_rfl) (by kernel_rfl) (fun _ _ _ h => h) (Or.inl ⟨by rfl, ?_⟩) hHeld ?_
        rotate_left
        · intro W hSw
          obtain ⟨y0_, y1_⟩ := ORow.cells hSw.j
          obtain ⟨z0_, z1_⟩ := ORow.cells hSw.p
          obtain ⟨i0_, i1_, i2_⟩ := Id.IdRow.cells hSw.i
          clear hSw
          go_simp
          try with_reducible rfl
        try simp only [Act.put, List.setIfInBounds_toArray, List.set_cons_zero, List.set_cons_succ, List.getElem_toArray, List.getElem_cons_succ, List.getElem_cons_zero]
        refine wpAnyH_take (i := 2) (v := ?_) rfl (by kernel_rfl) (by kernel_rfl) (by kernel_rfl) (fun _ _ _ h => h) (Or.inl ⟨by rfl, ?_⟩) hHeld ?_
        rotate_left
        · intro W hSw
          go_simp
          try with_reducible rfl
        try simp only [Act.put, List.setIfInBounds_toArray, List.set_cons_zero, List.set_cons_succ, List.getElem_toArray, List.getElem_cons_succ, List.getElem_cons_zero]
        refine wpAnyH_take (i := 3) (v := ?_) rfl (by kernel_rfl) (by kernel_rfl) (by kernel_rfl) (fun _ _ _ h => h) (Or.inl ⟨by rfl, ?_⟩) hHeld ?_
        rotate_left
        · intro W hSw
          go_simp
          try with_reducible rfl
        try simp only [Act.put, List.setIfInBounds_toArray, List.set_cons_zero, List.set_cons_succ, List.getElem_toArray, List.getElem_cons_succ, List.getElem_cons_zero]
        refine wpAnyH_take (i := 4) (v := undef) rfl (by kernel_rfl) (by kernel_rfl) (by kernel_rfl) (fun _ _ _ h => h) (Or.inr ⟨by rfl, rfl⟩) hHeld ?_
        try simp only [Act.put, List.setIfInBounds_toArray, List.set_cons_zero, List.set_cons_succ, List.getElem_toArray, List.getElem_cons_succ, List.getElem_cons_zero]
        refine wpAnyH_take (i := 5) (v := undef) rfl (by kernel_rfl) (by kernel_rfl) (by kernel_rfl) (fun _ _ _ h => h) (Or.inr ⟨by rfl, rfl⟩) hHeld ?_
        try simp only [Act.put, List.setIfInBounds_toArray, List.set_cons_zero, List.set_cons_succ, List.getElem_toArray, List.getElem_cons_succ, List.getElem_cons_zero]
        refine wpAnyH_take (i := 6) (v := undef) rfl (by kernel_rfl) (by kernel_rfl) (by kernel_rfl) (fun _ _ _ h => h) (Or.inr ⟨by rfl, rfl⟩) hHeld ?_
        try simp only [Act.put, List.setIfInBounds_toArray, List.set_cons_zero, List.set_cons_succ, List.getElem_toArray, List.getElem_cons_succ, List.getElem_cons_zero]
        refine wpAnyH_take (i := 8) (v := undef) rfl (by kernel_rfl) (by kernel_rfl) (by kernel_rfl) (fun _ _ _ h => h) (Or.inr ⟨by rfl, rfl⟩) hHeld ?_
        try simp only [Act.put, List.setIfInBounds_toArray, List.set_cons_zero, List.set_cons_succ, List.getElem_toArray, List.getElem_cons_succ, List.getElem_cons_zero]
        refine wpAnyH_ready (rs := [7]) (by kernel_rfl) (by simp) ?_
        refine AllReadyH.cons rfl (fun K hK => ?_) AllReadyH.nil
        go_simp
        refine hK.out _ _ ?_ (fun hHeld => ?_)
        · assumption
        clear hK K
        try simp only [Act.put, List.setIfInBounds_toArray, List.set_cons_zero, List.set_cons_succ, List.getElem_toArray, List.getElem_cons_succ, List.getElem_cons_zero]
        refine wpAnyH_ready (rs := [9]) (by kernel_rfl) (by simp) ?_
        refine AllReadyH.cons rfl (fun K hK => ?_) AllReadyH.nil
        go_simp
        refine hK.out _ _ ?_ (fun hHeld => ?_)
        · assumption
        clear hK K
        try simp only [Act.put, List.setIfInBounds_toArray, List.set_cons_zero, List.set_cons_succ, List.getElem_toArray, List.getElem_cons_succ, List.getElem_cons_zero]
        refine wpAnyH_take (i := 10) (v := undef) rfl (by kernel_rfl) (by kernel_rfl) (by kernel_rfl) (fun _ _ _ h => h) (Or.inr ⟨by rfl, rfl⟩) hHeld ?_
        try simp only [Act.put, List.setIfInBounds_toArray, List.set_cons_zero, List.set_cons_succ, List.getElem_toArray, List.getElem_cons_succ, List.getElem_cons_zero]
        refine wpAnyH_take (i := 11) (v := undef) rfl (by kernel_rfl) (by kernel_rfl) (by kernel_rfl) (fun _ _ _ h => h) (Or.inr ⟨by rfl, rfl⟩) hHeld ?_
        try simp only [Act.put, List.setIfInBounds_toArray, List.set_cons_zero, List.set_cons_succ, List.getElem_toArray, List.getElem_cons_succ, List.getElem_cons_zero]
        refine wpAnyH_take (i := 12) (v := undef) rfl (by kernel_rfl) (by kernel_rfl) (by kernel_rfl) (fun _ _ _ h => h) (Or.inr ⟨by rfl, rfl⟩) hHeld ?_
        try simp only [Act.put, List.setIfInBounds_toArray, List.set_cons_zero, List.set_cons_succ, List.getElem_toArray, List.getElem_cons_succ, List.getElem_cons_zero]
        refine wpAnyH_take (i := 13) (v := undef) rfl (by kernel_rfl) (by kernel_rfl) (by kernel_rfl) (fun _ _ _ h => h) (Or.inr ⟨by rfl, rfl⟩) hHeld ?_
        try simp only [Act.put, List.setIfInBounds_toArray, List.set_cons_zero, List.set_cons_succ, List.getElem_toArray, List.getElem_cons_succ, List.getElem_cons_zero]
        refine wpAnyH_take (i := 14) (v := undef) rfl (by kernel_rfl) (by kernel_rfl) (by kernel_rfl) (fun _ _ _ h => h) (Or.inr ⟨by rfl, rfl⟩) hHeld ?_
        try simp only [Act.put, List.setIfInBounds_toArray, List.set_cons_zero, List.set_cons_succ, List.getElem_toArray, List.getElem_cons_succ, List.getElem_cons_zero]
        refine wpAnyH_take (i := 16) (v := undef) rfl (by kernel_rfl) (by kernel_rfl) (by kernel_rfl) (fun _ _ _ h => h) (Or.inr ⟨by rfl, rfl⟩) hHeld ?_
        try simp only [Act.put, List.setIfInBounds_toArray, List.set_cons_zero, List.set_cons_succ, List.getElem_toArray, List.getElem_cons_succ, List.getElem_cons_zero]
        refine wpAnyH_ready (rs := [15]) (by kernel_rfl) (by simp) ?_
        refine AllReadyH.cons rfl (fun K hK => ?_) AllReadyH.nil
        go_simp
        refine hK.out _ _ ?_ (fun hHeld => ?_)
        · assumption
        clear hK K
        try simp only [Act.put, List.setIfInBounds_toArray, List.set_cons_zero, List.set_cons_succ, List.getElem_toArray, List.getElem_cons_succ, List.getElem_cons_zero]
        refine wpAnyH_ready (rs := [17]) (by kernel_rfl) (by simp) ?_
        refine AllReadyH.cons rfl (fun K hK => ?_) AllReadyH.nil
        go_simp
        refine hK.out _ _ ?_ (fun hHeld => ?_)
        · assumption
        clear hK K
        try simp only [Act.put, List.setIfInBounds_toArray, List.set_cons_zero, List.set_cons_succ, List.getElem_toArray, List.getElem_cons_succ, List.getElem_cons_zero]
        refine wpAnyH_take (i := 18) (v := undef) rfl (by kernel_rfl) (by kernel_rfl) (by kernel_rfl) (fun _ _ _ h => h) (Or.inr ⟨by rfl, rfl⟩) hHeld ?_
        try simp only [Act.put, List.setIfInBounds_toArray, List.set_cons_zero, List.set_cons_succ, List.getElem_toArray, List.getElem_cons_succ, List.getElem_cons_zero]
        refine wpAnyH_take (i := 19) (v := undef) rfl (by kernel_rfl) (by kernel_rfl) (by kernel_rfl) (fun _ _ _ h => h) (Or.inr ⟨by rfl, rfl⟩) hHeld ?_
        try simp only [Act.put, List.setIfInBounds_toArray, List.set_cons_zero, List.set_cons_succ, List.getElem_toArray, List.getElem_cons_succ, List.getElem_cons_zero]
        refine wpAnyH_take (i := 20) (v := ?_) rfl (by kernel_rfl) (by kernel_rfl) (by kernel_rfl) (fun _ _ _ h => h) (Or.inl ⟨by rfl, ?_⟩) hHeld ?_
        rotate_left
        · intro W hSw
          go_simp
          try with_reducible rfl
        try simp only [Act.put, List.setIfInBounds_toArray, List.set_cons_zero, List.set_cons_succ, List.getElem_toArray, List.getElem_cons_succ, List.getElem_cons_zero]
        refine wpAnyH_done (by kernel_rfl) ?_ _
        go_wp2_with fail
        go_meet
        exact ⟨rfl, hHeld⟩
    case rest =>
      obtain ⟨rfl, hEE⟩ := hcut
      obtain ⟨y0_, y1_⟩ := ORow.cells hEE.j
      have HE := Lib.hid hEE
      by_cases hjc : jc = 0
      rotate_left
      · have hjn : (jc != 0) = true := bne_iff_ne.2 hjc
        go_wp2_with fail
        go_ret
        exact ⟨rfl, HE.out.bw⟩
      subst hjc
      clear hEE
      go_upto_region 14 with fail
      go_cut [144] (fun s144 wx => s144 = .bool false ∧ Env w bj bp bi Aj Ap r s cj cp 0 pc xc xs xe A1 A2 A3 A4 A5 a b l c d wx)
      case first =>
        have hEE := HE.out
        clear HE y0_ y1_
        refine wp_region_held_drew (S := Env w bj bp bi Aj Ap r s cj cp 0 pc xc xs xe A1 A2 A3 A4 A5 a b l c d) (by kernel_rfl) ?_ (fun hHeld => ?_)
        · exact hEE.step ((Below.refl _ _).drew)
        refine wpAnyH_take (i := 0) (v := ?_) rfl (by kernel_rfl) (by kernel_rfl) (by kernel_rfl) (fun _ _ _ h => h) (Or.inl ⟨by rfl, ?_⟩) hHeld ?_
        rotate_left
        · intro W hSw
          go_simp
          try with_reducible rfl
        try simp only [Act.put, List.setIfInBounds_toArray, List.set_cons_zero, List.set_cons_succ, List.getElem_toArray, List.getElem_cons_zero]
        refine wpAnyH_take (i := 1) (v := ?_) rfl (by kernel_rfl) (by kernel_rfl) (by kernel_rfl) (fun _ _ _ h => h) (Or.inl ⟨by rfl, ?_⟩) hHeld ?_
        rotate_left
        · intro W hSw
          obtain ⟨y0_, y1_⟩ := ORow.cells hSw.j
          obtain ⟨z0_, z1_⟩ := ORow.cells hSw.p
          obtain ⟨i0_, i1_, i2_⟩ := Id.IdRow.cells hSw.i
          clear hSw
          go_simp
          try with_reducible rfl
        try simp only [Act.put, List.setIfInBounds_toArray, List.set_cons_zero, List.set_cons_succ, List.getElem_toArray, List.getElem_cons_succ, List.getElem_cons_zero]
        refine wpAnyH_take (i := 2) (v := ?_) rfl (by kernel_rfl) (by kernel_rfl) (by kernel_rfl) (fun _ _ _ h => h) (Or.inl ⟨by rfl, ?_⟩) hHeld ?_
        rotate_left
        · intro W hSw
          go_simp
          try with_reducible rfl
        try simp only [Act.put, List.setIfInBounds_toArray, List.set_cons_zero, List.set_cons_succ, List.getElem_toArray, List.getElem_cons_succ, List.getElem_cons_zero]
        refine wpAnyH_ready (rs := [3]) (by kernel_rfl) (by simp) ?_
        refine AllReadyH.cons rfl (fun K hK => ?_) AllReadyH.nil
        go_simp
        refine (implCovers_any Aj (some A1) r a cj ca _ hHeld.lj hHeld.la (by unfold maxLen; omega) hal MJk.out KA.out).mono ?_
        rintro e v ⟨rfl, hb⟩
        rw [MJ1.out rfl]
        have hE := hHeld.step hb
        clear hb hHeld
        refine hK.out _ _ ?_ (fun hHeld => ?_)
        · exact hE
        clear hK K
        try simp only [Act.put, List.setIfInBounds_toArray, List.set_cons_zero, List.set_cons_succ, List.getElem_toArray, List.getElem_cons_succ, List.getElem_cons_zero]
        refine wpAnyH_take (i := 4) (v := ?_) rfl (by kernel_rfl) (by kernel_rfl) (by kernel_rfl) (fun _ _ _ h => h) (Or.inl ⟨by rfl, ?_⟩) hHeld ?_
        rotate_left
        · intro W hSw
          go_simp
          try with_reducible rfl
        try simp only [Act.put, List.setIfInBounds_toArray, List.set_cons_zero, List.set_cons_succ, List.getElem_toArray, List.getElem_cons_succ, List.getElem_cons_zero]
        refine wpAnyH_take (i := 5) (v := ?_) rfl (by kernel_rfl) (by kernel_rfl) (by kernel_rfl) (fun _ _ _ h => h) (Or.inl ⟨by rfl, ?_⟩) hHeld ?_
        rotate_left
        · intro W hSw
          go_simp
          try with_reducible rfl
        try simp only [Act.put, List.setIfInBounds_toArray, List.set_cons_zero, List.set_cons_succ, List.getElem_toArray, List.getElem_cons_succ, List.getElem_cons_zero]
        refine wpAnyH_take (i := 6) (v := ?_) rfl (by kernel_rfl) (by kernel_rfl) (by kernel_rfl) (fun _ _ _ h => h) (Or.inl ⟨by rfl, ?_⟩) hHeld ?_
        rotate_left
        · intro W hSw
          go_simp
          try with_reducible rfl
        try simp only [Act.put, List.setIfInBounds_toArray, List.set_cons_zero, List.set_cons_succ, List.getElem_toArray, List.getElem_cons_succ, List.getElem_cons_zero]
        refine wpAnyH_take (i := 7) (v := ?_) rfl (by kernel_rfl) (by kernel_rfl) (by kernel_rfl) (fun _ _ _ h => h) (Or.inl ⟨by rfl, ?_⟩) hHeld ?_
        rotate_left
        · intro W hSw
          obtain ⟨y0_, y1_⟩ := ORow.cells hSw.j
          obtain ⟨z0_, z1_⟩ := ORow.cells hSw.p
          obtain ⟨i0_, i1_, i2_⟩ := Id.IdRow.cells hSw.i
          clear hSw
          go_simp
          try with_reducible rfl
        try simp only [Act.put, List.setIfInBounds_toArray, List.set_cons_zero, List.set_cons_succ, List.getElem_toArray, List.getElem_cons_succ, List.getElem_cons_zero]
        refine wpAnyH_take (i := 8) (v := ?_) rfl (by kernel_rfl) (by kernel_rfl) (by kernel_rfl) (fun _ _ _ h => h) (Or.inl ⟨by rfl, ?_⟩) hHeld ?_
        rotate_left
        · intro W hSw
          go_simp
          try with_reducible rfl
        try simp only [Act.put, List.setIfInBounds_toArray, List.set_cons_zero, List.set_cons_succ, List.getElem_toArray, List.getElem_cons_succ, List.getElem_cons_zero]
        refine wpAnyH_ready (rs := [9]) (by kernel_rfl) (by simp) ?_
        refine AllReadyH.cons rfl (fun K hK => ?_) AllReadyH.nil
        go_simp
        refine (implCovers_any Aj (some A2) r b cj cb _ hHeld.lj hHeld.lb (by unfold maxLen; omega) hbl MJk.out KB.out).mono ?_
        rintro e v ⟨rfl, hb⟩
        rw [MJ2.out rfl]
        have hE := hHeld.step hb
        clear hb hHeld
        refine hK.out _ _ ?_ (fun hHeld => ?_)
        · exact hE
        clear hK K
        try simp only [Act.put, List.setIfInBounds_toArray, List.set_cons_zero, List.set_cons_succ, List.getElem_toArray, List.getElem_cons_succ, List.getElem_cons_zero]
        refine wpAnyH_take (i := 10) (v := ?_) rfl (by kernel_rfl) (by kernel_rfl) (by kernel_rfl) (fun _ _ _ h => h) (Or.inl ⟨by rfl, ?_⟩) hHeld ?_
        rotate_left
        · intro W hSw
          go_simp
          try with_reducible rfl
        try simp only [Act.put, List.setIfInBounds_toArray, List.set_cons_zero, List.set_cons_succ, List.getElem_toArray, List.getElem_cons_succ, List.getElem_cons_zero]
        refine wpAnyH_take (i := 11) (v := ?_) rfl (by kernel_rfl) (by kernel_rfl) (by kernel_rfl) (fun _ _ _ h => h) (Or.inl ⟨by rfl, ?_⟩) hHeld ?_
        rotate_left
        · intro W hSw
          go_simp
          try with_reducible rfl
        try simp only [Act.put, List.setIfInBounds_toArray, List.set_cons_zero, List.set_cons_succ, List.getElem_toArray, List.getElem_cons_succ, List.getElem_cons_zero]
        refine wpAnyH_take (i := 12) (v := ?_) rfl (by kernel_rfl) (by kernel_rfl) (by kernel_rfl) (fun _ _ _ h => h) (Or.inl ⟨by rfl, ?_⟩) hHeld ?_
        rotate_left
        · intro W hSw
          go_simp
          try with_reducible rfl
        try simp only [Act.put, List.setIfInBounds_toArray, List.set_cons_zero, List.set_cons_succ, List.getElem_toArray, List.getElem_cons_succ, List.getElem_cons_zero]
        refine wpAnyH_take (i := 13) (v := ?_) rfl (by kernel_rfl) (by kernel_rfl) (by kernel_rfl) (fun _ _ _ h => h) (Or.inl ⟨by rfl, ?_⟩) hHeld ?_
        rotate_left
        · intro W hSw
          go_simp
          try with_reducible rfl
        try simp only [Act.put, List.setIfInBounds_toArray, List.set_cons_zero, List.set_cons_succ, List.getElem_toArray, List.getElem_cons_succ, List.getElem_cons_zero]
        refine wpAnyH_take (i := 14) (v := ?_) rfl (by kernel_rfl) (by kernel_rfl) (by kernel_rfl) (fun _ _ _ h => h) (Or.inl ⟨by rfl, ?_⟩) hHeld ?_
        rotate_left
        · intro W hSw
          go_simp
          try with_reducible rfl
        try simp only [Act.put, List.setIfInBounds_toArray, List.set_cons_zero, List.set_cons_succ, List.getElem_toArray, List.getElem_cons_succ, List.getElem_cons_zero]
        refine wpAnyH_take (i := 16) (v := ?_) rfl (by kernel_rfl) (by kernel_rfl) (by kernel_rfl) (fun _ _ _ h => h) (Or.inl ⟨by rfl, ?_⟩) hHeld ?_
        rotate_left
        · intro W hSw
          obtain ⟨y0_, y1_⟩ := ORow.cells hSw.j
          obtain ⟨z0_, z1_⟩ := ORow.cells hSw.p
          obtain ⟨i0_, i1_, i2_⟩ := Id.IdRow.cells hSw.i
          clear hSw
          go_simp
          try with_reducible rfl
        try simp only [Act.put, List.setIfInBounds_toArray, List.set_cons_zero, List.set_cons_succ, List.getElem_toArray, List.getElem_cons_succ, List.getElem_cons_zero]
        refine wpAnyH_ready (rs := [15]) (by kernel_rfl) (by simp) ?_
        refine AllReadyH.cons rfl (fun K hK => ?_) AllReadyH.nil
        go_simp
        refine (implJoinOut_any (some A2) (some A1) b a cb ca _ hHeld.lb hHeld.la hbl hal KB.out KA.out).mono ?_
        rintro e v hans
        rw [(MJc.out rfl).2, (MJc.out rfl).1] at hans
        obtain ⟨At, ct, rfl, _, _, lt, hb⟩ := hans
        unfold outV slV
        have hE := hHeld.step hb
        clear hb hHeld
        refine hK.out _ _ ?_ (fun hHeld => ?_)
        · exact hE
        clear hK K
        try simp only [Act.put, List.setIfInBounds_toArray, List.set_cons_zero, List.set_cons_succ, List.getElem_toArray, List.getElem_cons_succ, List.getElem_cons_zero]
        refine wpAnyH_ready (rs := [17]) (by kernel_rfl) (by simp) ?_
        refine AllReadyH.cons rfl (fun K hK => ?_) AllReadyH.nil
        go_simp
        refine (lwOut_same At Aj r ct cj 0 _ lt hHeld.lj (by omega) MJk.out MJ0.out).mono ?_
        rintro e v ⟨rfl, hb⟩
        clear lt
        have hE := hHeld.step hb
        clear hb hHeld
        refine hK.out _ _ ?_ (fun hHeld => ?_)
        · exact hE
        clear hK K
        try simp only [Act.put, List.setIfInBounds_toArray, List.set_cons_zero, List.set_cons_succ, List.getElem_toArray, List.getElem_cons_succ, List.getElem_cons_zero]
        refine wpAnyH_take (i := 18) (v := ?_) rfl (by kernel_rfl) (by kernel_rfl) (by kernel_rfl) (fun _ _ _ h => h) (Or.inl ⟨by rfl, ?_⟩) hHeld ?_
        rotate_left
        · intro W hSw
          go_simp
          try with_reducible rfl
        try simp only [Act.put, List.setIfInBounds_toArray, List.set_cons_zero, List.set_cons_succ, List.getElem_toArray, List.getElem_cons_succ, List.getElem_cons_zero]
        refine wpAnyH_take (i := 19) (v := ?_) rfl (by kernel_rfl) (by kernel_rfl) (by kernel_rfl) (fun _ _ _ h => h) (Or.inl ⟨by rfl, ?_⟩) hHeld ?_
        rotate_left
        · intro W hSw
          go_simp
          try with_reducible rfl
        try simp only [Act.put, List.setIfInBounds_toArray, List.set_cons_zero, List.set_cons_succ, List.getElem_toArray, List.getElem_cons_succ, List.getElem_cons_zero]
        refine wpAnyH_take (i := 20) (v := ?_) rfl (by kernel_rfl) (by kernel_rfl) (by kernel_rfl) (fun _ _ _ h => h) (Or.inl ⟨by rfl, ?_⟩) hHeld ?_
        rotate_left
        · intro W hSw
          go_simp
          try with_reducible rfl
        try simp only [Act.put, List.setIfInBounds_toArray, List.set_cons_zero, List.set_cons_succ, List.getElem_toArray, List.getElem_cons_succ, List.getElem_cons_zero]
        refine wpAnyH_take (i := 21) (v := ?_) rfl (by kernel_rfl) (by kernel_rfl) (by kernel_rfl) (fun _ _ _ h => h) (Or.inl ⟨by rfl, ?_⟩) hHeld ?_
        rotate_left
        · intro W hSw
          go_simp
          try with_reducible rfl
        try simp only [Act.put, List.setIfInBounds_toArray, List.set_cons_zero, List.set_cons_succ, List.getElem_toArray, List.getElem_cons_succ, List.getElem_cons_zero]
        refine wpAnyH_take (i := 22) (v := ?_) rfl (by kernel_rfl) (by kernel_rfl) (by kernel_rfl) (fun _ _ _ h => h) (Or.inl ⟨by rfl, ?_⟩) hHeld ?_
        rotate_left
        · intro W hSw
          obtain ⟨y0_, y1_⟩ := ORow.cells hSw.j
          obtain ⟨z0_, z1_⟩ := ORow.cells hSw.p
          obtain ⟨i0_, i1_, i2_⟩ := Id.IdRow.cells hSw.i
          clear hSw
          go_simp
          try with_reducible rfl
        try simp only [Act.put, List.setIfInBounds_toArray, List.set_cons_zero, List.set_cons_succ, List.getElem_toArray, List.getElem_cons_succ, List.getElem_cons_zero]
        refine wpAnyH_take (i := 23) (v := ?_) rfl (by kernel_rfl) (by kernel_rfl) (by kernel_rfl) (fun _ _ _ h => h) (Or.inl ⟨by rfl, ?_⟩) hHeld ?_
        rotate_left
        · intro W hSw
          go_simp
          try with_reducible rfl
        try simp only [Act.put, List.setIfInBounds_toArray, List.set_cons_zero, List.set_cons_succ, List.getElem_toArray, List.getElem_cons_succ, List.getElem_cons_zero]
        refine wpAnyH_take (i := 25) (v := ?_) rfl (by kernel_rfl) (by kernel_rfl) (by kernel_rfl) (fun _ _ _ h => h) (Or.inl ⟨by rfl, ?_⟩) hHeld ?_
        rotate_left
        · intro W hSw
          obtain ⟨y0_, y1_⟩ := ORow.cells hSw.j
          obtain ⟨z0_, z1_⟩ := ORow.cells hSw.p
          obtain ⟨i0_, i1_, i2_⟩ := Id.IdRow.cells hSw.i
          clear hSw
          go_simp
          try with_reducible rfl
        try simp only [Act.put, List.setIfInBounds_toArray, List.set_cons_zero, List.set_cons_succ, List.getElem_toArray, List.getElem_cons_succ, List.getElem_cons_zero]
        refine wpAnyH_ready (rs := [24]) (by kernel_rfl) (by simp) ?_
        refine AllReadyH.cons rfl (fun K hK => ?_) AllReadyH.nil
        go_simp
        refine (implJoinOut_any Aj (some A1) r a cj ca _ hHeld.lj hHeld.la (by unfold maxLen; omega) hal MJk.out KA.out).mono ?_
        rintro e v hans
        rw [(MJa.out rfl).2, (MJa.out rfl).1] at hans
        obtain ⟨At, ct, rfl, _, _, lt, hb⟩ := hans
        unfold outV slV
        have hE := hHeld.step hb
        clear hb hHeld
        refine hK.out _ _ ?_ (fun hHeld => ?_)
        · exact hE
        clear hK K
        try simp only [Act.put, List.setIfInBounds_toArray, List.set_cons_zero, List.set_cons_succ, List.getElem_toArray, List.getElem_cons_succ, List.getElem_cons_zero]
        refine wpAnyH_ready (rs := [26]) (by kernel_rfl) (by simp) ?_
        refine AllReadyH.cons rfl (fun K hK => ?_) AllReadyH.nil
        go_simp
        refine (lwOut_same At Aj r ct cj 0 _ lt hHeld.lj (by omega) MJk.out MJ0.out).mono ?_
        rintro e v ⟨rfl, hb⟩
        clear lt
        have hE := hHeld.step hb
        clear hb hHeld
        refine hK.out _ _ ?_ (fun hHeld => ?_)
        · exact hE
        clear hK K
        try simp only [Act.put, List.setIfInBounds_toArray, List.set_cons_zero, List.set_cons_succ, List.getElem_toArray, List.getElem_cons_succ, List.getElem_cons_zero]
        refine wpAnyH_take (i := 27) (v := ?_) rfl (by kernel_rfl) (by kernel_rfl) (by kernel_rfl) (fun _ _ _ h => h) (Or.inl ⟨by rfl, ?_⟩) hHeld ?_
        rotate_left
        · intro W hSw
          go_simp
          try with_reducible rfl
        try simp only [Act.put, List.setIfInBounds_toArray, List.set_cons_zero, List.set_cons_succ, List.getElem_toArray, List.getElem_cons_succ, List.getElem_cons_zero]
        refine wpAnyH_take (i := 28) (v := ?_) rfl (by kernel_rfl) (by kernel_rfl) (by kernel_rfl) (fun _ _ _ h => h) (Or.inl ⟨by rfl, ?_⟩) hHeld ?_
        rotate_left
        · intro W hSw
          go_simp
          try with_reducible rfl
        try simp only [Act.put, List.setIfInBounds_toArray, List.set_cons_zero, List.set_cons_succ, List.getElem_toArray, List.getElem_cons_succ, List.getElem_cons_zero]
        refine wpAnyH_done (by kernel_rfl) ?_ _
        go_wp2_with fail
        go_meet
        exact ⟨rfl, hHeld⟩
      case rest =>
        obtain ⟨rfl, hEE⟩ := hcut
        clear HE y0_ y1_
        have HE := Lib.hid hEE
        clear hEE
        obtain ⟨ga, hga⟩ : ∃ ga, covB c a = ga := ⟨_, rfl⟩
        have HGA := Lib.hid hga
        obtain ⟨gb, hgb⟩ : ∃ gb, covB c b = gb := ⟨_, rfl⟩
        have HGB := Lib.hid hgb
        clear hga hgb
        go_wp2_with fail
        refine (specCovers_any (some A4) (some A1) c a cc ca _ HE.out.lc HE.out.la hcl hal KC.out KA.out).mono ?_
        rintro e k1 ⟨rfl, hb⟩
        rw [HGA.out]
        have HE := Lib.hid (HE.out.step hb)
        clear hb
        cases ga
        · go_wp2_with fail
          go_ret
          exact ⟨rfl, HE.out.bw⟩
        go_wp2_with fail
        refine (specCovers_any (some A4) (some A2) c b cc cb _ HE.out.lc HE.out.lb hcl hbl KC.out KB.out).mono ?_
        rintro e k2 ⟨rfl, hb⟩
        rw [HGB.out]
        have HE := Lib.hid (HE.out.step hb)
        clear hb
        cases gb
        · go_wp2_with fail
          go_ret
          exact ⟨rfl, HE.out.bw⟩
        obtain ⟨y0_, y1_⟩ := ORow.cells HE.out.j
        go_wp2_with fail
        refine (implCovers_any (some A4) Aj c r cc cj _ HE.out.lc HE.out.lj hcl (by unfold maxLen; omega) KC.out MJk.out).mono ?_
        rintro e k3 ⟨rfl, hb⟩
        rw [MJ3.out c (by trivial) HGA.out HGB.out]
        have HE := Lib.hid (HE.out.step hb)
        clear hb
        go_wp2_with fail
        go_ret
        exact ⟨rfl, HE.out.bw⟩
end Go.Proofs.Ytkmlnibkdcdegaa.Dep
