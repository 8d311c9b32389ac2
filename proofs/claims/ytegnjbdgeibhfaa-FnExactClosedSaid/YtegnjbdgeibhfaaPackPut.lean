/-
  Several texts in one: DepPut, DepJoin, DepOpen, DepOut.
-/
import Derived.Test.YtegnjbdgeibhfaaPackDep
import Derived.Deep.DeepCutAuto
import Derived.StillTailTactics
import Derived.Deep.Slices
import Derived.ChangeArms
import Derived.Test.YtegnjbdgeibhfaaDepRight
/-
  spec.l03Put: deps with a key up to an Id, in a row of its own.
-/
namespace Go.Proofs.Ytegnjbdgeibhfaa.Dep
open Go.ChangeShapes Go.WideShapes Go.ChangeAt Go.RowKit
set_option linter.unusedVariables false
set_option maxRecDepth 100000

theorem sem_pure0 (w : World) : Sem.run Try.prog (pure (#[] : Array Value)) w = .ok #[] w := rfl
theorem sem_store0 (p : Addr) (w : World) : Sem.run Try.prog (storeCells p []) w = .ok () w := rfl
attribute [local go_sem] sem_pure0 sem_store0

theorem own_none (w : World) : (w.alloc (Obj.cells #[] 80)).ownsRow w.heap.size 80 4 (.slice (some ⟨w.heap.size, 0, none⟩) 0 0) 0 (flat []) :=
  ⟨rfl, .inr ⟨_, 0, #[], rfl, Nat.le_refl _, heap_alloc_new w _, Nat.le_refl _, by simp [maxLen], rfl, rfl⟩⟩
theorem ownBlock_base {w : World} {base n : Nat} {v : Value} {xs : List Value} (h : w.ownsRow base 80 4 v n xs) : ∀ k, v.ownBlock = some k → base ≤ k := by
  rcases h.2 with ⟨rfl, _⟩ | ⟨g, cap, cur, rfl, hb, _⟩
  · intro k e; cases e
  · intro k e; cases e; exact hb
theorem own_alloc {w : World} {base n : Nat} {v : Value} {xs : List Value} (h : w.ownsRow base 80 4 v n xs) (o : Obj) : (w.alloc o).ownsRow base 80 4 v n xs := by
  refine ⟨h.1, h.2.imp id ?_⟩
  rintro ⟨g, cap, cur, e, hb, hh, r⟩
  exact ⟨g, cap, cur, e, hb, (heap_alloc_old w o (Array.getElem?_eq_some_iff.1 hh).1).trans hh, r⟩
theorem own_step {w w' : World} {base n : Nat} {v : Value} {xs : List Value} (h : w.ownsRow base 80 4 v n xs) {N : Nat} (hb : Below N w w') (hN : w.heap.size ≤ N) : w'.ownsRow base 80 4 v n xs := by
  refine ⟨h.1, h.2.imp id ?_⟩
  rintro ⟨g, cap, cur, e, hb', hh, r⟩
  exact ⟨g, cap, cur, e, hb', (hb.block g (by have := (Array.getElem?_eq_some_iff.1 hh).1; omega)).trans hh, r⟩
theorem own_less {w : World} {base base' n : Nat} {v : Value} {xs : List Value} (h : w.ownsRow base 80 4 v n xs) (hb : base' ≤ base) : w.ownsRow base' 80 4 v n xs :=
  ⟨h.1, h.2.imp id fun ⟨g, cap, cur, e, hb', r⟩ => ⟨g, cap, cur, e, by omega, r⟩⟩
/-- A store elsewhere. -/
theorem own_set {w : World} {base n : Nat} {v : Value} {xs : List Value} (h : w.ownsRow base 80 4 v n xs) {p : Addr} (hp : p.block < base) (u : Value) : (w.setCell p u).ownsRow base 80 4 v n xs := by
  refine ⟨h.1, h.2.imp id ?_⟩
  rintro ⟨g, cap, cur, e, hb', hh, r⟩
  refine ⟨g, cap, cur, e, hb', ?_, r⟩
  rw [← hh]
  exact heap_setCell_other w p g u (by omega)
theorem lies_drop_nil {w : World} {B : Nat} {A : Option Addr} {l : List D} {k : Nat} (h : l.length ≤ k) : Lies w B A (l.drop k) := fun h0 => by rw [List.length_drop] at h0; omega
theorem lies_drop_add {w : World} {B : Nat} {ad : Addr} {l : List D} (k : Nat) (h : Lies w B (some ad) l) : Lies w B (some (ad.add (k * 4))) (l.drop k) := fun h0 => by
  rw [List.length_drop] at h0
  obtain ⟨ad', e, hb, hc⟩ := h (by omega)
  cases e
  refine ⟨ad.add (k * 4), rfl, by rw [add_block]; exact hb, fun j hj => ?_⟩
  rw [List.length_drop] at hj
  rw [List.getElem_drop, add_add, show k * 4 + j * 4 = (k + j) * 4 by omega]
  exact hc (k + j) (by omega)
theorem specMaxI_any (x y : I) (w : World) :
    Calls Try.prog 85 #[x.val, y.val] w fun e w' => e = .returned (x.max y).val ∧ Below w.heap.size w w' :=
  (Id.specMax_any x.c x.s x.e y.c y.s y.e w).mono fun e w' ⟨h1, h2⟩ => ⟨by rw [h1]; congr 1; unfold Id.maxV I.max I.less; split <;> rfl, h2⟩
theorem lies_drop_if {w : World} {B : Nat} {ad : Addr} {l : List D} {cap : Nat} (k : Nat) (h : Lies w B (some ad) l) (hcap : l.length ≤ cap) : Lies w B (if cap = k then some ad else some (ad.add (k * 4))) (l.drop k) := by
  split
  · exact lies_drop_nil (by omega)
  · exact lies_drop_add k h
/-- What a new row of one dep reads as. -/
theorem one_lies (w : World) (d : D) : Lies (w.alloc d.obj) (w.alloc d.obj).heap.size (some ⟨w.heap.size, 0, none⟩) [d] := fun _ => by
  refine ⟨_, rfl, by simp, fun j hj => ?_⟩
  have : j = 0 := by simpa using hj
  subst this
  obtain ⟨d0, d1, d2, d3⟩ := (DepRow.new w 80 d.k d.i.c d.i.s d.i.e).cells
  exact ⟨d0, d1, d2, d3⟩
/-- The Id in the box is another one. -/
theorem box_set {w : World} {b : Nat} {x : I} (h : Id.IdRow w b 58 x.c x.s x.e) (y : I) :
    Id.IdRow (((w.setCell ⟨b, 0, none⟩ (.int .i64 y.c)).setCell ⟨b, 1, none⟩ (.int .i64 y.s)).setCell ⟨b, 2, none⟩ (.int .i64 y.e)) b 58 y.c y.s y.e := by
  have h1 := row_set (row_set (row_set h 0 (.int .i64 y.c)) 1 (.int .i64 y.s)) 2 (.int .i64 y.e)
  exact h1

theorem wpList_append_deps {ops : Array Oper} {rest : List Oper} {o : Oper} {a : Act} {w : World} {Q : Exit → Act → World → Prop} (hgd : o.guard = none) {s x : Operand}
    (ho : o.op = .call { callee := .builtin .append, args := #[s, x], argTypes := #[22, 22] }) (hty : o.type = 22) {base : Nat} {v : Value} {n : Nat} {l : List D} {A : Option Addr} {j c B : Nat} (m : List D)
    (hs : a.eval s = v) (hx : a.eval x = .slice A j c) (hj : m.length = j) (hown : w.ownsRow base 80 4 v n (flat l)) (hr : Lies w B A m) (h63 : n + m.length ≤ 4194304) (hbase : base ≤ w.heap.size)
    (h : ∀ v' w', w'.ownsRow base 80 4 v' (n + m.length) (flat (l ++ m)) → w.grownBy w' v.ownBlock → wpList Try.prog ops Q rest (a.put o.dst v') w') : wpList Try.prog ops Q (o :: rest) a w := by
  refine wpList_plain hgd fun K hK => ?_
  obtain ⟨v', w', hrun, h2, h3, _⟩ := run_append_deps base v n l w hown B A m c hr h63 hbase
  unfold slV at hrun
  rw [hj] at hrun
  unfold Oper.wp execOp
  rw [hty]
  simp only [ho, resolve, invoke, builtin, Sem.run_bind, Sem.run_pure, Result.andThen_ok, List.map_toArray, List.map_cons, List.map_nil, hs, hx, hrun]
  exact hK _ _ (h v' w' h2 h3)

set_option maxHeartbeats 4000000 in
set_option maxRecDepth 100000 in
theorem specPut_any (ad : Addr) (l : List D) (cap : Nat) (q : ByteArray) (x : I) (w : World) (h : Lies w w.heap.size (some ad) l) (hl : l.length ≤ 1048576) (hcap : l.length ≤ cap) (hcm : cap ≤ maxLen) :
    Calls Try.prog 58 #[slV (some ad) l cap, .string q, x.val] w fun e w' => ∃ v, e = .returned v ∧ w'.ownsRow w.heap.size 80 4 v (putV l q x).length (flat (putV l q x)) ∧ Below w.heap.size w w' := by
  unfold maxLen at hcm
  have H := Lib.hid h
  clear h
  unfold slV I.val Id.idV
  go_enter Try.func58, Try.ntmps58
  go_wp2_with fail
  have H1 := Lib.hid (H.out.alloc (Nat.le_refl _) (Obj.cells #[Value.int IntKind.i64 x.c, Value.int IntKind.i64 x.s, Value.int IntKind.i64 x.e] 58))
  have B1 := Lib.hid ((Below.refl w.heap.size w).alloc (Nat.le_refl _) (Obj.cells #[Value.int IntKind.i64 x.c, Value.int IntKind.i64 x.s, Value.int IntKind.i64 x.e] 58))
  have R1 := Lib.hid (Id.IdRow.new w 58 x.c x.s x.e)
  have hsz : (World.alloc w (Obj.cells #[Value.int IntKind.i64 x.c, Value.int IntKind.i64 x.s, Value.int IntKind.i64 x.e] 58)).heap.size = w.heap.size + 1 := by simp
  generalize hbb : w.heap.size = b at *
  generalize World.alloc w _ = W at *
  clear H
  go_loop [7] (fun i => ∃ k : Nat, k ≤ l.length ∧ i = .int .i64 k ∧ Hid (∀ j (hj : j < l.length), j < k → kl l[j].k q = true)) (fun i => l.length - (intOf i).toNat)
  case atStart => exact ⟨0, by omega, rfl, Lib.hid fun j hj hjk => absurd hjk (by omega)⟩
  case round =>
    obtain ⟨k, hk, rfl, HJ⟩ := hrel
    have hkl : (l.take k).length = k := by rw [List.length_take]; omega
    have HT := Lib.hid ((H1.out.alloc (by omega) (Obj.cells #[] 80)).take k)
    have hk3 : k ≤ cap := by omega
    have HS := Lib.hid hsz
    clear hsz
    by_cases hlt : k < l.length
    · obtain ⟨ad', ea, hb, c0, c1, c2, c3⟩ := H1.out.at_ hlt
      cases ea
      cases hkl2 : Op.bytesLess l[k].k.toList q.toList
      · by_cases he : l[k].k = q
        · have hee : (l[k].k.toList == q.toList) = true := by rw [he]; exact beq_self_eq_true _
          have HE := Lib.hid he
          have HL := Lib.hid hkl2
          clear he c1 c2 c3
          obtain ⟨y, hy⟩ : ∃ y, l[k] = y := ⟨_, rfl⟩
          have HY := Lib.hid hy
          rw [hy] at hee hkl2 c0
          clear hy
          go_upto_region 6 with (at_builtin; refine wpList_append_deps rfl rfl rfl (l.take k) rfl rfl hkl (own_none W) HT.out (by rw [hkl]; omega) (by simp) ?_; intro v1 W1 ho1 hg1; have hS := HS.out; rw [hkl, Nat.zero_add, List.nil_append, hS] at ho1; have BW1 : Below (b + 1) W W1 := ((Below.refl _ W).alloc (by omega) _).grown hg1 (by simp; omega) (fun j e => by cases e; show b + 1 ≤ W.heap.size; omega); have HB1 := Lib.hid BW1; have HO1 := Lib.hid ho1; have L1 := Lib.hid (H1.out.below BW1 (by omega)); have hR := R1.out.step BW1 (by omega); have R2 := Lib.hid hR; obtain ⟨r0, r1, r2⟩ := hR.cells; have f0 := Id.id_free (Below.refl _ _) hR.lt hR 0; have f1 := Id.id_free (Below.refl _ _) hR.lt hR 1; have f2 := Id.id_free (Below.refl _ _) hR.lt hR 2; have hs2 : b + 1 ≤ W1.heap.size := (by have := BW1.size; omega); clear ho1 hg1 BW1 hR hS; have d := (L1.out.at_ hlt); obtain ⟨_, ea, _, d0, d1, d2, d3⟩ := d; cases ea; rw [HY.out] at d0 d1 d2 d3)
          refine wp_region_still_tail 6 (by kernel_rfl) (by kernel_rfl) ?_
          change wpStill _ _ (World.drew _) (fun a' => wpList _ _ _ _ a' (World.drew _)) _ _
          simp only [List.take_succ_cons, List.take_zero, List.drop_succ_cons, List.drop_zero]
          repeat still_step
          refine wpStill_nil ?_
          go_wp2_with fail
          refine (specMaxI_any y.i x _).mono ?_
          rintro e w2 ⟨rfl, hb2⟩
          obtain ⟨z, hz⟩ : ∃ z, y.i.max x = z := ⟨_, rfl⟩
          have HZ := Lib.hid hz
          rw [hz]
          clear hz d0 d1 d2 d3 r0 r1 r2 f0 f1 f2
          have hR := Id.IdRow.step (W := W1.drew) (w1 := w2) R2.out hb2 R2.out.lt
          obtain ⟨r0, r1, r2⟩ := hR.cells
          have f0 := Id.id_free (Below.refl _ _) hR.lt hR 0
          have f1 := Id.id_free (Below.refl _ _) hR.lt hR 1
          have f2 := Id.id_free (Below.refl _ _) hR.lt hR 2
          have O0 := own_set (own_set (own_set (own_step (w := W1.drew) HO1.out hb2 (Nat.le_refl _)) (p := ⟨b, 0, none⟩) (by simp) (.int .i64 z.c)) (p := ⟨b, 1, none⟩) (by simp) (.int .i64 z.s)) (p := ⟨b, 2, none⟩) (by simp) (.int .i64 z.e)
          have R0 := box_set hR z
          have b2 : Below b W1 w2 := (Below.refl b W1).drew.trans (hb2.mono (show b ≤ W1.heap.size by omega))
          have B0 := ((b2.setCell (p := ⟨b, 0, none⟩) (Nat.le_refl _) (.int .i64 z.c)).setCell (p := ⟨b, 1, none⟩) (Nat.le_refl _) (.int .i64 z.s)).setCell (p := ⟨b, 2, none⟩) (Nat.le_refl _) (.int .i64 z.e)
          have hk4 : k + 1 ≤ l.length := hlt
          have hk5 : k + 1 ≤ cap := by omega
          have O0h := Lib.hid O0
          have R0h := Lib.hid R0
          have B0h := Lib.hid B0
          clear O0 R0 B0 b2 hR hb2
          unfold I.val Id.idV
          go_upto_region 8 with fail
          generalize World.setCell _ _ _ = V1 at O0h R0h B0h ⊢
          have HO1 := O0h
          have L1 := Lib.hid (L1.out.below B0h.out (Nat.le_refl _))
          have hs2 : b + 1 ≤ V1.heap.size := by have := B0h.out.size; omega
          have hb0 := Lib.hid (B1.out.trans ((HB1.out.mono (by omega)).trans B0h.out))
          clear B0h c0 r0 r1 r2 f0 f1 f2
          obtain ⟨r0, r1, r2⟩ := R0h.out.cells
          obtain ⟨m, hm⟩ : ∃ m, m = k + 1 := ⟨_, rfl⟩
          have em : ((k : Int) + 1) = (m : Int) := by omega
          have HM := Lib.hid hm
          have hm1 : m ≤ l.length := by omega
          have hm2 : m ≤ cap := by omega
          simp only [em]
          clear em hm
          go_wp2_with (first | (at_builtin; refine wpList_append_deps rfl rfl rfl [⟨q, z⟩] rfl rfl rfl (own_alloc HO1.out (D.obj ⟨q, z⟩)) (one_lies _ ⟨q, z⟩) (by simp; omega) (by simp; omega) ?_; intro v2 W2 ho2 hg2; have B2 := Lib.hid (((Below.refl _ _).alloc hs2 (D.obj ⟨q, z⟩)).grown hg2 (by simp; omega) (ownBlock_base HO1.out)); have L2 := Lib.hid (L1.out.below B2.out (by omega)); have O2 := Lib.hid ho2; clear ho2 hg2) | (at_builtin; refine wpList_append_deps (B := b) rfl rfl rfl (l.drop m) rfl rfl List.length_drop O2.out (by first | exact lies_drop_nil (by omega) | exact lies_drop_add m L2.out | exact lies_drop_if m L2.out hcap) (by simp; omega) (by have := B2.out.size; omega) ?_; intro v3 W3 ho3 hg3; have O3 := Lib.hid ho3; have B3 := Lib.hid (B2.out.grown hg3 (by have := B2.out.size; omega) (ownBlock_base O2.out)); clear ho3 hg3))
          all_goals
            go_ret
            subst hbb
            refine ⟨_, rfl, ?_, hb0.out.trans (B3.out.mono (by omega))⟩
            rw [show putV l q x = l.take k ++ ⟨q, z⟩ :: l.drop m from (put_at x hk HJ.out (fun hj => by rw [show kl l[k].k q = false from HL.out]; exact Bool.false_ne_true)).trans (by rw [dif_pos hlt, if_pos HE.out, HY.out, HZ.out, HM.out])]
            have := own_less O3.out (show w.heap.size ≤ w.heap.size + 1 by omega)
            have hkk := HM.out
            simpa [Nat.min_eq_left hk, Nat.add_assoc, Nat.add_comm, Nat.add_left_comm] using this
        · have hee : (l[k].k.toList == q.toList) = false := beq_eq_false_iff_ne.2 fun h => he (list_eq (by rw [← ByteArray.toList_eq, ← ByteArray.toList_eq]; exact h))
          have HE := Lib.hid he
          have HL := Lib.hid hkl2
          clear he
          go_wp2_with (first | (at_builtin; refine wpList_append_deps rfl rfl rfl (l.take k) rfl rfl hkl (own_none W) HT.out (by rw [hkl]; omega) (by simp) ?_; intro v1 W1 ho1 hg1; have hS := HS.out; rw [hkl, Nat.zero_add, List.nil_append, hS] at ho1; have BW1 : Below (b + 1) W W1 := ((Below.refl _ W).alloc (by omega) _).grown hg1 (by simp; omega) (fun j e => by cases e; show b + 1 ≤ W.heap.size; omega); have HB1 := Lib.hid BW1; have HO1 := Lib.hid ho1; have L1 := Lib.hid (H1.out.below BW1 (by omega)); have hR := R1.out.step BW1 (by omega); have R2 := Lib.hid hR; obtain ⟨r0, r1, r2⟩ := hR.cells; have f0 := Id.id_free (Below.refl _ _) hR.lt hR 0; have f1 := Id.id_free (Below.refl _ _) hR.lt hR 1; have f2 := Id.id_free (Below.refl _ _) hR.lt hR 2; have hs2 : b + 1 ≤ W1.heap.size := (by have := BW1.size; omega); clear ho1 hg1 BW1 hR hS; have d := (L1.out.at_ hlt); obtain ⟨_, ea, _, d0, d1, d2, d3⟩ := d; cases ea) | (at_builtin; refine wpList_append_deps rfl rfl rfl [⟨q, x⟩] rfl rfl rfl (own_alloc HO1.out (D.obj ⟨q, x⟩)) (one_lies _ ⟨q, x⟩) (by simp; omega) (by simp; omega) ?_; intro v2 W2 ho2 hg2; have B2 := Lib.hid (((Below.refl _ _).alloc hs2 (D.obj ⟨q, x⟩)).grown hg2 (by simp; omega) (ownBlock_base HO1.out)); have L2 := Lib.hid (L1.out.below B2.out (by omega)); have O2 := Lib.hid ho2; clear ho2 hg2) | (at_builtin; refine wpList_append_deps (B := b) rfl rfl rfl (l.drop k) rfl rfl List.length_drop O2.out (by first | exact lies_drop_nil (by omega) | exact lies_drop_add k L2.out | exact lies_drop_if k L2.out hcap) (by simp; omega) (by have := B2.out.size; omega) ?_; intro v3 W3 ho3 hg3; have O3 := Lib.hid ho3; have B3 := Lib.hid (B2.out.grown hg3 (by have := B2.out.size; omega) (ownBlock_base O2.out)); clear ho3 hg3))
          all_goals
            go_ret
            subst hbb
            refine ⟨_, rfl, ?_, B1.out.trans ((HB1.out.trans B3.out).mono (by omega))⟩
            rw [show putV l q x = l.take k ++ ⟨q, x⟩ :: l.drop k from (put_at x hk HJ.out (fun hj => by rw [show kl l[k].k q = false from HL.out]; exact Bool.false_ne_true)).trans (by rw [dif_pos hlt, if_neg HE.out])]
            have := own_less O3.out (show w.heap.size ≤ w.heap.size + 1 by omega)
            simpa [Nat.min_eq_left hk, Nat.add_assoc, Nat.add_comm, Nat.add_left_comm] using this
      · have HL := Lib.hid hkl2
        go_wp2_with fail
        go_round
        case rel => exact ⟨k + 1, by omega, by go_num, Lib.hid fun j hj hjk => by
          by_cases e : j = k
          · subst e; exact HL.out
          · exact HJ.out j hj (by omega)⟩
        case measure => simp [intOf]; omega
    · have hlt2 : ¬ (k : Int) < l.length := by omega
      go_wp2_with (first | (at_builtin; refine wpList_append_deps rfl rfl rfl (l.take k) rfl rfl hkl (own_none W) HT.out (by rw [hkl]; omega) (by simp) ?_; intro v1 W1 ho1 hg1; have hS := HS.out; rw [hkl, Nat.zero_add, List.nil_append, hS] at ho1; have BW1 : Below (b + 1) W W1 := ((Below.refl _ W).alloc (by omega) _).grown hg1 (by simp; omega) (fun j e => by cases e; show b + 1 ≤ W.heap.size; omega); have HB1 := Lib.hid BW1; have HO1 := Lib.hid ho1; have L1 := Lib.hid (H1.out.below BW1 (by omega)); have hR := R1.out.step BW1 (by omega); have R2 := Lib.hid hR; obtain ⟨r0, r1, r2⟩ := hR.cells; have f0 := Id.id_free (Below.refl _ _) hR.lt hR 0; have f1 := Id.id_free (Below.refl _ _) hR.lt hR 1; have f2 := Id.id_free (Below.refl _ _) hR.lt hR 2; have hs2 : b + 1 ≤ W1.heap.size := (by have := BW1.size; omega); clear ho1 hg1 BW1 hR hS; skip) | (at_builtin; refine wpList_append_deps rfl rfl rfl [⟨q, x⟩] rfl rfl rfl (own_alloc HO1.out (D.obj ⟨q, x⟩)) (one_lies _ ⟨q, x⟩) (by simp; omega) (by simp; omega) ?_; intro v2 W2 ho2 hg2; have B2 := Lib.hid (((Below.refl _ _).alloc hs2 (D.obj ⟨q, x⟩)).grown hg2 (by simp; omega) (ownBlock_base HO1.out)); have L2 := Lib.hid (L1.out.below B2.out (by omega)); have O2 := Lib.hid ho2; clear ho2 hg2) | (at_builtin; refine wpList_append_deps (B := b) rfl rfl rfl (l.drop k) rfl rfl List.length_drop O2.out (by first | exact lies_drop_nil (by omega) | exact lies_drop_add k L2.out | exact lies_drop_if k L2.out hcap) (by simp; omega) (by have := B2.out.size; omega) ?_; intro v3 W3 ho3 hg3; have O3 := Lib.hid ho3; have B3 := Lib.hid (B2.out.grown hg3 (by have := B2.out.size; omega) (ownBlock_base O2.out)); clear ho3 hg3))
      all_goals
        go_ret
        subst hbb
        refine ⟨_, rfl, ?_, B1.out.trans ((HB1.out.trans B3.out).mono (by omega))⟩
        rw [show putV l q x = l.take k ++ ⟨q, x⟩ :: l.drop k from (put_at x hk HJ.out (fun hj => absurd hj hlt)).trans (by rw [dif_neg hlt, List.drop_eq_nil_of_le (by omega)])]
        have := own_less O3.out (show w.heap.size ≤ w.heap.size + 1 by omega)
        simpa [Nat.min_eq_left hk, Nat.add_assoc, Nat.add_comm, Nat.add_left_comm] using this
end Go.Proofs.Ytegnjbdgeibhfaa.Dep

/-
  spec.l03Join: both together, in a row of its own.
-/
namespace Go.Proofs.Ytegnjbdgeibhfaa.Dep
open Go.ChangeShapes Go.WideShapes Go.ChangeAt Go.RowKit
set_option linter.unusedVariables false
set_option maxRecDepth 100000

attribute [local go_sem] sem_pure0 sem_store0

theorem run_append_deps2 (base : Nat) (v : Value) (n : Nat) (o : List D) (w : World) (hown : w.ownsRow base 80 4 v n (flat o)) (B : Nat) (A : Option Addr) (m : List D) (c : Nat) (hr : Lies w B A m) (h63 : n + m.length ≤ 4194304) (hbase : base ≤ w.heap.size) :
    ∃ v' w', (Builtin.append_ #[22, 22] 22 #[v, slV A m c]).run Try.prog w = .ok v' w' ∧ w'.ownsRow base 80 4 v' (n + m.length) (flat (o ++ m)) ∧ w.grownBy w' v.ownBlock ∧
      (v' = .slice none 0 0 → v = .slice none 0 0) := by
  obtain ⟨i0, hi0, hz0, hz1, hz2⟩ := info_parts dep_info
  rw [flat_append]
  rcases A with _ | ad
  · have hm : m = [] := by
      cases m with
      | nil => rfl
      | cons d m => obtain ⟨ad, e, _⟩ := hr (by simp); cases e
    subst hm
    refine ⟨v, w, ?_, by simpa [flat] using hown, World.grownBy.refl w _, id⟩
    unfold slV
    rcases hown.2 with ⟨rfl, rfl⟩ | ⟨g, cap, cur, rfl, _, _, hnc, _⟩
    · simp [Builtin.append_, run_underlying Try.underlying22, sizeOf, typeInfo, hi0, Builtin.lenOf, Builtin.firstCells]
    · simp [Builtin.append_, run_underlying Try.underlying22, sizeOf, typeInfo, hi0, Builtin.lenOf, Builtin.firstCells, hnc, storeCells]
  · obtain ⟨v', w', hrun, h2, h3, h4, h5⟩ := run_append_own_at (P := Try.prog) w base 22 22 80 i0 _ 4 40 Try.underlying22 hi0 hz0 hz1 hz2 rfl (by omega) v n (flat o) hown ad m.length c (flat m) (flat_length m) (fun j u hu => hr.cell hu) (flat_one m) (by simp only [maxLen]; omega) (by omega) hbase
    exact ⟨v', w', hrun, h2, h3, fun e => (h4.1 e).1⟩

theorem wpList_append_deps2 {ops : Array Oper} {rest : List Oper} {o : Oper} {a : Act} {w : World} {Q : Exit → Act → World → Prop} (hgd : o.guard = none) {s x : Operand}
    (ho : o.op = .call { callee := .builtin .append, args := #[s, x], argTypes := #[22, 22] }) (hty : o.type = 22) {base : Nat} {v : Value} {n : Nat} {l : List D} {A : Option Addr} {j c B : Nat} (m : List D)
    (hs : a.eval s = v) (hx : a.eval x = .slice A j c) (hj : m.length = j) (hown : w.ownsRow base 80 4 v n (flat l)) (hr : Lies w B A m) (h63 : n + m.length ≤ 4194304) (hbase : base ≤ w.heap.size)
    (h : ∀ v' w', w'.ownsRow base 80 4 v' (n + m.length) (flat (l ++ m)) → w.grownBy w' v.ownBlock → (v' = .slice none 0 0 → v = .slice none 0 0) → wpList Try.prog ops Q rest (a.put o.dst v') w') : wpList Try.prog ops Q (o :: rest) a w := by
  refine wpList_plain hgd fun K hK => ?_
  obtain ⟨v', w', hrun, h2, h3, h4⟩ := run_append_deps2 base v n l w hown B A m c hr h63 hbase
  unfold slV at hrun
  rw [hj] at hrun
  unfold Oper.wp execOp
  rw [hty]
  simp only [ho, resolve, invoke, builtin, Sem.run_bind, Sem.run_pure, Result.andThen_ok, List.map_toArray, List.map_cons, List.map_nil, hs, hx, hrun]
  exact hK _ _ (h v' w' h2 h3 h4)

/-- A row of one's own that is not nil, as a slice with an address. -/
theorem own_addr {w : World} {base n : Nat} {v : Value} {o : List D} (h : w.ownsRow base 80 4 v n (flat o)) (hv : v = .slice none 0 0 → False) :
    n = o.length ∧ ∃ ad c, v = slV (some ad) o c ∧ o.length ≤ c ∧ c ≤ maxLen ∧ Lies w w.heap.size (some ad) o := by
  obtain ⟨hn, A, c, e, hc, hL⟩ := own_lies h
  refine ⟨hn, ?_⟩
  rcases h.2 with ⟨rfl, _⟩ | ⟨g, cap, cur, rfl, _, _, _, hcm, _⟩
  · exact absurd rfl hv
  · unfold slV at e
    injection e with e1 e2 e3
    subst e1 e3
    exact ⟨_, _, by unfold slV; rw [hn], hc, hcm, hL⟩
theorem put_ne {w : World} {base n : Nat} {v : Value} {l : List D} {q : ByteArray} {x : I} (h : w.ownsRow base 80 4 v n (flat (putV l q x))) : v = .slice none 0 0 → False := by
  rintro rfl
  obtain ⟨hn, A, c, e, hc, hL⟩ := own_lies h
  rcases h.2 with ⟨_, h0⟩ | ⟨g, cap, cur, e, _⟩
  · have : 0 < (putV l q x).length := by
      cases l with
      | nil => simp [putV]
      | cons y l => rw [putV]; split <;> (try split) <;> simp
    omega
  · cases e
theorem join_step (a b : List D) (k : Nat) (h : k < b.length) : joinV a (b.take (k + 1)) = putV (joinV a (b.take k)) b[k].k b[k].i := by
  unfold joinV
  rw [show b.take (k + 1) = b.take k ++ [b[k]] by simp, List.foldl_append]
  rfl

set_option maxHeartbeats 600000 in
set_option maxRecDepth 100000 in
theorem specJoin_any (A B : Option Addr) (a b : List D) (ca cb : Nat) (w : World) (ha : Lies w w.heap.size A a) (hb : Lies w w.heap.size B b) (hla : a.length ≤ 400) (hlb : b.length ≤ 400) :
    Calls Try.prog 57 #[slV A a ca, slV B b cb] w fun e w' => ∃ v, e = .returned v ∧ w'.ownsRow w.heap.size 80 4 v (joinV a b).length (flat (joinV a b)) ∧ (v = .slice none 0 0 → False) ∧ Below w.heap.size w w' := by
  have HA := Lib.hid (ha.alloc (Nat.le_refl _) (Obj.cells #[] 80))
  have HB := Lib.hid hb
  clear ha hb
  unfold slV
  go_enter Try.func57, Try.ntmps57
  go_wp2_with (at_builtin; refine wpList_append_deps2 rfl rfl rfl a rfl rfl rfl (own_none w) HA.out (by omega) (by simp) ?_; intro v1 W1 ho1 hg1 hn1; rw [Nat.zero_add, List.nil_append] at ho1; have B1 := Lib.hid (((Below.refl w.heap.size w).alloc (Nat.le_refl _) _).grown hg1 (by simp) (fun j e => by cases e; exact Nat.le_refl _)); have HO1 := Lib.hid ho1; have HN1 := Lib.hid (fun e => by cases hn1 e : v1 = .slice none 0 0 → False); clear ho1 hg1 hn1)
  obtain ⟨_, ad, c, rfl, hc1, hc2, hL⟩ := own_addr HO1.out HN1.out
  unfold slV
  go_loopw [5, 6] (fun o i wr => ∃ k : Nat, k ≤ b.length ∧ i = .int .i64 k ∧ ∃ ad c, o = .slice (some ad) (joinV a (b.take k)).length c ∧ Hid (wr.ownsRow w.heap.size 80 4 (slV (some ad) (joinV a (b.take k)) c) (joinV a (b.take k)).length (flat (joinV a (b.take k))) ∧ ((joinV a (b.take k)).length ≤ c ∧ c ≤ maxLen ∧ Lies wr wr.heap.size (some ad) (joinV a (b.take k))) ∧ Below w.heap.size w wr)) (fun _ i _ => b.length - (intOf i).toNat)
  case atStart => exact ⟨0, by omega, rfl, ad, c, rfl, Lib.hid ⟨HO1.out, ⟨hc1, hc2, hL⟩, B1.out⟩⟩
  case round =>
    obtain ⟨k, hk, rfl, ad2, cc, rfl, HR⟩ := hrel
    by_cases hlt : k < b.length
    · obtain ⟨bd, rfl, _, c0, c1, c2, c3⟩ := (HB.out.below HR.out.2.2 (Nat.le_refl _)).at_ hlt
      go_upto_region 5 with fail
      refine wp_region_still_tail 11 (by kernel_rfl) (by kernel_rfl) ?_
      change wpStill _ _ (World.drew _) (fun a' => wpList _ _ _ _ a' (World.drew _)) _ _
      simp only [List.take_succ_cons, List.take_zero, List.drop_succ_cons, List.drop_zero]
      repeat still_step
      refine wpStill_nil ?_
      go_wp2_with fail
      have hlen := length_join (b.take k) a
      rw [List.length_take] at hlen
      refine (specPut_any ad2 (joinV a (b.take k)) cc b[k].k b[k].i wr.drew HR.out.2.1.2.2.drew (by omega) HR.out.2.1.1 HR.out.2.1.2.1).mono ?_
      rintro e w2 ⟨v, rfl, ho2, hb2⟩
      obtain ⟨_, ad3, c4, rfl, hd1, hd2, hL3⟩ := own_addr ho2 (put_ne ho2)
      have HJ := Lib.hid (join_step a b k hlt)
      rw [← HJ.out] at ho2 hd1 hL3
      have HO := Lib.hid (own_less ho2 (base' := w.heap.size) HR.out.2.2.size)
      have HB2 := Lib.hid ((HR.out.2.2.drew).trans (hb2.mono HR.out.2.2.size))
      have H3 := Lib.hid hL3
      rw [← HJ.out]
      clear ho2 hb2 hL3 c0 c1 c2 c3
      unfold slV
      go_wp2_with fail
      go_roundw
      case rel => exact ⟨k + 1, by omega, by go_num, ad3, c4, rfl, Lib.hid ⟨HO.out, ⟨hd1, hd2, H3.out⟩, HB2.out⟩⟩
      case measure => simp [intOf]; omega
    · have e : k = b.length := by omega
      go_wp2_with fail
      go_ret
      have h1 := HR.out.1
      rw [List.take_of_length_le (by omega)] at h1
      exact ⟨_, rfl, h1, (fun e => by cases e), HR.out.2.2⟩
end Go.Proofs.Ytegnjbdgeibhfaa.Dep

/-
  A parameter that is a slice of deps, opened: it reads as a list.
-/
namespace Go.Proofs.Ytegnjbdgeibhfaa.Dep
open Go.ChangeShapes Go.WideShapes Go.ChangeAt Go.RowKit
set_option linter.unusedVariables false
set_option maxRecDepth 100000
set_option linter.unusedSimpArgs false

theorem cell_lt {w : World} {a : Addr} {v : Value} (h : w.cell? a = some v) : a.block < w.heap.size := by
  rcases Nat.lt_or_ge a.block w.heap.size with h' | h'
  · exact h'
  · simp [World.cell?, Array.getElem?_eq_none h'] at h

/-- What a number of a dep is within. -/
def I64 (n : Int) : Prop := -9223372036854775808 ≤ n ∧ n ≤ 9223372036854775807
def Sound (d : D) : Prop := d.k.size ≤ maxLen ∧ I64 d.i.c ∧ I64 d.i.s ∧ I64 d.i.e
/-- A slice of deps as it comes in. -/
def IsDeps (w : World) (A : Option Addr) (l : List D) (cap : Nat) : Prop := l.length ≤ cap ∧ cap ≤ maxLen ∧ Lies w w.heap.size A l ∧ ∀ d ∈ l, Sound d

theorem i64_of {n : Int} (h : (Lit.int .i64 n).wf = true) : I64 n := by
  have := bounds_i64 h
  unfold I64; omega

instance : Inhabited D := ⟨⟨ByteArray.empty, zero⟩⟩

set_option maxRecDepth 100000 in
theorem one_dep {H : Type} {enc : TypeId × Value → H} {w : World} {base : Nat} {spare : Nat → Bool} {held : Bool} {n : Nat} {cs : List Value} {x : DataW H × List MemPlace}
    (h : DataW.trod enc Try.prog w base spare held n 111 cs = some x) :
    ∃ d : D, cs = [.string d.k, .int .i64 d.i.c, .int .i64 d.i.s, .int .i64 d.i.e] ∧ Sound d := by
  obtain ⟨xs, k, _, _, hl, hxl, hf⟩ := DataW.trod_struct Try.underlying111 h
  have hc : Try.prog.cellsOf 111 = 4 := by kernel_rfl
  rw [hc] at hl
  match xs, hxl, cs, hl with
  | [y0, y1], _, [v0, v1, v2, v3], _ =>
    have g0 := hf 0 ⟨"Key", 9, 0, false, "", "", 0⟩ rfl
    have g1 := hf 1 ⟨"Id", 65, 1, false, "", "", 16⟩ rfl
    have c0 : Try.prog.cellsOf 9 = 1 := by kernel_rfl
    have c1 : Try.prog.cellsOf 65 = 3 := by kernel_rfl
    simp [c0, c1] at g0 g1
    obtain ⟨s, e0, _, hs⟩ := DataW.trod_string Try.underlying9 g0
    obtain ⟨zs, k2, _, _, hl2, hzl, hg⟩ := DataW.trod_struct Try.underlying65 g1
    match zs, hzl with
    | [z0, z1, z2], _ =>
      have i0 := hg 0 ⟨"Clock", 2, 0, false, "", "", 0⟩ rfl
      have i1 := hg 1 ⟨"Shim", 2, 1, false, "", "", 8⟩ rfl
      have i2 := hg 2 ⟨"Epoch", 2, 2, false, "", "", 16⟩ rfl
      have c2 : Try.prog.cellsOf 2 = 1 := by kernel_rfl
      simp [c2] at i0 i1 i2
      obtain ⟨n0, q0, _, b0⟩ := DataW.trod_int Try.underlying2 i0
      obtain ⟨n1, q1, _, b1⟩ := DataW.trod_int Try.underlying2 i1
      obtain ⟨n2, q2, _, b2⟩ := DataW.trod_int Try.underlying2 i2
      refine ⟨⟨s, ⟨n0, n1, n2⟩⟩, ?_, hs, i64_of b0, i64_of b1, i64_of b2⟩
      cases e0; cases q0; cases q1; cases q2
      rfl

set_option maxRecDepth 100000 in
theorem open_deps {H : Type} {enc : TypeId × Value → H} {w : World} {spare : Nat → Bool} {held : Bool} {A : Option Addr} {len cap : Nat} {d : DataW H} {p : List MemPlace}
    (h : DataW.Trod enc Try.prog w 0 spare held 66 (.slice A len cap) d p) : ∃ l : List D, len = l.length ∧ IsDeps w A l cap := by
  obtain ⟨fuel, h⟩ := h
  rcases Go.Deep.open_slice Try.underlying66 h with ⟨h0, _⟩ | ⟨a, len', cap', m, n, Df, Pl, h0, _, hl, hm, hmm, _, hx⟩
  · simp only [Value.cells, List.cons.injEq, Value.slice.injEq, and_true] at h0
    obtain ⟨rfl, rfl, rfl⟩ := h0
    exact ⟨[], rfl, Nat.le_refl _, by simp [maxLen], fun h => absurd h (by simp), fun d hd => absurd hd (by simp)⟩
  · simp only [Value.cells, List.cons.injEq, Value.slice.injEq, and_true] at h0
    obtain ⟨rfl, rfl, rfl⟩ := h0
    have hlm : len ≤ m := by rw [hmm]; split <;> omega
    have hc : Try.prog.cellsOf 111 = 4 := by kernel_rfl
    obtain ⟨f, hf⟩ := Go.Deep.choose_lt (α := D) (n := len) (p := fun i d => At w (a.add (i * 4)) d ∧ Sound d) (fun i hi => by
      obtain ⟨cs', h1, h2⟩ := hx i (by omega)
      rw [hc] at h1
      obtain ⟨d, rfl, hd⟩ := one_dep h2
      obtain ⟨_, _, hcell⟩ := World.cells?_some h1
      have e0 := hcell 0 (by omega)
      have e1 := hcell 1 (by omega)
      have e2 := hcell 2 (by omega)
      have e3 := hcell 3 (by omega)
      rw [add_add] at e0 e1 e2 e3
      refine ⟨d, ⟨by simpa using e0, ?_, ?_, ?_⟩, hd⟩
      · rw [addr_next _ _ 1 (by omega)]; simpa using e1
      · rw [Nat.add_assoc, addr_next _ _ 2 (by omega)]; simpa using e2
      · rw [Nat.add_assoc, addr_next _ _ 3 (by omega)]; simpa using e3)
    refine ⟨(List.range len).map f, by simp, by simpa using hl, hm, fun h0 => ⟨a, rfl, ?_, fun j hj => ?_⟩, fun d hd => ?_⟩
    · have := (hf 0 (by simpa using h0)).1.1
      have := cell_lt this
      rwa [add_block] at this
    · simp only [List.getElem_map, List.getElem_range]
      exact (hf j (by simpa using hj)).1
    · obtain ⟨i, hi, rfl⟩ := List.mem_map.1 hd
      exact (hf i (by simpa using hi)).2
end Go.Proofs.Ytegnjbdgeibhfaa.Dep

/-
  What DepsPut and DepsJoin answer; the given model's.
-/
namespace Go.Proofs.Ytegnjbdgeibhfaa.Dep
open Go.ChangeShapes Go.WideShapes Go.ChangeAt Go.RowKit
set_option linter.unusedVariables false
set_option maxRecDepth 100000

open Classical in
noncomputable def joinC (a b : List D) : Int := if 400 < a.length ∨ 400 < b.length then 2 else if depsB a = true ∧ depsB b = true then (if 6 < (joinV a b).length then 9 else 0) else 1
noncomputable def joinR (a b : List D) : List D := if joinC a b = 0 then joinV a b else []
open Classical in
noncomputable def putC (l : List D) (q : ByteArray) (x : I) : Int := if 400 < l.length ∨ 8000 < q.size then 2 else if depsB l = true ∧ Key.keyB q = true ∧ x.right = true then (if 6 < (putV l q x).length then 9 else 0) else 1
noncomputable def putR (l : List D) (q : ByteArray) (x : I) : List D := if putC l q x = 0 then putV l q x else []

/-- Block b holds an answer. -/
def ORow (W : World) (b : Nat) (s : Value) (c : Int) : Prop := W.heap[b]? = some (.cells #[s, .int .i64 c] 85 (0, 0))
theorem ORow.step {W w1 : World} {b N : Nat} {s : Value} {c : Int} (h : ORow W b s c) (hb : Below N W w1) (hlt : b < N) : ORow w1 b s c := (hb.block b hlt).trans h
theorem ORow.lt {W : World} {b : Nat} {s : Value} {c : Int} (h : ORow W b s c) : b < W.heap.size := (Array.getElem?_eq_some_iff.1 h).1
theorem ORow.alloc {W : World} {b : Nat} {s : Value} {c : Int} (h : ORow W b s c) (o : Obj) : ORow (W.alloc o) b s c := (heap_alloc_old W o h.lt).trans h
theorem ORow.new (W : World) (s : Value) (c : Int) : ORow (W.alloc (.cells #[s, .int .i64 c] 85)) W.heap.size s c := heap_alloc_new W _
theorem ORow.cells {W : World} {b : Nat} {s : Value} {c : Int} (h : ORow W b s c) : W.cell? ⟨b, 0, none⟩ = some s ∧ W.cell? ⟨b, 1, none⟩ = some (.int .i64 c) :=
  ⟨cell_of_row W b 0 _ _ (0, 0) h, cell_of_row W b 1 _ _ (0, 0) h⟩
theorem ORow.free {W : World} {b : Nat} {s : Value} {c : Int} (h : ORow W b s c) (j : Nat) : W.frozen? ⟨b, j, none⟩ = false := by
  unfold ORow at h
  simp [World.frozen?, h]

def outV (s : Value) (c : Int) : Value := .agg #[s, .int .i64 c]
/-- What a call hands back: a list in a row of its own, and a code. -/
def Answers (w : World) (e : Ending) (w' : World) (r : List D) (c : Int) : Prop := ∃ A cap, e = .returned (outV (slV A r cap) c) ∧ w'.ownsRow w.heap.size 80 4 (slV A r cap) r.length (flat r) ∧ r.length ≤ cap ∧ Lies w' w'.heap.size A r ∧ Below w.heap.size w w'
theorem own_nil (w : World) (base : Nat) : w.ownsRow base 80 4 (.slice none 0 0) 0 (flat []) := ⟨rfl, .inl ⟨rfl, rfl⟩⟩
theorem Answers.nil {w w' : World} {c : Int} (h : Below w.heap.size w w') : Answers w (.returned (outV (.slice none 0 0) c)) w' [] c :=
  ⟨Option.none, 0, rfl, own_nil _ _, Nat.le_refl _, fun h0 => absurd h0 (by simp), h⟩
theorem Answers.row {w w' : World} {A : Option Addr} {r : List D} {cap : Nat} {c : Int} (h : w'.ownsRow w.heap.size 80 4 (slV A r cap) r.length (flat r)) (hb : Below w.heap.size w w') : Answers w (.returned (outV (slV A r cap) c)) w' r c := by
  obtain ⟨_, A', c', e, hc, hL⟩ := own_lies h
  unfold slV at e
  injection e with e1 e2 e3
  subst e1 e3
  exact ⟨A, cap, rfl, h, hc, hL, hb⟩
theorem own_set2 {w : World} {base n : Nat} {v : Value} {xs : List Value} (h : w.ownsRow base 80 4 v n xs) {b : Nat} (hp : b < base) (u u' : Value) : ((w.setCell ⟨b, 0, none⟩ u).setCell ⟨b, 1, none⟩ u').ownsRow base 80 4 v n xs :=
  own_set (own_set h (p := ⟨b, 0, none⟩) hp u) (p := ⟨b, 1, none⟩) hp u'

end Go.Proofs.Ytegnjbdgeibhfaa.Dep
