/-
  The given model's IdRead: of a right Id's text that Id; else the code.
-/
import Derived.Test.YtbkgampfehjpaaaDoorIdSplit
import Derived.Deep.DeepCutAuto
namespace Go.Proofs.YtbkgampfehjpaaaDoor.Id
open Go.ChangeShapes Go.WideShapes Go.ChangeAt Go.RowKit
set_option linter.unusedVariables false

/-- An IdOut by value. -/
def outV (c s e k : Int) : Value := .agg #[.int .i64 c, .int .i64 s, .int .i64 e, .int .i64 k]
/-- What IdRead answers. -/
noncomputable def rdV (x : ByteArray) : Value := by
  classical
  exact if 8000 < x.size then outV 0 0 0 2
    else if h : ∃ t : Int × Int × Int, rightB t.1 t.2.1 t.2.2 = true ∧ textB t.1 t.2.1 t.2.2 = x then outV h.choose.1 h.choose.2.1 h.choose.2.2 0
    else outV 0 0 0 3
theorem textB_inj {c s e c' s' e' : Int} (h : rightB c s e = true) (h' : rightB c' s' e' = true) (ht : textB c s e = textB c' s' e') : c = c' ∧ s = s' ∧ e = e' := by
  obtain ⟨a, b, d, rfl, rfl, rfl, _⟩ := right_nat h
  obtain ⟨a', b', d', rfl, rfl, rfl, _⟩ := right_nat h'
  unfold textB at ht
  rw [if_pos h, if_pos h'] at ht
  have h2 : textL a b d = textL a' b' d' := by
    have := congrArg (fun x : ByteArray => x.data.toList) ht
    simpa using this
  obtain ⟨rfl, rfl, rfl⟩ := text_inj h2
  exact ⟨rfl, rfl, rfl⟩
theorem rdV_big {x : ByteArray} (h : 8000 < x.size) : rdV x = outV 0 0 0 2 := by unfold rdV; rw [if_pos h]
theorem rdV_ok {x : ByteArray} {c s e : Int} (h : ¬ 8000 < x.size) (hr : rightB c s e = true) (ht : textB c s e = x) : rdV x = outV c s e 0 := by
  unfold rdV
  rw [if_neg h]
  have hx : ∃ t : Int × Int × Int, rightB t.1 t.2.1 t.2.2 = true ∧ textB t.1 t.2.1 t.2.2 = x := ⟨(c, s, e), hr, ht⟩
  rw [dif_pos hx]
  have h2 := hx.choose_spec
  obtain ⟨h3, h4, h5⟩ := textB_inj h2.1 hr (h2.2.trans ht.symm)
  rw [h3, h4, h5]
theorem rdV_no {x : ByteArray} (h : ¬ 8000 < x.size) (hn : ∀ c s e, rightB c s e = true → textB c s e ≠ x) : rdV x = outV 0 0 0 3 := by
  unfold rdV
  rw [if_neg h, dif_neg (fun ⟨t, h1, h2⟩ => hn _ _ _ h1 h2)]
theorem textB_ne {c s e : Int} (h : rightB c s e = true) : (textB c s e).data.toList ≠ [] := by
  unfold textB
  rw [if_pos h]
  have h1 := dec_ne_nil c.toNat
  simp only [textL]
  intro h2
  exact h1 (List.append_eq_nil_iff.1 h2).1
theorem textB_no {c s e : Int} (h : rightB c s e = false) : textB c s e = ⟨#[]⟩ := by unfold textB; rw [h]; rfl
/-- What a reading of three numbers out of the text must do: a right Id's text gives that Id. -/
def Reads (x : ByteArray) (a b d : Int) : Prop := ∀ c s e, rightB c s e = true → textB c s e = x → a = c ∧ b = s ∧ d = e
theorem rdV_of_reads_no {x : ByteArray} {a b d : Int} (h : ¬ 8000 < x.size) (hr : Reads x a b d) (hn : textB a b d ≠ x) : rdV x = outV 0 0 0 3 :=
  rdV_no h (fun c s e h1 h2 => by obtain ⟨rfl, rfl, rfl⟩ := hr c s e h1 h2; exact hn h2)
theorem rdV_of_nil {x : ByteArray} (hx : x.data.toList = []) : rdV x = outV 0 0 0 3 :=
  rdV_no (by rw [← list_len, hx]; simp) (fun c s e h1 h2 => textB_ne h1 (by rw [h2]; exact hx))
theorem right_of_text {x : ByteArray} {a b d : Int} (ht : textB a b d = x) (hx : x.data.toList ≠ []) : rightB a b d = true := by
  cases h : rightB a b d
  · rw [← ht, textB_no h] at hx; exact absurd rfl hx
  · rfl
theorem splitFrom_len : ∀ (l cur p : List UInt8), p ∈ splitFrom l cur → p.length ≤ cur.length + l.length
  | [], cur, p, h => by obtain rfl := List.mem_singleton.1 h; simp
  | c :: r, cur, p, h => by
    rw [splitFrom] at h
    split at h
    · rcases List.mem_cons.1 h with rfl | h
      · omega
      · have := splitFrom_len r [] p h; simp at this; simp; omega
    · have := splitFrom_len r (cur ++ [c]) p h
      simp at this; simp; omega
theorem splitFrom_ne : ∀ (l cur : List UInt8), splitFrom l cur ≠ []
  | [], cur => by simp [splitFrom]
  | c :: r, cur => by
    rw [splitFrom]
    split
    · simp
    · exact splitFrom_ne r _
/-- The model's reading. -/
theorem reads_split {x p0 p1 p2 : ByteArray} (h : [p0, p1, p2].map (·.data.toList) = splitFrom x.data.toList []) : Reads x (numS p0.data.toList) (numS p1.data.toList) (numS p2.data.toList) := by
  intro c s e hr ht
  obtain ⟨a, b, d, rfl, rfl, rfl, ha0, ha, hb0, hb, hd⟩ := right_nat hr
  have hx : x.data.toList = textL a b d := by rw [← ht]; unfold textB; rw [if_pos hr]; simp
  rw [hx, split_text] at h
  simp only [List.map_cons, List.map_nil, List.cons.injEq, and_true] at h
  obtain ⟨h0, h1, h2⟩ := h
  rw [h0, h1, h2]
  exact ⟨numS_dec a (by omega), numS_dec b (by omega), numS_dec d (by omega)⟩
theorem reads_not3 {x : ByteArray} {ps : List ByteArray} (h : ps.map (·.data.toList) = splitFrom x.data.toList []) (hn : ps.length ≠ 3) : Reads x 0 0 0 := by
  intro c s e hr ht
  obtain ⟨a, b, d, rfl, rfl, rfl, _⟩ := right_nat hr
  have hx : x.data.toList = textL a b d := by rw [← ht]; unfold textB; rw [if_pos hr]; simp
  rw [hx, split_text] at h
  have := congrArg List.length h
  simp at this
  exact absurd this hn

theorem str_ne {a b : ByteArray} (h : ¬ a = b) : (a.toList == b.toList) = false := by
  refine beq_eq_false_iff_ne.2 fun e => h ?_
  rw [ByteArray.toList_eq, ByteArray.toList_eq] at e
  apply ByteArray.ext
  exact Array.toList_inj.1 e

/-- Block b holds an IdOut of zeros. -/
def OutRow (W : World) (b t : Nat) (c s e k : Int) : Prop := W.heap[b]? = some (.cells #[.int .i64 c, .int .i64 s, .int .i64 e, .int .i64 k] t (0, 0))
theorem OutRow.step {W w1 : World} {b t N : Nat} {c s e k : Int} (h : OutRow W b t c s e k) (hb : Below N W w1) (hlt : b < N) : OutRow w1 b t c s e k := (hb.block b hlt).trans h
theorem OutRow.lt {W : World} {b t : Nat} {c s e k : Int} (h : OutRow W b t c s e k) : b < W.heap.size := (Array.getElem?_eq_some_iff.1 h).1
theorem OutRow.alloc {W : World} {b t : Nat} {c s e k : Int} (h : OutRow W b t c s e k) (o : Obj) : OutRow (W.alloc o) b t c s e k := (heap_alloc_old W o h.lt).trans h
theorem OutRow.new (W : World) (t : Nat) (c s e k : Int) : OutRow (W.alloc (.cells #[.int .i64 c, .int .i64 s, .int .i64 e, .int .i64 k] t)) W.heap.size t c s e k := heap_alloc_new W _
theorem OutRow.cells {W : World} {b t : Nat} {c s e k : Int} (h : OutRow W b t c s e k) :
    (W.cell? ⟨b, 0, none⟩ = some (.int .i64 c) ∧ W.cell? ⟨b, 1, none⟩ = some (.int .i64 s) ∧ W.cell? ⟨b, 2, none⟩ = some (.int .i64 e) ∧ W.cell? ⟨b, 3, none⟩ = some (.int .i64 k)) ∧
    W.frozen? ⟨b, 0, none⟩ = false ∧ W.frozen? ⟨b, 1, none⟩ = false ∧ W.frozen? ⟨b, 2, none⟩ = false ∧ W.frozen? ⟨b, 3, none⟩ = false := by
  refine ⟨⟨cell_of_row W b 0 _ t (0, 0) h, cell_of_row W b 1 _ t (0, 0) h, cell_of_row W b 2 _ t (0, 0) h, cell_of_row W b 3 _ t (0, 0) h⟩, ?_⟩
  unfold OutRow at h
  simp [World.frozen?, h]
theorem OutRow.put {W : World} {b t : Nat} {c s e k : Int} (h : OutRow W b t c s e k) (x y z u : Int) :
    OutRow ((((W.setCell ⟨b, 0, none⟩ (.int .i64 x)).setCell ⟨b, 1, none⟩ (.int .i64 y)).setCell ⟨b, 2, none⟩ (.int .i64 z)).setCell ⟨b, 3, none⟩ (.int .i64 u)) b t x y z u := by
  unfold OutRow at *
  simp [World.setCell, Array.getElem?_modify, h]
theorem IdRow.frozen {W : World} {b t : Nat} {c s e : Int} (h : IdRow W b t c s e) : W.frozen? ⟨b, 0, none⟩ = false ∧ W.frozen? ⟨b, 1, none⟩ = false ∧ W.frozen? ⟨b, 2, none⟩ = false := by
  unfold IdRow at h
  simp [World.frozen?, h]
theorem IdRow.put {W : World} {g t : Nat} {c s e x y z : Int} (h : IdRow W g t c s e) :
    IdRow (((W.setCell ⟨g, 0, none⟩ (.int .i64 x)).setCell ⟨g, 1, none⟩ (.int .i64 y)).setCell ⟨g, 2, none⟩ (.int .i64 z)) g t x y z := by
  unfold IdRow at *
  simp [World.setCell, Array.getElem?_modify, h]
theorem below_put (W : World) (g : Nat) (x y z : Value) : Below g W (((W.setCell ⟨g, 0, none⟩ x).setCell ⟨g, 1, none⟩ y).setCell ⟨g, 2, none⟩ z) :=
  (((Below.refl g W).setCell (p := ⟨g, 0, none⟩) (Nat.le_refl g) x).setCell (p := ⟨g, 1, none⟩) (Nat.le_refl g) y).setCell (p := ⟨g, 2, none⟩) (Nat.le_refl g) z
end Go.Proofs.YtbkgampfehjpaaaDoor.Id
