/-
  A region that draws its order, inside a round, by the laws of the plain calculus; a clone of a string; an append.
-/
import Derived.Test.YthagkjofpfafiaaDepInv
import Derived.Test.YthagkjofpfafiaaShelf
import Derived.Deep.RegionHeld3
namespace Go.Proofs.Ythagkjofpfafiaa.Dep
open Go.ChangeShapes Go.WideShapes Go.ChangeAt Go.RowKit Go.Shelf
set_option linter.unusedVariables false
set_option maxRecDepth 100000

/-- What is asked at an ordinary end; no other end is let by. -/
def OnlyN (Q : Exit → Act → World → Prop) : Exit → Act → World → Prop
  | .normal, a, w => Q .normal a w
  | _, _, _ => False
theorem onlyN_lets (Q : Exit → Act → World → Prop) : ¬ LetsOut (OnlyN Q) := fun ⟨_, _, h⟩ => h
/-- No operation of the region is a defer statement. -/
def NoDefer (ops : Array Oper) : Prop := ∀ (i : Nat) (o : Oper) (c : Call), ops[i]? = some o → o.op ≠ .defer c

section
variable {P : Program} {ops : Array Oper} {Q : Exit → Act → World → Prop} {n l : Nat}

theorem rowsIn_plain {row : String} {args : Array Value} {w : World} {R : Value → World → Prop} (h : Rows P row args w R) : RowsIn (Fence.wide.inRound l) n P row args w R :=
  fun c cs _ => let ⟨v, w', r, s⟩ := h c cs; ⟨v, w', r, stepsIn_wide.2 s⟩

theorem opIn_plain (hnd : NoDefer ops) {i : Nat} {K K' : Act → World → Prop} (hK : ∀ a w, K a w → K' a w) {a : Act} {w : World} (h : wpOp P ops (OnlyN Q) i K a w) : wpOpIn (Fence.wide.inRound l) n P ops Q i K' a w := by
  unfold wpOp at h
  unfold wpOpIn
  cases ho : ops[i]? with
  | none => simp only [ho] at h; exact hK _ _ h
  | some o =>
    simp only [ho] at h ⊢
    by_cases hw : Region.wanted o (yielded ops a.tmps) = true
    · simp only [hw, if_true] at h ⊢
      rcases h with h | ⟨_, h⟩
      · refine ⟨fun _ _ => trivial, ?_⟩
        rw [show (Fence.wide.inRound l).round = some l from rfl, Oper.semAt_some l a.eval o (fun c => hnd i o c ho)]
        unfold Oper.wp at h
        generalize (execOp a.eval o).run P w = r at h
        cases r with
        | ok x w' =>
          cases x with
          | value v => exact hK _ _ h
          | skip => exact hK _ _ h
          | defer d => exact hK _ _ h
          | enter f args =>
            refine ⟨fun hd => absurd hd (by simp [Fence.inRound, Fence.wide]), ?_⟩
            have hc : Calls P f args w' _ := h
            refine CallsIn.mono (CallsIn.inRound l (callsIn_wide.2 hc)) ?_
            intro e w'' he
            cases e with
            | returned v => exact hK _ _ he
            | panicked c => exact he.elim
            | outgrown => exact absurd he (onlyN_lets Q)
          | row r args =>
            refine ⟨fun hd => absurd hd (by simp [Fence.inRound, Fence.wide]), ?_⟩
            have hc : Rows P r args w' _ := h
            exact (rowsIn_plain hc).mono fun v w'' he => hK _ _ he
          | _ => exact (h : False).elim
        | halt x w' =>
          cases x <;> first | exact h.elim | exact (h : False).elim
      · exact absurd h (onlyN_lets Q)
    · rw [if_neg hw] at h ⊢
      exact ⟨fun _ _ => trivial, hK _ _ h⟩

theorem anyIn_plain (hnd : NoDefer ops) {md : Region.Mode} : ∀ (fuel : Nat) (listed : Array Bool) (a : Act) (w : World), wpAny P md ops (OnlyN Q) fuel listed a w → wpAnyIn (Fence.wide.inRound l) n P md ops Q fuel listed a w
  | 0, _, _, _, h => ⟨h.1, h.2⟩
  | fuel + 1, _, _, _, h => ⟨fun h0 => h.1 h0, fun i hi => opIn_plain hnd (fun a' w' => anyIn_plain hnd fuel _ a' w') (h.2 i hi)⟩

/-- The beginning of a region that draws, in a round. -/
theorem regionIn_held {S : World → Prop} {id : Nat} {a : Act} {w : World} (hm : P.follows .mixedOrders = true) (hnd : NoDefer ops) (hS : S w.drew)
    (h : S w.drew → wpAnyH P .any ops (OnlyN Q) S ops.size (Array.replicate ops.size false) a w.drew) : (Code.region id ops true).wpIn (Fence.wide.inRound l) n P Q a w :=
  wpIn_region_any hm (anyIn_plain hnd _ _ _ _ (wpAny_of_held _ _ _ _ (h hS)))
end

theorem noDefer_of {ops : Array Oper} (h : ops.all (fun o => match o.op with | .defer _ => false | _ => true) = true) : NoDefer ops := by
  intro i o c ho e
  rw [Array.all_eq_true] at h
  obtain ⟨hi, hoi⟩ := Array.getElem?_eq_some_iff.1 ho
  have := h i hi
  rw [hoi, e] at this
  cases this

theorem clone_any (s : ByteArray) (w : World) (hs : s.size ≤ 4) : Calls Try.prog 84 #[.string s] w fun e w' => e = .returned (.string s) ∧ Below w.heap.size w w' := by
  go_enter Try.func84, Try.ntmps84
  go_wp2_with fail
  refine (Try.stringslite_Clone s _ (by omega)).mono ?_
  rintro e w1 ⟨rfl, hb⟩
  have HB := Lib.hid hb
  clear hb
  go_wp2_with fail
  go_ret
  exact ⟨rfl, HB.out⟩

theorem implMaxI_any (x y : I) (w : World) :
    Calls Try.prog 82 #[x.val, y.val] w fun e w' => e = .returned (x.max y).val ∧ Below w.heap.size w w' :=
  (Id.implMax_any x.c x.s x.e y.c y.s y.e w).mono fun e w' ⟨h1, h2⟩ => ⟨by rw [h1]; congr 1; unfold Id.maxV I.max I.less; split <;> rfl, h2⟩

theorem orow_put {W : World} {b : Nat} {s : Value} {c : Int} (h : ORow W b s c) (s' : Value) (k : Int) : ORow ((W.setCell ⟨b, 0, none⟩ s').setCell ⟨b, 1, none⟩ (.int .i64 k)) b s' k := by
  have h1 := row_set (row_set h 0 s') 1 (.int .i64 k)
  exact h1

theorem wp_append_deps {o : Oper} {a : Act} {w : World} {K : Act → World → Prop} {Q : Exit → Act → World → Prop} {s x : Operand}
    (ho : o.op = .call { callee := .builtin .append, args := #[s, x], argTypes := #[85, 85] }) (hty : o.type = 85) {base : Nat} {v : Value} {n : Nat} {l : List D} {A : Option Addr} {j c B : Nat} (m : List D)
    (hs : a.eval s = v) (hx : a.eval x = .slice A j c) (hj : m.length = j) (hown : w.ownsRow base 108 4 v n (flat l)) (hr : Lies w B A m) (h63 : n + m.length ≤ 4194304) (hbase : base ≤ w.heap.size)
    (h : ∀ v' w', w'.ownsRow base 108 4 v' (n + m.length) (flat (l ++ m)) → w.grownBy w' v.ownBlock → K (a.put o.dst v') w') : Oper.wp Try.prog o a w K Q := by
  obtain ⟨v', w', hrun, h2, h3, _⟩ := run_append_deps base v n l w hown B A m c hr h63 hbase
  unfold slV at hrun
  rw [hj] at hrun
  unfold Oper.wp execOp
  rw [hty]
  simp only [ho, resolve, invoke, builtin, Sem.run_bind, Sem.run_pure, Result.andThen_ok, List.map_toArray, List.map_cons, List.map_nil, hs, hx, hrun]
  exact h v' w' h2 h3
end Go.Proofs.Ythagkjofpfafiaa.Dep
