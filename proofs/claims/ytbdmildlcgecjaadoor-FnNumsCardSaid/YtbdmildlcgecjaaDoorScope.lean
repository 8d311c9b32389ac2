/-
  A scope in which a run jumps to several labels: what holds at each jump, and a measure that every pass lowers. A law on the model's code alone; no program's text.
-/
import Derived.Test.YtbdmildlcgecjaaDoorRows
import Derived.WalkKit
import Derived.ScopeJumps
namespace Go.Proofs.YtbdmildlcgecjaaDoor.Scope

/-- As Q; by a goto to label l: J l; no other way out by a goto. -/
def jumps (J : Nat → Act → World → Prop) (Q : Exit → Act → World → Prop) : Exit → Act → World → Prop
  | .goto l, a, w => J l a w
  | e, a, w => Q e a w

theorem wp_scope_labels {P : Program} {a : Act} {w : World} {Q : Exit → Act → World → Prop} {c : Code} (J : Nat → Act → World → Prop) (μ : Nat → Act → World → Nat) (rest : Nat → Code)
    (hf : ∀ l a w, J l a w → findLabel c l = some (rest l))
    (first : c.wp P (jumps J Q) a w)
    (pass : ∀ l a w, J l a w → (rest l).wp P (jumps (fun l' a' w' => J l' a' w' ∧ μ l' a' w' < μ l a w) Q) a w) : (Code.scope c).wp P Q a w := by
  intro b k cs
  have hg : ∀ l a w, J l a w → gotoIn l (.inScope c :: k) = some (.code (rest l) :: .inScope c :: k) := fun l a w h => by simp [gotoIn, hf l a w h]
  have key : ∀ n l a w, μ l a w = n → J l a w → ∃ e a' w', Q e a' w' ∧ Arrives P (lone (b.at a (.code (rest l) :: .inScope c :: k)) cs w) b k cs e a' w' := by
    intro n
    induction n using Nat.strongRecOn with
    | _ n ih =>
      intro l a w hn hJ
      obtain ⟨e, a₁, w₁, hq, harr⟩ := pass l a w hJ b (.inScope c :: k) cs
      cases e with
      | normal => exact ⟨.normal, a₁, w₁, hq, Steps.trans harr (.one step_inScope)⟩
      | exit id => exact ⟨.exit id, a₁, w₁, hq, fun k' hk => harr k' (by simp [exitTo, hk])⟩
      | goto l' =>
        obtain ⟨hJ', hlt⟩ := hq
        obtain ⟨e₂, a₂, w₂, hq₂, harr₂⟩ := ih _ (by omega) l' a₁ w₁ rfl hJ'
        exact ⟨e₂, a₂, w₂, hq₂, .of_steps (harr _ (hg _ _ _ hJ')) harr₂⟩
      | ret => exact ⟨_, a₁, w₁, hq, harr⟩
      | panic ch => exact ⟨_, a₁, w₁, hq, harr⟩
      | outgrown => exact ⟨_, a₁, w₁, hq, harr⟩
  obtain ⟨e, a₁, w₁, hq, harr⟩ := first b (.inScope c :: k) cs
  cases e with
  | normal => exact ⟨.normal, a₁, w₁, hq, .head step_scope (Steps.trans harr (.one step_inScope))⟩
  | exit id => exact ⟨.exit id, a₁, w₁, hq, fun k' hk => .head step_scope (harr k' (by simp [exitTo, hk]))⟩
  | goto l' =>
    obtain ⟨e₂, a₂, w₂, hq₂, harr₂⟩ := key _ l' a₁ w₁ rfl hq
    exact ⟨e₂, a₂, w₂, hq₂, .of_steps (.head step_scope (harr _ (hg _ _ _ hq))) harr₂⟩
  | ret => exact ⟨_, a₁, w₁, hq, .of_steps (.one step_scope) harr⟩
  | panic ch => exact ⟨_, a₁, w₁, hq, .of_steps (.one step_scope) harr⟩
  | outgrown => exact ⟨_, a₁, w₁, hq, .of_steps (.one step_scope) harr⟩

/-- Three labels, 0, 1 and 2. -/
theorem wp_scope_three {P : Program} {a : Act} {w : World} {Q : Exit → Act → World → Prop} {c r0 r1 r2 : Code} (J : Nat → Act → World → Prop) (μ : Nat → Act → World → Nat)
    (h0 : findLabel c 0 = some (.seq .skip r0)) (h1 : findLabel c 1 = some (.seq .skip r1)) (h2 : findLabel c 2 = some (.seq .skip r2)) (hJ : ∀ l a w, J l a w → l ≤ 2)
    (first : (∀ a w, J 1 a w → r1.wp P (jumps J Q) a w) → c.wp P (jumps J Q) a w)
    (pass0 : ∀ a w, J 0 a w → r0.wp P (jumps (fun l' a' w' => J l' a' w' ∧ μ l' a' w' < μ 0 a w) Q) a w)
    (pass1 : ∀ a w, J 1 a w → r1.wp P (jumps (fun l' a' w' => J l' a' w' ∧ μ l' a' w' < μ 1 a w) Q) a w)
    (pass2 : ∀ a w, J 2 a w → r2.wp P (jumps (fun l' a' w' => J l' a' w' ∧ μ l' a' w' < μ 2 a w) Q) a w) : (Code.scope c).wp P Q a w := by
  refine wp_scope_labels J μ (fun l => match l with | 0 => .seq .skip r0 | 1 => .seq .skip r1 | _ => .seq .skip r2) ?_ (first fun a w h => Code.wp_mono (fun e a w hq => by cases e <;> first | exact hq.1 | exact hq) (pass1 a w h)) ?_
  · intro l a w h
    rcases (by have := hJ l a w h; omega : l = 0 ∨ l = 1 ∨ l = 2) with rfl | rfl | rfl
    · exact h0
    · exact h1
    · exact h2
  · intro l a w h
    rcases (by have := hJ l a w h; omega : l = 0 ∨ l = 1 ∨ l = 2) with rfl | rfl | rfl
    · exact wp_seq (wp_skip (pass0 a w h))
    · exact wp_seq (wp_skip (pass1 a w h))
    · exact wp_seq (wp_skip (pass2 a w h))

theorem lit59 (t : Array Value) (h : t.size = 59) : ∃ u0 u1 u2 u3 u4 u5 u6 u7 u8 u9 u10 u11 u12 u13 u14 u15 u16 u17 u18 u19 u20 u21 u22 u23 u24 u25 u26 u27 u28 u29 u30 u31 u32 u33 u34 u35 u36 u37 u38 u39 u40 u41 u42 u43 u44 u45 u46 u47 u48 u49 u50 u51 u52 u53 u54 u55 u56 u57 u58, t = #[u0, u1, u2, u3, u4, u5, u6, u7, u8, u9, u10, u11, u12, u13, u14, u15, u16, u17, u18, u19, u20, u21, u22, u23, u24, u25, u26, u27, u28, u29, u30, u31, u32, u33, u34, u35, u36, u37, u38, u39, u40, u41, u42, u43, u44, u45, u46, u47, u48, u49, u50, u51, u52, u53, u54, u55, u56, u57, u58] := by
  obtain ⟨l⟩ := t
  have h' : l.length = 59 := h
  clear h
  obtain _ | ⟨u0, l⟩ := l
  · exact absurd h' (by simp)
  have h' : l.length = 58 := by simpa using h' 
  obtain _ | ⟨u1, l⟩ := l
  · exact absurd h' (by simp)
  have h' : l.length = 57 := by simpa using h' 
  obtain _ | ⟨u2, l⟩ := l
  · exact absurd h' (by simp)
  have h' : l.length = 56 := by simpa using h' 
  obtain _ | ⟨u3, l⟩ := l
  · exact absurd h' (by simp)
  have h' : l.length = 55 := by simpa using h' 
  obtain _ | ⟨u4, l⟩ := l
  · exact absurd h' (by simp)
  have h' : l.length = 54 := by simpa using h' 
  obtain _ | ⟨u5, l⟩ := l
  · exact absurd h' (by simp)
  have h' : l.length = 53 := by simpa using h' 
  obtain _ | ⟨u6, l⟩ := l
  · exact absurd h' (by simp)
  have h' : l.length = 52 := by simpa using h' 
  obtain _ | ⟨u7, l⟩ := l
  · exact absurd h' (by simp)
  have h' : l.length = 51 := by simpa using h' 
  obtain _ | ⟨u8, l⟩ := l
  · exact absurd h' (by simp)
  have h' : l.length = 50 := by simpa using h' 
  obtain _ | ⟨u9, l⟩ := l
  · exact absurd h' (by simp)
  have h' : l.length = 49 := by simpa using h' 
  obtain _ | ⟨u10, l⟩ := l
  · exact absurd h' (by simp)
  have h' : l.length = 48 := by simpa using h' 
  obtain _ | ⟨u11, l⟩ := l
  · exact absurd h' (by simp)
  have h' : l.length = 47 := by simpa using h' 
  obtain _ | ⟨u12, l⟩ := l
  · exact absurd h' (by simp)
  have h' : l.length = 46 := by simpa using h' 
  obtain _ | ⟨u13, l⟩ := l
  · exact absurd h' (by simp)
  have h' : l.length = 45 := by simpa using h' 
  obtain _ | ⟨u14, l⟩ := l
  · exact absurd h' (by simp)
  have h' : l.length = 44 := by simpa using h' 
  obtain _ | ⟨u15, l⟩ := l
  · exact absurd h' (by simp)
  have h' : l.length = 43 := by simpa using h' 
  obtain _ | ⟨u16, l⟩ := l
  · exact absurd h' (by simp)
  have h' : l.length = 42 := by simpa using h' 
  obtain _ | ⟨u17, l⟩ := l
  · exact absurd h' (by simp)
  have h' : l.length = 41 := by simpa using h' 
  obtain _ | ⟨u18, l⟩ := l
  · exact absurd h' (by simp)
  have h' : l.length = 40 := by simpa using h' 
  obtain _ | ⟨u19, l⟩ := l
  · exact absurd h' (by simp)
  have h' : l.length = 39 := by simpa using h' 
  obtain _ | ⟨u20, l⟩ := l
  · exact absurd h' (by simp)
  have h' : l.length = 38 := by simpa using h' 
  obtain _ | ⟨u21, l⟩ := l
  · exact absurd h' (by simp)
  have h' : l.length = 37 := by simpa using h' 
  obtain _ | ⟨u22, l⟩ := l
  · exact absurd h' (by simp)
  have h' : l.length = 36 := by simpa using h' 
  obtain _ | ⟨u23, l⟩ := l
  · exact absurd h' (by simp)
  have h' : l.length = 35 := by simpa using h' 
  obtain _ | ⟨u24, l⟩ := l
  · exact absurd h' (by simp)
  have h' : l.length = 34 := by simpa using h' 
  obtain _ | ⟨u25, l⟩ := l
  · exact absurd h' (by simp)
  have h' : l.length = 33 := by simpa using h' 
  obtain _ | ⟨u26, l⟩ := l
  · exact absurd h' (by simp)
  have h' : l.length = 32 := by simpa using h' 
  obtain _ | ⟨u27, l⟩ := l
  · exact absurd h' (by simp)
  have h' : l.length = 31 := by simpa using h' 
  obtain _ | ⟨u28, l⟩ := l
  · exact absurd h' (by simp)
  have h' : l.length = 30 := by simpa using h' 
  obtain _ | ⟨u29, l⟩ := l
  · exact absurd h' (by simp)
  have h' : l.length = 29 := by simpa using h' 
  obtain _ | ⟨u30, l⟩ := l
  · exact absurd h' (by simp)
  have h' : l.length = 28 := by simpa using h' 
  obtain _ | ⟨u31, l⟩ := l
  · exact absurd h' (by simp)
  have h' : l.length = 27 := by simpa using h' 
  obtain _ | ⟨u32, l⟩ := l
  · exact absurd h' (by simp)
  have h' : l.length = 26 := by simpa using h' 
  obtain _ | ⟨u33, l⟩ := l
  · exact absurd h' (by simp)
  have h' : l.length = 25 := by simpa using h' 
  obtain _ | ⟨u34, l⟩ := l
  · exact absurd h' (by simp)
  have h' : l.length = 24 := by simpa using h' 
  obtain _ | ⟨u35, l⟩ := l
  · exact absurd h' (by simp)
  have h' : l.length = 23 := by simpa using h' 
  obtain _ | ⟨u36, l⟩ := l
  · exact absurd h' (by simp)
  have h' : l.length = 22 := by simpa using h' 
  obtain _ | ⟨u37, l⟩ := l
  · exact absurd h' (by simp)
  have h' : l.length = 21 := by simpa using h' 
  obtain _ | ⟨u38, l⟩ := l
  · exact absurd h' (by simp)
  have h' : l.length = 20 := by simpa using h' 
  obtain _ | ⟨u39, l⟩ := l
  · exact absurd h' (by simp)
  have h' : l.length = 19 := by simpa using h' 
  obtain _ | ⟨u40, l⟩ := l
  · exact absurd h' (by simp)
  have h' : l.length = 18 := by simpa using h' 
  obtain _ | ⟨u41, l⟩ := l
  · exact absurd h' (by simp)
  have h' : l.length = 17 := by simpa using h' 
  obtain _ | ⟨u42, l⟩ := l
  · exact absurd h' (by simp)
  have h' : l.length = 16 := by simpa using h' 
  obtain _ | ⟨u43, l⟩ := l
  · exact absurd h' (by simp)
  have h' : l.length = 15 := by simpa using h' 
  obtain _ | ⟨u44, l⟩ := l
  · exact absurd h' (by simp)
  have h' : l.length = 14 := by simpa using h' 
  obtain _ | ⟨u45, l⟩ := l
  · exact absurd h' (by simp)
  have h' : l.length = 13 := by simpa using h' 
  obtain _ | ⟨u46, l⟩ := l
  · exact absurd h' (by simp)
  have h' : l.length = 12 := by simpa using h' 
  obtain _ | ⟨u47, l⟩ := l
  · exact absurd h' (by simp)
  have h' : l.length = 11 := by simpa using h' 
  obtain _ | ⟨u48, l⟩ := l
  · exact absurd h' (by simp)
  have h' : l.length = 10 := by simpa using h' 
  obtain _ | ⟨u49, l⟩ := l
  · exact absurd h' (by simp)
  have h' : l.length = 9 := by simpa using h' 
  obtain _ | ⟨u50, l⟩ := l
  · exact absurd h' (by simp)
  have h' : l.length = 8 := by simpa using h' 
  obtain _ | ⟨u51, l⟩ := l
  · exact absurd h' (by simp)
  have h' : l.length = 7 := by simpa using h' 
  obtain _ | ⟨u52, l⟩ := l
  · exact absurd h' (by simp)
  have h' : l.length = 6 := by simpa using h' 
  obtain _ | ⟨u53, l⟩ := l
  · exact absurd h' (by simp)
  have h' : l.length = 5 := by simpa using h' 
  obtain _ | ⟨u54, l⟩ := l
  · exact absurd h' (by simp)
  have h' : l.length = 4 := by simpa using h' 
  obtain _ | ⟨u55, l⟩ := l
  · exact absurd h' (by simp)
  have h' : l.length = 3 := by simpa using h' 
  obtain _ | ⟨u56, l⟩ := l
  · exact absurd h' (by simp)
  have h' : l.length = 2 := by simpa using h' 
  obtain _ | ⟨u57, l⟩ := l
  · exact absurd h' (by simp)
  have h' : l.length = 1 := by simpa using h' 
  obtain _ | ⟨u58, l⟩ := l
  · exact absurd h' (by simp)
  have h' : l.length = 0 := by simpa using h' 
  obtain rfl : l = [] := List.eq_nil_of_length_eq_zero (by simpa using h')
  exact ⟨_, _, _, _, _, _, _, _, _, _, _, _, _, _, _, _, _, _, _, _, _, _, _, _, _, _, _, _, _, _, _, _, _, _, _, _, _, _, _, _, _, _, _, _, _, _, _, _, _, _, _, _, _, _, _, _, _, _, _, rfl⟩
end Go.Proofs.YtbdmildlcgecjaaDoor.Scope
