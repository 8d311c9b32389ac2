/-
  What the given reader reads of a right record's text, and what the program's reader reads of it: the record itself. No Go text is walked here.
-/
import Derived.Test.YtkmlnibkdcdegaaGreatDoorRecSMath
import Derived.Test.YtkmlnibkdcdegaaGreatDoorRecIRead
namespace Go.Proofs.YtkmlnibkdcdegaaGreatDoor.Rec
open Go.ChangeShapes Go.WideShapes Go.ChangeAt Go.RowKit
open Dep (D I)
open Gn (gn gt)
set_option linter.unusedVariables false
set_option maxRecDepth 100000

theorem Here.at {s : ByteArray} {a b : Int} {l : List UInt8} (h : Here s a l) (e : a = b) : Here s b l := e ▸ h
theorem sN_here {t : ByteArray} {a n : Int} {l : List UInt8} (h : Here t a (Num.putB n ++ l)) (h0 : -9223372036854775808 ≤ n) (h1 : n ≤ 9223372036854775807) : sN t ⟨a, false⟩ = (n, ⟨a + (Num.putB n).length, false⟩) := by
  unfold sN
  dsimp only
  rw [gn_here h h0 h1, if_pos ⟨rfl, rfl⟩]
theorem sT_here {t u : ByteArray} {a : Int} {l : List UInt8} (h : Here t a (tL u ++ l)) (hu : u.size ≤ 8000) : sT t ⟨a, false⟩ = (u, ⟨a + (tL u).length, false⟩) := by
  unfold sT
  dsimp only
  rw [gt_here h hu, if_pos ⟨rfl, rfl⟩]
theorem rN_here {t : ByteArray} {a n : Int} {l : List UInt8} (h : Here t a (Num.putB n ++ l)) (h0 : -9223372036854775808 ≤ n) (h1 : n ≤ 9223372036854775807) : rN t a = (n, a + (Num.putB n).length) := by
  unfold rN
  rw [gn_here h h0 h1]
theorem rT_here {t u : ByteArray} {a : Int} {l : List UInt8} (h : Here t a (tL u ++ l)) (hu : u.size ≤ 8000) : rT t a = (u, a + (tL u).length) := by
  unfold rT
  rw [gt_here h hu]
theorem id_three {t : ByteArray} {a : Int} {i : I} {l : List UInt8} (h : Here t a (idL i ++ l)) : Here t a (Num.putB i.c ++ (Num.putB i.s ++ (Num.putB i.e ++ l))) := by
  unfold idL at h
  rwa [List.append_assoc, List.append_assoc] at h
theorem id_len (i : I) (a : Int) : a + (Num.putB i.c).length + (Num.putB i.s).length + (Num.putB i.e).length = a + (idL i).length := by
  unfold idL
  rw [List.length_append, List.length_append]
  omega
theorem sI_here {t : ByteArray} {a : Int} {i : I} {l : List UInt8} (h : Here t a (idL i ++ l)) (hi : i.right = true) : sI t ⟨a, false⟩ = (i, ⟨a + (idL i).length, false⟩) := by
  have hr := (Dep.I.right_iff i).1 hi
  have h1 := id_three h
  have h2 := h1.on
  have h3 := h2.on
  unfold sI
  rw [sN_here h1 (by omega) (by omega)]
  dsimp only
  rw [sN_here h2 (by omega) (by omega)]
  dsimp only
  rw [sN_here h3 (by omega) (by omega)]
  dsimp only
  rw [id_len]
theorem rI_here {t : ByteArray} {a : Int} {i : I} {l : List UInt8} (h : Here t a (idL i ++ l)) (hi : i.right = true) : rI t a = (i, a + (idL i).length) := by
  have hr := (Dep.I.right_iff i).1 hi
  have h1 := id_three h
  have h2 := h1.on
  have h3 := h2.on
  unfold rI
  rw [rN_here h1 (by omega) (by omega)]
  dsimp only
  rw [rN_here h2 (by omega) (by omega)]
  dsimp only
  rw [rN_here h3 (by omega) (by omega)]
  dsimp only
  rw [id_len]
theorem dep_two {t : ByteArray} {a : Int} {d : D} {l : List UInt8} (h : Here t a (depL d ++ l)) : Here t a (tL d.k ++ (idL d.i ++ l)) := by
  unfold depL at h
  rwa [List.append_assoc] at h
theorem dep_len (d : D) (a : Int) : a + (tL d.k).length + (idL d.i).length = a + (depL d).length := by
  unfold depL
  rw [List.length_append]
  omega
theorem sDs_here {t : ByteArray} {z : List UInt8} : ∀ (l : List D) (a : Int), (∀ d ∈ l, d.k.size ≤ 8000 ∧ d.i.right = true) → Here t a (l.flatMap depL ++ z) → sDs t l.length ⟨a, false⟩ = (l, ⟨a + (l.flatMap depL).length, false⟩) := by
  intro l
  induction l with
  | nil => intro a _ _; simp [sDs]
  | cons d l ih =>
    intro a hk h
    rw [List.flatMap_cons, List.append_assoc] at h
    have h1 := dep_two h
    have h2 := h1.on
    have h3 := (h.on).at (dep_len d a).symm
    have hd := hk d (by simp)
    rw [List.length_cons, sDs, if_neg (by simp), sT_here h1 hd.1]
    dsimp only
    rw [sI_here h2 hd.2]
    dsimp only
    rw [ih _ (fun x hx => hk x (by simp [hx])) h3]
    dsimp only
    congr 2
    rw [List.flatMap_cons, List.length_append, dep_len]
    omega
theorem sKs_here {t : ByteArray} {z : List UInt8} : ∀ (l : List ByteArray) (a : Int), (∀ d ∈ l, d.size ≤ 8000) → Here t a (l.flatMap tL ++ z) → sKs t l.length ⟨a, false⟩ = (l, ⟨a + (l.flatMap tL).length, false⟩) := by
  intro l
  induction l with
  | nil => intro a _ _; simp [sKs]
  | cons d l ih =>
    intro a hk h
    rw [List.flatMap_cons, List.append_assoc] at h
    have hd := hk d (by simp)
    rw [List.length_cons, sKs, if_neg (by simp), sT_here h hd]
    dsimp only
    rw [ih _ (fun x hx => hk x (by simp [hx])) h.on]
    dsimp only
    congr 2
    rw [List.flatMap_cons, List.length_append]
    omega
theorem rDs_here {t : ByteArray} {z : List UInt8} (l : List D) (a : Int) (hk : ∀ d ∈ l, d.k.size ≤ 8000 ∧ d.i.right = true) (h : Here t a (l.flatMap depL ++ z)) : ∀ k, k ≤ l.length → rDs t k a = (l.take k, a + ((l.take k).flatMap depL).length) := by
  intro k
  induction k with
  | zero => intro _; simp [rDs]
  | succ k ih =>
    intro hk1
    have hlt : k < l.length := by omega
    have e : l.take (k + 1) = l.take k ++ [l[k]] := by simp
    have hh : Here t (a + ((l.take k).flatMap depL).length) (depL l[k] ++ ((l.drop (k + 1)).flatMap depL ++ z)) := by
      refine Here.on ?_
      have e2 : l.flatMap depL = (l.take k).flatMap depL ++ (depL l[k] ++ (l.drop (k + 1)).flatMap depL) := by
        rw [← List.flatMap_cons, ← List.drop_eq_getElem_cons hlt, ← List.flatMap_append, List.take_append_drop]
      rw [e2, List.append_assoc, List.append_assoc] at h
      exact h
    have h1 := dep_two hh
    have h2 := h1.on
    have hd := hk l[k] (List.getElem_mem hlt)
    rw [rDs, ih (by omega)]
    dsimp only
    rw [rT_here h1 hd.1]
    dsimp only
    rw [rI_here h2 hd.2, e]
    dsimp only
    congr 1
    rw [dep_len, List.flatMap_append, List.length_append, List.flatMap_singleton]
    omega
theorem rKs_here {t : ByteArray} {z : List UInt8} (l : List ByteArray) (a : Int) (hk : ∀ d ∈ l, d.size ≤ 8000) (h : Here t a (l.flatMap tL ++ z)) : ∀ k, k ≤ l.length → rKs t k a = (l.take k, a + ((l.take k).flatMap tL).length) := by
  intro k
  induction k with
  | zero => intro _; simp [rKs]
  | succ k ih =>
    intro hk1
    have hlt : k < l.length := by omega
    have e : l.take (k + 1) = l.take k ++ [l[k]] := by simp
    have hh : Here t (a + ((l.take k).flatMap tL).length) (tL l[k] ++ ((l.drop (k + 1)).flatMap tL ++ z)) := by
      refine Here.on ?_
      have e2 : l.flatMap tL = (l.take k).flatMap tL ++ (tL l[k] ++ (l.drop (k + 1)).flatMap tL) := by
        rw [← List.flatMap_cons, ← List.drop_eq_getElem_cons hlt, ← List.flatMap_append, List.take_append_drop]
      rw [e2, List.append_assoc, List.append_assoc] at h
      exact h
    have hd := hk l[k] (List.getElem_mem hlt)
    rw [rKs, ih (by omega)]
    dsimp only
    rw [rT_here hh hd, e]
    dsimp only
    congr 1
    rw [List.flatMap_append, List.length_append, List.flatMap_singleton]
    omega
/-- What the given model reads of a text: the record, and where it stands then. -/
def sRd (t : ByteArray) : R × St :=
  (⟨(sT t ⟨0, false⟩).1, (sI t (sT t ⟨0, false⟩).2).1, (sT t (sI t (sT t ⟨0, false⟩).2).2).1, (sN t (sT t (sI t (sT t ⟨0, false⟩).2).2).2).1 == 1,
    (sDs t (sN t (sN t (sT t (sI t (sT t ⟨0, false⟩).2).2).2).2).1.toNat (sN t (sN t (sT t (sI t (sT t ⟨0, false⟩).2).2).2).2).2).1,
    (sKs t (sN t (sDs t (sN t (sN t (sT t (sI t (sT t ⟨0, false⟩).2).2).2).2).1.toNat (sN t (sN t (sT t (sI t (sT t ⟨0, false⟩).2).2).2).2).2).2).1.toNat (sN t (sDs t (sN t (sN t (sT t (sI t (sT t ⟨0, false⟩).2).2).2).2).1.toNat (sN t (sN t (sT t (sI t (sT t ⟨0, false⟩).2).2).2).2).2).2).2).1⟩,
    (sKs t (sN t (sDs t (sN t (sN t (sT t (sI t (sT t ⟨0, false⟩).2).2).2).2).1.toNat (sN t (sN t (sT t (sI t (sT t ⟨0, false⟩).2).2).2).2).2).2).1.toNat (sN t (sDs t (sN t (sN t (sT t (sI t (sT t ⟨0, false⟩).2).2).2).2).1.toNat (sN t (sN t (sT t (sI t (sT t ⟨0, false⟩).2).2).2).2).2).2).2).2)
theorem gone_one (g : Bool) : (goneN g == 1) = g := by cases g <;> rfl
theorem gone_range (g : Bool) : -9223372036854775808 ≤ goneN g ∧ goneN g ≤ 9223372036854775807 := by unfold goneN; split <;> omega
/-- The places within a right record's text. -/
theorem heres {t : ByteArray} {r : R} (h : RecOk r) (ht : t = str (bodyL r)) : ∃ (a1 a2 a3 a4 a5 a6 a7 : Int),
    a1 = 0 + (tL r.k).length ∧ a2 = a1 + (idL r.i).length ∧ a3 = a2 + (tL r.d).length ∧ a4 = a3 + (Num.putB (goneN r.g)).length ∧ a5 = a4 + (Num.putB r.l.length).length ∧ a6 = a5 + (r.l.flatMap depL).length ∧ a7 = a6 + (Num.putB r.b.length).length ∧
    (∃ z, Here t 0 (tL r.k ++ z)) ∧ (∃ z, Here t a1 (idL r.i ++ z)) ∧ (∃ z, Here t a2 (tL r.d ++ z)) ∧ (∃ z, Here t a3 (Num.putB (goneN r.g) ++ z)) ∧ (∃ z, Here t a4 (Num.putB r.l.length ++ z)) ∧ (∃ z, Here t a5 (r.l.flatMap depL ++ z)) ∧ (∃ z, Here t a6 (Num.putB r.b.length ++ z)) ∧ (∃ z, Here t a7 (r.b.flatMap tL ++ z)) := by
  have hl := bodyL_le h
  have h0 : Here t 0 (tL r.k ++ (idL r.i ++ (tL r.d ++ (Num.putB (goneN r.g) ++ (Num.putB r.l.length ++ (r.l.flatMap depL ++ (Num.putB r.b.length ++ (r.b.flatMap tL ++ [])))))))) := by
    refine ⟨Int.le_refl _, by rw [ht, str_size]; omega, ?_⟩
    rw [ht, str_list]
    unfold bodyL hdL
    simp
  have h1 := h0.on
  have h2 := h1.on
  have h3 := h2.on
  have h4 := h3.on
  have h5 := h4.on
  have h6 := h5.on
  have h7 := h6.on
  exact ⟨_, _, _, _, _, _, _, rfl, rfl, rfl, rfl, rfl, rfl, rfl, ⟨_, h0⟩, ⟨_, h1⟩, ⟨_, h2⟩, ⟨_, h3⟩, ⟨_, h4⟩, ⟨_, h5⟩, ⟨_, h6⟩, ⟨_, h7⟩⟩
theorem both_of {t : ByteArray} {r : R} (h : RecOk r) (ht : t = str (bodyL r)) : ((sRd t).1 = r ∧ (sRd t).2.b = false) ∧ rR t 0 = r := by
  obtain ⟨a1, a2, a3, a4, a5, a6, a7, e1, e2, e3, e4, e5, e6, e7, ⟨z0, h0⟩, ⟨z1, h1⟩, ⟨z2, h2⟩, ⟨z3, h3⟩, ⟨z4, h4⟩, ⟨z5, h5⟩, ⟨z6, h6⟩, ⟨z7, h7⟩⟩ := heres h ht
  have hkk : r.k.size ≤ 8000 := by have := key_le h.1; omega
  have hdd : r.d.size ≤ 8000 := by have := (dat_of h.2.2.1).1; omega
  have hD := Dep.ok_of h.2.2.2.2.1
  have hK := keys_of h.2.2.2.2.2.1
  have hg := gone_range r.g
  have hll := hD.1
  have hbl := hK.1
  have hds : ∀ d ∈ r.l, d.k.size ≤ 8000 ∧ d.i.right = true := fun d hd => ⟨by have := key_le (hD.2.1 d hd).1; omega, (hD.2.1 d hd).2⟩
  have hks : ∀ x ∈ r.b, x.size ≤ 8000 := fun x hx => by have := key_le (hK.2.1 x hx); omega
  have m1 : many (r.l.length : Int) 6 = r.l.length := by unfold many; omega
  have m2 : many (r.b.length : Int) 4 = r.b.length := by unfold many; omega
  have d1 := rDs_here r.l a5 hds h5 r.l.length (Nat.le_refl _)
  have d2 := rKs_here r.b a7 hks h7 r.b.length (Nat.le_refl _)
  rw [List.take_length] at d1 d2
  refine ⟨?_, ?_⟩
  · unfold sRd
    rw [sT_here h0 hkk, ← e1]
    dsimp only
    rw [sI_here h1 h.2.1, ← e2]
    dsimp only
    rw [sT_here h2 hdd, ← e3]
    dsimp only
    rw [sN_here h3 hg.1 hg.2, ← e4]
    dsimp only
    rw [sN_here h4 (by omega) (by omega), ← e5]
    dsimp only
    rw [Int.toNat_natCast, sDs_here r.l a5 hds h5, ← e6]
    dsimp only
    rw [sN_here h6 (by omega) (by omega), ← e7]
    dsimp only
    rw [Int.toNat_natCast, sKs_here r.b a7 hks h7, gone_one]
    exact ⟨rfl, rfl⟩
  · unfold rR
    rw [rT_here h0 hkk, ← e1]
    dsimp only
    rw [rI_here h1 h.2.1, ← e2]
    dsimp only
    rw [rT_here h2 hdd, ← e3]
    dsimp only
    rw [rN_here h3 hg.1 hg.2, ← e4]
    dsimp only
    rw [rN_here h4 (by omega) (by omega), ← e5]
    dsimp only
    rw [m1, d1, ← e6]
    dsimp only
    rw [rN_here h6 (by omega) (by omega), ← e7]
    dsimp only
    rw [m2, d2, gone_one]
theorem un_of {s : ByteArray} (h : Seal.unC s = 0) : s.size ≤ 8000 ∧ 4 ≤ s.size ∧ Seal.unT s = Seal.bodyOf s := by
  unfold Seal.unC at h
  by_cases h1 : 8000 < s.size
  · rw [if_pos h1] at h; cases h
  · rw [if_neg h1] at h
    by_cases h2 : s.size < 4
    · rw [if_pos h2] at h; cases h
    · rw [if_neg h2] at h
      by_cases h3 : Seal.sealS (Seal.bodyOf s) = s
      · exact ⟨by omega, by omega, by unfold Seal.unT; rw [if_pos ⟨by omega, by omega, h3⟩]⟩
      · rw [if_neg h3] at h; cases h
theorem seal_body {s : ByteArray} {r : R} (hc : Seal.unC s = 0) (h : bytesV r = s) : RecOk r ∧ Seal.unT s = str (bodyL r) := by
  obtain ⟨h1, h2, h3⟩ := un_of hc
  have hr : RecOk r := by
    rcases Classical.em (RecOk r) with ho | ho
    · exact ho
    · rw [bytes_no (recB_false ho)] at h
      rw [← h] at h2
      exact absurd h2 (by decide)
  refine ⟨hr, ?_⟩
  rw [bytes_ok hr] at h
  have hl := bodyL_le hr
  unfold Seal.sealS at h
  rw [if_pos (by rw [str_size]; omega), str_list] at h
  have e := Seal.body_tail s
  have e2 : s.data.toList = bodyL r ++ (Seal.four (Crc.crcOn 0 (bodyL r))).data.toList := by rw [← h]
  rw [e2] at e
  have hs : s.size = s.data.toList.length := by simp
  have h4 : (Seal.four (Crc.crcOn 0 (bodyL r))).data.toList.length = 4 := by have := Seal.four_size (Crc.crcOn 0 (bodyL r)); simpa using this
  have hb : (Seal.bodyOf s).data.toList.length = s.size - 4 := by have := Seal.bodyOf_size s; simpa using this
  have hsz : s.size = (bodyL r).length + 4 := by rw [hs, e2, List.length_append, h4]
  have := (List.append_inj e (by rw [hb]; omega)).1
  rw [h3, ← str_of (Seal.bodyOf s), this]
/-- What RecRead answers, told by what the given model reads. -/
theorem read_is {s : ByteArray} (hc : Seal.unC s = 0) : ((sRd (Seal.unT s)).2.b = false ∧ bytesV (sRd (Seal.unT s)).1 = s ∧ rdR s = (sRd (Seal.unT s)).1 ∧ rdC s = 0) ∨ (((sRd (Seal.unT s)).2.b = true ∨ ¬ bytesV (sRd (Seal.unT s)).1 = s) ∧ rdR s = zeroR ∧ rdC s = 3) := by
  by_cases h : (sRd (Seal.unT s)).2.b = false ∧ bytesV (sRd (Seal.unT s)).1 = s
  · obtain ⟨ho, hb⟩ := seal_body hc h.2
    have hr := (both_of ho hb).2
    refine .inl ⟨h.1, h.2, ?_, ?_⟩
    · unfold rdR; rw [hr, if_pos ⟨hc, h.2⟩]
    · unfold rdC; rw [hr, if_pos hc, if_pos h.2]
  · have hn : ¬ bytesV (rR (Seal.unT s) 0) = s := fun e => by
      obtain ⟨ho, hb⟩ := seal_body hc e
      have := (both_of ho hb).1
      exact h ⟨this.2, by rw [this.1]; exact e⟩
    refine .inr ⟨?_, ?_, ?_⟩
    · cases hb : (sRd (Seal.unT s)).2.b with
      | true => exact .inl rfl
      | false => exact .inr fun e => h ⟨hb, e⟩
    · unfold rdR; rw [if_neg (fun e => hn e.2)]
    · unfold rdC; rw [if_pos hc, if_neg hn]
end Go.Proofs.YtkmlnibkdcdegaaGreatDoor.Rec
