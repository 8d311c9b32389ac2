/-
  The Go function impl.joined answers its parts' bytes, one behind the other, in new memory.
  Conditions: at least one part; all parts together have at most 2^40 bytes.
-/
import Derived.Test.YtkmlnibkdcdegaaRows
import Derived.WalkKit
import Derived.ProofKit
import Derived.OpenShut
import Derived.ShutString
import Derived.Lib.Hide
import Derived.Lib.SlBuf
import Derived.Lib.LazyBuf
namespace Go.Proofs.Ytkmlnibkdcdegaa.Join
open Go.ChangeShapes Go.WideShapes Go.ChangeAt Go.RowKit
set_option linter.unusedVariables false
set_option maxRecDepth 100000

/-- The bytes of some texts, one behind the other. -/
def flat (ss : List ByteArray) : List UInt8 := ss.flatMap (·.data.toList)
theorem flat_step (ss : List ByteArray) (k : Nat) (h : k < ss.length) : flat (ss.take (k + 1)) = flat (ss.take k) ++ ss[k].data.toList := by
  unfold flat
  rw [List.take_succ_eq_append_getElem h, List.flatMap_append]
  simp
theorem size_len (s : ByteArray) : s.data.toList.length = s.size := by simp
theorem flat_len_step (ss : List ByteArray) (k : Nat) (h : k < ss.length) : (flat (ss.take (k + 1))).length = (flat (ss.take k)).length + ss[k].size := by
  rw [flat_step ss k h, List.length_append, size_len]
theorem flat_take_le (ss : List ByteArray) (k : Nat) : (flat (ss.take k)).length ≤ (flat ss).length := by
  conv => rhs; rw [← List.take_append_drop k ss]
  unfold flat
  rw [List.flatMap_append, List.length_append]; omega
theorem flat_all (ss : List ByteArray) (k : Nat) (h : ss.length ≤ k) : flat (ss.take k) = flat ss := by rw [List.take_of_length_le h]

theorem infoU8 : (Try.prog.info? 5).map (fun i => (i.zero, i.size, i.bytes)) = some (some (.int .u8 0), 1, 1) := by kernel_rfl
theorem sizeU8 (w : World) : (sizeOf 5).run Try.prog w = .ok 1 w := by kernel_rfl
theorem ret_str {a b : ByteArray} (h : a = b) : Ending.returned (.string a) = .returned (.string b) := by rw [h]

/-- 'copy(b[bp:], s)', s a text, bp = how much is filled. -/
theorem copy_text (w0 wr : World) (h N : Nat) (acc : List UInt8) (s : ByteArray) (ty : TypeId) (hb : Lib.Buf w0 wr h N acc) (hfit : acc.length + s.size ≤ N) :
    ∃ wr', (Builtin.copy_ #[22, 9] ty #[Lib.tailV h N acc.length, .string s]).run Try.prog wr = .ok (.int .i64 (s.size : Int)) wr' ∧ Lib.Buf w0 wr' h N (acc ++ s.data.toList) := by
  by_cases hz : s.size = 0
  · have hs0 : s.data.toList = [] := List.eq_nil_of_length_eq_zero (by rw [size_len, hz])
    refine ⟨wr, ?_, by rw [hs0]; simpa using hb⟩
    have := run_copy_string (P := Try.prog) wr 22 9 ty 5 h (if N = acc.length then 0 else acc.length) (N - acc.length) (N - acc.length) s Try.underlying22 sizeU8 (by omega) (fun j hj => by omega) (fun j hj => by omega)
    rw [hs0] at this
    unfold Lib.tailV
    by_cases hN : N = acc.length
    · rw [if_pos hN] at this ⊢; exact this
    · rw [if_neg hN] at this ⊢; exact this
  · have hne : ¬ N = acc.length := by omega
    have hr := run_copy_string (P := Try.prog) wr 22 9 ty 5 h acc.length (N - acc.length) (N - acc.length) s Try.underlying22 sizeU8 (by omega)
      (fun j hj => hb.there _ (by omega)) (fun j hj => hb.free _ (by omega))
    have hl : (s.data.toList.map fun x => Value.int .u8 (x.toNat : Int)).length = s.size := by rw [List.length_map, size_len]
    refine ⟨_, by unfold Lib.tailV; rw [if_neg hne]; exact hr, ?_⟩
    have hin := World.cell?_setCells_in h (s.data.toList.map fun x => Value.int .u8 (x.toNat : Int)) acc.length wr (fun j hj => hb.there _ (by omega))
    have hout := World.cell?_setCells_out h (s.data.toList.map fun x => Value.int .u8 (x.toNat : Int)) acc.length wr
    refine ⟨?_, ?_, ?_, ?_, by rw [List.length_append, size_len]; exact hfit⟩
    · exact Lib.below_setCells h (Nat.le_refl _) _ _ hb.below
    · intro j hj
      by_cases h1 : acc.length ≤ j ∧ j < acc.length + s.size
      · obtain ⟨d, rfl⟩ : ∃ d, j = acc.length + d := ⟨j - acc.length, by omega⟩
        rw [hin d (by omega)]
        rfl
      · rw [hout ⟨h, j, none⟩ (fun _ _ => by rw [hl]; show j < _ ∨ _ ≤ j; omega)]
        exact hb.there j hj
    · intro j hj
      rw [World.frozen?_setCells]
      exact hb.free j hj
    · intro j x hx
      by_cases h1 : j < acc.length
      · rw [List.getElem?_append_left h1] at hx
        rw [hout ⟨h, j, none⟩ (fun _ _ => Or.inl h1)]
        exact hb.holds j x hx
      · rw [List.getElem?_append_right (by omega)] at hx
        obtain ⟨d, rfl⟩ : ∃ d, j = acc.length + d := ⟨j - acc.length, by omega⟩
        rw [Nat.add_sub_cancel_left] at hx
        have hd : d < s.data.toList.length := (List.getElem?_eq_some_iff.1 hx).1
        rw [hin d (by rw [List.length_map]; exact hd)]
        simp only [List.getElem_map, (List.getElem?_eq_some_iff.1 hx).2]

/-- What 'make([]byte, n)' lays is a buffer of which nothing is filled. -/
theorem buf_made {w w' : World} {N : Nat} {xs : List Value} (ho : w'.ownsRow w.heap.size 5 1 (.slice (some ⟨w.heap.size, 0, none⟩) N N) N xs) (hg : w.grownBy w' none) : Lib.Buf w w' w.heap.size N [] := by
  rcases ho.2 with ⟨h, _⟩ | ⟨g, cap, cur, hv, hbg, hgg, _, _, hcs, _⟩
  · cases h
  · simp only [Value.slice.injEq, Option.some.injEq, Addr.mk.injEq] at hv
    obtain ⟨⟨rfl, _⟩, _, rfl⟩ := hv
    have hcell : ∀ j, w'.cell? ⟨w.heap.size, j, none⟩ = cur[j]? := fun j => cell_of_row w' w.heap.size j cur _ (0, 0) hgg
    refine ⟨(Below.refl _ _).grown hg (Nat.le_refl _) (fun k hk => by cases hk), fun j hj => ?_, fun j hj => ?_, fun j x hx => by simp at hx, Nat.zero_le _⟩
    · rw [hcell, Array.getElem?_eq_getElem (by omega)]; rfl
    · simp [World.frozen?, hgg]

theorem conv_buf {w0 wr : World} {h : Nat} {acc : List UInt8} (hb : Lib.Buf w0 wr h acc.length acc) :
    (convert 22 9 (.slice (some ⟨h, 0, none⟩) acc.length acc.length)).run Try.prog wr = .ok (.string ⟨acc.toArray⟩) wr :=
  run_convert_bytes_back (P := Try.prog) wr 22 9 5 ⟨h, 0, none⟩ acc.length acc Try.underlying22 Try.underlying5 Try.underlying9 (fun j hj => by
    have hadd : (⟨h, 0, none⟩ : Addr).add j = ⟨h, j, none⟩ := by unfold Addr.add; split <;> simp_all
    rw [hadd]; exact hb.holds j acc[j] (List.getElem?_eq_getElem hj))

set_option maxHeartbeats 1000000 in
theorem joinedC_any (ss : List ByteArray) (b cap : Nat) (w : World) (hn : 1 ≤ ss.length) (hn2 : ss.length ≤ 1000) (hbig : (flat ss).length ≤ 1099511627776)
    (hc : ∀ k (h : k < ss.length), w.cell? ⟨b, k, none⟩ = some (.string ss[k])) :
    Calls Try.prog 90 #[.slice (some ⟨b, 0, none⟩) ss.length cap] w fun e w' => e = .returned (.string ⟨(flat ss).toArray⟩) ∧ Below w.heap.size w w' := by
  obtain ⟨i0, hi, hz0, hz1, hz2⟩ := info_parts infoU8
  have HC := Lib.hid hc
  clear hc
  go_enter Try.func90, Try.ntmps90
  go_wp2_with fail
  go_loop [3, 12] (fun z i => ∃ k : Nat, k ≤ ss.length ∧ i = .int .i64 k ∧ z = .int .i64 ((flat (ss.take k)).length : Nat)) (fun _ i => ss.length - (intOf i).toNat)
  case atStart => exact ⟨0, by omega, rfl, rfl⟩
  case round =>
    obtain ⟨k, hk, rfl, rfl⟩ := hrel
    by_cases hlt : k < ss.length
    · have hcell := HC.out k hlt
      have hle := flat_take_le ss (k + 1)
      have HL := Lib.hid (flat_len_step ss k hlt)
      have hle2 : (flat (ss.take k)).length + ss[k].size ≤ 1099511627776 := by have := HL.out; omega
      clear hle
      generalize hs : ss[k] = s at *
      have HS := Lib.hid hs
      clear hs
      go_wp2_with fail
      go_round
      case rel => exact ⟨k + 1, by omega, by go_num, by rw [HL.out]; go_num⟩
      case measure => simp [intOf]; omega
    · have HN : Hid ((flat (ss.take k)).length = (flat ss).length) := by exact Lib.hid (by rw [flat_all ss k (by omega)])
      have hN : (flat (ss.take k)).length ≤ 1099511627776 := by rw [HN.out]; exact hbig
      generalize (flat (ss.take k)).length = N at *
      clear hbig
      go_wp2_with (at_make; refine wpList_make_full _ rfl _ _ 22 rfl w.heap.size 5 i0 (.int .u8 0) 1 Try.underlying22 hi hz0 hz1 .i64 .i64 _ _ N rfl rfl rfl rfl ?c1 ?c2 (Nat.le_refl _) ?_)
      case c1 => omega
      case c2 => unfold maxLen; omega
      intro w1 hown hgrow
      have HB := Lib.hid (buf_made hown hgrow)
      clear hown hgrow
      go_wp2_with fail
      go_loopw [7, 25] (fun z i wr => ∃ j : Nat, j ≤ ss.length ∧ i = .int .i64 j ∧ ∃ acc : List UInt8, z = .int .i64 (acc.length : Nat) ∧ Hid (acc = flat (ss.take j) ∧ Lib.Buf w wr w.heap.size N acc)) (fun _ i _ => ss.length - (intOf i).toNat)
      case atStart => exact ⟨0, by omega, rfl, [], rfl, Lib.hid ⟨rfl, HB.out⟩⟩
      case round =>
        obtain ⟨j, hj, rfl, acc, rfl, HR⟩ := hrel
        by_cases hjt : j < ss.length
        · have hcell := (Lib.Below.cellOf HR.out.2.below (HC.out j hjt) (Nat.le_refl _))
          have HL : Hid (acc.length + ss[j].size ≤ N) := by
            refine Lib.hid ?_
            have h1 := flat_len_step ss j hjt
            have h2 := flat_take_le ss (j + 1)
            have h3 := HN.out
            have h4 := HR.out.1
            rw [h4]; omega
          obtain ⟨wr', hrun, HB'⟩ := copy_text w wr w.heap.size N acc ss[j] 3 HR.out.2 HL.out
          have hsl := Lib.run_slice_tailV (P := Try.prog) wr 22 5 Try.underlying22 sizeU8 w.heap.size N acc.length HR.out.2.fits
          have HF := Lib.hid (flat_step ss j hjt)
          have hL2 := HL.out
          have HB2 := Lib.hid HB'
          clear HB'
          generalize hs : ss[j] = s at *
          have HS := Lib.hid hs
          clear hs
          go_wp2_with fail
          go_roundw
          case rel => exact ⟨j + 1, by omega, by go_num, acc ++ s.data.toList, by rw [List.length_append, size_len]; go_num, Lib.hid ⟨by rw [HF.out, HR.out.1], HB2.out⟩⟩
          case measure => simp [intOf]; omega
        · have HA : Hid (acc = flat ss ∧ acc.length = N) := by
            refine Lib.hid ?_
            have h1 := HR.out.1
            rw [flat_all ss j (by omega)] at h1
            exact ⟨h1, by rw [h1, HN.out]⟩
          have hb : Lib.Buf w wr w.heap.size acc.length acc := by have h1 := HR.out.2; rw [← HA.out.2] at h1; exact h1
          have hconv := conv_buf hb
          rw [HA.out.2] at hconv
          clear hb
          go_wp2_with fail
          go_ret
          exact ⟨ret_str (by rw [HA.out.1]), HR.out.2.below⟩
theorem joined_any (ss : List ByteArray) (b : Nat) (w : World) (hn : 1 ≤ ss.length) (hn2 : ss.length ≤ 1000) (hbig : (flat ss).length ≤ 1099511627776)
    (hc : ∀ k (h : k < ss.length), w.cell? ⟨b, k, none⟩ = some (.string ss[k])) :
    Calls Try.prog 90 #[.slice (some ⟨b, 0, none⟩) ss.length ss.length] w fun e w' => e = .returned (.string ⟨(flat ss).toArray⟩) ∧ Below w.heap.size w w' := joinedC_any ss b ss.length w hn hn2 hbig hc
end Go.Proofs.Ytkmlnibkdcdegaa.Join
