/-
  Contracts of library functions on the sorted keys of a map, laid at this translation: each is proved once in the library and stated here in this translation's own numbers.
-/
import Derived.Shelf.SlIter.Nil
import Derived.Shelf.SortM.Plain
import Derived.Shelf.SortM.SortNone
import Derived.Test.YtoagdpbbojlgfaaGreatProg
namespace Go.Proofs.YtoagdpbbojlgfaaGreat
open Go.Shelf Go.Proofs
def Tryz.keys262_ren : Go.Shelf.Ren := ⟨fun | 7 => 262 | 10 => 304 | n => n, fun | 23 => 183 | 26 => 9 | 3 => 42 | 28 => 231 | 0 => 0 | 27 => 230 | 33 => 206 | 4 => 4 | n => n, fun | n => n⟩
theorem Tryz.keys262 : Go.Proofs.SlLaysZ.n7 Tryz.prog Tryz.keys262_ren := {
  mixed := by kernel_rfl
  f7 := ⟨Tryz.f262.name, by decide, Tryz.func262.trans (congrArg some (by kernel_rfl))⟩
  f10 := ⟨Tryz.f304.name, by decide, Tryz.func304.trans (congrArg some (by kernel_rfl))⟩
  t0 := Tryz.underlying0
  a0 := Tryz.isAgg0
  z0 := Tryz.sizeOf0
  v0 := Tryz.zeroValue0
  t4 := Tryz.underlying4
  a4 := Tryz.isAgg4
  z4 := Tryz.sizeOf4
  v4 := Tryz.zeroValue4
  t23 := Tryz.underlying183
  a23 := Tryz.isAgg183
  z23 := Tryz.sizeOf183
  v23 := Tryz.zeroValue183
  t26 := Tryz.underlying9
  a26 := Tryz.isAgg9
  z26 := Tryz.sizeOf9
  v26 := Tryz.zeroValue9
  t27 := Tryz.underlying230
  a27 := Tryz.isAgg230
  z27 := Tryz.sizeOf230
  v27 := Tryz.zeroValue230
  t28 := Tryz.underlying231
  a28 := Tryz.isAgg231
  z28 := Tryz.sizeOf231
  v28 := Tryz.zeroValue231
  t33 := Tryz.underlying206
  a33 := Tryz.isAgg206
  z33 := Tryz.sizeOf206
  v33 := Tryz.zeroValue206 }
def Tryz.sorted261_ren : Go.Shelf.Ren := ⟨fun | 6 => 261 | 8 => 249 | 9 => 303 | 11 => 299 | 13 => 321 | 12 => 320 | 23 => 336 | 24 => 337 | 14 => 327 | 15 => 328 | 16 => 329 | 17 => 330 | 18 => 331 | 19 => 332 | 20 => 333 | 21 => 334 | 22 => 335 | 25 => 338 | 26 => 339 | 27 => 340 | 28 => 341 | 29 => 342 | 30 => 343 | 31 => 344 | n => n, fun | 26 => 9 | 28 => 231 | 24 => 58 | 0 => 0 | 3 => 3 | 37 => 269 | 48 => 224 | 50 => 221 | 4 => 4 | 40 => 326 | 39 => 325 | 45 => 331 | 5 => 5 | 9 => 9 | 51 => 335 | 55 => 338 | 57 => 340 | 58 => 341 | 33 => 206 | n => n, fun | n => n⟩
theorem Tryz.sorted261 : Go.Proofs.SlLaysZ.n6 Tryz.prog Tryz.sorted261_ren := {
  mixed := by kernel_rfl
  f6 := ⟨Tryz.f261.name, by decide, Tryz.func261.trans (congrArg some (by kernel_rfl))⟩
  f8 := ⟨Tryz.f249.name, by decide, Tryz.func249.trans (congrArg some (by kernel_rfl))⟩
  f11 := ⟨Tryz.f299.name, by decide, Tryz.func299.trans (congrArg some (by kernel_rfl))⟩
  t0 := Tryz.underlying0
  a0 := Tryz.isAgg0
  z0 := Tryz.sizeOf0
  v0 := Tryz.zeroValue0
  t24 := Tryz.underlying58
  a24 := Tryz.isAgg58
  z24 := Tryz.sizeOf58
  v24 := Tryz.zeroValue58
  t26 := Tryz.underlying9
  a26 := Tryz.isAgg9
  z26 := Tryz.sizeOf9
  v26 := Tryz.zeroValue9
  t28 := Tryz.underlying231
  a28 := Tryz.isAgg231
  z28 := Tryz.sizeOf231
  v28 := Tryz.zeroValue231
  i26 := by kernel_rfl }
def Tryz.sort303_ren : Go.Shelf.Ren := ⟨fun | 6 => 303 | 8 => 321 | 9 => 320 | 19 => 336 | 20 => 337 | 21 => 327 | 22 => 328 | 23 => 329 | 24 => 330 | 25 => 331 | 26 => 332 | 27 => 333 | 28 => 334 | 29 => 335 | 36 => 338 | 31 => 339 | 32 => 340 | 37 => 341 | 38 => 342 | 39 => 343 | 41 => 344 | n => n, fun | 27 => 58 | 29 => 9 | 3 => 3 | 32 => 269 | 26 => 58 | 0 => 0 | 44 => 224 | 46 => 221 | 4 => 4 | 36 => 326 | 35 => 325 | 41 => 331 | 5 => 5 | 9 => 9 | 53 => 335 | 57 => 338 | 63 => 340 | 64 => 341 | n => n, fun | n => n⟩
theorem Tryz.sort303 : Go.Proofs.SlLaysM.n6 Tryz.prog Tryz.sort303_ren := {
  mixed := by kernel_rfl
  f6 := ⟨Tryz.f303.name, by decide, Tryz.func303.trans (congrArg some (by kernel_rfl))⟩
  f8 := Tryz.func321.trans (congrArg some (by kernel_rfl))
  f9 := ⟨Tryz.f320.name, by decide, Tryz.func320.trans (congrArg some (by kernel_rfl))⟩
  f19 := Tryz.func336.trans (congrArg some (by kernel_rfl))
  f20 := Tryz.func337.trans (congrArg some (by kernel_rfl))
  f21 := ⟨Tryz.f327.name, by decide, Tryz.func327.trans (congrArg some (by kernel_rfl))⟩
  f22 := ⟨Tryz.f328.name, by decide, Tryz.func328.trans (congrArg some (by kernel_rfl))⟩
  f23 := ⟨Tryz.f329.name, by decide, Tryz.func329.trans (congrArg some (by kernel_rfl))⟩
  f24 := ⟨Tryz.f330.name, by decide, Tryz.func330.trans (congrArg some (by kernel_rfl))⟩
  f25 := ⟨Tryz.f331.name, by decide, Tryz.func331.trans (congrArg some (by kernel_rfl))⟩
  f26 := ⟨Tryz.f332.name, by decide, Tryz.func332.trans (congrArg some (by kernel_rfl))⟩
  f27 := ⟨Tryz.f333.name, by decide, Tryz.func333.trans (congrArg some (by kernel_rfl))⟩
  f28 := ⟨Tryz.f334.name, by decide, Tryz.func334.trans (congrArg some (by kernel_rfl))⟩
  f29 := ⟨Tryz.f335.name, by decide, Tryz.func335.trans (congrArg some (by kernel_rfl))⟩
  f31 := Tryz.func339.trans (congrArg some (by kernel_rfl))
  f32 := Tryz.func340.trans (congrArg some (by kernel_rfl))
  f36 := ⟨Tryz.f338.name, by decide, Tryz.func338.trans (congrArg some (by kernel_rfl))⟩
  f37 := ⟨Tryz.f341.name, by decide, Tryz.func341.trans (congrArg some (by kernel_rfl))⟩
  f38 := ⟨Tryz.f342.name, by decide, Tryz.func342.trans (congrArg some (by kernel_rfl))⟩
  f39 := ⟨Tryz.f343.name, by decide, Tryz.func343.trans (congrArg some (by kernel_rfl))⟩
  f41 := ⟨Tryz.f344.name, by decide, Tryz.func344.trans (congrArg some (by kernel_rfl))⟩
  t0 := Tryz.underlying0
  a0 := Tryz.isAgg0
  z0 := Tryz.sizeOf0
  v0 := Tryz.zeroValue0
  t3 := Tryz.underlying3
  a3 := Tryz.isAgg3
  z3 := Tryz.sizeOf3
  v3 := Tryz.zeroValue3
  t4 := Tryz.underlying4
  a4 := Tryz.isAgg4
  z4 := Tryz.sizeOf4
  v4 := Tryz.zeroValue4
  t5 := Tryz.underlying5
  a5 := Tryz.isAgg5
  z5 := Tryz.sizeOf5
  v5 := Tryz.zeroValue5
  t9 := Tryz.underlying9
  a9 := Tryz.isAgg9
  z9 := Tryz.sizeOf9
  v9 := Tryz.zeroValue9
  t26 := Tryz.underlying58
  a26 := Tryz.isAgg58
  z26 := Tryz.sizeOf58
  v26 := Tryz.zeroValue58
  t27 := Tryz.underlying58
  a27 := Tryz.isAgg58
  z27 := Tryz.sizeOf58
  v27 := Tryz.zeroValue58
  t29 := Tryz.underlying9
  a29 := Tryz.isAgg9
  z29 := Tryz.sizeOf9
  v29 := Tryz.zeroValue9
  t32 := Tryz.underlying269
  a32 := Tryz.isAgg269
  z32 := Tryz.sizeOf269
  v32 := Tryz.zeroValue269
  t35 := Tryz.underlying325
  a35 := Tryz.isAgg325
  z35 := Tryz.sizeOf325
  v35 := Tryz.zeroValue325
  t36 := Tryz.underlying326
  a36 := Tryz.isAgg326
  z36 := Tryz.sizeOf326
  v36 := Tryz.zeroValue326
  t41 := Tryz.underlying331
  a41 := Tryz.isAgg331
  z41 := Tryz.sizeOf331
  v41 := Tryz.zeroValue331
  t44 := Tryz.underlying224
  a44 := Tryz.isAgg224
  z44 := Tryz.sizeOf224
  v44 := Tryz.zeroValue224
  t46 := Tryz.underlying221
  a46 := Tryz.isAgg221
  z46 := Tryz.sizeOf221
  v46 := Tryz.zeroValue221
  t53 := Tryz.underlying335
  a53 := Tryz.isAgg335
  z53 := Tryz.sizeOf335
  v53 := Tryz.zeroValue335
  t57 := Tryz.underlying338
  a57 := Tryz.isAgg338
  z57 := Tryz.sizeOf338
  v57 := Tryz.zeroValue338
  t63 := Tryz.underlying340
  a63 := Tryz.isAgg340
  z63 := Tryz.sizeOf340
  v63 := Tryz.zeroValue340
  t64 := Tryz.underlying341
  a64 := Tryz.isAgg341
  z64 := Tryz.sizeOf341
  v64 := Tryz.zeroValue341 }
open Go.RowKit Go.Maps Go.Sort
theorem Tryz.sorts261 (m : Nat) : AnyZ.SortsIn Tryz.prog Tryz.sorted261_ren Fence.wide m :=
  ⟨fun blk off cap ss W hH hblk hsz => callsIn_wide.2 (AnyM.slices_Sort_string Tryz.sort303 blk off cap ss W hH hblk hsz),
   fun p cap W => callsIn_wide.2 (AnyM.slices_Sort_string_none Tryz.sort303 p cap W)⟩

theorem Tryz.keysCall (mb : Option Nat) (W : World) : CallsIn Fence.wide 5 Tryz.prog 262 #[.map mb] W fun e w' => e = .returned (.func (.func 304) #[] #[.pointer (some ⟨W.heap.size, 0, none⟩)]) ∧ w' = W.alloc (.cells #[.map mb] 183) :=
  AnyZ.keys_in Tryz.keys262 Fence.wide 5 trivial rfl mb W

set_option maxHeartbeats 1000000 in
theorem Tryz.sortedCall {H : Type} (b nn : Nat) (D0 : DataW H) (R : Value → Option (DataW H × List MemPlace)) (w : World) (hown : w.ownsMap Tryz.prog 9 R b nn D0) (hmax : Maps.size D0 ≤ maxLen) (hbytes : Maps.size D0 * 16 ≤ 140737488355328) :
    CallsIn Fence.wide 5 Tryz.prog 261 #[.func (.func 304) #[] #[.pointer (some ⟨w.heap.size, 0, none⟩)]] (w.alloc (.cells #[.map (some b)] 183)) fun e w' => ∃ (v : Value) (ss : List (List UInt8)), e = .returned v ∧ ss.Perm (strKeys D0) ∧
      w'.ownsRow (w.alloc (.cells #[.map (some b)] 183)).heap.size 9 1 v ss.length ((ss.mergeSort (fun x y => decide (x ≤ y))).map encStr) ∧ (v = .slice none 0 0 ↔ ss = []) ∧ Below (w.alloc (.cells #[.map (some b)] 183)).heap.size (w.alloc (.cells #[.map (some b)] 183)) w' := by
  have hbl := hown.lt
  have hseq : SeqGives Fence.wide 2 Tryz.prog 304 #[.pointer (some ⟨w.heap.size, 0, none⟩)] encStr (fun ss => ss.Perm (strKeys D0)) (Maps.size D0) (w.alloc (.cells #[.map (some b)] 183)) :=
    AnyZ.keys_gives (ρ := Tryz.keys262_ren) { Tryz.keys262 with } Fence.wide _ trivial rfl (by omega) w.heap.size b nn D0 _ (by simp) (by simp) (by
      obtain ⟨es, clock, hb, Ft, hs, hD⟩ := hown
      exact ⟨es, clock, (Below.heap_alloc _ _ b hbl).trans hb, Ft, hs, hD⟩)
  exact AnyZ.sorted_in Tryz.sorted261 Fence.wide 5 trivial trivial trivial trivial rfl (by omega) (Tryz.sorts261 _) (enters_of Tryz.func303 (by kernel_rfl) rfl) 304 #[.pointer (some ⟨w.heap.size, 0, none⟩)] trivial (enters_of Tryz.func304 (by kernel_rfl) rfl) _ _ hmax hbytes _ hseq
end Go.Proofs.YtoagdpbbojlgfaaGreat
