/- What must be whatever is asked: layer 7. -/
import Derived.Test.YtgiealcfhlcpoaaCrcSeal
import Derived.Test.YtgiealcfhlcpoaaM2
import Derived.Lib.SlBytesConst
set_option linter.unusedVariables false
namespace Go.Proofs.Ytgiealcfhlcpoaa
open Go.RowKit
theorem lit_sl (w : World) (t : TypeId) (bs : List UInt8) (cs : Array Value) (n : Nat) (hn : bs.length = n) (hm : n ≤ 9223372036854775807) (h : cs.toList = bs.map bv) : Sl (w.alloc (.cells cs t)) (some ⟨w.heap.size, 0, none⟩) n (bs.map bv) :=
  ⟨by simp [hn], hm, (fun h => by cases h), by rw [← h]; exact Rd.new w t cs⟩
theorem lit_slz (w : World) (t : TypeId) (bs : List UInt8) (cs : Array Value) (z : Nat × Nat) (n : Nat) (hn : bs.length = n) (hm : n ≤ 9223372036854775807) (h : cs.toList = bs.map bv) : Sl (w.alloc (.cells cs t z)) (some ⟨w.heap.size, 0, none⟩) n (bs.map bv) := by
  refine ⟨by simp [hn], hm, (fun h => by cases h), ?_⟩
  intro k u hk
  rw [← h] at hk
  refine ⟨w.heap.size, 0, rfl, by simp, ?_⟩
  have hb : (w.alloc (.cells cs t z)).heap[w.heap.size]? = some (.cells cs t z) := heap_alloc_new w _
  simp only [World.cell?, hb, Nat.zero_add]
  simpa using hk
theorem cseal_sl (bs : List UInt8) (n m : Nat) (A : Option Addr) (c : Nat) (w : World) (hn : bs.length = n) (hm : n + 4 = m) (hl : n ≤ 1000000) (hS : Sl w A c (bs.map bv)) :
    Calls Try.prog 31 #[.slice A n c] w fun e w' => ∃ A' c', e = .returned (.slice A' m c') ∧ Sl w' A' c' ((C.sealB bs).map bv) ∧ Below w.heap.size w w' := by
  subst hm
  refine (cseal_any bs n A c w hn hl hS).mono ?_
  rintro e w' ⟨v, rfl, ho, hb⟩
  obtain ⟨A', c', rfl, -, hs⟩ := Sl.of_own ho
  exact ⟨A', c', rfl, hs, hb⟩
theorem C.openE_ok (bs : List UInt8) : C.openE (C.sealB bs) = 0 := by
  have hl := C.sealB_len bs
  unfold C.openE
  rw [if_neg (by omega), hl, Nat.add_sub_cancel]
  have ht : (C.sealB bs).take bs.length = bs := by unfold C.sealB; rw [List.take_left' rfl]
  rw [ht, if_pos rfl]
/-- Sealed bytes are opened as they were. -/
theorem copen_ok (bs : List UInt8) (n m : Nat) (A : Option Addr) (c : Nat) (w : World) (hn : bs.length = n) (hm : n + 4 = m) (hl : n ≤ 100000) (hS : Sl w A c ((C.sealB bs).map bv)) :
    Calls Try.prog 35 #[.slice A m c] w fun e w' => ∃ A' c', e = .returned (.tuple #[.slice A' n c', .int .i64 0]) ∧ Sl w' A' c' (bs.map bv) ∧ Below w.heap.size w w' := by
  have hls := C.sealB_len bs
  have ht : (C.sealB bs).take (m - 4) = bs := by unfold C.sealB; rw [show m - 4 = bs.length from by omega, List.take_left' rfl]
  refine (copen_any (C.sealB bs) m A c w (by omega) (by omega) hS).mono ?_
  rintro e w' ⟨(⟨-, v, rfl, ho⟩ | ⟨hne, -⟩), hb⟩
  · rw [ht] at ho
    obtain ⟨A', c', rfl, -, hs⟩ := Sl.of_own ho
    exact ⟨A', c', by rw [show m - 4 = n from by omega], hs, hb⟩
  · exact absurd (C.openE_ok bs) hne
theorem copen_no (bs : List UInt8) (k n : Nat) (A : Option Addr) (c : Nat) (w : World) (hk : C.openE bs = k) (h0 : k ≠ 0) (hn : bs.length = n) (hl : n ≤ 100000) (hS : Sl w A c (bs.map bv)) :
    Calls Try.prog 35 #[.slice A n c] w fun e w' => e = .returned (.tuple #[.slice none 0 0, .int .i64 (k : Int)]) ∧ Below w.heap.size w w' := by
  refine (copen_any bs n A c w hn (by omega) hS).mono ?_
  rintro e w' ⟨(⟨h, -⟩ | ⟨-, rfl⟩), hb⟩
  · exact absurd (hk.symm.trans h) h0
  · exact ⟨by rw [hk], hb⟩
theorem l7_sum : C.sum [49, 50, 51, 52, 53, 54, 55, 56, 57] = 3421780262 := by decide +kernel
theorem l7_short : C.openE [0, 0, 0] = 4 := by decide +kernel
theorem l7_bad : C.openE [1, 0, 0, 0, 0] = 12 := by decide +kernel
theorem l7_step : C.stp 1 false = 3988292384 := by decide +kernel
end Go.Proofs.Ytgiealcfhlcpoaa
