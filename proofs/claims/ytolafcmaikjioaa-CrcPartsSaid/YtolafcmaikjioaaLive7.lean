/- What must be whatever is asked: layer 7. -/
import Derived.Test.YtolafcmaikjioaaCrcSeal
import Derived.Test.YtolafcmaikjioaaSame
import Derived.Lib.SlBytesConst
set_option linter.unusedVariables false
namespace Go.Proofs.Ytolafcmaikjioaa
open Go.RowKit
theorem lit_sl (w : World) (t : TypeId) (bs : List UInt8) (cs : Array Value) (n : Nat) (hn : bs.length = n) (hm : n ≤ 9223372036854775807) (h : cs.toList = bs.map bv) : Sl (w.alloc (.cells cs t)) (some ⟨w.heap.size, 0, none⟩) n (bs.map bv) :=
  ⟨by simp [hn], hm, (fun h => by cases h), by rw [← h]; exact Rd.new w t cs⟩
theorem lit_slz (w : World) (t : TypeId) (bs : List UInt8) (cs : Array Value) (z : Nat × Nat) (n : Nat) (hn : bs.length = n) (hm : n ≤ 9223372036854775807) (h : cs.toList = bs.map bv) : Sl (w.alloc (.cells cs t z)) (some ⟨w.heap.size, 0, none⟩) n (bs.map bv) := by
  refine ⟨by simp [hn], hm, (fun h => by cases h), ?_⟩
  intro k u hk
  rw [← h] at hk
  refine ⟨w.heap.size, 0, rfl, by simp, ?_⟩
  have hb : (w.alloc (.cells cs t z)).heap[w.heap.size]? = some (.cells cs t z) := heap_alloc_new w _
  simp only [World.cell?, hb, Nat.zero_add]
  simpa using hk
theorem cseal_sl (bs : List UInt8) (n m : Nat) (A : Option Addr) (c : Nat) (w : World) (hn : bs.length = n) (hm : n + 4 = m) (hl : n ≤ 1000000) (hS : Sl w A c (bs.map bv)) :
    Calls Try.prog 17 #[.slice A n c] w fun e w' => ∃ A' c', e = .returned (.slice A' m c') ∧ Sl w' A' c' ((C.sealB bs).map bv) ∧ Below w.heap.size w w' := by
  subst hm
  refine (cseal_any bs n A c w hn hl hS).mono ?_
  rintro e w' ⟨v, rfl, ho, hb⟩
  obtain ⟨A', c', rfl, -, hs⟩ := Sl.of_own ho
  exact ⟨A', c', rfl, hs, hb⟩
theorem C.openE_ok (bs : List UInt8) : C.openE (C.sealB bs) = 0 := by
  have hl := C.sealB_len bs
  unfold C.openE
  rw [if_neg (by omega), hl, Nat.add_sub_cancel]
  have ht : (C.sealB bs).take bs.length = bs := by unfold C.sealB; rw [List.take_left' rfl]
  rw [ht, if_pos rfl]
/-- Sealed bytes are opened as they were. -/
theorem copen_ok (bs : List UInt8) (n m : Nat) (A : Option Addr) (c : Nat) (w : World) (hn : bs.length = n) (hm : n + 4 = m) (hl : n ≤ 100000) (hS : Sl w A c ((C.sealB bs).map bv)) :
    Calls Try.prog 18 #[.slice A m c] w fun e w' => ∃ A' c', e = .returned (.tuple #[.slice A' n c', .int .i64 0]) ∧ Sl w' A' c' (bs.map bv) ∧ Below w.heap.size w w' := by
  have hls := C.sealB_len bs
  have ht : (C.sealB bs).take (m - 4) = bs := by unfold C.sealB; rw [show m - 4 = bs.length from by omega, List.take_left' rfl]
  refine (copen_any (C.sealB bs) m A c w (by omega) (by omega) hS).mono ?_
  rintro e w' ⟨(⟨-, v, rfl, ho⟩ | ⟨hne, -⟩), hb⟩
  · rw [ht] at ho
    obtain ⟨A', c', rfl, -, hs⟩ := Sl.of_own ho
    exact ⟨A', c', by rw [show m - 4 = n from by omega], hs, hb⟩
  · exact absurd (C.openE_ok bs) hne
theorem copen_no (bs : List UInt8) (k n : Nat) (A : Option Addr) (c : Nat) (w : World) (hk : C.openE bs = k) (h0 : k ≠ 0) (hn : bs.length = n) (hl : n ≤ 100000) (hS : Sl w A c (bs.map bv)) :
    Calls Try.prog 18 #[.slice A n c] w fun e w' => e = .returned (.tuple #[.slice none 0 0, .int .i64 (k : Int)]) ∧ Below w.heap.size w w' := by
  refine (copen_any bs n A c w hn (by omega) hS).mono ?_
  rintro e w' ⟨(⟨h, -⟩ | ⟨-, rfl⟩), hb⟩
  · exact absurd (hk.symm.trans h) h0
  · exact ⟨by rw [hk], hb⟩
theorem l7_sum : C.sum [49, 50, 51, 52, 53, 54, 55, 56, 57] = 3421780262 := by decide +kernel
theorem l7_short : C.openE [0, 0, 0] = 4 := by decide +kernel
theorem l7_bad : C.openE [1, 0, 0, 0, 0] = 12 := by decide +kernel
theorem l7_step : C.stp 1 false = 3988292384 := by decide +kernel
set_option maxRecDepth 100000 in
set_option maxHeartbeats 2000000 in
theorem live7_any (w : World) : Calls Try.prog 11 #[] w fun e w' => e = .returned (.bool true) ∧ Below w.heap.size w w' := by
  have hseal := fun W A c h => cseal_sl [1, 2] 2 6 A c W rfl rfl (by omega) h
  have hopen := fun W A c h => copen_ok [1, 2] 2 6 A c W rfl rfl (by omega) h
  have hshort := fun W A c h => copen_no [0, 0, 0] 4 3 A c W l7_short (by omega) rfl (by omega) h
  have hbad := fun W A c h => copen_no [1, 0, 0, 0, 0] 12 5 A c W l7_bad (by omega) rfl (by omega) h
  have hof := fun W A c h => cof_any [49, 50, 51, 52, 53, 54, 55, 56, 57] 9 A c W rfl (by omega) h
  have hstep := fun W => cstep_any 1 false W (by omega)
  have hsame := fun W A B c d hA hB => same_at [1, 2] [1, 2] 2 2 A B c d W rfl rfl (by omega) hA hB
  rw [l7_sum] at hof
  rw [l7_step] at hstep
  have HSEAL := hid hseal
  have HOPEN := hid hopen
  have HSHORT := hid hshort
  have HBAD := hid hbad
  have HOF := hid hof
  have HSTEP := hid hstep
  have HSAME := hid hsame
  clear hseal hopen hshort hbad hof hstep hsame
  have kc := fun (w : World) (C : Array Value) (n c : Nat) => Lib.run_convert_bytes_const (P := Try.prog) w 22 5 C n c Try.underlying22 Try.underlying5
  go_enter Try.func11, Try.ntmps11
  go_wp2_with fail
  refine (HSEAL.out _ _ _ (lit_sl w 5 [1, 2] #[.int .u8 1, .int .u8 2] 2 rfl (by omega) rfl)).mono ?_
  rintro e w1 ⟨A1, c1, rfl, hs1, hb1⟩
  have B1 := bw_t (bw_a (Below.refl _ w) _) hb1
  clear hb1
  go_wp2_with fail
  refine (HOPEN.out _ _ _ hs1).mono ?_
  rintro e w2 ⟨A2, c2, rfl, hs2, hb2⟩
  have B2 := bw_t B1 hb2
  clear hb2 hs1 B1
  go_wp2_with fail
  refine (HSHORT.out _ _ _ (lit_sl w2 5 [0, 0, 0] #[.int .u8 0, .int .u8 0, .int .u8 0] 3 rfl (by omega) rfl)).mono ?_
  rintro e w3 ⟨rfl, hb3⟩
  have hb23 := bw_t (bw_a (Below.refl _ w2) _) hb3
  have B3 := bw_t B2 hb23
  have hs3 := hs2.below hb23
  clear hb3 hb23 hs2 B2
  go_wp2_with fail
  refine (HBAD.out _ _ _ (lit_sl w3 5 [1, 0, 0, 0, 0] #[.int .u8 1, .int .u8 0, .int .u8 0, .int .u8 0, .int .u8 0] 5 rfl (by omega) rfl)).mono ?_
  rintro e w4 ⟨rfl, hb4⟩
  have hb34 := bw_t (bw_a (Below.refl _ w3) _) hb4
  have B4 := bw_t B3 hb34
  have hs4 := hs3.below hb34
  clear hb4 hb34 hs3 B3
  go_wp2_with fail
  refine (HOF.out _ _ _ (lit_slz w4 5 [49, 50, 51, 52, 53, 54, 55, 56, 57] #[.int .u8 49, .int .u8 50, .int .u8 51, .int .u8 52, .int .u8 53, .int .u8 54, .int .u8 55, .int .u8 56, .int .u8 57] _ 9 rfl (by omega) rfl)).mono ?_
  rintro e w5 ⟨rfl, hb5⟩
  have hb45 := bw_t (bw_a (Below.refl _ w4) _) hb5
  have B5 := bw_t B4 hb45
  have hs5 := hs4.below hb45
  clear hb5 hb45 hs4 B4
  go_wp2_with fail
  refine (HSAME.out _ _ _ _ _ (hs5.below (bw_a (Below.refl _ w5) _)).rd (lit_sl w5 5 [1, 2] #[.int .u8 1, .int .u8 2] 2 rfl (by omega) rfl).rd).mono ?_
  rintro e w6 ⟨rfl, k, rfl⟩
  have B6 := bw_d (bw_a B5 (.cells #[.int .u8 1, .int .u8 2] 5)) k
  clear hs5 B5
  go_wp2_with (go_at_call 14; refine (HSTEP.out _).mono ?_; rintro e w' ⟨rfl, rfl⟩)
  go_ret
  exact ⟨by simp, B6⟩
end Go.Proofs.Ytolafcmaikjioaa
