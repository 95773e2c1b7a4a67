/- The document's Put (layer 1) and Fix (layer 2): rows that grow by append. -/
import Derived.Test.YtfbmdeegcoocnaaProg
import Derived.Test.YtfbmdeegcoocnaaBase
import Derived.Test.YtfbmdeegcoocnaaPut
import Derived.Test.YtfbmdeegcoocnaaFix
set_option linter.unusedVariables false
namespace Go.Proofs.Ytfbmdeegcoocnaa
open Go.RowKit
theorem putN_small {n : Nat} (h : n < 128) : putN n = [b8 n] := by simp [putN, sevs, h, sevB, b8]
theorem putN_big {n : Nat} (h : ¬ n < 128) : putN n = b8 (n % 128 + 128) :: putN (n / 128) := by
  rw [putN, sevs, dif_neg h]; simp [sevB, putN, b8]
theorem putN_length (k : Nat) (n : Nat) (h : n < 128 ^ (k + 1)) : (putN n).length ≤ k + 1 := by simpa [putN] using sevs_length k n h
theorem putN_length10 {n : Nat} (h : n ≤ 18446744073709551615) : (putN n).length ≤ 10 := putN_length 9 n (by omega)

set_option maxRecDepth 100000 in
set_option maxHeartbeats 1000000 in
theorem rput_own (n : Nat) (w : World) (h64 : n ≤ 18446744073709551615) :
    Calls Try.prog 87 #[.int .u64 (n : Int)] w fun e W' => ∃ v, e = .returned v ∧ W'.ownsRow w.heap.size 5 1 v (putN n).length ((putN n).map bv) ∧ Below w.heap.size w W' := by
  obtain ⟨i0, hi, hz0, hz1, hz2⟩ := info_parts Try.info5
  have hlen := putN_length10 h64
  go_enter Try.func87, Try.ntmps87
  go_wp2
  go_loopw [0, 3] (fun n' v wr => ∃ (m : Nat) (pre : List UInt8), m ≤ n ∧ n' = .int .u64 (m : Int) ∧ putN n = pre ++ putN m ∧ wr.ownsRow w.heap.size 5 1 v pre.length (pre.map bv) ∧ Below w.heap.size w wr) (fun n' _ _ => (intOf n').toNat)
  case atStart => exact ⟨n, [], by omega, rfl, rfl, World.ownsRow_nil _ _ _ _, Below.refl _ _⟩
  case round =>
    obtain ⟨m, pre, hm, rfl, hpre, hrow, hB⟩ := hrel
    have hpl : pre.length ≤ 10 := by have := congrArg List.length hpre; simp at this; omega
    have HP := hid hpre
    clear hpre
    by_cases hlt : m < 128
    · have hb := bv_b8 m (by omega)
      have HB := hid hb
      clear hb
      go_wp2_with (at_builtin; refine wpList_append_own _ rfl _ _ 22 rfl w.heap.size 5 i0 (.int .u8 0) 1 1 Try.underlying22 hi hz0 hz1 hz2 rfl (by decide) _ _ _ rfl (hrow.alloc _) ⟨wr.heap.size, 0, none⟩ 1 1 [.int .u8 (m : Int)] rfl rfl (cell_one_new _ _ _) (by simp [Value.oneCell']) (by simp only [maxLen]; omega) (by omega) (by have := hB.size; simp; omega) ?_; intro v' w1 hown' hgrow _)
      go_ret
      have hpn := putN_small hlt
      have hg : Below w.heap.size w w1 := (hB.alloc hB.size _).grown hgrow (by have := hB.size; simp; omega) fun k ek => (hrow.lt k ek).1
      exact ⟨_, rfl, by rw [HP.out, hpn]; simpa [HB.out] using hown', hg⟩
    · have hb := bv_b8 (m % 128 + 128) (by omega)
      rw [show ((m % 128 + 128 : Nat) : Int) = (m : Int) % 128 + 128 from by omega] at hb
      have HB := hid hb
      clear hb
      go_wp2_with (at_builtin; refine wpList_append_own _ rfl _ _ 22 rfl w.heap.size 5 i0 (.int .u8 0) 1 1 Try.underlying22 hi hz0 hz1 hz2 rfl (by decide) _ _ _ rfl (hrow.alloc _) ⟨wr.heap.size, 0, none⟩ 1 1 [.int .u8 ((m : Int) % 128 + 128)] rfl rfl (cell_one_new _ _ _) (by simp [Value.oneCell']) (by simp only [maxLen]; omega) (by omega) (by have := hB.size; simp; omega) ?_; intro v' w1 hown' hgrow _)
      have hpn := putN_big hlt
      have hg : Below w.heap.size w w1 := (hB.alloc hB.size _).grown hgrow (by have := hB.size; simp; omega) fun k ek => (hrow.lt k ek).1
      go_roundw
      case rel => exact ⟨m / 128, pre ++ [b8 (m % 128 + 128)], by omega, by go_num, by rw [HP.out, hpn]; simp, by simpa [HB.out] using hown', hg⟩
      case measure => simp [intOf] <;> omega

set_option maxRecDepth 100000 in
set_option maxHeartbeats 1000000 in
theorem rfix_own (n k : Nat) (w : World) (h64 : n ≤ 18446744073709551615) (hk : k ≤ 1000) :
    Calls Try.prog 88 #[.int .u64 (n : Int), .int .i64 (k : Int)] w fun e W' => ∃ v, e = .returned v ∧ W'.ownsRow w.heap.size 5 1 v (fixN k n).length ((fixN k n).map bv) ∧ Below w.heap.size w W' := by
  obtain ⟨i0, hi, hz0, hz1, hz2⟩ := info_parts Try.info5
  go_enter Try.func88, Try.ntmps88
  go_wp2
  go_loopw [0, 5, 6] (fun n' v i wr => ∃ (m j : Nat) (pre : List UInt8), m ≤ n ∧ j ≤ k ∧ i = .int .i64 (j : Int) ∧ n' = .int .u64 (m : Int) ∧ fixN k n = pre ++ fixN (k - j) m ∧ wr.ownsRow w.heap.size 5 1 v pre.length (pre.map bv) ∧ Below w.heap.size w wr) (fun _ _ i _ => k - (intOf i).toNat)
  case atStart => exact ⟨n, 0, [], by omega, by omega, rfl, rfl, rfl, World.ownsRow_nil _ _ _ _, Below.refl _ _⟩
  case round =>
    obtain ⟨m, j, pre, hm, hj, rfl, rfl, hpre, hrow, hB⟩ := hrel
    have hpl : pre.length ≤ 1000 := by have := congrArg List.length hpre; simp [length_fixN] at this; omega
    have HP := hid hpre
    clear hpre
    by_cases hlt : j < k
    · have hb := bv_b8 (m % 256) (by omega)
      rw [show ((m % 256 : Nat) : Int) = (m : Int) % 256 from by omega] at hb
      have HB := hid hb
      clear hb
      go_wp2_with (at_builtin; refine wpList_append_own _ rfl _ _ 22 rfl w.heap.size 5 i0 (.int .u8 0) 1 1 Try.underlying22 hi hz0 hz1 hz2 rfl (by decide) _ _ _ rfl (hrow.alloc _) ⟨wr.heap.size, 0, none⟩ 1 1 [.int .u8 ((m : Int) % 256)] rfl rfl (cell_one_new _ _ _) (by simp [Value.oneCell']) (by simp only [maxLen]; omega) (by omega) (by have := hB.size; simp; omega) ?_; intro v' w1 hown' hgrow _)
      have hpn : fixN (k - j) m = b8 (m % 256) :: fixN (k - (j + 1)) (m / 256) := by rw [show k - j = (k - (j + 1)) + 1 from by omega, fixN]
      have hg : Below w.heap.size w w1 := (hB.alloc hB.size _).grown hgrow (by have := hB.size; simp; omega) fun k ek => (hrow.lt k ek).1
      go_roundw
      case rel => exact ⟨m / 256, j + 1, pre ++ [b8 (m % 256)], by omega, by omega, by go_num, by go_num, by rw [HP.out, hpn]; simp, by simpa [HB.out] using hown', hg⟩
      case measure => simp [intOf] <;> omega
    · obtain rfl : j = k := by omega
      go_wp2
      go_ret
      exact ⟨_, rfl, by rw [HP.out, Nat.sub_self]; simpa [fixN] using hrow, hB⟩
theorem rput_any (n : Nat) (w : World) (h64 : n ≤ 18446744073709551615) :
    Calls Try.prog 87 #[.int .u64 (n : Int)] w fun e W' => ∃ A c, e = .returned (.slice A (putN n).length c) ∧ Sl W' A c ((putN n).map bv) ∧ Below w.heap.size w W' :=
  (rput_own n w h64).mono fun _ _ ⟨_, he, ho, hb⟩ => let ⟨A, c, hv, _, hs⟩ := Sl.of_own ho; ⟨A, c, by rw [he, hv], hs, hb⟩
theorem vput_any (n : Nat) (w : World) (h64 : n ≤ 18446744073709551615) :
    Calls Try.prog 65 #[.int .u64 (n : Int)] w fun e W' => ∃ A c, e = .returned (.slice A (putN n).length c) ∧ Sl W' A c ((putN n).map bv) ∧ Below w.heap.size w W' :=
  (put_any n h64 w).mono fun _ _ ⟨_, he, ho, hb⟩ => let ⟨A, c, hv, _, hs⟩ := Sl.of_own ho; ⟨A, c, by rw [he, hv], hs, hb⟩
theorem rfix_any (n k : Nat) (w : World) (h64 : n ≤ 18446744073709551615) (hk : k ≤ 1000) :
    Calls Try.prog 88 #[.int .u64 (n : Int), .int .i64 (k : Int)] w fun e W' => ∃ A c, e = .returned (.slice A (fixN k n).length c) ∧ Sl W' A c ((fixN k n).map bv) ∧ Below w.heap.size w W' :=
  (rfix_own n k w h64 hk).mono fun _ _ ⟨_, he, ho, hb⟩ => let ⟨A, c, hv, _, hs⟩ := Sl.of_own ho; ⟨A, c, by rw [he, hv], hs, hb⟩
end Go.Proofs.Ytfbmdeegcoocnaa
