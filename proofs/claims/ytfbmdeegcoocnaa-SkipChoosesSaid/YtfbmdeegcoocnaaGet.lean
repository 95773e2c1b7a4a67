/- varint.Get and the document's Get. -/
import Derived.Test.YtfbmdeegcoocnaaProg
import Derived.Test.YtfbmdeegcoocnaaMath
import Derived.Test.YtfbmdeegcoocnaaBase
import Derived.Deep.LoopGhost
set_option linter.unusedVariables false
namespace Go.Proofs.Ytfbmdeegcoocnaa
open Go.RowKit
set_option maxRecDepth 100000 in
set_option maxHeartbeats 400000 in
theorem get_any (bs : List UInt8) (A : Option Addr) (c : Nat) (w : World) (hl : bs.length ≤ 9223372036854775807) (hR : BRd w A bs) :
    Calls Try.prog 113 #[.slice A bs.length c] w fun e w' => e = .returned (.tuple #[.int .u64 (M.get bs).1, .int .i64 (M.get bs).2.1, .int .i64 (M.get bs).2.2]) ∧ w = w' := by
  go_enter Try.func113, Try.ntmps113
  go_wp2
  go_step3
  go_wp2
  go_step3
  go_wp2
  go_loop [5, 6, 7, 8, 9, 12] (fun n s _ _ _ i => ∃ k acc : Nat, k ≤ bs.length ∧ k ≤ 9 ∧ i = .int .i64 k ∧ n = .int .u64 acc ∧ s = .int .i64 0 ∧ acc < 128 ^ k ∧ M.get bs = M.getF k acc (bs.drop k))
    (fun _ _ _ _ _ i => bs.length - (intOf i).toNat)
  case atStart => exact ⟨0, 0, by omega, by omega, rfl, rfl, rfl, by simp, by simp [M.get]⟩
  case round =>
    obtain ⟨k, acc, hk, hk9, rfl, rfl, rfl, hacc, hget⟩ := hrel
    have HG := hid hget
    clear hget
    have HA := hid hacc
    clear hacc
    by_cases hlt : k < bs.length
    · have hs := M.getF_at (acc := acc) hlt
      obtain ⟨b, off, rfl, hb, hc⟩ := hR.at_ hlt
      have hx := bs[k].toNat_lt
      generalize bs[k].toNat = y at *
      have HS := hid hs
      clear hs
      by_cases h9 : k = 9
      · subst h9
        by_cases y1 : 128 ≤ y
        · go_wp2
          go_ret3
          rw [HG.out, HS.out]
          exact ⟨by simp [y1], rfl⟩
        by_cases y2 : 1 < y
        · go_wp2
          go_ret3
          rw [HG.out, HS.out]
          exact ⟨by simp [y1, y2], rfl⟩
        · go_wp2
          go_ret3
          rw [M.get_wrap9 HA.out (by omega), HG.out, HS.out]
          exact ⟨by simp [y1, y2], rfl⟩
      · have h9' : k < 9 := by omega
        by_cases y1 : y < 128
        · have hk0 : ((k : Int) + 1 == 0) = false := by simp; omega
          go_wp2
          go_ret3
          rw [M.get_wrap hk9 HA.out y1 (by omega)]
          rw [HG.out, HS.out]
          exact ⟨by simp [h9, y1], rfl⟩
        · go_wp2
          go_round
          case rel => exact ⟨k + 1, acc + (y - 128) * 128 ^ k, by omega, by omega, by go_num, by rw [M.get_wrap' h9' HA.out (by omega) (by omega)], rfl, M.get_acc HA.out (by omega), by rw [HG.out, HS.out, if_neg h9, if_neg y1]⟩
          case measure => simp [intOf]; omega
    · have hs := M.getF_end (acc := acc) (show bs.length ≤ k by omega)
      have HS := hid hs
      clear hs
      go_wp2
      go_ret3
      rw [HG.out, HS.out]
      exact ⟨rfl, rfl⟩

set_option maxRecDepth 100000 in
set_option maxHeartbeats 1000000 in
theorem rget_any (bs : List UInt8) (A : Option Addr) (c : Nat) (w : World) (hl : bs.length ≤ 9223372036854775807) (hR : BRd w A bs) :
    Calls Try.prog 81 #[.slice A bs.length c] w fun e w' => e = .returned (.tuple #[.int .u64 (M.get bs).1, .int .i64 (M.get bs).2.1, .int .i64 (M.get bs).2.2]) ∧ w = w' := by
  go_enter Try.func81, Try.ntmps81
  go_wp2
  go_loop [5, 6, 7] (fun n m i => ∃ k acc : Nat, k ≤ bs.length ∧ k ≤ 9 ∧ i = .int .i64 k ∧ n = .int .u64 acc ∧ m = .int .u64 ((128 ^ k : Nat) : Int) ∧ acc < 128 ^ k ∧ M.get bs = M.getF k acc (bs.drop k))
    (fun _ _ i => bs.length - (intOf i).toNat)
  case atStart => exact ⟨0, 0, by omega, by omega, rfl, rfl, rfl, by simp, by simp [M.get]⟩
  case round =>
    obtain ⟨k, acc, hk, hk9, rfl, rfl, rfl, hacc, hget⟩ := hrel
    have HG := hid hget
    clear hget
    by_cases hlt : k < bs.length
    · have hs := M.getF_at (acc := acc) hlt
      have hkb : ((k : Int) == (bs.length : Int)) = false := by simp; omega
      obtain ⟨b, off, rfl, hb, hc⟩ := hR.at_ hlt
      have hx := bs[k].toNat_lt
      generalize bs[k].toNat = y at *
      have HS := hid hs
      clear hs
      by_cases h9 : k = 9
      · subst h9
        have HA := hid hacc
        clear hacc
        by_cases y1 : 128 ≤ y
        · go_wp2
          go_ret3
          rw [HG.out, HS.out]
          exact ⟨by simp [y1], rfl⟩
        by_cases y2 : 2 ≤ y
        · have d1 : decide ((128 : Int) ≤ (y : Int)) = false := by simp; omega
          have d2 : decide ((2 : Int) ≤ (y : Int)) = true := by simp; omega
          go_wp2
          go_ret3
          rw [HG.out, HS.out]
          exact ⟨by simp [y1, show 1 < y by omega], rfl⟩
        · have d1 : decide ((128 : Int) ≤ (y : Int)) = false := by simp; omega
          have d2 : decide ((2 : Int) ≤ (y : Int)) = false := by simp; omega
          go_wp2
          go_ret3
          rw [M.rget_wrap9 HA.out (by omega), HG.out, HS.out]
          exact ⟨by simp [y1, show ¬ 1 < y by omega], rfl⟩
      · have hk9b : ((k : Int) == 9) = false := by simp; omega
        have h9' : k < 9 := by omega
        have hm8 : (128 : Nat) ^ k ≤ 128 ^ 8 := Nat.pow_le_pow_right (by omega) (by omega)
        have hp := M.get_acc (y := y) hacc (by omega)
        have hps : (128 : Nat) ^ (k + 1) = 128 ^ k * 128 := Nat.pow_succ ..
        have hw := M.rget_wrap h9' hacc hx
        have HPS := hid hps
        have HW := hid hw
        clear hps hw
        generalize hM : (128 ^ k : Nat) = P at *
        clear hM
        by_cases y1 : y < 128
        · go_wp2
          go_ret3
          rw [HW.out, show y % 128 = y from by omega, HG.out, HS.out]
          exact ⟨by simp [h9, y1], rfl⟩
        · go_wp2
          go_round
          case rel => exact ⟨k + 1, acc + (y - 128) * P, by omega, by omega, by go_num, by rw [HW.out, show y % 128 = y - 128 from by omega], by rw [HPS.out]; go_num, hp, by rw [HG.out, HS.out, if_neg h9, if_neg y1]⟩
          case measure => simp [intOf]; omega
    · have hs := M.getF_end (acc := acc) (show bs.length ≤ k by omega)
      have hkb : ((k : Int) == (bs.length : Int)) = true := by simp; omega
      have HS := hid hs
      have HA := hid hacc
      clear hs hacc
      go_wp2
      go_ret3
      rw [HG.out, HS.out]
      exact ⟨rfl, rfl⟩
end Go.Proofs.Ytfbmdeegcoocnaa
