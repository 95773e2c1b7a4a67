/- crc.Step, and the document's Step. -/
import Derived.Test.YtgiealcfhlcpoaaProg
import Derived.Test.YtgiealcfhlcpoaaM1
import Derived.Test.YtgiealcfhlcpoaaCrcMath
import Derived.Laws.BitsAllLaws
set_option linter.unusedVariables false
namespace Go.Proofs.Ytgiealcfhlcpoaa
open Go.RowKit
namespace C
theorem stp_odd {s : Nat} (h : s % 2 = 1) (b : Bool) : stp s b = if b then s / 2 else s / 2 ^^^ 3988292384 := by
  unfold stp st0
  cases b
  · simp [h]
  · have h1 : (s ^^^ 1) % 2 = 0 := by rw [xor_mod2]; omega
    have h2 : (s ^^^ 1) / 2 = s / 2 := by rw [xor_div2]; simp
    simp [h1, h2]
theorem stp_even {s : Nat} (h : s % 2 = 0) (b : Bool) : stp s b = if b then s / 2 ^^^ 3988292384 else s / 2 := by
  unfold stp st0
  cases b
  · simp [h]
  · have h1 : (s ^^^ 1) % 2 = 1 := by rw [xor_mod2]; omega
    have h2 : (s ^^^ 1) / 2 = s / 2 := by rw [xor_div2]; simp
    simp [h1, h2]
theorem stp_lt {s : Nat} (h : s < 4294967296) (b : Bool) : stp s b < 4294967296 := by
  unfold stp
  refine st0_lt (Nat.xor_lt_two_pow (n := 32) h ?_)
  cases b <;> decide
end C
set_option maxRecDepth 100000 in
set_option maxHeartbeats 1000000 in
theorem cstep_any (s : Nat) (b : Bool) (w : World) (hs : s ≤ 4294967295) :
    Calls Try.prog 48 #[.int .u32 (s : Int), .bool b] w fun e w' => e = .returned (.int .u32 (C.stp s b : Nat)) ∧ w' = w := by
  have hx := u32_xor_nat (s / 2) 3988292384 (by omega) (by omega)
  have HX := hid hx
  clear hx
  rcases Nat.mod_two_eq_zero_or_one s with h | h
  · have hr := C.stp_even h b
    have h2 : ((s : Int) % 2 == 1) = false := by simp; omega
    have HR := hid hr
    clear hr h
    cases b
    · go_enter Try.func48, Try.ntmps48
      go_wp2
      go_ret
      exact ⟨ret_int (by rw [HR.out]; simp), rfl⟩
    · go_enter Try.func48, Try.ntmps48
      go_wp2
      go_ret
      exact ⟨ret_int (by rw [HR.out]; exact HX.out), rfl⟩
  · have hr := C.stp_odd h b
    have h2 : ((s : Int) % 2 == 1) = true := by simp; omega
    have HR := hid hr
    clear hr h
    cases b
    · go_enter Try.func48, Try.ntmps48
      go_wp2
      go_ret
      exact ⟨ret_int (by rw [HR.out]; exact HX.out), rfl⟩
    · go_enter Try.func48, Try.ntmps48
      go_wp2
      go_ret
      exact ⟨ret_int (by rw [HR.out]; simp), rfl⟩
set_option maxRecDepth 100000 in
set_option maxHeartbeats 1000000 in
theorem rstep_any (s : Nat) (b : Bool) (w : World) (hs : s ≤ 4294967295) :
    Calls Try.prog 38 #[.int .u32 (s : Int), .bool b] w fun e w' => e = .returned (.int .u32 (C.stp s b : Nat)) ∧ w' = w := by
  have hx := u32_xor_nat (s / 2) 3988292384 (by omega) (by omega)
  have HX := hid hx
  clear hx
  rcases Nat.mod_two_eq_zero_or_one s with h | h
  · have hr := C.stp_even h b
    have h2 : ((s : Int) % 2 == 1) = false := by simp; omega
    have HR := hid hr
    clear hr h
    cases b
    · go_enter Try.func38, Try.ntmps38
      go_wp2
      go_ret
      exact ⟨ret_int (by rw [HR.out]; simp), rfl⟩
    · go_enter Try.func38, Try.ntmps38
      go_wp2
      go_ret
      exact ⟨ret_int (by rw [HR.out]; exact HX.out), rfl⟩
  · have hr := C.stp_odd h b
    have h2 : ((s : Int) % 2 == 1) = true := by simp; omega
    have HR := hid hr
    clear hr h
    cases b
    · go_enter Try.func38, Try.ntmps38
      go_wp2
      go_ret
      exact ⟨ret_int (by rw [HR.out]; exact HX.out), rfl⟩
    · go_enter Try.func38, Try.ntmps38
      go_wp2
      go_ret
      exact ⟨ret_int (by rw [HR.out]; simp), rfl⟩
end Go.Proofs.Ytgiealcfhlcpoaa
