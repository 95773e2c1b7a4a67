/- The walks of TagBack and TagFixed. -/
import Derived.Test.YtfbmdeegcoocnaaLawE
set_option linter.unusedVariables false
namespace Go.Proofs.Ytfbmdeegcoocnaa
open Go.RowKit
theorem mk_ok_inv {n x : Int} (h : (mk n x).2 = 0) : 1 ≤ n ∧ n ≤ 536870911 ∧ wireB x = true ∧ mk n x = (8 * n + x, 0) := by
  unfold mk at h ⊢
  split
  · rename_i h'; rw [if_pos h'] at h; simp at h
  · rename_i h'; rw [if_neg h'] at h
    split
    · rename_i h''; rw [if_pos h''] at h; simp at h
    · rename_i h''; exact ⟨by omega, by omega, by simpa using h'', rfl⟩
theorem spl_mk {n x : Int} (h : (mk n x).2 = 0) : spl (mk n x).1 = (n, x, 0) := by
  obtain ⟨h1, h2, hw, he⟩ := mk_ok_inv h
  have hl := wireB_lt hw
  rw [he]
  have e1 : (8 * n + x) / 8 = n := by omega
  have e2 : (8 * n + x) % 8 = x := by omega
  have := spl_ok (n := 8 * n + x) (by rw [e1]; exact h1) (by rw [e1]; exact h2) (by rw [e2]; exact hw)
  rw [this, e1, e2]
theorem spl_ok_inv {n : Int} (h : (spl n).2.2 = 0) : 1 ≤ n / 8 ∧ n / 8 ≤ 536870911 ∧ wireB (n % 8) = true ∧ spl n = (n / 8, n % 8, 0) := by
  unfold spl at h ⊢
  split
  · rename_i h'; rw [if_pos h'] at h; simp at h
  · rename_i h'; rw [if_neg h'] at h
    split
    · rename_i h''; rw [if_pos h''] at h; simp at h
    · rename_i h''; exact ⟨by omega, by omega, by simpa using h'', rfl⟩
theorem mk_spl {n : Int} (h : (spl n).2.2 = 0) : mk (spl n).1 (spl n).2.1 = (n, 0) := by
  obtain ⟨h1, h2, hw, he⟩ := spl_ok_inv h
  rw [he, mk_ok h1 h2 hw]
  congr 1; omega
theorem spl_range (n : Int) : 0 ≤ (spl n).2.1 ∧ (spl n).2.1 ≤ 255 := by
  unfold spl
  split
  · simp
  · split
    · simp
    · simp; omega
theorem unfix_at (bs : List UInt8) (n : Nat) (A : Option Addr) (c : Nat) (k : Nat) (kk : Int) (w : World) (hkk : kk = (k : Int)) (hn : bs.length = n) (hk1 : 1 ≤ k) (hk : k ≤ 8) (hle : k ≤ n) (hl : n ≤ 9223372036854775807) (hR : BRd w A bs) :
    Calls Try.prog 84 #[.slice A n c, .int .i64 kk] w fun e w' => e = .returned (.int .u64 (unfixN (bs.take k))) ∧ w = w' := by
  subst hn; subst hkk; exact unfix_any bs A c k w hk1 hk hle hl hR
theorem rfix_at (n : Nat) (k : Nat) (kk : Int) (w : World) (hkk : kk = (k : Int)) (h64 : n ≤ 18446744073709551615) (hk : k ≤ 1000) :
    Calls Try.prog 88 #[.int .u64 (n : Int), .int .i64 kk] w fun e W' => ∃ A c, e = .returned (.slice A k c) ∧ Sl W' A c ((fixN k n).map bv) ∧ Below w.heap.size w W' := by
  subst hkk
  have := rfix_any n k w h64 hk
  rwa [length_fixN] at this
theorem get32_back (n : Nat) (h : n ≤ 4294967295) : (unfixN ((fixN 4 n).take 4) : Int) = n := by
  rw [List.take_of_length_le (by rw [length_fixN]; omega), unfix_fix 4 n (by omega)]
theorem get64_back (n : Nat) (h : n ≤ 18446744073709551615) : (unfixN ((fixN 8 n).take 8) : Int) = n := by
  rw [List.take_of_length_le (by rw [length_fixN]; omega), unfix_fix 8 n (by omega)]
end Go.Proofs.Ytfbmdeegcoocnaa
