/- The walks of VarintBack and VarintAll. -/
import Derived.Test.YtfbmdeegcoocnaaLawA
import Derived.Deep.RegionWith
set_option linter.unusedVariables false
namespace Go.Proofs.Ytfbmdeegcoocnaa
open Go.RowKit
/-- What is read of a number's bytes, whatever stands behind. -/
theorem getF_put (n : Nat) (rest : List UInt8) : ∀ i acc, i ≤ 9 → acc + n * 128 ^ i ≤ 18446744073709551615 →
    M.getF i acc (putN n ++ rest) = (acc + n * 128 ^ i, i + (putN n).length, 0) := by
  induction n using Nat.strongRecOn with
  | _ n ih =>
    intro i acc hi h
    by_cases hs : n < 128
    · rw [putN_small hs]
      simp only [List.cons_append, List.nil_append, M.getF, b8_toNat (show n < 256 by omega), List.length_cons, List.length_nil]
      by_cases h9 : i = 9
      · subst h9
        have : n ≤ 1 := by omega
        rw [if_pos rfl, if_neg (by omega), if_neg (by omega)]
      · rw [if_neg h9, if_pos hs]
    · rw [putN_big hs]
      simp only [List.cons_append, M.getF, b8_toNat (show n % 128 + 128 < 256 by omega), List.length_cons]
      have h9 : i ≠ 9 := by
        rintro rfl
        have : n * 128 ^ 9 ≥ 128 * 128 ^ 9 := Nat.mul_le_mul_right _ (by omega)
        omega
      have e1 : acc + (n % 128 + 128 - 128) * 128 ^ i + n / 128 * 128 ^ (i + 1) = acc + n * 128 ^ i := by
        rw [Nat.pow_succ, Nat.add_sub_cancel, Nat.mul_comm (128 ^ i) 128, ← Nat.mul_assoc, Nat.add_assoc, ← Nat.add_mul]
        congr 2; omega
      rw [if_neg h9, if_neg (by omega), ih (n / 128) (by omega) (i + 1) _ (by omega) (by rw [e1]; exact h), e1]
      congr 2; omega
theorem get_put {n : Nat} (rest : List UInt8) (h : n ≤ 18446744073709551615) : M.get (putN n ++ rest) = (n, (putN n).length, 0) := by
  have := getF_put n rest 0 0 (by omega) (by omega)
  simpa [M.get] using this
/-- What is short is written as it stood. -/
theorem put_getF : ∀ (b : List UInt8) (i acc : Nat), i ≤ 9 → acc < 128 ^ i → (M.getF i acc b).2.2 = 0 → 
    ∃ v, (M.getF i acc b).1 = acc + v * 128 ^ i ∧ i + sizeN v ≤ (M.getF i acc b).2.1 ∧ (i + sizeN v = (M.getF i acc b).2.1 → putN v = b.take ((M.getF i acc b).2.1 - i))
  | [], i, acc, _, _, h => by simp [M.getF] at h
  | x :: r, i, acc, hi, ha, h => by
    have hx := x.toNat_lt
    rw [M.getF] at h ⊢
    by_cases h9 : i = 9
    · subst h9
      rw [if_pos rfl] at h ⊢
      by_cases h1 : 128 ≤ x.toNat
      · rw [if_pos h1] at h; simp at h
      · by_cases h2 : 1 < x.toNat
        · rw [if_neg h1, if_pos h2] at h; simp at h
        · rw [if_neg h1, if_neg h2]
          refine ⟨x.toNat, rfl, by rw [sizeN, if_pos (by omega)]; simp, fun _ => ?_⟩
          rw [putN_small (by omega), b8_self]; rfl
    · rw [if_neg h9] at h ⊢
      by_cases h1 : x.toNat < 128
      · rw [if_pos h1]
        refine ⟨x.toNat, rfl, by rw [sizeN, if_pos h1]; simp, fun _ => ?_⟩
        rw [putN_small h1, b8_self]; simp
      · rw [if_neg h1] at h ⊢
        obtain ⟨v, hv, hs, hp⟩ := put_getF r (i + 1) _ (by omega) (M.get_acc ha hx) h
        by_cases hv0 : v = 0
        · subst hv0
          refine ⟨x.toNat - 128, by rw [hv]; simp, ?_, fun he => ?_⟩
          · rw [sizeN, if_pos (by omega)]; rw [sizeN, if_pos (by omega)] at hs; omega
          · rw [sizeN, if_pos (by omega)] at he hs; omega
        · have hsz : sizeN (x.toNat - 128 + v * 128) = 1 + sizeN v := by
            rw [sizeN, if_neg (by omega), show (x.toNat - 128 + v * 128) / 128 = v from by omega]
          refine ⟨x.toNat - 128 + v * 128, ?_, by rw [hsz]; omega, fun he => ?_⟩
          · rw [hv, Nat.pow_succ, Nat.add_mul, Nat.mul_assoc, Nat.mul_comm 128 (128 ^ i)]; omega
          · rw [hsz] at he
            have := hp (by omega)
            rw [putN_big (by omega), show (x.toNat - 128 + v * 128) / 128 = v from by omega, this, show (x.toNat - 128 + v * 128) % 128 + 128 = x.toNat from by omega, b8_self]
            have hk := (M.getF_facts r (i + 1) _ (by omega) (M.get_acc ha hx)).1 h
            obtain ⟨j, hj⟩ : ∃ j, (M.getF (i + 1) (acc + (x.toNat - 128) * 128 ^ i) r).2.1 - i = j + 1 := ⟨(M.getF (i + 1) (acc + (x.toNat - 128) * 128 ^ i) r).2.1 - i - 1, by omega⟩
            rw [hj, List.take_succ_cons, show (M.getF (i + 1) (acc + (x.toNat - 128) * 128 ^ i) r).2.1 - (i + 1) = j from by omega]
theorem put_get {b : List UInt8} (h : shortB b = true) : putN (M.get b).1 = b.take (M.get b).2.1 := by
  unfold shortB at h
  have h' := of_decide_eq_true h
  obtain ⟨v, hv, hs, hp⟩ := put_getF b 0 0 (by omega) (by simp) h'.1
  have e : (M.get b).1 = v := by rw [M.get, hv]; simp
  rw [e]
  rw [e] at h'
  have := hp (by rw [← M.get]; omega)
  simpa [M.get] using this
theorem sizeN_mono {a b : Nat} (h : a ≤ b) : sizeN a ≤ sizeN b := by
  have h0 := sizeN_pos a
  have h1 := sizeN_pos b
  have h2 := (sizeN_le (sizeN b - 1) b).1 (by omega)
  have := (sizeN_le (sizeN b - 1) a).2 (by omega)
  omega
end Go.Proofs.Ytfbmdeegcoocnaa
