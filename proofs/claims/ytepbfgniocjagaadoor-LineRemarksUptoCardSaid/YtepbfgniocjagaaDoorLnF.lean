/- Lines that were read and put together are read alike: plain mathematics of layer 17. -/
import Derived.Test.YtepbfgniocjagaaDoorLnJ
set_option linter.unusedVariables false
namespace Go.Proofs.YtepbfgniocjagaaDoor
open Go.RowKit
theorem stE_take {i a : Nat} {q t : Bool} {l : List UInt8} (m : Nat) (h : ∀ k, stE i a q t l = some k → m ≤ k - i) : stE i a q t (l.take m) = none := by
  induction l generalizing i a q t m with
  | nil => simp [stE]
  | cons c r ih =>
    cases m with
    | zero => simp [stE]
    | succ m =>
      rw [List.take_succ_cons, stE]
      rw [stE] at h
      have hge : ∀ {a' : Nat} {q' t' : Bool}, (∀ k, stE (i + 1) a' q' t' r = some k → m + 1 ≤ k - i) → stE (i + 1) a' q' t' (r.take m) = none := fun hh => ih m fun k hk => by have := hh k hk; have := stE_lt hk; omega
      split
      · rename_i h1; rw [if_pos h1] at h; exact hge h
      · rename_i h1
        rw [if_neg h1] at h
        split
        · rename_i h2; rw [if_pos h2] at h; exact hge h
        · rename_i h2
          rw [if_neg h2] at h
          split
          · rename_i h3; rw [if_pos h3] at h; exact hge h
          · rename_i h3
            rw [if_neg h3] at h
            split
            · rename_i h4
              rw [if_pos h4] at h
              have := h i rfl
              omega
            · rename_i h4; rw [if_neg h4] at h; exact hge h
theorem tlB_suf (l : List UInt8) : ∃ n, l = List.replicate n 32 ++ tlB l := by
  induction l with
  | nil => exact ⟨0, rfl⟩
  | cons c r ih =>
    rw [tlB]
    by_cases h : c.toNat = 32
    · rw [if_pos h]
      obtain ⟨n, hn⟩ := ih
      have hc : c = 32 := by rw [← b8_self c, h]; rfl
      exact ⟨n + 1, by rw [List.replicate_succ, List.cons_append, ← hn, hc]⟩
    · rw [if_neg h]; exact ⟨0, rfl⟩
theorem tlB_idem (l : List UInt8) : tlB (tlB l) = tlB l := by
  rcases tlB_hd l with h | ⟨c, r, h, hc⟩
  · rw [h]; rfl
  · rw [h, tlB, if_neg hc]
theorem trB_pre (l : List UInt8) : ∃ n, l = trB l ++ List.replicate n 32 := by
  obtain ⟨n, hn⟩ := tlB_suf l.reverse
  refine ⟨n, ?_⟩
  have := congrArg List.reverse hn
  rw [List.reverse_reverse, List.reverse_append, List.reverse_replicate] at this
  exact this
theorem trB_idem (l : List UInt8) : trB (trB l) = trB l := by
  unfold trB; rw [List.reverse_reverse, tlB_idem]
theorem strip_pre (l : List UInt8) : stripL l = l.take (stripL l).length ∧ (stripL l).length ≤ stN l := by
  have hle := stN_le l
  obtain ⟨n, hn⟩ := trB_pre (l.take (stN l))
  have h1 : (stripL l).length ≤ stN l := by
    have := trB_le (l.take (stN l))
    rw [List.length_take] at this
    unfold stripL; omega
  refine ⟨?_, h1⟩
  have h2 : (l.take (stN l)).take (stripL l).length = stripL l := by
    conv => lhs; rw [hn]
    show (stripL l ++ _).take (stripL l).length = _
    rw [List.take_left]
  rw [List.take_take, Nat.min_eq_left h1] at h2
  exact h2.symm
theorem strip_none (l : List UInt8) : stE 0 32 false false (stripL l) = none := by
  obtain ⟨h1, h2⟩ := strip_pre l
  rw [h1]
  refine stE_take _ fun k hk => ?_
  have : stN l = k := by rw [stN, hk]; rfl
  omega
theorem strip_idem (l : List UInt8) : stripL (stripL l) = stripL l := by
  have h : stN (stripL l) = (stripL l).length := by rw [stN, strip_none]; rfl
  conv => lhs; rw [stripL, h, List.take_of_length_le (Nat.le_refl _)]
  exact trB_idem _
/-- A line that has something, as it is put. -/
theorem jLn_one {n : Nat} {l : List UInt8} (hc : (stripL l).length - (tlB (stripL l)).length ≤ 100) : jLn (n, (stripL l).length - (tlB (stripL l)).length, tlB (stripL l)) = stripL l ++ [10] := by
  unfold jLn
  simp only
  rw [Nat.min_eq_left hc]
  obtain ⟨k, hk⟩ := tlB_suf (stripL l)
  have hl : (stripL l).length = k + (tlB (stripL l)).length := by conv => lhs; rw [hk]; simp
  rw [show (stripL l).length - (tlB (stripL l)).length = k by omega, ← hk]
/-- Lines out of a text of lines. -/
theorem lnA_app {a b : List UInt8} (h : ∀ c ∈ a, c.toNat ≠ 10) : lnA (a ++ 10 :: b) = a ∧ lnB (a ++ 10 :: b) = b := by
  induction a with
  | nil => exact ⟨by rw [List.nil_append, lnA, if_pos (by decide)], by rw [List.nil_append, lnB, if_pos (by decide)]⟩
  | cons c r ih =>
    obtain ⟨h1, h2⟩ := ih fun d hd => h d (List.mem_cons_of_mem _ hd)
    have hc := h c (List.mem_cons_self ..)
    exact ⟨by rw [List.cons_append, lnA, if_neg hc, h1], by rw [List.cons_append, lnB, if_neg hc, h2]⟩
theorem lnsL_flat {Y : List (List UInt8)} (h : ∀ l ∈ Y, ∀ c ∈ l, c.toNat ≠ 10) : lnsL (Y.flatMap fun l => l ++ [10]) = Y := by
  induction Y with
  | nil => rw [List.flatMap_nil, spl_nil]
  | cons l r ih =>
    rw [List.flatMap_cons, List.append_assoc, List.singleton_append]
    obtain ⟨h1, h2⟩ := lnA_app (b := r.flatMap fun l => l ++ [10]) (h l (List.mem_cons_self ..))
    have hne : l ++ 10 :: (r.flatMap fun l => l ++ [10]) ≠ [] := by simp
    cases hq : l ++ 10 :: (r.flatMap fun l => l ++ [10]) with
    | nil => exact absurd hq hne
    | cons c s => rw [spl_cons, ← hq, h1, h2, ih fun l' hl' => h l' (List.mem_cons_of_mem _ hl')]
end Go.Proofs.YtepbfgniocjagaaDoor
