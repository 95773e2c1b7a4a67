/- The document's Set, whole. -/
import Derived.Test.YtmcebepfoleknaaLenRefL
import Derived.Test.YtmcebepfoleknaaLenRefN
import Derived.Test.YtmcebepfoleknaaLenM
set_option linter.unusedVariables false
namespace Go.Proofs.Ytmcebepfoleknaa
open Go.RowKit
theorem rset_any (m : MV) (num t i : Int) (f : FV) (w : World) (hfn : f.n ≤ 18446744073709551615) (hlm : m.l.length ≤ 1000000) (hsm : Sl w m.A m.c (m.l.map sv)) (hx : f.s.xs.length ≤ 9223372036854775807) (hsf : Sl w f.s.A f.s.c (f.s.xs.map bv)) :
    Calls Try.prog 22 #[mvV m, .agg #[.int .i64 num, .int .i64 t, .int .i64 i], .agg (fvC f).toArray] w fun e w' => ∃ A' c', e = .returned (.tuple #[mvV { setM m t i f.n (fvS f) with A := A', c := c' }, .int .i64 (setE m t i (fvS f))]) ∧ (((setM m t i f.n (fvS f)).l = [] ∧ A' = none ∧ c' = 0) ∨ ((setM m t i f.n (fvS f)).l = m.l ∧ A' = m.A ∧ c' = m.c) ∨ w'.ownsRow w.heap.size 9 1 (.slice A' (setM m t i f.n (fvS f)).l.length c') (setM m t i f.n (fvS f)).l.length ((setM m t i f.n (fvS f)).l.map sv)) ∧ Below w.heap.size w w' := by
  cases hp : plB t i with
  | false =>
    have hE : setE m t i (fvS f) = 7 := by unfold setE; rw [if_pos hp]
    have hM : setM m t i f.n (fvS f) = ZM := by unfold setM; rw [if_pos (by rw [hE]; decide)]
    rw [hE, hM]
    refine (rset_none m num t i f.num f.w f.n f.s.A f.s.xs.length f.s.c f.at_ w hp).mono ?_
    rintro e w' ⟨he, hb⟩
    exact ⟨none, 0, he, .inl ⟨rfl, rfl, rfl⟩, hb⟩
  | true =>
    have hpl : ((1 ≤ t ∧ t ≤ 6) ∧ 0 ≤ i ∧ i < 6) ∨ ((7 ≤ t ∧ t ≤ 9) ∧ 0 ≤ i ∧ i < 2) ∨ t = 10 := by
      have h := hp
      unfold plB at h
      simp only [Bool.or_eq_true, decide_eq_true_eq] at h
      omega
    rcases hpl with ⟨h1, hi⟩ | ⟨h1, hi⟩ | rfl
    · have hE : setE m t i (fvS f) = 0 := by unfold setE; rw [if_neg (by rw [hp]; simp), if_pos h1.2]
      have hM : setM m t i f.n (fvS f) = m.setN i (numV t f.n) := by unfold setM; rw [if_neg (by rw [hE]; decide), if_pos h1.2]
      rw [hE, hM]
      refine (rset_num1 m num t i f.num f.w f.n f.s.A f.s.xs.length f.s.c f.at_ w (by omega) (by omega) hfn).mono ?_
      rintro e w' ⟨he, hb⟩
      exact ⟨m.A, m.c, he, .inr (.inl ⟨rfl, rfl, rfl⟩), hb⟩
    · have hE : setE m t i (fvS f) = chk (fvS f) (mostN t : Nat) := by unfold setE; rw [if_neg (by rw [hp]; simp), if_neg (by omega), if_pos h1.2]
      by_cases hc : chk (fvS f) (mostN t : Nat) = 0
      · have hM : setM m t i f.n (fvS f) = m.setS i (fvS f) := by unfold setM; rw [if_neg (by rw [hE, hc]; decide), if_neg (by omega), if_pos h1.2]
        rw [hE, hM, hc]
        refine (rset_text0 m num t i f.num f.w f.n f.s.A f.s.xs.length f.s.c f.at_ f.s.xs w (by omega) (by omega) rfl hx hsf hc).mono ?_
        rintro e w' ⟨he, hb⟩
        exact ⟨m.A, m.c, he, .inr (.inl ⟨rfl, rfl, rfl⟩), hb⟩
      · have hM : setM m t i f.n (fvS f) = ZM := by unfold setM; rw [if_pos (by rw [hE]; exact hc)]
        rw [hE, hM]
        refine (rset_text1 m num t i f.num f.w f.n f.s.A f.s.xs.length f.s.c f.at_ f.s.xs w (by omega) (by omega) rfl hx hsf hc).mono ?_
        rintro e w' ⟨he, hb⟩
        exact ⟨none, 0, he, .inl ⟨rfl, rfl, rfl⟩, hb⟩
    · by_cases h64 : 64 ≤ m.l.length
      · have hE : setE m 10 i (fvS f) = 2 := by unfold setE; rw [if_neg (by rw [hp]; simp), if_neg (by decide), if_neg (by decide), if_pos h64]
        have hM : setM m 10 i f.n (fvS f) = ZM := by unfold setM; rw [if_pos (by rw [hE]; decide)]
        rw [hE, hM]
        refine (rset_long m num i f.num f.w f.n f.s.A f.s.xs.length f.s.c f.at_ f.s.xs w rfl hx hsf h64).mono ?_
        rintro e w' ⟨he, hb⟩
        exact ⟨none, 0, he, .inl ⟨rfl, rfl, rfl⟩, hb⟩
      · have hE : setE m 10 i (fvS f) = chk (fvS f) 64 := by unfold setE; rw [if_neg (by rw [hp]; simp), if_neg (by decide), if_neg (by decide), if_neg h64]
        by_cases hc : chk (fvS f) 64 = 0
        · have hM : setM m 10 i f.n (fvS f) = { m with l := m.l ++ [fvS f] } := by unfold setM; rw [if_neg (by rw [hE, hc]; decide), if_neg (by decide), if_neg (by decide)]
          rw [hE, hM, hc]
          refine (rset_list m num i f.num f.w f.n f.s.A f.s.xs.length f.s.c f.at_ f.s.xs w rfl hx hsf (by omega) hc hsm).mono ?_
          rintro e w' ⟨A', c', he, ho, hb⟩
          exact ⟨A', c', he, .inr (.inr ho), hb⟩
        · have hM : setM m 10 i f.n (fvS f) = ZM := by unfold setM; rw [if_pos (by rw [hE]; exact hc)]
          rw [hE, hM]
          refine (rset_lbad m num i f.num f.w f.n f.s.A f.s.xs.length f.s.c f.at_ f.s.xs w rfl hx hsf (by omega) hc).mono ?_
          rintro e w' ⟨he, hb⟩
          exact ⟨none, 0, he, .inl ⟨rfl, rfl, rfl⟩, hb⟩
end Go.Proofs.Ytmcebepfoleknaa
