/- The document's Set, whole. -/
import Derived.Test.YtpmfdlghckfgiaaLenRefL
import Derived.Test.YtpmfdlghckfgiaaLenRefN
import Derived.Test.YtpmfdlghckfgiaaG6
set_option linter.unusedVariables false
namespace Go.Proofs.Ytpmfdlghckfgiaa
open Go.RowKit
theorem rset_any (m : MV) (num t i : Int) (f : FV) (w : World) (hfn : f.n ≤ 18446744073709551615) (hlm : m.l.length ≤ 1000000) (hsm : Sl w m.A m.c (m.l.map sv)) (hx : f.s.xs.length ≤ 9223372036854775807) (hsf : Sl w f.s.A f.s.c (f.s.xs.map bv)) :
    Calls Try.prog 19 #[mvV m, .agg #[.int .i64 num, .int .i64 t, .int .i64 i], .agg (fvC f).toArray] w fun e w' => ∃ A' c', e = .returned (.tuple #[mvV { setM m t i f.n (fvS f) with A := A', c := c' }, .int .i64 (setE m t i (fvS f))]) ∧ (((setM m t i f.n (fvS f)).l = [] ∧ A' = none ∧ c' = 0) ∨ ((setM m t i f.n (fvS f)).l = m.l ∧ A' = m.A ∧ c' = m.c) ∨ w'.ownsRow w.heap.size 9 1 (.slice A' (setM m t i f.n (fvS f)).l.length c') (setM m t i f.n (fvS f)).l.length ((setM m t i f.n (fvS f)).l.map sv)) ∧ Below w.heap.size w w' := by
  cases hp : plB t i with
  | false =>
    have hE : setE m t i (fvS f) = 7 := by unfold setE; rw [if_pos hp]
    have hM : setM m t i f.n (fvS f) = ZM := by unfold setM; rw [if_pos (by rw [hE]; decide)]
    rw [hE, hM]
    refine (rset_none m num t i f.num f.w f.n f.s.A f.s.xs.length f.s.c f.at_ w hp).mono ?_
    rintro e w' ⟨he, hb⟩
    exact ⟨none, 0, he, .inl ⟨rfl, rfl, rfl⟩, hb⟩
  | true =>
    have hpl : ((1 ≤ t ∧ t ≤ 6) ∧ 0 ≤ i ∧ i < 6) ∨ ((7 ≤ t ∧ t ≤ 9) ∧ 0 ≤ i ∧ i < 2) ∨ t = 10 := by
      have h := hp
      unfold plB at h
      simp only [Bool.or_eq_true, decide_eq_true_eq] at h
      omega
    rcases hpl with ⟨h1, hi⟩ | ⟨h1, hi⟩ | rfl
    · have hE : setE m t i (fvS f) = 0 := by unfold setE; rw [if_neg (by rw [hp]; simp), if_pos h1.2]
      have hM : setM m t i f.n (fvS f) = m.setN i (numV t f.n) := by unfold setM; rw [if_neg (by rw [hE]; decide), if_pos h1.2]
      rw [hE, hM]
      refine (rset_num1 m num t i f.num f.w f.n f.s.A f.s.xs.length f.s.c f.at_ w (by omega) (by omega) hfn).mono ?_
      rintro e w' ⟨he, hb⟩
      exact ⟨m.A, m.c, he, .inr (.inl ⟨rfl, rfl, rfl⟩), hb⟩
    · have hE : setE m t i (fvS f) = chk (fvS f) (mostN t : Nat) := by unfold setE; rw [if_neg (by rw [hp]; simp), if_neg (by omega), if_pos h1.2]
      by_cases hc : chk (fvS f) (mostN t : Nat) = 0
      · have hM : setM m t i f.n (fvS f) = m.setS i (fvS f) := by unfold setM; rw [if_neg (by rw [hE, hc]; decide), if_neg (by omega), if_pos h1.2]
        rw [hE, hM, hc]
        refine (rset_text0 m num t i f.num f.w f.n f.s.A f.s.xs.length f.s.c f.at_ f.s.xs w (by omega) (by omega) rfl hx hsf hc).mono ?_
        rintro e w' ⟨he, hb⟩
        exact ⟨m.A, m.c, he, .inr (.inl ⟨rfl, rfl, rfl⟩), hb⟩
      · have hM : setM m t i f.n (fvS f) = ZM := by unfold setM; rw [if_pos (by rw [hE]; exact hc)]
        rw [hE, hM]
        refine (rset_text1 m num t i f.num f.w f.n f.s.A f.s.xs.length f.s.c f.at_ f.s.xs w (by omega) (by omega) rfl hx hsf hc).mono ?_
        rintro e w' ⟨he, hb⟩
        exact ⟨none, 0, he, .inl ⟨rfl, rfl, rfl⟩, hb⟩
    · by_cases h64 : 64 ≤ m.l.length
      · have hE : setE m 10 i (fvS f) = 2 := by unfold setE; rw [if_neg (by rw [hp]; simp), if_neg (by decide), if_neg (by decide), if_pos h64]
        have hM : setM m 10 i f.n (fvS f) = ZM := by unfold setM; rw [if_pos (by rw [hE]; decide)]
        rw [hE, hM]
        refine (rset_long m num i f.num f.w f.n f.s.A f.s.xs.length f.s.c f.at_ f.s.xs w rfl hx hsf h64).mono ?_
        rintro e w' ⟨he, hb⟩
        exact ⟨none, 0, he, .inl ⟨rfl, rfl, rfl⟩, hb⟩
      · have hE : setE m 10 i (fvS f) = chk (fvS f) 64 := by unfold setE; rw [if_neg (by rw [hp]; simp), if_neg (by decide), if_neg (by decide), if_neg h64]
        by_cases hc : chk (fvS f) 64 = 0
        · have hM : setM m 10 i f.n (fvS f) = { m with l := m.l ++ [fvS f] } := by unfold setM; rw [if_neg (by rw [hE, hc]; decide), if_neg (by decide), if_neg (by decide)]
          rw [hE, hM, hc]
          refine (rset_list m num i f.num f.w f.n f.s.A f.s.xs.length f.s.c f.at_ f.s.xs w rfl hx hsf (by omega) hc hsm).mono ?_
          rintro e w' ⟨A', c', he, ho, hb⟩
          exact ⟨A', c', he, .inr (.inr ho), hb⟩
        · have hM : setM m 10 i f.n (fvS f) = ZM := by unfold setM; rw [if_pos (by rw [hE]; exact hc)]
          rw [hE, hM]
          refine (rset_lbad m num i f.num f.w f.n f.s.A f.s.xs.length f.s.c f.at_ f.s.xs w rfl hx hsf (by omega) hc).mono ?_
          rintro e w' ⟨he, hb⟩
          exact ⟨none, 0, he, .inl ⟨rfl, rfl, rfl⟩, hb⟩
/-- Where the list is the caller's own row, so is the answer's. -/
theorem rset_own (m : MV) (A : Option Addr) (c : Nat) (num t i : Int) (f : FV) (w : World) (B : Nat) (hB : B ≤ w.heap.size) (hfn : f.n ≤ 18446744073709551615) (hlm : m.l.length ≤ 64) (hsm : w.ownsRow B 9 1 (.slice A m.l.length c) m.l.length (m.l.map sv)) (hx : f.s.xs.length ≤ 9223372036854775807) (hsf : Sl w f.s.A f.s.c (f.s.xs.map bv)) :
    Calls Try.prog 19 #[mvV { m with A := A, c := c }, .agg #[.int .i64 num, .int .i64 t, .int .i64 i], .agg (fvC f).toArray] w fun e w' => ∃ A' c', e = .returned (.tuple #[mvV { setM m t i f.n (fvS f) with A := A', c := c' }, .int .i64 (setE m t i (fvS f))]) ∧ w'.ownsRow B 9 1 (.slice A' (setM m t i f.n (fvS f)).l.length c') (setM m t i f.n (fvS f)).l.length ((setM m t i f.n (fvS f)).l.map sv) ∧ Below w.heap.size w w' := by
  obtain ⟨A2, c2, e2, -, hsl⟩ := Sl.of_own hsm
  injection e2 with e3 e4 e5
  subst e3
  subst e5
  refine (rset_any { m with A := A, c := c } num t i f w hfn (Nat.le_trans hlm (by omega)) hsl hx hsf).mono ?_
  rintro e w' ⟨A', c', he, ho, hb⟩
  have h1 := setM_ac m A A' c c' t i f.n (fvS f)
  have h2 := setM_acl m A c t i f.n (fvS f)
  rw [h1, setE_z] at he
  rw [h2] at ho
  refine ⟨A', c', he, ?_, hb⟩
  rcases ho with ⟨g1, rfl, rfl⟩ | ⟨g1, rfl, rfl⟩ | g1
  · rw [g1]; exact World.ownsRow_nil _ _ _ _
  · simp only at g1
    rw [g1]
    exact own_chgS hsm (Chg.of_new (S := fun _ => False) hb) (fun _ _ h => h)
  · exact own_mono g1 hB
end Go.Proofs.Ytpmfdlghckfgiaa
