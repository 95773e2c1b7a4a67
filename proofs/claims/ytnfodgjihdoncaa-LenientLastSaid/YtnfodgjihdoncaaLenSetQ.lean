/- lenient.Set. -/
import Derived.Test.YtnfodgjihdoncaaLenSetN
set_option linter.unusedVariables false
namespace Go.Proofs.Ytnfodgjihdoncaa
open Go.RowKit
/-- What a field's bytes are as a string. -/
def fvS (f : FV) : ByteArray := ⟨f.s.xs.toArray⟩
theorem lset_any (m : MV) (num t i : Int) (f : FV) (w : World) (hfn : f.n ≤ 18446744073709551615) (hlm : m.l.length ≤ 1000000) (hsm : Sl w m.A m.c (m.l.map sv)) (hx : f.s.xs.length ≤ 9223372036854775807) (hsf : Sl w f.s.A f.s.c (f.s.xs.map bv)) :
    Calls Try.prog 50 #[mvV m, .agg #[.int .i64 num, .int .i64 t, .int .i64 i], .agg (fvC f).toArray] w fun e w' => ∃ A' c', e = .returned (.tuple #[mvV { setM m t i f.n (fvS f) with A := A', c := c' }, .int .i64 (setE m t i (fvS f))]) ∧ w'.ownsRow w.heap.size 9 1 (.slice A' (setM m t i f.n (fvS f)).l.length c') (setM m t i f.n (fvS f)).l.length ((setM m t i f.n (fvS f)).l.map sv) ∧ Below w.heap.size w w' := by
  cases hp : plB t i with
  | false =>
    have hE : setE m t i (fvS f) = 7 := by unfold setE; rw [if_pos hp]
    have hM : setM m t i f.n (fvS f) = ZM := by unfold setM; rw [if_pos (by rw [hE]; decide)]
    rw [hE, hM]
    refine (lset_none m num t i f.num f.w f.n f.s.A f.s.xs.length f.s.c f.at_ w hp).mono ?_
    rintro e w' ⟨he, hb⟩
    exact ⟨none, 0, he, World.ownsRow_nil _ _ _ _, hb⟩
  | true =>
    have hpl : (1 ≤ t ∧ t ≤ 6 ∧ 0 ≤ i ∧ i < 6) ∨ 7 ≤ t := by
      have h := hp
      unfold plB at h
      simp only [Bool.or_eq_true, decide_eq_true_eq] at h
      omega
    rcases hpl with ⟨h1, h6, hi⟩ | h7
    · have hE : setE m t i (fvS f) = 0 := by unfold setE; rw [if_neg (by rw [hp]; simp), if_pos h6]
      have hM : setM m t i f.n (fvS f) = m.setN i (numV t f.n) := by unfold setM; rw [if_neg (by rw [hE]; decide), if_pos h6]
      rw [hE, hM]
      exact lset_num0 m num t i f.num f.w f.n f.s.A f.s.xs.length f.s.c f.at_ w ⟨h1, h6⟩ hi hfn hlm hsm
    · exact lset_text m num t i f.num f.w f.n f.s.A f.s.xs.length f.s.c f.at_ f.s.xs w hp h7 hlm hsm rfl hx hsf
end Go.Proofs.Ytnfodgjihdoncaa
