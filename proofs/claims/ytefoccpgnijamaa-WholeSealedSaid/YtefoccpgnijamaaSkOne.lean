/- skip.read in one piece. -/
import Derived.Test.YtefoccpgnijamaaSkRead
set_option linter.unusedVariables false
namespace Go.Proofs.Ytefoccpgnijamaa
open Go.RowKit
theorem rFix4_lt (bs : List UInt8) (p : Nat) : (rVal 5 bs p).1 ≤ 4294967295 := by
  unfold rVal
  rw [if_neg (by omega), if_neg (by omega), if_neg (by omega)]
  simp only
  unfold rFix
  split
  · simp
  · have hu := unfixN_lt ((bs.drop p).take 4)
    have hl : ((bs.drop p).take 4).length ≤ 4 := by rw [List.length_take]; omega
    have hp : 256 ^ ((bs.drop p).take 4).length ≤ 256 ^ 4 := Nat.pow_le_pow_right (by omega) hl
    simp only [if_true]
    omega
theorem sread_any (w : World) (q : Nat) (A : Option Addr) (c : Nat) (bs : List UInt8) (p : Nat) (h : Rin 122 w q A c bs p) :
    Calls Try.prog 66 #[.pointer (some ⟨q, 0, none⟩)] w fun e w' => ∃ A' c' at', e = .returned (.tuple #[.agg #[.int .i64 (rOne bs p).num, .int .u8 (rOne bs p).w, .int .u64 ((rOne bs p).n : Nat), .slice A' (rOne bs p).xs.length c', .int .i64 at'], .agg #[.int .i64 ((rOne bs p).e : Nat), .int .i64 ((rOne bs p).p : Nat)]]) ∧
      ((rOne bs p).e = 0 → at' = (p : Int)) ∧ Sl w' A' c' ((rOne bs p).xs.map bv) ∧ (∀ q', Far A bs.length q' → Far A' (rOne bs p).xs.length q') ∧ Rin 122 w' q A c bs (rOne bs p).nx ∧ Only q w w' := by
  by_cases he : (rHead bs p).2.2.1 = 0
  · have hf := rHead_facts bs p he
    have hr : rOne bs p = ⟨(rHead bs p).1, (rHead bs p).2.1, (rVal (rHead bs p).2.1 bs (rHead bs p).2.2.2).1, (rVal (rHead bs p).2.1 bs (rHead bs p).2.2.2).2.1, (rVal (rHead bs p).2.1 bs (rHead bs p).2.2.2).2.2.1, flt (rVal (rHead bs p).2.1 bs (rHead bs p).2.2.2).2.2.1 (rHead bs p).2.2.2, (rVal (rHead bs p).2.1 bs (rHead bs p).2.2.2).2.2.2⟩ := by unfold rOne; rw [if_pos he]
    rw [hr]
    obtain ⟨hd, hhd⟩ : ∃ hd, rHead bs p = hd := ⟨_, rfl⟩
    rw [hhd] at he hf ⊢
    obtain ⟨num, x, e, p1⟩ := hd
    simp only at he hf ⊢
    subst he
    have hx1 : ∀ K, K = 0 ∨ K = 1 ∨ K = 5 → (rVal K bs p1).2.1 = [] := by
      rintro K (rfl | rfl | rfl) <;> rfl
    rcases hf.2.2.1 with rfl | rfl | rfl | rfl
    · refine (sread_0 num p1 _ _ _ _ w q A c bs p hhd (show rVal 0 bs p1 = ((rVal 0 bs p1).1, [], (rVal 0 bs p1).2.2.1, (rVal 0 bs p1).2.2.2) from rfl) rfl trivial h).mono ?_
      rintro e' w' ⟨e1, hr, ho⟩
      exact ⟨none, 0, (p : Int), e1, fun _ => rfl, Sl.nil_ _, fun q' _ hp => absurd hp (by simp [hx1 0 (.inl rfl)]), hr, ho⟩
    · refine (sread_1 num p1 _ _ _ _ w q A c bs p hhd (show rVal 1 bs p1 = ((rVal 1 bs p1).1, [], (rVal 1 bs p1).2.2.1, (rVal 1 bs p1).2.2.2) from rfl) rfl trivial h).mono ?_
      rintro e' w' ⟨e1, hr, ho⟩
      exact ⟨none, 0, (p : Int), e1, fun _ => rfl, Sl.nil_ _, fun q' _ hp => absurd hp (by simp [hx1 1 (.inr (.inl rfl))]), hr, ho⟩
    · refine (sread_2 num p1 _ _ _ _ _ w q A c bs p hhd (show rVal 2 bs p1 = (0, (rVal 2 bs p1).2.1, (rVal 2 bs p1).2.2.1, (rVal 2 bs p1).2.2.2) from rfl) rfl rfl trivial h).mono ?_
      rintro e' w' ⟨A', c', e1, hs, hfa, hr, ho⟩
      exact ⟨A', c', (p : Int), e1, fun _ => rfl, hs, hfa, hr, ho⟩
    · refine (sread_5 num p1 _ _ _ _ w q A c bs p hhd (show rVal 5 bs p1 = ((rVal 5 bs p1).1, [], (rVal 5 bs p1).2.2.1, (rVal 5 bs p1).2.2.2) from rfl) rfl (rFix4_lt bs p1) h).mono ?_
      rintro e' w' ⟨e1, hr, ho⟩
      exact ⟨none, 0, (p : Int), e1, fun _ => rfl, Sl.nil_ _, fun q' _ hp => absurd hp (by simp [hx1 5 (.inr (.inr rfl))]), hr, ho⟩
  · have hr : rOne bs p = ⟨0, 0, 0, [], (rHead bs p).2.2.1, p, p⟩ := by unfold rOne; rw [if_neg he]
    rw [hr]
    simp only
    refine (sread_bad (rHead bs p).1 (rHead bs p).2.1 (rHead bs p).2.2.1 (rHead bs p).2.2.2 w q A c bs p rfl he h).mono ?_
    rintro e' w' ⟨e1, hr, ho⟩
    exact ⟨none, 0, 0, e1, fun h => absurd h he, Sl.nil_ _, fun q' _ hp => by simp at hp, hr, ho⟩
end Go.Proofs.Ytefoccpgnijamaa
