/- Frames as lists of bytes: put, read, what stands behind, what is shorter. -/
import Derived.Test.YtgiealcfhlcpoaaLaw7B
set_option linter.unusedVariables false
namespace Go.Proofs.Ytgiealcfhlcpoaa
open Go.RowKit
def Fr.inner (t : UInt8) (p : List UInt8) : List UInt8 := t :: b8 (p.length % 256) :: b8 (p.length / 256) :: p
/-- A frame's bytes. -/
def Fr.put (t : UInt8) (p : List UInt8) : List UInt8 := 197 :: 154 :: C.sealB (Fr.inner t p)
theorem Fr.inner_len (t : UInt8) (p : List UInt8) : (Fr.inner t p).length = p.length + 3 := by simp [Fr.inner]
theorem Fr.put_len (t : UInt8) (p : List UInt8) : (Fr.put t p).length = p.length + 9 := by simp [Fr.put, C.sealB_len, Fr.inner_len]
/-- The length that bytes tell, their type, and their payload. -/
def Fr.ln (bs : List UInt8) : Nat := (bs.getD 3 0).toNat + 256 * (bs.getD 4 0).toNat
def Fr.ty (bs : List UInt8) : UInt8 := bs.getD 2 0
def Fr.pl (bs : List UInt8) : List UInt8 := (bs.drop 5).take (Fr.ln bs)
/-- What is wrong with the first five. -/
def Fr.hE (bs : List UInt8) : Nat :=
  if 0 < bs.length ∧ bs.getD 0 0 ≠ 197 then 3 else if 1 < bs.length ∧ bs.getD 1 0 ≠ 154 then 3 else if bs.length < 5 then 4 else if 8192 < Fr.ln bs then 2 else 0
/-- What is wrong with what begins there. -/
def Fr.rE (bs : List UInt8) : Nat :=
  if Fr.hE bs ≠ 0 then Fr.hE bs else if bs.length < Fr.ln bs + 9 then 4 else if Fr.put (Fr.ty bs) (Fr.pl bs) = bs.take (Fr.ln bs + 9) then 0 else 12
theorem Fr.cons5 (bs : List UInt8) (h : 5 ≤ bs.length) : ∃ x0 x1 x2 x3 x4 r, bs = x0 :: x1 :: x2 :: x3 :: x4 :: r := by
  rcases bs with _ | ⟨x0, _ | ⟨x1, _ | ⟨x2, _ | ⟨x3, _ | ⟨x4, r⟩⟩⟩⟩⟩
  · simp at h
  · simp at h
  · simp at h
  · simp at h
  · simp at h
  · exact ⟨x0, x1, x2, x3, x4, r, rfl⟩
theorem Fr.hE_cases (bs : List UInt8) : Fr.hE bs = 3 ∨ Fr.hE bs = 4 ∨ Fr.hE bs = 2 ∨ Fr.hE bs = 0 := by
  unfold Fr.hE
  split
  · simp
  · split
    · simp
    · split
      · simp
      · split <;> simp
theorem Fr.hE0 {bs : List UInt8} (h : Fr.hE bs = 0) : ∃ t a b r, bs = 197 :: 154 :: t :: a :: b :: r ∧ Fr.ln bs = a.toNat + 256 * b.toNat ∧ a.toNat + 256 * b.toNat ≤ 8192 := by
  have h5 : 5 ≤ bs.length := by
    unfold Fr.hE at h
    by_cases h5 : bs.length < 5
    · exfalso
      revert h
      split
      · simp
      · split
        · simp
        · simp
    · omega
  obtain ⟨x0, x1, t, a, b, r, rfl⟩ := Fr.cons5 bs h5
  unfold Fr.hE at h
  simp only [List.length_cons, List.getD_cons_zero, List.getD_cons_succ] at h
  by_cases e0 : x0 = 197
  · by_cases e1 : x1 = 154
    · subst e0; subst e1
      refine ⟨t, a, b, r, rfl, rfl, ?_⟩
      have hl : Fr.ln (197 :: 154 :: t :: a :: b :: r) = a.toNat + 256 * b.toNat := rfl
      rw [hl] at h
      by_cases hq : 8192 < a.toNat + 256 * b.toNat
      · exfalso; revert h; simp [hq, show ¬ (r.length + 1 + 1 + 1 + 1 + 1 < 5) from by omega]
      · omega
    · exfalso; revert h; simp [e0, e1]
  · exfalso; revert h; simp [e0]
theorem Fr.hE_ok (t a b : UInt8) (r : List UInt8) (h : a.toNat + 256 * b.toNat ≤ 8192) : Fr.hE (197 :: 154 :: t :: a :: b :: r) = 0 := by
  have hl : Fr.ln (197 :: 154 :: t :: a :: b :: r) = a.toNat + 256 * b.toNat := rfl
  unfold Fr.hE
  rw [hl]
  simp [show ¬ (r.length + 1 + 1 + 1 + 1 + 1 < 5) from by omega]; omega
theorem Fr.put_cons (t : UInt8) (p : List UInt8) : Fr.put t p = 197 :: 154 :: t :: b8 (p.length % 256) :: b8 (p.length / 256) :: (p ++ C.le4 (C.sum (Fr.inner t p))) := rfl
theorem Fr.len8 {n : Nat} (h : n ≤ 8192) : (b8 (n % 256)).toNat + 256 * (b8 (n / 256)).toNat = n := by
  rw [b8_toNat (by omega), b8_toNat (by omega)]; omega
theorem Fr.b8_len (a b : UInt8) : b8 ((a.toNat + 256 * b.toNat) % 256) = a ∧ b8 ((a.toNat + 256 * b.toNat) / 256) = b := by
  have ha := a.toNat_lt
  have hb := b.toNat_lt
  rw [show (a.toNat + 256 * b.toNat) % 256 = a.toNat from by omega, show (a.toNat + 256 * b.toNat) / 256 = b.toNat from by omega]
  exact ⟨b8_self a, b8_self b⟩
/-- A frame is read as it was put, whatever stands behind. -/
theorem Fr.rE_put (t : UInt8) (p m : List UInt8) (h : p.length ≤ 8192) : Fr.rE (Fr.put t p ++ m) = 0 ∧ Fr.ty (Fr.put t p ++ m) = t ∧ Fr.pl (Fr.put t p ++ m) = p ∧ Fr.ln (Fr.put t p ++ m) = p.length := by
  have hp : Fr.put t p ++ m = 197 :: 154 :: t :: b8 (p.length % 256) :: b8 (p.length / 256) :: (p ++ (C.le4 (C.sum (Fr.inner t p)) ++ m)) := by rw [Fr.put_cons]; simp
  have hl : Fr.ln (Fr.put t p ++ m) = p.length := by rw [hp]; exact Fr.len8 h
  have ht : Fr.ty (Fr.put t p ++ m) = t := by rw [hp]; rfl
  have hpl : Fr.pl (Fr.put t p ++ m) = p := by
    unfold Fr.pl
    rw [hl, hp]
    simp only [List.drop_succ_cons, List.drop_zero]
    exact List.take_left' rfl
  refine ⟨?_, ht, hpl, hl⟩
  have h0 : Fr.hE (Fr.put t p ++ m) = 0 := by rw [hp]; exact Fr.hE_ok _ _ _ _ (by rw [Fr.len8 h]; exact h)
  have hln := Fr.put_len t p
  unfold Fr.rE
  rw [h0, if_neg (by simp), hl, ht, hpl, if_neg (by rw [List.length_append]; omega), if_pos]
  rw [← hln]; exact (List.take_left' rfl).symm
/-- What is read was put. -/
theorem Fr.rE_ok {bs : List UInt8} (h : Fr.rE bs = 0) : bs = Fr.put (Fr.ty bs) (Fr.pl bs) ++ bs.drop (Fr.ln bs + 9) ∧ (Fr.pl bs).length = Fr.ln bs ∧ Fr.ln bs ≤ 8192 ∧ Fr.ln bs + 9 ≤ bs.length := by
  unfold Fr.rE at h
  by_cases h0 : Fr.hE bs = 0
  · rw [h0, if_neg (by simp)] at h
    by_cases h1 : bs.length < Fr.ln bs + 9
    · rw [if_pos h1] at h; simp at h
    · rw [if_neg h1] at h
      by_cases h2 : Fr.put (Fr.ty bs) (Fr.pl bs) = bs.take (Fr.ln bs + 9)
      · obtain ⟨t, a, b, r, hb, hl, hle⟩ := Fr.hE0 h0
        refine ⟨by rw [h2, List.take_append_drop], ?_, by omega, by omega⟩
        unfold Fr.pl
        rw [List.length_take, List.length_drop]; omega
      · rw [if_neg h2] at h; simp at h
  · rw [if_pos h0] at h; exact absurd h h0
theorem Fr.hE_app {bs : List UInt8} (m : List UInt8) (h : Fr.hE bs ≠ 4) : Fr.hE (bs ++ m) = Fr.hE bs ∧ (Fr.hE bs = 0 → Fr.ln (bs ++ m) = Fr.ln bs ∧ Fr.ty (bs ++ m) = Fr.ty bs) := by
  rcases bs with _ | ⟨x0, _ | ⟨x1, _ | ⟨x2, _ | ⟨x3, _ | ⟨x4, r⟩⟩⟩⟩⟩
  · exact absurd (by rfl) h
  all_goals by_cases e0 : x0 = 197
  · subst e0; exact absurd (by rfl) h
  · simp [Fr.hE, e0]
  · by_cases e1 : x1 = 154
    · subst e0; subst e1; exact absurd (by rfl) h
    · simp [Fr.hE, e0, e1]
  · simp [Fr.hE, e0]
  · by_cases e1 : x1 = 154
    · subst e0; subst e1; exact absurd (by rfl) h
    · simp [Fr.hE, e0, e1]
  · simp [Fr.hE, e0]
  · by_cases e1 : x1 = 154
    · subst e0; subst e1; exact absurd (by rfl) h
    · simp [Fr.hE, e0, e1]
  · simp [Fr.hE, e0]
  · by_cases e1 : x1 = 154
    · subst e0; subst e1
      have hl : Fr.ln (197 :: 154 :: x2 :: x3 :: x4 :: r ++ m) = Fr.ln (197 :: 154 :: x2 :: x3 :: x4 :: r) := rfl
      refine ⟨?_, fun _ => ⟨hl, rfl⟩⟩
      unfold Fr.hE
      rw [hl]
      simp [show ¬ (r.length + 1 + 1 + 1 + 1 + 1 < 5) from by omega, show ¬ (r.length + m.length + 1 + 1 + 1 + 1 + 1 < 5) from by omega]
    · simp [Fr.hE, e0, e1]
  · simp [Fr.hE, e0]
/-- What isn't short is read alike, whatever stands behind. -/
theorem Fr.rE_app {bs : List UInt8} (m : List UInt8) (h : Fr.rE bs ≠ 4) : Fr.rE (bs ++ m) = Fr.rE bs ∧ (Fr.rE bs = 0 → Fr.ln (bs ++ m) = Fr.ln bs ∧ Fr.ty (bs ++ m) = Fr.ty bs ∧ Fr.pl (bs ++ m) = Fr.pl bs) := by
  by_cases h0 : Fr.hE bs = 0
  · have ha := Fr.hE_app m (bs := bs) (by omega)
    obtain ⟨hl, ht⟩ := ha.2 h0
    have hlen : Fr.ln bs + 9 ≤ bs.length := by
      by_cases hq : bs.length < Fr.ln bs + 9
      · exfalso; apply h; unfold Fr.rE; rw [h0, if_neg (by simp), if_pos hq]
      · omega
    have hp : Fr.pl (bs ++ m) = Fr.pl bs := by
      unfold Fr.pl
      rw [hl, List.drop_append_of_le_length (by omega), List.take_append_of_le_length (by rw [List.length_drop]; omega)]
    refine ⟨?_, fun _ => ⟨hl, ht, hp⟩⟩
    unfold Fr.rE
    rw [ha.1, h0, hl, ht, hp, List.take_append_of_le_length hlen, if_neg (show ¬ (0 : Nat) ≠ 0 from by simp), if_neg (show ¬ (0 : Nat) ≠ 0 from by simp), if_neg (show ¬ (bs ++ m).length < Fr.ln bs + 9 from by rw [List.length_append]; omega), if_neg (show ¬ bs.length < Fr.ln bs + 9 from by omega)]
  · have h4 : Fr.hE bs ≠ 4 := by intro e; apply h; unfold Fr.rE; rw [if_pos h0, e]
    have ha := (Fr.hE_app m h4).1
    have e1 : Fr.rE bs = Fr.hE bs := by unfold Fr.rE; rw [if_pos h0]
    refine ⟨by rw [e1]; unfold Fr.rE; rw [ha, if_pos h0], fun hz => absurd (e1 ▸ hz) h0⟩
/-- What is shorter is short. -/
theorem Fr.rE_less (t : UInt8) (p : List UInt8) (k : Nat) (h : p.length ≤ 8192) (hk : k < p.length + 9) : Fr.rE ((Fr.put t p).take k) = 4 := by
  apply Classical.byContradiction
  intro hne
  have ha := Fr.rE_app ((Fr.put t p).drop k) hne
  rw [List.take_append_drop] at ha
  obtain ⟨h0, -, -, hl⟩ := Fr.rE_put t p [] h
  rw [List.append_nil] at h0 hl
  rw [h0] at ha
  obtain ⟨h1, -⟩ := ha.2 ha.1.symm
  have h2 := (Fr.rE_ok ha.1.symm).2.2.2
  rw [List.length_take, Fr.put_len] at h2
  omega
theorem Fr.rE_short {bs : List UInt8} (h : Fr.rE bs = 4) : bs.length < 8201 := by
  by_cases h5 : bs.length < 5
  · omega
  by_cases h0 : Fr.hE bs = 0
  · obtain ⟨t, a, b, r, hb, hl, hle⟩ := Fr.hE0 h0
    by_cases hq : bs.length < Fr.ln bs + 9
    · omega
    · exfalso; revert h; unfold Fr.rE; rw [h0, if_neg (by simp), if_neg hq]; split <;> simp
  · exfalso
    have e1 : Fr.rE bs = Fr.hE bs := by unfold Fr.rE; rw [if_pos h0]
    rw [e1] at h
    unfold Fr.hE at h
    revert h
    split
    · simp
    · split
      · simp
      · split <;> simp
theorem Fr.rE_cases (bs : List UInt8) : Fr.rE bs = 3 ∨ Fr.rE bs = 4 ∨ Fr.rE bs = 2 ∨ Fr.rE bs = 12 ∨ Fr.rE bs = 0 := by
  unfold Fr.rE
  rcases Fr.hE_cases bs with h | h | h | h <;> rw [h]
  · simp
  · simp
  · simp
  · rw [if_neg (by simp)]
    split
    · simp
    · split <;> simp
/-- Opening what stands behind both first bytes. -/
theorem Fr.open_ {bs : List UInt8} (h0 : Fr.hE bs = 0) (hl : Fr.ln bs + 9 ≤ bs.length) : ((bs.take (Fr.ln bs + 9)).drop 2).length = Fr.ln bs + 7 ∧ C.openE ((bs.take (Fr.ln bs + 9)).drop 2) = Fr.rE bs ∧ (((bs.take (Fr.ln bs + 9)).drop 2).take (Fr.ln bs + 3)) = Fr.ty bs :: (bs.getD 3 0) :: (bs.getD 4 0) :: Fr.pl bs := by
  obtain ⟨t, a, b, r, rfl, hn, hle⟩ := Fr.hE0 h0
  have hX : (((197 :: 154 :: t :: a :: b :: r).take (Fr.ln (197 :: 154 :: t :: a :: b :: r) + 9)).drop 2) = t :: a :: b :: r.take (Fr.ln (197 :: 154 :: t :: a :: b :: r) + 4) := by
    simp [List.take_succ_cons]
  have hpl : Fr.pl (197 :: 154 :: t :: a :: b :: r) = r.take (Fr.ln (197 :: 154 :: t :: a :: b :: r)) := rfl
  have hty : Fr.ty (197 :: 154 :: t :: a :: b :: r) = t := rfl
  have h8 := Fr.b8_len a b
  rw [← hn] at h8
  simp only [List.length_cons] at hl
  have hrE : Fr.rE (197 :: 154 :: t :: a :: b :: r) = if Fr.put t (r.take (Fr.ln (197 :: 154 :: t :: a :: b :: r))) = (197 :: 154 :: t :: a :: b :: r).take (Fr.ln (197 :: 154 :: t :: a :: b :: r) + 9) then 0 else 12 := by
    unfold Fr.rE
    rw [h0, if_neg (by simp), hty, hpl, if_neg (by simp only [List.length_cons]; omega)]
  rw [hrE, hX, hpl, hty]
  generalize Fr.ln (197 :: 154 :: t :: a :: b :: r) = n at *
  have hrl : (r.take (n + 4)).length = n + 4 := by rw [List.length_take]; omega
  have htk : (t :: a :: b :: r.take (n + 4)).take (n + 3) = t :: a :: b :: r.take n := by
    simp only [List.take_succ_cons]
    rw [List.take_take, Nat.min_eq_left (by omega)]
  refine ⟨by simp only [List.length_cons, hrl], ?_, htk⟩
  unfold C.openE
  have hlen : (t :: a :: b :: r.take (n + 4)).length = n + 7 := by simp only [List.length_cons, hrl]
  rw [hlen, if_neg (by omega), show n + 7 - 4 = n + 3 from by omega, htk]
  have hin : Fr.inner t (r.take n) = t :: a :: b :: r.take n := by
    unfold Fr.inner
    rw [List.length_take, Nat.min_eq_left (by omega), h8.1, h8.2]
  have hsp : (197 :: 154 :: t :: a :: b :: r).take (n + 9) = 197 :: 154 :: t :: a :: b :: r.take (n + 4) := by simp [List.take_succ_cons]
  rw [hsp]
  unfold Fr.put
  rw [hin]
  by_cases hc : C.sealB (t :: a :: b :: r.take n) = t :: a :: b :: r.take (n + 4)
  · rw [if_pos hc, if_pos (by rw [hc])]
  · rw [if_neg hc, if_neg (fun h => hc (by injection h with _ h; injection h))]
end Go.Proofs.Ytgiealcfhlcpoaa
