/- Numbers and their digits: mathematics. -/
import Derived.Test.YtihkjopplmdkkaaDoorSrN
set_option linter.unusedVariables false
namespace Go.Proofs.YtihkjopplmdkkaaDoor
open Go.RowKit
def dgs (l : List UInt8) : Prop := ∀ c ∈ l, 48 ≤ c.toNat ∧ c.toNat ≤ 57
def valF (a : Nat) (l : List UInt8) : Nat := l.foldl (fun a c => 10 * a + (c.toNat - 48)) a
theorem snoc_ind {P : List UInt8 → Prop} (h0 : P []) (h1 : ∀ l c, P l → P (l ++ [c])) (l : List UInt8) : P l := by
  have : ∀ n (l : List UInt8), l.length = n → P l := by
    intro n
    induction n with
    | zero => intro l h; rw [List.eq_nil_of_length_eq_zero h]; exact h0
    | succ n ih =>
      intro l h
      have hne : l ≠ [] := by intro e; subst e; simp at h
      rw [← List.dropLast_concat_getLast hne]
      exact h1 _ _ (ih _ (by rw [List.length_dropLast]; omega))
  exact this _ l rfl
theorem valF_snoc (a : Nat) (l : List UInt8) (c : UInt8) : valF a (l ++ [c]) = 10 * valF a l + (c.toNat - 48) := by simp [valF]
theorem valF_cons (a : Nat) (l : List UInt8) (c : UInt8) : valF a (c :: l) = valF (10 * a + (c.toNat - 48)) l := by simp [valF]
theorem valF_lt (l : List UInt8) (h : dgs l) : valF 0 l < 10 ^ l.length := by
  induction l using snoc_ind with
  | h0 => simp [valF]
  | h1 l c ih =>
    have h1 := ih fun d hd => h d (by simp [hd])
    have h2 := h c (by simp)
    rw [valF_snoc, List.length_append, List.length_singleton, Nat.pow_succ]; omega
/-- No nought ahead, but of one digit. -/
def lead (l : List UInt8) : Prop := l ≠ [] ∧ (l.length = 1 ∨ ∃ c r, l = c :: r ∧ c.toNat ≠ 48)
theorem lead_ge (l : List UInt8) (h : dgs l) (c : UInt8) (hc : c.toNat ≠ 48) (hd : 48 ≤ c.toNat ∧ c.toNat ≤ 57) : 10 ^ l.length ≤ valF 0 (c :: l) := by
  induction l using snoc_ind with
  | h0 => simp [valF]; omega
  | h1 l d ih =>
    have h1 := ih fun e he => h e (by simp [he])
    rw [← List.cons_append, valF_snoc, List.length_append, List.length_singleton, Nat.pow_succ]; omega
theorem u8_ofNat {n : Nat} {c : UInt8} (h : n = c.toNat) : UInt8.ofNat n = c := by rw [h, UInt8.ofNat_toNat]
/-- Digits are those of their number. -/
theorem dec_val (l : List UInt8) (h : dgs l) (hl : lead l) : Lib.decDigits (valF 0 l) = l := by
  induction l using snoc_ind with
  | h0 => exact absurd rfl hl.1
  | h1 l c ih =>
    have hc := h c (by simp)
    by_cases hn : l = []
    · subst hn
      rw [List.nil_append, show valF 0 [c] = c.toNat - 48 from by simp [valF], Lib.decDigits, dif_pos (by omega), show UInt8.ofNat (48 + (c.toNat - 48)) = c from u8_ofNat (by omega)]
    · obtain ⟨d, r, hr, hd⟩ : ∃ d r, l = d :: r ∧ d.toNat ≠ 48 := by
        rcases hl.2 with h1 | ⟨d, r, h1, h2⟩
        · simp at h1; exact absurd h1 hn
        · cases l with
          | nil => exact absurd rfl hn
          | cons e q => simp at h1; exact ⟨e, q, rfl, by rw [h1.1]; exact h2⟩
      have hll : dgs l := fun e he => h e (by simp [he])
      have ih' := ih hll ⟨hn, .inr ⟨d, r, hr, hd⟩⟩
      have hge : 1 ≤ valF 0 l := by
        have := lead_ge r (fun e he => hll e (by rw [hr]; simp [he])) d hd (hll d (by rw [hr]; simp))
        rw [← hr] at this
        exact Nat.le_trans (Nat.one_le_pow _ _ (by omega)) this
      rw [valF_snoc, Lib.decDigits, dif_neg (by omega), show (10 * valF 0 l + (c.toNat - 48)) / 10 = valF 0 l from by omega, ih', show 48 + (10 * valF 0 l + (c.toNat - 48)) % 10 = c.toNat from by omega, UInt8.ofNat_toNat]
theorem ofNat_dig {d : Nat} (h : d < 10) : (UInt8.ofNat (48 + d)).toNat = 48 + d := by rw [UInt8.toNat_ofNat']; omega
/-- A number's digits: what they are, and what they tell. -/
theorem dec_good (k u : Nat) (hk : u ≤ k) : dgs (Lib.decDigits u) ∧ lead (Lib.decDigits u) ∧ valF 0 (Lib.decDigits u) = u ∧ (1 ≤ u → ∃ c r, Lib.decDigits u = c :: r ∧ c.toNat ≠ 48) := by
  induction k generalizing u with
  | zero =>
    have : u = 0 := by omega
    subst this
    rw [Lib.decDigits, dif_pos (by omega)]
    exact ⟨by intro c hc; simp at hc; subst hc; decide, ⟨by simp, .inl rfl⟩, by decide, by omega⟩
  | succ k ih =>
    by_cases h10 : u < 10
    · rw [Lib.decDigits, dif_pos h10]
      refine ⟨?_, ⟨by simp, .inl rfl⟩, ?_, fun h1 => ⟨_, [], rfl, by rw [ofNat_dig h10]; omega⟩⟩
      · intro c hc; simp only [List.mem_singleton] at hc; subst hc; rw [ofNat_dig h10]; omega
      · simp only [valF, List.foldl_cons, List.foldl_nil]; rw [ofNat_dig h10]; omega
    · obtain ⟨h1, h2, h3, h4⟩ := ih (u / 10) (by omega)
      obtain ⟨c, r, h5, h6⟩ := h4 (by omega)
      have hm : u % 10 < 10 := by omega
      rw [Lib.decDigits, dif_neg h10]
      refine ⟨?_, ⟨by simp, .inr ⟨c, r ++ [UInt8.ofNat (48 + u % 10)], by rw [h5]; rfl, h6⟩⟩, ?_, fun _ => ⟨c, r ++ [UInt8.ofNat (48 + u % 10)], by rw [h5]; rfl, h6⟩⟩
      · intro e he
        rcases List.mem_append.1 he with he | he
        · exact h1 e he
        · simp only [List.mem_singleton] at he; subst he; rw [ofNat_dig hm]; omega
      · rw [valF_snoc, h3, ofNat_dig hm]; omega
theorem dec_len {u : Nat} (h : u ≤ 999999999) : (Lib.decDigits u).length ≤ 9 := by
  obtain ⟨h1, h2, h3, h4⟩ := dec_good u u (Nat.le_refl _)
  by_cases h0 : 1 ≤ u
  · obtain ⟨c, r, h5, h6⟩ := h4 h0
    rw [h5] at h1 h3 ⊢
    have hg := lead_ge r (fun e he => h1 e (by simp [he])) c h6 (h1 c (by simp))
    rw [h3] at hg
    by_cases hl : r.length ≤ 8
    · simp; omega
    · have : 10 ^ 9 ≤ 10 ^ r.length := Nat.pow_le_pow_right (by omega) (by omega)
      omega
  · have : u = 0 := by omega
    subst this
    rw [Lib.decDigits, dif_pos (by omega)]; simp
/-- Digits are parsed as their number, as long as there is room. -/
theorem parse_dgs (l : List UInt8) (a : Nat) (h : dgs l) (hr : valF a l ≤ 999999999) : Lib.parseUint10 a l = .ok (valF a l) := by
  induction l generalizing a with
  | nil => rfl
  | cons c r ih =>
    have hc := h c (by simp)
    have hm : ∀ (l : List UInt8) (a : Nat), a ≤ valF a l := by
      intro l; induction l with
      | nil => intro a; simp [valF]
      | cons d q ih2 => intro a; rw [valF_cons]; exact Nat.le_trans (by omega) (ih2 _)
    rw [valF_cons] at hr ⊢
    have h1 := hm r (10 * a + (c.toNat - 48))
    rw [Lib.parseUint10, if_pos hc, if_neg (by omega), if_neg (by omega), show a * 10 + (c.toNat - 48) = 10 * a + (c.toNat - 48) from by omega]
    exact ih _ (fun e he => h e (by simp [he])) hr
/-- What the document's Number tells. -/
def numOk (l : List UInt8) : Bool := decide (1 ≤ l.length ∧ l.length ≤ 9) && (l.all fun c => decide (48 ≤ c.toNat ∧ c.toNat ≤ 57)) && !(decide (1 < l.length) && l.head? == some 48)
theorem numOk_iff (l : List UInt8) : numOk l = true ↔ dgs l ∧ lead l ∧ l.length ≤ 9 := by
  unfold numOk dgs lead
  simp only [Bool.and_eq_true, decide_eq_true_eq, List.all_eq_true, Bool.not_eq_true', Bool.and_eq_false_iff, decide_eq_false_iff_not]
  constructor
  · rintro ⟨⟨⟨h1, h2⟩, h3⟩, h4⟩
    refine ⟨h3, ⟨fun e => by subst e; simp at h1, ?_⟩, h2⟩
    rcases h4 with h4 | h4
    · left; omega
    · right
      cases l with
      | nil => simp at h1
      | cons c r =>
        refine ⟨c, r, rfl, fun h => ?_⟩
        have : c = 48 := by rw [← b8_self c, h]; rfl
        subst this; simp at h4
  · rintro ⟨h1, ⟨h2, h3⟩, h4⟩
    refine ⟨⟨⟨?_, h4⟩, h1⟩, ?_⟩
    · have := List.length_pos_iff.2 h2; omega
    · rcases h3 with h3 | ⟨c, r, rfl, h3⟩
      · left; omega
      · right
        have : c ≠ 48 := fun e => h3 (by rw [e]; rfl)
        simp [this]
def rnF (l : List UInt8) : Int × Int := if numOk l = true then ((valF 0 l : Nat), 0) else (0, 3)
theorem ok_val {l : List UInt8} (h : numOk l = true) : valF 0 l ≤ 999999999 := by
  obtain ⟨h1, h2, h3⟩ := (numOk_iff l).1 h
  have h4 := valF_lt l h1
  have h5 : (10 : Nat) ^ l.length ≤ 10 ^ 9 := Nat.pow_le_pow_right (by omega) h3
  omega
theorem ok_atoi {l : List UInt8} (h : numOk l = true) : Lib.atoiAll l = .ok (valF 0 l : Nat) := by
  obtain ⟨h1, h2, h3⟩ := (numOk_iff l).1 h
  have hv := ok_val h
  cases l with
  | nil => exact absurd rfl h2.1
  | cons c r =>
    have hc := h1 c (by simp)
    have hp := parse_dgs (c :: r) 0 h1 hv
    simp only [Lib.atoiAll, if_neg (show ¬ (c.toNat = 43 ∨ c.toNat = 45) by omega), Lib.parseMag, if_neg (show ¬ (c :: r = []) by simp), hp]
    rw [if_neg (by omega), if_neg (by omega), if_neg (by omega)]
theorem dgL_val {u : Nat} (h : u ≤ 999999999) : dgL (u : Int) = Lib.decDigits u := by
  rw [dgL, if_pos (by omega), Lib.itoa, if_neg (by omega)]; simp
theorem nm_rn (l : List UInt8) : nmF l = rnF l := by
  unfold rnF
  by_cases h : numOk l = true
  · rw [if_pos h]
    obtain ⟨h1, h2, h3⟩ := (numOk_iff l).1 h
    unfold nmF
    rw [ok_atoi h]
    simp only
    rw [if_pos (by rw [dgL_val (ok_val h)]; exact dec_val l h1 h2)]
  · rw [if_neg h]
    unfold nmF
    cases ha : Lib.atoiAll l with
    | ok v =>
      simp only
      split
      · rename_i he
        exfalso; apply h
        unfold dgL at he
        split at he
        · rename_i hv
          obtain ⟨u, rfl⟩ : ∃ u : Nat, v = (u : Int) := ⟨v.toNat, by omega⟩
          rw [Lib.itoa, if_neg (by omega)] at he
          simp only [Int.toNat_natCast] at he
          rw [← he, numOk_iff]
          obtain ⟨g1, g2, -, -⟩ := dec_good u u (Nat.le_refl _)
          exact ⟨g1, g2, dec_len (by omega)⟩
        · rw [← he] at ha; simp [Lib.atoiAll] at ha
      · rfl
    | «syntax» => rfl
    | range => rfl
theorem nm_dig {n : Int} (h0 : 0 ≤ n) (h1 : n ≤ 999999999) : nmF (dgL n) = (n, 0) := by
  obtain ⟨u, rfl⟩ : ∃ u : Nat, n = (u : Int) := ⟨n.toNat, by omega⟩
  rw [dgL_val (by omega), nm_rn, rnF]
  obtain ⟨g1, g2, g3, -⟩ := dec_good u u (Nat.le_refl _)
  rw [if_pos ((numOk_iff _).2 ⟨g1, g2, dec_len (by omega)⟩), g3]
theorem nm_back {l : List UInt8} (h : (nmF l).2 = 0) : dgL (nmF l).1 = l ∧ 0 ≤ (nmF l).1 ∧ (nmF l).1 ≤ 999999999 := by
  rw [nm_rn] at h ⊢
  unfold rnF at h ⊢
  by_cases ho : numOk l = true
  · rw [if_pos ho]
    have hv := ok_val ho
    obtain ⟨h1, h2, -⟩ := (numOk_iff l).1 ho
    exact ⟨by simp only; rw [dgL_val hv]; exact dec_val l h1 h2, by simp only; omega, by simp only; omega⟩
  · rw [if_neg ho] at h; simp at h
end Go.Proofs.YtihkjopplmdkkaaDoor
