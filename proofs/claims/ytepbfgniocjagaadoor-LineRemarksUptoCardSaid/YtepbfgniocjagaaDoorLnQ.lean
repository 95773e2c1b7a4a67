/- A remark and a line of blanks behind a line change nothing but numbers: plain mathematics of layer 17. -/
import Derived.Test.YtepbfgniocjagaaDoorLnH
set_option linter.unusedVariables false
namespace Go.Proofs.YtepbfgniocjagaaDoor
open Go.RowKit
/-- Lines, a remark and blanks behind one of them. -/
def insR (rem : List UInt8) : Nat → List (List UInt8) → List (List UInt8)
  | _, [] => []
  | 0, l :: r => (l ++ 32 :: 35 :: rem) :: [32, 32, 32] :: r
  | k + 1, l :: r => l :: insR rem k r
/-- What lines have, numbered from a number on. -/
def rwL (n : Nat) : List (List UInt8) → List (Nat × Nat × List UInt8)
  | [] => []
  | l :: r => lnOne (n + 1) l ++ rwL (n + 1) r
theorem rwL_snoc (n : Nat) (Y : List (List UInt8)) (l : List UInt8) : rwL n (Y ++ [l]) = rwL n Y ++ lnOne (n + Y.length + 1) l := by
  induction Y generalizing n with
  | nil => simp [rwL]
  | cons y r ih => rw [List.cons_append, rwL, rwL, ih, List.append_assoc, List.length_cons, show n + 1 + r.length + 1 = n + (r.length + 1) + 1 by omega]
theorem acR_rw (bs : List UInt8) (j : Nat) (hj : j ≤ (lnsL bs).length) : acR bs j = rwL 0 ((lnsL bs).take j) := by
  induction j with
  | zero => simp [acR, rwL]
  | succ j ih =>
    have hat : atLn bs j = (lnsL bs)[j] := by unfold atLn; rw [List.getD_eq_getElem?_getD, List.getElem?_eq_getElem (by omega)]; rfl
    rw [acR, ih (by omega), List.take_succ_eq_append_getElem (by omega), rwL_snoc, hat, List.length_take, Nat.min_eq_left (by omega), Nat.zero_add]
theorem acR_all (bs : List UInt8) : acR bs (lnsL bs).length = rwL 0 (lnsL bs) := by rw [acR_rw bs _ (Nat.le_refl _), List.take_of_length_le (Nat.le_refl _)]
/-- Alike, but for numbers. -/
def nrL : List (Nat × Nat × List UInt8) → List (Nat × Nat × List UInt8) → Prop
  | [], [] => True
  | a :: r, b :: s => b.2 = a.2 ∧ a.1 ≤ b.1 ∧ b.1 ≤ a.1 + 1 ∧ nrL r s
  | _, _ => False
theorem nrL_refl (X : List (Nat × Nat × List UInt8)) : nrL X X := by
  induction X with
  | nil => trivial
  | cons a r ih => exact ⟨rfl, Nat.le_refl _, by omega, ih⟩
theorem nrL_app {X Y X' Y' : List (Nat × Nat × List UInt8)} (h : nrL X X') (k : nrL Y Y') : nrL (X ++ Y) (X' ++ Y') := by
  induction X generalizing X' with
  | nil => cases X' with
    | nil => exact k
    | cons => exact h.elim
  | cons a r ih => cases X' with
    | nil => exact h.elim
    | cons b s => exact ⟨h.1, h.2.1, h.2.2.1, ih h.2.2.2⟩
theorem nrL_len {X X' : List (Nat × Nat × List UInt8)} (h : nrL X X') : X'.length = X.length := by
  induction X generalizing X' with
  | nil => cases X' with
    | nil => rfl
    | cons => exact h.elim
  | cons a r ih => cases X' with
    | nil => exact h.elim
    | cons b s => simp [ih h.2.2.2]
theorem nrL_at {X X' : List (Nat × Nat × List UInt8)} (h : nrL X X') (k : Nat) (hk : k < X.length) (hk' : k < X'.length) : X'[k].2 = X[k].2 ∧ X[k].1 ≤ X'[k].1 ∧ X'[k].1 ≤ X[k].1 + 1 := by
  induction X generalizing X' k with
  | nil => simp at hk
  | cons a r ih => cases X' with
    | nil => exact h.elim
    | cons b s =>
      cases k with
      | zero => exact ⟨h.1, h.2.1, h.2.2.1⟩
      | succ k => exact ih h.2.2.2 k (by simpa using hk) (by simpa using hk')
theorem lnOne_nr (n : Nat) (l l' : List UInt8) (h : stripL l' = stripL l) : nrL (lnOne n l) (lnOne n l') ∧ nrL (lnOne n l) (lnOne (n + 1) l') := by
  unfold lnOne
  rw [h]
  split
  · exact ⟨trivial, trivial⟩
  · exact ⟨nrL_refl _, ⟨rfl, by omega, by omega, trivial⟩⟩
theorem rwL_shift (n : Nat) (Y : List (List UInt8)) : nrL (rwL n Y) (rwL (n + 1) Y) := by
  induction Y generalizing n with
  | nil => trivial
  | cons l r ih => exact nrL_app (lnOne_nr (n + 1) l l rfl).2 (ih (n + 1))
theorem stE_step {i a : Nat} {c : UInt8} (r : List UInt8) (hc : c.toNat ≠ 34) : stE i a false false (c :: r) = if c.toNat = 35 ∧ a = 32 then some i else stE (i + 1) c.toNat false false r := by
  rw [stE]; simp [hc]
/-- A remark behind a line without quotes. -/
theorem stE_noq {i a : Nat} {l m : List UInt8} (hq : ∀ c ∈ l, c.toNat ≠ 34) : stE i a false false (l ++ 32 :: 35 :: m) = some ((stE i a false false l).getD (i + l.length + 1)) := by
  induction l generalizing i a with
  | nil =>
    have e1 : stE i a false false (32 :: 35 :: m) = some (i + 1) := by
      rw [stE_step _ (by decide), if_neg (by rintro ⟨h, -⟩; exact absurd h (by decide)), stE_step _ (by decide), if_pos ⟨by decide, by decide⟩]
    rw [List.nil_append, e1]; rfl
  | cons c r ih =>
    have hc := hq c (List.mem_cons_self ..)
    have ih' := fun a => ih (i := i + 1) (a := a) fun d hd => hq d (List.mem_cons_of_mem _ hd)
    rw [List.cons_append, stE_step _ hc, stE_step r hc]
    split
    · rfl
    · rw [ih']; rw [List.length_cons, show i + 1 + r.length + 1 = i + (r.length + 1) + 1 by omega]
theorem strip_rem {l m : List UInt8} (hq : ∀ c ∈ l, c.toNat ≠ 34) : stripL (l ++ 32 :: 35 :: m) = stripL l := by
  have h := stE_noq (i := 0) (a := 32) (m := m) hq
  rw [Nat.zero_add] at h
  have hn : stN (l ++ 32 :: 35 :: m) = (stE 0 32 false false l).getD (l.length + 1) := by rw [stN, h]; rfl
  unfold stripL
  rw [hn]
  unfold stN
  cases hs : stE 0 32 false false l with
  | some k =>
    have := stE_lt hs
    simp only [Option.getD_some]
    rw [List.take_append_of_le_length (by omega)]
  | none =>
    simp only [Option.getD_none]
    rw [List.take_of_length_le (Nat.le_refl l.length), List.take_append, List.take_of_length_le (by omega), show l.length + 1 - l.length = 1 by omega]
    show trB (l ++ [32]) = trB l
    rw [trB_snoc, if_pos (by decide)]
theorem ins_rw (rem : List UInt8) (k n : Nat) (Y : List (List UInt8)) (hk : k < Y.length) (hq : ∀ c ∈ Y[k], c.toNat ≠ 34) : nrL (rwL n Y) (rwL n (insR rem k Y)) := by
  induction k generalizing n Y with
  | zero =>
    cases Y with
    | nil => simp at hk
    | cons l r =>
      rw [insR, rwL, rwL, rwL]
      have hb : lnOne (n + 1 + 1) [32, 32, 32] = [] := lnOne_none (by decide +kernel)
      rw [hb, List.nil_append]
      exact nrL_app (lnOne_nr _ l _ (strip_rem hq)).1 (rwL_shift _ _)
  | succ k ih =>
    cases Y with
    | nil => simp at hk
    | cons l r =>
      rw [insR, rwL, rwL]
      exact nrL_app (nrL_refl _) (ih (n + 1) r (by simpa using hk) hq)
theorem ins_mem {rem : List UInt8} {k : Nat} {Y : List (List UInt8)} (hk : k < Y.length) (p : List UInt8 → Prop) : (∀ l ∈ insR rem k Y, p l) ↔ (∀ l ∈ Y.take k, p l) ∧ p (Y[k] ++ 32 :: 35 :: rem) ∧ p [32, 32, 32] ∧ ∀ l ∈ Y.drop (k + 1), p l := by
  induction k generalizing Y with
  | zero =>
    cases Y with
    | nil => simp at hk
    | cons l r => simp [insR]
  | succ k ih =>
    cases Y with
    | nil => simp at hk
    | cons l r =>
      rw [insR]
      have := ih (Y := r) (by simpa using hk)
      simp only [List.forall_mem_cons, this, List.take_succ_cons, List.getElem_cons_succ, List.drop_succ_cons, and_assoc]
theorem lns_mem {k : Nat} {Y : List (List UInt8)} (hk : k < Y.length) (p : List UInt8 → Prop) : (∀ l ∈ Y, p l) ↔ (∀ l ∈ Y.take k, p l) ∧ p Y[k] ∧ ∀ l ∈ Y.drop (k + 1), p l := by
  conv => lhs; rw [← List.take_append_drop k Y, List.drop_eq_getElem_cons hk]
  simp only [List.forall_mem_append, List.forall_mem_cons]
theorem lines_back (n : Nat) (bs : List UInt8) (hn : bs.length ≤ n) (h : ∀ l ∈ lnsL bs, VT l) : VT bs := by
  induction n generalizing bs with
  | zero =>
    obtain rfl : bs = [] := List.eq_nil_of_length_eq_zero (by omega)
    exact VT_nil
  | succ n ih =>
    cases bs with
    | nil => exact VT_nil
    | cons c r =>
      have hlt := lnB_lt c r
      rw [spl_cons] at h
      have h1 := h _ (List.mem_cons_self ..)
      have h2 := ih (lnB (c :: r)) (by simp at hn; omega) fun l hl => h l (List.mem_cons_of_mem _ hl)
      rcases ln_ways (c :: r) with ⟨g1, -, -⟩ | ⟨g1, -⟩
      · rw [g1] at h1; exact h1
      · rw [g1]; exact VT_app h1 (VT_app (VT_one (c := 10) (by decide)) h2)
theorem no10 (n : Nat) (bs : List UInt8) (hn : bs.length ≤ n) : ∀ l ∈ lnsL bs, ∀ c ∈ l, c.toNat ≠ 10 := by
  induction n generalizing bs with
  | zero =>
    obtain rfl : bs = [] := List.eq_nil_of_length_eq_zero (by omega)
    rw [spl_nil]; simp
  | succ n ih =>
    cases bs with
    | nil => rw [spl_nil]; simp
    | cons c r =>
      have hlt := lnB_lt c r
      rw [spl_cons]
      intro l hl
      rcases List.mem_cons.1 hl with rfl | hl
      · rcases ln_ways (c :: r) with ⟨g1, -, g3⟩ | ⟨-, g2⟩
        · rw [g1]; exact g3
        · exact g2
      · exact ih _ (by simp at hn; omega) l hl
/-- What is told of a text, by its lines. -/
theorem allL_lines {bs : List UInt8} : (VT bs ∧ (∀ l ∈ lnsL bs, dirtyL l = false) ∧ allL bs = (rwL 0 (lnsL bs), 0, 0)) ∨ (VT bs ∧ ¬ (∀ l ∈ lnsL bs, dirtyL l = false) ∧ ∃ a, allL bs = ([], 3, a)) ∨ (¬ VT bs ∧ ∃ a, allL bs = ([], 9, a)) := by
  cases hs : (scan bs 0).2 with
  | some k => exact .inr (.inr ⟨fun h => (by unfold VT at h; rw [hs] at h; cases h), _, allL_utf hs⟩)
  | none =>
    cases hd : dtF (lnsL bs) with
    | some j =>
      refine .inr (.inl ⟨hs, ?_, _, by unfold allL; rw [hs, hd]⟩)
      intro hall
      have := dtF_no (X := lnsL bs) fun i hi => by
        rw [List.getD_eq_getElem?_getD, List.getElem?_eq_getElem hi]; exact hall _ (List.getElem_mem hi)
      rw [this] at hd; cases hd
    | none =>
      refine .inl ⟨hs, fun l hl => ?_, by unfold allL; rw [hs, hd, ← acR_all]⟩
      obtain ⟨i, hi, rfl⟩ := List.getElem_of_mem hl
      have := dtF_none hd i
      rw [List.getD_eq_getElem?_getD, List.getElem?_eq_getElem hi] at this; exact this
/-- Two texts of which the one has an error where the other has, and lines alike. -/
theorem all_like {bs Z : List UInt8} (hv : VT bs ↔ VT Z) (hd : (∀ l ∈ lnsL bs, dirtyL l = false) ↔ ∀ l ∈ lnsL Z, dirtyL l = false) (hr : nrL (rwL 0 (lnsL bs)) (rwL 0 (lnsL Z))) : (allL Z).2.1 = (allL bs).2.1 ∧ nrL (allL bs).1 (allL Z).1 := by
  rcases allL_lines (bs := bs) with ⟨a1, a2, a3⟩ | ⟨a1, a2, a, a3⟩ | ⟨a1, a, a3⟩
  · rcases allL_lines (bs := Z) with ⟨b1, b2, b3⟩ | ⟨b1, b2, b, b3⟩ | ⟨b1, b, b3⟩
    · rw [a3, b3]; exact ⟨rfl, hr⟩
    · exact absurd (hd.1 a2) b2
    · exact absurd (hv.1 a1) b1
  · rcases allL_lines (bs := Z) with ⟨b1, b2, b3⟩ | ⟨b1, b2, b, b3⟩ | ⟨b1, b, b3⟩
    · exact absurd (hd.2 b2) a2
    · rw [a3, b3]; exact ⟨rfl, trivial⟩
    · exact absurd (hv.1 a1) b1
  · rcases allL_lines (bs := Z) with ⟨b1, b2, b3⟩ | ⟨b1, b2, b, b3⟩ | ⟨b1, b, b3⟩
    · exact absurd (hv.2 b1) a1
    · exact absurd (hv.2 b1) a1
    · rw [a3, b3]; exact ⟨rfl, trivial⟩
theorem VT_lines {Y : List (List UInt8)} (h : ∀ l ∈ Y, ∀ c ∈ l, c.toNat ≠ 10) : VT (Y.flatMap fun l => l ++ [10]) ↔ ∀ l ∈ Y, VT l := by
  constructor
  · intro hv l hl
    have := lines_VT _ _ (Nat.le_refl _) hv l
    rw [lnsL_flat h] at this
    exact (this hl).1
  · exact VT_flat
/-- As it was, with each line's feed. -/
theorem all_feeds (bs : List UInt8) : (allL ((lnsL bs).flatMap fun l => l ++ [10])).2.1 = (allL bs).2.1 ∧ nrL (allL bs).1 (allL ((lnsL bs).flatMap fun l => l ++ [10])).1 := by
  have h10 := no10 bs.length bs (Nat.le_refl _)
  apply all_like
  · rw [VT_lines h10]
    exact ⟨fun h l hl => (lines_VT _ _ (Nat.le_refl _) h l hl).1, lines_back _ _ (Nat.le_refl _)⟩
  · rw [lnsL_flat h10]
  · rw [lnsL_flat h10]; exact nrL_refl _
/-- With a remark and blanks behind a line without quotes. -/
theorem all_remark {bs rem : List UInt8} {k : Nat} (hk : k < (lnsL bs).length) (hq : ∀ c ∈ (lnsL bs)[k], c.toNat ≠ 34) (hv : VT rem) (hd : dirtyL rem = false) (h10r : ∀ c ∈ rem, c.toNat ≠ 10) :
    (allL ((insR rem k (lnsL bs)).flatMap fun l => l ++ [10])).2.1 = (allL bs).2.1 ∧ nrL (allL bs).1 (allL ((insR rem k (lnsL bs)).flatMap fun l => l ++ [10])).1 := by
  have h10 := no10 bs.length bs (Nat.le_refl _)
  have hi10 : ∀ l ∈ insR rem k (lnsL bs), ∀ c ∈ l, c.toNat ≠ 10 := by
    rw [ins_mem hk]
    rw [lns_mem hk] at h10
    refine ⟨h10.1, ?_, by decide, h10.2.2⟩
    intro c hc
    rcases List.mem_append.1 hc with hc | hc
    · exact h10.2.1 c hc
    · rcases List.mem_cons.1 hc with rfl | hc
      · decide
      · rcases List.mem_cons.1 hc with rfl | hc
        · decide
        · exact h10r c hc
  apply all_like
  · rw [VT_lines hi10, ins_mem hk]
    constructor
    · intro h
      have hl : ∀ l ∈ lnsL bs, VT l := fun l hl => (lines_VT _ _ (Nat.le_refl _) h l hl).1
      rw [lns_mem hk] at hl
      exact ⟨hl.1, VT_app hl.2.1 (VT_app (VT_one (c := 32) (by decide)) (VT_app (VT_one (c := 35) (by decide)) hv)), VT_app (VT_one (c := 32) (by decide)) (VT_app (VT_one (c := 32) (by decide)) (VT_one (c := 32) (by decide))), hl.2.2⟩
    · rintro ⟨g1, g2, -, g4⟩
      apply lines_back _ _ (Nat.le_refl _)
      rw [lns_mem hk]
      exact ⟨g1, (VT_split _ (Nat.le_refl _) (by decide) g2).1, g4⟩
  · rw [lnsL_flat hi10, ins_mem hk, lns_mem hk]
    have e : dirtyL ((lnsL bs)[k] ++ 32 :: 35 :: rem) = dirtyL (lnsL bs)[k] := by
      unfold dirtyL at hd ⊢
      rw [List.any_append, List.any_cons, List.any_cons, hd]
      simp [hidN]
    rw [e]
    constructor
    · rintro ⟨g1, g2, g3⟩; exact ⟨g1, g2, by decide +kernel, g3⟩
    · rintro ⟨g1, g2, -, g3⟩; exact ⟨g1, g2, g3⟩
  · rw [lnsL_flat hi10]; exact ins_rw rem k 0 _ hk hq
/-- What is asked of a remark. -/
theorem rem_ok {rem : List UInt8} {X : List (Nat × Nat × List UInt8)} {a : Int} (h : allL (35 :: rem) = (X, 0, a)) (h10 : ∀ c ∈ rem, c.toNat ≠ 10) : VT rem ∧ dirtyL rem = false := by
  obtain ⟨h1, h2, -, -⟩ := allL_zero h
  refine ⟨VT_tail (by decide) h1, ?_⟩
  rcases ln_ways (35 :: rem) with ⟨g1, g2, -⟩ | ⟨g1, -⟩
  · have := h2 0
    unfold atLn at this
    rw [spl_cons, g1] at this
    exact dirty_sub this fun c hc => List.mem_cons_of_mem _ hc
  · exfalso
    have : (10 : UInt8) ∈ 35 :: rem := by rw [g1]; simp
    rcases List.mem_cons.1 this with h | h
    · cases h
    · exact h10 _ h rfl
end Go.Proofs.YtepbfgniocjagaaDoor
