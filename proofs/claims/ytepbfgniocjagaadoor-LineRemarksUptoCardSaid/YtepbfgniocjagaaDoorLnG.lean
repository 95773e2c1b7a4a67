/- Texts in pieces, and lines read again: plain mathematics of layer 17. -/
import Derived.Test.YtepbfgniocjagaaDoorLnF
set_option linter.unusedVariables false
namespace Go.Proofs.YtepbfgniocjagaaDoor
open Go.RowKit
/-- A text. -/
def VT (l : List UInt8) : Prop := (scan l 0).2 = none
theorem VT_off (l : List UInt8) (o : Nat) : (scan l o).2 = none ↔ VT l := by
  have := (scan_shift l.length l 0 o (Nat.le_refl _)).2
  rw [Nat.zero_add] at this
  unfold VT
  rw [this]
  cases (scan l 0).2 <;> simp
theorem VT_nil : VT [] := by unfold VT; rw [scan_nil]
theorem VT_app {a b : List UInt8} (ha : VT a) (hb : VT b) : VT (a ++ b) := by unfold VT; rw [scan_both ha, hb]; rfl
theorem conts_loc {k n m : Nat} {r b : List UInt8} {c : UInt8} (hc : c.toNat < 128) (h : conts k n (r ++ c :: b) = some m) : k ≤ r.length ∧ conts k n r = some m := by
  induction k generalizing n r with
  | zero => exact ⟨Nat.zero_le _, by simpa [conts] using h⟩
  | succ k ih =>
    cases r with
    | nil => rw [List.nil_append, conts, if_pos (.inl hc)] at h; cases h
    | cons d s =>
      rw [List.cons_append, conts] at h
      rw [conts]
      split at h
      · cases h
      · rename_i hd
        obtain ⟨h1, h2⟩ := ih h
        exact ⟨by simp; omega, by rw [if_neg hd, h2]⟩
theorem tl_loc {k n z : Nat} {r b : List UInt8} {c : UInt8} (hc : c.toNat < 128) (h : (tl k n z (r ++ c :: b)).1 ≠ 0) : tl k n z r = tl k n z (r ++ c :: b) ∧ (tl k n z r).1 ≤ r.length + 1 := by
  unfold tl at *
  split at h
  · exact absurd rfl h
  · rename_i h1
    cases hq : conts k n (r ++ c :: b) with
    | none => rw [hq] at h; exact absurd rfl h
    | some m =>
      rw [hq] at h
      obtain ⟨h2, h3⟩ := conts_loc hc hq
      rw [if_neg (by omega), h3, if_neg h1]
      refine ⟨rfl, ?_⟩
      simp only
      split <;> simp <;> omega
theorem oneL_loc {a b : List UInt8} {c : UInt8} (hc : c.toNat < 128) (ha : a ≠ []) (h : (oneL (a ++ c :: b)).1 ≠ 0) : oneL a = oneL (a ++ c :: b) ∧ (oneL a).1 ≤ a.length := by
  refine ⟨?_, oneL_le a⟩
  cases a with
  | nil => exact absurd rfl ha
  | cons d s =>
    rw [List.cons_append] at h ⊢
    rw [oneL] at h
    rw [oneL, oneL]
    split
    · rfl
    · rename_i g1
      rw [if_neg g1] at h
      split
      · rfl
      · rename_i g2
        rw [if_neg g2] at h
        split
        · rename_i g3; rw [if_pos g3] at h; exact (tl_loc hc h).1
        · rename_i g3
          rw [if_neg g3] at h
          split
          · rename_i g4; rw [if_pos g4] at h; exact (tl_loc hc h).1
          · rename_i g4
            rw [if_neg g4] at h
            split
            · rename_i g5; rw [if_pos g5] at h; exact (tl_loc hc h).1
            · rfl
theorem VT_split (n : Nat) {a b : List UInt8} {c : UInt8} (hn : a.length ≤ n) (hc : c.toNat < 128) (h : VT (a ++ c :: b)) : VT a ∧ VT (c :: b) := by
  induction n generalizing a with
  | zero =>
    obtain rfl : a = [] := List.eq_nil_of_length_eq_zero (by omega)
    exact ⟨VT_nil, h⟩
  | succ n ih =>
    cases ha : a with
    | nil => subst ha; exact ⟨VT_nil, h⟩
    | cons d s =>
      rw [← ha]
      have hne : a ≠ [] := by rw [ha]; simp
      obtain ⟨e, q, he⟩ : ∃ e q, a ++ c :: b = e :: q := ⟨d, s ++ c :: b, by rw [ha]; rfl⟩
      have h' := h
      unfold VT at h'
      by_cases h0 : (oneL (a ++ c :: b)).1 = 0
      · rw [he] at h' h0; rw [scan_bad h0] at h'; cases h'
      · obtain ⟨g1, g2⟩ := oneL_loc hc hne h0
        have hpos : (oneL a).1 ≠ 0 := by rw [g1]; exact h0
        rw [he] at h' h0
        rw [scan_more h0, ← he, ← g1] at h'
        simp only at h'
        rw [List.drop_append_of_le_length g2] at h'
        obtain ⟨i1, i2⟩ := ih (a := a.drop (oneL a).1) (by rw [List.length_drop]; omega) ((VT_off _ _).1 h')
        refine ⟨?_, i2⟩
        unfold VT
        rw [ha] at hpos ⊢
        rw [scan_more hpos]
        simp only
        rw [ha] at i1
        exact (VT_off _ _).2 i1
theorem VT_tail {b : List UInt8} {c : UInt8} (hc : c.toNat < 128) (h : VT (c :: b)) : VT b := by
  have h' := h
  unfold VT at h'
  have h1 : oneL (c :: b) = (1, c.toNat) := by rw [oneL, if_pos hc]
  have h0 : (oneL (c :: b)).1 ≠ 0 := by rw [h1]; simp
  rw [scan_more h0, h1] at h'
  simp only [List.drop_succ_cons, List.drop_zero] at h'
  exact (VT_off _ _).1 h'
theorem VT_one {c : UInt8} (hc : c.toNat < 128) : VT [c] := by
  unfold VT
  have h1 : oneL [c] = (1, c.toNat) := by rw [oneL, if_pos hc]
  have h0 : (oneL [c]).1 ≠ 0 := by rw [h1]; simp
  rw [scan_more h0, h1]
  simp [scan_nil]
/-- A text's lines are texts. -/
theorem ln_ways (l : List UInt8) : (lnA l = l ∧ lnB l = [] ∧ ∀ c ∈ l, c.toNat ≠ 10) ∨ (l = lnA l ++ 10 :: lnB l ∧ ∀ c ∈ lnA l, c.toNat ≠ 10) := by
  induction l with
  | nil => left; exact ⟨rfl, rfl, by simp⟩
  | cons c r ih =>
    rw [lnA, lnB]
    by_cases h : c.toNat = 10
    · right
      rw [if_pos h, if_pos h]
      have hc : c = 10 := by rw [← b8_self c, h]; rfl
      exact ⟨by rw [hc]; rfl, by simp⟩
    · rw [if_neg h, if_neg h]
      rcases ih with ⟨h1, h2, h3⟩ | ⟨h1, h2⟩
      · left
        refine ⟨by rw [h1], h2, ?_⟩
        intro d hd
        rcases List.mem_cons.1 hd with rfl | hd
        · exact h
        · exact h3 d hd
      · right
        refine ⟨by rw [List.cons_append, ← h1], ?_⟩
        intro d hd
        rcases List.mem_cons.1 hd with rfl | hd
        · exact h
        · exact h2 d hd
theorem lines_VT (n : Nat) (bs : List UInt8) (hn : bs.length ≤ n) (h : VT bs) : ∀ l ∈ lnsL bs, VT l ∧ ∀ c ∈ l, c.toNat ≠ 10 := by
  induction n generalizing bs with
  | zero =>
    obtain rfl : bs = [] := List.eq_nil_of_length_eq_zero (by omega)
    rw [spl_nil]; simp
  | succ n ih =>
    cases bs with
    | nil => rw [spl_nil]; simp
    | cons c r =>
      have hlt := lnB_lt c r
      rw [spl_cons]
      intro l hl
      rcases ln_ways (c :: r) with ⟨h1, h2, h3⟩ | ⟨h1, h2⟩
      · rw [h2, spl_nil, h1] at hl
        obtain rfl := List.mem_singleton.1 hl
        exact ⟨h, h3⟩
      · rw [h1] at h
        obtain ⟨g1, g2⟩ := VT_split _ (Nat.le_refl _) (by decide) h
        rcases List.mem_cons.1 hl with rfl | hl
        · exact ⟨g1, h2⟩
        · exact ih _ (by simp at hn; omega) (VT_tail (by decide) g2) l hl
theorem stE_at35 {i a : Nat} {q t : Bool} {l : List UInt8} {k : Nat} (h : stE i a q t l = some k) : l[k - i]? = some 35 := by
  induction l generalizing i a q t with
  | nil => simp [stE] at h
  | cons c r ih =>
    have hge : ∀ {a' : Nat} {q' t' : Bool}, stE (i + 1) a' q' t' r = some k → (c :: r)[k - i]? = some 35 := fun hh => by
      have h1 := stE_lt hh
      have h2 := ih hh
      rw [show k - i = (k - (i + 1)) + 1 by omega, List.getElem?_cons_succ]; exact h2
    rw [stE] at h
    split at h
    · exact hge h
    · split at h
      · exact hge h
      · split at h
        · exact hge h
        · split at h
          · rename_i h4
            injection h with h
            subst h
            have : c = 35 := by rw [← b8_self c, h4.1]; rfl
            simp [this]
          · exact hge h
/-- What is left of a line is a text. -/
theorem strip_VT {l : List UInt8} (h : VT l) : VT (stripL l) := by
  obtain ⟨hp, hle⟩ := strip_pre l
  have hsn := stN_le l
  by_cases hf : (stripL l).length = l.length
  · rw [hp, hf, List.take_of_length_le (Nat.le_refl _)]; exact h
  · have hlt : (stripL l).length < l.length := by omega
    have key : (l[(stripL l).length]'hlt).toNat < 128 → VT (stripL l) := fun hc => by
      have e : l = stripL l ++ l[(stripL l).length]'hlt :: l.drop ((stripL l).length + 1) := by
        conv => lhs; rw [← List.take_append_drop (stripL l).length l, ← hp, List.drop_eq_getElem_cons hlt]
      rw [e] at h
      exact (VT_split _ (Nat.le_refl _) hc h).1
    apply key
    by_cases hs : (stripL l).length = stN l
    · have h35 : l[stN l]? = some 35 := by
        unfold stN at hs ⊢
        cases hq : stE 0 32 false false l with
        | none => rw [hq] at hs; simp at hs; omega
        | some k => have := stE_at35 hq; simpa using this
      have : l[(stripL l).length]'hlt = 35 := by
        have h2 : l[(stripL l).length]? = some 35 := by rw [hs]; exact h35
        rw [List.getElem?_eq_getElem hlt] at h2
        injection h2
      rw [this]; decide
    · obtain ⟨n, hn⟩ := trB_pre (l.take (stN l))
      have h2 : (l.take (stN l))[(stripL l).length]? = some 32 := by
        rw [hn]
        show (stripL l ++ _)[(stripL l).length]? = _
        rw [List.getElem?_append_right (Nat.le_refl _), Nat.sub_self]
        have hnn : 0 < n := by
          have := congrArg List.length hn
          rw [List.length_take, List.length_append, List.length_replicate] at this
          have : min (stN l) l.length = (stripL l).length + n := this
          omega
        cases n with
        | zero => omega
        | succ n => rfl
      rw [List.getElem?_take_of_lt (by omega), List.getElem?_eq_getElem hlt] at h2
      injection h2 with h2
      rw [h2]; decide
end Go.Proofs.YtepbfgniocjagaaDoor
