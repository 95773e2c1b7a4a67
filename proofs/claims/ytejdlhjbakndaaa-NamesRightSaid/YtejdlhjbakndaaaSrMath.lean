/- Plain mathematics of layer 18 (scalar): no program is named here. -/
import Derived.Test.YtejdlhjbakndaaaM1
set_option linter.unusedVariables false
namespace Go.Proofs.Ytejdlhjbakndaaa
open Go.RowKit
/-- A byte that may stand in a plain text wherever it is. -/
def alN (n : Nat) : Bool := decide (97 ≤ n ∧ n ≤ 122 ∨ 65 ≤ n ∧ n ≤ 90 ∨ 48 ≤ n ∧ n ≤ 57 ∨ n = 46 ∨ n = 95 ∨ n = 47 ∨ n = 43 ∨ n = 64)
def pkN (j n : Nat) : Bool := alN n || (n == 45 && decide (0 < j))
/-- How many of the first bytes are plain, from the place j on. -/
def plF (j : Nat) : List UInt8 → Nat
  | [] => 0
  | c :: r => if pkN j c.toNat = true then plF (j + 1) r + 1 else 0
def plB (bs : List UInt8) : Bool := decide (bs ≠ [] ∧ plF 0 bs = bs.length)
theorem plF_le (j : Nat) (l : List UInt8) : plF j l ≤ l.length := by
  induction l generalizing j with
  | nil => simp [plF]
  | cons c r ih => rw [plF]; split <;> simp; exact ih _
theorem plF_more {j : Nat} {c : UInt8} {r : List UInt8} (h : pkN j c.toNat = true) : plF j (c :: r) = plF (j + 1) r + 1 := by rw [plF, if_pos h]
theorem plF_stop {j : Nat} {c : UInt8} {r : List UInt8} (h : pkN j c.toNat = false) : plF j (c :: r) = 0 := by rw [plF, if_neg (by simp [h])]
/-- A plain text with something behind that is not. -/
theorem plF_all {j : Nat} {l : List UInt8} {c : UInt8} {r : List UInt8} (h : plF j l = l.length) (hc : ∀ i, pkN i c.toNat = false) : plF j (l ++ c :: r) = l.length := by
  induction l generalizing j with
  | nil => exact plF_stop (hc j)
  | cons d q ih =>
    by_cases hd : pkN j d.toNat = true
    · rw [plF_more hd] at h
      rw [List.cons_append, plF_more hd, ih (by simpa using h)]; simp
    · rw [plF_stop (by simpa using hd)] at h; simp at h
/-- How many bytes there are up to the one that closes quotes, the opening one counted; 0: none does. -/
def clF (tk : Bool) (i : Nat) : List UInt8 → Nat
  | [] => 0
  | c :: r => if tk = true then clF false (i + 1) r else if c.toNat = 34 then i + 2 else clF (decide (c.toNat = 92)) (i + 1) r
theorem clF_le (tk : Bool) (i : Nat) (l : List UInt8) : clF tk i l ≤ i + l.length + 1 := by
  induction l generalizing tk i with
  | nil => simp [clF]
  | cons c r ih =>
    rw [clF]; simp only [List.length_cons]
    split
    · have := ih false (i + 1); omega
    · split
      · omega
      · have := ih (decide (c.toNat = 92)) (i + 1); omega
theorem clF_end {tk : Bool} {i : Nat} {l : List UInt8} (h : clF tk i l = i + l.length + 1) : ∃ a, l = a ++ [34] := by
  induction l generalizing tk i with
  | nil => simp [clF] at h
  | cons c r ih =>
    rw [clF] at h; simp only [List.length_cons] at h
    split at h
    · obtain ⟨a, rfl⟩ := ih (by rw [h]; omega); exact ⟨c :: a, rfl⟩
    · split at h
      · rename_i hc
        have : r = [] := List.eq_nil_of_length_eq_zero (by omega)
        subst this
        exact ⟨[], by rw [List.nil_append, ← b8_self c, hc]; rfl⟩
      · obtain ⟨a, rfl⟩ := ih (by rw [h]; omega); exact ⟨c :: a, rfl⟩
/-- How many of the first bytes belong together. -/
def cutN : List UInt8 → Nat
  | [] => 0
  | c :: r => if c.toNat = 34 then clF false 0 r else plF 0 (c :: r)
theorem cutN_le (bs : List UInt8) : cutN bs ≤ bs.length := by
  cases bs with
  | nil => simp [cutN]
  | cons c r => rw [cutN]; split; have := clF_le false 0 r; simp; omega; exact plF_le _ _
/-- A digit to the base 16. -/
def hxN (n : Nat) : Option Nat := if 48 ≤ n ∧ n ≤ 57 then some (n - 48) else if 97 ≤ n ∧ n ≤ 102 then some (n - 87) else none
theorem hxN_lt {n a : Nat} (h : hxN n = some a) : a < 16 ∧ n ≠ 34 ∧ n ≠ 92 := by
  unfold hxN at h; split at h
  · injection h with h; omega
  · split at h
    · injection h with h; omega
    · cases h
def hidN (n : Nat) : Bool := decide (n < 32 ∨ n = 127)
/-- The byte that two digits tell. -/
def tdF : List UInt8 → Nat × Nat
  | h :: l :: _ => match hxN h.toNat, hxN l.toNat with
    | some a, some b => if a < 8 then (16 * a + b, 4) else (0, 0)
    | _, _ => (0, 0)
  | _ => (0, 0)
/-- What stands behind a backslash, and how many bytes it has with it. -/
def sgE : List UInt8 → Nat × Nat
  | [] => (0, 0)
  | d :: q => if d.toNat = 34 ∨ d.toNat = 92 then (d.toNat, 2) else if d.toNat = 110 then (10, 2) else if d.toNat = 116 then (9, 2) else if d.toNat = 120 then tdF q else (0, 0)
/-- What a sign within quotes stands for, and how many bytes it has; 0: none. -/
def sgF : List UInt8 → Nat × Nat
  | [] => (0, 0)
  | c :: r => if hidN c.toNat = true ∨ c.toNat = 34 then (0, 0) else if c.toNat ≠ 92 then (c.toNat, 1) else sgE r
theorem sgF_cons (c : UInt8) (r : List UInt8) : sgF (c :: r) = if hidN c.toNat = true ∨ c.toNat = 34 then (0, 0) else if c.toNat ≠ 92 then (c.toNat, 1) else sgE r := rfl
theorem sgE_cons (d : UInt8) (q : List UInt8) : sgE (d :: q) = if d.toNat = 34 ∨ d.toNat = 92 then (d.toNat, 2) else if d.toNat = 110 then (10, 2) else if d.toNat = 116 then (9, 2) else if d.toNat = 120 then tdF q else (0, 0) := rfl
theorem tdF_cases (l : List UInt8) : tdF l = (0, 0) ∨ ∃ h m q a b, l = h :: m :: q ∧ hxN h.toNat = some a ∧ hxN m.toNat = some b ∧ a < 8 ∧ tdF l = (16 * a + b, 4) := by
  match l with
  | [] => exact .inl rfl
  | [_] => exact .inl rfl
  | h :: m :: q =>
    cases ha : hxN h.toNat with
    | none => left; simp [tdF, ha]
    | some a => cases hb : hxN m.toNat with
      | none => left; simp [tdF, ha, hb]
      | some b =>
        by_cases h8 : a < 8
        · right; exact ⟨h, m, q, a, b, rfl, ha, hb, h8, by simp [tdF, ha, hb, h8]⟩
        · left; simp [tdF, ha, hb, h8]
theorem tdF_le (l : List UInt8) : (tdF l).2 ≤ l.length + 2 ∧ (tdF l).1 < 256 := by
  rcases tdF_cases l with h | ⟨h, m, q, a, b, rfl, ha, hb, h8, he⟩
  · rw [h]; simp
  · rw [he]; have := hxN_lt hb; simp; omega
theorem sgE_le (r : List UInt8) : (sgE r).2 ≤ r.length + 1 ∧ (sgE r).1 < 256 := by
  cases r with
  | nil => simp [sgE]
  | cons d q =>
    have := d.toNat_lt; have h := tdF_le q
    rw [sgE_cons]; simp only [List.length_cons]
    split; simp; omega
    split; simp
    split; simp
    split; omega
    simp
theorem sgF_le (bs : List UInt8) : (sgF bs).2 ≤ bs.length ∧ (sgF bs).1 < 256 := by
  cases bs with
  | nil => simp [sgF]
  | cons c r =>
    have := c.toNat_lt; have h := sgE_le r
    rw [sgF_cons]; simp only [List.length_cons]
    split; simp
    split; simp; omega
    omega
/-- What bytes within quotes stand for. -/
def unF (bs : List UInt8) : Option (List UInt8) :=
  match bs with
  | [] => some []
  | c :: r => if h : (sgF (c :: r)).2 = 0 then none else (unF ((c :: r).drop (sgF (c :: r)).2)).map (b8 (sgF (c :: r)).1 :: ·)
termination_by bs.length
decreasing_by simp; omega
theorem unF_nil : unF [] = some [] := by rw [unF]
theorem unF_bad {c : UInt8} {r : List UInt8} (h : (sgF (c :: r)).2 = 0) : unF (c :: r) = none := by rw [unF, dif_pos h]
theorem unF_more {c : UInt8} {r : List UInt8} (h : (sgF (c :: r)).2 ≠ 0) : unF (c :: r) = (unF ((c :: r).drop (sgF (c :: r)).2)).map (b8 (sgF (c :: r)).1 :: ·) := by rw [unF, dif_neg h]
/-- The ways of a sign. -/
theorem sgF_ways (c : UInt8) (r : List UInt8) : (sgF (c :: r)).2 = 0 ∨ (c.toNat ≠ 34 ∧ c.toNat ≠ 92 ∧ sgF (c :: r) = (c.toNat, 1)) ∨
    (c.toNat = 92 ∧ ∃ d q, r = d :: q ∧ (sgF (c :: r)).2 = 2) ∨
    (c.toNat = 92 ∧ ∃ d h m q, r = d :: h :: m :: q ∧ d.toNat = 120 ∧ h.toNat ≠ 34 ∧ h.toNat ≠ 92 ∧ m.toNat ≠ 34 ∧ m.toNat ≠ 92 ∧ (sgF (c :: r)).2 = 4) := by
  by_cases h1 : hidN c.toNat = true ∨ c.toNat = 34
  · left; rw [sgF_cons, if_pos h1]
  · by_cases h2 : c.toNat = 92
    · cases r with
      | nil => left; simp [sgF_cons, sgE, h2, hidN]
      | cons d q =>
        by_cases h3 : d.toNat = 34 ∨ d.toNat = 92
        · right; right; left; exact ⟨h2, d, q, rfl, by simp [sgF_cons, sgE_cons, h2, hidN, h3]⟩
        by_cases h4 : d.toNat = 110
        · right; right; left; exact ⟨h2, d, q, rfl, by simp [sgF_cons, sgE_cons, h2, hidN, h4]⟩
        by_cases h5 : d.toNat = 116
        · right; right; left; exact ⟨h2, d, q, rfl, by simp [sgF_cons, sgE_cons, h2, hidN, h5]⟩
        by_cases h6 : d.toNat = 120
        · have hs : sgF (c :: d :: q) = tdF q := by simp [sgF_cons, sgE_cons, h2, hidN, h6]
          rcases tdF_cases q with h | ⟨h, m, q', a, b, rfl, ha, hb, h8, he⟩
          · left; rw [hs, h]
          · right; right; right
            have g1 := hxN_lt ha; have g2 := hxN_lt hb
            exact ⟨h2, d, h, m, q', rfl, h6, g1.2.1, g1.2.2, g2.2.1, g2.2.2, by rw [hs, he]⟩
        · left; simp [sgF_cons, sgE_cons, h2, hidN, h3, h4, h5, h6]
    · right; left; exact ⟨fun h => h1 (.inr h), h2, by rw [sgF_cons, if_neg h1, if_pos h2]⟩
/-- What may stand within quotes closes where it ends. -/
theorem cl_of_un (k : Nat) (inner out rest : List UInt8) (hk : inner.length ≤ k) (i : Nat) (h : unF inner = some out) : clF false i (inner ++ 34 :: rest) = i + inner.length + 2 := by
  induction k generalizing inner out i with
  | zero =>
    have : inner = [] := List.eq_nil_of_length_eq_zero (by omega)
    subst this; simp [clF]
  | succ k ih =>
    cases inner with
    | nil => simp [clF]
    | cons c r =>
      simp only [List.length_cons] at hk
      rcases sgF_ways c r with h0 | ⟨h1, h2, h3⟩ | ⟨h1, d, q, rfl, h3⟩ | ⟨h1, d, a, m, q, rfl, h2, g1, g2, g3, g4, h3⟩
      · rw [unF_bad h0] at h; cases h
      · rw [unF_more (by rw [h3]; simp), h3] at h
        obtain ⟨o, ho, rfl⟩ := Option.map_eq_some_iff.1 h
        have := ih r o (by omega) (i + 1) (by simpa using ho)
        rw [List.cons_append, clF, if_neg (by simp), if_neg h1, show decide (c.toNat = 92) = false from by simp [h2], this]
        simp; omega
      · rw [unF_more (by rw [h3]; simp), h3] at h
        obtain ⟨o, ho, rfl⟩ := Option.map_eq_some_iff.1 h
        simp only [List.length_cons] at hk
        have := ih q o (by omega) (i + 1 + 1) (by simpa using ho)
        rw [List.cons_append, clF, if_neg (by simp), if_neg (by omega), show decide (c.toNat = 92) = true from by simp [h1], List.cons_append, clF, if_pos rfl, this]
        simp; omega
      · rw [unF_more (by rw [h3]; simp), h3] at h
        obtain ⟨o, ho, rfl⟩ := Option.map_eq_some_iff.1 h
        simp only [List.length_cons] at hk
        have := ih q o (by omega) (i + 1 + 1 + 1 + 1) (by simpa using ho)
        rw [List.cons_append, clF, if_neg (by simp), if_neg (by omega), show decide (c.toNat = 92) = true from by simp [h1], List.cons_append, clF, if_pos rfl]
        rw [List.cons_append, clF, if_neg (by simp), if_neg g1, show decide (a.toNat = 92) = false from by simp [g2], List.cons_append, clF, if_neg (by simp), if_neg g3, show decide (m.toNat = 92) = false from by simp [g4], this]
        simp; omega
/-- What stands for a byte within quotes. -/
def hxD (n : Nat) : UInt8 := if n < 10 then b8 (48 + n) else b8 (87 + n)
def qB (c : UInt8) : List UInt8 :=
  if c.toNat = 34 ∨ c.toNat = 92 then [92, c] else if c.toNat = 10 then [92, 110] else if c.toNat = 9 then [92, 116] else
  if hidN c.toNat = true then [92, 120, hxD (c.toNat / 16), hxD (c.toNat % 16)] else [c]
def quB (bs : List UInt8) : List UInt8 := 34 :: bs.flatMap qB ++ [34]
theorem qB_len (c : UInt8) : 1 ≤ (qB c).length ∧ (qB c).length ≤ 4 := by
  unfold qB
  split; simp
  split; simp
  split; simp
  split <;> simp
theorem hxD_hx {n : Nat} (h : n < 16) : hxN (hxD n).toNat = some n := by
  unfold hxD hxN
  split
  · rw [b8_toNat (by omega), if_pos (by omega)]; congr 1; omega
  · rw [b8_toNat (by omega), if_neg (by omega), if_pos (by omega)]; congr 1; omega
theorem qB_sg (c : UInt8) (r : List UInt8) : sgF (qB c ++ r) = (c.toNat, (qB c).length) := by
  have hc := c.toNat_lt
  unfold qB
  split
  · rename_i h
    rcases h with h | h <;> simp [sgF_cons, sgE_cons, hidN, h]
  · split
    · rename_i h; simp [sgF_cons, sgE_cons, hidN, h]
    · split
      · rename_i h; simp [sgF_cons, sgE_cons, hidN, h]
      · split
        · rename_i h
          have hh : c.toNat < 128 := by simp [hidN] at h; omega
          simp only [List.cons_append, List.nil_append, sgF_cons, sgE_cons]
          rw [if_neg (by decide), if_neg (by decide), if_neg (by decide), if_neg (by decide), if_neg (by decide), if_pos (by decide)]
          have h1 := hxD_hx (n := c.toNat / 16) (by omega)
          have h2 := hxD_hx (n := c.toNat % 16) (by omega)
          simp only [tdF, h1, h2]
          rw [if_pos (by omega)]
          simp only [List.length_cons, List.length_nil, Prod.mk.injEq, and_true]; omega
        · rename_i h1 h2 h3 h4
          simp only [List.cons_append, List.nil_append, sgF_cons]
          rw [if_neg (by simp only [not_or]; exact ⟨h4, fun h => h1 (.inl h)⟩), if_pos (fun h => h1 (.inr h))]
          simp
/-- What is put within quotes stands for itself. -/
theorem un_qu (bs : List UInt8) : unF (bs.flatMap qB) = some bs := by
  induction bs with
  | nil => simp [unF_nil]
  | cons c r ih =>
    rw [List.flatMap_cons]
    have hs := qB_sg c (r.flatMap qB)
    have hl := (qB_len c).1
    cases hq : qB c ++ r.flatMap qB with
    | nil => have := (List.append_eq_nil_iff.1 hq).1; rw [this] at hl; simp at hl
    | cons d q =>
      rw [hq] at hs
      have hne : (qB c).length ≠ 0 := by omega
      rw [unF_more (by rw [hs]; exact hne), hs, ← hq]
      simp only [List.drop_left, ih, Option.map_some, b8_self]
/-- What a text stands for: plain, or within quotes. -/
def rdL (bs : List UInt8) : Option (List UInt8) :=
  if plB bs = true then some bs else if clF false 0 (bs.drop 1) = bs.length ∧ bs.head? = some 34 then unF ((bs.drop 1).dropLast) else none
/-- Within quotes of its own. -/
def inQ (bs : List UInt8) : Prop := 2 ≤ bs.length ∧ bs.head? = some 34 ∧ bs.getLast? = some 34
theorem quB_len (bs : List UInt8) : (quB bs).length = (bs.flatMap qB).length + 2 := by simp [quB]
theorem pk_34 (i : Nat) : pkN i 34 = false := by simp [pkN, alN]
theorem pk_32 (i : Nat) : pkN i 32 = false := by simp [pkN, alN]
theorem plB_quote (r : List UInt8) : plB (34 :: r) = false := by
  have : plF 0 (34 :: r) = 0 := plF_stop (pk_34 0)
  simp [plB, this]
theorem rd_qu (bs : List UInt8) : rdL (quB bs) = some bs := by
  have h1 : plB (quB bs) = false := plB_quote _
  have h2 : clF false 0 ((quB bs).drop 1) = (quB bs).length := by
    have := cl_of_un _ (bs.flatMap qB) bs [] (Nat.le_refl _) 0 (un_qu bs)
    rw [quB_len]; simpa [quB] using this
  rw [rdL, if_neg (by simp [h1]), if_pos ⟨h2, rfl⟩]
  simp [quB, un_qu]
theorem rd_plain {bs : List UInt8} (h : plB bs = true) : rdL bs = some bs := by rw [rdL, if_pos h]
/-- What a text is put as. -/
def puL (bs : List UInt8) : List UInt8 := if plB bs = true then bs else quB bs
theorem rd_pu (bs : List UInt8) : rdL (puL bs) = some bs := by
  unfold puL; split
  · rename_i h; exact rd_plain h
  · exact rd_qu bs
theorem cut_pu (bs rest : List UInt8) : cutN (puL bs ++ 32 :: rest) = (puL bs).length := by
  unfold puL; split
  · rename_i h
    simp only [plB, decide_eq_true_eq] at h
    cases bs with
    | nil => simp at h
    | cons c r =>
      have hne : c.toNat ≠ 34 := by
        intro hc
        have : plF 0 (c :: r) = 0 := plF_stop (by rw [hc]; exact pk_34 0)
        have := h.2; simp at this; omega
      rw [List.cons_append, cutN, if_neg hne]
      exact plF_all h.2 pk_32
  · have := cl_of_un _ (bs.flatMap qB) bs (32 :: rest) (Nat.le_refl _) 0 (un_qu bs)
    rw [quB_len]
    simpa [quB, cutN] using this
end Go.Proofs.Ytejdlhjbakndaaa
