/- A text that was put, with a remark behind, is left as it was put: plain mathematics of layers 17 and 18. -/
import Derived.Test.YtihkjopplmdkkaaDoorLnQ
set_option linter.unusedVariables false
namespace Go.Proofs.YtihkjopplmdkkaaDoor
open Go.RowKit
theorem stE_blanks (n : Nat) (i : Nat) (m : List UInt8) : stE i 32 false false (List.replicate n 32 ++ m) = stE (i + n) 32 false false m := by
  induction n generalizing i with
  | zero => rfl
  | succ n ih =>
    rw [List.replicate_succ, List.cons_append, stE_step _ (by decide), if_neg (by rintro ⟨h, -⟩; exact absurd h (by decide))]
    show stE (i + 1) 32 false false _ = _
    rw [ih]; congr 1; omega
theorem stE_in (i a : Nat) (c : UInt8) (r : List UInt8) (h : c.toNat ≠ 34) : stE i a true false (c :: r) = stE (i + 1) c.toNat true (decide (c.toNat = 92)) r := by
  rw [stE]; simp [h]
theorem stE_esc (i a : Nat) (c : UInt8) (r : List UInt8) : stE i a true true (c :: r) = stE (i + 1) c.toNat true false r := by
  rw [stE]; simp
/-- Within quotes what was put for a byte changes nothing. -/
theorem hx_no (n : Nat) (h : n < 16) : (hxD n).toNat ≠ 34 ∧ (hxD n).toNat ≠ 92 := by
  have : ∀ k : Fin 16, (hxD k.1).toNat ≠ 34 ∧ (hxD k.1).toNat ≠ 92 := by decide +kernel
  exact this ⟨n, h⟩
theorem stE_qB (i a : Nat) (c : UInt8) (m : List UInt8) : ∃ b, stE i a true false (qB c ++ m) = stE (i + (qB c).length) b true false m := by
  unfold qB
  split
  · exact ⟨c.toNat, by rw [List.cons_append, List.cons_append, List.nil_append, stE_in _ _ _ _ (by decide), show decide ((92 : UInt8).toNat = 92) = true from rfl, stE_esc]; rfl⟩
  · rename_i h1
    split
    · exact ⟨110, by rw [List.cons_append, List.cons_append, List.nil_append, stE_in _ _ _ _ (by decide), show decide ((92 : UInt8).toNat = 92) = true from rfl, stE_esc]; rfl⟩
    · split
      · exact ⟨116, by rw [List.cons_append, List.cons_append, List.nil_append, stE_in _ _ _ _ (by decide), show decide ((92 : UInt8).toNat = 92) = true from rfl, stE_esc]; rfl⟩
      · split
        · have hc := c.toNat_lt
          obtain ⟨a1, a2⟩ := hx_no (c.toNat / 16) (by omega)
          obtain ⟨b1, b2⟩ := hx_no (c.toNat % 16) (by omega)
          exact ⟨(hxD (c.toNat % 16)).toNat, by
            simp only [List.cons_append, List.nil_append]
            rw [stE_in _ _ _ _ (by decide), show decide ((92 : UInt8).toNat = 92) = true from rfl, stE_esc, stE_in _ _ _ _ a1, decide_eq_false a2, stE_in _ _ _ _ b1, decide_eq_false b2]; rfl⟩
        · exact ⟨c.toNat, by rw [List.cons_append, List.nil_append, stE_in _ _ _ _ (fun h => h1 (.inl h)), decide_eq_false (fun h => h1 (.inr h))]; rfl⟩
theorem stE_body (l m : List UInt8) (i a : Nat) : ∃ b, stE i a true false (l.flatMap qB ++ m) = stE (i + (l.flatMap qB).length) b true false m := by
  induction l generalizing i a with
  | nil => exact ⟨a, rfl⟩
  | cons c r ih =>
    obtain ⟨b1, h1⟩ := stE_qB i a c (r.flatMap qB ++ m)
    obtain ⟨b2, h2⟩ := ih (i + (qB c).length) b1
    refine ⟨b2, ?_⟩
    rw [List.flatMap_cons, List.append_assoc, h1, h2, List.length_append]; congr 1; omega
theorem stE_mark (i a : Nat) (m : List UInt8) : stE i a false false (32 :: 35 :: m) = some (i + 1) := by
  rw [stE_step _ (by decide), if_neg (by rintro ⟨h, -⟩; exact absurd h (by decide)), stE_step _ (by decide), if_pos ⟨by decide, by decide⟩]
theorem stE_qu (l m : List UInt8) (i a : Nat) : stE i a false false (quB l ++ 32 :: 35 :: m) = some (i + (quB l).length + 1) := by
  unfold quB
  obtain ⟨b, h⟩ := stE_body l (34 :: 32 :: 35 :: m) (i + 1) 34
  have e : 34 :: l.flatMap qB ++ [34] ++ 32 :: 35 :: m = 34 :: (l.flatMap qB ++ 34 :: 32 :: 35 :: m) := by simp
  have s1 : ∀ r, stE i a false false (34 :: r) = stE (i + 1) 34 true false r := fun r => by rw [stE]; simp
  have s2 : ∀ j b r, stE j b true false (34 :: r) = stE (j + 1) 34 false false r := fun j b r => by rw [stE]; simp
  rw [e, s1, h, s2, stE_mark]
  simp; omega
theorem pk_no {j : Nat} {c : UInt8} (h : pkN j c.toNat = true) : c.toNat ≠ 34 ∧ c.toNat ≠ 35 ∧ c.toNat ≠ 32 := by
  unfold pkN alN at h
  simp at h
  omega
theorem pl_no {j : Nat} {l : List UInt8} (h : plF j l = l.length) : ∀ c ∈ l, c.toNat ≠ 34 ∧ c.toNat ≠ 35 ∧ c.toNat ≠ 32 := by
  induction l generalizing j with
  | nil => simp
  | cons c r ih =>
    cases hp : pkN j c.toNat with
    | false => rw [plF_stop hp] at h; simp at h
    | true =>
      rw [plF_more hp] at h
      intro d hd
      rcases List.mem_cons.1 hd with rfl | hd
      · exact pk_no hp
      · exact ih (by simpa using h) d hd
theorem stE_no35 {i a : Nat} {l : List UInt8} (h : ∀ c ∈ l, c.toNat ≠ 34 ∧ c.toNat ≠ 35 ∧ c.toNat ≠ 32) : stE i a false false l = none := by
  induction l generalizing i a with
  | nil => rfl
  | cons c r ih =>
    have hc := h c (List.mem_cons_self ..)
    rw [stE_step _ hc.1, if_neg (fun hh => hc.2.1 hh.1)]
    exact ih fun d hd => h d (List.mem_cons_of_mem _ hd)
theorem stE_pu (t m : List UInt8) (i a : Nat) : stE i a false false (puL t ++ 32 :: 35 :: m) = some (i + (puL t).length + 1) := by
  unfold puL
  split
  · rename_i h
    have h' : plF 0 t = t.length := by unfold plB at h; simp at h; exact h.2
    rw [stE_noq (fun c hc => (pl_no h' c hc).1), stE_no35 (pl_no h')]; rfl
  · exact stE_qu t m i a
/-- The first and the last byte of what was put are no blanks. -/
theorem pu_ends (t : List UInt8) : (∃ c r, puL t = c :: r ∧ c.toNat ≠ 32) ∧ ∃ r c, puL t = r ++ [c] ∧ c.toNat ≠ 32 := by
  unfold puL
  split
  · rename_i h
    unfold plB at h
    simp at h
    have hn := pl_no h.2
    cases ht : t with
    | nil => exact absurd ht h.1
    | cons c r =>
      refine ⟨⟨c, r, rfl, (hn c (by rw [ht]; simp)).2.2⟩, ?_⟩
      rw [← ht]
      refine ⟨t.dropLast, t.getLast h.1, (List.dropLast_concat_getLast h.1).symm, (hn _ (List.getLast_mem h.1)).2.2⟩
  · exact ⟨⟨34, t.flatMap qB ++ [34], rfl, by decide⟩, 34 :: t.flatMap qB, 34, rfl, by decide⟩
/-- What is left of a line that has a text that was put, and a remark. -/
theorem strip_put (n : Nat) (t m : List UInt8) : stripL (List.replicate n 32 ++ (puL t ++ 32 :: 35 :: m)) = List.replicate n 32 ++ puL t ∧ tlB (List.replicate n 32 ++ puL t) = puL t := by
  have h := stE_pu t m (0 + n) 32
  rw [← stE_blanks n 0] at h
  have hn : stN (List.replicate n 32 ++ (puL t ++ 32 :: 35 :: m)) = n + (puL t).length + 1 := by rw [stN, h]; simp
  obtain ⟨⟨c, r, hc, hc32⟩, r2, c2, hc2, hc232⟩ := pu_ends t
  constructor
  · unfold stripL
    rw [hn]
    have e : (List.replicate n 32 ++ (puL t ++ 32 :: 35 :: m)).take (n + (puL t).length + 1) = (List.replicate n 32 ++ puL t) ++ [32] := by
      have e1 : List.replicate n 32 ++ (puL t ++ 32 :: 35 :: m) = ((List.replicate n (32 : UInt8) ++ puL t) ++ [32]) ++ 35 :: m := by simp
      have e2 : ((List.replicate n (32 : UInt8) ++ puL t) ++ [32]).length = n + (puL t).length + 1 := by simp; omega
      rw [e1, ← e2, List.take_left]
    rw [e, trB_snoc, if_pos (by decide), hc2, ← List.append_assoc, trB_snoc, if_neg hc232]
  · induction n with
    | zero => rw [List.replicate_zero, List.nil_append, hc, tlB, if_neg hc32]
    | succ n ih => 
      rw [List.replicate_succ, List.cons_append, tlB, if_pos (by decide)]
      clear h hn ih
      induction n with
      | zero => rw [List.replicate_zero, List.nil_append, hc, tlB, if_neg hc32]
      | succ n ih2 => rw [List.replicate_succ, List.cons_append, tlB, if_pos (by decide)]; exact ih2
end Go.Proofs.YtihkjopplmdkkaaDoor
