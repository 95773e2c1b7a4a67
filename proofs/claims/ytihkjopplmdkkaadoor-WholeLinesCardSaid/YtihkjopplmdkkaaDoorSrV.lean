/- The document's Read (layer 18): its loop over what stands within quotes: mathematics. -/
import Derived.Test.YtihkjopplmdkkaaDoorSrE
import Derived.Test.YtihkjopplmdkkaaDoorSrS
set_option linter.unusedVariables false
namespace Go.Proofs.YtihkjopplmdkkaaDoor
open Go.RowKit
theorem scan_ascii (bs : List UInt8) (a : Nat) (h : ∀ c ∈ bs, c.toNat < 128) : (scan bs a).2 = none := by
  induction bs generalizing a with
  | nil => rw [scan_nil]
  | cons c r ih =>
    have ho : oneL (c :: r) = (1, c.toNat) := by simp only [oneL]; rw [if_pos (h c (by simp))]
    rw [scan_more (by rw [ho]; simp), ho]
    exact ih _ fun d hd => h d (by simp [hd])
theorem alN_lt {n : Nat} (h : alN n = true) : n < 128 := by simp [alN] at h; omega
theorem pkN_lt {j n : Nat} (h : pkN j n = true) : n < 128 := by
  simp only [pkN, Bool.or_eq_true, Bool.and_eq_true, beq_iff_eq] at h
  rcases h with h | ⟨h, _⟩
  · exact alN_lt h
  · omega
theorem plF_ascii {j : Nat} {l : List UInt8} (h : plF j l = l.length) : ∀ c ∈ l, c.toNat < 128 := by
  induction l generalizing j with
  | nil => simp
  | cons c r ih =>
    by_cases hp : pkN j c.toNat = true
    · rw [plF_more hp] at h
      intro d hd
      rcases List.mem_cons.1 hd with rfl | hd
      · exact pkN_lt hp
      · exact ih (by simpa using h) d hd
    · rw [plF_stop (by simpa using hp)] at h; simp at h
theorem plB_scan {bs : List UInt8} (h : plB bs = true) : (scan bs 0).2 = none := by
  simp only [plB, decide_eq_true_eq] at h
  exact scan_ascii bs 0 (plF_ascii h.2)
theorem un_step {a out : List UInt8} {p : Nat} {c : UInt8} {q : List UInt8} {y z : Nat} (hu : unF a = (unF (a.drop p)).map (out ++ ·)) (hd : a.drop p = c :: q) (hs : sgF (c :: q) = (y, z)) (hz : z ≠ 0) : unF a = (unF (a.drop (p + z))).map ((out ++ [b8 y]) ++ ·) := by
  rw [hu, hd, unF_more (by rw [hs]; exact hz), hs, ← hd, List.drop_drop, Option.map_map]
  congr 1; funext x; simp
theorem un_stop {a out : List UInt8} {p : Nat} {c : UInt8} {q : List UInt8} (hu : unF a = (unF (a.drop p)).map (out ++ ·)) (hd : a.drop p = c :: q) (hs : (sgF (c :: q)).2 = 0) : unF a = none := by
  rw [hu, hd, unF_bad hs]; rfl
theorem drop_34 {a : List UInt8} {p : Nat} (h : p ≤ a.length) : (a ++ [34]).drop p = a.drop p ++ [34] := by rw [List.drop_append_of_le_length h]
/-- A quote that closes at the end closes nowhere ahead. -/
theorem cl_ne34 {a : List UInt8} {p : Nat} {c : UInt8} {q : List UInt8} (hc : clF false p (a.drop p ++ [34]) = a.length + 2) (hd : a.drop p = c :: q) : c.toNat ≠ 34 := by
  intro h
  have := congrArg List.length hd
  rw [List.length_drop] at this
  simp only [List.length_cons] at this
  rw [hd, List.cons_append, clF_34 h] at hc
  omega
theorem cl_one {a : List UInt8} {p : Nat} {c : UInt8} {q : List UInt8} (hc : clF false p (a.drop p ++ [34]) = a.length + 2) (hd : a.drop p = c :: q) (h : c.toNat ≠ 92) : clF false (p + 1) (a.drop (p + 1) ++ [34]) = a.length + 2 := by
  have h34 := cl_ne34 hc hd
  rw [hd, List.cons_append, clF_no h34, show decide (c.toNat = 92) = false from by simp [h]] at hc
  rw [drop_next hd]; exact hc
theorem cl_two {a : List UInt8} {p : Nat} {c : UInt8} {q : List UInt8} (hc : clF false p (a.drop p ++ [34]) = a.length + 2) (hd : a.drop p = c :: q) (h : c.toNat = 92) : ∃ d q', q = d :: q' ∧ clF false (p + 2) (a.drop (p + 2) ++ [34]) = a.length + 2 := by
  have h34 := cl_ne34 hc hd
  rw [hd, List.cons_append, clF_no h34, show decide (c.toNat = 92) = true from by simp [h]] at hc
  have hn := drop_next hd
  cases q with
  | nil => rw [List.nil_append, clF_tk, clF_nil] at hc; omega
  | cons d q' =>
    rw [List.cons_append, clF_tk] at hc
    exact ⟨d, q', rfl, by rw [show p + 2 = p + 1 + 1 from rfl, drop_next hn]; exact hc⟩
theorem cl_four {a : List UInt8} {p : Nat} {h m : UInt8} {q : List UInt8} (hc : clF false p (a.drop p ++ [34]) = a.length + 2) (hd : a.drop p = h :: m :: q) (h1 : h.toNat ≠ 92) (h2 : m.toNat ≠ 92) : clF false (p + 2) (a.drop (p + 2) ++ [34]) = a.length + 2 :=
  cl_one (cl_one hc hd h1) (drop_next hd) h2
/-- Which texts have quotes of their own. -/
theorem unQ_none1 {bs : List UInt8} (h : cutN bs ≠ bs.length) : unQ bs = none ∨ bs.head? ≠ some 34 := by
  cases bs with
  | nil => left; simp [unQ]
  | cons c r =>
    by_cases hc : c.toNat = 34
    · left
      rw [cutN, if_pos hc] at h
      unfold unQ
      split
      · rename_i hq
        cases hu : unF (((c :: r).drop 1).dropLast) with
        | none => rfl
        | some o =>
          exfalso; apply h
          obtain ⟨h1, h2, h3⟩ := hq
          have hr : r ≠ [] := by intro e; subst e; simp at h1
          have hl : r = r.dropLast ++ [34] := by
            have h4 : r.getLast? = some 34 := by
              cases r with
              | nil => exact absurd rfl hr
              | cons d q => simpa using h3
            have := List.dropLast_concat_getLast hr
            rw [List.getLast?_eq_some_getLast hr] at h4
            injection h4 with h4
            rw [h4] at this; exact this.symm
          have := cl_of_un _ r.dropLast o [] (Nat.le_refl _) 0 hu
          rw [← hl] at this
          rw [this]
          have := congrArg List.length hl
          simp at this ⊢; omega
      · rfl
    · right; simp; intro h'; exact hc (by rw [h']; rfl)
theorem unQ_none2 {bs : List UInt8} (h : bs.head? ≠ some 34) : unQ bs = none := by
  unfold unQ; rw [if_neg]; rintro ⟨-, h2, -⟩; exact h h2
theorem unQ_cut {c : UInt8} {r : List UInt8} (hc : c.toNat = 34) (h : clF false 0 r = (c :: r).length) : ∃ a, r = a ++ [34] ∧ unQ (c :: r) = unF a := by
  obtain ⟨a, rfl⟩ := clF_end (tk := false) (i := 0) (l := r) (by rw [h]; simp)
  refine ⟨a, rfl, ?_⟩
  have h34 : c = 34 := by rw [← b8_self c, hc]; rfl
  have e2 : (34 :: (a ++ [34]) : List UInt8).getLast? = some 34 := by
    rw [show (34 :: (a ++ [34]) : List UInt8) = (34 :: a) ++ [34] from rfl, List.getLast?_append]; rfl
  unfold unQ
  rw [h34, if_pos ⟨by simp, rfl, e2⟩]
  simp
end Go.Proofs.YtihkjopplmdkkaaDoor
