/- What strict tells: mathematics. -/
import Derived.Test.YtnfodgjihdoncaaLenBm
import Derived.Test.YtnfodgjihdoncaaStrUn
import Derived.Test.YtnfodgjihdoncaaApart
set_option linter.unusedVariables false
namespace Go.Proofs.Ytnfodgjihdoncaa
open Go.RowKit
/-- The message of bytes, and its own bytes; or what is wrong, and where. -/
def strR (k : Nat) (v : Int) (bs : List UInt8) : MV × List UInt8 × Int × Nat :=
  if (readR k v bs).2.2.1 = 0 then ((readR k v bs).1, encB (readR k v bs).1 (ofL (k : Int) v), 0, 0) else (ZM, [], (readR k v bs).2.2)
/-- The message of bytes that are its own; or what is wrong, and where. -/
def strD (k : Nat) (v : Int) (bs : List UInt8) : MV × Int × Nat :=
  if (readR k v bs).2.2.1 = 0 then (if encB (readR k v bs).1 (ofL (k : Int) v) = bs then ((readR k v bs).1, 0, 0) else (ZM, 3, unl bs (encB (readR k v bs).1 (ofL (k : Int) v)))) else (ZM, (readR k v bs).2.2)
theorem good_sm {k : Nat} {v : Int} {m : MV} (h : Good k v m) : MvSm m := by
  have ht := good_texts h
  refine ⟨?_, fun i => Nat.le_trans (ht.1 i) (by omega), fun s hs => Nat.le_trans (ht.2 s hs) (by omega)⟩
  cases hm : mkL (ofL (k : Int) v) with
  | false => rw [h.l hm]; simp
  | true =>
    unfold mkL at hm
    obtain ⟨r, hr, hp⟩ := List.any_eq_true.1 hm
    simp only [decide_eq_true_eq] at hp
    have := (fldE_list hp (h.f r hr)).1
    omega
/-- The two ways of reading strictly. -/
theorem str_ways (k : Nat) (v : Int) (bs : List UInt8) :
    (∃ E P, E ≠ 0 ∧ readR k v bs = (ZM, [], E, P) ∧ strR k v bs = (ZM, [], E, P) ∧ strD k v bs = (ZM, E, P)) ∨
    (∃ M O, readR k v bs = (M, O, 0, 0) ∧ Good k v M ∧ (ofL (k : Int) v).length ≠ 0 ∧ chkV M (ofL (k : Int) v) = (0, 0) ∧ strR k v bs = (M, encB M (ofL (k : Int) v), 0, 0) ∧ strD k v bs = if encB M (ofL (k : Int) v) = bs then (M, 0, 0) else (ZM, 3, unl bs (encB M (ofL (k : Int) v)))) := by
  rcases read_good k v bs with ⟨h1, h2, h3⟩ | ⟨h1, h2, h3⟩
  · left
    obtain ⟨R, hR⟩ : ∃ R, readR k v bs = R := ⟨_, rfl⟩
    unfold strR strD
    rw [hR] at h1 h2 h3 ⊢
    obtain ⟨M, O, E, P⟩ := R
    simp only at h1 h2 h3 ⊢
    subst h2; subst h3
    exact ⟨E, P, h1, rfl, by rw [if_neg h1], by rw [if_neg h1]⟩
  · right
    obtain ⟨R, hR⟩ : ∃ R, readR k v bs = R := ⟨_, rfl⟩
    unfold strR strD
    rw [hR] at h1 h2 ⊢
    obtain ⟨M, O, E, P⟩ := R
    simp only [Prod.mk.injEq] at h1 h2 ⊢
    obtain ⟨rfl, rfl⟩ := h1
    exact ⟨M, O, ⟨rfl, rfl, rfl, rfl⟩, h2, h3, good_chk h2 h3, by first | (rw [if_pos rfl]; done) | simp, by first | (rw [if_pos rfl]; done) | simp⟩
/-- A message that may be is read strictly as it was written. -/
theorem str_back {M : MV} (v : Int) (hn : ∀ i, M.num i ≤ 18446744073709551615) (hsm : MvSm M) (hc : (chkV M (ofL (M.k : Int) v)).1 = 0) : ∃ M2, strD M.k v (encB M (ofL (M.k : Int) v)) = (M2, 0, 0) ∧ sameB M2 M = true := by
  obtain ⟨M2, h1, h2⟩ := read_back v hn hsm hc
  refine ⟨M2, ?_, h2⟩
  unfold strD
  rw [h1, if_pos rfl, if_pos (enc_alike h2)]
end Go.Proofs.Ytnfodgjihdoncaa
