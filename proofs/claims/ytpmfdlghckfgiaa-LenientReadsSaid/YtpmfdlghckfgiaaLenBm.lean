/- What is read back, and that what is read may be: mathematics. -/
import Derived.Test.YtpmfdlghckfgiaaG6
import Derived.Test.YtpmfdlghckfgiaaLenRead
set_option linter.unusedVariables false
namespace Go.Proofs.Ytpmfdlghckfgiaa
open Go.RowKit
def fvR (r : RF × Nat) : FV := ⟨r.1.num, r.1.w, r.1.n, ⟨none, 0, r.1.xs⟩, (r.2 : Int)⟩
theorem fvR_all : ∀ rs : List (RF × Nat), fvAll (rs.map fvR) rs
  | [] => trivial
  | r :: rs => ⟨⟨rfl, rfl, rfl, rfl, rfl⟩, fvR_all rs⟩
theorem flds_ok {bs : List UInt8} (h : (flds bs bs.length 0).2.1 = 0) : ∀ f ∈ (flds bs bs.length 0).1, RdOk f := by
  intro f hf
  have hall := fvR_all (flds bs bs.length 0).1
  have h1 := (read_ok bs bs.length 0 _ (by omega) hall).2 (fvR f) (List.mem_map_of_mem hf)
  have h2 := (again_all bs bs.length 0 _ (by omega) h hall).1 (fvR f) (List.mem_map_of_mem hf)
  refine ⟨h1.2.2.1, fun h5 => ?_⟩
  have h3 := h2.2.1
  unfold bareN at h3
  have e5 : (fvR f).w = 5 := h5
  rw [if_neg (by rw [e5]; decide), if_pos e5] at h3
  have e6 : (fvR f).n = f.1.n := rfl
  rw [e6] at h3
  omega
/-- What is read may be; or nothing is. -/
theorem read_good (k : Nat) (v : Int) (bs : List UInt8) : ((readR k v bs).2.2.1 ≠ 0 ∧ (readR k v bs).1 = ZM ∧ (readR k v bs).2.1 = []) ∨ ((readR k v bs).2.2 = (0, 0) ∧ Good k v (readR k v bs).1 ∧ (ofL (k : Int) v).length ≠ 0) := by
  unfold readR
  by_cases hL : (ofL (k : Int) v).length = 0
  · rw [if_pos hL]; exact .inl ⟨by decide, rfl, rfl⟩
  · rw [if_neg hL]
    by_cases hl : 8192 < bs.length
    · rw [if_pos hl]; exact .inl ⟨by decide, rfl, rfl⟩
    · rw [if_neg hl]
      by_cases hF : (flds bs bs.length 0).2.1 = 0
      · rw [if_neg (by rw [hF]; simp)]
        by_cases hD : (decF (ofL (k : Int) v) { ZM with k := k } (flds bs bs.length 0).1).2.2.1 = 0
        · rw [if_neg (by rw [hD]; simp)]
          refine .inr ⟨?_, good_dec _ _ (good_zero k v) (flds_ok hF) hD, hL⟩
          have : ∀ (l : List (RF × Nat)) (M : MV), (decF (ofL (k : Int) v) M l).2.2.1 = 0 → (decF (ofL (k : Int) v) M l).2.2 = (0, 0) := by
            intro l
            induction l with
            | nil => intro M _; rfl
            | cons f l ih =>
              intro M h
              cases ho : ownR (ofL (k : Int) v) f.1.num f.1.w with
              | none => rw [decF_none ho] at h ⊢; exact ih M h
              | some r =>
                by_cases hs : setE M (r.typ : Int) (r.slot : Int) (rfS f) = 0
                · rw [decF_ok ho hs] at h ⊢; exact ih _ h
                · rw [decF_bad ho hs] at h; exact absurd h hs
          exact this _ _ hD
        · rw [if_pos hD]; exact .inl ⟨hD, rfl, rfl⟩
      · rw [if_pos hF]; exact .inl ⟨by simpa using hF, rfl, rfl⟩
end Go.Proofs.Ytpmfdlghckfgiaa
