/- What is read back, and that what is read may be: mathematics. -/
import Derived.Test.YtealjpolomhdeaaG7
import Derived.Test.YtealjpolomhdeaaLenRead
import Derived.Test.YtealjpolomhdeaaG5
set_option linter.unusedVariables false
namespace Go.Proofs.Ytealjpolomhdeaa
open Go.RowKit
theorem nodup_ofL (k : Nat) (v : Int) : (ofL (k : Int) v).Nodup := by
  have h := ofL_rise k v
  exact h.imp (fun {a b} hab e => by subst e; omega)
def fvR (r : RF × Nat) : FV := ⟨r.1.num, r.1.w, r.1.n, ⟨none, 0, r.1.xs⟩, (r.2 : Int)⟩
theorem fvR_all : ∀ rs : List (RF × Nat), fvAll (rs.map fvR) rs
  | [] => trivial
  | r :: rs => ⟨⟨rfl, rfl, rfl, rfl, rfl⟩, fvR_all rs⟩
theorem flds_ok {bs : List UInt8} (h : (flds bs bs.length 0).2.1 = 0) : ∀ f ∈ (flds bs bs.length 0).1, RdOk f := by
  intro f hf
  have hall := fvR_all (flds bs bs.length 0).1
  have h1 := (read_ok bs bs.length 0 _ (by omega) hall).2 (fvR f) (List.mem_map_of_mem hf)
  have h2 := (again_all bs bs.length 0 _ (by omega) h hall).1 (fvR f) (List.mem_map_of_mem hf)
  refine ⟨h1.2.2.1, fun h5 => ?_⟩
  have h3 := h2.2.1
  unfold bareN at h3
  have e5 : (fvR f).w = 5 := h5
  rw [if_neg (by rw [e5]; decide), if_pos e5] at h3
  have e6 : (fvR f).n = f.1.n := rfl
  rw [e6] at h3
  omega
/-- What is read may be; or nothing is. -/
theorem read_good (k : Nat) (v : Int) (bs : List UInt8) : ((readR k v bs).2.2.1 ≠ 0 ∧ (readR k v bs).1 = ZM ∧ (readR k v bs).2.1 = []) ∨ ((readR k v bs).2.2 = (0, 0) ∧ Good k v (readR k v bs).1 ∧ (ofL (k : Int) v).length ≠ 0) := by
  unfold readR
  by_cases hL : (ofL (k : Int) v).length = 0
  · rw [if_pos hL]; exact .inl ⟨by decide, rfl, rfl⟩
  · rw [if_neg hL]
    by_cases hl : 8192 < bs.length
    · rw [if_pos hl]; exact .inl ⟨by decide, rfl, rfl⟩
    · rw [if_neg hl]
      by_cases hF : (flds bs bs.length 0).2.1 = 0
      · rw [if_neg (by rw [hF]; simp)]
        by_cases hD : (decF (ofL (k : Int) v) { ZM with k := k } (flds bs bs.length 0).1).2.2.1 = 0
        · rw [if_neg (by rw [hD]; simp)]
          refine .inr ⟨?_, good_dec _ _ (good_zero k v) (flds_ok hF) hD, hL⟩
          have : ∀ (l : List (RF × Nat)) (M : MV), (decF (ofL (k : Int) v) M l).2.2.1 = 0 → (decF (ofL (k : Int) v) M l).2.2 = (0, 0) := by
            intro l
            induction l with
            | nil => intro M _; rfl
            | cons f l ih =>
              intro M h
              cases ho : ownR (ofL (k : Int) v) f.1.num f.1.w with
              | none => rw [decF_none ho] at h ⊢; exact ih M h
              | some r =>
                by_cases hs : setE M (r.typ : Int) (r.slot : Int) (rfS f) = 0
                · rw [decF_ok ho hs] at h ⊢; exact ih _ h
                · rw [decF_bad ho hs] at h; exact absurd h hs
          exact this _ _ hD
        · rw [if_pos hD]; exact .inl ⟨hD, rfl, rfl⟩
      · rw [if_pos hF]; exact .inl ⟨by simpa using hF, rfl, rfl⟩
theorem chk_small {s : ByteArray} {most : Int} (h : chk s most = 0) (hm : most ≤ 7000) : s.size ≤ 7000 := by
  have := chk_size h
  have e : s.data.toList.length = s.size := by simp
  omega
/-- Such a message's texts are short. -/
theorem good_texts {k : Nat} {v : Int} {m : MV} (h : Good k v m) : (∀ i, (m.text i).size ≤ 7000) ∧ ∀ x ∈ m.l, x.size ≤ 7000 := by
  have e0 : (⟨#[]⟩ : ByteArray).size = 0 := rfl
  refine ⟨fun i => ?_, fun x hx => ?_⟩
  · rcases text_top m i with ⟨j, hj, rfl⟩ | h0
    · cases hm : mkS (ofL (k : Int) v) j with
      | false => rw [h.s j hj hm, e0]; omega
      | true =>
        unfold mkS at hm
        obtain ⟨r, hr, hp⟩ := List.any_eq_true.1 hm
        simp only [decide_eq_true_eq] at hp
        have hf := h.f r hr
        obtain ⟨⟨h7, h9⟩, rfl⟩ := hp
        cases hd : dflB m (r.typ : Nat) (r.slot : Nat) with
        | true =>
          unfold dflB at hd
          rw [if_neg (by omega), if_pos (by omega)] at hd
          have : m.text (r.slot : Int) = ⟨#[]⟩ := by simpa using hd
          rw [this, e0]; omega
        | false =>
          have hw := fldE_wrong hf hd
          unfold wrongE at hw
          rw [if_neg (by omega), if_neg (by omega), if_pos (by omega)] at hw
          refine chk_small hw ?_
          unfold mostN
          split <;> (try split) <;> (try split) <;> omega
    · rw [h0, e0]; omega
  · cases hm : mkL (ofL (k : Int) v) with
    | false => rw [h.l hm] at hx; simp at hx
    | true =>
      unfold mkL at hm
      obtain ⟨r, hr, hp⟩ := List.any_eq_true.1 hm
      simp only [decide_eq_true_eq] at hp
      exact chk_small ((fldE_list hp (h.f r hr)).2 x hx) (by decide)
theorem good_mvok {k : Nat} {v : Int} {m : MV} {w : World} (h : Good k v m) (hk : k ≤ 255) {A : Option Addr} {c : Nat} (hs : Sl w A c (m.l.map sv)) : MvOk w { m with A := A, c := c } := by
  have ht := good_texts h
  exact ⟨by rw [show ({ m with A := A, c := c } : MV).k = m.k from rfl, h.hk]; exact hk, fun i => h.hn i, fun i => Nat.le_trans (ht.1 i) (by omega), fun x hx => Nat.le_trans (ht.2 x hx) (by omega), hs⟩
end Go.Proofs.Ytealjpolomhdeaa
