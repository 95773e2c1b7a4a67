/- What is read back, and that what is read may be: mathematics. -/
import Derived.Test.YtnfodgjihdoncaaLenGd
import Derived.Test.YtnfodgjihdoncaaLenRead
import Derived.Test.YtnfodgjihdoncaaEncCap
set_option linter.unusedVariables false
namespace Go.Proofs.Ytnfodgjihdoncaa
open Go.RowKit
theorem nodup_ofL (k : Nat) (v : Int) : (ofL (k : Int) v).Nodup := by
  have h := ofL_rise k v
  exact h.imp (fun {a b} hab e => by subst e; omega)
/-- A message that may be is read from its own bytes as it is. -/
theorem read_back {M : MV} (v : Int) (hn : ∀ i, M.num i ≤ 18446744073709551615) (hsm : MvSm M) (hc : (chkV M (ofL (M.k : Int) v)).1 = 0) : ∃ M2, readR M.k v (encB M (ofL (M.k : Int) v)) = (M2, [], 0, 0) ∧ sameB M2 M = true := by
  have hz := chkV_zero hc
  have hL : ∀ r ∈ ofL (M.k : Int) v, r ∈ ROWS := fun r hr => ofL_mem _ _ hr
  have hE := chkL_all _ hz.2.2.1
  have hf := enc_flds M.k v hn hsm hc
  have hcap := enc_cap v hn hsm
  have hkeys : (putL ((allP M (ofL (M.k : Int) v)).map ptF) 0).map keyF = allP M (ofL (M.k : Int) v) := by
    have h := putL_map (allP M (ofL (M.k : Int) v)) 0
    rw [allP_bare hL hc] at h
    exact h
  have hl64 : M.l.length ≤ 64 := by
    obtain ⟨-, -, -, hl⟩ := (sameB_iff _ _).1 hz.2.2.2
    rw [kept_l] at hl
    cases hm : mkL (ofL (M.k : Int) v) with
    | false => rw [hm] at hl; rw [hl]; simp
    | true =>
      unfold mkL at hm
      obtain ⟨r, hr, h10⟩ := List.any_eq_true.1 hm
      simp only [decide_eq_true_eq] at h10
      exact (fldE_list h10 (hE r hr)).1
  have hS : ({ ZM with k := M.k } : MV).l.length + M.l.length ≤ 64 := by simpa [ZM] using hl64
  obtain ⟨oth, e1, e2⟩ := up_gen (k := (M.k : Int)) (o := v) (b := M) (S := { ZM with k := M.k }) hn hS (ofL (M.k : Int) v) [] (fun r hr => ⟨hL r hr, ofL_kindN hr, hE r hr⟩) (fun p hp => by simp at hp) (by simpa using nodup_ofL M.k v) _ hkeys
  have hfil : (ofL (M.k : Int) v).filter (fun r => decide (r ∈ ofL (M.k : Int) v)) = ofL (M.k : Int) v := List.filter_eq_self.2 fun r hr => by simpa using hr
  have hfil2 : (ofL (M.k : Int) v).filter (fun r => decide (r ∉ ofL (M.k : Int) v)) = [] := List.filter_eq_nil_iff.2 fun r hr => by simpa using hr
  rw [hfil, up_nil] at e1
  rw [hfil2] at e2
  have ho : oth = [] := by simpa [allP] using e2
  subst ho
  refine ⟨updM ([] ++ ofL (M.k : Int) v) { ZM with k := M.k } M, ?_, ?_⟩
  · unfold readR
    rw [if_neg hz.2.1, if_neg (by omega), hf]
    simp only
    rw [if_neg (by simp), e1, if_neg (by simp)]
  · rw [List.nil_append, sameB_iff]
    obtain ⟨-, ⟨a0, a1, a2, a3, a4, a5⟩, ⟨b0, b1⟩, hl⟩ := (sameB_iff _ _).1 hz.2.2.2
    have key : ∀ (b : Bool) (x y : Nat), x = (if b then x else 0) → up b x 0 = x := fun b x y h => by
      unfold up
      cases b with
      | true => by_cases c : x = 0 <;> simp [c]
      | false => simp at h; simp [h]
    have keyS : ∀ (b : Bool) (x : ByteArray), x = (if b then x else ⟨#[]⟩) → us b x ⟨#[]⟩ = x := fun b x h => by
      unfold us
      cases b with
      | true => by_cases c : x = ⟨#[]⟩ <;> simp [c]
      | false => simp only [Bool.false_eq_true, if_false] at h; simp [h]
    refine ⟨rfl, ⟨key _ _ 0 a0, key _ _ 0 a1, key _ _ 0 a2, key _ _ 0 a3, key _ _ 0 a4, key _ _ 0 a5⟩, ⟨keyS _ _ b0, keyS _ _ b1⟩, ?_⟩
    rw [kept_l] at hl
    show (if mkL (ofL (M.k : Int) v) then ([] : List ByteArray) ++ M.l else []) = M.l
    rw [List.nil_append]
    exact hl.symm
def fvR (r : RF × Nat) : FV := ⟨r.1.num, r.1.w, r.1.n, ⟨none, 0, r.1.xs⟩, (r.2 : Int)⟩
theorem fvR_all : ∀ rs : List (RF × Nat), fvAll (rs.map fvR) rs
  | [] => trivial
  | r :: rs => ⟨⟨rfl, rfl, rfl, rfl, rfl⟩, fvR_all rs⟩
theorem flds_ok {bs : List UInt8} (h : (flds bs bs.length 0).2.1 = 0) : ∀ f ∈ (flds bs bs.length 0).1, RdOk f := by
  intro f hf
  have hall := fvR_all (flds bs bs.length 0).1
  have h1 := (read_ok bs bs.length 0 _ (by omega) hall).2 (fvR f) (List.mem_map_of_mem hf)
  have h2 := (again_all bs bs.length 0 _ (by omega) h hall).1 (fvR f) (List.mem_map_of_mem hf)
  refine ⟨h1.2.2.1, fun h5 => ?_⟩
  have h3 := h2.2.1
  unfold bareN at h3
  have e5 : (fvR f).w = 5 := h5
  rw [if_neg (by rw [e5]; decide), if_pos e5] at h3
  have e6 : (fvR f).n = f.1.n := rfl
  rw [e6] at h3
  omega
/-- What is read may be; or nothing is. -/
theorem read_good (k : Nat) (v : Int) (bs : List UInt8) : ((readR k v bs).2.2.1 ≠ 0 ∧ (readR k v bs).1 = ZM ∧ (readR k v bs).2.1 = []) ∨ ((readR k v bs).2.2 = (0, 0) ∧ Good k v (readR k v bs).1 ∧ (ofL (k : Int) v).length ≠ 0) := by
  unfold readR
  by_cases hL : (ofL (k : Int) v).length = 0
  · rw [if_pos hL]; exact .inl ⟨by decide, rfl, rfl⟩
  · rw [if_neg hL]
    by_cases hl : 8192 < bs.length
    · rw [if_pos hl]; exact .inl ⟨by decide, rfl, rfl⟩
    · rw [if_neg hl]
      by_cases hF : (flds bs bs.length 0).2.1 = 0
      · rw [if_neg (by rw [hF]; simp)]
        by_cases hD : (decF (ofL (k : Int) v) { ZM with k := k } (flds bs bs.length 0).1).2.2.1 = 0
        · rw [if_neg (by rw [hD]; simp)]
          refine .inr ⟨?_, good_dec _ _ (good_zero k v) (flds_ok hF) hD, hL⟩
          have : ∀ (l : List (RF × Nat)) (M : MV), (decF (ofL (k : Int) v) M l).2.2.1 = 0 → (decF (ofL (k : Int) v) M l).2.2 = (0, 0) := by
            intro l
            induction l with
            | nil => intro M _; rfl
            | cons f l ih =>
              intro M h
              cases ho : ownR (ofL (k : Int) v) f.1.num f.1.w with
              | none => rw [decF_none ho] at h ⊢; exact ih M h
              | some r =>
                by_cases hs : setE M (r.typ : Int) (r.slot : Int) (rfS f) = 0
                · rw [decF_ok ho hs] at h ⊢; exact ih _ h
                · rw [decF_bad ho hs] at h; exact absurd h hs
          exact this _ _ hD
        · rw [if_pos hD]; exact .inl ⟨hD, rfl, rfl⟩
      · rw [if_pos hF]; exact .inl ⟨by simpa using hF, rfl, rfl⟩
theorem chk_small {s : ByteArray} {most : Int} (h : chk s most = 0) (hm : most ≤ 7000) : s.size ≤ 7000 := by
  have := chk_size h
  have e : s.data.toList.length = s.size := by simp
  omega
/-- Such a message's texts are short. -/
theorem good_texts {k : Nat} {v : Int} {m : MV} (h : Good k v m) : (∀ i, (m.text i).size ≤ 7000) ∧ ∀ x ∈ m.l, x.size ≤ 7000 := by
  have e0 : (⟨#[]⟩ : ByteArray).size = 0 := rfl
  refine ⟨fun i => ?_, fun x hx => ?_⟩
  · rcases text_top m i with ⟨j, hj, rfl⟩ | h0
    · cases hm : mkS (ofL (k : Int) v) j with
      | false => rw [h.s j hj hm, e0]; omega
      | true =>
        unfold mkS at hm
        obtain ⟨r, hr, hp⟩ := List.any_eq_true.1 hm
        simp only [decide_eq_true_eq] at hp
        have hf := h.f r hr
        obtain ⟨⟨h7, h9⟩, rfl⟩ := hp
        cases hd : dflB m (r.typ : Nat) (r.slot : Nat) with
        | true =>
          unfold dflB at hd
          rw [if_neg (by omega), if_pos (by omega)] at hd
          have : m.text (r.slot : Int) = ⟨#[]⟩ := by simpa using hd
          rw [this, e0]; omega
        | false =>
          have hw := fldE_wrong hf hd
          unfold wrongE at hw
          rw [if_neg (by omega), if_neg (by omega), if_pos (by omega)] at hw
          refine chk_small hw ?_
          unfold mostN
          split <;> (try split) <;> (try split) <;> omega
    · rw [h0, e0]; omega
  · cases hm : mkL (ofL (k : Int) v) with
    | false => rw [h.l hm] at hx; simp at hx
    | true =>
      unfold mkL at hm
      obtain ⟨r, hr, hp⟩ := List.any_eq_true.1 hm
      simp only [decide_eq_true_eq] at hp
      exact chk_small ((fldE_list hp (h.f r hr)).2 x hx) (by decide)
theorem good_mvok {k : Nat} {v : Int} {m : MV} {w : World} (h : Good k v m) (hk : k ≤ 255) {A : Option Addr} {c : Nat} (hs : Sl w A c (m.l.map sv)) : MvOk w { m with A := A, c := c } := by
  have ht := good_texts h
  exact ⟨by rw [show ({ m with A := A, c := c } : MV).k = m.k from rfl, h.hk]; exact hk, fun i => h.hn i, fun i => Nat.le_trans (ht.1 i) (by omega), fun x hx => Nat.le_trans (ht.2 x hx) (by omega), hs⟩
end Go.Proofs.Ytnfodgjihdoncaa
