/- A message's own bytes are no longer than what it was read from; unknown fields behind: mathematics. -/
import Derived.Test.YtnfodgjihdoncaaVerMath
set_option linter.unusedVariables false
namespace Go.Proofs.Ytnfodgjihdoncaa
open Go.RowKit
theorem zig_zagU {n : Nat} (h : n ≤ 18446744073709551615) : (zig (wrap64 (zagU n : Nat))).toNat = n := by
  unfold zagU zig wrap64
  split <;> split <;> omega
theorem numV_less {t : Int} {n : Nat} (h : t ≠ 3) : numV t n ≤ n := by
  unfold numV
  split
  · omega
  · split
    · split <;> omega
    · first | exact Nat.le_refl _ | (rw [if_neg h]; exact Nat.le_refl _)
theorem pTail_le {x : Int} {a b : Nat} {xs : List UInt8} (hx : x ≠ 2) (h : x = 0 → a ≤ b) : (pTail x a []).length ≤ (pTail x b xs).length := by
  unfold pTail
  by_cases h0 : x = 0
  · rw [if_pos h0, if_pos h0]; exact putN_len_mono (h h0)
  · rw [if_neg h0, if_neg h0]
    by_cases h1 : x = 1
    · rw [if_pos h1, if_pos h1, length_fixN, length_fixN]; exact Nat.le_refl _
    · rw [if_neg h1, if_neg h1, if_neg hx, if_neg hx, length_fixN, length_fixN]; exact Nat.le_refl _
/-- How many bytes a field has, put. -/
def szF (f : RF × Nat) : Nat := (pB f.1.num f.1.w f.1.n f.1.xs).length
/-- How many bytes a message has of a row. -/
def rowN (M : MV) (r : SRow) : Nat := ((rowP M r).flatMap wB).length
def totN (L : List SRow) (M : MV) : Nat := (L.map (rowN M)).sum
theorem wireN_low {t : Nat} (h1 : 1 ≤ t) (h6 : t ≤ 6) : ((wireN (t : Int) : Nat) : Int) ≠ 2 := by
  have : t = 1 ∨ t = 2 ∨ t = 3 ∨ t = 4 ∨ t = 5 ∨ t = 6 := by omega
  rcases this with rfl | rfl | rfl | rfl | rfl | rfl <;> decide
theorem wireN_text {t : Nat} (h7 : 7 ≤ t) (h10 : t ≤ 10) : ((wireN (t : Int) : Nat) : Int) = 2 := by
  have : t = 7 ∨ t = 8 ∨ t = 9 ∨ t = 10 := by omega
  rcases this with rfl | rfl | rfl | rfl <;> decide
theorem rowP_keep {M M' : MV} {r : SRow} (hr : r ∈ ROWS) (hn : r.typ ≤ 6 → M'.num (r.slot : Int) = M.num (r.slot : Int)) (ht : 7 ≤ r.typ → r.typ ≤ 9 → M'.text (r.slot : Int) = M.text (r.slot : Int)) (hl : r.typ = 10 → M'.l = M.l) : rowP M' r = rowP M r := by
  have hk := row_num hr
  have h : dflB M' (r.typ : Nat) (r.slot : Nat) = dflB M (r.typ : Nat) (r.slot : Nat) ∧ partW M' (r.num : Nat) (r.typ : Nat) (r.slot : Nat) = partW M (r.num : Nat) (r.typ : Nat) (r.slot : Nat) := by
    by_cases h6 : r.typ ≤ 6
    · refine ⟨by rw [dfl_num _ _ _ (by omega), dfl_num _ _ _ (by omega), hn h6], ?_⟩
      unfold partW
      simp only [show ¬ ((r.typ : Nat) : Int) = 10 from by omega, show ¬ (7 ≤ ((r.typ : Nat) : Int) ∧ ((r.typ : Nat) : Int) ≤ 9) from by omega, if_false, hn h6]
    · by_cases h9 : r.typ ≤ 9
      · refine ⟨by rw [dfl_text _ _ _ (by omega), dfl_text _ _ _ (by omega), ht (by omega) h9], ?_⟩
        unfold partW
        simp only [show ¬ ((r.typ : Nat) : Int) = 10 from by omega, show (7 ≤ ((r.typ : Nat) : Int) ∧ ((r.typ : Nat) : Int) ≤ 9) from by omega, if_false, if_true, ht (by omega) h9, and_self]
      · have h10 : r.typ = 10 := by omega
        rw [h10, show ((10 : Nat) : Int) = 10 from rfl]
        refine ⟨by rw [dfl_list, dfl_list, hl h10], ?_⟩
        unfold partW
        rw [if_pos rfl, if_pos rfl, hl h10]
  unfold rowP
  rw [h.1, h.2]
theorem rowP_list {M : MV} {r : SRow} (h10 : r.typ = 10) : rowP M r = M.l.map (fun s => ((r.num : Int), (2 : Int), 0, s.data.toList)) := by
  unfold rowP
  rw [h10, show ((10 : Nat) : Int) = 10 from rfl, dfl_list]
  by_cases c : M.l.length = 0
  · have : M.l = [] := List.eq_nil_of_length_eq_zero c
    rw [decide_eq_true c, if_pos rfl, this]; rfl
  · rw [decide_eq_false c, if_neg (by simp)]
    unfold partW
    rw [if_pos rfl]
theorem row_set {k : Nat} {v : Int} {M : MV} {r : SRow} (hr : r ∈ ofL (k : Int) v) {f : RF × Nat} (hfn : f.1.n ≤ 18446744073709551615) (h1 : f.1.num = (r.num : Int)) (h2 : f.1.w = ((wireN (r.typ : Int) : Nat) : Int)) (he : setE M (r.typ : Int) (r.slot : Int) (rfS f) = 0) {q : SRow} (hq : q ∈ ofL (k : Int) v) :
    rowN (setM M (r.typ : Int) (r.slot : Int) f.1.n (rfS f)) q ≤ rowN M q + if q = r then szF f else 0 := by
  have hR := ofL_mem _ _ hr
  have hQ := ofL_mem _ _ hq
  have hk := row_num hR
  have hs := row_slot hR
  have hkq := row_num hQ
  have hsq := row_slot hQ
  have e1 := ofL_kindN hr
  have e2 := ofL_kindN hq
  have hnum := setM_num (n := f.1.n) he
  have htext := setM_text (n := f.1.n) he
  have hl := setM_l (n := f.1.n) he
  by_cases hqr : q = r
  · subst hqr
    rw [if_pos rfl]
    by_cases h6 : q.typ ≤ 6
    · have hv := hnum q.slot hs.1
      rw [if_pos ⟨by omega, rfl⟩] at hv
      refine Nat.le_trans ?_ (Nat.le_add_left _ _)
      unfold rowN rowP
      cases hd : dflB (setM M (q.typ : Int) (q.slot : Int) f.1.n (rfS f)) (q.typ : Nat) (q.slot : Nat) with
      | true => simp
      | false =>
        rw [if_neg (by simp)]
        unfold partW
        rw [if_neg (by omega), if_neg (by omega), hv]
        unfold szF
        rw [h1, h2]
        by_cases h3 : ((q.typ : Nat) : Int) = 3
        · rw [if_pos h3, h3]
          have e3 : numV 3 f.1.n = zagU f.1.n := by unfold numV; simp
          rw [e3, zig_zagU hfn]
          have e4 : wB ((q.num : Int), 0, f.1.n, []) = pB (q.num : Int) 0 f.1.n [] := rfl
          rw [List.flatMap_cons, List.flatMap_nil, List.append_nil, e4]
          have e5 : ((wireN (3 : Int) : Nat) : Int) = 0 := by decide
          rw [e5]
          unfold pB
          rw [List.length_append, List.length_append]
          have := pTail_le (x := 0) (a := f.1.n) (b := f.1.n) (xs := f.1.xs) (by decide) (fun _ => Nat.le_refl _)
          omega
        · rw [if_neg h3]
          have e4 : wB ((q.num : Int), ((wireN (q.typ : Int) : Nat) : Int), numV (q.typ : Int) f.1.n, []) = pB (q.num : Int) ((wireN (q.typ : Int) : Nat) : Int) (numV (q.typ : Int) f.1.n) [] := rfl
          rw [List.flatMap_cons, List.flatMap_nil, List.append_nil, e4]
          unfold pB
          rw [List.length_append, List.length_append]
          have := pTail_le (x := ((wireN (q.typ : Int) : Nat) : Int)) (a := numV (q.typ : Int) f.1.n) (b := f.1.n) (xs := f.1.xs) (wireN_low (by omega) h6) (fun _ => numV_less h3)
          omega
    · by_cases h9 : q.typ ≤ 9
      · have hv := htext q.slot (hs.2 (by omega) h9)
        rw [if_pos ⟨by omega, rfl⟩] at hv
        refine Nat.le_trans ?_ (Nat.le_add_left _ _)
        unfold rowN rowP
        cases hd : dflB (setM M (q.typ : Int) (q.slot : Int) f.1.n (rfS f)) (q.typ : Nat) (q.slot : Nat) with
        | true => simp
        | false =>
          rw [if_neg (by simp)]
          unfold partW
          rw [if_neg (by omega), if_pos (by omega), hv]
          unfold szF
          rw [h1, h2, wireN_text (by omega) (by omega)]
          have e4 : wB ((q.num : Int), 2, 0, (rfS f).data.toList) = pB (q.num : Int) 2 0 f.1.xs := by unfold rfS; rfl
          rw [List.flatMap_cons, List.flatMap_nil, List.append_nil, e4]
          exact Nat.le_refl _
      · have h10 : q.typ = 10 := by omega
        rw [if_pos (by omega)] at hl
        unfold rowN
        rw [rowP_list h10, rowP_list h10, hl, List.map_append, List.flatMap_append, List.length_append]
        unfold szF
        rw [h1, h2, wireN_text (by omega) (by omega)]
        have e4 : wB ((q.num : Int), 2, 0, (rfS f).data.toList) = pB (q.num : Int) 2 0 f.1.xs := by unfold rfS; rfl
        rw [List.map_cons, List.map_nil, List.flatMap_cons, List.flatMap_nil, List.append_nil, e4]
        exact Nat.le_refl _
  · rw [if_neg hqr]
    unfold rowN
    rw [rowP_keep (M := M) hQ (fun h6 => ?_) (fun h7 h9 => ?_) (fun h10 => ?_)]
    · exact Nat.le_refl _
    · rw [hnum q.slot hsq.1, if_neg]
      rintro ⟨g1, g2⟩
      exact hqr (place_uni hQ hR (by omega) (.inl ⟨h6, by omega, by omega⟩))
    · rw [htext q.slot (hsq.2 h7 h9), if_neg]
      rintro ⟨g1, g2⟩
      exact hqr (place_uni hQ hR (by omega) (.inr (.inl ⟨⟨h7, h9⟩, by omega, by omega⟩)))
    · rw [hl, if_neg]
      intro g
      exact hqr (place_uni hQ hR (by omega) (.inr (.inr ⟨h10, by omega⟩)))
theorem sum_row (F G : SRow → Nat) (r : SRow) (c : Nat) : ∀ (L : List SRow), L.Nodup → (∀ q ∈ L, G q ≤ F q + if q = r then c else 0) → (L.map G).sum ≤ (L.map F).sum + if r ∈ L then c else 0
  | [], _, _ => by simp
  | x :: L, hnd, h => by
    have ih := sum_row F G r c L (List.nodup_cons.1 hnd).2 fun q hq => h q (List.mem_cons_of_mem _ hq)
    have hx := h x (List.mem_cons_self ..)
    rw [List.map_cons, List.map_cons, List.sum_cons, List.sum_cons]
    by_cases hxr : x = r
    · subst hxr
      rw [if_pos rfl] at hx
      rw [if_neg (List.nodup_cons.1 hnd).1] at ih
      rw [if_pos (List.mem_cons_self ..)]
      omega
    · rw [if_neg hxr] at hx
      by_cases hm : r ∈ L
      · rw [if_pos hm] at ih
        rw [if_pos (List.mem_cons_of_mem _ hm)]
        omega
      · rw [if_neg hm] at ih
        omega
theorem dec_len {k : Nat} {v : Int} : ∀ (l : List (RF × Nat)) (M : MV), (∀ f ∈ l, RdOk f) → (decF (ofL (k : Int) v) M l).2.2.1 = 0 → totN (ofL (k : Int) v) (decF (ofL (k : Int) v) M l).1 ≤ totN (ofL (k : Int) v) M + (l.map szF).sum
  | [], M, _, _ => by simp [decF]
  | f :: l, M, hok, h => by
    rw [List.map_cons, List.sum_cons]
    cases ho : ownR (ofL (k : Int) v) f.1.num f.1.w with
    | none =>
      rw [decF_none ho] at h ⊢
      have := dec_len l M (fun g hg => hok g (List.mem_cons_of_mem _ hg)) h
      simp only
      omega
    | some r =>
      by_cases he : setE M (r.typ : Int) (r.slot : Int) (rfS f) = 0
      · rw [decF_ok ho he] at h ⊢
        have h1 := dec_len l _ (fun g hg => hok g (List.mem_cons_of_mem _ hg)) h
        obtain ⟨hr, e1, e2⟩ := own_mem ho
        have h2 := sum_row (rowN M) (rowN (setM M (r.typ : Int) (r.slot : Int) f.1.n (rfS f))) r (szF f) (ofL (k : Int) v) (nodup_ofL k v) fun q hq => row_set hr (hok f (List.mem_cons_self ..)).1 e1.symm e2.symm he hq
        rw [if_pos hr] at h2
        unfold totN at h1 ⊢
        omega
      · rw [decF_bad ho he] at h
        exact absurd h he
theorem tot_flat (M : MV) : ∀ L : List SRow, ((allP M L).flatMap wB).length = totN L M
  | [] => rfl
  | r :: L => by
    have ih := tot_flat M L
    unfold allP totN at ih ⊢
    rw [List.flatMap_cons, List.flatMap_append, List.length_append, ih, List.map_cons, List.sum_cons]
    rfl
theorem tot_zero (k : Nat) : ∀ L : List SRow, (∀ r ∈ L, r ∈ ROWS) → totN L { ZM with k := k } = 0
  | [], _ => rfl
  | r :: L, h => by
    have ih := tot_zero k L fun q hq => h q (List.mem_cons_of_mem _ hq)
    unfold totN at ih ⊢
    rw [List.map_cons, List.sum_cons, ih]
    have hR := h r (List.mem_cons_self ..)
    have hk := row_num hR
    have hd : dflB { ZM with k := k } (r.typ : Nat) (r.slot : Nat) = true := by
      by_cases h6 : r.typ ≤ 6
      · rw [dfl_num _ _ _ (by omega), ZM_num]; rfl
      · by_cases h9 : r.typ ≤ 9
        · rw [dfl_text _ _ _ (by omega), ZM_text]; rfl
        · rw [show ((r.typ : Nat) : Int) = 10 from by omega, dfl_list]; rfl
    unfold rowN rowP
    rw [hd]
    rfl
/-- A message's own bytes are no longer than those that it was read from. -/
theorem enc_short {k : Nat} {v : Int} {bs : List UInt8} {M : MV} {O : List (RF × Nat)} (h : readR k v bs = (M, O, 0, 0)) (hg : Good k v M) (hc : (chkV M (ofL (k : Int) v)).1 = 0) : (encB M (ofL (k : Int) v)).length ≤ bs.length := by
  rw [encB_allP (good_sm hg) (fun r hr => ofL_mem _ _ hr) hc, tot_flat]
  unfold readR at h
  by_cases hL : (ofL (k : Int) v).length = 0
  · rw [if_pos hL] at h; simp at h
  rw [if_neg hL] at h
  by_cases h8 : 8192 < bs.length
  · rw [if_pos h8] at h; simp at h
  rw [if_neg h8] at h
  by_cases hF : (flds bs bs.length 0).2.1 = 0
  · rw [if_neg (by rw [hF]; simp)] at h
    by_cases hD : (decF (ofL (k : Int) v) { ZM with k := k } (flds bs bs.length 0).1).2.2.1 = 0
    · rw [if_neg (by rw [hD]; simp)] at h
      have h1 := dec_len _ _ (flds_ok hF) hD
      rw [h, tot_zero k _ (fun r hr => ofL_mem _ _ hr)] at h1
      have h2 := (again_all bs bs.length 0 _ (by omega) hF (fvR_all (flds bs bs.length 0).1)).2
      have h3 : ∀ l : List (RF × Nat), ((l.map fvR).flatMap pBF).length = (l.map szF).sum := by
        intro l
        induction l with
        | nil => rfl
        | cons f l ih => rw [List.map_cons, List.flatMap_cons, List.length_append, ih, List.map_cons, List.sum_cons]; rfl
      rw [h3] at h2
      simp only at h1
      omega
    · rw [if_pos hD] at h
      simp only [Prod.mk.injEq] at h
      exact absurd (congrArg Prod.fst h.2.2) hD
  · rw [if_pos hF] at h
    simp only [Prod.mk.injEq] at h
    exfalso
    omega
/-- Fields that no message has, behind a message's bytes. -/
theorem read_more {M : MV} (v : Int) (hn : ∀ i, M.num i ≤ 18446744073709551615) (hsm : MvSm M) (hc : (chkV M (ofL (M.k : Int) v)).1 = 0) (P : List (Int × Int × Nat × List UInt8)) (hP : ∀ x ∈ P, (pErrF (ptF x) = 0 ∧ (ptF x).n ≤ 18446744073709551615 ∧ 0 ≤ (ptF x).w ∧ (ptF x).w ≤ 255) ∧ 7 < x.1) (hlen : (encB M (ofL (M.k : Int) v)).length + (P.flatMap wB).length ≤ 8192) :
    ∃ M2 oth, readR M.k v (encB M (ofL (M.k : Int) v) ++ P.flatMap wB) = (M2, oth, 0, 0) ∧ sameB M2 M = true ∧ oth.length = P.length := by
  have hz := chkV_zero hc
  have hb := encB_allP hsm (fun r hr => ofL_mem (M.k : Int) v hr) hc
  rw [hb] at hlen ⊢
  rw [← List.flatMap_append]
  have hL : ∀ r ∈ ofL (M.k : Int) v, r ∈ ROWS := fun r hr => ofL_mem _ _ hr
  have hok : ∀ x ∈ allP M (ofL (M.k : Int) v) ++ P, pErrF (ptF x) = 0 ∧ (ptF x).n ≤ 18446744073709551615 ∧ 0 ≤ (ptF x).w ∧ (ptF x).w ≤ 255 := fun x hx => by
    rcases List.mem_append.1 hx with hx | hx
    · obtain ⟨r, hr, hp⟩ := allP_ok hn hsm hL hx
      exact hp.put (hL r hr)
    · exact (hP x hx).1
  have hf := flat_flds _ hok
  have hkeys : (putL ((allP M (ofL (M.k : Int) v) ++ P).map ptF) 0).map keyF = allP M (ofL (M.k : Int) v) ++ P.map bareP := by
    have h := putL_map (allP M (ofL (M.k : Int) v) ++ P) 0
    rw [List.map_append (f := bareP), allP_bare hL hc] at h
    exact h
  obtain ⟨l1, l2, e0, k1, k2⟩ := keys_app hkeys
  obtain ⟨M2, r1, r2⟩ := read_back v hn hsm hc
  have hD : decF (ofL (M.k : Int) v) { ZM with k := M.k } l1 = (M2, [], 0, 0) := by
    unfold readR at r1
    rw [if_neg hz.2.1, if_neg (by have := enc_cap v hn hsm; omega), enc_flds M.k v hn hsm hc] at r1
    simp only at r1
    rw [if_neg (by simp)] at r1
    have hsame : ∀ (a b : List (RF × Nat)) (S : MV), a.map keyF = b.map keyF → (decF (ofL (M.k : Int) v) S a).1 = (decF (ofL (M.k : Int) v) S b).1 ∧ (decF (ofL (M.k : Int) v) S a).2.2.1 = (decF (ofL (M.k : Int) v) S b).2.2.1 ∧ (decF (ofL (M.k : Int) v) S a).2.1.length = (decF (ofL (M.k : Int) v) S b).2.1.length := by
      intro a
      induction a with
      | nil => intro b S h; have : b = [] := by simpa using h.symm
               subst this; exact ⟨rfl, rfl, rfl⟩
      | cons x a ih =>
        intro b S h
        cases b with
        | nil => simp at h
        | cons y b =>
          rw [List.map_cons, List.map_cons, List.cons.injEq] at h
          obtain ⟨hk, h⟩ := h
          unfold keyF at hk
          simp only [Prod.mk.injEq] at hk
          obtain ⟨g1, g2, g3, g4⟩ := hk
          have g5 : rfS x = rfS y := by unfold rfS; rw [g4]
          cases ho : ownR (ofL (M.k : Int) v) x.1.num x.1.w with
          | none =>
            have ho' : ownR (ofL (M.k : Int) v) y.1.num y.1.w = none := by rw [← g1, ← g2]; exact ho
            rw [decF_none ho, decF_none ho']
            have := ih b S h
            exact ⟨this.1, this.2.1, by simp [this.2.2]⟩
          | some r =>
            have ho' : ownR (ofL (M.k : Int) v) y.1.num y.1.w = some r := by rw [← g1, ← g2]; exact ho
            by_cases he : setE S (r.typ : Int) (r.slot : Int) (rfS x) = 0
            · rw [decF_ok ho he, decF_ok ho' (by rw [← g5]; exact he), ← g3, ← g5]
              exact ih b _ h
            · rw [decF_bad ho he, decF_bad ho' (by rw [← g5]; exact he), g5]
              exact ⟨rfl, rfl, rfl⟩
    have hk0 : (putL ((allP M (ofL (M.k : Int) v)).map ptF) 0).map keyF = allP M (ofL (M.k : Int) v) := by
      have h := putL_map (allP M (ofL (M.k : Int) v)) 0
      rw [allP_bare hL hc] at h
      exact h
    obtain ⟨s1, s2, s3⟩ := hsame l1 _ { ZM with k := M.k } (k1.trans hk0.symm)
    by_cases hq : (decF (ofL (M.k : Int) v) { ZM with k := M.k } (putL ((allP M (ofL (M.k : Int) v)).map ptF) 0)).2.2.1 = 0
    · rw [if_neg (by rw [hq]; simp)] at r1
      rw [r1] at s1 s2 s3
      have zz : ∀ (l : List (RF × Nat)) (S : MV), (decF (ofL (M.k : Int) v) S l).2.2.1 = 0 → (decF (ofL (M.k : Int) v) S l).2.2 = (0, 0) := by
        intro l
        induction l with
        | nil => intro S _; rfl
        | cons f l ih =>
          intro S h
          cases ho : ownR (ofL (M.k : Int) v) f.1.num f.1.w with
          | none => rw [decF_none ho] at h ⊢; exact ih S h
          | some r =>
            by_cases hs : setE S (r.typ : Int) (r.slot : Int) (rfS f) = 0
            · rw [decF_ok ho hs] at h ⊢; exact ih _ h
            · rw [decF_bad ho hs] at h; exact absurd h hs
      have s4 := zz l1 _ s2
      have s5 : (decF (ofL (M.k : Int) v) { ZM with k := M.k } l1).2.1 = [] := List.eq_nil_of_length_eq_zero s3
      exact Prod.ext s1 (Prod.ext s5 s4)
    · rw [if_pos hq] at r1
      simp only [Prod.mk.injEq] at r1
      exact absurd (congrArg Prod.fst r1.2.2) hq
  have hpass : decF (ofL (M.k : Int) v) M2 l2 = (M2, l2, 0, 0) := decF_pass M2 l2 fun f hf => by
    have hx : keyF f ∈ P.map bareP := by rw [← k2]; exact List.mem_map_of_mem hf
    obtain ⟨x, hx, hxe⟩ := List.mem_map.1 hx
    have h7 := (hP x hx).2
    unfold bareP keyF at hxe
    simp only [Prod.mk.injEq] at hxe
    exact own_big (.inr (by omega))
  refine ⟨M2, l2, ?_, r2, ?_⟩
  · unfold readR
    rw [if_neg hz.2.1, if_neg (by rw [List.flatMap_append, List.length_append]; omega), hf]
    simp only
    rw [if_neg (by simp), e0, decF_app l1 _ l2 (by rw [hD]), hD]
    simp only
    rw [hpass, if_neg (by simp)]
    simp
  · have := congrArg List.length k2
    simpa using this
end Go.Proofs.Ytnfodgjihdoncaa
