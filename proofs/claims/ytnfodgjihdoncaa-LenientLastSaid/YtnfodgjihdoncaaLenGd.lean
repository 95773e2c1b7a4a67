/- A message that is read may be: mathematics. -/
import Derived.Test.YtnfodgjihdoncaaLenBk
set_option linter.unusedVariables false
namespace Go.Proofs.Ytnfodgjihdoncaa
open Go.RowKit
theorem setM_k {m : MV} {t i : Int} {n : Nat} {s : ByteArray} (he : setE m t i s = 0) : (setM m t i n s).k = m.k := by
  unfold setM
  rw [he, if_neg (by simp)]
  split
  · rfl
  · split <;> rfl
theorem setM_num {m : MV} {t i : Int} {n : Nat} {s : ByteArray} (he : setE m t i s = 0) (j : Nat) (hj : j ≤ 5) : (setM m t i n s).num (j : Int) = if t ≤ 6 ∧ i = (j : Int) then numV t n else m.num (j : Int) := by
  have hj : j = 0 ∨ j = 1 ∨ j = 2 ∨ j = 3 ∨ j = 4 ∨ j = 5 := by omega
  unfold setM
  rw [he, if_neg (by simp)]
  by_cases h6 : t ≤ 6
  · rw [if_pos h6]
    rcases hj with rfl | rfl | rfl | rfl | rfl | rfl <;> simp [MV.setN, MV.num, h6]
  · have hc : ¬ (t ≤ 6 ∧ i = ((j : Nat) : Int)) := by omega
    rw [if_neg h6]
    split
    · try rw [if_neg hc]
      rcases hj with rfl | rfl | rfl | rfl | rfl | rfl <;> simp [MV.setS, MV.num]
    · try rw [if_neg hc]
      rcases hj with rfl | rfl | rfl | rfl | rfl | rfl <;> rfl
theorem setM_text {m : MV} {t i : Int} {n : Nat} {s : ByteArray} (he : setE m t i s = 0) (j : Nat) (hj : j ≤ 1) : (setM m t i n s).text (j : Int) = if (7 ≤ t ∧ t ≤ 9) ∧ i = (j : Int) then s else m.text (j : Int) := by
  have hj : j = 0 ∨ j = 1 := by omega
  unfold setM
  rw [he, if_neg (by simp)]
  by_cases h6 : t ≤ 6
  · rw [if_pos h6, if_neg (by omega)]
    rcases hj with rfl | rfl <;> simp [MV.setN, MV.text]
  · rw [if_neg h6]
    by_cases h9 : t ≤ 9
    · rw [if_pos h9]
      rcases hj with rfl | rfl <;> simp [MV.setS, MV.text, show 7 ≤ t by omega, h9]
    · rw [if_neg h9, if_neg (by omega)]
      rcases hj with rfl | rfl <;> rfl
theorem setM_l {m : MV} {t i : Int} {n : Nat} {s : ByteArray} (he : setE m t i s = 0) : (setM m t i n s).l = if 10 ≤ t then m.l ++ [s] else m.l := by
  unfold setM
  rw [he, if_neg (by simp)]
  by_cases h6 : t ≤ 6
  · rw [if_pos h6, if_neg (by omega)]; rfl
  · rw [if_neg h6]
    by_cases h9 : t ≤ 9
    · rw [if_pos h9, if_neg (by omega)]; rfl
    · rw [if_neg h9, if_pos (by omega)]
theorem numV_le {t : Int} {n : Nat} (h : n ≤ 18446744073709551615) : numV t n ≤ 18446744073709551615 := by
  unfold numV zagU
  split
  · omega
  · split
    · split <;> omega
    · split
      · split <;> omega
      · exact h
theorem txtE_app (most : Int) : ∀ (l : List ByteArray) (s : ByteArray), txtE most l = 0 → chk s most = 0 → txtE most (l ++ [s]) = 0
  | [], s, _, h => by simp [txtE, h]
  | x :: l, s, h, hs => by
    rw [txtE] at h
    rw [List.cons_append, txtE]
    by_cases c : chk x most = 0
    · rw [if_pos c] at h ⊢; exact txtE_app most l s h hs
    · rw [if_neg c] at h; exact absurd h c
theorem txtE_of (most : Int) : ∀ (l : List ByteArray), (∀ s ∈ l, chk s most = 0) → txtE most l = 0
  | [], _ => rfl
  | x :: l, h => by rw [txtE, if_pos (h x (List.mem_cons_self ..)), txtE_of most l fun s hs => h s (List.mem_cons_of_mem _ hs)]
/-- What holds of a message while it is read. -/
structure Good (k : Nat) (v : Int) (m : MV) : Prop where
  hk : m.k = k
  f : ∀ r ∈ ofL (k : Int) v, fldE m r = 0
  n : ∀ j : Nat, j ≤ 5 → mkN (ofL (k : Int) v) j = false → m.num (j : Int) = 0
  s : ∀ j : Nat, j ≤ 1 → mkS (ofL (k : Int) v) j = false → m.text (j : Int) = ⟨#[]⟩
  l : mkL (ofL (k : Int) v) = false → m.l = []
  len : m.l.length ≤ 64
  hn : ∀ i, m.num i ≤ 18446744073709551615
theorem ZM_num (k : Nat) (i : Int) : ({ ZM with k := k } : MV).num i = 0 := by
  unfold MV.num ZM; split <;> rfl
theorem ZM_text (k : Nat) (i : Int) : ({ ZM with k := k } : MV).text i = ⟨#[]⟩ := by
  unfold MV.text ZM; split <;> rfl
theorem good_zero (k : Nat) (v : Int) : Good k v { ZM with k := k } := by
  refine ⟨rfl, fun r hr => ?_, fun j _ _ => ZM_num k _, fun j _ _ => ZM_text k _, fun _ => rfl, by simp [ZM], fun i => by rw [ZM_num]; omega⟩
  have hk := row_num (ofL_mem _ _ hr)
  unfold fldE
  rw [if_pos]
  unfold dflB
  rw [ZM_num, ZM_text]
  split
  · simp
  · split
    · simp
    · split
      · simp [ZM]
      · rfl
theorem good_set {k : Nat} {v : Int} {m : MV} (h : Good k v m) {r : SRow} (hr : r ∈ ofL (k : Int) v) {n : Nat} {s : ByteArray} (hn : n ≤ 18446744073709551615) (h5 : r.typ = 5 → n ≤ 4294967295) (he : setE m (r.typ : Int) (r.slot : Int) s = 0) : Good k v (setM m (r.typ : Int) (r.slot : Int) n s) := by
  have hR := ofL_mem _ _ hr
  have hk := row_num hR
  have hs := row_slot hR
  have hnum := setM_num (n := n) he
  have htext := setM_text (n := n) he
  have hl := setM_l (n := n) he
  have hlen : (setM m (r.typ : Int) (r.slot : Int) n s).l.length ≤ 64 := setM_len m _ _ n s h.len
  refine ⟨by rw [setM_k he]; exact h.hk, fun q hq => ?_, fun j hj hm => ?_, fun j hj hm => ?_, fun hm => ?_, hlen, fun i => ?_⟩
  · by_cases hqr : q = r
    · subst hqr
      unfold fldE
      split
      · rfl
      · unfold wrongE
        have e1 := hnum q.slot hs.1
        have hE := he
        unfold setE at hE
        by_cases t6 : q.typ ≤ 6
        · rw [if_pos ⟨by omega, rfl⟩] at e1
          rw [e1]
          by_cases c1 : ((q.typ : Nat) : Int) = 1 ∨ ((q.typ : Nat) : Int) = 5
          · rw [if_pos c1, if_neg]
            unfold numV
            rcases c1 with c1 | c1
            · rw [if_pos c1]; omega
            · rw [if_neg (by omega), if_neg (by omega), if_neg (by omega)]
              have := h5 (by omega); omega
          · rw [if_neg c1]
            by_cases c4 : ((q.typ : Nat) : Int) = 4
            · rw [if_pos c4, if_neg]
              unfold numV
              rw [if_neg (by omega), if_pos c4]
              split <;> omega
            · rw [if_neg c4, if_neg (by omega), if_neg (by omega)]
        · by_cases t9 : q.typ ≤ 9
          · rw [plB_text (by omega) t9 (hs.2 (by omega) t9), if_neg (by simp), if_neg (by omega), if_pos (by omega)] at hE
            have e2 := htext q.slot (hs.2 (by omega) t9)
            rw [if_pos ⟨by omega, rfl⟩] at e2
            rw [if_neg (by omega), if_neg (by omega), if_pos (by omega), e2]
            exact hE
          · have h10 : ((q.typ : Nat) : Int) = 10 := by omega
            rw [h10, plB_list, if_neg (by simp), if_neg (by decide), if_neg (by decide)] at hE
            rw [h10, if_neg (by decide), if_neg (by decide), if_neg (by decide), if_pos rfl]
            by_cases c64 : 64 ≤ m.l.length
            · rw [if_pos c64] at hE; simp at hE
            · rw [if_neg c64] at hE
              rw [h10] at hl
              rw [if_pos (by decide)] at hl
              unfold lstE
              rw [h10] at hlen
              rw [if_neg (by omega), hl]
              have hx := fldE_list (by omega : q.typ = 10) (h.f q hq)
              exact txtE_app 64 m.l s (txtE_of 64 _ hx.2) hE
    · have hap := (rows_apart k v hq hr hqr).2
      have hqR := ofL_mem _ _ hq
      have hqk := row_num hqR
      have hqs := row_slot hqR
      rw [← h.f q hq]
      unfold sortN at hap
      refine fldE_dep ⟨by omega, by omega⟩ (fun g6 => ?_) (fun g7 g9 => ?_) (fun g10 => ?_)
      · rw [hnum q.slot hqs.1, if_neg]
        rintro ⟨a1, a2⟩
        apply hap
        rw [if_pos (by omega), if_pos a1]
        exact ⟨rfl, by omega⟩
      · rw [htext q.slot (hqs.2 g7 g9), if_neg]
        rintro ⟨a1, a2⟩
        apply hap
        rw [if_neg (by omega), if_pos (by omega), if_neg (by omega), if_pos (by omega)]
        exact ⟨rfl, by omega⟩
      · rw [hl, if_neg]
        intro a1
        have := lists_uni hqR hR (by have := ofL_kindN hq; have := ofL_kindN hr; omega) g10 (by omega)
        exact hqr this
  · rw [hnum j hj, if_neg]
    · exact h.n j hj hm
    · rintro ⟨a1, a2⟩
      unfold mkN at hm
      rw [List.any_eq_false] at hm
      exact hm r hr (by simp only [decide_eq_true_eq]; omega)
  · rw [htext j hj, if_neg]
    · exact h.s j hj hm
    · rintro ⟨a1, a2⟩
      unfold mkS at hm
      rw [List.any_eq_false] at hm
      exact hm r hr (by simp only [decide_eq_true_eq]; omega)
  · rw [hl, if_neg]
    · exact h.l hm
    · intro a1
      unfold mkL at hm
      rw [List.any_eq_false] at hm
      exact hm r hr (by simp only [decide_eq_true_eq]; omega)
  · rcases num_top (setM m (r.typ : Int) (r.slot : Int) n s) i with ⟨j, hj, rfl⟩ | h0
    · rw [hnum j hj]
      split
      · exact numV_le hn
      · exact h.hn _
    · rw [h0]; omega
theorem chkL_zero {m : MV} : ∀ (L : List SRow), (∀ r ∈ L, fldE m r = 0) → chkL m L = (0, 0)
  | [], _ => rfl
  | r :: L, h => by rw [chkL, if_pos (h r (List.mem_cons_self ..)), chkL_zero L fun q hq => h q (List.mem_cons_of_mem _ hq)]
/-- Such a message may be. -/
theorem good_chk {k : Nat} {v : Int} {m : MV} (h : Good k v m) (hL : (ofL (k : Int) v).length ≠ 0) : chkV m (ofL (k : Int) v) = (0, 0) := by
  unfold chkV
  rw [if_neg hL, chkL_zero _ h.f, if_neg (by simp), if_pos]
  rw [sameB_iff]
  have ha : ∀ j : Nat, j ≤ 5 → m.num (j : Int) = (keptM (ofL (k : Int) v) m).num (j : Int) := fun j hj => by
    rw [kept_num _ _ _ hj]
    cases hm : mkN (ofL (k : Int) v) j with
    | true => simp
    | false => simpa using h.n j hj hm
  have hb : ∀ j : Nat, j ≤ 1 → m.text (j : Int) = (keptM (ofL (k : Int) v) m).text (j : Int) := fun j hj => by
    rw [kept_text _ _ _ hj]
    cases hm : mkS (ofL (k : Int) v) j with
    | true => simp
    | false => simpa using h.s j hj hm
  refine ⟨rfl, ⟨ha 0 (by omega), ha 1 (by omega), ha 2 (by omega), ha 3 (by omega), ha 4 (by omega), ha 5 (by omega)⟩, ⟨hb 0 (by omega), hb 1 (by omega)⟩, ?_⟩
  rw [kept_l]
  cases hm : mkL (ofL (k : Int) v) with
  | true => simp
  | false => simpa using h.l hm
/-- What a field that is read has. -/
def RdOk (f : RF × Nat) : Prop := f.1.n ≤ 18446744073709551615 ∧ (f.1.w = 5 → f.1.n ≤ 4294967295)
theorem good_dec {k : Nat} {v : Int} : ∀ (l : List (RF × Nat)) (m : MV), Good k v m → (∀ f ∈ l, RdOk f) → (decF (ofL (k : Int) v) m l).2.2.1 = 0 → Good k v (decF (ofL (k : Int) v) m l).1
  | [], m, h, _, _ => h
  | f :: l, m, h, hl, he => by
    cases ho : ownR (ofL (k : Int) v) f.1.num f.1.w with
    | none =>
      rw [decF_none ho] at he ⊢
      exact good_dec l m h (fun g hg => hl g (List.mem_cons_of_mem _ hg)) he
    | some r =>
      by_cases hs : setE m (r.typ : Int) (r.slot : Int) (rfS f) = 0
      · rw [decF_ok ho hs] at he ⊢
        have hm := own_mem ho
        have hf := hl f (List.mem_cons_self ..)
        refine good_dec l _ (good_set h hm.1 hf.1 (fun h5 => hf.2 ?_) hs) (fun g hg => hl g (List.mem_cons_of_mem _ hg)) he
        rw [← hm.2.2, h5]; rfl
      · rw [decF_bad ho hs] at he
        exact absurd he hs
end Go.Proofs.Ytnfodgjihdoncaa
