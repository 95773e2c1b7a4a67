/- A message read in another version, and with its fields in another order: mathematics. -/
import Derived.Test.YtnfodgjihdoncaaStrMath
set_option linter.unusedVariables false
namespace Go.Proofs.Ytnfodgjihdoncaa
open Go.RowKit
theorem rows_place : (ROWS.all fun a => ROWS.all fun b => !(decide (a.kind = b.kind) && ((decide (a.typ ≤ 6) && decide (b.typ ≤ 6) && decide (a.slot = b.slot)) || (decide (7 ≤ a.typ ∧ a.typ ≤ 9) && decide (7 ≤ b.typ ∧ b.typ ≤ 9) && decide (a.slot = b.slot)) || (decide (a.typ = 10) && decide (b.typ = 10)))) || decide (a = b)) = true := by decide +kernel
/-- No two rows of a kind have one place. -/
theorem place_uni {a b : SRow} (ha : a ∈ ROWS) (hb : b ∈ ROWS) (hk : a.kind = b.kind) (h : (a.typ ≤ 6 ∧ b.typ ≤ 6 ∧ a.slot = b.slot) ∨ ((7 ≤ a.typ ∧ a.typ ≤ 9) ∧ (7 ≤ b.typ ∧ b.typ ≤ 9) ∧ a.slot = b.slot) ∨ (a.typ = 10 ∧ b.typ = 10)) : a = b := by
  have g := List.all_eq_true.1 (List.all_eq_true.1 rows_place a ha) b hb
  rw [Bool.or_eq_true] at g
  rcases g with g | g
  · exfalso
    rw [decide_eq_true hk] at g
    rcases h with ⟨h1, h2, h3⟩ | ⟨h1, h2, h3⟩ | ⟨h1, h2⟩
    · rw [decide_eq_true h1, decide_eq_true h2, decide_eq_true h3] at g; simp at g
    · rw [decide_eq_true h1, decide_eq_true h2, decide_eq_true h3] at g; simp at g
    · rw [decide_eq_true h1, decide_eq_true h2] at g; simp at g
  · simpa using g
section
variable {k v : Int} {M : MV}
theorem not_mkN {r : SRow} (hr : r ∈ ROWS) (hk : (r.kind : Int) = k) (hn : r ∉ ofL k v) (h6 : r.typ ≤ 6) : mkN (ofL k v) r.slot = false := by
  unfold mkN
  rw [List.any_eq_false]
  intro p hp h
  simp only [decide_eq_true_eq] at h
  have hpk := ofL_kindN hp
  have := place_uni (ofL_mem _ _ hp) hr (by omega) (.inl ⟨h.1, h6, h.2⟩)
  subst this
  exact hn hp
theorem not_mkS {r : SRow} (hr : r ∈ ROWS) (hk : (r.kind : Int) = k) (hn : r ∉ ofL k v) (h7 : 7 ≤ r.typ ∧ r.typ ≤ 9) : mkS (ofL k v) r.slot = false := by
  unfold mkS
  rw [List.any_eq_false]
  intro p hp h
  simp only [decide_eq_true_eq] at h
  have hpk := ofL_kindN hp
  have := place_uni (ofL_mem _ _ hp) hr (by omega) (.inr (.inl ⟨h.1, h7, h.2⟩))
  subst this
  exact hn hp
theorem not_mkL {r : SRow} (hr : r ∈ ROWS) (hk : (r.kind : Int) = k) (hn : r ∉ ofL k v) (h10 : r.typ = 10) : mkL (ofL k v) = false := by
  unfold mkL
  rw [List.any_eq_false]
  intro p hp h
  simp only [decide_eq_true_eq] at h
  have hpk := ofL_kindN hp
  have := place_uni (ofL_mem _ _ hp) hr (by omega) (.inr (.inr ⟨h, h10⟩))
  subst this
  exact hn hp
/-- What a message has nothing of. -/
theorem row_dfl (hN : ∀ i : Nat, i ≤ 5 → mkN (ofL k v) i = false → M.num (i : Int) = 0) (hS : ∀ i : Nat, i ≤ 1 → mkS (ofL k v) i = false → M.text (i : Int) = ⟨#[]⟩) (hL : mkL (ofL k v) = false → M.l = []) {r : SRow} (hr : r ∈ ROWS) (hk : (r.kind : Int) = k) (hn : r ∉ ofL k v) : dflB M (r.typ : Nat) (r.slot : Nat) = true := by
  have h1 := row_num hr
  have h2 := row_slot hr
  by_cases h6 : r.typ ≤ 6
  · rw [dfl_num _ _ _ (by omega), hN _ h2.1 (not_mkN hr hk hn h6)]; rfl
  · by_cases h9 : r.typ ≤ 9
    · rw [dfl_text _ _ _ (by omega), hS _ (h2.2 (by omega) h9) (not_mkS hr hk hn (by omega))]; rfl
    · have h10 : r.typ = 10 := by omega
      have e := hL (not_mkL hr hk hn h10)
      rw [h10, show ((10 : Nat) : Int) = 10 from rfl, dfl_list, e]; rfl
end
theorem rowP_dfl {M : MV} {r : SRow} (hr : r ∈ ROWS) (h : rowP M r = []) : dflB M (r.typ : Nat) (r.slot : Nat) = true := by
  cases hd : dflB M (r.typ : Nat) (r.slot : Nat) with
  | true => rfl
  | false =>
    unfold rowP at h
    rw [hd] at h
    simp only [Bool.false_eq_true, if_false] at h
    unfold partW at h
    by_cases h10 : ((r.typ : Nat) : Int) = 10
    · rw [if_pos h10] at h
      have hl : M.l = [] := by simpa using h
      rw [h10, dfl_list, hl] at hd
      exact absurd hd (by decide)
    · rw [if_neg h10] at h
      split at h
      · simp at h
      · split at h <;> simp at h
theorem fldR_dfl {M : MV} {r : SRow} (h : dflB M (r.typ : Nat) (r.slot : Nat) = true) : fldR M r = [] := by
  unfold fldR fldB; rw [if_pos h]
theorem flat_filter {α β : Type} (f : α → List β) (p : α → Bool) : ∀ (l : List α), (∀ a ∈ l, p a = false → f a = []) → (l.filter p).flatMap f = l.flatMap f
  | [], _ => rfl
  | a :: l, h => by
    have ih := flat_filter f p l fun b hb => h b (List.mem_cons_of_mem _ hb)
    cases hp : p a with
    | true => rw [List.filter_cons_of_pos (by simpa using hp), List.flatMap_cons, List.flatMap_cons, ih]
    | false => rw [List.filter_cons_of_neg (by simpa using hp), List.flatMap_cons, h a (List.mem_cons_self ..) hp, ih]; rfl
/-- All rows of a kind. -/
def kR (k : Int) : List SRow := ROWS.filter fun r => decide ((r.kind : Int) = k)
theorem kR_mem {k : Int} {r : SRow} (h : r ∈ kR k) : r ∈ ROWS ∧ (r.kind : Int) = k := by
  unfold kR at h
  rw [List.mem_filter] at h
  exact ⟨h.1, by simpa using h.2⟩
theorem ofL_filt (k v : Int) : ofL k v = ROWS.filter fun r => decide (r ∈ ofL k v) := by
  by_cases hv : 3 < v
  · have : ofL k v = [] := by unfold ofL kn; rw [if_pos hv]; rfl
    rw [this]; simp
  · have e : ofL k v = ROWS.filter fun r => decide ((r.kind : Int) = k) && decide ((r.since : Int) ≤ v) := by
      unfold ofL kn; rw [if_neg hv, List.filter_filter]
    conv => lhs; rw [e]
    refine List.filter_congr fun r hr => ?_
    rw [Bool.eq_iff_iff]
    simp only [Bool.and_eq_true, decide_eq_true_eq, ofL_iff]
    exact ⟨fun h => ⟨by omega, hr, h.2, h.1⟩, fun h => ⟨h.2.2.2, h.2.2.1⟩⟩
theorem ofL_kR (k v : Int) : (kR k).filter (fun r => decide (r ∈ ofL k v)) = ofL k v := by
  conv => rhs; rw [ofL_filt]
  unfold kR
  rw [List.filter_filter]
  refine List.filter_congr fun r hr => ?_
  rw [Bool.eq_iff_iff]
  simp only [Bool.and_eq_true, decide_eq_true_eq]
  exact ⟨fun h => h.1, fun h => ⟨h, ofL_kindN h⟩⟩
theorem flat_kR {k v : Int} {M : MV} (hz : ∀ r ∈ ROWS, (r.kind : Int) = k → r ∉ ofL k v → fldR M r = []) : (ofL k v).flatMap (fldR M) = (kR k).flatMap (fldR M) := by
  have h := flat_filter (fldR M) (fun r => decide (r ∈ ofL k v)) (kR k) fun r hr hp => hz r (kR_mem hr).1 (kR_mem hr).2 (by simpa using hp)
  rw [ofL_kR] at h
  exact h
theorem chk_alike {a b : MV} {L : List SRow} (h : sameB a b = true) : chkV a L = chkV b L := by
  obtain ⟨h1, ⟨a0, a1, a2, a3, a4, a5⟩, ⟨b0, b1⟩, hl⟩ := (sameB_iff a b).1 h
  obtain ⟨k, n0, n1, n2, n3, n4, n5, s0, s1, A, c, l⟩ := a
  obtain ⟨k', m0, m1, m2, m3, m4, m5, t0, t1, A', c', l'⟩ := b
  simp only at h1 a0 a1 a2 a3 a4 a5 b0 b1 hl
  subst h1 a0 a1 a2 a3 a4 a5 b0 b1 hl
  exact chkV_ac ⟨k, n0, n1, n2, n3, n4, n5, s0, s1, A', c', l⟩ A c L
/-- What is read of parts of a message in any order, in any version. -/
theorem read_rows {M : MV} (v o : Int) (hn : ∀ i, M.num i ≤ 18446744073709551615) (hsm : MvSm M) (hc : (chkV M (ofL (M.k : Int) v)).1 = 0) (ho : (ofL (M.k : Int) o).length ≠ 0) (R : List SRow) (hR : R.Perm (ofL (M.k : Int) v)) :
    ∃ M2 oth, readR M.k o ((allP M R).flatMap wB) = (M2, oth, 0, 0) ∧ sameB M2 (keptM (ofL (M.k : Int) o) M) = true ∧ oth.map keyF = allP M (R.filter fun r => decide (r ∉ ofL (M.k : Int) o)) := by
  have hz := chkV_zero hc
  have hmem : ∀ r, r ∈ R ↔ r ∈ ofL (M.k : Int) v := fun r => hR.mem_iff
  have hL : ∀ r ∈ R, r ∈ ROWS := fun r hr => ofL_mem _ _ ((hmem r).1 hr)
  have hE0 := chkL_all _ hz.2.2.1
  have hE : ∀ r ∈ R, fldE M r = 0 := fun r hr => hE0 r ((hmem r).1 hr)
  have hok : ∀ x ∈ allP M R, pErrF (ptF x) = 0 ∧ (ptF x).n ≤ 18446744073709551615 ∧ 0 ≤ (ptF x).w ∧ (ptF x).w ≤ 255 := fun x hx => by
    obtain ⟨r, hr, hp⟩ := allP_ok hn hsm hL hx
    exact hp.put (hL r hr)
  have hf := flat_flds (allP M R) hok
  have hcap : ((allP M R).flatMap wB).length ≤ 8192 := by
    have h1 := enc_cap v hn hsm
    rw [encB_allP hsm (fun r hr => ofL_mem _ _ hr) hc] at h1
    have hp : (allP M R).Perm (allP M (ofL (M.k : Int) v)) := by unfold allP; exact hR.flatMap_right _
    have hp2 := hp.flatMap_right wB
    rw [hp2.length_eq]
    exact h1
  have hkeys : (putL ((allP M R).map ptF) 0).map keyF = allP M R := by
    have h := putL_map (allP M R) 0
    have hb : (allP M R).map bareP = allP M R := by
      conv => rhs; rw [← List.map_id (allP M R)]
      refine List.map_congr_left fun x hx => ?_
      unfold allP at hx
      obtain ⟨r, hr, hx⟩ := List.mem_flatMap.1 hx
      exact rowP_bare (hL r hr) (hE r hr) hx
    rw [hb] at h
    exact h
  obtain ⟨sN, sS, sL⟩ := same_kept hz.2.2.2
  have hl64 : M.l.length ≤ 64 := by
    cases hm : mkL (ofL (M.k : Int) v) with
    | false => rw [sL hm]; simp
    | true =>
      unfold mkL at hm
      obtain ⟨r, hr, h10⟩ := List.any_eq_true.1 hm
      simp only [decide_eq_true_eq] at h10
      exact (fldE_list h10 (hE0 r hr)).1
  have hS : ({ ZM with k := M.k } : MV).l.length + M.l.length ≤ 64 := by simpa [ZM] using hl64
  have hnd : R.Nodup := hR.nodup_iff.2 (nodup_ofL M.k v)
  obtain ⟨oth, e1, e2⟩ := up_gen (k := (M.k : Int)) (o := o) (b := M) (S := { ZM with k := M.k }) hn hS R [] (fun r hr => ⟨hL r hr, ofL_kindN ((hmem r).1 hr), hE r hr⟩) (fun p hp => by simp at hp) (by simpa using hnd) _ hkeys
  rw [up_nil, List.nil_append] at e1
  refine ⟨updM (R.filter fun r => decide (r ∈ ofL (M.k : Int) o)) { ZM with k := M.k } M, oth, ?_, ?_, e2⟩
  · unfold readR
    rw [if_neg ho, if_neg (by omega), hf]
    simp only
    rw [if_neg (by simp), e1, if_neg (by simp)]
  · obtain ⟨F, hF⟩ : ∃ F, R.filter (fun r => decide (r ∈ ofL (M.k : Int) o)) = F := ⟨_, rfl⟩
    have hFm : ∀ r, r ∈ F ↔ r ∈ ofL (M.k : Int) v ∧ r ∈ ofL (M.k : Int) o := fun r => by rw [← hF, List.mem_filter, hmem]; simp
    rw [hF]
    have kN : ∀ i : Nat, i ≤ 5 → up (mkN F i) (M.num (i : Int)) 0 = if mkN (ofL (M.k : Int) o) i then M.num (i : Int) else 0 := fun i hi => by
      unfold up
      cases ho : mkN (ofL (M.k : Int) o) i with
      | false =>
        have : mkN F i = false := any_mono (fun r hr => ((hFm r).1 hr).2) ho
        rw [this]; simp
      | true =>
        by_cases c : M.num (i : Int) = 0
        · simp [c]
        · have hv : mkN (ofL (M.k : Int) v) i = true := by
            cases hq : mkN (ofL (M.k : Int) v) i with
            | true => rfl
            | false => exact absurd (sN i hi hq) c
          have : mkN F i = true := by
            unfold mkN at ho hv ⊢
            obtain ⟨r, hr, h1⟩ := List.any_eq_true.1 ho
            obtain ⟨q, hq, h2⟩ := List.any_eq_true.1 hv
            simp only [decide_eq_true_eq] at h1 h2
            have e3 := ofL_kindN hr
            have e4 := ofL_kindN hq
            have := place_uni (ofL_mem _ _ hr) (ofL_mem _ _ hq) (by omega) (.inl ⟨h1.1, h2.1, by omega⟩)
            subst this
            exact List.any_eq_true.2 ⟨r, (hFm r).2 ⟨hq, hr⟩, by simpa using h1⟩
          rw [this]; simp [c]
    have kS : ∀ i : Nat, i ≤ 1 → us (mkS F i) (M.text (i : Int)) ⟨#[]⟩ = if mkS (ofL (M.k : Int) o) i then M.text (i : Int) else ⟨#[]⟩ := fun i hi => by
      unfold us
      cases ho : mkS (ofL (M.k : Int) o) i with
      | false =>
        have : mkS F i = false := any_mono (fun r hr => ((hFm r).1 hr).2) ho
        rw [this]; simp
      | true =>
        by_cases c : M.text (i : Int) = ⟨#[]⟩
        · simp [c]
        · have hv : mkS (ofL (M.k : Int) v) i = true := by
            cases hq : mkS (ofL (M.k : Int) v) i with
            | true => rfl
            | false => exact absurd (sS i hi hq) c
          have : mkS F i = true := by
            unfold mkS at ho hv ⊢
            obtain ⟨r, hr, h1⟩ := List.any_eq_true.1 ho
            obtain ⟨q, hq, h2⟩ := List.any_eq_true.1 hv
            simp only [decide_eq_true_eq] at h1 h2
            have e3 := ofL_kindN hr
            have e4 := ofL_kindN hq
            have := place_uni (ofL_mem _ _ hr) (ofL_mem _ _ hq) (by omega) (.inr (.inl ⟨h1.1, h2.1, by omega⟩))
            subst this
            exact List.any_eq_true.2 ⟨r, (hFm r).2 ⟨hq, hr⟩, by simpa using h1⟩
          rw [this]; simp [c]
    have kL : (if mkL F then ([] : List ByteArray) ++ M.l else []) = if mkL (ofL (M.k : Int) o) then M.l else [] := by
      cases ho : mkL (ofL (M.k : Int) o) with
      | false =>
        have : mkL F = false := any_mono (fun r hr => ((hFm r).1 hr).2) ho
        rw [this]; simp
      | true =>
        cases hq : mkL (ofL (M.k : Int) v) with
        | false => rw [sL hq]; simp
        | true =>
          have : mkL F = true := by
            unfold mkL at ho hq ⊢
            obtain ⟨r, hr, h1⟩ := List.any_eq_true.1 ho
            obtain ⟨q, hq, h2⟩ := List.any_eq_true.1 hq
            simp only [decide_eq_true_eq] at h1 h2
            have e3 := ofL_kindN hr
            have e4 := ofL_kindN hq
            have := place_uni (ofL_mem _ _ hr) (ofL_mem _ _ hq) (by omega) (.inr (.inr ⟨h1, h2⟩))
            subst this
            exact List.any_eq_true.2 ⟨r, (hFm r).2 ⟨hq, hr⟩, by simpa using h1⟩
          rw [this]; simp
    rw [sameB_iff]
    refine ⟨rfl, ⟨?_, ?_, ?_, ?_, ?_, ?_⟩, ⟨?_, ?_⟩, ?_⟩
    · exact kN 0 (by omega)
    · exact kN 1 (by omega)
    · exact kN 2 (by omega)
    · exact kN 3 (by omega)
    · exact kN 4 (by omega)
    · exact kN 5 (by omega)
    · exact kS 0 (by omega)
    · exact kS 1 (by omega)
    · rw [kept_l]; exact kL
/-- A message in another version. -/
theorem read_other {M : MV} (v o : Int) (hn : ∀ i, M.num i ≤ 18446744073709551615) (hsm : MvSm M) (hc : (chkV M (ofL (M.k : Int) v)).1 = 0) (ho : (ofL (M.k : Int) o).length ≠ 0) :
    ∃ M2 oth, readR M.k o (encB M (ofL (M.k : Int) v)) = (M2, oth, 0, 0) ∧ sameB M2 (keptM (ofL (M.k : Int) o) M) = true ∧ (encB M2 (ofL (M.k : Int) o) = encB M (ofL (M.k : Int) v) ↔ oth = []) ∧ (v ≤ o → oth = [] ∧ sameB M2 M = true) := by
  have hb := encB_allP hsm (fun r hr => ofL_mem (M.k : Int) v hr) hc
  obtain ⟨M2, oth, e1, e2, e3⟩ := read_rows v o hn hsm hc ho _ (List.Perm.refl _)
  rw [← hb] at e1
  have hz := chkV_zero hc
  obtain ⟨sN, sS, sL⟩ := same_kept hz.2.2.2
  have hg : Good M.k o M2 := by
    rcases read_good M.k o (encB M (ofL (M.k : Int) v)) with ⟨h1, -, -⟩ | ⟨-, h2, -⟩
    · rw [e1] at h1; exact absurd rfl h1
    · rw [e1] at h2; exact h2
  have hc2 := good_chk hg ho
  have hns : oth = [] → sameB M2 M = true := fun hnil => by
    rw [hnil] at e3
    have hno : ∀ r ∈ ofL (M.k : Int) v, r ∉ ofL (M.k : Int) o → dflB M (r.typ : Nat) (r.slot : Nat) = true := fun r hr hro => by
      refine rowP_dfl (ofL_mem _ _ hr) ?_
      have h : allP M ((ofL (M.k : Int) v).filter fun r => decide (r ∉ ofL (M.k : Int) o)) = [] := e3.symm
      unfold allP at h
      rw [List.flatMap_eq_nil_iff] at h
      exact h r (List.mem_filter.2 ⟨hr, by simpa using hro⟩)
    have hk : sameB M (keptM (ofL (M.k : Int) o) M) = true := by
      refine kept_same (fun i hi hm => ?_) (fun i hi hm => ?_) fun hm => ?_
      · cases hq : mkN (ofL (M.k : Int) v) i with
        | false => exact sN i hi hq
        | true =>
          unfold mkN at hq
          obtain ⟨r, hr, h1⟩ := List.any_eq_true.1 hq
          simp only [decide_eq_true_eq] at h1
          have hro : r ∉ ofL (M.k : Int) o := fun h => by
            unfold mkN at hm
            rw [List.any_eq_false] at hm
            exact hm r h (by simpa using h1)
          have hd := hno r hr hro
          have := row_num (ofL_mem _ _ hr)
          rw [dfl_num _ _ _ (by omega), h1.2] at hd
          simpa using hd
      · cases hq : mkS (ofL (M.k : Int) v) i with
        | false => exact sS i hi hq
        | true =>
          unfold mkS at hq
          obtain ⟨r, hr, h1⟩ := List.any_eq_true.1 hq
          simp only [decide_eq_true_eq] at h1
          have hro : r ∉ ofL (M.k : Int) o := fun h => by
            unfold mkS at hm
            rw [List.any_eq_false] at hm
            exact hm r h (by simpa using h1)
          have hd := hno r hr hro
          rw [dfl_text _ _ _ (by omega), h1.2] at hd
          simpa using hd
      · cases hq : mkL (ofL (M.k : Int) v) with
        | false => exact sL hq
        | true =>
          unfold mkL at hq
          obtain ⟨r, hr, h1⟩ := List.any_eq_true.1 hq
          simp only [decide_eq_true_eq] at h1
          have hro : r ∉ ofL (M.k : Int) o := fun h => by
            unfold mkL at hm
            rw [List.any_eq_false] at hm
            exact hm r h (by simpa using h1)
          have hd := hno r hr hro
          rw [h1, show ((10 : Nat) : Int) = 10 from rfl, dfl_list] at hd
          simpa using hd
    obtain ⟨a1, ⟨a2, a3, a4, a5, a6, a7⟩, ⟨a8, a9⟩, a10⟩ := (sameB_iff _ _).1 e2
    obtain ⟨b1, ⟨b2, b3, b4, b5, b6, b7⟩, ⟨b8, b9⟩, b10⟩ := (sameB_iff _ _).1 (same_symm hk)
    exact (sameB_iff _ _).2 ⟨a1.trans b1, ⟨a2.trans b2, a3.trans b3, a4.trans b4, a5.trans b5, a6.trans b6, a7.trans b7⟩, ⟨a8.trans b8, a9.trans b9⟩, a10.trans b10⟩
  refine ⟨M2, oth, e1, e2, ⟨fun hown => ?_, fun hnil => ?_⟩, fun hvo => ?_⟩
  · obtain ⟨M3, r1, -⟩ := read_back (M := M2) o hg.hn (good_sm hg) (by rw [hg.hk, hc2])
    rw [hg.hk, hown, e1] at r1
    simp only [Prod.mk.injEq] at r1
    exact r1.2.1
  · have hs := hns hnil
    rw [hnil] at e3
    have h1 : encB M2 (ofL (M.k : Int) o) = encB M (ofL (M.k : Int) o) := enc_alike hs
    rw [h1]
    have c1 : (chkV M (ofL (M.k : Int) o)).1 = 0 := by rw [← chk_alike hs, hc2]
    unfold encB
    rw [if_pos c1, if_pos hc]
    have zv : ∀ r ∈ ROWS, (r.kind : Int) = (M.k : Int) → r ∉ ofL (M.k : Int) v → fldR M r = [] := fun r hr hk hn => fldR_dfl (row_dfl sN sS sL hr hk hn)
    have zo : ∀ r ∈ ROWS, (r.kind : Int) = (M.k : Int) → r ∉ ofL (M.k : Int) o → fldR M r = [] := fun r hr hk hno => by
      by_cases hv : r ∈ ofL (M.k : Int) v
      · refine fldR_dfl (rowP_dfl hr ?_)
        have h : allP M ((ofL (M.k : Int) v).filter fun r => decide (r ∉ ofL (M.k : Int) o)) = [] := e3.symm
        unfold allP at h
        rw [List.flatMap_eq_nil_iff] at h
        exact h r (List.mem_filter.2 ⟨hv, by simpa using hno⟩)
      · exact zv r hr hk hv
    rw [flat_kR zo, flat_kR zv]
  · have hsub : ∀ r ∈ ofL (M.k : Int) v, r ∈ ofL (M.k : Int) o := fun r hr => by
      have h := (ofL_iff _ _ _).1 hr
      have ho3 : o ≤ 3 := by
        by_cases c : 3 < o
        · exfalso; apply ho; unfold ofL kn; rw [if_pos c]; rfl
        · omega
      exact (ofL_iff _ _ _).2 ⟨ho3, h.2.1, by omega, h.2.2.2⟩
    have hnil : oth = [] := by
      have : (ofL (M.k : Int) v).filter (fun r => decide (r ∉ ofL (M.k : Int) o)) = [] := List.filter_eq_nil_iff.2 fun r hr => by simpa using hsub r hr
      rw [this] at e3
      simpa [allP] using e3
    exact ⟨hnil, hns hnil⟩
end Go.Proofs.Ytnfodgjihdoncaa
