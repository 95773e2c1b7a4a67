/- A message of which one field has nothing: plain mathematics. -/
import Derived.Test.YtnfodgjihdoncaaEncCap
import Derived.Test.YtnfodgjihdoncaaSkWo8
set_option linter.unusedVariables false
namespace Go.Proofs.Ytnfodgjihdoncaa
open Go.RowKit
/-- A message without what a field has. -/
def clrM (M : MV) (r : SRow) : MV := if r.typ = 10 then { M with A := none, c := 0, l := [] } else if 7 ≤ r.typ then { M with s0 := if r.slot = 0 then ⟨#[]⟩ else M.s0, s1 := if r.slot = 1 then ⟨#[]⟩ else M.s1 } else { M with n0 := if r.slot = 0 then 0 else M.n0, n1 := if r.slot = 1 then 0 else M.n1, n2 := if r.slot = 2 then 0 else M.n2, n3 := if r.slot = 3 then 0 else M.n3, n4 := if r.slot = 4 then 0 else M.n4, n5 := if r.slot = 5 then 0 else M.n5 }
theorem clr_num (M : MV) (r : SRow) (i : Nat) (hi : i ≤ 5) : (clrM M r).num (i : Int) = if r.typ ≤ 6 ∧ r.slot = i then 0 else M.num (i : Int) := by
  have hi : i = 0 ∨ i = 1 ∨ i = 2 ∨ i = 3 ∨ i = 4 ∨ i = 5 := by omega
  unfold clrM
  by_cases c1 : r.typ = 10
  · rw [if_pos c1, if_neg (by omega)]
    rcases hi with rfl | rfl | rfl | rfl | rfl | rfl <;> rfl
  by_cases c2 : 7 ≤ r.typ
  · rw [if_neg c1, if_pos c2, if_neg (show ¬ (r.typ ≤ 6 ∧ r.slot = i) by omega)]
    rcases hi with rfl | rfl | rfl | rfl | rfl | rfl <;> rfl
  · rw [if_neg c1, if_neg c2]
    have c3 : r.typ ≤ 6 := by omega
    simp only [c3, true_and]
    rcases hi with rfl | rfl | rfl | rfl | rfl | rfl <;> rfl
theorem clr_text (M : MV) (r : SRow) (i : Nat) (hi : i ≤ 1) : (clrM M r).text (i : Int) = if (7 ≤ r.typ ∧ r.typ ≠ 10) ∧ r.slot = i then ⟨#[]⟩ else M.text (i : Int) := by
  have hi : i = 0 ∨ i = 1 := by omega
  unfold clrM
  by_cases c1 : r.typ = 10
  · rw [if_pos c1, if_neg (by omega)]
    rcases hi with rfl | rfl <;> rfl
  by_cases c2 : 7 ≤ r.typ
  · rw [if_neg c1, if_pos c2]
    simp only [c2, c1, ne_eq, not_false_eq_true, and_self, true_and]
    rcases hi with rfl | rfl <;> rfl
  · rw [if_neg c1, if_neg c2, if_neg (show ¬ ((7 ≤ r.typ ∧ r.typ ≠ 10) ∧ r.slot = i) by omega)]
    rcases hi with rfl | rfl <;> rfl
theorem clr_l (M : MV) (r : SRow) : (clrM M r).l = if r.typ = 10 then [] else M.l := by
  unfold clrM
  by_cases c1 : r.typ = 10
  · rw [if_pos c1, if_pos c1]
  · rw [if_neg c1, if_neg c1]
    split <;> rfl
theorem clr_k (M : MV) (r : SRow) : (clrM M r).k = M.k := by
  unfold clrM
  split
  · rfl
  split <;> rfl
theorem num_top (M : MV) (i : Int) : (∃ k : Nat, k ≤ 5 ∧ i = (k : Int)) ∨ M.num i = 0 := by
  by_cases h : i < 0 ∨ 6 ≤ i
  · exact .inr (num_out M i h)
  · exact .inl ⟨i.toNat, by omega, by omega⟩
theorem text_top (M : MV) (i : Int) : (∃ k : Nat, k ≤ 1 ∧ i = (k : Int)) ∨ M.text i = ⟨#[]⟩ := by
  by_cases h : i < 0 ∨ 2 ≤ i
  · exact .inr (text_out M i h)
  · exact .inl ⟨i.toNat, by omega, by omega⟩
theorem clr_n {M : MV} (r : SRow) (h : ∀ i, M.num i ≤ 18446744073709551615) : ∀ i, (clrM M r).num i ≤ 18446744073709551615 := fun i => by
  rcases num_top (clrM M r) i with ⟨k, hk, rfl⟩ | h0
  · rw [clr_num M r k hk]
    split
    · omega
    · exact h _
  · omega
theorem clr_sm {M : MV} (r : SRow) (h : MvSm M) : MvSm (clrM M r) := by
  refine ⟨?_, fun i => ?_, fun s hs => ?_⟩
  · rw [clr_l]; split
    · simp
    · exact h.l
  · rcases text_top (clrM M r) i with ⟨k, hk, rfl⟩ | h0
    · rw [clr_text M r k hk]
      split
      · decide
      · exact h.s _
    · rw [h0]; decide
  · rw [clr_l] at hs
    split at hs
    · simp at hs
    · exact h.e s hs
theorem row_slot {r : SRow} (h : r ∈ ROWS) : r.slot ≤ 5 ∧ (7 ≤ r.typ → r.typ ≤ 9 → r.slot ≤ 1) := by have := row_ok2 h; exact ⟨this.2.2.1, this.2.2.2⟩
theorem clr_dfl (M : MV) {r : SRow} (hr : r ∈ ROWS) : dflB (clrM M r) (r.typ : Nat) (r.slot : Nat) = true := by
  have hk := row_num hr
  have hs := row_slot hr
  by_cases c1 : r.typ = 10
  · rw [c1, show ((10 : Nat) : Int) = 10 from rfl, dfl_list, clr_l, if_pos c1]; rfl
  by_cases c2 : 7 ≤ r.typ
  · rw [dfl_text _ _ _ (by omega), clr_text M r _ (hs.2 c2 (by omega)), if_pos ⟨⟨c2, c1⟩, rfl⟩]; simp
  · rw [dfl_num _ _ _ (by omega), clr_num M r _ hs.1, if_pos ⟨by omega, rfl⟩]; simp
theorem rowP_dep {m m' : MV} {r : SRow} (hr : r ∈ ROWS) (h1 : r.typ ≤ 6 → m.num (r.slot : Nat) = m'.num (r.slot : Nat)) (h2 : 7 ≤ r.typ → r.typ ≤ 9 → m.text (r.slot : Nat) = m'.text (r.slot : Nat)) (h3 : r.typ = 10 → m.l = m'.l) : rowP m r = rowP m' r := by
  have hk := row_num hr
  unfold rowP
  by_cases c1 : r.typ = 10
  · have e := h3 c1
    have hp : ∀ M : MV, partW M (r.num : Nat) ((10 : Nat) : Int) (r.slot : Nat) = M.l.map (fun s => ((r.num : Int), 2, 0, s.data.toList)) := fun M => by unfold partW; exact if_pos (by decide)
    rw [c1, hp m, hp m', show ((10 : Nat) : Int) = 10 from rfl, dfl_list, dfl_list, e]
  by_cases c2 : 7 ≤ r.typ
  · have e := h2 c2 (by omega)
    have hp : ∀ M : MV, partW M (r.num : Nat) (r.typ : Nat) (r.slot : Nat) = [((r.num : Int), 2, 0, (M.text (r.slot : Nat)).data.toList)] := fun M => by
      unfold partW
      rw [if_neg (by omega), if_pos (by omega)]
    rw [hp m, hp m', dfl_text _ _ _ (by omega), dfl_text _ _ _ (by omega), e]
  · have e := h1 (by omega)
    have hp : ∀ M : MV, partW M (r.num : Nat) (r.typ : Nat) (r.slot : Nat) = if (r.typ : Int) = 3 then [((r.num : Int), 0, (zig (wrap64 (M.num (r.slot : Nat) : Nat))).toNat, [])] else [((r.num : Int), (wireN (r.typ : Nat) : Int), M.num (r.slot : Nat), [])] := fun M => by
      unfold partW
      rw [if_neg (by omega), if_neg (by omega)]
    rw [hp m, hp m', dfl_num _ _ _ (by omega), dfl_num _ _ _ (by omega), e]
/-- Two rows of a kind have unlike numbers and places. -/
theorem rows_apart (k : Nat) (v : Int) {r x : SRow} (hr : r ∈ ofL (k : Int) v) (hx : x ∈ ofL (k : Int) v) (hne : r ≠ x) : r.num ≠ x.num ∧ ¬ (sortN r.typ = sortN x.typ ∧ r.slot = x.slot) := by
  obtain ⟨i, hi, rfl⟩ := List.getElem_of_mem hr
  obtain ⟨j, hj, rfl⟩ := List.getElem_of_mem hx
  rcases Nat.lt_trichotomy i j with h | h | h
  · have := grow_apart k v j i hj h
    exact ⟨by omega, this.2⟩
  · subst h; exact absurd rfl hne
  · have := grow_apart k v i j hi h
    exact ⟨by omega, fun h2 => this.2 ⟨h2.1.symm, h2.2.symm⟩⟩
theorem lists_apart : (ROWS.all fun r => !decide (r.typ = 10) || decide (r.slot = 0)) = true := by decide +kernel
theorem clr_keeps (M : MV) (k : Nat) (v : Int) {r x : SRow} (hr : r ∈ ofL (k : Int) v) (hx : x ∈ ofL (k : Int) v) (hne : r ≠ x) : (r.typ ≤ 6 → (clrM M x).num (r.slot : Nat) = M.num (r.slot : Nat)) ∧ (7 ≤ r.typ → r.typ ≤ 9 → (clrM M x).text (r.slot : Nat) = M.text (r.slot : Nat)) ∧ (r.typ = 10 → (clrM M x).l = M.l) := by
  have hap := (rows_apart k v hr hx hne).2
  have hsr := row_slot (ofL_mem _ _ hr)
  have hkx := row_num (ofL_mem _ _ hx)
  refine ⟨fun h => ?_, fun h h9 => ?_, fun h => ?_⟩
  · rw [clr_num M x _ hsr.1, if_neg]
    rintro ⟨h1, h2⟩
    exact hap ⟨by unfold sortN; rw [if_pos (show (r.typ : Int) ≤ 6 by omega), if_pos (show (x.typ : Int) ≤ 6 by omega)], h2.symm⟩
  · rw [clr_text M x _ (hsr.2 h h9), if_neg]
    rintro ⟨⟨h1, h3⟩, h2⟩
    exact hap ⟨by unfold sortN; rw [if_neg (show ¬ (r.typ : Int) ≤ 6 by omega), if_pos (show (r.typ : Int) < 10 by omega), if_neg (show ¬ (x.typ : Int) ≤ 6 by omega), if_pos (show (x.typ : Int) < 10 by omega)], h2.symm⟩
  · rw [clr_l, if_neg]
    intro h1
    have e1 := List.all_eq_true.1 lists_apart r (ofL_mem _ _ hr)
    have e2 := List.all_eq_true.1 lists_apart x (ofL_mem _ _ hx)
    rw [h] at e1
    rw [h1] at e2
    simp at e1 e2
    exact hap ⟨by rw [h, h1], by omega⟩
theorem clr_rows (M : MV) (k : Nat) (v : Int) {r x : SRow} (hr : r ∈ ofL (k : Int) v) (hx : x ∈ ofL (k : Int) v) : rowP (clrM M x) r = if r = x then [] else rowP M r := by
  by_cases h : r = x
  · subst h
    rw [if_pos rfl]
    unfold rowP
    rw [clr_dfl M (ofL_mem _ _ hr)]
    rfl
  · rw [if_neg h]
    obtain ⟨h1, h2, h3⟩ := clr_keeps M k v hr hx h
    exact rowP_dep (ofL_mem _ _ hr) h1 h2 h3
theorem fm_congr {α β : Type} {f g : α → List β} : ∀ (l : List α), (∀ x ∈ l, f x = g x) → l.flatMap f = l.flatMap g
  | [], _ => rfl
  | x :: l, h => by rw [List.flatMap_cons, List.flatMap_cons, h x (List.mem_cons_self ..), fm_congr l fun y hy => h y (List.mem_cons_of_mem _ hy)]
theorem clr_all {M : MV} (k : Nat) (v : Int) (hn : ∀ i, M.num i ≤ 18446744073709551615) (hsm : MvSm M) {x : SRow} (hx : x ∈ ofL (k : Int) v) : allP (clrM M x) (ofL (k : Int) v) = (allP M (ofL (k : Int) v)).filter (fun y => decide (¬ y.1 = (x.num : Int))) := by
  unfold allP
  rw [List.filter_flatMap]
  refine fm_congr _ fun r hr => ?_
  rw [clr_rows M k v hr hx]
  by_cases h : r = x
  · rw [if_pos h]
    refine (List.filter_eq_nil_iff.2 fun y hy => ?_).symm
    have := (rowP_ok hn hsm (ofL_mem _ _ hr) hy).num
    subst h
    simp [this]
  · rw [if_neg h]
    refine (List.filter_eq_self.2 fun y hy => ?_).symm
    have h1 := (rowP_ok hn hsm (ofL_mem _ _ hr) hy).num
    have h2 := (rows_apart k v hr hx h).1
    simp only [decide_eq_true_eq]
    omega
theorem clr_chk {M : MV} (k : Nat) (v : Int) (hc : (chkV M (ofL (k : Int) v)).1 = 0) {x : SRow} (hx : x ∈ ofL (k : Int) v) : chkV (clrM M x) (ofL (k : Int) v) = (0, 0) := by
  have hz := chkV_zero hc
  have hf := chkL_all _ hz.2.2.1
  have hk := same_kept hz.2.2.2
  have h1 : chkL (clrM M x) (ofL (k : Int) v) = (0, 0) := chkL_none _ fun r hr => by
    by_cases h : r = x
    · subst h
      unfold fldE
      rw [clr_dfl M (ofL_mem _ _ hr)]
      rfl
    · obtain ⟨e1, e2, e3⟩ := clr_keeps M k v hr hx h
      have hkr := row_num (ofL_mem _ _ hr)
      rw [fldE_dep (m := clrM M x) (m' := M) ⟨hkr.2.2.1, hkr.2.2.2⟩ e1 e2 e3]
      exact hf r hr
  have h2 : sameB (clrM M x) (keptM (ofL (k : Int) v) (clrM M x)) = true := by
    refine kept_same (fun i hi hm => ?_) (fun i hi hm => ?_) (fun hm => ?_)
    · rw [clr_num M x i hi]
      split
      · rfl
      · exact hk.1 i hi hm
    · rw [clr_text M x i hi]
      split
      · rfl
      · exact hk.2.1 i hi hm
    · rw [clr_l]
      split
      · rfl
      · exact hk.2.2 hm
  unfold chkV
  rw [if_neg hz.2.1, if_neg (by rw [h1]; simp), if_pos h2]
theorem clr_enc {M : MV} (k : Nat) (v : Int) (hn : ∀ i, M.num i ≤ 18446744073709551615) (hsm : MvSm M) (hc : (chkV M (ofL (k : Int) v)).1 = 0) {x : SRow} (hx : x ∈ ofL (k : Int) v) : encB (clrM M x) (ofL (k : Int) v) = ((allP M (ofL (k : Int) v)).filter (fun y => decide (¬ y.1 = (x.num : Int)))).flatMap wB := by
  rw [encB_allP (clr_sm x hsm) (fun r hr => ofL_mem _ _ hr) (by rw [clr_chk k v hc hx]), clr_all k v hn hsm hx]
/-- Its bytes are those of the message just if the field had nothing. -/
theorem clr_same {M : MV} (k : Nat) (v : Int) (hn : ∀ i, M.num i ≤ 18446744073709551615) (hsm : MvSm M) (hc : (chkV M (ofL (k : Int) v)).1 = 0) {x : SRow} (hx : x ∈ ofL (k : Int) v) : decide (encB M (ofL (k : Int) v) = encB (clrM M x) (ofL (k : Int) v)) = dflB M (x.typ : Nat) (x.slot : Nat) := by
  have hL : ∀ r ∈ ofL (k : Int) v, r ∈ ROWS := fun r hr => ofL_mem _ _ hr
  have hnum := allP_num hn hsm _ hL (ofL_rise k v) x hx
  have hall : ∀ y ∈ allP M (ofL (k : Int) v), pErrF (ptF y) = 0 ∧ (ptF y).n ≤ 18446744073709551615 ∧ 0 ≤ (ptF y).w ∧ (ptF y).w ≤ 255 := fun y hy => by obtain ⟨r, hr, hyr⟩ := allP_ok hn hsm hL hy; exact hyr.put (hL r hr)
  rw [clr_enc k v hn hsm hc hx, encB_allP hsm hL hc]
  cases hd : dflB M (x.typ : Nat) (x.slot : Nat) with
  | true =>
    have hP : rowP M x = [] := by unfold rowP; rw [hd]; rfl
    rw [hP] at hnum
    refine decide_eq_true (congrArg (fun l => l.flatMap wB) (List.filter_eq_self.2 fun y hy => ?_).symm)
    have := List.filter_eq_nil_iff.1 hnum y hy
    simpa using this
  | false =>
    refine decide_eq_false fun h => ?_
    have hi := flat_inj hall (fun y hy => hall y (List.mem_filter.1 hy).1) h
    have hlen := congrArg List.length hi
    rw [List.length_map, List.length_map] at hlen
    have hself := List.filter_eq_self.1 (List.Sublist.eq_of_length List.filter_sublist hlen.symm)
    have hP : rowP M x ≠ [] := by
      unfold rowP
      rw [hd]
      exact partW_ne hd
    obtain ⟨y, hy⟩ := List.exists_mem_of_ne_nil _ hP
    rw [← hnum] at hy
    have h1 := (List.mem_filter.1 hy)
    have h2 := hself y h1.1
    have h3 := h1.2
    simp only [decide_eq_true_eq] at h2 h3
    exact h2 h3
/-- How many parts a field has at most. -/
def cntR (t : Nat) : Nat := if t = 10 then 70 else 1
theorem cntr_sum : (List.range 11).all (fun k => (List.range 4).all fun v => decide (((ofL (k : Int) (v : Int)).map fun r => cntR r.typ).sum ≤ 100)) = true := by decide +kernel
theorem cntr_all (k : Nat) (v : Int) : ((ofL (k : Int) v).map fun r => cntR r.typ).sum ≤ 100 := by
  by_cases hk : k = 0 ∨ 10 < k
  · rw [ofL_kind k v hk]; decide
  have h := List.all_eq_true.1 cntr_sum k (List.mem_range.2 (by omega))
  rcases kn_one v with rfl | rfl | rfl | ⟨-, h0⟩
  · have := List.all_eq_true.1 h 1 (List.mem_range.2 (by omega)); simpa using this
  · have := List.all_eq_true.1 h 2 (List.mem_range.2 (by omega)); simpa using this
  · have := List.all_eq_true.1 h 3 (List.mem_range.2 (by omega)); simpa using this
  · rw [ofL_nil _ _ h0]; decide
theorem rowP_cnt {M : MV} {r : SRow} (h : M.l.length ≤ 70) : (rowP M r).length ≤ cntR r.typ := by
  by_cases ht : r.typ = 10
  · unfold cntR rowP
    rw [if_pos ht]
    split
    · simp
    · have e : partW M (r.num : Nat) (r.typ : Nat) (r.slot : Nat) = M.l.map (fun s => ((r.num : Int), 2, 0, s.data.toList)) := by unfold partW; exact if_pos (by rw [ht]; decide)
      rw [e, List.length_map]; exact h
  · unfold cntR
    rw [if_neg ht]
    exact rowP_one ht
theorem allP_cnt {M : MV} (h : M.l.length ≤ 70) : ∀ (L : List SRow), (allP M L).length ≤ (L.map fun r => cntR r.typ).sum
  | [] => by simp [allP]
  | r :: L => by
    have e : allP M (r :: L) = rowP M r ++ allP M L := by unfold allP; rw [List.flatMap_cons]
    rw [e, List.length_append, List.map_cons, List.sum_cons]
    have h1 := rowP_cnt (r := r) h
    have h2 := allP_cnt h L
    omega
def k4 (f : FV) : Int × Int × Nat × List UInt8 := (f.num, f.w, f.n, f.s.xs)
theorem fv_map {fs : List FV} {rs : List (RF × Nat)} (h : fvAll fs rs) : fs.map k4 = rs.map (fun r => (r.1.num, r.1.w, r.1.n, r.1.xs)) := by
  induction fs generalizing rs with
  | nil => cases rs with
    | nil => rfl
    | cons r rs => exact h.elim
  | cons g gs ih => cases rs with
    | nil => exact h.elim
    | cons r rs =>
      rw [List.map_cons, List.map_cons, ih h.2]
      obtain ⟨⟨h1, h2, h3, h4, -⟩, -⟩ := h
      unfold k4
      rw [h1, h2, h3, h4]
theorem pre_k4 {M : MV} (k : Nat) (v : Int) (hn : ∀ i, M.num i ≤ 18446744073709551615) (hsm : MvSm M) (hc : (chkV M (ofL (k : Int) v)).1 = 0) {pre : List FV} (h : fvAll pre (flds (encB M (ofL (k : Int) v)) (encB M (ofL (k : Int) v)).length 0).1) : pre.map k4 = allP M (ofL (k : Int) v) := by
  rw [enc_flds k v hn hsm hc] at h
  rw [fv_map h, putL_map, allP_bare (fun r hr => ofL_mem _ _ hr) hc]
def KOk (x : Int × Int × Nat × List UInt8 × Int) : Prop := 0 ≤ x.2.1 ∧ x.2.1 ≤ 255 ∧ x.2.2.1 ≤ 18446744073709551615 ∧ -9223372036854775808 ≤ x.1 ∧ x.1 ≤ 9223372036854775807 ∧ -9223372036854775808 ≤ x.2.2.2.2 ∧ x.2.2.2.2 ≤ 9223372036854775807 ∧ x.2.2.2.1.length ≤ 8000
theorem KOk.ok {w : World} {f : FV} (h : KOk (fvK f)) (hs : Sl w f.s.A f.s.c (f.s.xs.map bv)) : FvOk w f := ⟨h.1, h.2.1, h.2.2.1, h.2.2.2.1, h.2.2.2.2.1, h.2.2.2.2.2.1, h.2.2.2.2.2.2.1, hs⟩
theorem wo_pre {M : MV} (v : Int) (hn : ∀ i, M.num i ≤ 18446744073709551615) (hsm : MvSm M) (h70 : M.l.length ≤ 70) (hc : (chkV M (ofL (M.k : Int) v)).1 = 0) {pre : List FV} (h : fvAll pre (flds (encB M (ofL (M.k : Int) v)) (encB M (ofL (M.k : Int) v)).length 0).1) : pre.length ≤ 100 ∧ ∀ f ∈ pre, KOk (fvK f) := by
  have h4 := pre_k4 M.k v hn hsm hc h
  have hL : ∀ r ∈ ofL (M.k : Int) v, r ∈ ROWS := fun r hr => ofL_mem _ _ hr
  constructor
  · have h1 := congrArg List.length h4
    rw [List.length_map] at h1
    have h2 := allP_cnt h70 (ofL (M.k : Int) v)
    have h3 := cntr_all M.k v
    omega
  · intro f hf
    have hm : k4 f ∈ allP M (ofL (M.k : Int) v) := by rw [← h4]; exact List.mem_map_of_mem hf
    obtain ⟨r, hr, hp⟩ := allP_ok hn hsm hL hm
    have hk := row_num (hL r hr)
    have e1 : f.num = (r.num : Int) := hp.num
    have e2 : f.w = (wireN (r.typ : Nat) : Int) := hp.w
    have e3 : f.n ≤ 18446744073709551615 := hp.n
    have e4 : f.s.xs.length ≤ 8000 := hp.len
    have hw := wireN_cases (r.typ : Nat)
    have hcap := enc_cap v hn hsm
    obtain ⟨i, hi, rfl⟩ := List.getElem_of_mem hf
    have hi2 : i < (flds (encB M (ofL (M.k : Int) v)) (encB M (ofL (M.k : Int) v)).length 0).1.length := by rw [← fvAll_len h]; exact hi
    have hg := (fvAll_get h i hi hi2).2.2.2.2
    have ha := (at_get (flds_at (encB M (ofL (M.k : Int) v)) (encB M (ofL (M.k : Int) v)).length 0) i hi2).1
    show 0 ≤ pre[i].w ∧ pre[i].w ≤ 255 ∧ pre[i].n ≤ _ ∧ _ ≤ pre[i].num ∧ pre[i].num ≤ _ ∧ _ ≤ pre[i].at_ ∧ pre[i].at_ ≤ _ ∧ pre[i].s.xs.length ≤ 8000
    refine ⟨by omega, by omega, e3, by omega, by omega, by omega, by omega, e4⟩
theorem wo_out {M : MV} (v : Int) (hn : ∀ i, M.num i ≤ 18446744073709551615) (hsm : MvSm M) (h70 : M.l.length ≤ 70) (hc : (chkV M (ofL (M.k : Int) v)).1 = 0) {x : SRow} (hx : x ∈ ofL (M.k : Int) v) {pre fs : List FV} (h : fvAll pre (flds (encB M (ofL (M.k : Int) v)) (encB M (ofL (M.k : Int) v)).length 0).1)
    (h2 : fs.map fvK = (pre.filter fun f => decide (¬ f.num = (x.num : Int))).map fvK) : fs.length ≤ 100 ∧ (∀ f ∈ fs, KOk (fvK f)) ∧ putsE fs 0 = (0, 0) ∧ fs.flatMap pBF = encB (clrM M x) (ofL (M.k : Int) v) := by
  have hp := wo_pre v hn hsm h70 hc h
  have h4 := pre_k4 M.k v hn hsm hc h
  have hL : ∀ r ∈ ofL (M.k : Int) v, r ∈ ROWS := fun r hr => ofL_mem _ _ hr
  have hfk : fs.map k4 = (allP M (ofL (M.k : Int) v)).filter (fun y => decide (¬ y.1 = (x.num : Int))) := by
    have e := congrArg (List.map fun (y : Int × Int × Nat × List UInt8 × Int) => (y.1, y.2.1, y.2.2.1, y.2.2.2.1)) h2
    rw [List.map_map, List.map_map] at e
    rw [← h4, List.filter_map]
    exact e
  refine ⟨?_, fun f hf => ?_, putsE_zero fs (fun f hf => ?_) 0, ?_⟩
  · have h1 := congrArg List.length h2
    rw [List.length_map, List.length_map] at h1
    have h3 := List.length_filter_le (fun f : FV => decide (¬ f.num = (x.num : Int))) pre
    omega
  · have hm : fvK f ∈ (pre.filter fun f => decide (¬ f.num = (x.num : Int))).map fvK := by rw [← h2]; exact List.mem_map_of_mem hf
    obtain ⟨g, hg, e⟩ := List.mem_map.1 hm
    rw [← e]
    exact hp.2 g (List.mem_filter.1 hg).1
  · have hm : k4 f ∈ (allP M (ofL (M.k : Int) v)).filter (fun y => decide (¬ y.1 = (x.num : Int))) := by rw [← hfk]; exact List.mem_map_of_mem hf
    obtain ⟨r, hr, hyr⟩ := allP_ok hn hsm hL (List.mem_filter.1 hm).1
    exact (hyr.put (hL r hr)).1
  · rw [clr_enc M.k v hn hsm hc hx, ← hfk, List.flatMap_map]
    rfl
/-- The cells of a message of which one field was set to nothing. -/
theorem cells_num (M : MV) {r : SRow} (h : r.typ ≤ 6) (hs : r.slot ≤ 5) : (mvA M).setIfInBounds (1 + r.slot) (.int .u64 0) = mvA (clrM M r) := by
  obtain ⟨rk, si, nu, ty, sl⟩ := r
  simp only at h hs
  have c1 : ¬ ty = 10 := by omega
  have c2 : ¬ 7 ≤ ty := by omega
  have hi : sl = 0 ∨ sl = 1 ∨ sl = 2 ∨ sl = 3 ∨ sl = 4 ∨ sl = 5 := by omega
  unfold clrM
  simp only [if_neg c1, if_neg c2]
  rcases hi with rfl | rfl | rfl | rfl | rfl | rfl <;> rfl
theorem cells_text (M : MV) {r : SRow} (h : 7 ≤ r.typ) (h9 : r.typ ≤ 9) (hs : r.slot ≤ 1) : (mvA M).setIfInBounds (7 + r.slot) (.string ⟨#[]⟩) = mvA (clrM M r) := by
  obtain ⟨rk, si, nu, ty, sl⟩ := r
  simp only at h h9 hs
  have c1 : ¬ ty = 10 := by omega
  have hi : sl = 0 ∨ sl = 1 := by omega
  unfold clrM
  simp only [if_neg c1, if_pos h]
  rcases hi with rfl | rfl <;> rfl
theorem cells_list (M : MV) {r : SRow} (h : r.typ = 10) : (mvA M).setIfInBounds 9 (.slice none 0 0) = mvA (clrM M r) := by
  obtain ⟨rk, si, nu, ty, sl⟩ := r
  simp only at h
  unfold clrM
  simp only [if_pos h]
  rfl
theorem clr_ok {w : World} {M : MV} (r : SRow) (h : MvOk w M) : MvOk w (clrM M r) := by
  refine ⟨by rw [clr_k]; exact h.k, clr_n r h.n, fun i => ?_, fun x hx => ?_, ?_⟩
  · rcases text_top (clrM M r) i with ⟨k, hk, rfl⟩ | h0
    · rw [clr_text M r k hk]
      split
      · decide
      · exact h.s _
    · rw [h0]; decide
  · rw [clr_l] at hx
    split at hx
    · simp at hx
    · exact h.e x hx
  · by_cases c1 : r.typ = 10
    · unfold clrM; rw [if_pos c1]; exact Sl.nil_ w
    · have e : (clrM M r).A = M.A ∧ (clrM M r).c = M.c ∧ (clrM M r).l = M.l := by
        unfold clrM
        rw [if_neg c1]
        split <;> exact ⟨rfl, rfl, rfl⟩
      rw [e.1, e.2.1, e.2.2]; exact h.l
theorem clr_ac (M : MV) (x : SRow) (A : Option Addr) (c : Nat) (L : List SRow) : encB (clrM { M with A := A, c := c } x) L = encB (clrM M x) L := by
  refine enc_alike ((sameB_iff _ _).2 ?_)
  unfold clrM
  split
  · exact ⟨rfl, ⟨rfl, rfl, rfl, rfl, rfl, rfl⟩, ⟨rfl, rfl⟩, rfl⟩
  split <;> exact ⟨rfl, ⟨rfl, rfl, rfl, rfl, rfl, rfl⟩, ⟨rfl, rfl⟩, rfl⟩
end Go.Proofs.Ytnfodgjihdoncaa
