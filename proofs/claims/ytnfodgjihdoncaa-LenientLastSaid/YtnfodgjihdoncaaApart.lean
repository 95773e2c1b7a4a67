/- What a message's bytes say: plain mathematics. -/
import Derived.Test.YtnfodgjihdoncaaEn3
import Derived.Test.YtnfodgjihdoncaaSk2
import Derived.Test.YtnfodgjihdoncaaVGrow
set_option linter.unusedVariables false
namespace Go.Proofs.Ytnfodgjihdoncaa
open Go.RowKit
/-- A field's parts, none if it has nothing. -/
def rowP (M : MV) (r : SRow) : List (Int × Int × Nat × List UInt8) := if dflB M (r.typ : Nat) (r.slot : Nat) then [] else partW M (r.num : Nat) (r.typ : Nat) (r.slot : Nat)
def allP (M : MV) (L : List SRow) : List (Int × Int × Nat × List UInt8) := L.flatMap (rowP M)
def ptF (x : Int × Int × Nat × List UInt8) : FV := ⟨x.1, x.2.1, x.2.2.1, ⟨none, 0, x.2.2.2⟩, 0⟩
def bareP (x : Int × Int × Nat × List UInt8) : Int × Int × Nat × List UInt8 := (x.1, x.2.1, bareN (ptF x), bareX (ptF x))
theorem row_num {r : SRow} (h : r ∈ ROWS) : 1 ≤ r.num ∧ r.num ≤ 7 ∧ 1 ≤ r.typ ∧ r.typ ≤ 10 := by have := row_ok h; omega
theorem fldR_rowP {M : MV} {r : SRow} (hsm : MvSm M) (hr : r ∈ ROWS) : fldR M r = (rowP M r).flatMap wB := by
  have := row_num hr
  unfold fldR rowP
  cases hd : dflB M (r.typ : Nat) (r.slot : Nat) with
  | true => unfold fldB; rw [hd]; rfl
  | false => rw [fldB_in hd hsm (by omega) (by omega)]; rfl
theorem allP_flat {M : MV} (hsm : MvSm M) : ∀ (L : List SRow), (∀ r ∈ L, r ∈ ROWS) → L.flatMap (fldR M) = (allP M L).flatMap wB
  | [], _ => rfl
  | r :: L, h => by
    have ih := allP_flat hsm L fun q hq => h q (List.mem_cons_of_mem _ hq)
    unfold allP at ih ⊢
    rw [List.flatMap_cons, List.flatMap_cons, List.flatMap_append, ih, fldR_rowP hsm (h r (List.mem_cons_self ..))]
theorem encB_allP {M : MV} {L : List SRow} (hsm : MvSm M) (hL : ∀ r ∈ L, r ∈ ROWS) (hc : (chkV M L).1 = 0) : encB M L = (allP M L).flatMap wB := by
  unfold encB
  rw [if_pos hc, allP_flat hsm L hL]
/-- What a part may be. -/
structure PtOk (r : SRow) (x : Int × Int × Nat × List UInt8) : Prop where
  num : x.1 = (r.num : Int)
  w : x.2.1 = (wireN (r.typ : Nat) : Int)
  n : x.2.2.1 ≤ 18446744073709551615
  len : x.2.2.2.length ≤ 8000
theorem wireN_cases (t : Int) : wireN t = 0 ∨ wireN t = 1 ∨ wireN t = 2 ∨ wireN t = 5 := by
  unfold wireN
  split
  · exact .inr (.inr (.inr rfl))
  split
  · exact .inr (.inl rfl)
  split
  · exact .inr (.inr (.inl rfl))
  · exact .inl rfl
theorem rowP_ok {M : MV} {r : SRow} (hn : ∀ i, M.num i ≤ 18446744073709551615) (hsm : MvSm M) (hr : r ∈ ROWS) {x : Int × Int × Nat × List UInt8} (hx : x ∈ rowP M r) : PtOk r x := by
  have hk := row_num hr
  unfold rowP at hx
  split at hx
  · simp at hx
  refine ⟨?_, ?_, partW_n hn hx, (partW_facts hsm).2 x hx⟩
  · exact (partW_in (by omega) (by omega) hsm hx).1
  · unfold partW at hx
    split at hx
    · rename_i h
      obtain ⟨s, hs, rfl⟩ := List.mem_map.1 hx
      rw [h]; rfl
    split at hx
    · rename_i h1 h
      simp only [List.mem_singleton] at hx
      subst hx
      show (2 : Int) = _
      unfold wireN
      rw [if_neg (by omega), if_neg (by omega), if_pos (by omega)]; rfl
    split at hx
    · rename_i h1 h2 h
      simp only [List.mem_singleton] at hx
      subst hx
      rw [h]; rfl
    · simp only [List.mem_singleton] at hx
      subst hx
      rfl
theorem PtOk.put {r : SRow} {x : Int × Int × Nat × List UInt8} (hr : r ∈ ROWS) (h : PtOk r x) : pErrF (ptF x) = 0 ∧ (ptF x).n ≤ 18446744073709551615 ∧ 0 ≤ (ptF x).w ∧ (ptF x).w ≤ 255 := by
  have hk := row_num hr
  have hw := wireN_cases (r.typ : Nat)
  have hw2 : (ptF x).w = (wireN (r.typ : Nat) : Int) := h.w
  refine ⟨?_, h.n, by rw [hw2]; omega, by rw [hw2]; omega⟩
  show pErr x.1 x.2.1 x.2.2.2 = 0
  have hwb : wireB x.2.1 = true := by rw [h.w]; rcases hw with e | e | e | e <;> rw [e] <;> rfl
  unfold pErr
  have h1 := h.num
  have h2 := h.len
  rw [mk_ok (by omega) (by omega) hwb, if_neg (by simp), if_neg (by omega)]
theorem allP_ok {M : MV} {L : List SRow} (hn : ∀ i, M.num i ≤ 18446744073709551615) (hsm : MvSm M) (hL : ∀ r ∈ L, r ∈ ROWS) {x : Int × Int × Nat × List UInt8} (hx : x ∈ allP M L) : ∃ r ∈ L, PtOk r x := by
  obtain ⟨r, hr, hxr⟩ := List.mem_flatMap.1 hx
  exact ⟨r, hr, rowP_ok hn hsm (hL r hr) hxr⟩
theorem putL_map (l : List (Int × Int × Nat × List UInt8)) : ∀ p, (putL (l.map ptF) p).map (fun r => (r.1.num, r.1.w, r.1.n, r.1.xs)) = l.map bareP := by
  induction l with
  | nil => intro p; rfl
  | cons x l ih =>
    intro p
    rw [List.map_cons, putL, List.map_cons, List.map_cons, ih]
    rfl
theorem flat_flds (l : List (Int × Int × Nat × List UInt8)) (h : ∀ x ∈ l, pErrF (ptF x) = 0 ∧ (ptF x).n ≤ 18446744073709551615 ∧ 0 ≤ (ptF x).w ∧ (ptF x).w ≤ 255) : flds (l.flatMap wB) (l.flatMap wB).length 0 = (putL (l.map ptF) 0, 0, 0) := by
  refine flds_put (l.map ptF) (l.flatMap wB) [] 0 _ (fun f hf => ?_) ?_ rfl (by omega)
  · obtain ⟨x, hx, rfl⟩ := List.mem_map.1 hf
    exact h x hx
  · rw [List.flatMap_map]; rfl
theorem flat_inj {l1 l2 : List (Int × Int × Nat × List UInt8)} (h1 : ∀ x ∈ l1, pErrF (ptF x) = 0 ∧ (ptF x).n ≤ 18446744073709551615 ∧ 0 ≤ (ptF x).w ∧ (ptF x).w ≤ 255) (h2 : ∀ x ∈ l2, pErrF (ptF x) = 0 ∧ (ptF x).n ≤ 18446744073709551615 ∧ 0 ≤ (ptF x).w ∧ (ptF x).w ≤ 255)
    (h : l1.flatMap wB = l2.flatMap wB) : l1.map bareP = l2.map bareP := by
  have f1 := flat_flds l1 h1
  have f2 := flat_flds l2 h2
  rw [h, f2] at f1
  injection f1 with f1 _
  rw [← putL_map l1 0, ← putL_map l2 0, f1]
theorem bare_two (num : Int) (xs : List UInt8) : bareP (num, 2, 0, xs) = (num, 2, 0, xs) := by
  unfold bareP bareN bareX ptF
  simp
theorem bare_zero (num : Int) (n : Nat) : bareP (num, 0, n, []) = (num, 0, n, []) := by
  unfold bareP bareN bareX ptF
  simp
/-- A message that may be has parts that their wire types have whole. -/
theorem rowP_bare {M : MV} {r : SRow} (hr : r ∈ ROWS) (hf : fldE M r = 0) {x : Int × Int × Nat × List UInt8} (hx : x ∈ rowP M r) : bareP x = x := by
  have hk := row_num hr
  unfold rowP at hx
  cases hd : dflB M (r.typ : Nat) (r.slot : Nat) with
  | true => rw [hd] at hx; simp at hx
  | false =>
    rw [hd] at hx
    unfold fldE at hf
    rw [hd] at hf
    simp only [Bool.false_eq_true, if_false] at hf hx
    unfold partW at hx
    split at hx
    · obtain ⟨s, hs, rfl⟩ := List.mem_map.1 hx
      rfl
    split at hx
    · simp only [List.mem_singleton] at hx
      subst hx
      exact bare_two _ _
    split at hx
    · simp only [List.mem_singleton] at hx
      subst hx
      exact bare_zero _ _
    · rename_i h1 h2 h3
      simp only [List.mem_singleton] at hx
      subst hx
      unfold bareP bareN bareX ptF
      simp only
      by_cases c5 : (r.typ : Int) = 5
      · have e : wireN (r.typ : Nat) = 5 := by rw [c5]; rfl
        rw [wr_num _ _ _ (.inr c5)] at hf
        rw [e]
        have hle : M.num (r.slot : Nat) ≤ 4294967295 := by
          by_cases c : 4294967295 < M.num (r.slot : Nat)
          · rw [if_pos c] at hf; cases hf
          · omega
        simp [Nat.mod_eq_of_lt (show M.num (r.slot : Nat) < 4294967296 by omega)]
      · have e : wireN (r.typ : Nat) = 0 ∨ wireN (r.typ : Nat) = 1 := by
          unfold wireN
          rw [if_neg c5]
          split
          · exact .inr rfl
          · rw [if_neg (by omega)]; exact .inl rfl
        rcases e with e | e <;> rw [e] <;> simp
theorem allP_bare {M : MV} {L : List SRow} (hL : ∀ r ∈ L, r ∈ ROWS) (hc : (chkV M L).1 = 0) : (allP M L).map bareP = allP M L := by
  have hz := chkL_all L (chkV_zero hc).2.2.1
  have : ∀ x ∈ allP M L, bareP x = x := fun x hx => by
    obtain ⟨r, hr, hxr⟩ := List.mem_flatMap.1 hx
    exact rowP_bare (hL r hr) (hz r hr) hxr
  rw [List.map_congr_left this, List.map_id']
/-- The parts of a number are those of its field. -/
theorem allP_num {M : MV} (hn : ∀ i, M.num i ≤ 18446744073709551615) (hsm : MvSm M) : ∀ (L : List SRow), (∀ r ∈ L, r ∈ ROWS) → L.Pairwise (fun a b => a.num < b.num) → ∀ r ∈ L, (allP M L).filter (fun x => decide (x.1 = (r.num : Int))) = rowP M r
  | [], _, _, r, hr => by simp at hr
  | q :: L, hL, hp, r, hr => by
    have hq := hL q (List.mem_cons_self ..)
    rw [List.pairwise_cons] at hp
    have hall : allP M (q :: L) = rowP M q ++ allP M L := by unfold allP; rw [List.flatMap_cons]
    rw [hall, List.filter_append]
    rcases List.mem_cons.1 hr with rfl | hr
    · have e1 : (rowP M r).filter (fun x => decide (x.1 = (r.num : Int))) = rowP M r := List.filter_eq_self.2 fun x hx => decide_eq_true (rowP_ok hn hsm hq hx).num
      have e2 : (allP M L).filter (fun x => decide (x.1 = (r.num : Int))) = [] := List.filter_eq_nil_iff.2 fun x hx => by
        obtain ⟨t, ht, hxt⟩ := allP_ok hn hsm (fun q hq => hL q (List.mem_cons_of_mem _ hq)) hx
        have := hp.1 t ht
        have := hxt.num
        simp only [decide_eq_true_eq]
        omega
      rw [e1, e2, List.append_nil]
    · have e1 : (rowP M q).filter (fun x => decide (x.1 = (r.num : Int))) = [] := List.filter_eq_nil_iff.2 fun x hx => by
        have := hp.1 r hr
        have := (rowP_ok hn hsm hq hx).num
        simp only [decide_eq_true_eq]
        omega
      rw [e1, List.nil_append]
      exact allP_num hn hsm L (fun q hq => hL q (List.mem_cons_of_mem _ hq)) hp.2 r hr
theorem ofL_rise (k : Nat) (v : Int) : (ofL (k : Int) v).Pairwise (fun a b => a.num < b.num) := by
  rw [List.pairwise_iff_getElem]
  intro i j hi hj hij
  exact (grow_apart k v j i hj hij).1
theorem ba_inj {a b : ByteArray} (h : a.data.toList = b.data.toList) : a = b := by
  obtain ⟨⟨a⟩⟩ := a
  obtain ⟨⟨b⟩⟩ := b
  simpa using h
theorem zig_nat_inj {a b : Int} (h1 : 0 ≤ a) (h2 : 0 ≤ b) (h : a.toNat = b.toNat) : a = b := by omega
theorem w64_inj {x y : Nat} (hx : x ≤ 18446744073709551615) (hy : y ≤ 18446744073709551615) (h : wrap64 (x : Int) = wrap64 (y : Int)) : x = y := by unfold wrap64 at h; omega
theorem rowP_same {a b : MV} {r : SRow} (hna : ∀ i, a.num i ≤ 18446744073709551615) (hnb : ∀ i, b.num i ≤ 18446744073709551615) (hr : r ∈ ROWS) (h : rowP a r = rowP b r) :
    (r.typ ≤ 6 → a.num (r.slot : Nat) = b.num (r.slot : Nat)) ∧ (7 ≤ r.typ → r.typ ≤ 9 → a.text (r.slot : Nat) = b.text (r.slot : Nat)) ∧ (r.typ = 10 → a.l = b.l) := by
  have hk := row_num hr
  unfold rowP at h
  refine ⟨fun ht => ?_, fun h7 h9 => ?_, fun ht => ?_⟩
  · rw [dfl_num _ _ _ (by omega), dfl_num _ _ _ (by omega)] at h
    have hp : ∀ M : MV, partW M (r.num : Nat) (r.typ : Nat) (r.slot : Nat) = if (r.typ : Int) = 3 then [((r.num : Int), 0, (zig (wrap64 (M.num (r.slot : Nat) : Nat))).toNat, [])] else [((r.num : Int), (wireN (r.typ : Nat) : Int), M.num (r.slot : Nat), [])] := fun M => by
      unfold partW
      rw [if_neg (by omega), if_neg (by omega)]
    rw [hp a, hp b] at h
    have h1 := hna (r.slot : Nat)
    have h2 := hnb (r.slot : Nat)
    generalize a.num (r.slot : Nat) = x at *
    generalize b.num (r.slot : Nat) = y at *
    by_cases c1 : x = 0
    · by_cases c2 : y = 0
      · omega
      · rw [decide_eq_true c1, decide_eq_false c2] at h
        simp only [if_true, Bool.false_eq_true, if_false] at h
        split at h <;> simp at h
    · by_cases c2 : y = 0
      · rw [decide_eq_false c1, decide_eq_true c2] at h
        simp only [if_true, Bool.false_eq_true, if_false] at h
        split at h <;> simp at h
      · rw [decide_eq_false c1, decide_eq_false c2] at h
        simp only [Bool.false_eq_true, if_false] at h
        split at h
        · simp only [List.cons.injEq, Prod.mk.injEq, and_true, true_and] at h
          have r1 := w64_range (x : Int)
          have r2 := w64_range (y : Int)
          have z1 := zig_range _ r1.1 r1.2
          have z2 := zig_range _ r2.1 r2.2
          have hz : zig (wrap64 (x : Int)) = zig (wrap64 (y : Int)) := zig_nat_inj z1.1 z2.1 h
          have := congrArg zag hz
          rw [zag_zig, zag_zig] at this
          exact w64_inj h1 h2 this
        · simpa using h
  · rw [dfl_text _ _ _ (by omega), dfl_text _ _ _ (by omega)] at h
    have hp : ∀ M : MV, partW M (r.num : Nat) (r.typ : Nat) (r.slot : Nat) = [((r.num : Int), 2, 0, (M.text (r.slot : Nat)).data.toList)] := fun M => by
      unfold partW
      rw [if_neg (by omega), if_pos (by omega)]
    rw [hp a, hp b] at h
    generalize a.text (r.slot : Nat) = x at *
    generalize b.text (r.slot : Nat) = y at *
    by_cases c1 : x = ⟨#[]⟩
    · by_cases c2 : y = ⟨#[]⟩
      · rw [c1, c2]
      · rw [decide_eq_true c1, decide_eq_false c2] at h
        simp at h
    · by_cases c2 : y = ⟨#[]⟩
      · rw [decide_eq_false c1, decide_eq_true c2] at h
        simp at h
      · rw [decide_eq_false c1, decide_eq_false c2] at h
        simp only [Bool.false_eq_true, if_false, List.cons.injEq, Prod.mk.injEq, and_true, true_and] at h
        exact ba_inj h
  · rw [ht] at h
    rw [show ((10 : Nat) : Int) = 10 from rfl, dfl_list, dfl_list] at h
    have hp : ∀ M : MV, partW M (r.num : Nat) 10 (r.slot : Nat) = M.l.map (fun s => ((r.num : Int), 2, 0, s.data.toList)) := fun M => by
      unfold partW
      rw [if_pos rfl]
    rw [hp a, hp b] at h
    have hm : ∀ M : MV, (if decide (M.l.length = 0) = true then [] else M.l.map (fun s => ((r.num : Int), (2 : Int), (0 : Nat), s.data.toList))) = M.l.map (fun s => ((r.num : Int), (2 : Int), (0 : Nat), s.data.toList)) := fun M => by
      by_cases c : M.l.length = 0
      · rw [if_pos (by simpa using c), List.eq_nil_of_length_eq_zero c]; rfl
      · rw [if_neg (by simpa using c)]
    rw [hm a, hm b] at h
    exact List.map_inj_right (fun x y hxy => by
      simp only [Prod.mk.injEq, true_and] at hxy
      exact ba_inj hxy) |>.1 h
/-- Messages that may be with the same bytes are alike. -/
theorem enc_apart {a b : MV} (k : Nat) (v : Int) (hna : ∀ i, a.num i ≤ 18446744073709551615) (hnb : ∀ i, b.num i ≤ 18446744073709551615) (hsa : MvSm a) (hsb : MvSm b) (hk : a.k = b.k) (ca : (chkV a (ofL (k : Int) v)).1 = 0) (cb : (chkV b (ofL (k : Int) v)).1 = 0) (h : encB a (ofL (k : Int) v) = encB b (ofL (k : Int) v)) : sameB a b = true := by
  have hL : ∀ r ∈ ofL (k : Int) v, r ∈ ROWS := fun r hr => ofL_mem _ _ hr
  have hrise := ofL_rise k v
  generalize ofL (k : Int) v = L at *
  rw [encB_allP hsa hL ca, encB_allP hsb hL cb] at h
  have hall := flat_inj (fun x hx => by obtain ⟨r, hr, hxr⟩ := allP_ok hna hsa hL hx; exact hxr.put (hL r hr)) (fun x hx => by obtain ⟨r, hr, hxr⟩ := allP_ok hnb hsb hL hx; exact hxr.put (hL r hr)) h
  rw [allP_bare hL ca, allP_bare hL cb] at hall
  have hrow : ∀ r ∈ L, rowP a r = rowP b r := fun r hr => by rw [← allP_num hna hsa L hL hrise r hr, ← allP_num hnb hsb L hL hrise r hr, hall]
  have hs := fun r hr => rowP_same hna hnb (hL r hr) (hrow r hr)
  have ka := same_kept (chkV_zero ca).2.2.2
  have kb := same_kept (chkV_zero cb).2.2.2
  have hnum : ∀ i : Nat, i ≤ 5 → a.num (i : Int) = b.num (i : Int) := fun i hi => by
    cases hm : mkN L i with
    | false => rw [ka.1 i hi hm, kb.1 i hi hm]
    | true =>
      obtain ⟨r, hr, hp⟩ := List.any_eq_true.1 hm
      simp only [decide_eq_true_eq] at hp
      have := (hs r hr).1 hp.1
      rwa [hp.2] at this
  have htxt : ∀ i : Nat, i ≤ 1 → a.text (i : Int) = b.text (i : Int) := fun i hi => by
    cases hm : mkS L i with
    | false => rw [ka.2.1 i hi hm, kb.2.1 i hi hm]
    | true =>
      obtain ⟨r, hr, hp⟩ := List.any_eq_true.1 hm
      simp only [decide_eq_true_eq] at hp
      have := (hs r hr).2.1 hp.1.1 hp.1.2
      rwa [hp.2] at this
  have hl : a.l = b.l := by
    cases hm : mkL L with
    | false => rw [ka.2.2 hm, kb.2.2 hm]
    | true =>
      obtain ⟨r, hr, hp⟩ := List.any_eq_true.1 hm
      simp only [decide_eq_true_eq] at hp
      exact (hs r hr).2.2 hp
  exact (sameB_iff a b).2 ⟨hk, ⟨hnum 0 (by omega), hnum 1 (by omega), hnum 2 (by omega), hnum 3 (by omega), hnum 4 (by omega), hnum 5 (by omega)⟩, ⟨htxt 0 (by omega), htxt 1 (by omega)⟩, hl⟩
theorem enc_alike {a b : MV} {L : List SRow} (h : sameB a b = true) : encB a L = encB b L := by
  obtain ⟨h1, ⟨a0, a1, a2, a3, a4, a5⟩, ⟨b0, b1⟩, hl⟩ := (sameB_iff a b).1 h
  obtain ⟨k, n0, n1, n2, n3, n4, n5, s0, s1, A, c, l⟩ := a
  obtain ⟨k', m0, m1, m2, m3, m4, m5, t0, t1, A', c', l'⟩ := b
  simp only at h1 a0 a1 a2 a3 a4 a5 b0 b1 hl
  subst h1 a0 a1 a2 a3 a4 a5 b0 b1 hl
  have e := chkV_ac ⟨k, n0, n1, n2, n3, n4, n5, s0, s1, A', c', l⟩ A c L
  unfold encB
  rw [← e]
  rfl
end Go.Proofs.Ytnfodgjihdoncaa
