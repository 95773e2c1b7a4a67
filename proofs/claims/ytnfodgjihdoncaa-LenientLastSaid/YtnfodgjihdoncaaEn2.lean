/- encode.Field. · A field's bytes, in the document's words. -/
import Derived.Test.YtnfodgjihdoncaaEn1
import Derived.Test.YtnfodgjihdoncaaSk4
set_option linter.unusedVariables false
namespace Go.Proofs.Ytnfodgjihdoncaa
open Go.RowKit
def wErr (x : Int × Int × Nat × List UInt8) : Nat := pErr x.1 x.2.1 x.2.2.2
def wB (x : Int × Int × Nat × List UInt8) : List UInt8 := pB x.1 x.2.1 x.2.2.1 x.2.2.2
/-- A field's bytes. -/
def fldB (m : MV) (num t i : Int) : List UInt8 := if dflB m t i then [] else if (partW m num t i).all (fun x => decide (wErr x = 0)) then (partW m num t i).flatMap wB else []
theorem dfl_cases {m : MV} {t i : Int} (h : dflB m t i = false) : ((t = 1 ∨ t = 2 ∨ t = 4 ∨ t = 5 ∨ t = 6) ∧ ∃ k : Nat, k ≤ 5 ∧ i = (k : Int)) ∨ t = 3 ∨ ((t = 7 ∨ t = 8 ∨ t = 9) ∧ ∃ k : Nat, k ≤ 1 ∧ i = (k : Int)) ∨ t = 10 := by
  by_cases c1 : 1 ≤ t ∧ t ≤ 6
  · rw [dfl_num _ _ _ c1] at h
    by_cases c3 : t = 3
    · exact .inr (.inl c3)
    by_cases c : i < 0 ∨ 6 ≤ i
    · rw [num_out _ _ c] at h; simp at h
    · exact .inl ⟨by omega, i.toNat, by omega, by omega⟩
  by_cases c2 : 7 ≤ t ∧ t ≤ 9
  · rw [dfl_text _ _ _ c2] at h
    by_cases c : i < 0 ∨ 2 ≤ i
    · rw [text_out _ _ c] at h; simp at h
    · exact .inr (.inr (.inl ⟨by omega, i.toNat, by omega, by omega⟩))
  by_cases c3 : t = 10
  · exact .inr (.inr (.inr c3))
  · rw [dfl_out _ _ _ (by omega)] at h; cases h
theorem parts_any (m : MV) (num t i : Int) (w : World) (hok : MvOk w m) (hd : dflB m t i = false) (hlen : m.l.length ≤ 100) (hn1 : -9223372036854775808 ≤ num) (hn2 : num ≤ 9223372036854775807) :
    Calls Try.prog 106 #[mvV m, .agg #[.int .i64 num, .int .i64 t, .int .i64 i]] w (PartsR m num t i w) := by
  rcases dfl_cases hd with ⟨h, k, hk, rfl⟩ | rfl | ⟨h, k, hk, rfl⟩ | rfl
  · exact parts_num m num t k w hok hk h hn1 hn2
  · exact parts_zig m num i w hok hn1 hn2
  · exact parts_text m num t k w hok hk h hn1 hn2
  · exact parts_list m num i w hok hlen hn1 hn2
/-- Few texts, none long. -/
structure MvSm (m : MV) : Prop where
  l : m.l.length ≤ 100
  s : ∀ i, (m.text i).size ≤ 8000
  e : ∀ s ∈ m.l, s.size ≤ 8000
theorem partW_facts {m : MV} {num t i : Int} (h : MvSm m) : (partW m num t i).length ≤ 100 ∧ ∀ x ∈ partW m num t i, x.2.2.2.length ≤ 8000 := by
  unfold partW
  split
  · refine ⟨by rw [List.length_map]; exact h.l, fun x hx => ?_⟩
    obtain ⟨s, hs, rfl⟩ := List.mem_map.1 hx
    exact h.e s hs
  split
  · refine ⟨by simp, fun x hx => ?_⟩
    simp only [List.mem_singleton] at hx
    subst hx
    exact h.s i
  split
  · refine ⟨by simp, fun x hx => ?_⟩
    simp only [List.mem_singleton] at hx
    subst hx
    exact Nat.zero_le _
  · refine ⟨by simp, fun x hx => ?_⟩
    simp only [List.mem_singleton] at hx
    subst hx
    exact Nat.zero_le _
theorem fld_put {m : MV} {num t i : Int} {l : List FV} (hd : dflB m t i = false) (hl : l.map fvW = partW m num t i) : fldB m num t i = if (putsE l 0).1 = 0 then l.flatMap pBF else [] := by
  have hb : (partW m num t i).flatMap wB = l.flatMap pBF := by rw [← hl, List.flatMap_map]; rfl
  unfold fldB
  rw [hd, hb]
  simp only [Bool.false_eq_true, if_false]
  by_cases c : (putsE l 0).1 = 0
  · have ha := putsE_all l 0 c
    rw [if_pos c, if_pos]
    rw [List.all_eq_true, ← hl]
    intro x hx
    obtain ⟨f, hf, rfl⟩ := List.mem_map.1 hx
    exact decide_eq_true (ha f hf)
  · rw [if_neg c, if_neg]
    intro h
    rw [List.all_eq_true, ← hl] at h
    have hz : ∀ f ∈ l, pErrF f = 0 := fun f hf => of_decide_eq_true (h _ (List.mem_map_of_mem hf))
    rw [putsE_zero l hz 0] at c
    exact c rfl
set_option maxRecDepth 100000 in
set_option maxHeartbeats 4000000 in
theorem field_any (m : MV) (num t i : Int) (w : World) (hok : MvOk w m) (hsm : MvSm m) (hn1 : -9223372036854775808 ≤ num) (hn2 : num ≤ 9223372036854775807) :
    Calls Try.prog 80 #[mvV m, .agg #[.int .i64 num, .int .i64 t, .int .i64 i]] w fun e w' => ∃ A c, e = .returned (.slice A (fldB m num t i).length c) ∧ Sl w' A c ((fldB m num t i).map bv) ∧ Below w.heap.size w w' := by
  obtain ⟨R, hR⟩ : ∃ R : Ending → World → Prop, R = fun e w' => ∃ A c, e = .returned (.slice A (fldB m num t i).length c) ∧ Sl w' A c ((fldB m num t i).map bv) ∧ Below w.heap.size w w' := ⟨_, rfl⟩
  rw [← hR]
  have HR := hid hR
  clear hR
  have hvd := fun W => vdef_any m num t i W
  have hpf := partW_facts (num := num) (t := t) (i := i) hsm
  have hpa := fun hd W (hW : Below w.heap.size w W) => parts_any m num t i W (hok.below hW) hd hsm.l hn1 hn2
  have hfz : dflB m t i = true → fldB m num t i = [] := fun h => by unfold fldB; rw [h]; rfl
  have hfp := fun (l : List FV) hd hl => fld_put (m := m) (num := num) (t := t) (i := i) (l := l) hd hl
  unfold PartsR at hpa
  generalize fldB m num t i = fb at *
  generalize partW m num t i = pw at *
  generalize dflB m t i = db at *
  clear hok hsm
  unfold mvV mvA at *
  generalize m.l.length = len at *
  obtain ⟨s, hws⟩ : ∃ s, w.heap.size = s := ⟨_, rfl⟩
  have hbx := bx2 w s len m num t i hws
  rw [hws] at hpa HR
  have HVD := hid hvd
  have HPA := hid hpa
  have HPF := hid hpf
  have HFZ := hid hfz
  have HFP := hid hfp
  clear hvd hpa hpf hfz hfp
  obtain ⟨W, hW⟩ : ∃ W, (w.alloc (.cells #[.int .u8 (m.k : Int), .int .u64 (m.n0 : Int), .int .u64 (m.n1 : Int), .int .u64 (m.n2 : Int), .int .u64 (m.n3 : Int), .int .u64 (m.n4 : Int), .int .u64 (m.n5 : Int), .string m.s0, .string m.s1, .slice m.A len m.c] 27)).alloc (.cells #[.int .i64 num, .int .i64 t, .int .i64 i] 93) = W := ⟨_, rfl⟩
  rw [hW] at hbx
  have HBX := hid hbx
  clear hbx
  have x0 := HBX.out.b0
  have x1 := HBX.out.b1
  have c0 := x0.cell 0
  have c1 := x0.cell 1
  have c2 := x0.cell 2
  have c3 := x0.cell 3
  have c4 := x0.cell 4
  have c5 := x0.cell 5
  have c6 := x0.cell 6
  have c7 := x0.cell 7
  have c8 := x0.cell 8
  have c9 := x0.cell 9
  have d0 := x1.cell 0
  have d1 := x1.cell 1
  have d2 := x1.cell 2
  simp only [List.getElem?_toArray, List.getElem?_cons_zero, List.getElem?_cons_succ] at c0 c1 c2 c3 c4 c5 c6 c7 c8 c9 d0 d1 d2
  clear x0 x1
  go_enter Try.func80, Try.ntmps80
  go_wp2_with fail
  clear hW
  refine (HVD.out W).mono ?_
  rintro e w1 ⟨rfl, hb1⟩
  clear c0 c1 c2 c3 c4 c5 c6 c7 c8 c9 d0 d1 d2
  have hlt := HBX.out.b1.lt
  have hk1 := HBX.out.b0.below hb1 (by omega)
  have hj1 := HBX.out.b1.below hb1 (by omega)
  have hB1 := HBX.out.bel.trans (hb1.mono (by omega))
  have c0 := hk1.cell 0
  have c1 := hk1.cell 1
  have c2 := hk1.cell 2
  have c3 := hk1.cell 3
  have c4 := hk1.cell 4
  have c5 := hk1.cell 5
  have c6 := hk1.cell 6
  have c7 := hk1.cell 7
  have c8 := hk1.cell 8
  have c9 := hk1.cell 9
  have d0 := hj1.cell 0
  have d1 := hj1.cell 1
  have d2 := hj1.cell 2
  simp only [List.getElem?_toArray, List.getElem?_cons_zero, List.getElem?_cons_succ] at c0 c1 c2 c3 c4 c5 c6 c7 c8 c9 d0 d1 d2
  have HB1 := hid hB1
  have hl1 := hj1.lt
  clear hk1 hj1 hb1 hB1
  cases db with
  | true =>
    have HFZT := hid (HFZ.out rfl)
    clear HFZ HFP HPA
    go_wp2_with fail
    rw [HR.out]
    exact ⟨none, 0, by rw [HFZT.out]; rfl, by rw [HFZT.out]; exact Sl.nil_ _, HB1.out⟩
  | false =>
    have HPT := hid (HPA.out rfl)
    have HFPT := hid (fun l => HFP.out l rfl)
    clear HPA HFP HFZ
    go_wp2_with fail
    refine (HPT.out _ HB1.out).mono ?_
    rintro e w2 ⟨l, v, rfl, ho, hlm, hfo, hb2⟩
    obtain ⟨A2, c2x, rfl, hs2⟩ := sln_own (by omega) ho
    have hll : l.length ≤ 100 := by have := HPF.out.1; rw [← hlm, List.length_map] at this; exact this
    have hput := sputs8_any l l.length A2 c2x w2 rfl hll hs2 hfo (fun f hf => by have := HPF.out.2 (fvW f) (by rw [← hlm]; exact List.mem_map_of_mem hf); exact this)
    have hfb := HFPT.out l hlm
    have HPUT := hid hput
    have HFB := hid hfb
    have HB2 := hid (HB1.out.trans (hb2.mono (by omega)))
    clear hput hfb hb2 hfo hlm hs2 ho c0 c1 c2 c3 c4 c5 c6 c7 c8 c9 d0 d1 d2
    generalize l.length = ll at *
    go_wp2_with fail
    refine HPUT.out.mono ?_
    rintro e w3 ⟨(⟨hz, v3, rfl, ho3⟩ | ⟨hz, rfl⟩), hb3⟩
    · obtain ⟨A3, c3, rfl, -, hs3⟩ := Sl.of_own ho3
      have hf := HFB.out
      rw [if_pos hz] at hf
      rw [← hf] at hs3 ⊢
      have HS3 := hid hs3
      have HB3 := hid (HB2.out.trans (hb3.mono (by have := HB2.out.size; omega)))
      clear hf hs3 ho3 hz hb3 HFB HPUT
      generalize hfl : fb.length = fl at *
      have HFL := hid hfl
      clear hfl
      go_wp2_with fail
      rw [HR.out]
      exact ⟨A3, c3, by first | rfl | (rw [HFL.out]; rfl), HS3.out.below (bw_a (Below.refl _ _) _), HB3.out.alloc (by have := HB3.out.size; omega) _⟩
    · have hf := HFB.out
      rw [if_neg hz] at hf
      have HF := hid hf
      have HB3 := hid (HB2.out.trans (hb3.mono (by have := HB2.out.size; omega)))
      clear hf hb3 HFB HPUT
      generalize (putsE l 0).1 = E1 at *
      generalize (putsE l 0).2 = E2 at *
      go_wp2_with fail
      rw [HR.out]
      exact ⟨none, 0, by rw [HF.out]; rfl, by rw [HF.out]; exact Sl.nil_ _, HB3.out.alloc (by have := HB3.out.size; omega) _⟩
end Go.Proofs.Ytnfodgjihdoncaa
set_option linter.unusedVariables false
namespace Go.Proofs.Ytnfodgjihdoncaa
open Go.RowKit
theorem partW_in {m : MV} {num t i : Int} {x : Int × Int × Nat × List UInt8} (ht1 : 1 ≤ t) (ht2 : t ≤ 10) (h : MvSm m) (hx : x ∈ partW m num t i) : x.1 = num ∧ (x.2.1 = 0 ∨ x.2.1 = 1 ∨ x.2.1 = 2 ∨ x.2.1 = 5) := by
  unfold partW at hx
  split at hx
  · obtain ⟨s, hs, rfl⟩ := List.mem_map.1 hx
    exact ⟨rfl, .inr (.inr (.inl rfl))⟩
  split at hx
  · simp only [List.mem_singleton] at hx
    subst hx
    exact ⟨rfl, .inr (.inr (.inl rfl))⟩
  split at hx
  · simp only [List.mem_singleton] at hx
    subst hx
    exact ⟨rfl, .inl rfl⟩
  · simp only [List.mem_singleton] at hx
    subst hx
    refine ⟨rfl, ?_⟩
    show ((wireN t : Nat) : Int) = 0 ∨ _
    unfold wireN
    split
    · exact .inr (.inr (.inr rfl))
    split
    · exact .inr (.inl rfl)
    · rw [if_neg (by omega)]
      exact .inl rfl
theorem partW_ne {m : MV} {num t i : Int} (hd : dflB m t i = false) : partW m num t i ≠ [] := by
  unfold partW
  split
  · rename_i h
    subst h
    rw [dfl_list] at hd
    intro h
    rw [List.map_eq_nil_iff] at h
    rw [h] at hd
    simp at hd
  split
  · simp
  split <;> simp
theorem fldB_in {m : MV} {num t i : Int} (hd : dflB m t i = false) (h : MvSm m) (h1 : 1 ≤ num) (h2 : num ≤ 536870911) : fldB m num t i = (partW m num t i).flatMap wB := by
  have ht : 1 ≤ t ∧ t ≤ 10 := by rcases dfl_cases hd with ⟨h, -⟩ | h | ⟨h, -⟩ | h <;> omega
  unfold fldB
  rw [hd, if_neg (by simp), if_pos]
  rw [List.all_eq_true]
  intro x hx
  obtain ⟨e, hw⟩ := partW_in ht.1 ht.2 h hx
  have hl := (partW_facts h).2 x hx
  refine decide_eq_true ?_
  unfold wErr pErr
  have hwb : wireB x.2.1 = true := by rcases hw with e | e | e | e <;> rw [e] <;> rfl
  rw [e, mk_ok h1 h2 hwb, if_neg (by simp), if_neg (by omega)]
theorem fldB_out {m : MV} {num t i : Int} (h : MvSm m) (hn : num < 1 ∨ 536870911 < num) : fldB m num t i = [] := by
  unfold fldB
  cases hd : dflB m t i with
  | true => rfl
  | false =>
    have ht : 1 ≤ t ∧ t ≤ 10 := by rcases dfl_cases hd with ⟨h, -⟩ | h | ⟨h, -⟩ | h <;> omega
    rw [if_neg (by simp), if_neg]
    intro ha
    rw [List.all_eq_true] at ha
    obtain ⟨x, hx⟩ := List.exists_mem_of_ne_nil _ (partW_ne (num := num) hd)
    have hz := of_decide_eq_true (ha x hx)
    obtain ⟨e, -⟩ := partW_in ht.1 ht.2 h hx
    unfold wErr pErr at hz
    rw [e] at hz
    have hm : mk num x.2.1 = (0, 1) := by unfold mk; rw [if_pos hn]
    rw [hm] at hz
    simp at hz
theorem small_sm {m : MV} (h : smallB m = true) : MvSm m := by
  obtain ⟨h1, h2, h3, h4⟩ := smallB_facts h
  refine ⟨by omega, fun i => ?_, fun s hs => by have := h4 s hs; omega⟩
  unfold MV.text
  split
  · exact h1
  · exact h2
  · decide
end Go.Proofs.Ytnfodgjihdoncaa
