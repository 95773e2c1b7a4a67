/- The document's Gaps. -/
import Derived.Test.YtgpkjlaplmdnaaaRsRef
import Derived.Test.YtgpkjlaplmdnaaaRsM5
set_option linter.unusedVariables false
namespace Go.Proofs.Ytgpkjlaplmdnaaa
open Go.RowKit
theorem Rs.gs_len2 (l : List Fnd) : (Rs.gs l).1.length ≤ l.length := Rs.gs_len l
set_option maxRecDepth 100000 in
set_option maxHeartbeats 4000000 in
theorem rgaps_any (bs : List UInt8) (n : Nat) (A : Option Addr) (c : Nat) (w : World) (hn : bs.length = n) (hl : n ≤ 1000000) (hs : Sl w A c (bs.map bv)) :
    Calls Try.prog 36 #[.slice A n c] w fun e w' => ∃ v, e = .returned v ∧ w'.ownsRow w.heap.size 58 2 v (Rs.gaps (Rs.wk false bs 0).1 (Rs.wk false bs 0).2).length ((Rs.gaps (Rs.wk false bs 0).1 (Rs.wk false bs 0).2).flatMap gC) ∧ Below w.heap.size w w' := by
  obtain ⟨i0, hi, hz0, hz1, hz2⟩ := info_parts Try.info58
  have hwk := rwalk_any false bs n A c w hn hl hs
  have hE := (Rs.wk_facts false bs 0).2.2 (Nat.zero_le _)
  have hmem := fun f (h : f ∈ (Rs.wk false bs 0).1) => (show f.at_ + f.size ≤ n from by have := ((Rs.wk_facts false bs 0).1 f h).2.1.2.2.2; omega)
  have hlen := Rs.wk_len false bs 0
  rw [hn] at hE hlen
  unfold WkR at hwk
  generalize (Rs.wk false bs 0).1 = l at *
  generalize (Rs.wk false bs 0).2 = E at *
  obtain ⟨nl, hnl⟩ : ∃ k, l.length = k := ⟨_, rfl⟩
  rw [hnl] at hwk hlen
  have HWK := hid hwk
  have HMEM := hid hmem
  have HNL := hid hnl
  clear hwk hmem hnl hn hs
  go_enter Try.func36, Try.ntmps36
  go_wp2_with fail
  refine HWK.out.mono ?_
  rintro e w1 ⟨A1, c1, ps, rfl, -, hrow, hb1⟩
  have HROW := hid hrow
  have HB1 := hid hb1
  have hsz1 := hb1.size
  clear hrow hb1
  go_wp2_with fail
  go_loopw [6, 7, 8, 9] (fun v a i _ wr => ∃ (k : Nat) (o : List (Nat × Nat)) (at_ : Nat) (Ao : Option Addr) (co : Nat), k ≤ nl + 1 ∧ i = .int .i64 (k : Int) ∧ a = .int .i64 (at_ : Int) ∧ v = .slice Ao o.length co ∧ wr.ownsRow w1.heap.size 58 2 (.slice Ao o.length co) o.length (o.flatMap gC) ∧ Below w1.heap.size w1 wr ∧ (k ≤ nl → Rs.gs (l.take k) = (o, at_)) ∧ (k = nl + 1 → o = Rs.gaps l E) ∧ at_ ≤ n ∧ o.length ≤ k) (fun _ _ i _ _ => nl + 1 - (intOf i).toNat)
  case atStart => exact ⟨0, [], 0, none, 0, by omega, rfl, rfl, rfl, World.ownsRow_nil _ _ _ _, Below.refl _ _, fun _ => rfl, fun h => by omega, by omega, Nat.le_refl _⟩
  case round =>
    obtain ⟨k, o, a, Ao, co, hk, rfl, rfl, rfl, ho, hB, hg1, hg2, han, hol⟩ := hrel
    obtain ⟨ol, hoe⟩ : ∃ m, o.length = m := ⟨_, rfl⟩
    rw [hoe] at ho hol ⊢
    have HOE := hid hoe
    have HO := hid ho
    have HB := hid hB
    have hbsz := hB.size
    have hk0 : (0 : Int) ≤ (k : Int) := by omega
    clear hoe ho
    by_cases hlt : k < nl
    · have hkl : k < l.length := by have := HNL.out; omega
      obtain ⟨b, off, P, q, rfl, hb1, r0, r1, r2, -, hnc, hcm⟩ := HROW.out.get HNL.out k hkl
      have hb := Nat.lt_of_lt_of_le hb1 hB.size
      have s0 := (hB.cell (p := ⟨b, off + k * 3, none⟩) hb1).trans r0
      have s2 := (hB.cell (p := ⟨b, off + k * 3 + 2, none⟩) hb1).trans r2
      have hm := HMEM.out _ (List.getElem_mem hkl)
      have hgs := hg1 (by omega)
      have hsn := Rs.gs_snoc (l.take k) l[k]
      rw [← List.take_succ_eq_append_getElem hkl, hgs] at hsn
      simp only at hsn
      have hsz : l[k].size = l[k].pl.length + 9 := rfl
      rw [hsz] at hm hsn
      generalize l[k].at_ = fa at *
      generalize l[k].pl.length = pl at *
      have HSN := hid hsn
      have hki : (k : Int) < (nl : Int) := by omega
      have hkle : (k : Int) ≤ (nl : Int) := by omega
      have HR2 := hid r2
      clear hB hg1 hg2 hgs hsn hsz hkl r0 r1 r2
      by_cases hgp : a < fa
      · have hgI : (a : Int) < (fa : Int) := by omega
        have hge : Rs.gap a fa = [(a, fa)] := by unfold Rs.gap; rw [if_pos hgp]
        have HGE := hid hge
        have HO1 := hid (own_below HO.out (bw_a (Below.refl _ wr) (.cells #[.int .i64 (a : Int), .int .i64 (fa : Int)] 58)))
        have HB2 := hid (bw_a HB.out (.cells #[.int .i64 (a : Int), .int .i64 (fa : Int)] 58))
        have HRD := hid (Rd.new wr 58 #[.int .i64 (a : Int), .int .i64 (fa : Int)])
        have hb' : b < wr.heap.size := hb
        clear hge
        go_wp2_with (at_builtin; refine wpList_append_rd rfl (.tmp 35) (.tmp 39) 56 rfl w1.heap.size 58 i0 (.agg #[.int .i64 0, .int .i64 0]) 2 16 Try.underlying56 hi hz0 hz1 hz2 rfl (by decide) _ ol _ rfl HO1.out (some ⟨wr.heap.size, 0, none⟩) 1 1 [.int .i64 (a : Int), .int .i64 (fa : Int)] rfl rfl HRD.out (fun h => by cases h) (by simp [Value.oneCell']) (by simp only [maxLen]; omega) (by omega) (by rw [World.size_alloc]; omega) ?_; intro v2 w2 hown2 hgrow2; obtain ⟨A2, c2, rfl⟩ := row_slice_g hown2; have HO2 := hid hown2; have hB3 := (bw_g HB2.out hgrow2 (fun k ek => (HO1.out.lt k ek).1)); have s2' := (hB3.cell (p := ⟨b, off + k * 3 + 2, none⟩) hb1).trans HR2.out; have hb3 := Nat.lt_of_lt_of_le hb1 hB3.size; have HB3 := hid hB3; clear hown2 hgrow2 hB3)
        go_roundw
        case rel =>
          have hll : (o ++ [(a, fa)]).length = ol + 1 := by rw [List.length_append, HOE.out]; rfl
          refine ⟨k + 1, o ++ [(a, fa)], fa + (pl + 9), A2, c2, by omega, by go_num, by go_num, by rw [hll], ?_, HB3.out, fun _ => ?_, fun h => by omega, by omega, by rw [hll]; omega⟩
          · rw [hll, List.flatMap_append]; exact HO2.out
          · rw [HSN.out, HGE.out]
        case measure => simp [intOf]; omega
      · have hgI : decide ((a : Int) < (fa : Int)) = false := by simp; omega
        have hgJ : ¬ (a : Int) < (fa : Int) := by omega
        have hgK : (fa : Int) ≤ (a : Int) := by omega
        have hge : Rs.gap a fa = [] := by unfold Rs.gap; rw [if_neg hgp]
        have HGE := hid hge
        clear hge
        go_wp2_with fail
        go_roundw
        case rel =>
          refine ⟨k + 1, o, fa + (pl + 9), Ao, co, by omega, by go_num, by go_num, by rw [HOE.out], by rw [HOE.out]; exact HO.out, HB.out, fun _ => ?_, fun h => by omega, by omega, by rw [HOE.out]; omega⟩
          rw [HSN.out, HGE.out, List.append_nil]
        case measure => simp [intOf]; omega
    · by_cases heq : k = nl
      · subst heq
        have hgs := hg1 (Nat.le_refl _)
        rw [List.take_of_length_le (by have := HNL.out; omega)] at hgs
        have hga : Rs.gaps l E = o ++ Rs.gap a E := by unfold Rs.gaps; rw [hgs]
        have HGA := hid hga
        clear hB hg1 hg2 hgs hga
        have hkle : (k : Int) ≤ (k : Int) := by omega
        by_cases hgp : a < E
        · have hgI : (a : Int) < (E : Int) := by omega
          have hge : Rs.gap a E = [(a, E)] := by unfold Rs.gap; rw [if_pos hgp]
          have HGE := hid hge
          have HO1 := hid (own_below HO.out (bw_a (Below.refl _ wr) (.cells #[.int .i64 (a : Int), .int .i64 (E : Int)] 58)))
          have HB2 := hid (bw_a HB.out (.cells #[.int .i64 (a : Int), .int .i64 (E : Int)] 58))
          have HRD := hid (Rd.new wr 58 #[.int .i64 (a : Int), .int .i64 (E : Int)])
          clear hge
          go_wp2_with (at_builtin; refine wpList_append_rd rfl (.tmp 35) (.tmp 39) 56 rfl w1.heap.size 58 i0 (.agg #[.int .i64 0, .int .i64 0]) 2 16 Try.underlying56 hi hz0 hz1 hz2 rfl (by decide) _ ol _ rfl HO1.out (some ⟨wr.heap.size, 0, none⟩) 1 1 [.int .i64 (a : Int), .int .i64 (E : Int)] rfl rfl HRD.out (fun h => by cases h) (by simp [Value.oneCell']) (by simp only [maxLen]; omega) (by omega) (by rw [World.size_alloc]; omega) ?_; intro v2 w2 hown2 hgrow2; obtain ⟨A2, c2, rfl⟩ := row_slice_g hown2; have HO2 := hid hown2; have HB3 := hid (bw_g HB2.out hgrow2 (fun k ek => (HO1.out.lt k ek).1)); clear hown2 hgrow2)
          go_roundw
          case rel =>
            have hll : (o ++ [(a, E)]).length = ol + 1 := by rw [List.length_append, HOE.out]; rfl
            refine ⟨k + 1, o ++ [(a, E)], a, A2, c2, by omega, by go_num, rfl, by rw [hll], ?_, HB3.out, fun h => by omega, fun _ => ?_, by omega, by rw [hll]; omega⟩
            · rw [hll, List.flatMap_append]; exact HO2.out
            · rw [HGA.out, HGE.out]
          case measure => simp [intOf]
        · have hgI : decide ((a : Int) < (E : Int)) = false := by simp; omega
          have hgJ : ¬ (a : Int) < (E : Int) := by omega
          have hgK : (E : Int) ≤ (a : Int) := by omega
          have hge : Rs.gap a E = [] := by unfold Rs.gap; rw [if_neg hgp]
          have HGE := hid hge
          clear hge
          go_wp2_with fail
          go_roundw
          case rel =>
            refine ⟨k + 1, o, a, Ao, co, by omega, by go_num, rfl, by rw [HOE.out], by rw [HOE.out]; exact HO.out, HB.out, fun h => by omega, fun _ => ?_, by omega, by rw [HOE.out]; omega⟩
            rw [HGA.out, HGE.out, List.append_nil]
          case measure => simp [intOf]
      · obtain rfl : k = nl + 1 := by omega
        have hgo := hg2 rfl
        subst hgo
        have hkf : decide (((nl + 1 : Nat) : Int) ≤ (nl : Int)) = false := by simp; omega
        obtain ⟨k1, hk1⟩ : ∃ x, nl + 1 = x := ⟨_, rfl⟩
        rw [hk1] at hkf ⊢
        clear hB hg1 hg2
        go_wp2_with fail
        go_ret
        refine ⟨_, rfl, ?_, HB1.out.trans (HB.out.mono HB1.out.size)⟩
        rw [HOE.out]
        exact own_mono HO.out hsz1
end Go.Proofs.Ytgpkjlaplmdnaaa
