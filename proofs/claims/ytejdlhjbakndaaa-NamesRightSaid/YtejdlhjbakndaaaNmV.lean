/- Names: the document's: behind which steps each one comes: a walk. -/
import Derived.Test.YtejdlhjbakndaaaNmB
import Derived.Test.YtejdlhjbakndaaaNmU
set_option linter.unusedVariables false
namespace Go.Proofs.Ytejdlhjbakndaaa
open Go.RowKit
namespace Nm
theorem rfAll_snoc (N : List ByteArray) (X : List StV) (k : Nat) (hk : k < X.length) : (rfAll N 0 X).take (k + 1) = (rfAll N 0 X).take k ++ [rfRow N k X[k].af.xs] := by
  rw [List.take_succ_eq_append_getElem (by rw [rfAll_len]; exact hk), rfAll_at N X 0 k hk, Nat.zero_add]
theorem rfRow_len (N : List ByteArray) (i : Nat) (l : List ByteArray) : (rfRow N i l).length ≤ l.length := by
  have := rfFold_len N i l []
  unfold rfRow
  simpa using this
end Nm
set_option maxRecDepth 100000 in
set_option maxHeartbeats 16000000 in
theorem rrefs25_any (D : DfV) (w : World) (hst : StRow w D) (hX : ∀ x ∈ D.st.xs, TxOk w x.af ∧ x.af.xs.length ≤ 70) (hl : D.st.xs.length ≤ 30) :
    Calls Try.prog 17 #[.agg #[.string D.nm, .string D.tx, .slice D.st.A D.st.xs.length D.st.c]] w fun e w' => ∃ v, e = .returned v ∧ RwS w' v (Nm.rfAll (nms D.st.xs) 0 D.st.xs) ∧ Below w.heap.size w w' := by
  obtain ⟨i0, hi0, hz0, hz1, hz2⟩ := info_parts Try.infoI25
  obtain ⟨iR, hiR, hzR, hzR1, hzR2⟩ := info_parts Try.infoR25
  obtain ⟨s, hws⟩ : ∃ s, w.heap.size = s := ⟨_, rfl⟩
  have HWS := hid hws
  have hb1 := bw_a (Below.refl _ w) (.cells #[.string D.nm, .string D.tx, .slice D.st.A D.st.xs.length D.st.c] 24)
  have hk1 := Blk.new w 24 #[.string D.nm, .string D.tx, .slice D.st.A D.st.xs.length D.st.c]
  rw [hws] at hk1
  have hsr := StRow.below hst hb1
  have HC1 := hid (fun (y : ByteArray) (W : World) (h : Below w.heap.size w W) => index25_any D y W (StRow.below hst h) (by omega))
  have HTX := hid (fun x (h : x ∈ D.st.xs) => hX x h)
  obtain ⟨N, hN⟩ : ∃ N, nms D.st.xs = N := ⟨_, rfl⟩
  have HNL := hid (show N.length = D.st.xs.length by rw [← hN, nms_len])
  rw [hN] at HC1 ⊢
  obtain ⟨n, hn⟩ : ∃ n, D.st.xs.length = n := ⟨_, rfl⟩
  obtain ⟨SA, hSA⟩ : ∃ SA, D.st.A = SA := ⟨_, rfl⟩
  have HN := hid hn
  unfold StRow at hsr
  rw [hn, hSA] at hb1 hk1 hsr HC1 ⊢
  rw [hn] at hl HNL
  have HB1 := hid hb1
  have HK1 := hid hk1
  have HS1 := hid hsr
  rw [hws]
  clear hn hSA hb1 hk1 hst hN hX hsr
  go_enter Try.func17, Try.ntmps17
  go_wp2_with fail
  obtain ⟨w1, hw1⟩ : ∃ w1, w.alloc (.cells #[.string D.nm, .string D.tx, .slice SA n D.st.c] 24) = w1 := ⟨_, rfl⟩
  rw [hw1] at HB1 HK1 HS1 ⊢
  have hz1s : w1.heap.size = s + 1 := by rw [← hw1, World.size_alloc, hws]
  have HZ1 := hid hz1s
  clear hw1 hz1s
  have HR := hid (Below.refl (s + 1) w1)
  go_loopw [3, 4] (fun ov i wr => ∃ (k : Nat) (vs : List Value), k ≤ n ∧ i = .int .i64 (k : Int) ∧ wr.ownsRow (s + 1) 37 1 ov k vs ∧ RwO wr (s + 1) vs ((Nm.rfAll N 0 D.st.xs).take k) ∧ Below (s + 1) w1 wr ∧ s + 1 ≤ wr.heap.size) (fun _ i _ => n - (intOf i).toNat)
  case atStart => exact ⟨0, [], by omega, rfl, World.ownsRow_nil _ _ _ _, RwO.nil_ _ _, HR.out, by rw [HZ1.out]; exact Nat.le_refl _⟩
  case round =>
    obtain ⟨k, vs, hk, rfl, how, hro, hbe, hss⟩ := hrel
    have HO := hid how
    have HRO := hid hro
    have HBE := hid hbe
    have hk1 := HK1.out.below (HBE.out.mono (by omega) : Below (s + 1) w1 wr) (by omega)
    have d0 := hk1.cell 0
    have d1 := hk1.cell 1
    have d2 := hk1.cell 2
    simp only [List.getElem?_toArray, List.getElem?_cons_zero, List.getElem?_cons_succ] at d0 d1 d2
    have HK2 := hid hk1
    clear hk1 how hro hbe
    by_cases hlt : k < n
    · have hkl : k < D.st.xs.length := by have := HN.out; omega
      have HBW := hid (show Below w1.heap.size w1 wr by rw [HZ1.out]; exact HBE.out)
      have HBV := hid (show Below w.heap.size w wr from bw_t HB1.out HBW.out)
      obtain ⟨g, o, hA, hg, e0, e1, e2, e3, -⟩ := st_at (X := D.st.xs) (by have := HS1.out.below HBW.out; exact this) k hkl
      have hms := Nm.rfAll_snoc N D.st.xs k hkl
      obtain ⟨htx, h70⟩ := HTX.out _ (List.getElem_mem hkl)
      generalize D.st.xs[k] = x at *
      obtain ⟨M, hM⟩ : ∃ M, (Nm.rfAll N 0 D.st.xs).take k = M := ⟨_, rfl⟩
      rw [hM] at HRO hms
      clear hM e0 e1 e2 hkl
      have HMS := hid hms
      have HTX2 := hid htx
      obtain ⟨m, hm⟩ : ∃ m, x.af.xs.length = m := ⟨_, rfl⟩
      obtain ⟨fA, hfA⟩ : ∃ fA, x.af.A = fA := ⟨_, rfl⟩
      have HM := hid hm
      have HFA := hid hfA
      rw [hm, hfA] at e3
      rw [hm] at h70
      clear hms htx hm hfA
      subst hA
      have hki : (k : Int) < (n : Int) := by omega
      have hk0 : (0 : Int) ≤ (k : Int) := by omega
      go_wp2_with fail
      clear d0 d1 d2
      obtain ⟨wo, rfl⟩ : ∃ z, z = wr := ⟨_, rfl⟩
      obtain ⟨B, hB⟩ : ∃ B, wo.heap.size = B := ⟨_, rfl⟩
      have HBB := hid hB
      rw [hB] at hss
      clear hB
      have HRB := hid (Below.refl B wo)
      go_loopw [5, 6] (fun lv i wr => ∃ p : Nat, p ≤ m ∧ i = .int .i64 (p : Int) ∧ wr.ownsRow B 3 1 lv (Nm.rfRow N k (x.af.xs.take p)).length ((Nm.rfRow N k (x.af.xs.take p)).flatMap nvC) ∧ Below B wo wr ∧ B ≤ wr.heap.size) (fun _ i _ => m - (intOf i).toNat)
      case atStart => exact ⟨0, by omega, rfl, World.ownsRow_nil _ _ _ _, HRB.out, by rw [HBB.out]; exact Nat.le_refl _⟩
      case round =>
        obtain ⟨p, hp, rfl, how2, hbe2, hsB⟩ := hrel
        have HO2 := hid how2
        have HBE2 := hid hbe2
        clear how2 hbe2
        have hss2 : s + 1 ≤ B := hss
        have hB1 := HBE2.out.mono (show s + 1 ≤ B by omega)
        have hbw1 := HBE.out.trans hB1
        have hk3 := HK1.out.below (hbw1 : Below (s + 1) w1 wr) (by omega)
        have d0 := hk3.cell 0
        have d1 := hk3.cell 1
        have d2 := hk3.cell 2
        simp only [List.getElem?_toArray, List.getElem?_cons_zero, List.getElem?_cons_succ] at d0 d1 d2
        have hgB : g < B := by rw [← HBB.out]; exact hg
        have e3' := (HBE2.out.cell hgB).trans e3
        have HBW1 := hid hbw1
        have HE3 := hid e3
        clear hk3 hB1 hbw1 e3
        by_cases hlp : p < m
        · have hpl : p < x.af.xs.length := by have := HM.out; omega
          have HBR := hid (show Below w.heap.size w wr from bw_t HB1.out (by rw [HZ1.out]; exact HBW1.out))
          obtain ⟨g2, o2, hA2, hg2, t0⟩ := tx_at (TxOk.below (W' := wr) HTX2.out HBR.out) p hpl
          have hsn := Nm.rfRow_snoc N k x.af.xs p hpl
          have hlp2 := Nm.rfRow_len N k (x.af.xs.take p)
          rw [List.length_take] at hlp2
          generalize x.af.xs[p] = y at *
          obtain ⟨Z, hZ⟩ : ∃ Z, Nm.rfRow N k (x.af.xs.take p) = Z := ⟨_, rfl⟩
          rw [hZ] at HO2 hsn hlp2
          have HSN := hid hsn
          clear hZ hsn
          rw [HFA.out] at hA2
          subst hA2
          have hpi : (p : Int) < (m : Int) := by omega
          have hp0 : (0 : Int) ≤ (p : Int) := by omega
          obtain ⟨R, hR⟩ : ∃ R, Nm.ixI N y = R := ⟨_, rfl⟩
          have HD0 := hid (show Below wr.heap.size wr wr.drew from bw_d (Below.refl _ wr) 1)
          have C1' : ∀ W, Below wr.heap.size wr W → Calls Try.prog 34 #[.agg #[.string D.nm, .string D.tx, .slice (some ⟨g, o, none⟩) n D.st.c], .string y] W fun e w' => e = .returned (.int .i64 R) ∧ Below wr.heap.size wr w' := fun W hb => by
            with_reducible refine (HC1.out y W (HBR.out.trans (hb.mono HBR.out.size))).mono ?_
            rintro e w' ⟨rfl, hb'⟩
            exact ⟨by rw [hR], bw_t hb hb'⟩
          have C1 := hid C1'
          clear C1'
          have hs0 : s < wr.heap.size := by omega
          have hgr : g < wr.heap.size := by omega
          have hS : ∀ W', Below wr.heap.size wr W' → W'.cell? ⟨s, 0, none⟩ = some (.string D.nm) ∧ W'.cell? ⟨s, 1, none⟩ = some (.string D.tx) ∧ W'.cell? ⟨s, 2, none⟩ = some (.slice (some ⟨g, o, none⟩) n D.st.c) ∧ W'.cell? ⟨g, o + k * 13 + 3, none⟩ = some (.slice (some ⟨g2, o2, none⟩) m x.af.c) ∧ W'.cell? ⟨g2, o2 + p, none⟩ = some (.string y) := fun W' hb => ⟨(hb.cell hs0).trans d0, (hb.cell hs0).trans d1, (hb.cell hs0).trans d2, (hb.cell hgr).trans e3', (hb.cell hg2).trans t0⟩
          have HSS := hid hS
          clear hS
          go_wp2_with fail
          go_region_held3 (fun w' => w'.cell? ⟨s, 0, none⟩ = some (.string D.nm) ∧ w'.cell? ⟨s, 1, none⟩ = some (.string D.tx) ∧ w'.cell? ⟨s, 2, none⟩ = some (.slice (some ⟨g, o, none⟩) n D.st.c) ∧ w'.cell? ⟨g, o + k * 13 + 3, none⟩ = some (.slice (some ⟨g2, o2, none⟩) m x.af.c) ∧ w'.cell? ⟨g2, o2 + p, none⟩ = some (.string y)) (first | exact HSS.out _ HD0.out | exact HSS.out _ HDa.out | go_keep) (first
            | (go_at_call 34; (with_reducible refine (C1.out _ HD0.out).mono ?_); rintro e wa ⟨rfl, hbn⟩; have HDa := hid hbn; clear hbn))
          have HBA := hid (show Below B wo wa from HBE2.out.trans (HDa.out.mono hsB))
          have HOA := hid (own_below HO2.out HDa.out)
          have hsa := HDa.out.size
          clear d0 d1 d2 e3' t0 C1 HC1 HSS HDa HD0
          by_cases hx : Nm.ix N y < N.length
          · have hR2 : R = (Nm.ix N y : Int) := by rw [← hR]; unfold Nm.ixI; rw [if_pos hx]
            obtain ⟨J, hJ⟩ : ∃ J, Nm.ix N y = J := ⟨_, rfl⟩
            have hadd := HSN.out
            unfold Nm.rfAdd at hadd
            rw [hJ] at hadd hx hR2
            have hJn : J < n := by have := HNL.out; omega
            subst hR2
            have HAD := hid hadd
            have HX := hid hx
            clear hadd hx hR hJ HSN
            have hJ0 : (0 : Int) ≤ (J : Int) := by omega
            by_cases hji : J = k
            · have hji2 : (J : Int) = (k : Int) := by omega
              have hq := HAD.out
              rw [if_neg (fun h => h.2.1 hji)] at hq
              have HQ := hid hq
              clear hq HAD hji
              go_wp2_with fail
              go_roundw
              case rel => exact ⟨p + 1, by omega, by go_num, by rw [HQ.out]; exact HOA.out, HBA.out, by omega⟩
              case measure => simp [intOf] <;> omega
            · have hji2 : ¬ (J : Int) = (k : Int) := by omega
              obtain ⟨va, ca, hv, hsl⟩ := SlN.of_own (by omega) HOA.out
              subst hv
              have C2 := hid (has25_any Z Z.length va ca J wa rfl (by omega) hsl)
              clear hsl
              obtain ⟨bb, hbb⟩ : ∃ bb, decide (J ∈ Z) = bb := ⟨_, rfl⟩
              rw [hbb] at C2
              cases bb with
              | true =>
                have hq := HAD.out
                rw [if_neg (fun h => h.2.2 (of_decide_eq_true hbb))] at hq
                have HQ := hid hq
                clear hq HAD hji hbb
                go_wp2_with (go_at_call 39; refine (C2.out).mono ?_; rintro e wb ⟨rfl, rfl⟩)
                go_roundw
                case rel => exact ⟨p + 1, by omega, by go_num, by rw [HQ.out]; exact HOA.out, HBA.out, by omega⟩
                case measure => simp [intOf] <;> omega
              | false =>
                have hq := HAD.out
                rw [if_pos ⟨HX.out, hji, of_decide_eq_false hbb⟩] at hq
                have HQ := hid hq
                clear hq HAD hji hbb
                have hza : B ≤ wa.heap.size := by omega
                go_wp2_with (first
                  | (go_at_call 39; refine (C2.out).mono ?_; rintro e wb ⟨rfl, rfl⟩)
                  | (at_builtin; refine wpList_append_rd rfl (.tmp 50) (.tmp 52) 37 rfl B 3 i0 (.int .i64 0) 1 8 Try.underlying37 hi0 hz0 hz1 hz2 rfl (by decide) _ _ _ rfl (own_below HOA.out (bw_a (Below.refl _ wa) (.cells #[.int .i64 (J : Int)] 3))) (some ⟨wa.heap.size, 0, none⟩) 1 1 [.int .i64 (J : Int)] rfl rfl (Rd.new wa 3 #[.int .i64 (J : Int)]) (fun h => by cases h) (by simp [Value.oneCell']) (by simp only [maxLen]; omega) (by omega) (by rw [World.size_alloc]; omega) ?_; intro v2 w2 hown2 hgrow2; have HOW2 := hid hown2; have HG2 := hid hgrow2; clear hown2 hgrow2))
                have hvb : ∀ j, Value.ownBlock (.slice va Z.length ca) = some j → B ≤ j := fun j e => (HOA.out.lt j e).1
                have HB2 := hid ((HBA.out.alloc hza (.cells #[.int .i64 (J : Int)] 3)).grown HG2.out (by rw [World.size_alloc]; omega) hvb)
                have hs2 := HG2.out.size
                rw [World.size_alloc] at hs2
                go_roundw
                case rel => exact ⟨p + 1, by omega, by go_num, by rw [HQ.out, List.length_append, List.flatMap_append]; exact HOW2.out, HB2.out, by omega⟩
                case measure => simp [intOf] <;> omega
          · have hR2 : R = -1 := by rw [← hR]; unfold Nm.ixI; rw [if_neg hx]
            have hq := HSN.out
            unfold Nm.rfAdd at hq
            rw [if_neg (fun h => hx h.1)] at hq
            have HQ := hid hq
            subst hR2
            clear hq HSN hx hR
            go_wp2_with fail
            go_roundw
            case rel => exact ⟨p + 1, by omega, by go_num, by rw [HQ.out]; exact HOA.out, HBA.out, by omega⟩
            case measure => simp [intOf] <;> omega
        · obtain rfl : p = m := by omega
          have hnp : ¬ (p : Int) < (p : Int) := by omega
          have hfin := HMS.out
          rw [List.take_of_length_le (by have := HM.out; omega)] at HO2
          obtain ⟨Z, hZ⟩ : ∃ Z, Nm.rfRow N k x.af.xs = Z := ⟨_, rfl⟩
          rw [hZ] at HO2 hfin
          have HFI := hid hfin
          have hro1 := HRO.out.chg (Chg.of_below (S := fun q => B ≤ q) HBE2.out (fun q _ h => by omega)) (fun i g q hq hx => by have := (HRO.out.lt i g q hq).2; have := HBB.out; omega)
          have hro2 := RwO.snoc hro1 (own_mono HO2.out hss2) (fun i g q hq e => by have := (HRO.out.lt i g q hq).2; have := HBB.out; have := (HO2.out.lt q e).1; omega)
          obtain ⟨va, ca, hv, -⟩ := SlN.of_own (by omega) HO2.out
          subst hv
          have ho1 := own_chgS HO.out (Chg.of_below (S := fun q => B ≤ q) HBE2.out (fun q _ h => by omega)) (fun q hq hx => by have := (HO.out.lt q hq).2; have := HBB.out; omega)
          have HRO2 := hid hro2
          have HO1 := hid ho1
          clear hro1 hro2 ho1 hfin hZ
          go_wp2_with (first
            | (at_builtin; refine wpList_append_rd rfl (.tmp 54) (.tmp 56) 32 rfl (s + 1) 37 iR (.slice none 0 0) 1 24 Try.underlying32 hiR hzR hzR1 hzR2 rfl (by decide) _ k vs rfl (own_below HO1.out (bw_a (Below.refl _ wr) (.cells #[.slice va Z.length ca] 37))) (some ⟨wr.heap.size, 0, none⟩) 1 1 [.slice va Z.length ca] rfl rfl (Rd.new wr 37 #[.slice va Z.length ca]) (fun h => by cases h) (by simp [Value.oneCell']) (by simp only [maxLen]; omega) (by omega) (by rw [World.size_alloc]; omega) ?_; intro v2 w2 hown2 hgrow2; have HOW2 := hid hown2; have HG2 := hid hgrow2; clear hown2 hgrow2))
          have hs2 := HG2.out.size
          rw [World.size_alloc] at hs2
          have hcg := ((Chg.refl (fun q => some q = Value.ownBlock u3) wr).alloc (.cells #[.slice va Z.length ca] 37)).trans (Chg.of_grown HG2.out (fun g e => e.symm))
          go_roundw
          case rel => exact ⟨k + 1, vs ++ [.slice va Z.length ca], by omega, by go_num, HOW2.out, by rw [HFI.out]; exact HRO2.out.chg hcg (fun i g q hq hx => by
            have h1 := own_two (HRO2.out.own i g (by rw [← HRO2.out.len]; exact g)) HO1.out (by decide)
            rcases h1 with h1 | h1
            · rw [h1] at hq; cases hq
            · exact h1 (by rw [hq]; exact hx)), ((HBW1.out.alloc (by omega) (.cells #[.slice va Z.length ca] 37)).grown HG2.out (by rw [World.size_alloc]; omega) (fun j e => (HO1.out.lt j e).1)), by omega⟩
          case measure => simp [intOf] <;> omega
    · obtain rfl : k = n := by omega
      have hnk : ¬ (k : Int) < (k : Int) := by omega
      rw [List.take_of_length_le (by rw [Nm.rfAll_len]; have := HN.out; omega)] at HRO
      go_wp2_with fail
      go_ret
      exact ⟨_, rfl, RwO.rws HRO.out (by rw [Nm.rfAll_len, HN.out]; exact HO.out), by have h := bw_t HB1.out (show Below w1.heap.size w1 wr by rw [HZ1.out]; exact HBE.out); rw [HWS.out] at h; exact h⟩
end Go.Proofs.Ytejdlhjbakndaaa
