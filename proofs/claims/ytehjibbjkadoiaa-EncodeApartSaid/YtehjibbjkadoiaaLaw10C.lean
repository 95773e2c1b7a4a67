/- The walk of EncodeApart. -/
import Derived.Test.YtehjibbjkadoiaaLaw10A
import Derived.Test.YtehjibbjkadoiaaApart
set_option linter.unusedVariables false
namespace Go.Proofs.Ytehjibbjkadoiaa
open Go.RowKit
theorem apart_iff {a b : MV} (v : Int) {w w' : World} (ha : MvOk w a) (hb : MvOk w' b) (sa : MvSm a) (sb : MvSm b) (hk : a.k = b.k) (ca : (chkV a (ofL (a.k : Int) v)).1 = 0) (cb : (chkV b (ofL (b.k : Int) v)).1 = 0) : decide (encB a (ofL (a.k : Int) v) = encB b (ofL (b.k : Int) v)) = sameB a b := by
  rw [← hk] at cb ⊢
  cases h : sameB a b with
  | true => exact decide_eq_true (enc_alike h)
  | false =>
    refine decide_eq_false fun he => ?_
    have := enc_apart a.k v ha.n hb.n sa sb hk ca cb he
    rw [h] at this
    cases this
set_option maxRecDepth 100000 in
set_option maxHeartbeats 8000000 in
theorem encApart_any (a b : MV) (v : Int) (w : World) (hoka : MvOk w a) (hokb : MvOk w b) (hv1 : -9223372036854775808 ≤ v) (hv2 : v ≤ 9223372036854775807) : Calls Try.prog 7 #[mvV a, mvV b, .int .i64 v] w fun e w' => e = .returned (.bool true) ∧ Below w.heap.size w w' := by
  have hlv := fun W => live10_any W
  have hsma := fun W (hW : Below w.heap.size w W) => small9_any a W (hoka.l.below hW)
  have hsmb := fun W (hW : Below w.heap.size w W) => small9_any b W (hokb.l.below hW)
  have hba := fun h W (hW : Below w.heap.size w W) => (ebytes_any a v W (hoka.below hW) (small_sm h) hv1 hv2).mono (fun e w' h => bytesR_sl h)
  have hbb := fun h W (hW : Below w.heap.size w W) => (ebytes_any b v W (hokb.below hW) (small_sm h) hv1 hv2).mono (fun e w' h => bytesR_sl h)
  have hsv := fun W (hW : Below w.heap.size w W) => vsame_any a b W (hoka.l.below hW) (hokb.l.below hW)
  have hap := fun h1 h2 hk ca cb => apart_iff v hoka hokb (small_sm h1) (small_sm h2) hk ca cb
  have hela := fun h => enc_len a v hoka.n (small_sm h)
  have ha8 := hoka.k
  have hb8 := hokb.k
  generalize smallB a = sba at *
  generalize smallB b = sbb at *
  generalize encB a (ofL (a.k : Int) v) = ea at *
  generalize encB b (ofL (b.k : Int) v) = eb at *
  generalize (chkV a (ofL (a.k : Int) v)).1 = E1 at *
  generalize (chkV a (ofL (a.k : Int) v)).2 = E2 at *
  generalize (chkV b (ofL (b.k : Int) v)).1 = F1 at *
  generalize (chkV b (ofL (b.k : Int) v)).2 = F2 at *
  generalize sameB a b = sab at *
  unfold mvV mvA at *
  generalize a.l.length = la at *
  generalize b.l.length = lb at *
  obtain ⟨na, hna⟩ : ∃ n, ea.length = n := ⟨_, rfl⟩
  obtain ⟨nb, hnb⟩ : ∃ n, eb.length = n := ⟨_, rfl⟩
  rw [hna] at hba hela
  rw [hnb] at hbb
  obtain ⟨s, hws⟩ : ∃ s, w.heap.size = s := ⟨_, rfl⟩
  rw [hws] at hsma hsmb hba hbb hsv ⊢
  have HLV := hid hlv
  have HSMA := hid hsma
  have HSMB := hid hsmb
  have HBA := hid hba
  have HBB := hid hbb
  have HSV := hid hsv
  have HAP := hid hap
  have HEL := hid hela
  have HNA := hid hna
  have HNB := hid hnb
  clear hlv hsma hsmb hba hbb hsv hap hela hna hnb hoka hokb
  go_enter Try.func7, Try.ntmps7
  go_wp2_with fail
  obtain ⟨W, hW⟩ : ∃ W, (w.alloc (.cells #[.int .u8 (a.k : Int), .int .u64 (a.n0 : Int), .int .u64 (a.n1 : Int), .int .u64 (a.n2 : Int), .int .u64 (a.n3 : Int), .int .u64 (a.n4 : Int), .int .u64 (a.n5 : Int), .string a.s0, .string a.s1, .slice a.A la a.c] 27)).alloc (.cells #[.int .u8 (b.k : Int), .int .u64 (b.n0 : Int), .int .u64 (b.n1 : Int), .int .u64 (b.n2 : Int), .int .u64 (b.n3 : Int), .int .u64 (b.n4 : Int), .int .u64 (b.n5 : Int), .string b.s0, .string b.s1, .slice b.A lb b.c] 27) = W := ⟨_, rfl⟩
  have hk0 : Blk W s 27 #[.int .u8 (a.k : Int), .int .u64 (a.n0 : Int), .int .u64 (a.n1 : Int), .int .u64 (a.n2 : Int), .int .u64 (a.n3 : Int), .int .u64 (a.n4 : Int), .int .u64 (a.n5 : Int), .string a.s0, .string a.s1, .slice a.A la a.c] := by rw [← hW, ← hws]; exact (Blk.new w _ _).alloc _
  have hk1 : Blk W (s + 1) 27 #[.int .u8 (b.k : Int), .int .u64 (b.n0 : Int), .int .u64 (b.n1 : Int), .int .u64 (b.n2 : Int), .int .u64 (b.n3 : Int), .int .u64 (b.n4 : Int), .int .u64 (b.n5 : Int), .string b.s0, .string b.s1, .slice b.A lb b.c] := by
    have h1 := Blk.new (w.alloc (.cells #[.int .u8 (a.k : Int), .int .u64 (a.n0 : Int), .int .u64 (a.n1 : Int), .int .u64 (a.n2 : Int), .int .u64 (a.n3 : Int), .int .u64 (a.n4 : Int), .int .u64 (a.n5 : Int), .string a.s0, .string a.s1, .slice a.A la a.c] 27)) 27 #[.int .u8 (b.k : Int), .int .u64 (b.n0 : Int), .int .u64 (b.n1 : Int), .int .u64 (b.n2 : Int), .int .u64 (b.n3 : Int), .int .u64 (b.n4 : Int), .int .u64 (b.n5 : Int), .string b.s0, .string b.s1, .slice b.A lb b.c]
    rw [World.size_alloc, hws, hW] at h1; exact h1
  have hB : Below s w W := by rw [← hW, ← hws]; exact bw_a (bw_a (Below.refl _ w) _) _
  have hlt := hk1.lt
  rw [hW]
  refine (HLV.out W).mono ?_
  rintro e w1 ⟨rfl, hb1⟩
  have hk0 := hk0.below hb1 (by omega)
  have hk1 := hk1.below hb1 (by omega)
  have hB := hB.trans (hb1.mono (by omega))
  have hlt := hk1.lt
  have c0 := hk0.cell 0
  have c1 := hk0.cell 1
  have c2 := hk0.cell 2
  have c3 := hk0.cell 3
  have c4 := hk0.cell 4
  have c5 := hk0.cell 5
  have c6 := hk0.cell 6
  have c7 := hk0.cell 7
  have c8 := hk0.cell 8
  have c9 := hk0.cell 9
  simp only [List.getElem?_toArray, List.getElem?_cons_zero, List.getElem?_cons_succ] at c0 c1 c2 c3 c4 c5 c6 c7 c8 c9
  have HK0 := hid hk0
  have HK1 := hid hk1
  have HB := hid hB
  clear hW hk0 hk1 hb1 hB
  go_wp2_with fail
  refine (HSMA.out _ HB.out).mono ?_
  rintro e w2 ⟨rfl, hb2⟩
  have hk02 := HK0.out.below hb2 (by omega)
  have hk12 := HK1.out.below hb2 (by omega)
  have HB2 := hid (HB.out.trans (hb2.mono (by omega)))
  have hlt2 := hk12.lt
  clear c0 c1 c2 c3 c4 c5 c6 c7 c8 c9
  have d0 := hk12.cell 0
  have d1 := hk12.cell 1
  have d2 := hk12.cell 2
  have d3 := hk12.cell 3
  have d4 := hk12.cell 4
  have d5 := hk12.cell 5
  have d6 := hk12.cell 6
  have d7 := hk12.cell 7
  have d8 := hk12.cell 8
  have d9 := hk12.cell 9
  simp only [List.getElem?_toArray, List.getElem?_cons_zero, List.getElem?_cons_succ] at d0 d1 d2 d3 d4 d5 d6 d7 d8 d9
  have HK02 := hid hk02
  have HK12 := hid hk12
  clear hk02 hk12 hb2 HK0 HK1
  cases sba with
  | false =>
    go_wp2_with fail
    go_ret
    exact ⟨rfl, HB2.out⟩
  | true =>
    have HF := hid (HBA.out rfl)
    have hell := HEL.out rfl
    have HAP1 := hid (HAP.out rfl)
    clear HBA HEL HAP
    go_wp2_with fail
    refine (HSMB.out _ HB2.out).mono ?_
    rintro e w3 ⟨rfl, hb3⟩
    have hk03 := HK02.out.below hb3 (by omega)
    have hk13 := HK12.out.below hb3 (by omega)
    have HB3 := hid (HB2.out.trans (hb3.mono (by omega)))
    have hlt3 := hk13.lt
    have hl03 : s < w3.heap.size := by omega
    clear d0 d1 d2 d3 d4 d5 d6 d7 d8 d9
    have c0 := hk03.cell 0
    have c1 := hk03.cell 1
    have c2 := hk03.cell 2
    have c3 := hk03.cell 3
    have c4 := hk03.cell 4
    have c5 := hk03.cell 5
    have c6 := hk03.cell 6
    have c7 := hk03.cell 7
    have c8 := hk03.cell 8
    have c9 := hk03.cell 9
    simp only [List.getElem?_toArray, List.getElem?_cons_zero, List.getElem?_cons_succ] at c0 c1 c2 c3 c4 c5 c6 c7 c8 c9
    have d0 := hk13.cell 0
    have d1 := hk13.cell 1
    have d2 := hk13.cell 2
    have d3 := hk13.cell 3
    have d4 := hk13.cell 4
    have d5 := hk13.cell 5
    have d6 := hk13.cell 6
    have d7 := hk13.cell 7
    have d8 := hk13.cell 8
    have d9 := hk13.cell 9
    simp only [List.getElem?_toArray, List.getElem?_cons_zero, List.getElem?_cons_succ] at d0 d1 d2 d3 d4 d5 d6 d7 d8 d9
    have HK03 := hid hk03
    have HK13 := hid hk13
    clear hk03 hk13 hb3 HK02 HK12
    cases sbb with
    | false =>
      go_wp2_with fail
      go_ret
      exact ⟨rfl, HB3.out⟩
    | true =>
      have HG := hid (HBB.out rfl)
      have HAP2 := hid (HAP1.out rfl)
      clear HBB HAP1
      by_cases hk : a.k = b.k
      · have hkb : ((a.k : Int) != (b.k : Int)) = false := by rw [hk]; simp
        have HAP3 := hid (HAP2.out hk)
        clear HAP2 hk
        go_wp2_with fail
        refine (HF.out _ HB3.out).mono ?_
        rintro e w4 ⟨A4, q4, rfl, hs4, -, hb4⟩
        have hk04 := HK03.out.below hb4 hl03
        have hk14 := HK13.out.below hb4 hlt3
        have HB4 := hid (HB3.out.trans (hb4.mono (by omega)))
        have hl4 := hk14.lt
        have hl41 : s + 1 < w4.heap.size + 1 := by omega
        have hl40 : s < w4.heap.size + 1 := by omega
        have HS4 := hid hs4
        clear hs4 hb4 c0 c1 c2 c3 c4 c5 c6 c7 c8 c9 d0 d1 d2 d3 d4 d5 d6 d7 d8 d9
        have d0 := hk14.cell 0
        have d1 := hk14.cell 1
        have d2 := hk14.cell 2
        have d3 := hk14.cell 3
        have d4 := hk14.cell 4
        have d5 := hk14.cell 5
        have d6 := hk14.cell 6
        have d7 := hk14.cell 7
        have d8 := hk14.cell 8
        have d9 := hk14.cell 9
        simp only [List.getElem?_toArray, List.getElem?_cons_zero, List.getElem?_cons_succ] at d0 d1 d2 d3 d4 d5 d6 d7 d8 d9
        have HK04 := hid hk04
        have HK14 := hid hk14
        clear hk04 hk14
        go_wp2_with fail
        refine (HG.out _ (HB4.out.trans ((bw_a (Below.refl _ w4) _).mono (by omega)))).mono ?_
        rintro e w5 ⟨A5, q5, rfl, hs5, -, hb5⟩
        have hb45 := bw_t (bw_a (Below.refl _ w4) (.cells #[.int .i64 E1, .int .i64 E2] 37)) hb5
        have hf5 := (Blk.new w4 37 #[.int .i64 E1, .int .i64 E2]).below hb5 (by simp)
        have hk05 := HK04.out.below hb45 (by omega)
        have hk15 := HK14.out.below hb45 hl4
        have hB5 := HB4.out.trans (hb45.mono (by omega))
        have hs45 := HS4.out.below hb45
        have hl5 := hk15.lt
        have hg5 := hf5.lt
        have ha := bw_a (Below.refl _ w5) (.cells #[.int .i64 F1, .int .i64 F2] 37)
        have hk0a := hk05.below ha (by omega)
        have hk1a := hk15.below ha hl5
        have hfa := hf5.below ha hg5
        have hfb := Blk.new w5 37 #[.int .i64 F1, .int .i64 F2]
        have HBa := hid (hB5.trans (ha.mono (by omega)))
        have HSa := hid (hs45.below ha)
        have HSb := hid (hs5.below ha)
        clear hs5 hb5 hb45 hk05 hk15 hf5 hB5 hs45 ha d0 d1 d2 d3 d4 d5 d6 d7 d8 d9
        have c0 := hk0a.cell 0
        have c1 := hk0a.cell 1
        have c2 := hk0a.cell 2
        have c3 := hk0a.cell 3
        have c4 := hk0a.cell 4
        have c5 := hk0a.cell 5
        have c6 := hk0a.cell 6
        have c7 := hk0a.cell 7
        have c8 := hk0a.cell 8
        have c9 := hk0a.cell 9
        simp only [List.getElem?_toArray, List.getElem?_cons_zero, List.getElem?_cons_succ] at c0 c1 c2 c3 c4 c5 c6 c7 c8 c9
        have d0 := hk1a.cell 0
        have d1 := hk1a.cell 1
        have d2 := hk1a.cell 2
        have d3 := hk1a.cell 3
        have d4 := hk1a.cell 4
        have d5 := hk1a.cell 5
        have d6 := hk1a.cell 6
        have d7 := hk1a.cell 7
        have d8 := hk1a.cell 8
        have d9 := hk1a.cell 9
        simp only [List.getElem?_toArray, List.getElem?_cons_zero, List.getElem?_cons_succ] at d0 d1 d2 d3 d4 d5 d6 d7 d8 d9
        have e0 := hfa.cell 0
        have e1 := hfa.cell 1
        simp only [List.getElem?_toArray, List.getElem?_cons_zero, List.getElem?_cons_succ] at e0 e1
        have f0 := hfb.cell 0
        have f1 := hfb.cell 1
        simp only [List.getElem?_toArray, List.getElem?_cons_zero, List.getElem?_cons_succ] at f0 f1
        have HC := hid (And.intro c0 (And.intro c1 (And.intro c2 (And.intro c3 (And.intro c4 (And.intro c5 (And.intro c6 (And.intro c7 (And.intro c8 (And.intro c9 (And.intro d0 (And.intro d1 (And.intro d2 (And.intro d3 (And.intro d4 (And.intro d5 (And.intro d6 (And.intro d7 (And.intro d8 d9)))))))))))))))))))
        clear hk0a hk1a hfa hfb
        by_cases he : E1 = 0
        · by_cases hf : F1 = 0
          · have hd := HAP3.out he hf
            have hsa := fun n => same_at ea eb na nb A4 A5 q4 q5 ((w5.alloc (.cells #[.int .i64 F1, .int .i64 F2] 37)).drewN n) HNA.out HNB.out (by omega) (HSa.out.drewN n).rd (HSb.out.drewN n).rd
            simp only [hd] at hsa
            subst he
            subst hf
            have HSA := hid hsa
            clear hd hsa HAP3
            clear c0 c1 c2 c3 c4 c5 c6 c7 c8 c9 d0 d1 d2 d3 d4 d5 d6 d7 d8 d9
            go_wp2_with fail
            generalize w5.alloc (.cells #[.int .i64 0, .int .i64 F2] 37) = W5 at *
            have HSA2 := hid (HSA.out 1)
            go_region_held3 (fun w' => w'.cell? ⟨s, 0, none⟩ = some (.int .u8 (a.k : Int)) ∧ w'.cell? ⟨s, 1, none⟩ = some (.int .u64 (a.n0 : Int)) ∧ w'.cell? ⟨s, 2, none⟩ = some (.int .u64 (a.n1 : Int)) ∧ w'.cell? ⟨s, 3, none⟩ = some (.int .u64 (a.n2 : Int)) ∧ w'.cell? ⟨s, 4, none⟩ = some (.int .u64 (a.n3 : Int)) ∧ w'.cell? ⟨s, 5, none⟩ = some (.int .u64 (a.n4 : Int)) ∧ w'.cell? ⟨s, 6, none⟩ = some (.int .u64 (a.n5 : Int)) ∧ w'.cell? ⟨s, 7, none⟩ = some (.string a.s0) ∧ w'.cell? ⟨s, 8, none⟩ = some (.string a.s1) ∧ w'.cell? ⟨s, 9, none⟩ = some (.slice a.A la a.c) ∧ w'.cell? ⟨s + 1, 0, none⟩ = some (.int .u8 (b.k : Int)) ∧ w'.cell? ⟨s + 1, 1, none⟩ = some (.int .u64 (b.n0 : Int)) ∧ w'.cell? ⟨s + 1, 2, none⟩ = some (.int .u64 (b.n1 : Int)) ∧ w'.cell? ⟨s + 1, 3, none⟩ = some (.int .u64 (b.n2 : Int)) ∧ w'.cell? ⟨s + 1, 4, none⟩ = some (.int .u64 (b.n3 : Int)) ∧ w'.cell? ⟨s + 1, 5, none⟩ = some (.int .u64 (b.n4 : Int)) ∧ w'.cell? ⟨s + 1, 6, none⟩ = some (.int .u64 (b.n5 : Int)) ∧ w'.cell? ⟨s + 1, 7, none⟩ = some (.string b.s0) ∧ w'.cell? ⟨s + 1, 8, none⟩ = some (.string b.s1) ∧ w'.cell? ⟨s + 1, 9, none⟩ = some (.slice b.A lb b.c)) (first | exact HC4.out | exact HC3.out | exact HC.out | go_keep) (first | (go_at_call 20; refine HSA2.out.mono ?_; rintro e w7 ⟨rfl, n7, rfl⟩; have HC3 := hid HC.out) | (go_at_call 14; refine (HSV.out _ (bw_d' HBa.out (1 + n7))).mono ?_; rintro e w8 ⟨rfl, hb8⟩; have HC4 := hid (held20 (w := W5.drewN (1 + n7)) hb8 HC3.out); have HB8 := hid ((bw_d' HBa.out (1 + n7)).trans (hb8.mono (by have := (bw_d' HBa.out (1 + n7)).size; omega)))))
            go_wp2_with fail
            go_ret
            exact ⟨by first | rfl | exact ret_bool (by simp), HB8.out⟩
          · have hfb2 : (F1 != 0) = true := by simpa using hf
            have heb2 : (E1 != 0) = false := by simpa using he
            go_wp2_with fail
            go_ret
            exact ⟨rfl, HBa.out⟩
        · have heb2 : (E1 != 0) = true := by simpa using he
          go_wp2_with fail
          go_ret
          exact ⟨rfl, HBa.out⟩
      · have hkb : ((a.k : Int) != (b.k : Int)) = true := by simp; omega
        clear HAP2 hk
        go_wp2_with fail
        go_ret
        exact ⟨rfl, HB3.out⟩
end Go.Proofs.Ytehjibbjkadoiaa
