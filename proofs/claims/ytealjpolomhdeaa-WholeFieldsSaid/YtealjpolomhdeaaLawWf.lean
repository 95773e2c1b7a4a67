/- The walk of WholeFields. -/
import Derived.Test.YtealjpolomhdeaaG18
set_option linter.unusedVariables false
namespace Go.Proofs.Ytealjpolomhdeaa
open Go.RowKit
set_option maxRecDepth 100000 in
set_option maxHeartbeats 8000000 in
theorem wholeFields_any (M : MV) (v nu : Int) (w : World) (hok : MvOk w M) (hv1 : -9223372036854775808 ≤ v) (hv2 : v ≤ 9223372036854775807) :
    Calls Try.prog 8 #[mvV M, .int .i64 v, .int .i64 nu] w fun e w' => e = .returned (.bool true) ∧ Below w.heap.size w w' := by
  obtain ⟨i5, hi5, hi50, hi51, hi52⟩ := info_parts Try.infoField
  have hlv := fun W => awake6_any W
  have hsm := fun W (hW : Below w.heap.size w W) => small9_any M W (hok.l.below hW)
  have hebx := fun (hb : smallB M = true) W (hW : Below w.heap.size w W) => (ebytes_any M v W (hok.below hW) (small_sm hb) hv1 hv2).mono (fun e w' h => bytesR_sl h)
  have hk255 := hok.k
  have hml := fun W (hW : Below w.heap.size w W) => hok.l.below hW
  have hcap := fun (hb : smallB M = true) => enc_cap v hok.n (small_sm hb)
  have hwf := fun (hb : smallB M = true) (he : (chkV M (ofL (M.k : Int) v)).1 = 0) (pre f1 f2 : List FV) h h1 h2 => wf_out (pre := pre) (f1 := f1) (f2 := f2) v nu hok.n (small_sm hb) he h h1 h2
  have hpre := fun (hb : smallB M = true) (he : (chkV M (ofL (M.k : Int) v)).1 = 0) (pre : List FV) h => wo_pre (pre := pre) v hok.n (small_sm hb) (Nat.le_trans (len64 he) (by decide)) he h
  have hrd := fun (hb : smallB M = true) (he : (chkV M (ofL (M.k : Int) v)).1 = 0) => wf_read v nu hok.n (small_sm hb) he
  have hfl0 := fun (hb : smallB M = true) (he : (chkV M (ofL (M.k : Int) v)).1 = 0) => enc_flds M.k v hok.n (small_sm hb) he
  obtain ⟨cb, hcb⟩ : ∃ cb, (allP M (rowsB (ofL (M.k : Int) v) nu)).flatMap wB = cb := ⟨_, rfl⟩
  obtain ⟨eb, heb⟩ : ∃ eb, encB M (ofL (M.k : Int) v) = eb := ⟨_, rfl⟩
  obtain ⟨el, hel⟩ : ∃ n, eb.length = n := ⟨_, rfl⟩
  obtain ⟨E1, hE1⟩ : ∃ E1, (chkV M (ofL (M.k : Int) v)).1 = E1 := ⟨_, rfl⟩
  obtain ⟨E2, hE2⟩ : ∃ E2, (chkV M (ofL (M.k : Int) v)).2 = E2 := ⟨_, rfl⟩
  have hbad : E1 ≠ 0 → el = 0 := fun h => by
    have : eb = [] := by rw [← heb]; unfold encB; rw [if_neg (by rw [hE1]; exact h)]
    rw [← hel, this]; rfl
  rw [heb, hel, hE1, hE2] at hebx
  rw [heb, hel] at hcap
  rw [heb, hcb, hE1] at hwf hrd
  rw [heb, hE1] at hpre hfl0
  have hff : smallB M = true → E1 = 0 → ∀ W A c, Sl W A c (eb.map bv) → Calls Try.prog 27 #[.slice A el c] W fun e W' => ∃ A' c' pre m, e = .returned (.tuple #[.slice A' m c', .agg #[.int .i64 0, .int .i64 0]]) ∧ pre.length = m ∧ m ≤ 100 ∧ PreOk W' pre m A' c' ∧ fvAll pre (flds eb eb.length 0).1 ∧ (∀ f ∈ pre, f.s.xs.length ≤ 8200) ∧ Below W.heap.size W W' := fun hb he W A c hs => by
    have hl := hcap hb
    refine ((callsIn_wide (n := 4)).1 (fields_in 4 (by omega) eb el A c W hel (by omega) hs)).mono ?_
    have hz : (flds eb el 0).2 = (0, 0) := by rw [← hel, hfl0 hb he]
    rintro e W' ⟨⟨-, v', b, pre, he2, h1, h2, h3, h4⟩ | ⟨hne, -⟩, hbl⟩
    · obtain ⟨A', c', rfl, hsn⟩ := SlN.of_own (by omega) h2
      have hq := hpre hb he pre (by rw [hel]; exact h3)
      exact ⟨A', c', pre, pre.length, he2, rfl, hq.1, ⟨hsn, fun f hf => (hq.2 f hf).ok (h4 f hf).1⟩, by rw [hel]; exact h3, fun f hf => by have := (hq.2 f hf).2.2.2.2.2.2.2; simp only [fvK] at this; omega, hbl⟩
    · rw [hz] at hne; exact absurd rfl hne
  have hmv : mvV M = .agg #[.int .u8 (M.k : Int), .int .u64 (M.n0 : Int), .int .u64 (M.n1 : Int), .int .u64 (M.n2 : Int), .int .u64 (M.n3 : Int), .int .u64 (M.n4 : Int), .int .u64 (M.n5 : Int), .string M.s0, .string M.s1, .slice M.A M.l.length M.c] := rfl
  rw [hmv] at hebx hsm ⊢
  obtain ⟨len, hlen⟩ : ∃ n, M.l.length = n := ⟨_, rfl⟩
  have hsa := fun W (R2 : MV) A' c' h1 h2 => msame R2 M A' c' M.A M.c len W hlen h1 h2
  rw [hlen] at hebx hsm ⊢
  generalize smallB M = sb at *
  obtain ⟨s, hws⟩ : ∃ s, w.heap.size = s := ⟨_, rfl⟩
  rw [hws] at hsm hebx hml ⊢
  have hz := hws
  have HLV := hid hlv
  have HSM := hid hsm
  have HEB := hid hebx
  have HML := hid hml
  have HSA := hid hsa
  have HEL := hid hel
  have HBAD := hid hbad
  have HWF := hid hwf
  have HRD := hid hrd
  have HFF := hid hff
  have HCAP := hid hcap
  clear hlv hsm hebx hml hsa hel hbad hlen hE1 hE2 heb hok hmv hwf hrd hff hcap hpre hfl0 hcb
  go_enter Try.func8, Try.ntmps8
  go_wp2_with fail
  have hkm : Blk (w.alloc (.cells #[.int .u8 (M.k : Int), .int .u64 (M.n0 : Int), .int .u64 (M.n1 : Int), .int .u64 (M.n2 : Int), .int .u64 (M.n3 : Int), .int .u64 (M.n4 : Int), .int .u64 (M.n5 : Int), .string M.s0, .string M.s1, .slice M.A len M.c] 29)) (s) 29 #[.int .u8 (M.k : Int), .int .u64 (M.n0 : Int), .int .u64 (M.n1 : Int), .int .u64 (M.n2 : Int), .int .u64 (M.n3 : Int), .int .u64 (M.n4 : Int), .int .u64 (M.n5 : Int), .string M.s0, .string M.s1, .slice M.A len M.c] := by
    have h := (Blk.new w 29 #[.int .u8 (M.k : Int), .int .u64 (M.n0 : Int), .int .u64 (M.n1 : Int), .int .u64 (M.n2 : Int), .int .u64 (M.n3 : Int), .int .u64 (M.n4 : Int), .int .u64 (M.n5 : Int), .string M.s0, .string M.s1, .slice M.A len M.c])
    rw [hz] at h; exact h
  have hb0 : Below s w (w.alloc (.cells #[.int .u8 (M.k : Int), .int .u64 (M.n0 : Int), .int .u64 (M.n1 : Int), .int .u64 (M.n2 : Int), .int .u64 (M.n3 : Int), .int .u64 (M.n4 : Int), .int .u64 (M.n5 : Int), .string M.s0, .string M.s1, .slice M.A len M.c] 29)) := by
    have h := (bw_a (Below.refl w.heap.size w) (.cells #[.int .u8 (M.k : Int), .int .u64 (M.n0 : Int), .int .u64 (M.n1 : Int), .int .u64 (M.n2 : Int), .int .u64 (M.n3 : Int), .int .u64 (M.n4 : Int), .int .u64 (M.n5 : Int), .string M.s0, .string M.s1, .slice M.A len M.c] 29))
    rw [hz] at h; exact h
  have hsz : ((w.alloc (.cells #[.int .u8 (M.k : Int), .int .u64 (M.n0 : Int), .int .u64 (M.n1 : Int), .int .u64 (M.n2 : Int), .int .u64 (M.n3 : Int), .int .u64 (M.n4 : Int), .int .u64 (M.n5 : Int), .string M.s0, .string M.s1, .slice M.A len M.c] 29))).heap.size = s + 1 := by simp [hz]
  generalize hW1 : (w.alloc (.cells #[.int .u8 (M.k : Int), .int .u64 (M.n0 : Int), .int .u64 (M.n1 : Int), .int .u64 (M.n2 : Int), .int .u64 (M.n3 : Int), .int .u64 (M.n4 : Int), .int .u64 (M.n5 : Int), .string M.s0, .string M.s1, .slice M.A len M.c] 29)) = W1 at *
  have HKM := hid hkm
  have HBB1 := hid hb0
  have HSZ1 := hid hsz
  clear hb0 hsz hz hW1 hkm
  refine (HLV.out W1).mono ?_
  rintro e w2 ⟨rfl, hb⟩
  have hkm := HKM.out.below hb HKM.out.lt
  have hb0 : Below s w w2 := HBB1.out.trans (hb.mono (by have := HBB1.out.size; omega))
  have HKM := hid hkm
  have HBB2 := hid hb0
  clear hb0 hb hkm
  have zhkm0 := HKM.out.cell 0
  have zhkm1 := HKM.out.cell 1
  have zhkm2 := HKM.out.cell 2
  have zhkm3 := HKM.out.cell 3
  have zhkm4 := HKM.out.cell 4
  have zhkm5 := HKM.out.cell 5
  have zhkm6 := HKM.out.cell 6
  have zhkm7 := HKM.out.cell 7
  have zhkm8 := HKM.out.cell 8
  have zhkm9 := HKM.out.cell 9
  have lhkm := HKM.out.lt
  simp only [List.getElem?_toArray, List.getElem?_cons_zero, List.getElem?_cons_succ] at zhkm0 zhkm1 zhkm2 zhkm3 zhkm4 zhkm5 zhkm6 zhkm7 zhkm8 zhkm9
  go_wp2_with fail
  refine (HSM.out _ HBB2.out).mono ?_
  rintro e w3 ⟨rfl, hb⟩
  clear lhkm zhkm0 zhkm1 zhkm2 zhkm3 zhkm4 zhkm5 zhkm6 zhkm7 zhkm8 zhkm9
  have hkm := HKM.out.below hb HKM.out.lt
  have hb0 : Below s w w3 := HBB2.out.trans (hb.mono (by have := HBB2.out.size; omega))
  have HKM := hid hkm
  have HBB3 := hid hb0
  clear hb0 hb hkm
  cases sb with
  | false =>
    go_wp2_with fail
    go_ret
    exact ⟨rfl, HBB3.out⟩
  | true =>
    have hx1 := HEB.out rfl
    have hx2 := HWF.out rfl
    have hx3 := HRD.out rfl
    have hx4 := HFF.out rfl
    have HEB1 := hid hx1
    have HWF1 := hid hx2
    have HRD1 := hid hx3
    have HFF1 := hid hx4
    have hcap := HCAP.out rfl
    clear hx1 hx2 hx3 hx4 HEB HWF HRD HFF HCAP
    have zhkm0 := HKM.out.cell 0
    have zhkm1 := HKM.out.cell 1
    have zhkm2 := HKM.out.cell 2
    have zhkm3 := HKM.out.cell 3
    have zhkm4 := HKM.out.cell 4
    have zhkm5 := HKM.out.cell 5
    have zhkm6 := HKM.out.cell 6
    have zhkm7 := HKM.out.cell 7
    have zhkm8 := HKM.out.cell 8
    have zhkm9 := HKM.out.cell 9
    have lhkm := HKM.out.lt
    simp only [List.getElem?_toArray, List.getElem?_cons_zero, List.getElem?_cons_succ] at zhkm0 zhkm1 zhkm2 zhkm3 zhkm4 zhkm5 zhkm6 zhkm7 zhkm8 zhkm9
    go_wp2_with fail
    refine (HEB1.out _ HBB3.out).mono ?_
    rintro e w4 ⟨A1, c1, rfl, hse, hseo, hb⟩
    clear lhkm zhkm0 zhkm1 zhkm2 zhkm3 zhkm4 zhkm5 zhkm6 zhkm7 zhkm8 zhkm9
    have hkm := HKM.out.below hb HKM.out.lt
    have hb0 : Below s w w4 := HBB3.out.trans (hb.mono (by have := HBB3.out.size; omega))
    have HKM := hid hkm
    have HSE := hid hse
    have HBB4 := hid hb0
    clear hb0 hb hkm hse
    have hseo : Ow _ _ _ _ _ _ _ := ⟨hseo⟩
    have HSEW := hid hseo
    clear hseo
    by_cases he : E1 = 0
    · obtain ⟨M2, oth, hr, hs2, hsd⟩ := HRD1.out he
      have hff := HFF1.out he
      have hwf := HWF1.out he
      have HRR := hid hr
      have HS2 := hid hs2
      have HSD := hid hsd
      have HFF2 := hid hff
      have HWF2 := hid hwf
      subst he
      clear hr hs2 hsd hff hwf HFF1 HWF1 HRD1
      obtain ⟨p3, hz⟩ : ∃ p, w4.heap.size = p := ⟨_, rfl⟩
      go_wp2_with fail
      have hk8 : Blk (w4.alloc (.cells #[.int .i64 0, .int .i64 E2] 32)) (p3) 32 #[.int .i64 0, .int .i64 E2] := by
        have h := (Blk.new w4 32 #[.int .i64 0, .int .i64 E2])
        rw [hz] at h; exact h
      have hkm := (HKM.out.alloc (.cells #[.int .i64 0, .int .i64 E2] 32))
      have hse := HSE.out.below (bw_a (Below.refl w4.heap.size w4) (.cells #[.int .i64 0, .int .i64 E2] 32))
      have hsew := HSEW.out.below (bw_a (Below.refl w4.heap.size w4) (.cells #[.int .i64 0, .int .i64 E2] 32))
      have hb0 : Below s w (w4.alloc (.cells #[.int .i64 0, .int .i64 E2] 32)) := HBB4.out.trans ((bw_a (Below.refl w4.heap.size w4) (.cells #[.int .i64 0, .int .i64 E2] 32)).mono (by have := HBB4.out.size; omega))
      have hsz : ((w4.alloc (.cells #[.int .i64 0, .int .i64 E2] 32))).heap.size = p3 + 1 := by simp [hz]
      generalize hW5 : (w4.alloc (.cells #[.int .i64 0, .int .i64 E2] 32)) = W5 at *
      have HKM := hid hkm
      have HK8 := hid hk8
      have HSE := hid hse
      have HSEW := hid hsew
      have HBB5 := hid hb0
      have HSZ5 := hid hsz
      clear hb0 hsz hz hW5 hkm hk8 hse hsew
      refine (HFF2.out _ _ _ HSE.out).mono ?_
      rintro e w6 ⟨A5, c5, pre, m, rfl, hm, hm100, hpo, hfa, hx82, hb⟩
      have hkm := HKM.out.below hb HKM.out.lt
      have hk8 := HK8.out.below hb HK8.out.lt
      have hse := HSE.out.below hb
      have hsew := HSEW.out.below hb
      have hb0 : Below s w w6 := HBB5.out.trans (hb.mono (by have := HBB5.out.size; omega))
      have HKM := hid hkm
      have HK8 := hid hk8
      have HSE := hid hse
      have HSEW := hid hsew
      have HPO := hid hpo
      have HBB6 := hid hb0
      clear hb0 hb hkm hk8 hse hsew hpo
      have HFA := hid hfa
      have HX82 := hid hx82
      have HMM := hid hm
      clear hfa hx82 hm
      obtain ⟨p4, hz⟩ : ∃ p, w6.heap.size = p := ⟨_, rfl⟩
      have hpc := HPO.out.sl.cap
      have hps := HPO.out.sl.small
      go_wp2_with fail
      have hk10 : Blk (w6.alloc (.cells #[.int .i64 0, .int .i64 0] 32)) (p4) 32 #[.int .i64 0, .int .i64 0] := by
        have h := (Blk.new w6 32 #[.int .i64 0, .int .i64 0])
        rw [hz] at h; exact h
      have hkm := (HKM.out.alloc (.cells #[.int .i64 0, .int .i64 0] 32))
      have hk8 := (HK8.out.alloc (.cells #[.int .i64 0, .int .i64 0] 32))
      have hse := HSE.out.below (bw_a (Below.refl w6.heap.size w6) (.cells #[.int .i64 0, .int .i64 0] 32))
      have hsew := HSEW.out.below (bw_a (Below.refl w6.heap.size w6) (.cells #[.int .i64 0, .int .i64 0] 32))
      have hpo := HPO.out.below (bw_a (Below.refl w6.heap.size w6) (.cells #[.int .i64 0, .int .i64 0] 32))
      have hb0 : Below s w (w6.alloc (.cells #[.int .i64 0, .int .i64 0] 32)) := HBB6.out.trans ((bw_a (Below.refl w6.heap.size w6) (.cells #[.int .i64 0, .int .i64 0] 32)).mono (by have := HBB6.out.size; omega))
      have hsz : ((w6.alloc (.cells #[.int .i64 0, .int .i64 0] 32))).heap.size = p4 + 1 := by simp [hz]
      generalize hW7 : (w6.alloc (.cells #[.int .i64 0, .int .i64 0] 32)) = W7 at *
      have HKM := hid hkm
      have HK8 := hid hk8
      have HK10 := hid hk10
      have HSE := hid hse
      have HSEW := hid hsew
      have HPO := hid hpo
      have HBB7 := hid hb0
      have HSZ7 := hid hsz
      clear hb0 hsz hz hW7 hkm hk8 hk10 hse hsew hpo
      refine (swo8_any pre m A5 c5 nu _ HMM.out (by omega) HPO.out.sl HPO.out.ok HX82.out).mono ?_
      rintro e w8 ⟨v1, f1, rfl, ho1, hf1, hw1, hb⟩
      have hkm := HKM.out.below hb HKM.out.lt
      have hk8 := HK8.out.below hb HK8.out.lt
      have hk10 := HK10.out.below hb HK10.out.lt
      have hse := HSE.out.below hb
      have hsew := HSEW.out.below hb
      have hpo := HPO.out.below hb
      have hb0 : Below s w w8 := HBB7.out.trans (hb.mono (by have := HBB7.out.size; omega))
      have HKM := hid hkm
      have HK8 := hid hk8
      have HK10 := hid hk10
      have HSE := hid hse
      have HSEW := hid hsew
      have HPO := hid hpo
      have HBB8 := hid hb0
      clear hb0 hb hkm hk8 hk10 hse hsew hpo
      obtain ⟨A6, c6, rfl⟩ := row_slice' ho1
      obtain ⟨m1, hm1⟩ : ∃ m1, f1.length = m1 := ⟨_, rfl⟩
      rw [hm1] at ho1 ⊢
      have hch1 : ChOk w8 s f1 m1 A6 c6 := (ChOk.mk ho1 hw1).mono (Nat.le_trans (Nat.le_of_eq hws.symm) HBB7.out.size)
      have HC1 := hid hch1
      have HF1 := hid hf1
      have HM1 := hid hm1
      clear ho1 hw1 hch1 hf1 hm1
      go_wp2_with fail
      refine (sof8_any pre m A5 c5 nu _ HMM.out (by omega) HPO.out.sl HPO.out.ok HX82.out).mono ?_
      rintro e w9 ⟨v2, f2, rfl, ho2, hf2, hw2, hb⟩
      have hkm := HKM.out.below hb HKM.out.lt
      have hk8 := HK8.out.below hb HK8.out.lt
      have hk10 := HK10.out.below hb HK10.out.lt
      have hse := HSE.out.below hb
      have hsew := HSEW.out.below hb
      have hpo := HPO.out.below hb
      have hc1 := HC1.out.below hb
      have hb0 : Below s w w9 := HBB8.out.trans (hb.mono (by have := HBB8.out.size; omega))
      have HKM := hid hkm
      have HK8 := hid hk8
      have HK10 := hid hk10
      have HSE := hid hse
      have HSEW := hid hsew
      have HPO := hid hpo
      have HC1 := hid hc1
      have HBB9 := hid hb0
      clear hb0 hb hkm hk8 hk10 hse hsew hpo hc1
      obtain ⟨A7, c7, rfl⟩ := row_slice' ho2
      obtain ⟨m2, hm2⟩ : ∃ m2, f2.length = m2 := ⟨_, rfl⟩
      rw [hm2] at ho2 ⊢
      have hch2 : ChOk w9 s f2 m2 A7 c7 := (ChOk.mk ho2 hw2).mono (Nat.le_trans (Nat.le_of_eq hws.symm) HBB8.out.size)
      have HC2 := hid hch2
      have HF2 := hid hf2
      have HM2 := hid hm2
      clear ho2 hw2 hch2 hf2 hm2
      have hm1le : m1 ≤ 100 := by have h := congrArg List.length HF1.out; rw [List.length_map, List.length_map, HM1.out] at h; have := List.length_filter_le (fun f : FV => decide (¬ f.num = nu)) pre; have := HMM.out; omega
      have hm2le : m2 ≤ 100 := by have h := congrArg List.length HF2.out; rw [List.length_map, List.length_map, HM2.out] at h; have := List.length_filter_le (fun f : FV => decide (f.num = nu)) pre; have := HMM.out; omega
      have hsx : s ≤ w9.heap.size := Nat.le_trans (Nat.le_of_eq hws.symm) HBB9.out.size
      go_wp2_with (at_builtin; refine wpList_append_rd rfl (.tmp 43) (.tmp 46) 36 rfl s 56 i5 (.agg #[.int .i64 0, .int .u8 0, .int .u64 0, .slice none 0 0, .int .i64 0]) 5 56 Try.underlying36 hi5 hi50 hi51 hi52 rfl (by decide) _ _ _ rfl HC1.out.own A7 m2 c7 (f2.flatMap fvC) rfl HC2.out.sl.len HC2.out.sl.rd HC2.out.sl.nil0 (fvw_one f2) (by simp only [maxLen]; omega) (by omega) hsx ?_; intro v10 w10 hown10 hgrow10; obtain ⟨A8, c8, rfl⟩ := row_slice' hown10; have hch := ChOk.both HC1.out HC2.out hgrow10 (Nat.le_refl s) (Nat.le_refl s) hown10; have HCH := hid hch; have HG := hid hgrow10; clear hown10 hgrow10 hch)
      have hcg := Chg.of_grown (S := fun q => (Value.slice A6 m1 c6).ownBlock = some q) HG.out (fun g e => e)
      have hbg : Below s w9 w10 := hcg.below (fun k ek => (HC1.out.own.lt k ek).1) hsx
      have hkm := hcg.blk HKM.out (fun hq => own_ne_blk HC1.out.own HKM.out (by decide) _ hq rfl)
      have hk8 := hcg.blk HK8.out (fun hq => own_ne_blk HC1.out.own HK8.out (by decide) _ hq rfl)
      have hk10 := hcg.blk HK10.out (fun hq => own_ne_blk HC1.out.own HK10.out (by decide) _ hq rfl)
      have hse2 := HSEW.out.own
      have hse := (own_chgS hse2 hcg (fun g hg hq => by rcases own_two hse2 HC1.out.own (by decide) with h | h; (rw [h] at hg; cases hg); exact h (by rw [hg, hq])))
      have hse := Sl.of_own' hse
      have hbb := HBB9.out.trans hbg
      have HKM := hid hkm
      have HK8 := hid hk8
      have HK10 := hid hk10
      have HSE := hid hse
      have HBB := hid hbb
      clear hkm hk8 hk10 hse2 hse hbb hcg hbg
      obtain ⟨g1, g2, g3, g4, g5⟩ := HWF2.out pre f1 f2 HFA.out HF1.out HF2.out
      have hcl : cb.length = el := g5.trans HEL.out
      have hput := sputs8_any (f1 ++ f2) (m1 + m2) A8 c8 w10 (by rw [List.length_append, HM1.out, HM2.out]) (by rw [List.length_append, HM1.out, HM2.out] at g1; exact g1) HCH.out.sl (fun f hf => (g2 f hf).ok (Sl.of_own' (HCH.out.ho f hf))) (fun f hf => by have := (g2 f hf).2.2.2.2.2.2.2; simp only [fvK] at this; omega)
      rw [g3, g4, hcl] at hput
      have HPUT := hid hput
      have HCL := hid hcl
      clear hput g1 g2 g3 g4 g5 hcl HWF2 HFA HC1 HC2 HCH HPO HF1 HF2 HX82
      refine (HPUT.out).mono ?_
      rintro e w21 ⟨h9, hb⟩
      have hkm := HKM.out.below hb HKM.out.lt
      have hk8 := HK8.out.below hb HK8.out.lt
      have hk10 := HK10.out.below hb HK10.out.lt
      have hse := HSE.out.below hb
      have hb0 : Below s w w21 := HBB.out.trans (hb.mono (by have := HBB.out.size; omega))
      have HKM := hid hkm
      have HK8 := hid hk8
      have HK10 := hid hk10
      have HSE := hid hse
      have HBB21 := hid hb0
      clear hb0 hb hkm hk8 hk10 hse
      obtain ⟨v9, rfl, ho9⟩ : ∃ v, e = .returned (.tuple #[v, .agg #[.int .i64 0, .int .i64 0]]) ∧ w21.ownsRow w10.heap.size 5 1 v el (cb.map bv) := by
        rcases h9 with ⟨-, v, he, ho⟩ | ⟨hne, -⟩
        · exact ⟨v, he, ho⟩
        · exact absurd rfl hne
      obtain ⟨A9, q9, rfl⟩ := row_slice' ho9
      have hs9 := Sl.of_own' ho9
      have HS9 := hid hs9
      clear h9 ho9 hs9
      have zhk100 := HK10.out.cell 0
      have zhk101 := HK10.out.cell 1
      have lhk10 := HK10.out.lt
      have zhkm0 := HKM.out.cell 0
      have lhkm := HKM.out.lt
      simp only [List.getElem?_toArray, List.getElem?_cons_zero, List.getElem?_cons_succ] at zhk100 zhk101 zhkm0
      obtain ⟨p5, hz⟩ : ∃ p, w21.heap.size = p := ⟨_, rfl⟩
      rw [hz] at lhk10
      have mhk10 := Nat.lt_add_one_of_lt lhk10
      rw [hz] at lhkm
      have mhkm := Nat.lt_add_one_of_lt lhkm
      have hq9 := HS9.out.cap
      have hq9s := HS9.out.small
      go_wp2_with fail
      have hk12 : Blk (w21.alloc (.cells #[.int .i64 0, .int .i64 0] 32)) (p5) 32 #[.int .i64 0, .int .i64 0] := by
        have h := (Blk.new w21 32 #[.int .i64 0, .int .i64 0])
        rw [hz] at h; exact h
      have hkm := (HKM.out.alloc (.cells #[.int .i64 0, .int .i64 0] 32))
      have hk8 := (HK8.out.alloc (.cells #[.int .i64 0, .int .i64 0] 32))
      have hk10 := (HK10.out.alloc (.cells #[.int .i64 0, .int .i64 0] 32))
      have hse := HSE.out.below (bw_a (Below.refl w21.heap.size w21) (.cells #[.int .i64 0, .int .i64 0] 32))
      have hs9 := HS9.out.below (bw_a (Below.refl w21.heap.size w21) (.cells #[.int .i64 0, .int .i64 0] 32))
      have hb0 : Below s w (w21.alloc (.cells #[.int .i64 0, .int .i64 0] 32)) := HBB21.out.trans ((bw_a (Below.refl w21.heap.size w21) (.cells #[.int .i64 0, .int .i64 0] 32)).mono (by have := HBB21.out.size; omega))
      have hsz : ((w21.alloc (.cells #[.int .i64 0, .int .i64 0] 32))).heap.size = p5 + 1 := by simp [hz]
      generalize hW22 : (w21.alloc (.cells #[.int .i64 0, .int .i64 0] 32)) = W22 at *
      have HKM := hid hkm
      have HK8 := hid hk8
      have HK10 := hid hk10
      have HK12 := hid hk12
      have HSE := hid hse
      have HS9 := hid hs9
      have HBB22 := hid hb0
      have HSZ22 := hid hsz
      clear hb0 hsz hz hW22 hkm hk8 hk10 hk12 hse hs9
      refine (dec_p (R := M2) hk255 hv1 hv2 HCL.out HS9.out HRR.out).mono ?_
      rintro e w23 ⟨A11, c11, rfl, ho11, hb⟩
      clear lhk10 lhkm zhk100 zhk101 zhkm0 mhk10 mhkm
      have hkm := HKM.out.below hb HKM.out.lt
      have hk8 := HK8.out.below hb HK8.out.lt
      have hk10 := HK10.out.below hb HK10.out.lt
      have hk12 := HK12.out.below hb HK12.out.lt
      have hse := HSE.out.below hb
      have hs9 := HS9.out.below hb
      have hb0 : Below s w w23 := HBB22.out.trans (hb.mono (by have := HBB22.out.size; omega))
      have HKM := hid hkm
      have HK8 := hid hk8
      have HK10 := hid hk10
      have HK12 := hid hk12
      have HSE := hid hse
      have HS9 := hid hs9
      have HBB23 := hid hb0
      clear hb0 hb hkm hk8 hk10 hk12 hse hs9
      have hs11 := ho11.sl
      have HS11 := hid hs11
      clear ho11 hs11
      have zhkm0 := HKM.out.cell 0
      have lhkm := HKM.out.lt
      simp only [List.getElem?_toArray, List.getElem?_cons_zero] at zhkm0
      obtain ⟨p6, hz⟩ : ∃ p, w23.heap.size = p := ⟨_, rfl⟩
      rw [hz] at lhkm
      have mhkm := Nat.lt_add_one_of_lt lhkm
      go_wp2_with fail
      have hk13 : Blk ((w23.alloc (.cells #[.int .u8 (M2.k : Int), .int .u64 (M2.n0 : Int), .int .u64 (M2.n1 : Int), .int .u64 (M2.n2 : Int), .int .u64 (M2.n3 : Int), .int .u64 (M2.n4 : Int), .int .u64 (M2.n5 : Int), .string M2.s0, .string M2.s1, .slice A11 M2.l.length c11] 29)).alloc (.cells #[.int .i64 0, .int .i64 ((0 : Nat) : Int)] 32)) (p6) 29 #[.int .u8 (M2.k : Int), .int .u64 (M2.n0 : Int), .int .u64 (M2.n1 : Int), .int .u64 (M2.n2 : Int), .int .u64 (M2.n3 : Int), .int .u64 (M2.n4 : Int), .int .u64 (M2.n5 : Int), .string M2.s0, .string M2.s1, .slice A11 M2.l.length c11] := by
        have h := ((Blk.new w23 29 #[.int .u8 (M2.k : Int), .int .u64 (M2.n0 : Int), .int .u64 (M2.n1 : Int), .int .u64 (M2.n2 : Int), .int .u64 (M2.n3 : Int), .int .u64 (M2.n4 : Int), .int .u64 (M2.n5 : Int), .string M2.s0, .string M2.s1, .slice A11 M2.l.length c11]).alloc (.cells #[.int .i64 0, .int .i64 ((0 : Nat) : Int)] 32))
        rw [hz] at h; exact h
      have hk14 : Blk ((w23.alloc (.cells #[.int .u8 (M2.k : Int), .int .u64 (M2.n0 : Int), .int .u64 (M2.n1 : Int), .int .u64 (M2.n2 : Int), .int .u64 (M2.n3 : Int), .int .u64 (M2.n4 : Int), .int .u64 (M2.n5 : Int), .string M2.s0, .string M2.s1, .slice A11 M2.l.length c11] 29)).alloc (.cells #[.int .i64 0, .int .i64 ((0 : Nat) : Int)] 32)) (p6 + 1) 32 #[.int .i64 0, .int .i64 ((0 : Nat) : Int)] := by
        have h := (Blk.new (w23.alloc (.cells #[.int .u8 (M2.k : Int), .int .u64 (M2.n0 : Int), .int .u64 (M2.n1 : Int), .int .u64 (M2.n2 : Int), .int .u64 (M2.n3 : Int), .int .u64 (M2.n4 : Int), .int .u64 (M2.n5 : Int), .string M2.s0, .string M2.s1, .slice A11 M2.l.length c11] 29)) 32 #[.int .i64 0, .int .i64 ((0 : Nat) : Int)])
        rw [World.size_alloc, hz] at h; exact h
      have hkm := ((HKM.out.alloc (.cells #[.int .u8 (M2.k : Int), .int .u64 (M2.n0 : Int), .int .u64 (M2.n1 : Int), .int .u64 (M2.n2 : Int), .int .u64 (M2.n3 : Int), .int .u64 (M2.n4 : Int), .int .u64 (M2.n5 : Int), .string M2.s0, .string M2.s1, .slice A11 M2.l.length c11] 29)).alloc (.cells #[.int .i64 0, .int .i64 ((0 : Nat) : Int)] 32))
      have hk8 := ((HK8.out.alloc (.cells #[.int .u8 (M2.k : Int), .int .u64 (M2.n0 : Int), .int .u64 (M2.n1 : Int), .int .u64 (M2.n2 : Int), .int .u64 (M2.n3 : Int), .int .u64 (M2.n4 : Int), .int .u64 (M2.n5 : Int), .string M2.s0, .string M2.s1, .slice A11 M2.l.length c11] 29)).alloc (.cells #[.int .i64 0, .int .i64 ((0 : Nat) : Int)] 32))
      have hk10 := ((HK10.out.alloc (.cells #[.int .u8 (M2.k : Int), .int .u64 (M2.n0 : Int), .int .u64 (M2.n1 : Int), .int .u64 (M2.n2 : Int), .int .u64 (M2.n3 : Int), .int .u64 (M2.n4 : Int), .int .u64 (M2.n5 : Int), .string M2.s0, .string M2.s1, .slice A11 M2.l.length c11] 29)).alloc (.cells #[.int .i64 0, .int .i64 ((0 : Nat) : Int)] 32))
      have hk12 := ((HK12.out.alloc (.cells #[.int .u8 (M2.k : Int), .int .u64 (M2.n0 : Int), .int .u64 (M2.n1 : Int), .int .u64 (M2.n2 : Int), .int .u64 (M2.n3 : Int), .int .u64 (M2.n4 : Int), .int .u64 (M2.n5 : Int), .string M2.s0, .string M2.s1, .slice A11 M2.l.length c11] 29)).alloc (.cells #[.int .i64 0, .int .i64 ((0 : Nat) : Int)] 32))
      have hse := HSE.out.below (bw_a (bw_a (Below.refl w23.heap.size w23) (.cells #[.int .u8 (M2.k : Int), .int .u64 (M2.n0 : Int), .int .u64 (M2.n1 : Int), .int .u64 (M2.n2 : Int), .int .u64 (M2.n3 : Int), .int .u64 (M2.n4 : Int), .int .u64 (M2.n5 : Int), .string M2.s0, .string M2.s1, .slice A11 M2.l.length c11] 29)) (.cells #[.int .i64 0, .int .i64 ((0 : Nat) : Int)] 32))
      have hs9 := HS9.out.below (bw_a (bw_a (Below.refl w23.heap.size w23) (.cells #[.int .u8 (M2.k : Int), .int .u64 (M2.n0 : Int), .int .u64 (M2.n1 : Int), .int .u64 (M2.n2 : Int), .int .u64 (M2.n3 : Int), .int .u64 (M2.n4 : Int), .int .u64 (M2.n5 : Int), .string M2.s0, .string M2.s1, .slice A11 M2.l.length c11] 29)) (.cells #[.int .i64 0, .int .i64 ((0 : Nat) : Int)] 32))
      have hs11 := HS11.out.below (bw_a (bw_a (Below.refl w23.heap.size w23) (.cells #[.int .u8 (M2.k : Int), .int .u64 (M2.n0 : Int), .int .u64 (M2.n1 : Int), .int .u64 (M2.n2 : Int), .int .u64 (M2.n3 : Int), .int .u64 (M2.n4 : Int), .int .u64 (M2.n5 : Int), .string M2.s0, .string M2.s1, .slice A11 M2.l.length c11] 29)) (.cells #[.int .i64 0, .int .i64 ((0 : Nat) : Int)] 32))
      have hb0 : Below s w ((w23.alloc (.cells #[.int .u8 (M2.k : Int), .int .u64 (M2.n0 : Int), .int .u64 (M2.n1 : Int), .int .u64 (M2.n2 : Int), .int .u64 (M2.n3 : Int), .int .u64 (M2.n4 : Int), .int .u64 (M2.n5 : Int), .string M2.s0, .string M2.s1, .slice A11 M2.l.length c11] 29)).alloc (.cells #[.int .i64 0, .int .i64 ((0 : Nat) : Int)] 32)) := HBB23.out.trans ((bw_a (bw_a (Below.refl w23.heap.size w23) (.cells #[.int .u8 (M2.k : Int), .int .u64 (M2.n0 : Int), .int .u64 (M2.n1 : Int), .int .u64 (M2.n2 : Int), .int .u64 (M2.n3 : Int), .int .u64 (M2.n4 : Int), .int .u64 (M2.n5 : Int), .string M2.s0, .string M2.s1, .slice A11 M2.l.length c11] 29)) (.cells #[.int .i64 0, .int .i64 ((0 : Nat) : Int)] 32)).mono (by have := HBB23.out.size; omega))
      have hsz : (((w23.alloc (.cells #[.int .u8 (M2.k : Int), .int .u64 (M2.n0 : Int), .int .u64 (M2.n1 : Int), .int .u64 (M2.n2 : Int), .int .u64 (M2.n3 : Int), .int .u64 (M2.n4 : Int), .int .u64 (M2.n5 : Int), .string M2.s0, .string M2.s1, .slice A11 M2.l.length c11] 29)).alloc (.cells #[.int .i64 0, .int .i64 ((0 : Nat) : Int)] 32))).heap.size = p6 + 1 + 1 := by simp [hz]
      generalize hW24 : ((w23.alloc (.cells #[.int .u8 (M2.k : Int), .int .u64 (M2.n0 : Int), .int .u64 (M2.n1 : Int), .int .u64 (M2.n2 : Int), .int .u64 (M2.n3 : Int), .int .u64 (M2.n4 : Int), .int .u64 (M2.n5 : Int), .string M2.s0, .string M2.s1, .slice A11 M2.l.length c11] 29)).alloc (.cells #[.int .i64 0, .int .i64 ((0 : Nat) : Int)] 32)) = W24 at *
      have HKM := hid hkm
      have HK8 := hid hk8
      have HK10 := hid hk10
      have HK12 := hid hk12
      have HK13 := hid hk13
      have HK14 := hid hk14
      have HSE := hid hse
      have HS9 := hid hs9
      have HS11 := hid hs11
      have HBB24 := hid hb0
      have HSZ24 := hid hsz
      clear hb0 hsz hz hW24 hkm hk8 hk10 hk12 hk13 hk14 hse hs9 hs11
      by_cases hsm : eb = cb
      · have hde : decide (eb = cb) = true := decide_eq_true hsm
        have hdd := dec_st (w := W24) hk255 hv1 hv2 HCL.out HS9.out (HSD.out.trans (if_pos hsm))
        have HDE := hid hde
        have HDD := hid hdd
        clear hde hdd hsm
        refine (HDD.out).mono ?_
        rintro e w25 ⟨A12, c12, rfl, hs12, hb⟩
        clear lhkm zhkm0 mhkm
        have hkm := HKM.out.below hb HKM.out.lt
        have hk8 := HK8.out.below hb HK8.out.lt
        have hk10 := HK10.out.below hb HK10.out.lt
        have hk12 := HK12.out.below hb HK12.out.lt
        have hk13 := HK13.out.below hb HK13.out.lt
        have hk14 := HK14.out.below hb HK14.out.lt
        have hse := HSE.out.below hb
        have hs9 := HS9.out.below hb
        have hs11 := HS11.out.below hb
        have hb0 : Below s w w25 := HBB24.out.trans (hb.mono (by have := HBB24.out.size; omega))
        have HKM := hid hkm
        have HK8 := hid hk8
        have HK10 := hid hk10
        have HK12 := hid hk12
        have HK13 := hid hk13
        have HK14 := hid hk14
        have HSE := hid hse
        have HS9 := hid hs9
        have HS11 := hid hs11
        have HS12 := hid hs12
        have HBB25 := hid hb0
        clear hb0 hb hkm hk8 hk10 hk12 hk13 hk14 hse hs9 hs11 hs12
        obtain ⟨p7, hz⟩ : ∃ p, w25.heap.size = p := ⟨_, rfl⟩
        go_wp2_with fail
        have hk15 : Blk ((w25.alloc (.cells #[.int .u8 (M2.k : Int), .int .u64 (M2.n0 : Int), .int .u64 (M2.n1 : Int), .int .u64 (M2.n2 : Int), .int .u64 (M2.n3 : Int), .int .u64 (M2.n4 : Int), .int .u64 (M2.n5 : Int), .string M2.s0, .string M2.s1, .slice A12 M2.l.length c12] 29)).alloc (.cells #[.int .i64 0, .int .i64 ((0 : Nat) : Int)] 32)) (p7) 29 #[.int .u8 (M2.k : Int), .int .u64 (M2.n0 : Int), .int .u64 (M2.n1 : Int), .int .u64 (M2.n2 : Int), .int .u64 (M2.n3 : Int), .int .u64 (M2.n4 : Int), .int .u64 (M2.n5 : Int), .string M2.s0, .string M2.s1, .slice A12 M2.l.length c12] := by
          have h := ((Blk.new w25 29 #[.int .u8 (M2.k : Int), .int .u64 (M2.n0 : Int), .int .u64 (M2.n1 : Int), .int .u64 (M2.n2 : Int), .int .u64 (M2.n3 : Int), .int .u64 (M2.n4 : Int), .int .u64 (M2.n5 : Int), .string M2.s0, .string M2.s1, .slice A12 M2.l.length c12]).alloc (.cells #[.int .i64 0, .int .i64 ((0 : Nat) : Int)] 32))
          rw [hz] at h; exact h
        have hk16 : Blk ((w25.alloc (.cells #[.int .u8 (M2.k : Int), .int .u64 (M2.n0 : Int), .int .u64 (M2.n1 : Int), .int .u64 (M2.n2 : Int), .int .u64 (M2.n3 : Int), .int .u64 (M2.n4 : Int), .int .u64 (M2.n5 : Int), .string M2.s0, .string M2.s1, .slice A12 M2.l.length c12] 29)).alloc (.cells #[.int .i64 0, .int .i64 ((0 : Nat) : Int)] 32)) (p7 + 1) 32 #[.int .i64 0, .int .i64 ((0 : Nat) : Int)] := by
          have h := (Blk.new (w25.alloc (.cells #[.int .u8 (M2.k : Int), .int .u64 (M2.n0 : Int), .int .u64 (M2.n1 : Int), .int .u64 (M2.n2 : Int), .int .u64 (M2.n3 : Int), .int .u64 (M2.n4 : Int), .int .u64 (M2.n5 : Int), .string M2.s0, .string M2.s1, .slice A12 M2.l.length c12] 29)) 32 #[.int .i64 0, .int .i64 ((0 : Nat) : Int)])
          rw [World.size_alloc, hz] at h; exact h
        have hkm := ((HKM.out.alloc (.cells #[.int .u8 (M2.k : Int), .int .u64 (M2.n0 : Int), .int .u64 (M2.n1 : Int), .int .u64 (M2.n2 : Int), .int .u64 (M2.n3 : Int), .int .u64 (M2.n4 : Int), .int .u64 (M2.n5 : Int), .string M2.s0, .string M2.s1, .slice A12 M2.l.length c12] 29)).alloc (.cells #[.int .i64 0, .int .i64 ((0 : Nat) : Int)] 32))
        have hk8 := ((HK8.out.alloc (.cells #[.int .u8 (M2.k : Int), .int .u64 (M2.n0 : Int), .int .u64 (M2.n1 : Int), .int .u64 (M2.n2 : Int), .int .u64 (M2.n3 : Int), .int .u64 (M2.n4 : Int), .int .u64 (M2.n5 : Int), .string M2.s0, .string M2.s1, .slice A12 M2.l.length c12] 29)).alloc (.cells #[.int .i64 0, .int .i64 ((0 : Nat) : Int)] 32))
        have hk10 := ((HK10.out.alloc (.cells #[.int .u8 (M2.k : Int), .int .u64 (M2.n0 : Int), .int .u64 (M2.n1 : Int), .int .u64 (M2.n2 : Int), .int .u64 (M2.n3 : Int), .int .u64 (M2.n4 : Int), .int .u64 (M2.n5 : Int), .string M2.s0, .string M2.s1, .slice A12 M2.l.length c12] 29)).alloc (.cells #[.int .i64 0, .int .i64 ((0 : Nat) : Int)] 32))
        have hk12 := ((HK12.out.alloc (.cells #[.int .u8 (M2.k : Int), .int .u64 (M2.n0 : Int), .int .u64 (M2.n1 : Int), .int .u64 (M2.n2 : Int), .int .u64 (M2.n3 : Int), .int .u64 (M2.n4 : Int), .int .u64 (M2.n5 : Int), .string M2.s0, .string M2.s1, .slice A12 M2.l.length c12] 29)).alloc (.cells #[.int .i64 0, .int .i64 ((0 : Nat) : Int)] 32))
        have hk13 := ((HK13.out.alloc (.cells #[.int .u8 (M2.k : Int), .int .u64 (M2.n0 : Int), .int .u64 (M2.n1 : Int), .int .u64 (M2.n2 : Int), .int .u64 (M2.n3 : Int), .int .u64 (M2.n4 : Int), .int .u64 (M2.n5 : Int), .string M2.s0, .string M2.s1, .slice A12 M2.l.length c12] 29)).alloc (.cells #[.int .i64 0, .int .i64 ((0 : Nat) : Int)] 32))
        have hk14 := ((HK14.out.alloc (.cells #[.int .u8 (M2.k : Int), .int .u64 (M2.n0 : Int), .int .u64 (M2.n1 : Int), .int .u64 (M2.n2 : Int), .int .u64 (M2.n3 : Int), .int .u64 (M2.n4 : Int), .int .u64 (M2.n5 : Int), .string M2.s0, .string M2.s1, .slice A12 M2.l.length c12] 29)).alloc (.cells #[.int .i64 0, .int .i64 ((0 : Nat) : Int)] 32))
        have hse := HSE.out.below (bw_a (bw_a (Below.refl w25.heap.size w25) (.cells #[.int .u8 (M2.k : Int), .int .u64 (M2.n0 : Int), .int .u64 (M2.n1 : Int), .int .u64 (M2.n2 : Int), .int .u64 (M2.n3 : Int), .int .u64 (M2.n4 : Int), .int .u64 (M2.n5 : Int), .string M2.s0, .string M2.s1, .slice A12 M2.l.length c12] 29)) (.cells #[.int .i64 0, .int .i64 ((0 : Nat) : Int)] 32))
        have hs9 := HS9.out.below (bw_a (bw_a (Below.refl w25.heap.size w25) (.cells #[.int .u8 (M2.k : Int), .int .u64 (M2.n0 : Int), .int .u64 (M2.n1 : Int), .int .u64 (M2.n2 : Int), .int .u64 (M2.n3 : Int), .int .u64 (M2.n4 : Int), .int .u64 (M2.n5 : Int), .string M2.s0, .string M2.s1, .slice A12 M2.l.length c12] 29)) (.cells #[.int .i64 0, .int .i64 ((0 : Nat) : Int)] 32))
        have hs11 := HS11.out.below (bw_a (bw_a (Below.refl w25.heap.size w25) (.cells #[.int .u8 (M2.k : Int), .int .u64 (M2.n0 : Int), .int .u64 (M2.n1 : Int), .int .u64 (M2.n2 : Int), .int .u64 (M2.n3 : Int), .int .u64 (M2.n4 : Int), .int .u64 (M2.n5 : Int), .string M2.s0, .string M2.s1, .slice A12 M2.l.length c12] 29)) (.cells #[.int .i64 0, .int .i64 ((0 : Nat) : Int)] 32))
        have hs12 := HS12.out.below (bw_a (bw_a (Below.refl w25.heap.size w25) (.cells #[.int .u8 (M2.k : Int), .int .u64 (M2.n0 : Int), .int .u64 (M2.n1 : Int), .int .u64 (M2.n2 : Int), .int .u64 (M2.n3 : Int), .int .u64 (M2.n4 : Int), .int .u64 (M2.n5 : Int), .string M2.s0, .string M2.s1, .slice A12 M2.l.length c12] 29)) (.cells #[.int .i64 0, .int .i64 ((0 : Nat) : Int)] 32))
        have hb0 : Below s w ((w25.alloc (.cells #[.int .u8 (M2.k : Int), .int .u64 (M2.n0 : Int), .int .u64 (M2.n1 : Int), .int .u64 (M2.n2 : Int), .int .u64 (M2.n3 : Int), .int .u64 (M2.n4 : Int), .int .u64 (M2.n5 : Int), .string M2.s0, .string M2.s1, .slice A12 M2.l.length c12] 29)).alloc (.cells #[.int .i64 0, .int .i64 ((0 : Nat) : Int)] 32)) := HBB25.out.trans ((bw_a (bw_a (Below.refl w25.heap.size w25) (.cells #[.int .u8 (M2.k : Int), .int .u64 (M2.n0 : Int), .int .u64 (M2.n1 : Int), .int .u64 (M2.n2 : Int), .int .u64 (M2.n3 : Int), .int .u64 (M2.n4 : Int), .int .u64 (M2.n5 : Int), .string M2.s0, .string M2.s1, .slice A12 M2.l.length c12] 29)) (.cells #[.int .i64 0, .int .i64 ((0 : Nat) : Int)] 32)).mono (by have := HBB25.out.size; omega))
        have hsz : (((w25.alloc (.cells #[.int .u8 (M2.k : Int), .int .u64 (M2.n0 : Int), .int .u64 (M2.n1 : Int), .int .u64 (M2.n2 : Int), .int .u64 (M2.n3 : Int), .int .u64 (M2.n4 : Int), .int .u64 (M2.n5 : Int), .string M2.s0, .string M2.s1, .slice A12 M2.l.length c12] 29)).alloc (.cells #[.int .i64 0, .int .i64 ((0 : Nat) : Int)] 32))).heap.size = p7 + 1 + 1 := by simp [hz]
        generalize hW26 : ((w25.alloc (.cells #[.int .u8 (M2.k : Int), .int .u64 (M2.n0 : Int), .int .u64 (M2.n1 : Int), .int .u64 (M2.n2 : Int), .int .u64 (M2.n3 : Int), .int .u64 (M2.n4 : Int), .int .u64 (M2.n5 : Int), .string M2.s0, .string M2.s1, .slice A12 M2.l.length c12] 29)).alloc (.cells #[.int .i64 0, .int .i64 ((0 : Nat) : Int)] 32)) = W26 at *
        have HKM := hid hkm
        have HK8 := hid hk8
        have HK10 := hid hk10
        have HK12 := hid hk12
        have HK13 := hid hk13
        have HK14 := hid hk14
        have HK15 := hid hk15
        have HK16 := hid hk16
        have HSE := hid hse
        have HS9 := hid hs9
        have HS11 := hid hs11
        have HS12 := hid hs12
        have HBB26 := hid hb0
        have HSZ26 := hid hsz
        clear hb0 hsz hz hW26 hkm hk8 hk10 hk12 hk13 hk14 hk15 hk16 hse hs9 hs11 hs12
        have hbs := bsame eb cb el el A1 A9 c1 q9 _ HEL.out HCL.out HSE.out HS9.out
        rw [HDE.out] at hbs
        have HBS := hid hbs
        clear hbs
        refine (HBS.out).mono ?_
        rintro e w27 ⟨rfl, hb⟩
        have hkm := HKM.out.below hb HKM.out.lt
        have hk8 := HK8.out.below hb HK8.out.lt
        have hk10 := HK10.out.below hb HK10.out.lt
        have hk12 := HK12.out.below hb HK12.out.lt
        have hk13 := HK13.out.below hb HK13.out.lt
        have hk14 := HK14.out.below hb HK14.out.lt
        have hk15 := HK15.out.below hb HK15.out.lt
        have hk16 := HK16.out.below hb HK16.out.lt
        have hse := HSE.out.below hb
        have hs9 := HS9.out.below hb
        have hs11 := HS11.out.below hb
        have hs12 := HS12.out.below hb
        have hb0 : Below s w w27 := HBB26.out.trans (hb.mono (by have := HBB26.out.size; omega))
        have HKM := hid hkm
        have HK8 := hid hk8
        have HK10 := hid hk10
        have HK12 := hid hk12
        have HK13 := hid hk13
        have HK14 := hid hk14
        have HK15 := hid hk15
        have HK16 := hid hk16
        have HSE := hid hse
        have HS9 := hid hs9
        have HS11 := hid hs11
        have HS12 := hid hs12
        have HBB27 := hid hb0
        clear hb0 hb hkm hk8 hk10 hk12 hk13 hk14 hk15 hk16 hse hs9 hs11 hs12
        have zhk140 := HK14.out.cell 0
        have zhk141 := HK14.out.cell 1
        have lhk14 := HK14.out.lt
        have zhk130 := HK13.out.cell 0
        have zhk131 := HK13.out.cell 1
        have zhk132 := HK13.out.cell 2
        have zhk133 := HK13.out.cell 3
        have zhk134 := HK13.out.cell 4
        have zhk135 := HK13.out.cell 5
        have zhk136 := HK13.out.cell 6
        have zhk137 := HK13.out.cell 7
        have zhk138 := HK13.out.cell 8
        have zhk139 := HK13.out.cell 9
        have lhk13 := HK13.out.lt
        have zhkm0 := HKM.out.cell 0
        have zhkm1 := HKM.out.cell 1
        have zhkm2 := HKM.out.cell 2
        have zhkm3 := HKM.out.cell 3
        have zhkm4 := HKM.out.cell 4
        have zhkm5 := HKM.out.cell 5
        have zhkm6 := HKM.out.cell 6
        have zhkm7 := HKM.out.cell 7
        have zhkm8 := HKM.out.cell 8
        have zhkm9 := HKM.out.cell 9
        have lhkm := HKM.out.lt
        simp only [List.getElem?_toArray, List.getElem?_cons_zero, List.getElem?_cons_succ] at zhk140 zhk141 zhk130 zhk131 zhk132 zhk133 zhk134 zhk135 zhk136 zhk137 zhk138 zhk139 zhkm0 zhkm1 zhkm2 zhkm3 zhkm4 zhkm5 zhkm6 zhkm7 zhkm8 zhkm9
        go_wp2_with fail
        have hsx := HSA.out _ M2 A11 c11 HS11.out (HML.out _ HBB27.out)
        rw [HS2.out] at hsx
        have HSX := hid hsx
        clear hsx
        refine (HSX.out).mono ?_
        rintro e w28 ⟨rfl, hb⟩
        clear lhk14 lhk13 lhkm zhk140 zhk141 zhk130 zhk131 zhk132 zhk133 zhk134 zhk135 zhk136 zhk137 zhk138 zhk139 zhkm0 zhkm1 zhkm2 zhkm3 zhkm4 zhkm5 zhkm6 zhkm7 zhkm8 zhkm9
        have hkm := HKM.out.below hb HKM.out.lt
        have hk8 := HK8.out.below hb HK8.out.lt
        have hk10 := HK10.out.below hb HK10.out.lt
        have hk12 := HK12.out.below hb HK12.out.lt
        have hk13 := HK13.out.below hb HK13.out.lt
        have hk14 := HK14.out.below hb HK14.out.lt
        have hk15 := HK15.out.below hb HK15.out.lt
        have hk16 := HK16.out.below hb HK16.out.lt
        have hse := HSE.out.below hb
        have hs9 := HS9.out.below hb
        have hs11 := HS11.out.below hb
        have hs12 := HS12.out.below hb
        have hb0 : Below s w w28 := HBB27.out.trans (hb.mono (by have := HBB27.out.size; omega))
        have HKM := hid hkm
        have HK8 := hid hk8
        have HK10 := hid hk10
        have HK12 := hid hk12
        have HK13 := hid hk13
        have HK14 := hid hk14
        have HK15 := hid hk15
        have HK16 := hid hk16
        have HSE := hid hse
        have HS9 := hid hs9
        have HS11 := hid hs11
        have HS12 := hid hs12
        have HBB28 := hid hb0
        clear hb0 hb hkm hk8 hk10 hk12 hk13 hk14 hk15 hk16 hse hs9 hs11 hs12
        have zhk160 := HK16.out.cell 0
        have zhk161 := HK16.out.cell 1
        have lhk16 := HK16.out.lt
        have zhk150 := HK15.out.cell 0
        have zhk151 := HK15.out.cell 1
        have zhk152 := HK15.out.cell 2
        have zhk153 := HK15.out.cell 3
        have zhk154 := HK15.out.cell 4
        have zhk155 := HK15.out.cell 5
        have zhk156 := HK15.out.cell 6
        have zhk157 := HK15.out.cell 7
        have zhk158 := HK15.out.cell 8
        have zhk159 := HK15.out.cell 9
        have lhk15 := HK15.out.lt
        have zhkm0 := HKM.out.cell 0
        have zhkm1 := HKM.out.cell 1
        have zhkm2 := HKM.out.cell 2
        have zhkm3 := HKM.out.cell 3
        have zhkm4 := HKM.out.cell 4
        have zhkm5 := HKM.out.cell 5
        have zhkm6 := HKM.out.cell 6
        have zhkm7 := HKM.out.cell 7
        have zhkm8 := HKM.out.cell 8
        have zhkm9 := HKM.out.cell 9
        have lhkm := HKM.out.lt
        simp only [List.getElem?_toArray, List.getElem?_cons_zero, List.getElem?_cons_succ] at zhk160 zhk161 zhk150 zhk151 zhk152 zhk153 zhk154 zhk155 zhk156 zhk157 zhk158 zhk159 zhkm0 zhkm1 zhkm2 zhkm3 zhkm4 zhkm5 zhkm6 zhkm7 zhkm8 zhkm9
        go_wp2_with fail
        have hsx := HSA.out _ M2 A12 c12 HS12.out (HML.out _ HBB28.out)
        rw [HS2.out] at hsx
        have HSX2 := hid hsx
        clear hsx
        refine (HSX2.out).mono ?_
        rintro e w29 ⟨rfl, hb⟩
        clear lhk16 lhk15 lhkm zhk160 zhk161 zhk150 zhk151 zhk152 zhk153 zhk154 zhk155 zhk156 zhk157 zhk158 zhk159 zhkm0 zhkm1 zhkm2 zhkm3 zhkm4 zhkm5 zhkm6 zhkm7 zhkm8 zhkm9
        have hkm := HKM.out.below hb HKM.out.lt
        have hk8 := HK8.out.below hb HK8.out.lt
        have hk10 := HK10.out.below hb HK10.out.lt
        have hk12 := HK12.out.below hb HK12.out.lt
        have hk13 := HK13.out.below hb HK13.out.lt
        have hk14 := HK14.out.below hb HK14.out.lt
        have hk15 := HK15.out.below hb HK15.out.lt
        have hk16 := HK16.out.below hb HK16.out.lt
        have hse := HSE.out.below hb
        have hs9 := HS9.out.below hb
        have hs11 := HS11.out.below hb
        have hs12 := HS12.out.below hb
        have hb0 : Below s w w29 := HBB28.out.trans (hb.mono (by have := HBB28.out.size; omega))
        have HKM := hid hkm
        have HK8 := hid hk8
        have HK10 := hid hk10
        have HK12 := hid hk12
        have HK13 := hid hk13
        have HK14 := hid hk14
        have HK15 := hid hk15
        have HK16 := hid hk16
        have HSE := hid hse
        have HS9 := hid hs9
        have HS11 := hid hs11
        have HS12 := hid hs12
        have HBB29 := hid hb0
        clear hb0 hb hkm hk8 hk10 hk12 hk13 hk14 hk15 hk16 hse hs9 hs11 hs12
        go_wp2_with fail
        go_ret
        exact ⟨rfl, HBB29.out⟩
      · have hde : decide (eb = cb) = false := decide_eq_false hsm
        have hdd := dec_st (w := W24) hk255 hv1 hv2 HCL.out HS9.out (HSD.out.trans (if_neg hsm))
        have HDE := hid hde
        have HDD := hid hdd
        clear hde hdd hsm
        generalize ((unl cb eb : Nat) : Int) = U at *
        refine (HDD.out).mono ?_
        rintro e w25 ⟨A12, c12, rfl, hs12, hb⟩
        clear lhkm zhkm0 mhkm
        have hkm := HKM.out.below hb HKM.out.lt
        have hk8 := HK8.out.below hb HK8.out.lt
        have hk10 := HK10.out.below hb HK10.out.lt
        have hk12 := HK12.out.below hb HK12.out.lt
        have hk13 := HK13.out.below hb HK13.out.lt
        have hk14 := HK14.out.below hb HK14.out.lt
        have hse := HSE.out.below hb
        have hs9 := HS9.out.below hb
        have hs11 := HS11.out.below hb
        have hb0 : Below s w w25 := HBB24.out.trans (hb.mono (by have := HBB24.out.size; omega))
        have HKM := hid hkm
        have HK8 := hid hk8
        have HK10 := hid hk10
        have HK12 := hid hk12
        have HK13 := hid hk13
        have HK14 := hid hk14
        have HSE := hid hse
        have HS9 := hid hs9
        have HS11 := hid hs11
        have HS12 := hid hs12
        have HBB25 := hid hb0
        clear hb0 hb hkm hk8 hk10 hk12 hk13 hk14 hse hs9 hs11 hs12
        obtain ⟨p7, hz⟩ : ∃ p, w25.heap.size = p := ⟨_, rfl⟩
        go_wp2_with fail
        have hk15 : Blk ((w25.alloc (.cells #[.int .u8 (ZM.k : Int), .int .u64 (ZM.n0 : Int), .int .u64 (ZM.n1 : Int), .int .u64 (ZM.n2 : Int), .int .u64 (ZM.n3 : Int), .int .u64 (ZM.n4 : Int), .int .u64 (ZM.n5 : Int), .string ZM.s0, .string ZM.s1, .slice A12 ZM.l.length c12] 29)).alloc (.cells #[.int .i64 3, .int .i64 U] 32)) (p7) 29 #[.int .u8 (ZM.k : Int), .int .u64 (ZM.n0 : Int), .int .u64 (ZM.n1 : Int), .int .u64 (ZM.n2 : Int), .int .u64 (ZM.n3 : Int), .int .u64 (ZM.n4 : Int), .int .u64 (ZM.n5 : Int), .string ZM.s0, .string ZM.s1, .slice A12 ZM.l.length c12] := by
          have h := ((Blk.new w25 29 #[.int .u8 (ZM.k : Int), .int .u64 (ZM.n0 : Int), .int .u64 (ZM.n1 : Int), .int .u64 (ZM.n2 : Int), .int .u64 (ZM.n3 : Int), .int .u64 (ZM.n4 : Int), .int .u64 (ZM.n5 : Int), .string ZM.s0, .string ZM.s1, .slice A12 ZM.l.length c12]).alloc (.cells #[.int .i64 3, .int .i64 U] 32))
          rw [hz] at h; exact h
        have hk16 : Blk ((w25.alloc (.cells #[.int .u8 (ZM.k : Int), .int .u64 (ZM.n0 : Int), .int .u64 (ZM.n1 : Int), .int .u64 (ZM.n2 : Int), .int .u64 (ZM.n3 : Int), .int .u64 (ZM.n4 : Int), .int .u64 (ZM.n5 : Int), .string ZM.s0, .string ZM.s1, .slice A12 ZM.l.length c12] 29)).alloc (.cells #[.int .i64 3, .int .i64 U] 32)) (p7 + 1) 32 #[.int .i64 3, .int .i64 U] := by
          have h := (Blk.new (w25.alloc (.cells #[.int .u8 (ZM.k : Int), .int .u64 (ZM.n0 : Int), .int .u64 (ZM.n1 : Int), .int .u64 (ZM.n2 : Int), .int .u64 (ZM.n3 : Int), .int .u64 (ZM.n4 : Int), .int .u64 (ZM.n5 : Int), .string ZM.s0, .string ZM.s1, .slice A12 ZM.l.length c12] 29)) 32 #[.int .i64 3, .int .i64 U])
          rw [World.size_alloc, hz] at h; exact h
        have hkm := ((HKM.out.alloc (.cells #[.int .u8 (ZM.k : Int), .int .u64 (ZM.n0 : Int), .int .u64 (ZM.n1 : Int), .int .u64 (ZM.n2 : Int), .int .u64 (ZM.n3 : Int), .int .u64 (ZM.n4 : Int), .int .u64 (ZM.n5 : Int), .string ZM.s0, .string ZM.s1, .slice A12 ZM.l.length c12] 29)).alloc (.cells #[.int .i64 3, .int .i64 U] 32))
        have hk8 := ((HK8.out.alloc (.cells #[.int .u8 (ZM.k : Int), .int .u64 (ZM.n0 : Int), .int .u64 (ZM.n1 : Int), .int .u64 (ZM.n2 : Int), .int .u64 (ZM.n3 : Int), .int .u64 (ZM.n4 : Int), .int .u64 (ZM.n5 : Int), .string ZM.s0, .string ZM.s1, .slice A12 ZM.l.length c12] 29)).alloc (.cells #[.int .i64 3, .int .i64 U] 32))
        have hk10 := ((HK10.out.alloc (.cells #[.int .u8 (ZM.k : Int), .int .u64 (ZM.n0 : Int), .int .u64 (ZM.n1 : Int), .int .u64 (ZM.n2 : Int), .int .u64 (ZM.n3 : Int), .int .u64 (ZM.n4 : Int), .int .u64 (ZM.n5 : Int), .string ZM.s0, .string ZM.s1, .slice A12 ZM.l.length c12] 29)).alloc (.cells #[.int .i64 3, .int .i64 U] 32))
        have hk12 := ((HK12.out.alloc (.cells #[.int .u8 (ZM.k : Int), .int .u64 (ZM.n0 : Int), .int .u64 (ZM.n1 : Int), .int .u64 (ZM.n2 : Int), .int .u64 (ZM.n3 : Int), .int .u64 (ZM.n4 : Int), .int .u64 (ZM.n5 : Int), .string ZM.s0, .string ZM.s1, .slice A12 ZM.l.length c12] 29)).alloc (.cells #[.int .i64 3, .int .i64 U] 32))
        have hk13 := ((HK13.out.alloc (.cells #[.int .u8 (ZM.k : Int), .int .u64 (ZM.n0 : Int), .int .u64 (ZM.n1 : Int), .int .u64 (ZM.n2 : Int), .int .u64 (ZM.n3 : Int), .int .u64 (ZM.n4 : Int), .int .u64 (ZM.n5 : Int), .string ZM.s0, .string ZM.s1, .slice A12 ZM.l.length c12] 29)).alloc (.cells #[.int .i64 3, .int .i64 U] 32))
        have hk14 := ((HK14.out.alloc (.cells #[.int .u8 (ZM.k : Int), .int .u64 (ZM.n0 : Int), .int .u64 (ZM.n1 : Int), .int .u64 (ZM.n2 : Int), .int .u64 (ZM.n3 : Int), .int .u64 (ZM.n4 : Int), .int .u64 (ZM.n5 : Int), .string ZM.s0, .string ZM.s1, .slice A12 ZM.l.length c12] 29)).alloc (.cells #[.int .i64 3, .int .i64 U] 32))
        have hse := HSE.out.below (bw_a (bw_a (Below.refl w25.heap.size w25) (.cells #[.int .u8 (ZM.k : Int), .int .u64 (ZM.n0 : Int), .int .u64 (ZM.n1 : Int), .int .u64 (ZM.n2 : Int), .int .u64 (ZM.n3 : Int), .int .u64 (ZM.n4 : Int), .int .u64 (ZM.n5 : Int), .string ZM.s0, .string ZM.s1, .slice A12 ZM.l.length c12] 29)) (.cells #[.int .i64 3, .int .i64 U] 32))
        have hs9 := HS9.out.below (bw_a (bw_a (Below.refl w25.heap.size w25) (.cells #[.int .u8 (ZM.k : Int), .int .u64 (ZM.n0 : Int), .int .u64 (ZM.n1 : Int), .int .u64 (ZM.n2 : Int), .int .u64 (ZM.n3 : Int), .int .u64 (ZM.n4 : Int), .int .u64 (ZM.n5 : Int), .string ZM.s0, .string ZM.s1, .slice A12 ZM.l.length c12] 29)) (.cells #[.int .i64 3, .int .i64 U] 32))
        have hs11 := HS11.out.below (bw_a (bw_a (Below.refl w25.heap.size w25) (.cells #[.int .u8 (ZM.k : Int), .int .u64 (ZM.n0 : Int), .int .u64 (ZM.n1 : Int), .int .u64 (ZM.n2 : Int), .int .u64 (ZM.n3 : Int), .int .u64 (ZM.n4 : Int), .int .u64 (ZM.n5 : Int), .string ZM.s0, .string ZM.s1, .slice A12 ZM.l.length c12] 29)) (.cells #[.int .i64 3, .int .i64 U] 32))
        have hs12 := HS12.out.below (bw_a (bw_a (Below.refl w25.heap.size w25) (.cells #[.int .u8 (ZM.k : Int), .int .u64 (ZM.n0 : Int), .int .u64 (ZM.n1 : Int), .int .u64 (ZM.n2 : Int), .int .u64 (ZM.n3 : Int), .int .u64 (ZM.n4 : Int), .int .u64 (ZM.n5 : Int), .string ZM.s0, .string ZM.s1, .slice A12 ZM.l.length c12] 29)) (.cells #[.int .i64 3, .int .i64 U] 32))
        have hb0 : Below s w ((w25.alloc (.cells #[.int .u8 (ZM.k : Int), .int .u64 (ZM.n0 : Int), .int .u64 (ZM.n1 : Int), .int .u64 (ZM.n2 : Int), .int .u64 (ZM.n3 : Int), .int .u64 (ZM.n4 : Int), .int .u64 (ZM.n5 : Int), .string ZM.s0, .string ZM.s1, .slice A12 ZM.l.length c12] 29)).alloc (.cells #[.int .i64 3, .int .i64 U] 32)) := HBB25.out.trans ((bw_a (bw_a (Below.refl w25.heap.size w25) (.cells #[.int .u8 (ZM.k : Int), .int .u64 (ZM.n0 : Int), .int .u64 (ZM.n1 : Int), .int .u64 (ZM.n2 : Int), .int .u64 (ZM.n3 : Int), .int .u64 (ZM.n4 : Int), .int .u64 (ZM.n5 : Int), .string ZM.s0, .string ZM.s1, .slice A12 ZM.l.length c12] 29)) (.cells #[.int .i64 3, .int .i64 U] 32)).mono (by have := HBB25.out.size; omega))
        have hsz : (((w25.alloc (.cells #[.int .u8 (ZM.k : Int), .int .u64 (ZM.n0 : Int), .int .u64 (ZM.n1 : Int), .int .u64 (ZM.n2 : Int), .int .u64 (ZM.n3 : Int), .int .u64 (ZM.n4 : Int), .int .u64 (ZM.n5 : Int), .string ZM.s0, .string ZM.s1, .slice A12 ZM.l.length c12] 29)).alloc (.cells #[.int .i64 3, .int .i64 U] 32))).heap.size = p7 + 1 + 1 := by simp [hz]
        generalize hW26 : ((w25.alloc (.cells #[.int .u8 (ZM.k : Int), .int .u64 (ZM.n0 : Int), .int .u64 (ZM.n1 : Int), .int .u64 (ZM.n2 : Int), .int .u64 (ZM.n3 : Int), .int .u64 (ZM.n4 : Int), .int .u64 (ZM.n5 : Int), .string ZM.s0, .string ZM.s1, .slice A12 ZM.l.length c12] 29)).alloc (.cells #[.int .i64 3, .int .i64 U] 32)) = W26 at *
        have HKM := hid hkm
        have HK8 := hid hk8
        have HK10 := hid hk10
        have HK12 := hid hk12
        have HK13 := hid hk13
        have HK14 := hid hk14
        have HK15 := hid hk15
        have HK16 := hid hk16
        have HSE := hid hse
        have HS9 := hid hs9
        have HS11 := hid hs11
        have HS12 := hid hs12
        have HBB26 := hid hb0
        have HSZ26 := hid hsz
        clear hb0 hsz hz hW26 hkm hk8 hk10 hk12 hk13 hk14 hk15 hk16 hse hs9 hs11 hs12
        have hbs := bsame eb cb el el A1 A9 c1 q9 _ HEL.out HCL.out HSE.out HS9.out
        rw [HDE.out] at hbs
        have HBS := hid hbs
        clear hbs
        refine (HBS.out).mono ?_
        rintro e w27 ⟨rfl, hb⟩
        have hkm := HKM.out.below hb HKM.out.lt
        have hk8 := HK8.out.below hb HK8.out.lt
        have hk10 := HK10.out.below hb HK10.out.lt
        have hk12 := HK12.out.below hb HK12.out.lt
        have hk13 := HK13.out.below hb HK13.out.lt
        have hk14 := HK14.out.below hb HK14.out.lt
        have hk15 := HK15.out.below hb HK15.out.lt
        have hk16 := HK16.out.below hb HK16.out.lt
        have hse := HSE.out.below hb
        have hs9 := HS9.out.below hb
        have hs11 := HS11.out.below hb
        have hs12 := HS12.out.below hb
        have hb0 : Below s w w27 := HBB26.out.trans (hb.mono (by have := HBB26.out.size; omega))
        have HKM := hid hkm
        have HK8 := hid hk8
        have HK10 := hid hk10
        have HK12 := hid hk12
        have HK13 := hid hk13
        have HK14 := hid hk14
        have HK15 := hid hk15
        have HK16 := hid hk16
        have HSE := hid hse
        have HS9 := hid hs9
        have HS11 := hid hs11
        have HS12 := hid hs12
        have HBB27 := hid hb0
        clear hb0 hb hkm hk8 hk10 hk12 hk13 hk14 hk15 hk16 hse hs9 hs11 hs12
        have zhk140 := HK14.out.cell 0
        have zhk141 := HK14.out.cell 1
        have lhk14 := HK14.out.lt
        have zhk130 := HK13.out.cell 0
        have zhk131 := HK13.out.cell 1
        have zhk132 := HK13.out.cell 2
        have zhk133 := HK13.out.cell 3
        have zhk134 := HK13.out.cell 4
        have zhk135 := HK13.out.cell 5
        have zhk136 := HK13.out.cell 6
        have zhk137 := HK13.out.cell 7
        have zhk138 := HK13.out.cell 8
        have zhk139 := HK13.out.cell 9
        have lhk13 := HK13.out.lt
        have zhkm0 := HKM.out.cell 0
        have zhkm1 := HKM.out.cell 1
        have zhkm2 := HKM.out.cell 2
        have zhkm3 := HKM.out.cell 3
        have zhkm4 := HKM.out.cell 4
        have zhkm5 := HKM.out.cell 5
        have zhkm6 := HKM.out.cell 6
        have zhkm7 := HKM.out.cell 7
        have zhkm8 := HKM.out.cell 8
        have zhkm9 := HKM.out.cell 9
        have lhkm := HKM.out.lt
        simp only [List.getElem?_toArray, List.getElem?_cons_zero, List.getElem?_cons_succ] at zhk140 zhk141 zhk130 zhk131 zhk132 zhk133 zhk134 zhk135 zhk136 zhk137 zhk138 zhk139 zhkm0 zhkm1 zhkm2 zhkm3 zhkm4 zhkm5 zhkm6 zhkm7 zhkm8 zhkm9
        go_wp2_with fail
        have hsx := HSA.out _ M2 A11 c11 HS11.out (HML.out _ HBB27.out)
        rw [HS2.out] at hsx
        have HSX := hid hsx
        clear hsx
        refine (HSX.out).mono ?_
        rintro e w28 ⟨rfl, hb⟩
        clear lhk14 lhk13 lhkm zhk140 zhk141 zhk130 zhk131 zhk132 zhk133 zhk134 zhk135 zhk136 zhk137 zhk138 zhk139 zhkm0 zhkm1 zhkm2 zhkm3 zhkm4 zhkm5 zhkm6 zhkm7 zhkm8 zhkm9
        have hkm := HKM.out.below hb HKM.out.lt
        have hk8 := HK8.out.below hb HK8.out.lt
        have hk10 := HK10.out.below hb HK10.out.lt
        have hk12 := HK12.out.below hb HK12.out.lt
        have hk13 := HK13.out.below hb HK13.out.lt
        have hk14 := HK14.out.below hb HK14.out.lt
        have hk15 := HK15.out.below hb HK15.out.lt
        have hk16 := HK16.out.below hb HK16.out.lt
        have hse := HSE.out.below hb
        have hs9 := HS9.out.below hb
        have hs11 := HS11.out.below hb
        have hs12 := HS12.out.below hb
        have hb0 : Below s w w28 := HBB27.out.trans (hb.mono (by have := HBB27.out.size; omega))
        have HKM := hid hkm
        have HK8 := hid hk8
        have HK10 := hid hk10
        have HK12 := hid hk12
        have HK13 := hid hk13
        have HK14 := hid hk14
        have HK15 := hid hk15
        have HK16 := hid hk16
        have HSE := hid hse
        have HS9 := hid hs9
        have HS11 := hid hs11
        have HS12 := hid hs12
        have HBB28 := hid hb0
        clear hb0 hb hkm hk8 hk10 hk12 hk13 hk14 hk15 hk16 hse hs9 hs11 hs12
        have zhk160 := HK16.out.cell 0
        have zhk161 := HK16.out.cell 1
        have lhk16 := HK16.out.lt
        have zhk150 := HK15.out.cell 0
        have zhk151 := HK15.out.cell 1
        have zhk152 := HK15.out.cell 2
        have zhk153 := HK15.out.cell 3
        have zhk154 := HK15.out.cell 4
        have zhk155 := HK15.out.cell 5
        have zhk156 := HK15.out.cell 6
        have zhk157 := HK15.out.cell 7
        have zhk158 := HK15.out.cell 8
        have zhk159 := HK15.out.cell 9
        have lhk15 := HK15.out.lt
        have zhkm0 := HKM.out.cell 0
        have zhkm1 := HKM.out.cell 1
        have zhkm2 := HKM.out.cell 2
        have zhkm3 := HKM.out.cell 3
        have zhkm4 := HKM.out.cell 4
        have zhkm5 := HKM.out.cell 5
        have zhkm6 := HKM.out.cell 6
        have zhkm7 := HKM.out.cell 7
        have zhkm8 := HKM.out.cell 8
        have zhkm9 := HKM.out.cell 9
        have lhkm := HKM.out.lt
        simp only [List.getElem?_toArray, List.getElem?_cons_zero, List.getElem?_cons_succ] at zhk160 zhk161 zhk150 zhk151 zhk152 zhk153 zhk154 zhk155 zhk156 zhk157 zhk158 zhk159 zhkm0 zhkm1 zhkm2 zhkm3 zhkm4 zhkm5 zhkm6 zhkm7 zhkm8 zhkm9
        go_wp2_with fail
        go_ret
        exact ⟨rfl, HBB28.out⟩
    · have heb : (E1 != 0) = true := by simpa using he
      have hl0 := HBAD.out he
      subst hl0
      clear he
      go_wp2_with fail
      go_ret
      exact ⟨rfl, HBB4.out.trans ((bw_a (Below.refl w4.heap.size w4) (.cells #[.int .i64 E1, .int .i64 E2] 32)).mono (by have := HBB4.out.size; omega))⟩
end Go.Proofs.Ytealjpolomhdeaa
