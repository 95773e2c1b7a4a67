/- The walks of EncodeFields, EncodeBytes and WholeParts. -/
import Derived.Test.YtehjibbjkadoiaaEn4
import Derived.Test.YtehjibbjkadoiaaOpen9
import Derived.Deep.AppendLies
set_option linter.unusedVariables false
namespace Go.Proofs.Ytehjibbjkadoiaa
open Go.RowKit
theorem same_self (xs : List UInt8) (n : Nat) (A B : Option Addr) (c d : Nat) (w : World) (hn : xs.length = n) (hl : n ≤ 9223372036854775807) (hA : BRd w A xs) (hB : BRd w B xs) :
    Calls Try.prog 20 #[.slice A n c, .slice B n d] w fun e w' => e = .returned (.bool true) ∧ ∃ n, w' = w.drewN n := by
  have h := same_at xs xs n n A B c d w hn hn hl hA hB
  rw [decide_eq_true rfl] at h
  exact h
set_option maxRecDepth 100000 in
set_option maxHeartbeats 8000000 in
theorem encFields_any (M : MV) (num t i : Int) (w : World) (hok : MvOk w M) (hn1 : -9223372036854775808 ≤ num) (hn2 : num ≤ 9223372036854775807) : Calls Try.prog 5 #[mvV M, .agg #[.int .i64 num, .int .i64 t, .int .i64 i]] w fun e w' => e = .returned (.bool true) ∧ Below w.heap.size w w' := by
  have hlv := fun W => live10_any W
  have hsm := fun W (hW : Below w.heap.size w W) => small9_any M W (hok.l.below hW)
  have hfd := fun h W (hW : Below w.heap.size w W) => field_any M num t i W (hok.below hW) (small_sm h) hn1 hn2
  have hrf := fun h W (hW : Below w.heap.size w W) => r10field_any M num t i W (hok.below hW) (small_sm h) hn1 hn2
  have hfl := fun h => fld_len (num := num) (t := t) (i := i) hok.n (small_sm h)
  generalize smallB M = sb at *
  generalize fldB M num t i = fb at *
  unfold mvV mvA at *
  generalize M.l.length = len at *
  obtain ⟨fl, hfle⟩ : ∃ n, fb.length = n := ⟨_, rfl⟩
  rw [hfle] at hfd hrf hfl
  obtain ⟨s, hws⟩ : ∃ s, w.heap.size = s := ⟨_, rfl⟩
  rw [hws] at hsm hfd hrf ⊢
  have HLV := hid hlv
  have HSM := hid hsm
  have HFD := hid hfd
  have HRF := hid hrf
  have HFL := hid hfl
  have HFE := hid hfle
  clear hlv hsm hfd hrf hfl hfle hok
  go_enter Try.func5, Try.ntmps5
  go_wp2_with fail
  obtain ⟨W, hW⟩ : ∃ W, (w.alloc (.cells #[.int .u8 (M.k : Int), .int .u64 (M.n0 : Int), .int .u64 (M.n1 : Int), .int .u64 (M.n2 : Int), .int .u64 (M.n3 : Int), .int .u64 (M.n4 : Int), .int .u64 (M.n5 : Int), .string M.s0, .string M.s1, .slice M.A len M.c] 27)).alloc (.cells #[.int .i64 num, .int .i64 t, .int .i64 i] 44) = W := ⟨_, rfl⟩
  have hk0 : Blk W s 27 #[.int .u8 (M.k : Int), .int .u64 (M.n0 : Int), .int .u64 (M.n1 : Int), .int .u64 (M.n2 : Int), .int .u64 (M.n3 : Int), .int .u64 (M.n4 : Int), .int .u64 (M.n5 : Int), .string M.s0, .string M.s1, .slice M.A len M.c] := by rw [← hW, ← hws]; exact (Blk.new w _ _).alloc _
  have hk1 : Blk W (s + 1) 44 #[.int .i64 num, .int .i64 t, .int .i64 i] := by
    have h1 := Blk.new (w.alloc (.cells #[.int .u8 (M.k : Int), .int .u64 (M.n0 : Int), .int .u64 (M.n1 : Int), .int .u64 (M.n2 : Int), .int .u64 (M.n3 : Int), .int .u64 (M.n4 : Int), .int .u64 (M.n5 : Int), .string M.s0, .string M.s1, .slice M.A len M.c] 27)) 44 #[.int .i64 num, .int .i64 t, .int .i64 i]
    rw [World.size_alloc, hws, hW] at h1; exact h1
  have hB : Below s w W := by rw [← hW, ← hws]; exact bw_a (bw_a (Below.refl _ w) _) _
  have hlt := hk1.lt
  rw [hW]
  refine (HLV.out W).mono ?_
  rintro e w1 ⟨rfl, hb1⟩
  have hk0 := hk0.below hb1 (by omega)
  have hk1 := hk1.below hb1 (by omega)
  have hB := hB.trans (hb1.mono (by omega))
  have hlt := hk1.lt
  have c0 := hk0.cell 0
  have c1 := hk0.cell 1
  have c2 := hk0.cell 2
  have c3 := hk0.cell 3
  have c4 := hk0.cell 4
  have c5 := hk0.cell 5
  have c6 := hk0.cell 6
  have c7 := hk0.cell 7
  have c8 := hk0.cell 8
  have c9 := hk0.cell 9
  simp only [List.getElem?_toArray, List.getElem?_cons_zero, List.getElem?_cons_succ] at c0 c1 c2 c3 c4 c5 c6 c7 c8 c9
  have HK0 := hid hk0
  have HK1 := hid hk1
  have HB := hid hB
  clear hW hk0 hk1 hb1 hB
  go_wp2_with fail
  refine (HSM.out _ HB.out).mono ?_
  rintro e w2 ⟨rfl, hb2⟩
  have hk0 := HK0.out.below hb2 (by omega)
  have hk1 := HK1.out.below hb2 (by omega)
  have hB2 := HB.out.trans (hb2.mono (by omega))
  have hlt2 := hk1.lt
  clear c0 c1 c2 c3 c4 c5 c6 c7 c8 c9
  have c0 := hk0.cell 0
  have c1 := hk0.cell 1
  have c2 := hk0.cell 2
  have c3 := hk0.cell 3
  have c4 := hk0.cell 4
  have c5 := hk0.cell 5
  have c6 := hk0.cell 6
  have c7 := hk0.cell 7
  have c8 := hk0.cell 8
  have c9 := hk0.cell 9
  simp only [List.getElem?_toArray, List.getElem?_cons_zero, List.getElem?_cons_succ] at c0 c1 c2 c3 c4 c5 c6 c7 c8 c9
  have d0 := hk1.cell 0
  have d1 := hk1.cell 1
  have d2 := hk1.cell 2
  simp only [List.getElem?_toArray, List.getElem?_cons_zero, List.getElem?_cons_succ] at d0 d1 d2
  have HC := hid (And.intro c0 (And.intro c1 (And.intro c2 (And.intro c3 (And.intro c4 (And.intro c5 (And.intro c6 (And.intro c7 (And.intro c8 (And.intro c9 (And.intro d0 (And.intro d1 d2))))))))))))
  have HB2 := hid hB2
  clear hk0 hk1 hb2 hB2 HK0 HK1
  cases sb with
  | false =>
    go_wp2_with fail
    go_ret
    exact ⟨rfl, HB2.out⟩
  | true =>
    have HF := hid (HFD.out rfl)
    have HR := hid (HRF.out rfl)
    have hfl := HFL.out rfl
    clear HFD HRF HFL
    go_wp2_with fail
    go_region_held3 (fun w' => w'.cell? ⟨s, 0, none⟩ = some (.int .u8 (M.k : Int)) ∧ w'.cell? ⟨s, 1, none⟩ = some (.int .u64 (M.n0 : Int)) ∧ w'.cell? ⟨s, 2, none⟩ = some (.int .u64 (M.n1 : Int)) ∧ w'.cell? ⟨s, 3, none⟩ = some (.int .u64 (M.n2 : Int)) ∧ w'.cell? ⟨s, 4, none⟩ = some (.int .u64 (M.n3 : Int)) ∧ w'.cell? ⟨s, 5, none⟩ = some (.int .u64 (M.n4 : Int)) ∧ w'.cell? ⟨s, 6, none⟩ = some (.int .u64 (M.n5 : Int)) ∧ w'.cell? ⟨s, 7, none⟩ = some (.string M.s0) ∧ w'.cell? ⟨s, 8, none⟩ = some (.string M.s1) ∧ w'.cell? ⟨s, 9, none⟩ = some (.slice M.A len M.c) ∧ w'.cell? ⟨s + 1, 0, none⟩ = some (.int .i64 num) ∧ w'.cell? ⟨s + 1, 1, none⟩ = some (.int .i64 t) ∧ w'.cell? ⟨s + 1, 2, none⟩ = some (.int .i64 i)) (first | exact HC5.out | exact HC4.out | exact HC3.out | exact HC.out | go_keep) (first | (go_at_call 22; refine (HF.out _ (bw_d' HB2.out 1)).mono ?_; rintro e w3 ⟨A3, q3, rfl, hs3, hb3⟩; have HC3 := hid (held13 (w := w2.drewN 1) hb3 HC.out); have hB3 := (bw_d' HB2.out 1).trans (hb3.mono (by have := (bw_d' HB2.out 1).size; simp at *; omega)); have HB3 := hid hB3) | (go_at_call 23; refine (HR.out _ HB3.out).mono ?_; rintro e w4 ⟨A4, q4, rfl, hs4, hb4⟩; have HC4 := hid (held13 hb4 HC3.out); have HB4 := hid (HB3.out.trans (hb4.mono (by have := HB3.out.size; omega))); have HSA := hid (same_self fb fl A3 A4 q3 q4 w4 HFE.out (by omega) (hs3.below hb4).rd hs4.rd)) | (go_at_call 20; refine HSA.out.mono ?_; rintro e w5 ⟨rfl, n5, rfl⟩; have HC5 := hid HC4.out))
    go_wp2_with fail
    go_ret
    exact ⟨rfl, bw_d' HB4.out n5⟩
set_option maxRecDepth 100000 in
set_option maxHeartbeats 8000000 in
theorem encBytes_any (M : MV) (v : Int) (w : World) (hok : MvOk w M) (hv1 : -9223372036854775808 ≤ v) (hv2 : v ≤ 9223372036854775807) : Calls Try.prog 4 #[mvV M, .int .i64 v] w fun e w' => e = .returned (.bool true) ∧ Below w.heap.size w w' := by
  have hlv := fun W => live10_any W
  have hsm := fun W (hW : Below w.heap.size w W) => small9_any M W (hok.l.below hW)
  have hby := fun h W (hW : Below w.heap.size w W) => (ebytes_any M v W (hok.below hW) (small_sm h) hv1 hv2).mono (fun e w' h => bytesR_sl h)
  have hrb := fun h W (hW : Below w.heap.size w W) => (r10bytes_any M v W (hok.below hW) (small_sm h) hv1 hv2).mono (fun e w' h => bytesR_sl h)
  have hez := fun h W (hW : Below w.heap.size w W) => esize_any M v W (hok.below hW) (small_sm h) hv1 hv2
  have hel := fun h => enc_len M v hok.n (small_sm h)
  generalize smallB M = sb at *
  generalize encB M (ofL (M.k : Int) v) = eb at *
  generalize (chkV M (ofL (M.k : Int) v)).1 = E1 at *
  generalize (chkV M (ofL (M.k : Int) v)).2 = E2 at *
  unfold mvV mvA at *
  generalize M.l.length = len at *
  obtain ⟨el, hele⟩ : ∃ n, eb.length = n := ⟨_, rfl⟩
  rw [hele] at hby hrb hez hel
  obtain ⟨s, hws⟩ : ∃ s, w.heap.size = s := ⟨_, rfl⟩
  rw [hws] at hsm hby hrb hez ⊢
  have HLV := hid hlv
  have HSM := hid hsm
  have HBY := hid hby
  have HRB := hid hrb
  have HEZ := hid hez
  have HEL := hid hel
  have HEE := hid hele
  clear hlv hsm hby hrb hez hel hele hok
  go_enter Try.func4, Try.ntmps4
  go_wp2_with fail
  obtain ⟨W, hW⟩ : ∃ W, w.alloc (.cells #[.int .u8 (M.k : Int), .int .u64 (M.n0 : Int), .int .u64 (M.n1 : Int), .int .u64 (M.n2 : Int), .int .u64 (M.n3 : Int), .int .u64 (M.n4 : Int), .int .u64 (M.n5 : Int), .string M.s0, .string M.s1, .slice M.A len M.c] 27) = W := ⟨_, rfl⟩
  have hk0 : Blk W s 27 #[.int .u8 (M.k : Int), .int .u64 (M.n0 : Int), .int .u64 (M.n1 : Int), .int .u64 (M.n2 : Int), .int .u64 (M.n3 : Int), .int .u64 (M.n4 : Int), .int .u64 (M.n5 : Int), .string M.s0, .string M.s1, .slice M.A len M.c] := by rw [← hW, ← hws]; exact Blk.new w _ _
  have hB : Below s w W := by rw [← hW, ← hws]; exact bw_a (Below.refl _ w) _
  have hlt := hk0.lt
  rw [hW]
  refine (HLV.out W).mono ?_
  rintro e w1 ⟨rfl, hb1⟩
  have hk0 := hk0.below hb1 (by omega)
  have hB := hB.trans (hb1.mono (by omega))
  have hlt := hk0.lt
  have c0 := hk0.cell 0
  have c1 := hk0.cell 1
  have c2 := hk0.cell 2
  have c3 := hk0.cell 3
  have c4 := hk0.cell 4
  have c5 := hk0.cell 5
  have c6 := hk0.cell 6
  have c7 := hk0.cell 7
  have c8 := hk0.cell 8
  have c9 := hk0.cell 9
  simp only [List.getElem?_toArray, List.getElem?_cons_zero, List.getElem?_cons_succ] at c0 c1 c2 c3 c4 c5 c6 c7 c8 c9
  have HK0 := hid hk0
  have HB := hid hB
  clear hW hk0 hb1 hB
  go_wp2_with fail
  refine (HSM.out _ HB.out).mono ?_
  rintro e w2 ⟨rfl, hb2⟩
  have hk0 := HK0.out.below hb2 (by omega)
  have hB2 := HB.out.trans (hb2.mono (by omega))
  have hlt2 := hk0.lt
  clear c0 c1 c2 c3 c4 c5 c6 c7 c8 c9
  have c0 := hk0.cell 0
  have c1 := hk0.cell 1
  have c2 := hk0.cell 2
  have c3 := hk0.cell 3
  have c4 := hk0.cell 4
  have c5 := hk0.cell 5
  have c6 := hk0.cell 6
  have c7 := hk0.cell 7
  have c8 := hk0.cell 8
  have c9 := hk0.cell 9
  simp only [List.getElem?_toArray, List.getElem?_cons_zero, List.getElem?_cons_succ] at c0 c1 c2 c3 c4 c5 c6 c7 c8 c9
  have HK2 := hid hk0
  have HB2 := hid hB2
  clear hk0 hb2 hB2 HK0
  cases sb with
  | false =>
    go_wp2_with fail
    go_ret
    exact ⟨rfl, HB2.out⟩
  | true =>
    have HF := hid (HBY.out rfl)
    have HR := hid (HRB.out rfl)
    have HZ := hid (HEZ.out rfl)
    have hell := HEL.out rfl
    clear HBY HRB HEZ HEL
    go_wp2_with fail
    refine (HF.out _ HB2.out).mono ?_
    rintro e w3 ⟨A3, q3, rfl, hs3, -, hb3⟩
    have hk3 := HK2.out.below hb3 hlt2
    have HK3 := hid hk3
    have HB3 := hid (HB2.out.trans (hb3.mono (by omega)))
    have HS3 := hid hs3
    have hl3 := hk3.lt
    have hl31 : s < w3.heap.size + 1 := by omega
    clear hs3 hb3 c0 c1 c2 c3 c4 c5 c6 c7 c8 c9
    have c0 := hk3.cell 0
    have c1 := hk3.cell 1
    have c2 := hk3.cell 2
    have c3 := hk3.cell 3
    have c4 := hk3.cell 4
    have c5 := hk3.cell 5
    have c6 := hk3.cell 6
    have c7 := hk3.cell 7
    have c8 := hk3.cell 8
    have c9 := hk3.cell 9
    simp only [List.getElem?_toArray, List.getElem?_cons_zero, List.getElem?_cons_succ] at c0 c1 c2 c3 c4 c5 c6 c7 c8 c9
    clear hk3
    go_wp2_with fail
    refine (HR.out _ (HB3.out.trans ((bw_a (Below.refl _ w3) _).mono (by omega)))).mono ?_
    rintro e w4 ⟨A4, q4, rfl, hs4, -, hb4⟩
    have hb34 := bw_t (bw_a (Below.refl _ w3) (.cells #[.int .i64 E1, .int .i64 E2] 37)) hb4
    have hf4 := (Blk.new w3 37 #[.int .i64 E1, .int .i64 E2]).below hb4 (by simp)
    have hk4 := HK3.out.below hb34 hl3
    have HB4 := hid (HB3.out.trans (hb34.mono (by omega)))
    have HSA := hid (same_self eb el A3 A4 q3 q4 (w4.alloc (.cells #[.int .i64 E1, .int .i64 E2] 37)) HEE.out (by omega) ((HS3.out.below hb34).below (bw_a (Below.refl _ w4) _)).rd (hs4.below (bw_a (Below.refl _ w4) _)).rd)
    have hl4 := hk4.lt
    have hl41 : s < w4.heap.size + 1 := by omega
    have hg4 := hf4.lt
    have hg41 : w3.heap.size < w4.heap.size + 1 := by omega
    have HK4 := hid hk4
    clear hs4 hb4 c0 c1 c2 c3 c4 c5 c6 c7 c8 c9
    have d0 := hf4.cell 0
    have d1 := hf4.cell 1
    simp only [List.getElem?_toArray, List.getElem?_cons_zero, List.getElem?_cons_succ] at d0 d1
    clear hf4 hk4 hb34
    go_wp2_with fail
    refine HSA.out.mono ?_
    rintro e w5 ⟨rfl, n5, rfl⟩
    have hk5 := HK4.out.alloc (.cells #[.int .i64 E1, .int .i64 E2] 37)
    have HB5 := hid (HB4.out.trans ((bw_a (Below.refl _ w4) (.cells #[.int .i64 E1, .int .i64 E2] 37)).mono (by omega)))
    obtain ⟨W5, hW5⟩ : ∃ W5, w4.alloc (.cells #[.int .i64 E1, .int .i64 E2] 37) = W5 := ⟨_, rfl⟩
    rw [hW5] at hk5 HB5 ⊢
    have c0 := hk5.cell 0
    have c1 := hk5.cell 1
    have c2 := hk5.cell 2
    have c3 := hk5.cell 3
    have c4 := hk5.cell 4
    have c5 := hk5.cell 5
    have c6 := hk5.cell 6
    have c7 := hk5.cell 7
    have c8 := hk5.cell 8
    have c9 := hk5.cell 9
    simp only [List.getElem?_toArray, List.getElem?_cons_zero, List.getElem?_cons_succ] at c0 c1 c2 c3 c4 c5 c6 c7 c8 c9
    clear hk5 hW5
    go_wp2_with fail
    refine (HZ.out _ (bw_d' HB5.out n5)).mono ?_
    rintro e w6 ⟨rfl, hb6⟩
    have HB6 := hid ((bw_d' HB5.out n5).trans (hb6.mono (by have := (bw_d' HB5.out n5).size; omega)))
    clear hb6 c0 c1 c2 c3 c4 c5 c6 c7 c8 c9
    go_wp2_with fail
    go_ret
    exact ⟨by first | rfl | exact ret_bool (by simp), HB6.out⟩
end Go.Proofs.Ytehjibbjkadoiaa
