/- The walk of WholeParts. -/
import Derived.Test.YtehjibbjkadoiaaLaw10A
set_option linter.unusedVariables false
namespace Go.Proofs.Ytehjibbjkadoiaa
open Go.RowKit
def RW (sB b off nL c j bl : Nat) (mv spv ov : Value) (bs fb : List UInt8) (a0 : Act) (w0 : World) (f : Nat → Bool) (a : Act) (w : World) : Prop := ∃ x0 x1 x2 x3 x4 x5 x6 x7 x8 : Value, a = (((((((((a0.put (some 43) x0).put (some 44) x1).put (some 45) x2).put (some 46) x3).put (some 47) x4).put (some 48) x5).put (some 49) x6).put (some 50) x7).put (some 7) x8) ∧ (f 0 = true → x0 = ov) ∧ (f 1 = true → x1 = mv) ∧ (f 2 = true → x2 = .slice (some ⟨b, off, none⟩) nL c) ∧ (f 3 = true → x3 = .int .i64 (j : Int)) ∧ (f 4 = true → x4 = .pointer (some ⟨b, off + j * 3, none⟩)) ∧ (f 5 = true → x5 = spv) ∧ (f 6 = true → f 7 = false → ∃ A q, x6 = .slice A fb.length q ∧ Sl w A q (fb.map bv)) ∧ (f 7 = true → ∃ A q, x7 = .slice A (bl + fb.length) q ∧ w.ownsRow sB 5 1 (.slice A (bl + fb.length) q) (bl + fb.length) ((bs ++ fb).map bv)) ∧ (f 8 = true → ∃ A q, x8 = .slice A (bl + fb.length) q ∧ w.ownsRow sB 5 1 (.slice A (bl + fb.length) q) (bl + fb.length) ((bs ++ fb).map bv)) ∧ (f 7 = false → w.ownsRow sB 5 1 ov bl (bs.map bv)) ∧ (f 8 = true → f 7 = true) ∧ (f 7 = true → f 0 = true) ∧ (f 8 = false → x8 = ov) ∧ Below sB w0 w
theorem held12' {w w' : World} (hc : Below w.heap.size w w') {s q : Nat} {x0 x1 x2 x3 x4 x5 x6 x7 x8 x9 y0 y1 : Value} (h : w.cell? ⟨s, 0, none⟩ = some x0 ∧ w.cell? ⟨s, 1, none⟩ = some x1 ∧ w.cell? ⟨s, 2, none⟩ = some x2 ∧ w.cell? ⟨s, 3, none⟩ = some x3 ∧ w.cell? ⟨s, 4, none⟩ = some x4 ∧ w.cell? ⟨s, 5, none⟩ = some x5 ∧ w.cell? ⟨s, 6, none⟩ = some x6 ∧ w.cell? ⟨s, 7, none⟩ = some x7 ∧ w.cell? ⟨s, 8, none⟩ = some x8 ∧ w.cell? ⟨s, 9, none⟩ = some x9 ∧ w.cell? ⟨q, 0, none⟩ = some y0 ∧ w.cell? ⟨q, 1, none⟩ = some y1) : w'.cell? ⟨s, 0, none⟩ = some x0 ∧ w'.cell? ⟨s, 1, none⟩ = some x1 ∧ w'.cell? ⟨s, 2, none⟩ = some x2 ∧ w'.cell? ⟨s, 3, none⟩ = some x3 ∧ w'.cell? ⟨s, 4, none⟩ = some x4 ∧ w'.cell? ⟨s, 5, none⟩ = some x5 ∧ w'.cell? ⟨s, 6, none⟩ = some x6 ∧ w'.cell? ⟨s, 7, none⟩ = some x7 ∧ w'.cell? ⟨s, 8, none⟩ = some x8 ∧ w'.cell? ⟨s, 9, none⟩ = some x9 ∧ w'.cell? ⟨q, 0, none⟩ = some y0 ∧ w'.cell? ⟨q, 1, none⟩ = some y1 := by
  obtain ⟨h0, h1, h2, h3, h4, h5, h6, h7, h8, h9, g0, g1⟩ := h
  have f : ∀ (p : Addr) (x : Value), w.cell? p = some x → w'.cell? p = some x := fun p x h => (hc.cell (World.block_lt_of_cell? w p h)).trans h
  exact ⟨f _ _ h0, f _ _ h1, f _ _ h2, f _ _ h3, f _ _ h4, f _ _ h5, f _ _ h6, f _ _ h7, f _ _ h8, f _ _ h9, f _ _ g0, f _ _ g1⟩
set_option maxRecDepth 100000 in
set_option maxHeartbeats 8000000 in
theorem wholeParts_any (M : MV) (v : Int) (w : World) (hok : MvOk w M) (hv1 : -9223372036854775808 ≤ v) (hv2 : v ≤ 9223372036854775807) : Calls Try.prog 9 #[mvV M, .int .i64 v] w fun e w' => e = .returned (.bool true) ∧ Below w.heap.size w w' := by
  obtain ⟨i5, hi5, hi50, hi51, hi52⟩ := info_parts Try.info5
  have hlv := fun W => awake5_any W
  have hsm := fun W (hW : Below w.heap.size w W) => small9_any M W (hok.l.below hW)
  have hby := fun h W (hW : Below w.heap.size w W) => (ebytes_any M v W (hok.below hW) (small_sm h) hv1 hv2).mono (fun e w' h => bytesR_sl h)
  have hck := fun W (hW : Below w.heap.size w W) => vcheck_any M v W (hok.below hW) hv1 hv2
  have hez := fun h W (hW : Below w.heap.size w W) => esize_any M v W (hok.below hW) (small_sm h) hv1 hv2
  have hel := fun h => enc_len M v hok.n (small_sm h)
  have hfd := fun h (nu ty sl : Nat) W (hW : Below w.heap.size w W) h1 => field_any M nu ty sl W (hok.below hW) (small_sm h) (by omega) h1
  have hfl := fun h r => fld_len (num := (SRow.num r : Nat)) (t := (SRow.typ r : Nat)) (i := (SRow.slot r : Nat)) hok.n (small_sm h)
  have hsof := fun W => ((callsIn_wide (n := 4)).1 (sof2_in 4 (by omega) (M.k : Int) v W hv1 hv2))
  have hq7 := ofL_le7 M.k v
  have hmem := fun r (h : r ∈ ofL (M.k : Int) v) => row_ok (ofL_mem _ _ h)
  have hE : encB M (ofL (M.k : Int) v) = if (chkV M (ofL (M.k : Int) v)).1 = 0 then (ofL (M.k : Int) v).flatMap (fldR M) else [] := rfl
  generalize smallB M = sb at *
  generalize encB M (ofL (M.k : Int) v) = eb at *
  generalize ofL (M.k : Int) v = L at *
  unfold FltOf at hck
  generalize (chkV M L).1 = E1 at *
  generalize (chkV M L).2 = E2 at *
  unfold mvV mvA at *
  generalize M.l.length = len at *
  obtain ⟨el, hele⟩ : ∃ n, eb.length = n := ⟨_, rfl⟩
  rw [hele] at hby hez hel
  obtain ⟨nL, hnL⟩ : ∃ n, L.length = n := ⟨_, rfl⟩
  rw [hnL] at hsof hq7
  obtain ⟨s, hws⟩ : ∃ s, w.heap.size = s := ⟨_, rfl⟩
  rw [hws] at hsm hby hck hez hfd ⊢
  have HLV := hid hlv
  have HSM := hid hsm
  have HBY := hid hby
  have HCK := hid hck
  have HEZ := hid hez
  have HEL := hid hel
  have HEE := hid hele
  have HFD := hid hfd
  have HFL := hid hfl
  have HSOF := hid hsof
  have HNL := hid hnL
  have HMEM := hid hmem
  have HE := hid hE
  clear hlv hsm hby hck hez hel hele hok hfd hfl hsof hnL hmem hE
  go_enter Try.func9, Try.ntmps9
  go_wp2_with fail
  obtain ⟨W, hW⟩ : ∃ W, w.alloc (.cells #[.int .u8 (M.k : Int), .int .u64 (M.n0 : Int), .int .u64 (M.n1 : Int), .int .u64 (M.n2 : Int), .int .u64 (M.n3 : Int), .int .u64 (M.n4 : Int), .int .u64 (M.n5 : Int), .string M.s0, .string M.s1, .slice M.A len M.c] 27) = W := ⟨_, rfl⟩
  have hk0 : Blk W s 27 #[.int .u8 (M.k : Int), .int .u64 (M.n0 : Int), .int .u64 (M.n1 : Int), .int .u64 (M.n2 : Int), .int .u64 (M.n3 : Int), .int .u64 (M.n4 : Int), .int .u64 (M.n5 : Int), .string M.s0, .string M.s1, .slice M.A len M.c] := by rw [← hW, ← hws]; exact Blk.new w _ _
  have hB : Below s w W := by rw [← hW, ← hws]; exact bw_a (Below.refl _ w) _
  have hlt := hk0.lt
  rw [hW]
  refine (HLV.out W).mono ?_
  rintro e w1 ⟨rfl, hb1⟩
  have hk0 := hk0.below hb1 (by omega)
  have hB := hB.trans (hb1.mono (by omega))
  have hlt := hk0.lt
  have c0 := hk0.cell 0
  have c1 := hk0.cell 1
  have c2 := hk0.cell 2
  have c3 := hk0.cell 3
  have c4 := hk0.cell 4
  have c5 := hk0.cell 5
  have c6 := hk0.cell 6
  have c7 := hk0.cell 7
  have c8 := hk0.cell 8
  have c9 := hk0.cell 9
  simp only [List.getElem?_toArray, List.getElem?_cons_zero, List.getElem?_cons_succ] at c0 c1 c2 c3 c4 c5 c6 c7 c8 c9
  have HK0 := hid hk0
  have HB := hid hB
  clear hW hk0 hb1 hB
  go_wp2_with fail
  refine (HSM.out _ HB.out).mono ?_
  rintro e w2 ⟨rfl, hb2⟩
  have hk0 := HK0.out.below hb2 (by omega)
  have hB2 := HB.out.trans (hb2.mono (by omega))
  have hlt2 := hk0.lt
  clear c0 c1 c2 c3 c4 c5 c6 c7 c8 c9
  have c0 := hk0.cell 0
  have c1 := hk0.cell 1
  have c2 := hk0.cell 2
  have c3 := hk0.cell 3
  have c4 := hk0.cell 4
  have c5 := hk0.cell 5
  have c6 := hk0.cell 6
  have c7 := hk0.cell 7
  have c8 := hk0.cell 8
  have c9 := hk0.cell 9
  simp only [List.getElem?_toArray, List.getElem?_cons_zero, List.getElem?_cons_succ] at c0 c1 c2 c3 c4 c5 c6 c7 c8 c9
  have HK2 := hid hk0
  have HB2 := hid hB2
  clear hk0 hb2 hB2 HK0
  cases sb with
  | false =>
    go_wp2_with fail
    go_ret
    exact ⟨rfl, HB2.out⟩
  | true =>
    have HF := hid (HBY.out rfl)
    have HZ := hid (HEZ.out rfl)
    have hell := HEL.out rfl
    have HFDT := hid (HFD.out rfl)
    have HFLT := hid (HFL.out rfl)
    clear HBY HEZ HEL HFD HFL
    go_wp2_with fail
    refine (HF.out _ HB2.out).mono ?_
    rintro e w3 ⟨A3, q3, rfl, hs3, -, hb3⟩
    have hk3 := HK2.out.below hb3 hlt2
    have HB3 := hid (HB2.out.trans (hb3.mono (by omega)))
    have hl3 := hk3.lt
    have hka := hk3.alloc (.cells #[.int .i64 E1, .int .i64 E2] 37)
    have hkf := Blk.new w3 37 #[.int .i64 E1, .int .i64 E2]
    have hs3a := hs3.below (bw_a (Below.refl _ w3) (.cells #[.int .i64 E1, .int .i64 E2] 37))
    have hb3a := HB3.out.trans ((bw_a (Below.refl _ w3) (.cells #[.int .i64 E1, .int .i64 E2] 37)).mono (show s ≤ w3.heap.size by omega))
    clear hs3 hb3 c0 c1 c2 c3 c4 c5 c6 c7 c8 c9 hk3
    have c0 := hka.cell 0
    have c1 := hka.cell 1
    have c2 := hka.cell 2
    have c3 := hka.cell 3
    have c4 := hka.cell 4
    have c5 := hka.cell 5
    have c6 := hka.cell 6
    have c7 := hka.cell 7
    have c8 := hka.cell 8
    have c9 := hka.cell 9
    simp only [List.getElem?_toArray, List.getElem?_cons_zero, List.getElem?_cons_succ] at c0 c1 c2 c3 c4 c5 c6 c7 c8 c9
    have d0 := hkf.cell 0
    have d1 := hkf.cell 1
    simp only [List.getElem?_toArray, List.getElem?_cons_zero, List.getElem?_cons_succ] at d0 d1
    have hlf := hkf.lt
    have hla := hka.lt
    have HKA := hid hka
    have HKF := hid hkf
    have HS3 := hid hs3a
    have HB3A := hid hb3a
    clear hka hkf hs3a hb3a
    by_cases he : E1 = 0
    · have hE := HE.out
      rw [if_pos he] at hE
      subst he
      have HE2 := hid hE
      clear hE HE
      go_wp2_with fail
      refine (HSOF.out _).mono ?_
      rintro e w4 ⟨vv, rfl, ho4, hb4⟩
      obtain ⟨A4, q4, rfl, hs4⟩ := SlN.of_own (by omega) ho4
      have hk4 := HKA.out.below hb4 hla
      have HS34 := hid (HS3.out.below hb4)
      have HB4 := hid (HB3A.out.trans (hb4.mono (by omega)))
      have hl4 := hk4.lt
      have hsz4 : s ≤ w4.heap.size := by omega
      have HK4 := hid hk4
      have HSL := hid hs4
      clear ho4 hb4 hk4 hs4 c0 c1 c2 c3 c4 c5 c6 c7 c8 c9 d0 d1 HCK HKF HKA
      go_wp2_with fail
      go_loopw [7, 10] (fun ov ix wz => ∃ (j bl : Nat) (bs : List UInt8) (Ao : Option Addr) (co : Nat), j ≤ nL ∧ ix = .int .i64 (j : Int) ∧ ov = .slice Ao bl co ∧ bs = (L.take j).flatMap (fldR M) ∧ bs.length = bl ∧ wz.ownsRow w4.heap.size 5 1 (.slice Ao bl co) bl (bs.map bv) ∧ Below w4.heap.size w4 wz) (fun _ ix _ => nL - (intOf ix).toNat)
      case atStart => exact ⟨0, 0, [], none, 0, by omega, rfl, rfl, rfl, rfl, World.ownsRow_nil _ _ _ _, Below.refl _ _⟩
      case round =>
        obtain ⟨j, bl, bs, Ao, co, hj, rfl, rfl, hbs, hbl, ho, hB⟩ := hrel
        by_cases hlt : j < nL
        · have hjl : j < L.length := by have := HNL.out; omega
          have hn0' : (L.flatMap specC)[j * 3 + 0]? = _ := flatMap_get specC 3 L j 0 hjl (fun _ _ => rfl) (by omega)
          have hn1' : (L.flatMap specC)[j * 3 + 1]? = _ := flatMap_get specC 3 L j 1 hjl (fun _ _ => rfl) (by omega)
          have hn2' : (L.flatMap specC)[j * 3 + 2]? = _ := flatMap_get specC 3 L j 2 hjl (fun _ _ => rfl) (by omega)
          obtain ⟨b, off, hA, hbw, t0⟩ := HSL.out.rd _ _ hn0'
          subst hA
          have t1 := HSL.out.rd.addr _ _ hn1'
          have t2 := HSL.out.rd.addr _ _ hn2'
          rw [addr_add] at t1 t2
          simp only [Nat.add_zero, ← Nat.add_assoc] at t0 t1 t2
          have t0 := (hB.cell (p := ⟨b, off + j * 3, none⟩) hbw).trans t0
          have t1 := (hB.cell (p := ⟨b, off + j * 3 + 1, none⟩) hbw).trans t1
          have t2 := (hB.cell (p := ⟨b, off + j * 3 + 2, none⟩) hbw).trans t2
          have hji : (j : Int) < (nL : Int) := by omega
          have hj0 : (0 : Int) ≤ (j : Int) := by omega
          have htk := take_fm M L j L[j] (List.getElem?_eq_getElem hjl)
          rw [← hbs] at htk
          have hro := HMEM.out _ (List.getElem_mem hjl)
          have hbl2 : bl ≤ 810000 * 7 := by
            have h1 := fm_len (fldR M) 810000 (L.take j) (fun x _ => HFLT.out x)
            have h2 : (L.take j).length ≤ 7 := by rw [List.length_take]; have := HNL.out; omega
            have h3 : 810000 * (L.take j).length ≤ 810000 * 7 := Nat.mul_le_mul_left _ h2
            rw [← hbs, hbl] at h1
            omega
          have hfl2 : (fldR M L[j]).length ≤ 810000 := HFLT.out L[j]
          have hfd := fun W hW => HFDT.out L[j].num L[j].typ L[j].slot W hW (by omega)
          have hfe : fldB M (L[j].num : Nat) (L[j].typ : Nat) (L[j].slot : Nat) = fldR M L[j] := rfl
          rw [hfe] at hfd
          have hcc : nL ≤ q4 := HSL.out.cap
          have hcs : q4 ≤ 9223372036854775807 := HSL.out.small
          clear hn0' hn1' hn2' hfe hro
          generalize L[j] = r at *
          obtain ⟨rk, si, nu, ty, sl⟩ := r
          simp only at t0 t1 t2 hfd
          generalize fldR M ⟨rk, si, nu, ty, sl⟩ = fb at *
          have hk4 := HK4.out.below hB hl4
          have hl5 := hk4.lt
          have hbs0 : b < w4.heap.size := hbw
          have hsBr : w4.heap.size ≤ wr.heap.size := hB.size
          have HT := hid (And.intro t0 (And.intro t1 t2))
          have HKL := hid hk4
          have HSB := hid (HB4.out.trans (hB.mono hsz4))
          have HBR := hid hB
          have HFJ := hid hfd
          have HTK := hid htk
          have HBL := hid hbl
          have HOW := hid ho
          clear t0 t1 t2 hk4 hfd htk hbl ho hbs hB
          go_wp2_with fail
          refine wp_region_inv (by kernel_rfl) (by kernel_rfl) (RW w4.heap.size b off nL q4 j bl (.agg #[.int .u8 (M.k : Int), .int .u64 (M.n0 : Int), .int .u64 (M.n1 : Int), .int .u64 (M.n2 : Int), .int .u64 (M.n3 : Int), .int .u64 (M.n4 : Int), .int .u64 (M.n5 : Int), .string M.s0, .string M.s1, .slice M.A len M.c]) (.agg #[.int .i64 (nu : Int), .int .i64 (ty : Int), .int .i64 (sl : Int)]) (.slice Ao bl co) bs fb) ?_ ?_ ?_
          · exact ⟨u43, u44, u45, u46, u47, u48, u49, u50, .slice Ao bl co, (by simp only [Act.put, List.setIfInBounds_toArray, List.set_cons_succ, List.set_cons_zero]), by simp, by simp, by simp, by simp, by simp, by simp, by simp, by simp, by simp, fun _ => HOW.out, by simp, by simp, fun _ => rfl, ⟨rfl, rfl, rfl, Nat.le_refl _, fun _ _ => rfl⟩⟩
          · intro f a' wx i o ho hf hdep hI
            have hi : i < 9 := (Array.getElem?_eq_some_iff.1 ho).1
            have hcase : i = 0 ∨ i = 1 ∨ i = 2 ∨ i = 3 ∨ i = 4 ∨ i = 5 ∨ i = 6 ∨ i = 7 ∨ i = 8 := by omega
            clear hi
            rcases hcase with rfl | rfl | rfl | rfl | rfl | rfl | rfl | rfl | rfl
            all_goals
              simp only [List.getElem?_toArray, List.getElem?_cons_zero, List.getElem?_cons_succ, Option.some.injEq] at ho
              subst ho
            · -- 0
              obtain ⟨x0, x1, x2, x3, x4, x5, x6, x7, x8, rfl, h0, h1, h2, h3, h4, h5, h6, h7, h8, h9, h10, h11, h12, hB⟩ := hI
              have hf8 : f 8 = false := (by cases hx : f 8 with | false => rfl | true => (have := h11 (h10 hx); rw [hf] at this; cases this))
              obtain rfl := h12 hf8
              have H0 := hid h0; have H1 := hid h1; have H2 := hid h2; have H3 := hid h3; have H4 := hid h4; have H5 := hid h5; have H6 := hid h6; have H7 := hid h7; have H8 := hid h8; have H9 := hid h9; have H10 := hid h10; have H11 := hid h11; have H12 := hid h12; have HB := hid hB
              clear h0 h1 h2 h3 h4 h5 h6 h7 h8 h9 h10 h11 h12 hB
              simp only [Act.put, List.setIfInBounds_toArray, List.set_cons_succ, List.set_cons_zero]
              go_wp2_with fail
              have h0 := H0.out; have h1 := H1.out; have h2 := H2.out; have h3 := H3.out; have h4 := H4.out; have h5 := H5.out; have h6 := H6.out; have h7 := H7.out; have h8 := H8.out; have h9 := H9.out; have h10 := H10.out; have h11 := H11.out; have h12 := H12.out; have hB := HB.out
              exact ⟨_, x1, x2, x3, x4, x5, x6, x7, _, (by simp only [Act.put, List.setIfInBounds_toArray, List.set_cons_succ, List.set_cons_zero]), fun _ => rfl, (fun h => h1 (by simpa using h)), (fun h => h2 (by simpa using h)), (fun h => h3 (by simpa using h)), (fun h => h4 (by simpa using h)), (fun h => h5 (by simpa using h)), (fun h h' => h6 (by simpa using h) (by simpa using h')), (fun h => h7 (by simpa using h)), (fun h => by simp [hf8] at h), (fun h => h9 (by simpa using h)), (fun h => by have := h10 (by simpa using h); simpa using this), (fun h => by simp), (fun _ => rfl), hB⟩
            · -- 1
              obtain ⟨x0, x1, x2, x3, x4, x5, x6, x7, x8, rfl, h0, h1, h2, h3, h4, h5, h6, h7, h8, h9, h10, h11, h12, hB⟩ := hI
              have hkm := HKL.out.below hB (by omega)
              have c0 := hkm.cell 0
              have c1 := hkm.cell 1
              have c2 := hkm.cell 2
              have c3 := hkm.cell 3
              have c4 := hkm.cell 4
              have c5 := hkm.cell 5
              have c6 := hkm.cell 6
              have c7 := hkm.cell 7
              have c8 := hkm.cell 8
              have c9 := hkm.cell 9
              simp only [List.getElem?_toArray, List.getElem?_cons_zero, List.getElem?_cons_succ] at c0 c1 c2 c3 c4 c5 c6 c7 c8 c9
              clear hkm
              have H0 := hid h0; have H1 := hid h1; have H2 := hid h2; have H3 := hid h3; have H4 := hid h4; have H5 := hid h5; have H6 := hid h6; have H7 := hid h7; have H8 := hid h8; have H9 := hid h9; have H10 := hid h10; have H11 := hid h11; have H12 := hid h12; have HB := hid hB
              clear h0 h1 h2 h3 h4 h5 h6 h7 h8 h9 h10 h11 h12 hB
              simp only [Act.put, List.setIfInBounds_toArray, List.set_cons_succ, List.set_cons_zero]
              go_wp2_with fail
              have h0 := H0.out; have h1 := H1.out; have h2 := H2.out; have h3 := H3.out; have h4 := H4.out; have h5 := H5.out; have h6 := H6.out; have h7 := H7.out; have h8 := H8.out; have h9 := H9.out; have h10 := H10.out; have h11 := H11.out; have h12 := H12.out; have hB := HB.out
              exact ⟨x0, _, x2, x3, x4, x5, x6, x7, x8, (by simp only [Act.put, List.setIfInBounds_toArray, List.set_cons_succ, List.set_cons_zero]), (fun h => h0 (by simpa using h)), fun _ => rfl, (fun h => h2 (by simpa using h)), (fun h => h3 (by simpa using h)), (fun h => h4 (by simpa using h)), (fun h => h5 (by simpa using h)), (fun h h' => h6 (by simpa using h) (by simpa using h')), (fun h => h7 (by simpa using h)), (fun h => h8 (by simpa using h)), (fun h => h9 (by simpa using h)), (fun h => by have := h10 (by simpa using h); simpa using this), (fun h => by have := h11 (by simpa using h); simpa using this), (fun h => h12 (by simpa using h)), hB⟩
            · -- 2
              obtain ⟨x0, x1, x2, x3, x4, x5, x6, x7, x8, rfl, h0, h1, h2, h3, h4, h5, h6, h7, h8, h9, h10, h11, h12, hB⟩ := hI
              have H0 := hid h0; have H1 := hid h1; have H2 := hid h2; have H3 := hid h3; have H4 := hid h4; have H5 := hid h5; have H6 := hid h6; have H7 := hid h7; have H8 := hid h8; have H9 := hid h9; have H10 := hid h10; have H11 := hid h11; have H12 := hid h12; have HB := hid hB
              clear h0 h1 h2 h3 h4 h5 h6 h7 h8 h9 h10 h11 h12 hB
              simp only [Act.put, List.setIfInBounds_toArray, List.set_cons_succ, List.set_cons_zero]
              go_wp2_with fail
              have h0 := H0.out; have h1 := H1.out; have h2 := H2.out; have h3 := H3.out; have h4 := H4.out; have h5 := H5.out; have h6 := H6.out; have h7 := H7.out; have h8 := H8.out; have h9 := H9.out; have h10 := H10.out; have h11 := H11.out; have h12 := H12.out; have hB := HB.out
              exact ⟨x0, x1, _, x3, x4, x5, x6, x7, x8, (by simp only [Act.put, List.setIfInBounds_toArray, List.set_cons_succ, List.set_cons_zero]), (fun h => h0 (by simpa using h)), (fun h => h1 (by simpa using h)), fun _ => rfl, (fun h => h3 (by simpa using h)), (fun h => h4 (by simpa using h)), (fun h => h5 (by simpa using h)), (fun h h' => h6 (by simpa using h) (by simpa using h')), (fun h => h7 (by simpa using h)), (fun h => h8 (by simpa using h)), (fun h => h9 (by simpa using h)), (fun h => by have := h10 (by simpa using h); simpa using this), (fun h => by have := h11 (by simpa using h); simpa using this), (fun h => h12 (by simpa using h)), hB⟩
            · -- 3
              obtain ⟨x0, x1, x2, x3, x4, x5, x6, x7, x8, rfl, h0, h1, h2, h3, h4, h5, h6, h7, h8, h9, h10, h11, h12, hB⟩ := hI
              have H0 := hid h0; have H1 := hid h1; have H2 := hid h2; have H3 := hid h3; have H4 := hid h4; have H5 := hid h5; have H6 := hid h6; have H7 := hid h7; have H8 := hid h8; have H9 := hid h9; have H10 := hid h10; have H11 := hid h11; have H12 := hid h12; have HB := hid hB
              clear h0 h1 h2 h3 h4 h5 h6 h7 h8 h9 h10 h11 h12 hB
              simp only [Act.put, List.setIfInBounds_toArray, List.set_cons_succ, List.set_cons_zero]
              go_wp2_with fail
              have h0 := H0.out; have h1 := H1.out; have h2 := H2.out; have h3 := H3.out; have h4 := H4.out; have h5 := H5.out; have h6 := H6.out; have h7 := H7.out; have h8 := H8.out; have h9 := H9.out; have h10 := H10.out; have h11 := H11.out; have h12 := H12.out; have hB := HB.out
              exact ⟨x0, x1, x2, _, x4, x5, x6, x7, x8, (by simp only [Act.put, List.setIfInBounds_toArray, List.set_cons_succ, List.set_cons_zero]), (fun h => h0 (by simpa using h)), (fun h => h1 (by simpa using h)), (fun h => h2 (by simpa using h)), fun _ => rfl, (fun h => h4 (by simpa using h)), (fun h => h5 (by simpa using h)), (fun h h' => h6 (by simpa using h) (by simpa using h')), (fun h => h7 (by simpa using h)), (fun h => h8 (by simpa using h)), (fun h => h9 (by simpa using h)), (fun h => by have := h10 (by simpa using h); simpa using this), (fun h => by have := h11 (by simpa using h); simpa using this), (fun h => h12 (by simpa using h)), hB⟩
            · -- 4
              obtain ⟨x0, x1, x2, x3, x4, x5, x6, x7, x8, rfl, h0, h1, h2, h3, h4, h5, h6, h7, h8, h9, h10, h11, h12, hB⟩ := hI
              simp [Region.binds] at hdep
              obtain rfl := h2 (by first | exact hdep | exact hdep.1 | exact hdep.2 | exact hdep.2.1 | exact hdep.2.2 | exact hdep.2.2.1 | exact hdep.2.2.2 | simp_all)
              obtain rfl := h3 (by first | exact hdep | exact hdep.1 | exact hdep.2 | exact hdep.2.1 | exact hdep.2.2 | exact hdep.2.2.1 | exact hdep.2.2.2 | simp_all)
              have H0 := hid h0; have H1 := hid h1; have H2 := hid h2; have H3 := hid h3; have H4 := hid h4; have H5 := hid h5; have H6 := hid h6; have H7 := hid h7; have H8 := hid h8; have H9 := hid h9; have H10 := hid h10; have H11 := hid h11; have H12 := hid h12; have HB := hid hB
              clear h0 h1 h2 h3 h4 h5 h6 h7 h8 h9 h10 h11 h12 hB
              simp only [Act.put, List.setIfInBounds_toArray, List.set_cons_succ, List.set_cons_zero]
              go_wp2_with fail
              have h0 := H0.out; have h1 := H1.out; have h2 := H2.out; have h3 := H3.out; have h4 := H4.out; have h5 := H5.out; have h6 := H6.out; have h7 := H7.out; have h8 := H8.out; have h9 := H9.out; have h10 := H10.out; have h11 := H11.out; have h12 := H12.out; have hB := HB.out
              exact ⟨x0, x1, _, _, _, x5, x6, x7, x8, (by simp only [Act.put, List.setIfInBounds_toArray, List.set_cons_succ, List.set_cons_zero]), (fun h => h0 (by simpa using h)), (fun h => h1 (by simpa using h)), (fun _ => rfl), (fun _ => rfl), fun _ => rfl, (fun h => h5 (by simpa using h)), (fun h h' => h6 (by simpa using h) (by simpa using h')), (fun h => h7 (by simpa using h)), (fun h => h8 (by simpa using h)), (fun h => h9 (by simpa using h)), (fun h => by have := h10 (by simpa using h); simpa using this), (fun h => by have := h11 (by simpa using h); simpa using this), (fun h => h12 (by simpa using h)), hB⟩
            · -- 5
              obtain ⟨x0, x1, x2, x3, x4, x5, x6, x7, x8, rfl, h0, h1, h2, h3, h4, h5, h6, h7, h8, h9, h10, h11, h12, hB⟩ := hI
              simp [Region.binds] at hdep
              obtain rfl := h4 (by first | exact hdep | exact hdep.1 | exact hdep.2 | exact hdep.2.1 | exact hdep.2.2 | exact hdep.2.2.1 | exact hdep.2.2.2 | simp_all)
              have t0 := (hB.cell (p := ⟨b, off + j * 3, none⟩) hbs0).trans HT.out.1
              have t1 := (hB.cell (p := ⟨b, off + j * 3 + 1, none⟩) hbs0).trans HT.out.2.1
              have t2 := (hB.cell (p := ⟨b, off + j * 3 + 2, none⟩) hbs0).trans HT.out.2.2
              have H0 := hid h0; have H1 := hid h1; have H2 := hid h2; have H3 := hid h3; have H4 := hid h4; have H5 := hid h5; have H6 := hid h6; have H7 := hid h7; have H8 := hid h8; have H9 := hid h9; have H10 := hid h10; have H11 := hid h11; have H12 := hid h12; have HB := hid hB
              clear h0 h1 h2 h3 h4 h5 h6 h7 h8 h9 h10 h11 h12 hB
              simp only [Act.put, List.setIfInBounds_toArray, List.set_cons_succ, List.set_cons_zero]
              go_wp2_with fail
              have h0 := H0.out; have h1 := H1.out; have h2 := H2.out; have h3 := H3.out; have h4 := H4.out; have h5 := H5.out; have h6 := H6.out; have h7 := H7.out; have h8 := H8.out; have h9 := H9.out; have h10 := H10.out; have h11 := H11.out; have h12 := H12.out; have hB := HB.out
              exact ⟨x0, x1, x2, x3, _, _, x6, x7, x8, (by simp only [Act.put, List.setIfInBounds_toArray, List.set_cons_succ, List.set_cons_zero]), (fun h => h0 (by simpa using h)), (fun h => h1 (by simpa using h)), (fun h => h2 (by simpa using h)), (fun h => h3 (by simpa using h)), (fun _ => rfl), fun _ => rfl, (fun h h' => h6 (by simpa using h) (by simpa using h')), (fun h => h7 (by simpa using h)), (fun h => h8 (by simpa using h)), (fun h => h9 (by simpa using h)), (fun h => by have := h10 (by simpa using h); simpa using this), (fun h => by have := h11 (by simpa using h); simpa using this), (fun h => h12 (by simpa using h)), hB⟩
            · -- 6
              obtain ⟨x0, x1, x2, x3, x4, x5, x6, x7, x8, rfl, h0, h1, h2, h3, h4, h5, h6, h7, h8, h9, h10, h11, h12, hB⟩ := hI
              simp [Region.binds] at hdep
              obtain rfl := h1 (by first | exact hdep | exact hdep.1 | exact hdep.2 | exact hdep.2.1 | exact hdep.2.2 | exact hdep.2.2.1 | exact hdep.2.2.2 | simp_all)
              obtain rfl := h5 (by first | exact hdep | exact hdep.1 | exact hdep.2 | exact hdep.2.1 | exact hdep.2.2 | exact hdep.2.2.1 | exact hdep.2.2.2 | simp_all)
              have HFC := hid (HFJ.out wx (HSB.out.trans (hB.mono (by omega))))
              have H0 := hid h0; have H1 := hid h1; have H2 := hid h2; have H3 := hid h3; have H4 := hid h4; have H5 := hid h5; have H6 := hid h6; have H7 := hid h7; have H8 := hid h8; have H9 := hid h9; have H10 := hid h10; have H11 := hid h11; have H12 := hid h12; have HB := hid hB
              clear h0 h1 h2 h3 h4 h5 h6 h7 h8 h9 h10 h11 h12 hB
              simp only [Act.put, List.setIfInBounds_toArray, List.set_cons_succ, List.set_cons_zero]
              go_wp2_with fail
              refine HFC.out.mono ?_
              rintro e w8 ⟨A8, q8, rfl, hs8, hb8⟩
              have HS8 := hid hs8; have HB8 := hid hb8; clear hs8 hb8
              go_wp2_with fail
              have h0 := H0.out; have h1 := H1.out; have h2 := H2.out; have h3 := H3.out; have h4 := H4.out; have h5 := H5.out; have h6 := H6.out; have h7 := H7.out; have h8 := H8.out; have h9 := H9.out; have h10 := H10.out; have h11 := H11.out; have h12 := H12.out; have hB := HB.out
              exact ⟨x0, _, x2, x3, x4, _, _, x7, x8, (by simp only [Act.put, List.setIfInBounds_toArray, List.set_cons_succ, List.set_cons_zero]), (fun h => h0 (by simpa using h)), (fun _ => rfl), (fun h => h2 (by simpa using h)), (fun h => h3 (by simpa using h)), (fun h => h4 (by simpa using h)), (fun _ => rfl), fun _ _ => ⟨A8, q8, rfl, HS8.out⟩, (fun h => by obtain ⟨A, q, e, hs⟩ := h7 (by simpa using h); exact ⟨A, q, e, own_below hs HB8.out⟩), (fun h => by obtain ⟨A, q, e, hs⟩ := h8 (by simpa using h); exact ⟨A, q, e, own_below hs HB8.out⟩), (fun h => own_below (h9 (by simpa using h)) HB8.out), (fun h => by have := h10 (by simpa using h); simpa using this), (fun h => by have := h11 (by simpa using h); simpa using this), (fun h => h12 (by simpa using h)), (hB.trans (HB8.out.mono (by have := hB.size; omega)))⟩
            · -- 7
              obtain ⟨x0, x1, x2, x3, x4, x5, x6, x7, x8, rfl, h0, h1, h2, h3, h4, h5, h6, h7, h8, h9, h10, h11, h12, hB⟩ := hI
              simp [Region.binds] at hdep
              obtain rfl := h0 (by first | exact hdep | exact hdep.1 | exact hdep.2 | exact hdep.2.1 | exact hdep.2.2 | exact hdep.2.2.1 | exact hdep.2.2.2 | simp_all)
              obtain ⟨A8, q8, rfl, hs8⟩ := h6 (by first | exact hdep | exact hdep.1 | exact hdep.2 | exact hdep.2.1 | exact hdep.2.2 | exact hdep.2.2.1 | exact hdep.2.2.2 | simp_all) hf
              have hf0 : f 0 = true := (by first | exact hdep | exact hdep.1 | exact hdep.2 | exact hdep.2.1 | exact hdep.2.2 | exact hdep.2.2.1 | exact hdep.2.2.2 | simp_all)
              have ho7 := h9 hf
              have hszx : w4.heap.size ≤ wx.heap.size := Nat.le_trans hsBr hB.size
              have HS8 := hid hs8; have HO7 := hid ho7; clear hs8 ho7 h6
              have h6 : True := trivial
              have H0 := hid h0; have H1 := hid h1; have H2 := hid h2; have H3 := hid h3; have H4 := hid h4; have H5 := hid h5; have H6 := hid h6; have H7 := hid h7; have H8 := hid h8; have H9 := hid h9; have H10 := hid h10; have H11 := hid h11; have H12 := hid h12; have HB := hid hB
              clear h0 h1 h2 h3 h4 h5 h6 h7 h8 h9 h10 h11 h12 hB
              simp only [Act.put, List.setIfInBounds_toArray, List.set_cons_succ, List.set_cons_zero]
              go_wp2_with (at_builtin; refine wpList_append_rd rfl _ _ 34 rfl w4.heap.size 5 i5 (.int .u8 0) 1 1 Try.underlying34 hi5 hi50 hi51 hi52 rfl (by decide) (.slice Ao bl co) bl (bs.map bv) rfl HO7.out A8 fb.length q8 (fb.map bv) rfl (by rw [List.length_map]; omega) HS8.out.rd HS8.out.nil0 (bv_one _) (by simp only [maxLen]; omega) (by omega) hszx ?_; intro v9 w9 hown9 hgrow9; obtain ⟨A9, q9, rfl⟩ := row_slice' hown9; have HO9 := hid hown9; have HG9 := hid hgrow9; clear hown9 hgrow9)
              have h0 := H0.out; have h1 := H1.out; have h2 := H2.out; have h3 := H3.out; have h4 := H4.out; have h5 := H5.out; have h6 := H6.out; have h7 := H7.out; have h8 := H8.out; have h9 := H9.out; have h10 := H10.out; have h11 := H11.out; have h12 := H12.out; have hB := HB.out
              rw [← List.map_append] at HO9
              have hch : Chg (fun k => w4.heap.size ≤ k) wx w9 := Chg.of_grown HG9.out (fun g e => (HO7.out.lt g e).1)
              have hf8 : f 8 = false := (by cases hx : f 8 with | false => rfl | true => (have := h10 hx; rw [hf] at this; cases this))
              exact ⟨_, x1, x2, x3, x4, x5, .slice A8 fb.length q8, .slice A9 (bl + fb.length) q9, x8, (by simp only [Act.put, List.setIfInBounds_toArray, List.set_cons_succ, List.set_cons_zero]), (fun _ => rfl), (fun h => h1 (by simpa using h)), (fun h => h2 (by simpa using h)), (fun h => h3 (by simpa using h)), (fun h => h4 (by simpa using h)), (fun h => h5 (by simpa using h)), (fun _ h => by simp at h), (fun _ => ⟨A9, q9, rfl, HO9.out⟩), (fun h => by simp [hf8] at h), (fun h => by simp at h), (fun h => by simp [hf8] at h), (fun _ => by simp [hf0]), (fun h => h12 (by simpa using h)), (hB.trans (hch.below (B := w4.heap.size) (fun k hk => hk) hszx))⟩
            · -- 8
              obtain ⟨x0, x1, x2, x3, x4, x5, x6, x7, x8, rfl, h0, h1, h2, h3, h4, h5, h6, h7, h8, h9, h10, h11, h12, hB⟩ := hI
              simp [Region.binds] at hdep
              obtain ⟨A9, q9, rfl, hs9⟩ := h7 (by first | exact hdep | exact hdep.1 | exact hdep.2 | exact hdep.2.1 | exact hdep.2.2 | exact hdep.2.2.1 | exact hdep.2.2.2 | simp_all)
              have hf7 : f 7 = true := (by first | exact hdep | exact hdep.1 | exact hdep.2 | exact hdep.2.1 | exact hdep.2.2 | exact hdep.2.2.1 | exact hdep.2.2.2 | simp_all)
              have HS9 := hid hs9; clear hs9 h7
              have h7 : True := trivial
              have H0 := hid h0; have H1 := hid h1; have H2 := hid h2; have H3 := hid h3; have H4 := hid h4; have H5 := hid h5; have H6 := hid h6; have H7 := hid h7; have H8 := hid h8; have H9 := hid h9; have H10 := hid h10; have H11 := hid h11; have H12 := hid h12; have HB := hid hB
              clear h0 h1 h2 h3 h4 h5 h6 h7 h8 h9 h10 h11 h12 hB
              simp only [Act.put, List.setIfInBounds_toArray, List.set_cons_succ, List.set_cons_zero]
              go_wp2_with fail
              have h0 := H0.out; have h1 := H1.out; have h2 := H2.out; have h3 := H3.out; have h4 := H4.out; have h5 := H5.out; have h6 := H6.out; have h7 := H7.out; have h8 := H8.out; have h9 := H9.out; have h10 := H10.out; have h11 := H11.out; have h12 := H12.out; have hB := HB.out
              exact ⟨x0, x1, x2, x3, x4, x5, x6, .slice A9 (bl + fb.length) q9, .slice A9 (bl + fb.length) q9, (by simp only [Act.put, List.setIfInBounds_toArray, List.set_cons_succ, List.set_cons_zero]), (fun h => h0 (by simpa using h)), (fun h => h1 (by simpa using h)), (fun h => h2 (by simpa using h)), (fun h => h3 (by simpa using h)), (fun h => h4 (by simpa using h)), (fun h => h5 (by simpa using h)), (fun h7' h => h6 (by simpa using h7') (by simpa using h)), (fun _ => ⟨A9, q9, rfl, HS9.out⟩), (fun _ => ⟨A9, q9, rfl, HS9.out⟩), (fun h => h9 (by simpa using h)), (fun _ => by simp [hf7]), (fun h => by have := h11 (by simpa using h); simpa using this), (fun h => by simp at h), hB⟩
          · intro f a' wx hall hI
            obtain ⟨x0, x1, x2, x3, x4, x5, x6, x7, x8, rfl, h0, h1, h2, h3, h4, h5, h6, h7, h8, h9, h10, h11, h12, hB⟩ := hI
            obtain rfl := h0 (hall 0 (by simp))
            obtain rfl := h1 (hall 1 (by simp))
            obtain rfl := h2 (hall 2 (by simp))
            obtain rfl := h3 (hall 3 (by simp))
            obtain rfl := h4 (hall 4 (by simp))
            obtain rfl := h5 (hall 5 (by simp))
            obtain ⟨A8, q8, rfl, hs8⟩ := h8 (hall 8 (by simp))
            have HO8 := hid hs8
            have HB8 := hid (HBR.out.trans hB)
            clear h0 h1 h2 h3 h4 h5 h6 h7 h8 h9 h10 h11 h12 hB hs8 hall f HT HKL HSB HFJ
            simp only [Act.put, List.setIfInBounds_toArray, List.set_cons_succ, List.set_cons_zero]
            go_wp2_with fail
            go_roundw
            case rel => exact ⟨j + 1, bl + fb.length, bs ++ fb, A8, q8, by omega, by go_num, rfl, HTK.out.symm, by rw [List.length_append, HBL.out], HO8.out, HB8.out⟩
            case measure => simp [intOf]; omega
        · obtain rfl : j = nL := by omega
          rw [List.take_of_length_le (by have := HNL.out; omega), ← HE2.out] at hbs
          subst hbs
          obtain rfl : el = bl := by have := HEE.out; omega
          have HSA := hid (same_self bs el Ao A3 co q3 wr HEE.out (by omega) (Sl.of_own' ho).rd (HS34.out.below hB).rd)
          have hk4 := HK4.out.below hB hl4
          have HBX := hid (HB4.out.trans (hB.mono hsz4))
          have c0 := hk4.cell 0
          have c1 := hk4.cell 1
          have c2 := hk4.cell 2
          have c3 := hk4.cell 3
          have c4 := hk4.cell 4
          have c5 := hk4.cell 5
          have c6 := hk4.cell 6
          have c7 := hk4.cell 7
          have c8 := hk4.cell 8
          have c9 := hk4.cell 9
          simp only [List.getElem?_toArray, List.getElem?_cons_zero, List.getElem?_cons_succ] at c0 c1 c2 c3 c4 c5 c6 c7 c8 c9
          clear hk4 ho hB
          go_wp2_with fail
          refine HSA.out.mono ?_
          rintro e w5 ⟨rfl, n5, rfl⟩
          go_wp2_with fail
          refine (HZ.out _ (bw_d' HBX.out n5)).mono ?_
          rintro e w6 ⟨rfl, hb6⟩
          have HB6 := hid ((bw_d' HBX.out n5).trans (hb6.mono (by have := (bw_d' HBX.out n5).size; omega)))
          clear hb6 c0 c1 c2 c3 c4 c5 c6 c7 c8 c9
          go_wp2_with fail
          go_ret
          exact ⟨by first | rfl | exact ret_bool (by simp), HB6.out⟩
    · have heb : (E1 != 0) = true := by simpa using he
      have HC := hid ((And.intro c0 (And.intro c1 (And.intro c2 (And.intro c3 (And.intro c4 (And.intro c5 (And.intro c6 (And.intro c7 (And.intro c8 (And.intro c9 (And.intro d0 d1))))))))))))
      clear c0 c1 c2 c3 c4 c5 c6 c7 c8 c9
      go_wp2_with fail
      clear HKA HKF HS3 d0 d1
      generalize w3.alloc (.cells #[.int .i64 E1, .int .i64 E2] 37) = W3 at *
      go_region_held3 (fun w' => w'.cell? ⟨s, 0, none⟩ = some (.int .u8 (M.k : Int)) ∧ w'.cell? ⟨s, 1, none⟩ = some (.int .u64 (M.n0 : Int)) ∧ w'.cell? ⟨s, 2, none⟩ = some (.int .u64 (M.n1 : Int)) ∧ w'.cell? ⟨s, 3, none⟩ = some (.int .u64 (M.n2 : Int)) ∧ w'.cell? ⟨s, 4, none⟩ = some (.int .u64 (M.n3 : Int)) ∧ w'.cell? ⟨s, 5, none⟩ = some (.int .u64 (M.n4 : Int)) ∧ w'.cell? ⟨s, 6, none⟩ = some (.int .u64 (M.n5 : Int)) ∧ w'.cell? ⟨s, 7, none⟩ = some (.string M.s0) ∧ w'.cell? ⟨s, 8, none⟩ = some (.string M.s1) ∧ w'.cell? ⟨s, 9, none⟩ = some (.slice M.A len M.c) ∧ w'.cell? ⟨w3.heap.size, 0, none⟩ = some (.int .i64 E1) ∧ w'.cell? ⟨w3.heap.size, 1, none⟩ = some (.int .i64 E2)) (first | exact HC3.out | exact HC.out | go_keep) (first | (go_at_call 32; refine (HCK.out _ (bw_d' HB3A.out 1)).mono ?_; rintro e w5 ⟨rfl, hb5⟩; have HC3 := hid (held12' (w := W3.drewN 1) hb5 HC.out); have HB5 := hid ((bw_d' HB3A.out 1).trans (hb5.mono (by have := (bw_d' HB3A.out 1).size; omega)))))
      go_wp2_with fail
      go_ret
      exact ⟨by first | rfl | exact ret_bool (by simp), HB5.out⟩
end Go.Proofs.Ytehjibbjkadoiaa
