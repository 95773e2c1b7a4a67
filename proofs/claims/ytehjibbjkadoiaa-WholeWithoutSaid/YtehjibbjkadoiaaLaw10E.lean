/- The walk of WholeWithout. -/
import Derived.Test.YtehjibbjkadoiaaLaw10A
import Derived.Test.YtehjibbjkadoiaaWoMath
set_option linter.unusedVariables false
namespace Go.Proofs.Ytehjibbjkadoiaa
open Go.RowKit
theorem wo_bytes {M : MV} (v : Int) {x : SRow} (hx : x ∈ ofL (M.k : Int) v) (A : Option Addr) (c : Nat) (W : World) (hok : MvOk W { M with A := A, c := c }) (hsm : MvSm M) (hc : (chkV M (ofL (M.k : Int) v)).1 = 0) (hv1 : -9223372036854775808 ≤ v) (hv2 : v ≤ 9223372036854775807) :
    Calls Try.prog 18 #[mvV (clrM { M with A := A, c := c } x), .int .i64 v] W fun e w' => ∃ A3 q3, e = .returned (.tuple #[.slice A3 (encB (clrM M x) (ofL (M.k : Int) v)).length q3, .agg #[.int .i64 0, .int .i64 0]]) ∧ Sl w' A3 q3 ((encB (clrM M x) (ofL (M.k : Int) v)).map bv) ∧ Below W.heap.size W w' := by
  have hsm' : MvSm { M with A := A, c := c } := ⟨hsm.l, hsm.s, hsm.e⟩
  have hc' : (chkV { M with A := A, c := c } (ofL (M.k : Int) v)).1 = 0 := by rw [chkV_ac]; exact hc
  have h := (ebytes_any (clrM { M with A := A, c := c } x) v W (clr_ok x hok) (clr_sm x hsm') hv1 hv2).mono (fun e w' h => bytesR_sl h)
  have hk : ofL (((clrM { M with A := A, c := c } x).k : Nat) : Int) v = ofL (M.k : Int) v := by rw [clr_k]
  rw [hk, clr_ac, clr_chk (M := { M with A := A, c := c }) M.k v hc' hx] at h
  exact h.mono (fun e w' ⟨A3, q3, he, hs, _, hb⟩ => ⟨A3, q3, he, hs, hb⟩)
set_option maxRecDepth 100000 in
set_option maxHeartbeats 8000000 in
theorem wo_main (M : MV) (v wh : Int) (w : World) (hok : MvOk w M) (hv1 : -9223372036854775808 ≤ v) (hv2 : v ≤ 9223372036854775807) (hw1 : 0 ≤ wh) (hw2 : wh ≤ 255) (hsb : smallB M = true) (hc : (chkV M (ofL (M.k : Int) v)).1 = 0) : Calls Try.prog 8 #[mvV M, .int .i64 v, .int .u8 wh] w fun e w' => e = .returned (.bool true) ∧ Below w.heap.size w w' := by
  have hsm0 := small_sm hsb
  have h70 := (smallB_facts hsb).2.2.1
  have hlv := fun W => awake5_any W
  have hsm := fun W (hW : Below w.heap.size w W) => small9_any M W (hok.l.below hW)
  rw [hsb] at hsm
  have hby := fun W (hW : Below w.heap.size w W) => (ebytes_any M v W (hok.below hW) hsm0 hv1 hv2).mono (fun e w' h => bytesR_sl h)
  rw [(chkV_zero hc).1] at hby
  have hsof := fun W => ((callsIn_wide (n := 4)).1 (sof2_in 4 (by omega) (M.k : Int) v W hv1 hv2))
  have hq7 := ofL_le7 M.k v
  have hcp : ∀ W, Below w.heap.size w W → Calls Try.prog 12 #[mvV M] W fun e w' => ∃ A' c', e = .returned (.agg #[.int .u8 (M.k : Int), .int .u64 (M.n0 : Int), .int .u64 (M.n1 : Int), .int .u64 (M.n2 : Int), .int .u64 (M.n3 : Int), .int .u64 (M.n4 : Int), .int .u64 (M.n5 : Int), .string M.s0, .string M.s1, .slice A' M.l.length c']) ∧ Sl w' A' c' (M.l.map sv) ∧ Below W.heap.size W w' := fun W hW => (vcopy_any M W (by omega) (hok.l.below hW)).mono (by rintro e w' ⟨A', c', he, ho, hb⟩; exact ⟨A', c', he, Sl.of_own' ho, hb⟩)
  have hcap := enc_cap v hok.n hsm0
  have hpos : 0 < (ofL (M.k : Int) v).length := by have := (chkV_zero hc).2.1; omega
  have hmem := fun r (h : r ∈ ofL (M.k : Int) v) => row_ok (ofL_mem _ _ h)
  have hmem2 := fun r (h : r ∈ ofL (M.k : Int) v) => row_slot (ofL_mem _ _ h)
  have hrows := fun r (h : r ∈ ofL (M.k : Int) v) => ofL_mem _ _ h
  have hflz : (flds (encB M (ofL (M.k : Int) v)) (encB M (ofL (M.k : Int) v)).length 0).2 = (0, 0) := by rw [enc_flds M.k v hok.n hsm0 hc]
  have hpre := fun pre (h : fvAll pre (flds (encB M (ofL (M.k : Int) v)) (encB M (ofL (M.k : Int) v)).length 0).1) => wo_pre v hok.n hsm0 h70 hc h
  have hout := fun (x : SRow) hx (pre fs : List FV) h h2 => wo_out (fs := fs) (x := x) v hok.n hsm0 h70 hc hx (pre := pre) h h2
  have hbo := fun (x : SRow) hx A c W (h : MvOk W { M with A := A, c := c }) => wo_bytes v (x := x) hx A c W h hsm0 hc hv1 hv2
  have hcs := fun (x : SRow) hx => clr_same M.k v hok.n hsm0 hc (x := x) hx
  have hdm := fun (x : SRow) W => vdef_any M (x.num : Nat) (x.typ : Nat) (x.slot : Nat) W
  have hcl := fun (x : SRow) (hx : x ∈ ofL (M.k : Int) v) => enc_cap (M := clrM M x) v (clr_n x hok.n) (clr_sm x hsm0)
  simp only [clr_k] at hcl
  have hfi := fun W A c (hs : Sl W A c ((encB M (ofL (M.k : Int) v)).map bv)) => (callsIn_wide (n := 4)).1 (fields_in 4 (by omega) (encB M (ofL (M.k : Int) v)) (encB M (ofL (M.k : Int) v)).length A c W rfl (by omega) hs)
  have hfi2 : ∀ W A c, Sl W A c ((encB M (ofL (M.k : Int) v)).map bv) → Calls Try.prog 24 #[.slice A (encB M (ofL (M.k : Int) v)).length c] W fun e W' => ∃ v' b pre, e = .returned (.tuple #[v', .agg #[.int .i64 0, .int .i64 0]]) ∧ W.heap.size ≤ b ∧ W'.ownsRow b 53 5 v' pre.length (pre.flatMap fvC) ∧ fvAll pre (flds (encB M (ofL (M.k : Int) v)) (encB M (ofL (M.k : Int) v)).length 0).1 ∧ (∀ f ∈ pre, Sl W' f.s.A f.s.c (f.s.xs.map bv) ∧ FarS f.s.A f.s.xs.length (fun k => k < W.heap.size ∨ b ≤ k)) ∧ Below W.heap.size W W' := fun W A c hs => (hfi W A c hs).mono (by
    rintro e W' ⟨⟨-, v', b, pre, he, h1, h2, h3, h4⟩ | ⟨hne, -⟩, hb⟩
    · exact ⟨v', b, pre, he, h1, h2, h3, h4, hb⟩
    · rw [hflz] at hne; exact absurd rfl hne)
  clear hfi
  have hM0 := hok.k
  have hMok : ∀ W A c, Sl W A c (M.l.map sv) → MvOk W { M with A := A, c := c } := fun W A c hs => ⟨hok.k, hok.n, hok.s, hok.e, hs⟩
  generalize (flds (encB M (ofL (M.k : Int) v)) (encB M (ofL (M.k : Int) v)).length 0).1 = FL at *
  obtain ⟨eb, heb⟩ : ∃ eb, encB M (ofL (M.k : Int) v) = eb := ⟨_, rfl⟩
  rw [heb] at hby hfi2 hcap hcs
  clear heb hflz
  generalize ofL (M.k : Int) v = L at *
  obtain ⟨el, hele⟩ : ∃ n, eb.length = n := ⟨_, rfl⟩
  rw [hele] at hby hfi2 hcap
  obtain ⟨nL, hnL⟩ : ∃ n, L.length = n := ⟨_, rfl⟩
  rw [hnL] at hsof hq7 hpos
  obtain ⟨s, hws⟩ : ∃ s, w.heap.size = s := ⟨_, rfl⟩
  rw [hws] at hsm hby hcp ⊢
  unfold mvV at hsm hby hcp hdm ⊢
  rw [show mvA M = #[.int .u8 (M.k : Int), .int .u64 (M.n0 : Int), .int .u64 (M.n1 : Int), .int .u64 (M.n2 : Int), .int .u64 (M.n3 : Int), .int .u64 (M.n4 : Int), .int .u64 (M.n5 : Int), .string M.s0, .string M.s1, .slice M.A M.l.length M.c] from rfl] at hsm hby hcp hdm ⊢
  obtain ⟨len, hlen⟩ : ∃ n, M.l.length = n := ⟨_, rfl⟩
  rw [hlen] at hsm hby hcp hdm ⊢
  have HLV := hid hlv; have HSM := hid hsm; have HBY := hid hby; have HSOF := hid hsof; have HCP := hid hcp; have HMEM := hid hmem; have HMEM2 := hid hmem2; have HROW := hid hrows
  have HPRE := hid hpre; have HOUT0 := hid hout; have HBO0 := hid hbo; have HCS := hid hcs; have HDM0 := hid hdm; have HCLC := hid hcl; have HFI := hid hfi2; have HEE := hid hele; have HNL := hid hnL; have HLEN := hid hlen; have HMOK := hid hMok
  clear hlv hsm hby hsof hcp hmem hmem2 hrows hpre hout hbo hcs hdm hcl hfi2 hele hnL hlen hMok hok hsm0 h70 hc hsb
  go_enter Try.func8, Try.ntmps8
  go_wp2_with fail
  obtain ⟨W, hW⟩ : ∃ W, w.alloc (.cells #[.int .u8 (M.k : Int), .int .u64 (M.n0 : Int), .int .u64 (M.n1 : Int), .int .u64 (M.n2 : Int), .int .u64 (M.n3 : Int), .int .u64 (M.n4 : Int), .int .u64 (M.n5 : Int), .string M.s0, .string M.s1, .slice M.A len M.c] 27) = W := ⟨_, rfl⟩
  have hk0 : Blk W s 27 #[.int .u8 (M.k : Int), .int .u64 (M.n0 : Int), .int .u64 (M.n1 : Int), .int .u64 (M.n2 : Int), .int .u64 (M.n3 : Int), .int .u64 (M.n4 : Int), .int .u64 (M.n5 : Int), .string M.s0, .string M.s1, .slice M.A len M.c] := by rw [← hW, ← hws]; exact Blk.new w _ _
  have hB : Below s w W := by rw [← hW, ← hws]; exact bw_a (Below.refl _ w) _
  have hlt := hk0.lt
  rw [hW]
  refine (HLV.out W).mono ?_
  rintro e w1 ⟨rfl, hb1⟩
  have hk0 := hk0.below hb1 (by omega)
  have hB := hB.trans (hb1.mono (by omega))
  have hlt := hk0.lt
  have c0 := hk0.cell 0
  have c1 := hk0.cell 1
  have c2 := hk0.cell 2
  have c3 := hk0.cell 3
  have c4 := hk0.cell 4
  have c5 := hk0.cell 5
  have c6 := hk0.cell 6
  have c7 := hk0.cell 7
  have c8 := hk0.cell 8
  have c9 := hk0.cell 9
  simp only [List.getElem?_toArray, List.getElem?_cons_zero, List.getElem?_cons_succ] at c0 c1 c2 c3 c4 c5 c6 c7 c8 c9
  have HK0 := hid hk0
  have HB := hid hB
  clear hW hk0 hb1 hB
  go_wp2_with fail
  refine (HSM.out _ HB.out).mono ?_
  rintro e w2 ⟨rfl, hb2⟩
  have hk0 := HK0.out.below hb2 (by omega)
  have hB2 := HB.out.trans (hb2.mono (by omega))
  have hlt2 := hk0.lt
  clear c0 c1 c2 c3 c4 c5 c6 c7 c8 c9
  have c0 := hk0.cell 0
  have c1 := hk0.cell 1
  have c2 := hk0.cell 2
  have c3 := hk0.cell 3
  have c4 := hk0.cell 4
  have c5 := hk0.cell 5
  have c6 := hk0.cell 6
  have c7 := hk0.cell 7
  have c8 := hk0.cell 8
  have c9 := hk0.cell 9
  simp only [List.getElem?_toArray, List.getElem?_cons_zero, List.getElem?_cons_succ] at c0 c1 c2 c3 c4 c5 c6 c7 c8 c9
  have HK2 := hid hk0
  have HB2 := hid hB2
  clear hk0 hb2 hB2 HK0
  go_wp2_with fail
  refine (HBY.out _ HB2.out).mono ?_
  rintro e w3 ⟨A3, q3, rfl, hs3, -, hb3⟩
  have hba := bw_a (Below.refl w3.heap.size w3) (.cells #[.int .i64 0, .int .i64 0] 37)
  have hz3 := hb3.size
  have hk3 := (HK2.out.below hb3 hlt2).below hba (by omega)
  have hkf := Blk.new w3 37 #[.int .i64 0, .int .i64 0]
  have HS3 := hid (hs3.below hba)
  have HB3 := hid (HB2.out.trans ((bw_t hb3 hba).mono (by omega)))
  have hz3a : (w3.alloc (.cells #[.int .i64 0, .int .i64 0] 37)).heap.size = w3.heap.size + 1 := World.size_alloc _ _
  clear hs3 hb3 hba c0 c1 c2 c3 c4 c5 c6 c7 c8 c9
  have c0 := hk3.cell 0
  have c1 := hk3.cell 1
  have c2 := hk3.cell 2
  have c3 := hk3.cell 3
  have c4 := hk3.cell 4
  have c5 := hk3.cell 5
  have c6 := hk3.cell 6
  have c7 := hk3.cell 7
  have c8 := hk3.cell 8
  have c9 := hk3.cell 9
  simp only [List.getElem?_toArray, List.getElem?_cons_zero, List.getElem?_cons_succ] at c0 c1 c2 c3 c4 c5 c6 c7 c8 c9
  have d0 := hkf.cell 0
  have d1 := hkf.cell 1
  simp only [List.getElem?_toArray, List.getElem?_cons_zero, List.getElem?_cons_succ] at d0 d1
  have HK3 := hid hk3
  clear hk3 hkf HBY HSM HLV
  go_wp2_with fail
  refine (HSOF.out _).mono ?_
  rintro e w4 ⟨vv, rfl, ho4, hb4⟩
  obtain ⟨A4, q4, rfl, hs4⟩ := SlN.of_own (by omega) ho4
  have hz4 := hb4.size
  have hk4 := HK3.out.below hb4 (by omega)
  have HS34 := hid (HS3.out.below hb4)
  have HB4 := hid (HB3.out.trans (hb4.mono (by omega)))
  have hl4 := hk4.lt
  obtain ⟨j, hj⟩ : ∃ j, wh.toNat % nL = j := ⟨_, rfl⟩
  have hjn : j < nL := by rw [← hj]; exact Nat.mod_lt _ hpos
  have hjt : Int.tmod wh (nL : Int) = (j : Int) := by
    rw [← hj, Int.tmod_eq_emod_of_nonneg hw1]
    have e : wh = ((wh.toNat : Nat) : Int) := by omega
    rw [e]
    first | rw [Int.natCast_emod] | rw [Int.ofNat_emod] | rfl
    first | done | rw [Int.toNat_natCast] | simp
  have hjl : j < L.length := by have := HNL.out; omega
  have hn0' : (L.flatMap specC)[j * 3 + 0]? = _ := flatMap_get specC 3 L j 0 hjl (fun _ _ => rfl) (by omega)
  have hn1' : (L.flatMap specC)[j * 3 + 1]? = _ := flatMap_get specC 3 L j 1 hjl (fun _ _ => rfl) (by omega)
  have hn2' : (L.flatMap specC)[j * 3 + 2]? = _ := flatMap_get specC 3 L j 2 hjl (fun _ _ => rfl) (by omega)
  obtain ⟨b, off, hA, hbw, t0⟩ := hs4.rd _ _ hn0'
  subst hA
  have t1 := hs4.rd.addr _ _ hn1'
  have t2 := hs4.rd.addr _ _ hn2'
  rw [addr_add] at t1 t2
  simp only [Nat.add_zero, ← Nat.add_assoc] at t0 t1 t2
  have hx := List.getElem_mem hjl
  obtain ⟨x, hxd⟩ : ∃ x, L[j] = x := ⟨_, rfl⟩
  simp only [hxd] at t0 t1 t2 hx
  have hro := HMEM.out x hx
  have hro2 := HMEM2.out x hx
  have hrw := HROW.out x hx
  have hou := HOUT0.out x hx
  have hbo := HBO0.out x hx
  have hcs := HCS.out x hx
  have hdm := HDM0.out x
  have hcl := HCLC.out x hx
  have hcc : nL ≤ q4 := hs4.cap
  have hcs4 : q4 ≤ 9223372036854775807 := hs4.small
  obtain ⟨nu, hnu⟩ : ∃ n, x.num = n := ⟨_, rfl⟩
  obtain ⟨ty, hty⟩ : ∃ n, x.typ = n := ⟨_, rfl⟩
  obtain ⟨sl, hsl⟩ : ∃ n, x.slot = n := ⟨_, rfl⟩
  simp only [hnu, hty, hsl] at t0 t1 t2 hou hdm hcs
  have HHOU := hid hou; have HHBO := hid hbo; have HHCS := hid hcs; have HHDM := hid hdm; have HRW := hid hrw; have HRO := hid hro; have HRO2 := hid hro2
  have HK4 := hid hk4
  have HJ := hid hj
  clear c0 c1 c2 c3 c4 c5 c6 c7 c8 c9 d0 d1
  have c0 := hk4.cell 0
  have c1 := hk4.cell 1
  have c2 := hk4.cell 2
  have c3 := hk4.cell 3
  have c4 := hk4.cell 4
  have c5 := hk4.cell 5
  have c6 := hk4.cell 6
  have c7 := hk4.cell 7
  have c8 := hk4.cell 8
  have c9 := hk4.cell 9
  simp only [List.getElem?_toArray, List.getElem?_cons_zero, List.getElem?_cons_succ] at c0 c1 c2 c3 c4 c5 c6 c7 c8 c9
  clear ho4 hb4 hk4 hs4 hn0' hn1' hn2' hou hbo hcs hdm hrw hro hro2 hj HMEM HMEM2 HROW HOUT0 HBO0 HCS HDM0 HCLC HK3 HS3 HSOF
  go_wp2_with fail
  have hp4 := Blk.new w4 44 #[.int .i64 (nu : Int), .int .i64 (ty : Int), .int .i64 (sl : Int)]
  have hba4 := bw_a (Below.refl w4.heap.size w4) (.cells #[.int .i64 (nu : Int), .int .i64 (ty : Int), .int .i64 (sl : Int)] 44)
  have hz4a : (w4.alloc (.cells #[.int .i64 (nu : Int), .int .i64 (ty : Int), .int .i64 (sl : Int)] 44)).heap.size = w4.heap.size + 1 := World.size_alloc _ _
  refine (HCP.out _ (HB4.out.trans (hba4.mono (by omega)))).mono ?_
  rintro e w5 ⟨A', c', rfl, hs5, hb5⟩
  have hz5 := hb5.size
  have hp5 := hp4.below hb5 (by omega)
  have hk5 := HK4.out.below (bw_t hba4 hb5) (by omega)
  have hl5 := hk5.lt
  have hl5p := hp5.lt
  have HB5 := hid (HB4.out.trans ((bw_t hba4 hb5).mono (by omega)))
  have HS35 := hid (HS34.out.below (bw_t hba4 hb5))
  obtain ⟨cb, hcb⟩ : ∃ cb, encB (clrM M x) L = cb := ⟨_, rfl⟩
  obtain ⟨cl, hcll⟩ : ∃ n, cb.length = n := ⟨_, rfl⟩
  obtain ⟨db, hdb⟩ : ∃ b, dflB M (ty : Nat) (sl : Nat) = b := ⟨_, rfl⟩
  obtain ⟨U, hU⟩ : ∃ U, clrM { M with A := A', c := c' } x = U := ⟨_, rfl⟩
  have hou := HHOU.out
  have hcs := HHCS.out
  have hdm := HHDM.out
  have hbo := fun W (hW : Below w5.heap.size w5 W) => HHBO.out A' c' W (HMOK.out W A' c' (hs5.below hW))
  have hdo := fun W => vdef_any U (nu : Nat) (ty : Nat) (sl : Nat) W
  have hdu : dflB U (ty : Nat) (sl : Nat) = true := by rw [← hU, ← hty, ← hsl]; exact clr_dfl _ HRW.out
  simp only [hdu] at hdo
  simp only [hcb] at hou hcs hbo hcl
  simp only [hcll] at hbo hcl
  simp only [hdb] at hcs hdm
  simp only [hU] at hbo
  unfold mvV mvA at hbo hdo
  obtain ⟨lu, hlu⟩ : ∃ n, U.l.length = n := ⟨_, rfl⟩
  simp only [hlu] at hbo hdo
  have hku := Blk.new w5 27 #[.int .u8 (M.k : Int), .int .u64 (M.n0 : Int), .int .u64 (M.n1 : Int), .int .u64 (M.n2 : Int), .int .u64 (M.n3 : Int), .int .u64 (M.n4 : Int), .int .u64 (M.n5 : Int), .string M.s0, .string M.s1, .slice A' len c']
  have hba5 := bw_a (Below.refl w5.heap.size w5) (.cells #[.int .u8 (M.k : Int), .int .u64 (M.n0 : Int), .int .u64 (M.n1 : Int), .int .u64 (M.n2 : Int), .int .u64 (M.n3 : Int), .int .u64 (M.n4 : Int), .int .u64 (M.n5 : Int), .string M.s0, .string M.s1, .slice A' len c'] 27)
  have hz5a : (w5.alloc (.cells #[.int .u8 (M.k : Int), .int .u64 (M.n0 : Int), .int .u64 (M.n1 : Int), .int .u64 (M.n2 : Int), .int .u64 (M.n3 : Int), .int .u64 (M.n4 : Int), .int .u64 (M.n5 : Int), .string M.s0, .string M.s1, .slice A' len c'] 27)).heap.size = w5.heap.size + 1 := World.size_alloc _ _
  have hsn : x.typ ≤ 6 → (#[.int .u8 (M.k : Int), .int .u64 (M.n0 : Int), .int .u64 (M.n1 : Int), .int .u64 (M.n2 : Int), .int .u64 (M.n3 : Int), .int .u64 (M.n4 : Int), .int .u64 (M.n5 : Int), .string M.s0, .string M.s1, .slice A' len c'] : Array Value).setIfInBounds (1 + sl) (.int .u64 0) = #[.int .u8 (U.k : Int), .int .u64 (U.n0 : Int), .int .u64 (U.n1 : Int), .int .u64 (U.n2 : Int), .int .u64 (U.n3 : Int), .int .u64 (U.n4 : Int), .int .u64 (U.n5 : Int), .string U.s0, .string U.s1, .slice U.A lu U.c] := fun h => by
    have e := cells_num { M with A := A', c := c' } h (HRO2.out.1)
    rw [hU, hsl] at e
    rw [← HLEN.out, ← hlu]; exact e
  have hst : 7 ≤ x.typ → x.typ ≤ 9 → (#[.int .u8 (M.k : Int), .int .u64 (M.n0 : Int), .int .u64 (M.n1 : Int), .int .u64 (M.n2 : Int), .int .u64 (M.n3 : Int), .int .u64 (M.n4 : Int), .int .u64 (M.n5 : Int), .string M.s0, .string M.s1, .slice A' len c'] : Array Value).setIfInBounds (7 + sl) (.string ⟨#[]⟩) = #[.int .u8 (U.k : Int), .int .u64 (U.n0 : Int), .int .u64 (U.n1 : Int), .int .u64 (U.n2 : Int), .int .u64 (U.n3 : Int), .int .u64 (U.n4 : Int), .int .u64 (U.n5 : Int), .string U.s0, .string U.s1, .slice U.A lu U.c] := fun h h9 => by
    have e := cells_text { M with A := A', c := c' } h h9 (HRO2.out.2 h h9)
    rw [hU, hsl] at e
    rw [← HLEN.out, ← hlu]; exact e
  have hsl9 : x.typ = 10 → (#[.int .u8 (M.k : Int), .int .u64 (M.n0 : Int), .int .u64 (M.n1 : Int), .int .u64 (M.n2 : Int), .int .u64 (M.n3 : Int), .int .u64 (M.n4 : Int), .int .u64 (M.n5 : Int), .string M.s0, .string M.s1, .slice A' len c'] : Array Value).setIfInBounds 9 (.slice none 0 0) = #[.int .u8 (U.k : Int), .int .u64 (U.n0 : Int), .int .u64 (U.n1 : Int), .int .u64 (U.n2 : Int), .int .u64 (U.n3 : Int), .int .u64 (U.n4 : Int), .int .u64 (U.n5 : Int), .string U.s0, .string U.s1, .slice U.A lu U.c] := fun h => by
    have e := cells_list { M with A := A', c := c' } h
    rw [hU] at e
    rw [← HLEN.out, ← hlu]; exact e
  have hty1 : 1 ≤ ty ∧ ty ≤ 10 := by have := row_num HRW.out; omega
  have hslt : sl ≤ 5 ∧ (7 ≤ ty → ty ≤ 9 → sl ≤ 1) := by have := HRO2.out; rw [hty, hsl] at this; exact this
  rw [hty] at hsn hst hsl9
  have HOUT := hid hou; have HDB := hid hcs; have HDM := hid hdm; have HBO5 := hid hbo; have HDO := hid hdo; have HCL := hid hcll; have HS5 := hid hs5; have HSN := hid hsn; have HST := hid hst; have HSL9 := hid hsl9
  have HP5 := hid (hp5.below hba5 (by omega)); have HK5 := hid (hk5.below hba5 (by omega)); have HP5' := hid hp5; have HK5' := hid hk5; have HKU5 := hid hku; have HBA5 := hid hba5
  have hp5a := hp5.below hba5 (by omega)
  have e0 := hp5a.cell 0
  have e1 := hp5a.cell 1
  have e2 := hp5a.cell 2
  simp only [List.getElem?_toArray, List.getElem?_cons_zero, List.getElem?_cons_succ] at e0 e1 e2
  clear hp4 hba4 hs5 hb5 hp5 hk5 hcb hcll hdb hU hou hcs hdm hbo hdo hdu hku hba5 hsn hst hsl9 hp5a hnu hty hsl hlu t0 t1 t2 c0 c1 c2 c3 c4 c5 c6 c7 c8 c9 HHOU HHBO HHCS HHDM HRW HRO HRO2 HMOK HLEN HK4 HS34 HCP
  rcases (show ty ≤ 6 ∨ (7 ≤ ty ∧ ty ≤ 9) ∨ ty = 10 by omega) with h | ⟨h, h9⟩ | h
  · have hset := HSN.out h
    have tI : ¬ (ty : Int) = 10 := by omega
    have tJ : (ty : Int) ≤ 6 := by omega
    have sI : (sl : Int) < 6 := by omega
    have sI0 : (0 : Int) ≤ (sl : Int) := by omega
    have HSET := hid hset
    have hku := HKU5.out
    obtain ⟨u, hu⟩ : ∃ u, (#[.int .u8 (M.k : Int), .int .u64 (M.n0 : Int), .int .u64 (M.n1 : Int), .int .u64 (M.n2 : Int), .int .u64 (M.n3 : Int), .int .u64 (M.n4 : Int), .int .u64 (M.n5 : Int), .string M.s0, .string M.s1, .slice A' len c'] : Array Value)[1 + sl]? = some u := ⟨_, Array.getElem?_eq_getElem (by simp; omega)⟩
    have g0 := (hku.cell (1 + sl)).trans hu
    have g1 := hku.frozen (1 + sl)
    clear hset hku HSN HST HSL9 h hu
    go_wp2_with fail
    have hset := HSET.out
    simp only [List.setIfInBounds_toArray] at hset
    rw [hset]
    have hku6 := Blk.new w5 27 #[.int .u8 (U.k : Int), .int .u64 (U.n0 : Int), .int .u64 (U.n1 : Int), .int .u64 (U.n2 : Int), .int .u64 (U.n3 : Int), .int .u64 (U.n4 : Int), .int .u64 (U.n5 : Int), .string U.s0, .string U.s1, .slice U.A lu U.c]
    have hb56 := bw_a (Below.refl w5.heap.size w5) (.cells #[.int .u8 (U.k : Int), .int .u64 (U.n0 : Int), .int .u64 (U.n1 : Int), .int .u64 (U.n2 : Int), .int .u64 (U.n3 : Int), .int .u64 (U.n4 : Int), .int .u64 (U.n5 : Int), .string U.s0, .string U.s1, .slice U.A lu U.c] 27)
    have hz6 : (w5.alloc (.cells #[.int .u8 (U.k : Int), .int .u64 (U.n0 : Int), .int .u64 (U.n1 : Int), .int .u64 (U.n2 : Int), .int .u64 (U.n3 : Int), .int .u64 (U.n4 : Int), .int .u64 (U.n5 : Int), .string U.s0, .string U.s1, .slice U.A lu U.c] 27)).heap.size = w5.heap.size + 1 := World.size_alloc _ _
    generalize w5.alloc (.cells #[.int .u8 (U.k : Int), .int .u64 (U.n0 : Int), .int .u64 (U.n1 : Int), .int .u64 (U.n2 : Int), .int .u64 (U.n3 : Int), .int .u64 (U.n4 : Int), .int .u64 (U.n5 : Int), .string U.s0, .string U.s1, .slice U.A lu U.c] 27) = W6 at *
    have HKM6 := hid (HK5'.out.below hb56 (by omega))
    have HKP6 := hid (HP5'.out.below hb56 (by omega))
    have HKU6 := hid hku6
    have HSL6 := hid (HS35.out.below hb56)
    have HB6 := hid (HB5.out.trans (hb56.mono (by omega)))
    have HBO := hid (fun W (hW : Below W6.heap.size W6 W) => HBO5.out W (bw_t hb56 hW))
    have hlm6 : s < W6.heap.size := by omega
    have hlp6 : w4.heap.size < W6.heap.size := by omega
    have hlq6 : w5.heap.size < W6.heap.size := by omega
    clear g0 g1 hset hku6 hb56 e0 e1 e2 HBO5 HS35 HB5 HP5 HK5 HKU5 HBA5 HSET HS5 HP5' HK5'
    refine (HFI.out W6 _ _ HSL6.out).mono ?_
    rintro e w7 ⟨vv7, b7, pre, rfl, hb7s, ho7, hfa, hsl7, hb7⟩
    obtain ⟨A7, q7, rfl, hs7⟩ := SlN.of_own (by omega) ho7
    obtain ⟨m7, hm7⟩ : ∃ m, pre.length = m := ⟨_, rfl⟩
    rw [hm7] at hs7 ⊢
    have hpr := HPRE.out pre hfa
    rw [hm7] at hpr
    have hk7 := HKM6.out.below hb7 hlm6
    have hp7 := HKP6.out.below hb7 hlp6
    have hq7 := HKU6.out.below hb7 hlq6
    have hz7 := hb7.size
    have hlk7 := hk7.lt
    have hlp7 := hp7.lt
    have hlq7 := hq7.lt
    have HB7 := hid (HB6.out.trans (hb7.mono (by omega)))
    have HB67 := hid hb7
    have hfo7 : ∀ f ∈ pre, FvOk w7 f := fun f hf => (hpr.2 f hf).ok (hsl7 f hf).1
    have hx7 : ∀ f ∈ pre, f.s.xs.length ≤ 8200 := fun f hf => by have := (hpr.2 f hf).2.2.2.2.2.2.2; simp only [fvK] at this; omega
    have hba := bw_a (Below.refl w7.heap.size w7) (.cells #[.int .i64 0, .int .i64 0] 37)
    have hkf7 := Blk.new w7 37 #[.int .i64 0, .int .i64 0]
    have hwo := swo8_any pre m7 A7 q7 (nu : Int) (w7.alloc (.cells #[.int .i64 0, .int .i64 0] 37)) hm7 (by omega) (hs7.below hba) (fun f hf => (hfo7 f hf).below hba) hx7
    have hk7 := hk7.below hba (by omega)
    have hp7 := hp7.below hba (by omega)
    have hq7 := hq7.below hba (by omega)
    have HBA := hid hba
    have HWO := hid hwo
    have HKF7 := hid hkf7
    have HK7 := hid hk7
    have HP7 := hid hp7
    have HQ7 := hid hq7
    have HFA := hid hfa
    have hz7a : (w7.alloc (.cells #[.int .i64 0, .int .i64 0] 37)).heap.size = w7.heap.size + 1 := World.size_alloc _ _
    have e0 := hp7.cell 0
    have e1 := hp7.cell 1
    have e2 := hp7.cell 2
    simp only [List.getElem?_toArray, List.getElem?_cons_zero, List.getElem?_cons_succ] at e0 e1 e2
    clear ho7 hfa hsl7 hb7 hs7 hfo7 hx7 hba hwo hkf7 hk7 hp7 hq7 hpr
    go_wp2_with fail
    refine HWO.out.mono ?_
    rintro e w8 ⟨vv8, fs, rfl, ho8, hfs8, how8, hb8⟩
    obtain ⟨A8, q8, rfl, hs8⟩ := SlN.of_own (by omega) ho8
    have hou := HOUT.out pre fs HFA.out hfs8
    obtain ⟨m8, hm8⟩ : ∃ m, fs.length = m := ⟨_, rfl⟩
    rw [hm8] at hs8 hou ⊢
    obtain ⟨hl8, hko8, hpe8, hfm8⟩ := hou
    have hz8 := hb8.size
    have hput := sputs8_any fs m8 A8 q8 w8 hm8 hl8 hs8 (fun f hf => (hko8 f hf).ok (Sl.of_own' (how8 f hf))) (fun f hf => by have := (hko8 f hf).2.2.2.2.2.2.2; simp only [fvK] at this; omega)
    rw [hpe8, hfm8, HCL.out] at hput
    have hk8 := HK7.out.below hb8 (by omega)
    have hp8 := HP7.out.below hb8 (by omega)
    have hq8 := HQ7.out.below hb8 (by omega)
    have hf8 := HKF7.out.below hb8 (by omega)
    have hlk8 := hk8.lt
    have hlp8 := hp8.lt
    have hlq8 := hq8.lt
    have hlf8 := hf8.lt
    have HPUT := hid hput
    have HB8 := hid (HB7.out.trans ((bw_t HBA.out hb8).mono (by omega)))
    have HB68 := hid (bw_t HB67.out (bw_t HBA.out hb8))
    have HK8 := hid hk8; have HP8 := hid hp8; have HQ8 := hid hq8; have HF8 := hid hf8
    clear ho8 hfs8 how8 hb8 hs8 hko8 hpe8 hfm8 hput hk8 hp8 hq8 hf8 HPRE HWO HK7 HP7 HQ7 HKF7 HBA HOUT HFA e0 e1 e2
    go_wp2_with fail
    refine HPUT.out.mono ?_
    rintro e w9 ⟨h9, hb9⟩
    obtain ⟨v9, rfl, ho9⟩ : ∃ v, e = .returned (.tuple #[v, .agg #[.int .i64 0, .int .i64 0]]) ∧ w9.ownsRow w8.heap.size 5 1 v cl (cb.map bv) := by
      rcases h9 with ⟨-, v, he, ho⟩ | ⟨hne, -⟩
      · exact ⟨v, he, ho⟩
      · exact absurd rfl hne
    obtain ⟨A9, q9, rfl⟩ := row_slice' ho9
    have hs9 := Sl.of_own' ho9
    have hz9 := hb9.size
    have hlk9 : s < w9.heap.size := by omega
    have hlp9 : w4.heap.size < w9.heap.size := by omega
    have hlq9 : w5.heap.size < w9.heap.size := by omega
    have hlf9 : w7.heap.size < w9.heap.size := by omega
    have hba := bw_a (Below.refl w9.heap.size w9) (.cells #[.int .i64 0, .int .i64 0] 37)
    have hk9 := (HK8.out.below hb9 (by omega)).below hba (by omega)
    have hp9 := (HP8.out.below hb9 (by omega)).below hba (by omega)
    have hq9 := (HQ8.out.below hb9 (by omega)).below hba (by omega)
    have hf9 := (HF8.out.below hb9 (by omega)).below hba (by omega)
    have hg9 := Blk.new w9 37 #[.int .i64 0, .int .i64 0]
    have hz9a : (w9.alloc (.cells #[.int .i64 0, .int .i64 0] 37)).heap.size = w9.heap.size + 1 := World.size_alloc _ _
    have HB9 := hid (HB8.out.trans ((bw_t hb9 hba).mono (by omega)))
    have HB69 := hid (bw_t HB68.out (bw_t hb9 hba))
    have HS9 := hid (hs9.below hba)
    have o0 := hq9.cell 0
    have o1 := hq9.cell 1
    have o2 := hq9.cell 2
    have o3 := hq9.cell 3
    have o4 := hq9.cell 4
    have o5 := hq9.cell 5
    have o6 := hq9.cell 6
    have o7 := hq9.cell 7
    have o8 := hq9.cell 8
    have o9 := hq9.cell 9
    simp only [List.getElem?_toArray, List.getElem?_cons_zero, List.getElem?_cons_succ] at o0 o1 o2 o3 o4 o5 o6 o7 o8 o9
    have HK9 := hid hk9; have HP9 := hid hp9; have HQ9 := hid hq9; have HF9 := hid hf9; have HG9 := hid hg9
    clear h9 hb9 ho9 hs9 hba hk9 hp9 hq9 hf9 hg9 HK8 HP8 HQ8 HF8 HPUT
    go_wp2_with fail
    refine (HBO.out _ HB69.out).mono ?_
    rintro e w10 ⟨A10, q10, rfl, hs10, hb10⟩
    have hz10 := hb10.size
    have hlk10 : s < w10.heap.size := by omega
    have hlp10 : w4.heap.size < w10.heap.size := by omega
    have hlq10 : w5.heap.size < w10.heap.size := by omega
    have hlf10 : w7.heap.size < w10.heap.size := by omega
    have hlg10 : w9.heap.size < w10.heap.size := by omega
    have hba := bw_a (Below.refl w10.heap.size w10) (.cells #[.int .i64 0, .int .i64 0] 37)
    have hbb := bw_t hb10 hba
    have hk10 := HK9.out.below hbb (by omega)
    have hp10 := HP9.out.below hbb (by omega)
    have hq10 := HQ9.out.below hbb (by omega)
    have hf10 := HF9.out.below hbb (by omega)
    have hg10 := HG9.out.below hbb (by omega)
    have hh10 := Blk.new w10 37 #[.int .i64 0, .int .i64 0]
    have hz10a : (w10.alloc (.cells #[.int .i64 0, .int .i64 0] 37)).heap.size = w10.heap.size + 1 := World.size_alloc _ _
    have HB10 := hid (HB9.out.trans (hbb.mono (by omega)))
    have HB610 := hid (bw_t HB69.out hbb)
    have HS10 := hid (hs10.below hba)
    have HS910 := hid (HS9.out.below hbb)
    have g0 := hf10.cell 0
    have i0 := hg10.cell 0
    have l0 := hh10.cell 0
    simp only [List.getElem?_toArray, List.getElem?_cons_zero] at g0 i0 l0
    have HK10 := hid hk10; have HP10 := hid hp10; have HQ10 := hid hq10
    have HSC := hid (same_self cb cl A9 A10 q9 q10 (w10.alloc (.cells #[.int .i64 0, .int .i64 0] 37)) HCL.out (by omega) HS910.out.rd HS10.out.rd)
    clear hs10 hb10 hba hbb hk10 hp10 hq10 hf10 hg10 hh10 HK9 HP9 HQ9 HF9 HG9 o0 o1 o2 o3 o4 o5 o6 o7 o8 o9
    go_wp2_with fail
    clear g0 i0 l0
    generalize w10.alloc (.cells #[.int .i64 0, .int .i64 0] 37) = Wa at *
    refine HSC.out.mono ?_
    rintro e w11 ⟨rfl, n11, rfl⟩
    have hz11 : (Wa.drewN n11).heap.size = Wa.heap.size := rfl
    have hbd := bw_d (Below.refl Wa.heap.size Wa) n11
    have hk11 := HK10.out.below hbd (by omega)
    have hp11 := HP10.out.below hbd (by omega)
    have hq11 := HQ10.out.below hbd (by omega)
    have HB11 := hid (HB10.out.trans (hbd.mono (by omega)))
    have o0 := hq11.cell 0
    have o1 := hq11.cell 1
    have o2 := hq11.cell 2
    have o3 := hq11.cell 3
    have o4 := hq11.cell 4
    have o5 := hq11.cell 5
    have o6 := hq11.cell 6
    have o7 := hq11.cell 7
    have o8 := hq11.cell 8
    have o9 := hq11.cell 9
    simp only [List.getElem?_toArray, List.getElem?_cons_zero, List.getElem?_cons_succ] at o0 o1 o2 o3 o4 o5 o6 o7 o8 o9
    have e0 := hp11.cell 0
    have e1 := hp11.cell 1
    have e2 := hp11.cell 2
    simp only [List.getElem?_toArray, List.getElem?_cons_zero, List.getElem?_cons_succ] at e0 e1 e2
    have HK11 := hid hk11; have HP11 := hid hp11; have HBD := hid hbd
    generalize Wa.drewN n11 = Wb at *
    clear hk11 hp11 hq11 hbd HK10 HP10 HQ10
    go_wp2_with fail
    refine (HDO.out Wb).mono ?_
    rintro e w12 ⟨rfl, hb12⟩
    have hk12 := HK11.out.below hb12 (by omega)
    have hp12 := HP11.out.below hb12 (by omega)
    have hz12 := hb12.size
    have HB12 := hid (HB11.out.trans (hb12.mono (by omega)))
    have HBC := hid (bw_t HBD.out hb12)
    have c0 := hk12.cell 0
    have c1 := hk12.cell 1
    have c2 := hk12.cell 2
    have c3 := hk12.cell 3
    have c4 := hk12.cell 4
    have c5 := hk12.cell 5
    have c6 := hk12.cell 6
    have c7 := hk12.cell 7
    have c8 := hk12.cell 8
    have c9 := hk12.cell 9
    simp only [List.getElem?_toArray, List.getElem?_cons_zero, List.getElem?_cons_succ] at c0 c1 c2 c3 c4 c5 c6 c7 c8 c9
    clear o0 o1 o2 o3 o4 o5 o6 o7 o8 o9 e0 e1 e2
    have e0 := hp12.cell 0
    have e1 := hp12.cell 1
    have e2 := hp12.cell 2
    simp only [List.getElem?_toArray, List.getElem?_cons_zero, List.getElem?_cons_succ] at e0 e1 e2
    clear hk12 hp12 hb12 HK11 HP11
    go_wp2_with fail
    refine (HDM.out w12).mono ?_
    rintro e w13 ⟨rfl, hb13⟩
    have hz13 := hb13.size
    have HB13 := hid (HB12.out.trans (hb13.mono (by omega)))
    have hbe := bw_t HBC.out hb13
    have hsm := same_at eb cb el cl A3 A9 q3 q9 w13 HEE.out HCL.out (by omega) (HSL6.out.below (bw_t HB610.out hbe)).rd (HS910.out.below hbe).rd
    have hbeq : decide (eb = cb) = db := HDB.out
    rw [hbeq] at hsm
    have HSS := hid hsm
    clear hb13 hbe hsm hbeq c0 c1 c2 c3 c4 c5 c6 c7 c8 c9 e0 e1 e2
    go_wp2_with fail
    refine HSS.out.mono ?_
    rintro e w14 ⟨rfl, n14, rfl⟩
    have HB14 := hid (bw_d' HB13.out n14)
    go_wp2_with fail
    go_ret
    exact ⟨by first | rfl | exact ret_bool (by simp) | (cases db <;> rfl), HB14.out⟩
  · have hset := HST.out h h9
    have tI : ¬ (ty : Int) = 10 := by omega
    have tJ : ¬ (ty : Int) ≤ 6 := by omega
    have sI : (sl : Int) < 2 := by omega
    have sI0 : (0 : Int) ≤ (sl : Int) := by omega
    have HSET := hid hset
    have hku := HKU5.out
    obtain ⟨u, hu⟩ : ∃ u, (#[.int .u8 (M.k : Int), .int .u64 (M.n0 : Int), .int .u64 (M.n1 : Int), .int .u64 (M.n2 : Int), .int .u64 (M.n3 : Int), .int .u64 (M.n4 : Int), .int .u64 (M.n5 : Int), .string M.s0, .string M.s1, .slice A' len c'] : Array Value)[7 + sl]? = some u := ⟨_, Array.getElem?_eq_getElem (by simp; omega)⟩
    have g0 := (hku.cell (7 + sl)).trans hu
    have g1 := hku.frozen (7 + sl)
    clear hset hku HSN HST HSL9 h h9 hu
    go_wp2_with fail
    have hset := HSET.out
    simp only [List.setIfInBounds_toArray] at hset
    rw [hset]
    have hku6 := Blk.new w5 27 #[.int .u8 (U.k : Int), .int .u64 (U.n0 : Int), .int .u64 (U.n1 : Int), .int .u64 (U.n2 : Int), .int .u64 (U.n3 : Int), .int .u64 (U.n4 : Int), .int .u64 (U.n5 : Int), .string U.s0, .string U.s1, .slice U.A lu U.c]
    have hb56 := bw_a (Below.refl w5.heap.size w5) (.cells #[.int .u8 (U.k : Int), .int .u64 (U.n0 : Int), .int .u64 (U.n1 : Int), .int .u64 (U.n2 : Int), .int .u64 (U.n3 : Int), .int .u64 (U.n4 : Int), .int .u64 (U.n5 : Int), .string U.s0, .string U.s1, .slice U.A lu U.c] 27)
    have hz6 : (w5.alloc (.cells #[.int .u8 (U.k : Int), .int .u64 (U.n0 : Int), .int .u64 (U.n1 : Int), .int .u64 (U.n2 : Int), .int .u64 (U.n3 : Int), .int .u64 (U.n4 : Int), .int .u64 (U.n5 : Int), .string U.s0, .string U.s1, .slice U.A lu U.c] 27)).heap.size = w5.heap.size + 1 := World.size_alloc _ _
    generalize w5.alloc (.cells #[.int .u8 (U.k : Int), .int .u64 (U.n0 : Int), .int .u64 (U.n1 : Int), .int .u64 (U.n2 : Int), .int .u64 (U.n3 : Int), .int .u64 (U.n4 : Int), .int .u64 (U.n5 : Int), .string U.s0, .string U.s1, .slice U.A lu U.c] 27) = W6 at *
    have HKM6 := hid (HK5'.out.below hb56 (by omega))
    have HKP6 := hid (HP5'.out.below hb56 (by omega))
    have HKU6 := hid hku6
    have HSL6 := hid (HS35.out.below hb56)
    have HB6 := hid (HB5.out.trans (hb56.mono (by omega)))
    have HBO := hid (fun W (hW : Below W6.heap.size W6 W) => HBO5.out W (bw_t hb56 hW))
    have hlm6 : s < W6.heap.size := by omega
    have hlp6 : w4.heap.size < W6.heap.size := by omega
    have hlq6 : w5.heap.size < W6.heap.size := by omega
    clear g0 g1 hset hku6 hb56 e0 e1 e2 HBO5 HS35 HB5 HP5 HK5 HKU5 HBA5 HSET HS5 HP5' HK5'
    refine (HFI.out W6 _ _ HSL6.out).mono ?_
    rintro e w7 ⟨vv7, b7, pre, rfl, hb7s, ho7, hfa, hsl7, hb7⟩
    obtain ⟨A7, q7, rfl, hs7⟩ := SlN.of_own (by omega) ho7
    obtain ⟨m7, hm7⟩ : ∃ m, pre.length = m := ⟨_, rfl⟩
    rw [hm7] at hs7 ⊢
    have hpr := HPRE.out pre hfa
    rw [hm7] at hpr
    have hk7 := HKM6.out.below hb7 hlm6
    have hp7 := HKP6.out.below hb7 hlp6
    have hq7 := HKU6.out.below hb7 hlq6
    have hz7 := hb7.size
    have hlk7 := hk7.lt
    have hlp7 := hp7.lt
    have hlq7 := hq7.lt
    have HB7 := hid (HB6.out.trans (hb7.mono (by omega)))
    have HB67 := hid hb7
    have hfo7 : ∀ f ∈ pre, FvOk w7 f := fun f hf => (hpr.2 f hf).ok (hsl7 f hf).1
    have hx7 : ∀ f ∈ pre, f.s.xs.length ≤ 8200 := fun f hf => by have := (hpr.2 f hf).2.2.2.2.2.2.2; simp only [fvK] at this; omega
    have hba := bw_a (Below.refl w7.heap.size w7) (.cells #[.int .i64 0, .int .i64 0] 37)
    have hkf7 := Blk.new w7 37 #[.int .i64 0, .int .i64 0]
    have hwo := swo8_any pre m7 A7 q7 (nu : Int) (w7.alloc (.cells #[.int .i64 0, .int .i64 0] 37)) hm7 (by omega) (hs7.below hba) (fun f hf => (hfo7 f hf).below hba) hx7
    have hk7 := hk7.below hba (by omega)
    have hp7 := hp7.below hba (by omega)
    have hq7 := hq7.below hba (by omega)
    have HBA := hid hba
    have HWO := hid hwo
    have HKF7 := hid hkf7
    have HK7 := hid hk7
    have HP7 := hid hp7
    have HQ7 := hid hq7
    have HFA := hid hfa
    have hz7a : (w7.alloc (.cells #[.int .i64 0, .int .i64 0] 37)).heap.size = w7.heap.size + 1 := World.size_alloc _ _
    have e0 := hp7.cell 0
    have e1 := hp7.cell 1
    have e2 := hp7.cell 2
    simp only [List.getElem?_toArray, List.getElem?_cons_zero, List.getElem?_cons_succ] at e0 e1 e2
    clear ho7 hfa hsl7 hb7 hs7 hfo7 hx7 hba hwo hkf7 hk7 hp7 hq7 hpr
    go_wp2_with fail
    refine HWO.out.mono ?_
    rintro e w8 ⟨vv8, fs, rfl, ho8, hfs8, how8, hb8⟩
    obtain ⟨A8, q8, rfl, hs8⟩ := SlN.of_own (by omega) ho8
    have hou := HOUT.out pre fs HFA.out hfs8
    obtain ⟨m8, hm8⟩ : ∃ m, fs.length = m := ⟨_, rfl⟩
    rw [hm8] at hs8 hou ⊢
    obtain ⟨hl8, hko8, hpe8, hfm8⟩ := hou
    have hz8 := hb8.size
    have hput := sputs8_any fs m8 A8 q8 w8 hm8 hl8 hs8 (fun f hf => (hko8 f hf).ok (Sl.of_own' (how8 f hf))) (fun f hf => by have := (hko8 f hf).2.2.2.2.2.2.2; simp only [fvK] at this; omega)
    rw [hpe8, hfm8, HCL.out] at hput
    have hk8 := HK7.out.below hb8 (by omega)
    have hp8 := HP7.out.below hb8 (by omega)
    have hq8 := HQ7.out.below hb8 (by omega)
    have hf8 := HKF7.out.below hb8 (by omega)
    have hlk8 := hk8.lt
    have hlp8 := hp8.lt
    have hlq8 := hq8.lt
    have hlf8 := hf8.lt
    have HPUT := hid hput
    have HB8 := hid (HB7.out.trans ((bw_t HBA.out hb8).mono (by omega)))
    have HB68 := hid (bw_t HB67.out (bw_t HBA.out hb8))
    have HK8 := hid hk8; have HP8 := hid hp8; have HQ8 := hid hq8; have HF8 := hid hf8
    clear ho8 hfs8 how8 hb8 hs8 hko8 hpe8 hfm8 hput hk8 hp8 hq8 hf8 HPRE HWO HK7 HP7 HQ7 HKF7 HBA HOUT HFA e0 e1 e2
    go_wp2_with fail
    refine HPUT.out.mono ?_
    rintro e w9 ⟨h9, hb9⟩
    obtain ⟨v9, rfl, ho9⟩ : ∃ v, e = .returned (.tuple #[v, .agg #[.int .i64 0, .int .i64 0]]) ∧ w9.ownsRow w8.heap.size 5 1 v cl (cb.map bv) := by
      rcases h9 with ⟨-, v, he, ho⟩ | ⟨hne, -⟩
      · exact ⟨v, he, ho⟩
      · exact absurd rfl hne
    obtain ⟨A9, q9, rfl⟩ := row_slice' ho9
    have hs9 := Sl.of_own' ho9
    have hz9 := hb9.size
    have hlk9 : s < w9.heap.size := by omega
    have hlp9 : w4.heap.size < w9.heap.size := by omega
    have hlq9 : w5.heap.size < w9.heap.size := by omega
    have hlf9 : w7.heap.size < w9.heap.size := by omega
    have hba := bw_a (Below.refl w9.heap.size w9) (.cells #[.int .i64 0, .int .i64 0] 37)
    have hk9 := (HK8.out.below hb9 (by omega)).below hba (by omega)
    have hp9 := (HP8.out.below hb9 (by omega)).below hba (by omega)
    have hq9 := (HQ8.out.below hb9 (by omega)).below hba (by omega)
    have hf9 := (HF8.out.below hb9 (by omega)).below hba (by omega)
    have hg9 := Blk.new w9 37 #[.int .i64 0, .int .i64 0]
    have hz9a : (w9.alloc (.cells #[.int .i64 0, .int .i64 0] 37)).heap.size = w9.heap.size + 1 := World.size_alloc _ _
    have HB9 := hid (HB8.out.trans ((bw_t hb9 hba).mono (by omega)))
    have HB69 := hid (bw_t HB68.out (bw_t hb9 hba))
    have HS9 := hid (hs9.below hba)
    have o0 := hq9.cell 0
    have o1 := hq9.cell 1
    have o2 := hq9.cell 2
    have o3 := hq9.cell 3
    have o4 := hq9.cell 4
    have o5 := hq9.cell 5
    have o6 := hq9.cell 6
    have o7 := hq9.cell 7
    have o8 := hq9.cell 8
    have o9 := hq9.cell 9
    simp only [List.getElem?_toArray, List.getElem?_cons_zero, List.getElem?_cons_succ] at o0 o1 o2 o3 o4 o5 o6 o7 o8 o9
    have HK9 := hid hk9; have HP9 := hid hp9; have HQ9 := hid hq9; have HF9 := hid hf9; have HG9 := hid hg9
    clear h9 hb9 ho9 hs9 hba hk9 hp9 hq9 hf9 hg9 HK8 HP8 HQ8 HF8 HPUT
    go_wp2_with fail
    refine (HBO.out _ HB69.out).mono ?_
    rintro e w10 ⟨A10, q10, rfl, hs10, hb10⟩
    have hz10 := hb10.size
    have hlk10 : s < w10.heap.size := by omega
    have hlp10 : w4.heap.size < w10.heap.size := by omega
    have hlq10 : w5.heap.size < w10.heap.size := by omega
    have hlf10 : w7.heap.size < w10.heap.size := by omega
    have hlg10 : w9.heap.size < w10.heap.size := by omega
    have hba := bw_a (Below.refl w10.heap.size w10) (.cells #[.int .i64 0, .int .i64 0] 37)
    have hbb := bw_t hb10 hba
    have hk10 := HK9.out.below hbb (by omega)
    have hp10 := HP9.out.below hbb (by omega)
    have hq10 := HQ9.out.below hbb (by omega)
    have hf10 := HF9.out.below hbb (by omega)
    have hg10 := HG9.out.below hbb (by omega)
    have hh10 := Blk.new w10 37 #[.int .i64 0, .int .i64 0]
    have hz10a : (w10.alloc (.cells #[.int .i64 0, .int .i64 0] 37)).heap.size = w10.heap.size + 1 := World.size_alloc _ _
    have HB10 := hid (HB9.out.trans (hbb.mono (by omega)))
    have HB610 := hid (bw_t HB69.out hbb)
    have HS10 := hid (hs10.below hba)
    have HS910 := hid (HS9.out.below hbb)
    have g0 := hf10.cell 0
    have i0 := hg10.cell 0
    have l0 := hh10.cell 0
    simp only [List.getElem?_toArray, List.getElem?_cons_zero] at g0 i0 l0
    have HK10 := hid hk10; have HP10 := hid hp10; have HQ10 := hid hq10
    have HSC := hid (same_self cb cl A9 A10 q9 q10 (w10.alloc (.cells #[.int .i64 0, .int .i64 0] 37)) HCL.out (by omega) HS910.out.rd HS10.out.rd)
    clear hs10 hb10 hba hbb hk10 hp10 hq10 hf10 hg10 hh10 HK9 HP9 HQ9 HF9 HG9 o0 o1 o2 o3 o4 o5 o6 o7 o8 o9
    go_wp2_with fail
    clear g0 i0 l0
    generalize w10.alloc (.cells #[.int .i64 0, .int .i64 0] 37) = Wa at *
    refine HSC.out.mono ?_
    rintro e w11 ⟨rfl, n11, rfl⟩
    have hz11 : (Wa.drewN n11).heap.size = Wa.heap.size := rfl
    have hbd := bw_d (Below.refl Wa.heap.size Wa) n11
    have hk11 := HK10.out.below hbd (by omega)
    have hp11 := HP10.out.below hbd (by omega)
    have hq11 := HQ10.out.below hbd (by omega)
    have HB11 := hid (HB10.out.trans (hbd.mono (by omega)))
    have o0 := hq11.cell 0
    have o1 := hq11.cell 1
    have o2 := hq11.cell 2
    have o3 := hq11.cell 3
    have o4 := hq11.cell 4
    have o5 := hq11.cell 5
    have o6 := hq11.cell 6
    have o7 := hq11.cell 7
    have o8 := hq11.cell 8
    have o9 := hq11.cell 9
    simp only [List.getElem?_toArray, List.getElem?_cons_zero, List.getElem?_cons_succ] at o0 o1 o2 o3 o4 o5 o6 o7 o8 o9
    have e0 := hp11.cell 0
    have e1 := hp11.cell 1
    have e2 := hp11.cell 2
    simp only [List.getElem?_toArray, List.getElem?_cons_zero, List.getElem?_cons_succ] at e0 e1 e2
    have HK11 := hid hk11; have HP11 := hid hp11; have HBD := hid hbd
    generalize Wa.drewN n11 = Wb at *
    clear hk11 hp11 hq11 hbd HK10 HP10 HQ10
    go_wp2_with fail
    refine (HDO.out Wb).mono ?_
    rintro e w12 ⟨rfl, hb12⟩
    have hk12 := HK11.out.below hb12 (by omega)
    have hp12 := HP11.out.below hb12 (by omega)
    have hz12 := hb12.size
    have HB12 := hid (HB11.out.trans (hb12.mono (by omega)))
    have HBC := hid (bw_t HBD.out hb12)
    have c0 := hk12.cell 0
    have c1 := hk12.cell 1
    have c2 := hk12.cell 2
    have c3 := hk12.cell 3
    have c4 := hk12.cell 4
    have c5 := hk12.cell 5
    have c6 := hk12.cell 6
    have c7 := hk12.cell 7
    have c8 := hk12.cell 8
    have c9 := hk12.cell 9
    simp only [List.getElem?_toArray, List.getElem?_cons_zero, List.getElem?_cons_succ] at c0 c1 c2 c3 c4 c5 c6 c7 c8 c9
    clear o0 o1 o2 o3 o4 o5 o6 o7 o8 o9 e0 e1 e2
    have e0 := hp12.cell 0
    have e1 := hp12.cell 1
    have e2 := hp12.cell 2
    simp only [List.getElem?_toArray, List.getElem?_cons_zero, List.getElem?_cons_succ] at e0 e1 e2
    clear hk12 hp12 hb12 HK11 HP11
    go_wp2_with fail
    refine (HDM.out w12).mono ?_
    rintro e w13 ⟨rfl, hb13⟩
    have hz13 := hb13.size
    have HB13 := hid (HB12.out.trans (hb13.mono (by omega)))
    have hbe := bw_t HBC.out hb13
    have hsm := same_at eb cb el cl A3 A9 q3 q9 w13 HEE.out HCL.out (by omega) (HSL6.out.below (bw_t HB610.out hbe)).rd (HS910.out.below hbe).rd
    have hbeq : decide (eb = cb) = db := HDB.out
    rw [hbeq] at hsm
    have HSS := hid hsm
    clear hb13 hbe hsm hbeq c0 c1 c2 c3 c4 c5 c6 c7 c8 c9 e0 e1 e2
    go_wp2_with fail
    refine HSS.out.mono ?_
    rintro e w14 ⟨rfl, n14, rfl⟩
    have HB14 := hid (bw_d' HB13.out n14)
    go_wp2_with fail
    go_ret
    exact ⟨by first | rfl | exact ret_bool (by simp) | (cases db <;> rfl), HB14.out⟩
  · subst h
    have hset := HSL9.out rfl
    rw [show ((10 : Nat) : Int) = 10 from rfl] at e1
    have HSET := hid hset
    have hku := HKU5.out
    have g0 := hku.cell 9
    have g1 := hku.frozen 9
    simp only [List.getElem?_toArray, List.getElem?_cons_zero, List.getElem?_cons_succ] at g0
    clear hset hku HSN HST HSL9
    go_wp2_with fail
    have hset := HSET.out
    simp only [List.setIfInBounds_toArray, List.set_cons_succ, List.set_cons_zero] at hset
    rw [hset]
    have hku6 := Blk.new w5 27 #[.int .u8 (U.k : Int), .int .u64 (U.n0 : Int), .int .u64 (U.n1 : Int), .int .u64 (U.n2 : Int), .int .u64 (U.n3 : Int), .int .u64 (U.n4 : Int), .int .u64 (U.n5 : Int), .string U.s0, .string U.s1, .slice U.A lu U.c]
    have hb56 := bw_a (Below.refl w5.heap.size w5) (.cells #[.int .u8 (U.k : Int), .int .u64 (U.n0 : Int), .int .u64 (U.n1 : Int), .int .u64 (U.n2 : Int), .int .u64 (U.n3 : Int), .int .u64 (U.n4 : Int), .int .u64 (U.n5 : Int), .string U.s0, .string U.s1, .slice U.A lu U.c] 27)
    have hz6 : (w5.alloc (.cells #[.int .u8 (U.k : Int), .int .u64 (U.n0 : Int), .int .u64 (U.n1 : Int), .int .u64 (U.n2 : Int), .int .u64 (U.n3 : Int), .int .u64 (U.n4 : Int), .int .u64 (U.n5 : Int), .string U.s0, .string U.s1, .slice U.A lu U.c] 27)).heap.size = w5.heap.size + 1 := World.size_alloc _ _
    generalize w5.alloc (.cells #[.int .u8 (U.k : Int), .int .u64 (U.n0 : Int), .int .u64 (U.n1 : Int), .int .u64 (U.n2 : Int), .int .u64 (U.n3 : Int), .int .u64 (U.n4 : Int), .int .u64 (U.n5 : Int), .string U.s0, .string U.s1, .slice U.A lu U.c] 27) = W6 at *
    have HKM6 := hid (HK5'.out.below hb56 (by omega))
    have HKP6 := hid (HP5'.out.below hb56 (by omega))
    have HKU6 := hid hku6
    have HSL6 := hid (HS35.out.below hb56)
    have HB6 := hid (HB5.out.trans (hb56.mono (by omega)))
    have HBO := hid (fun W (hW : Below W6.heap.size W6 W) => HBO5.out W (bw_t hb56 hW))
    have hlm6 : s < W6.heap.size := by omega
    have hlp6 : w4.heap.size < W6.heap.size := by omega
    have hlq6 : w5.heap.size < W6.heap.size := by omega
    clear g0 g1 hset hku6 hb56 e0 e1 e2 HBO5 HS35 HB5 HP5 HK5 HKU5 HBA5 HSET HS5 HP5' HK5'
    refine (HFI.out W6 _ _ HSL6.out).mono ?_
    rintro e w7 ⟨vv7, b7, pre, rfl, hb7s, ho7, hfa, hsl7, hb7⟩
    obtain ⟨A7, q7, rfl, hs7⟩ := SlN.of_own (by omega) ho7
    obtain ⟨m7, hm7⟩ : ∃ m, pre.length = m := ⟨_, rfl⟩
    rw [hm7] at hs7 ⊢
    have hpr := HPRE.out pre hfa
    rw [hm7] at hpr
    have hk7 := HKM6.out.below hb7 hlm6
    have hp7 := HKP6.out.below hb7 hlp6
    have hq7 := HKU6.out.below hb7 hlq6
    have hz7 := hb7.size
    have hlk7 := hk7.lt
    have hlp7 := hp7.lt
    have hlq7 := hq7.lt
    have HB7 := hid (HB6.out.trans (hb7.mono (by omega)))
    have HB67 := hid hb7
    have hfo7 : ∀ f ∈ pre, FvOk w7 f := fun f hf => (hpr.2 f hf).ok (hsl7 f hf).1
    have hx7 : ∀ f ∈ pre, f.s.xs.length ≤ 8200 := fun f hf => by have := (hpr.2 f hf).2.2.2.2.2.2.2; simp only [fvK] at this; omega
    have hba := bw_a (Below.refl w7.heap.size w7) (.cells #[.int .i64 0, .int .i64 0] 37)
    have hkf7 := Blk.new w7 37 #[.int .i64 0, .int .i64 0]
    have hwo := swo8_any pre m7 A7 q7 (nu : Int) (w7.alloc (.cells #[.int .i64 0, .int .i64 0] 37)) hm7 (by omega) (hs7.below hba) (fun f hf => (hfo7 f hf).below hba) hx7
    have hk7 := hk7.below hba (by omega)
    have hp7 := hp7.below hba (by omega)
    have hq7 := hq7.below hba (by omega)
    have HBA := hid hba
    have HWO := hid hwo
    have HKF7 := hid hkf7
    have HK7 := hid hk7
    have HP7 := hid hp7
    have HQ7 := hid hq7
    have HFA := hid hfa
    have hz7a : (w7.alloc (.cells #[.int .i64 0, .int .i64 0] 37)).heap.size = w7.heap.size + 1 := World.size_alloc _ _
    have e0 := hp7.cell 0
    have e1 := hp7.cell 1
    have e2 := hp7.cell 2
    simp only [List.getElem?_toArray, List.getElem?_cons_zero, List.getElem?_cons_succ] at e0 e1 e2
    clear ho7 hfa hsl7 hb7 hs7 hfo7 hx7 hba hwo hkf7 hk7 hp7 hq7 hpr
    go_wp2_with fail
    refine HWO.out.mono ?_
    rintro e w8 ⟨vv8, fs, rfl, ho8, hfs8, how8, hb8⟩
    obtain ⟨A8, q8, rfl, hs8⟩ := SlN.of_own (by omega) ho8
    have hou := HOUT.out pre fs HFA.out hfs8
    obtain ⟨m8, hm8⟩ : ∃ m, fs.length = m := ⟨_, rfl⟩
    rw [hm8] at hs8 hou ⊢
    obtain ⟨hl8, hko8, hpe8, hfm8⟩ := hou
    have hz8 := hb8.size
    have hput := sputs8_any fs m8 A8 q8 w8 hm8 hl8 hs8 (fun f hf => (hko8 f hf).ok (Sl.of_own' (how8 f hf))) (fun f hf => by have := (hko8 f hf).2.2.2.2.2.2.2; simp only [fvK] at this; omega)
    rw [hpe8, hfm8, HCL.out] at hput
    have hk8 := HK7.out.below hb8 (by omega)
    have hp8 := HP7.out.below hb8 (by omega)
    have hq8 := HQ7.out.below hb8 (by omega)
    have hf8 := HKF7.out.below hb8 (by omega)
    have hlk8 := hk8.lt
    have hlp8 := hp8.lt
    have hlq8 := hq8.lt
    have hlf8 := hf8.lt
    have HPUT := hid hput
    have HB8 := hid (HB7.out.trans ((bw_t HBA.out hb8).mono (by omega)))
    have HB68 := hid (bw_t HB67.out (bw_t HBA.out hb8))
    have HK8 := hid hk8; have HP8 := hid hp8; have HQ8 := hid hq8; have HF8 := hid hf8
    clear ho8 hfs8 how8 hb8 hs8 hko8 hpe8 hfm8 hput hk8 hp8 hq8 hf8 HPRE HWO HK7 HP7 HQ7 HKF7 HBA HOUT HFA e0 e1 e2
    go_wp2_with fail
    refine HPUT.out.mono ?_
    rintro e w9 ⟨h9, hb9⟩
    obtain ⟨v9, rfl, ho9⟩ : ∃ v, e = .returned (.tuple #[v, .agg #[.int .i64 0, .int .i64 0]]) ∧ w9.ownsRow w8.heap.size 5 1 v cl (cb.map bv) := by
      rcases h9 with ⟨-, v, he, ho⟩ | ⟨hne, -⟩
      · exact ⟨v, he, ho⟩
      · exact absurd rfl hne
    obtain ⟨A9, q9, rfl⟩ := row_slice' ho9
    have hs9 := Sl.of_own' ho9
    have hz9 := hb9.size
    have hlk9 : s < w9.heap.size := by omega
    have hlp9 : w4.heap.size < w9.heap.size := by omega
    have hlq9 : w5.heap.size < w9.heap.size := by omega
    have hlf9 : w7.heap.size < w9.heap.size := by omega
    have hba := bw_a (Below.refl w9.heap.size w9) (.cells #[.int .i64 0, .int .i64 0] 37)
    have hk9 := (HK8.out.below hb9 (by omega)).below hba (by omega)
    have hp9 := (HP8.out.below hb9 (by omega)).below hba (by omega)
    have hq9 := (HQ8.out.below hb9 (by omega)).below hba (by omega)
    have hf9 := (HF8.out.below hb9 (by omega)).below hba (by omega)
    have hg9 := Blk.new w9 37 #[.int .i64 0, .int .i64 0]
    have hz9a : (w9.alloc (.cells #[.int .i64 0, .int .i64 0] 37)).heap.size = w9.heap.size + 1 := World.size_alloc _ _
    have HB9 := hid (HB8.out.trans ((bw_t hb9 hba).mono (by omega)))
    have HB69 := hid (bw_t HB68.out (bw_t hb9 hba))
    have HS9 := hid (hs9.below hba)
    have o0 := hq9.cell 0
    have o1 := hq9.cell 1
    have o2 := hq9.cell 2
    have o3 := hq9.cell 3
    have o4 := hq9.cell 4
    have o5 := hq9.cell 5
    have o6 := hq9.cell 6
    have o7 := hq9.cell 7
    have o8 := hq9.cell 8
    have o9 := hq9.cell 9
    simp only [List.getElem?_toArray, List.getElem?_cons_zero, List.getElem?_cons_succ] at o0 o1 o2 o3 o4 o5 o6 o7 o8 o9
    have HK9 := hid hk9; have HP9 := hid hp9; have HQ9 := hid hq9; have HF9 := hid hf9; have HG9 := hid hg9
    clear h9 hb9 ho9 hs9 hba hk9 hp9 hq9 hf9 hg9 HK8 HP8 HQ8 HF8 HPUT
    go_wp2_with fail
    refine (HBO.out _ HB69.out).mono ?_
    rintro e w10 ⟨A10, q10, rfl, hs10, hb10⟩
    have hz10 := hb10.size
    have hlk10 : s < w10.heap.size := by omega
    have hlp10 : w4.heap.size < w10.heap.size := by omega
    have hlq10 : w5.heap.size < w10.heap.size := by omega
    have hlf10 : w7.heap.size < w10.heap.size := by omega
    have hlg10 : w9.heap.size < w10.heap.size := by omega
    have hba := bw_a (Below.refl w10.heap.size w10) (.cells #[.int .i64 0, .int .i64 0] 37)
    have hbb := bw_t hb10 hba
    have hk10 := HK9.out.below hbb (by omega)
    have hp10 := HP9.out.below hbb (by omega)
    have hq10 := HQ9.out.below hbb (by omega)
    have hf10 := HF9.out.below hbb (by omega)
    have hg10 := HG9.out.below hbb (by omega)
    have hh10 := Blk.new w10 37 #[.int .i64 0, .int .i64 0]
    have hz10a : (w10.alloc (.cells #[.int .i64 0, .int .i64 0] 37)).heap.size = w10.heap.size + 1 := World.size_alloc _ _
    have HB10 := hid (HB9.out.trans (hbb.mono (by omega)))
    have HB610 := hid (bw_t HB69.out hbb)
    have HS10 := hid (hs10.below hba)
    have HS910 := hid (HS9.out.below hbb)
    have g0 := hf10.cell 0
    have i0 := hg10.cell 0
    have l0 := hh10.cell 0
    simp only [List.getElem?_toArray, List.getElem?_cons_zero] at g0 i0 l0
    have HK10 := hid hk10; have HP10 := hid hp10; have HQ10 := hid hq10
    have HSC := hid (same_self cb cl A9 A10 q9 q10 (w10.alloc (.cells #[.int .i64 0, .int .i64 0] 37)) HCL.out (by omega) HS910.out.rd HS10.out.rd)
    clear hs10 hb10 hba hbb hk10 hp10 hq10 hf10 hg10 hh10 HK9 HP9 HQ9 HF9 HG9 o0 o1 o2 o3 o4 o5 o6 o7 o8 o9
    go_wp2_with fail
    clear g0 i0 l0
    generalize w10.alloc (.cells #[.int .i64 0, .int .i64 0] 37) = Wa at *
    refine HSC.out.mono ?_
    rintro e w11 ⟨rfl, n11, rfl⟩
    have hz11 : (Wa.drewN n11).heap.size = Wa.heap.size := rfl
    have hbd := bw_d (Below.refl Wa.heap.size Wa) n11
    have hk11 := HK10.out.below hbd (by omega)
    have hp11 := HP10.out.below hbd (by omega)
    have hq11 := HQ10.out.below hbd (by omega)
    have HB11 := hid (HB10.out.trans (hbd.mono (by omega)))
    have o0 := hq11.cell 0
    have o1 := hq11.cell 1
    have o2 := hq11.cell 2
    have o3 := hq11.cell 3
    have o4 := hq11.cell 4
    have o5 := hq11.cell 5
    have o6 := hq11.cell 6
    have o7 := hq11.cell 7
    have o8 := hq11.cell 8
    have o9 := hq11.cell 9
    simp only [List.getElem?_toArray, List.getElem?_cons_zero, List.getElem?_cons_succ] at o0 o1 o2 o3 o4 o5 o6 o7 o8 o9
    have e0 := hp11.cell 0
    have e1 := hp11.cell 1
    have e2 := hp11.cell 2
    simp only [List.getElem?_toArray, List.getElem?_cons_zero, List.getElem?_cons_succ] at e0 e1 e2
    have HK11 := hid hk11; have HP11 := hid hp11; have HBD := hid hbd
    generalize Wa.drewN n11 = Wb at *
    clear hk11 hp11 hq11 hbd HK10 HP10 HQ10
    go_wp2_with fail
    refine (HDO.out Wb).mono ?_
    rintro e w12 ⟨rfl, hb12⟩
    have hk12 := HK11.out.below hb12 (by omega)
    have hp12 := HP11.out.below hb12 (by omega)
    have hz12 := hb12.size
    have HB12 := hid (HB11.out.trans (hb12.mono (by omega)))
    have HBC := hid (bw_t HBD.out hb12)
    have c0 := hk12.cell 0
    have c1 := hk12.cell 1
    have c2 := hk12.cell 2
    have c3 := hk12.cell 3
    have c4 := hk12.cell 4
    have c5 := hk12.cell 5
    have c6 := hk12.cell 6
    have c7 := hk12.cell 7
    have c8 := hk12.cell 8
    have c9 := hk12.cell 9
    simp only [List.getElem?_toArray, List.getElem?_cons_zero, List.getElem?_cons_succ] at c0 c1 c2 c3 c4 c5 c6 c7 c8 c9
    clear o0 o1 o2 o3 o4 o5 o6 o7 o8 o9 e0 e1 e2
    have e0 := hp12.cell 0
    have e1 := hp12.cell 1
    have e2 := hp12.cell 2
    simp only [List.getElem?_toArray, List.getElem?_cons_zero, List.getElem?_cons_succ] at e0 e1 e2
    clear hk12 hp12 hb12 HK11 HP11
    go_wp2_with fail
    refine (HDM.out w12).mono ?_
    rintro e w13 ⟨rfl, hb13⟩
    have hz13 := hb13.size
    have HB13 := hid (HB12.out.trans (hb13.mono (by omega)))
    have hbe := bw_t HBC.out hb13
    have hsm := same_at eb cb el cl A3 A9 q3 q9 w13 HEE.out HCL.out (by omega) (HSL6.out.below (bw_t HB610.out hbe)).rd (HS910.out.below hbe).rd
    have hbeq : decide (eb = cb) = db := HDB.out
    rw [hbeq] at hsm
    have HSS := hid hsm
    clear hb13 hbe hsm hbeq c0 c1 c2 c3 c4 c5 c6 c7 c8 c9 e0 e1 e2
    go_wp2_with fail
    refine HSS.out.mono ?_
    rintro e w14 ⟨rfl, n14, rfl⟩
    have HB14 := hid (bw_d' HB13.out n14)
    go_wp2_with fail
    go_ret
    exact ⟨by first | rfl | exact ret_bool (by simp) | (cases db <;> rfl), HB14.out⟩


theorem wo_zero {M : MV} {v : Int} (hc : ¬ (chkV M (ofL (M.k : Int) v)).1 = 0) : encB M (ofL (M.k : Int) v) = [] := by
  unfold encB
  exact if_neg hc
set_option maxRecDepth 100000 in
set_option maxHeartbeats 4000000 in
theorem wo_bad (M : MV) (v wh : Int) (w : World) (hok : MvOk w M) (hv1 : -9223372036854775808 ≤ v) (hv2 : v ≤ 9223372036854775807) (hsb : smallB M = true) (hc : ¬ (chkV M (ofL (M.k : Int) v)).1 = 0) : Calls Try.prog 8 #[mvV M, .int .i64 v, .int .u8 wh] w fun e w' => e = .returned (.bool true) ∧ Below w.heap.size w w' := by
  have hsm0 := small_sm hsb
  have hlv := fun W => awake5_any W
  have hsm := fun W (hW : Below w.heap.size w W) => small9_any M W (hok.l.below hW)
  rw [hsb] at hsm
  have hby := fun W (hW : Below w.heap.size w W) => (ebytes_any M v W (hok.below hW) hsm0 hv1 hv2).mono (fun e w' h => bytesR_sl h)
  have hez := fun W (hW : Below w.heap.size w W) => esize_any M v W (hok.below hW) hsm0 hv1 hv2
  rw [wo_zero hc] at hby hez
  generalize (chkV M (ofL (M.k : Int) v)).1 = E1 at *
  generalize (chkV M (ofL (M.k : Int) v)).2 = E2 at *
  rw [show ([] : List UInt8).length = 0 from rfl] at hby hez
  have hne : (E1 != 0) = true := by simpa using hc
  obtain ⟨s, hws⟩ : ∃ s, w.heap.size = s := ⟨_, rfl⟩
  rw [hws] at hsm hby hez ⊢
  unfold mvV at hsm hby hez ⊢
  rw [show mvA M = #[.int .u8 (M.k : Int), .int .u64 (M.n0 : Int), .int .u64 (M.n1 : Int), .int .u64 (M.n2 : Int), .int .u64 (M.n3 : Int), .int .u64 (M.n4 : Int), .int .u64 (M.n5 : Int), .string M.s0, .string M.s1, .slice M.A M.l.length M.c] from rfl] at hsm hby hez ⊢
  obtain ⟨len, hlen⟩ : ∃ n, M.l.length = n := ⟨_, rfl⟩
  rw [hlen] at hsm hby hez ⊢
  have HLV := hid hlv; have HSM := hid hsm; have HBY := hid hby; have HEZ := hid hez
  clear hlv hsm hby hez hlen hok hsm0 hsb
  go_enter Try.func8, Try.ntmps8
  go_wp2_with fail
  obtain ⟨W, hW⟩ : ∃ W, w.alloc (.cells #[.int .u8 (M.k : Int), .int .u64 (M.n0 : Int), .int .u64 (M.n1 : Int), .int .u64 (M.n2 : Int), .int .u64 (M.n3 : Int), .int .u64 (M.n4 : Int), .int .u64 (M.n5 : Int), .string M.s0, .string M.s1, .slice M.A len M.c] 27) = W := ⟨_, rfl⟩
  have hk0 : Blk W s 27 #[.int .u8 (M.k : Int), .int .u64 (M.n0 : Int), .int .u64 (M.n1 : Int), .int .u64 (M.n2 : Int), .int .u64 (M.n3 : Int), .int .u64 (M.n4 : Int), .int .u64 (M.n5 : Int), .string M.s0, .string M.s1, .slice M.A len M.c] := by rw [← hW, ← hws]; exact Blk.new w _ _
  have hB : Below s w W := by rw [← hW, ← hws]; exact bw_a (Below.refl _ w) _
  have hlt := hk0.lt
  rw [hW]
  refine (HLV.out W).mono ?_
  rintro e w1 ⟨rfl, hb1⟩
  have hk0 := hk0.below hb1 (by omega)
  have hB := hB.trans (hb1.mono (by omega))
  have hlt := hk0.lt
  have c0 := hk0.cell 0
  have c1 := hk0.cell 1
  have c2 := hk0.cell 2
  have c3 := hk0.cell 3
  have c4 := hk0.cell 4
  have c5 := hk0.cell 5
  have c6 := hk0.cell 6
  have c7 := hk0.cell 7
  have c8 := hk0.cell 8
  have c9 := hk0.cell 9
  simp only [List.getElem?_toArray, List.getElem?_cons_zero, List.getElem?_cons_succ] at c0 c1 c2 c3 c4 c5 c6 c7 c8 c9
  have HK0 := hid hk0
  have HB := hid hB
  clear hW hk0 hb1 hB
  go_wp2_with fail
  refine (HSM.out _ HB.out).mono ?_
  rintro e w2 ⟨rfl, hb2⟩
  have hk0 := HK0.out.below hb2 (by omega)
  have hB2 := HB.out.trans (hb2.mono (by omega))
  have hlt2 := hk0.lt
  clear c0 c1 c2 c3 c4 c5 c6 c7 c8 c9
  have c0 := hk0.cell 0
  have c1 := hk0.cell 1
  have c2 := hk0.cell 2
  have c3 := hk0.cell 3
  have c4 := hk0.cell 4
  have c5 := hk0.cell 5
  have c6 := hk0.cell 6
  have c7 := hk0.cell 7
  have c8 := hk0.cell 8
  have c9 := hk0.cell 9
  simp only [List.getElem?_toArray, List.getElem?_cons_zero, List.getElem?_cons_succ] at c0 c1 c2 c3 c4 c5 c6 c7 c8 c9
  have HK2 := hid hk0
  have HB2 := hid hB2
  clear hk0 hb2 hB2 HK0
  go_wp2_with fail
  refine (HBY.out _ HB2.out).mono ?_
  rintro e w3 ⟨A3, q3, rfl, -, -, hb3⟩
  have hba := bw_a (Below.refl w3.heap.size w3) (.cells #[.int .i64 E1, .int .i64 E2] 37)
  have hz3 := hb3.size
  have hl3 : s < w3.heap.size := by omega
  have hk3 := (HK2.out.below hb3 hlt2).below hba hl3
  have hkf := Blk.new w3 37 #[.int .i64 E1, .int .i64 E2]
  have HB3 := hid (HB2.out.trans ((bw_t hb3 hba).mono (by omega)))
  clear hb3 hba c0 c1 c2 c3 c4 c5 c6 c7 c8 c9
  have c0 := hk3.cell 0
  have c1 := hk3.cell 1
  have c2 := hk3.cell 2
  have c3 := hk3.cell 3
  have c4 := hk3.cell 4
  have c5 := hk3.cell 5
  have c6 := hk3.cell 6
  have c7 := hk3.cell 7
  have c8 := hk3.cell 8
  have c9 := hk3.cell 9
  simp only [List.getElem?_toArray, List.getElem?_cons_zero, List.getElem?_cons_succ] at c0 c1 c2 c3 c4 c5 c6 c7 c8 c9
  have d0 := hkf.cell 0
  have d1 := hkf.cell 1
  simp only [List.getElem?_toArray, List.getElem?_cons_zero, List.getElem?_cons_succ] at d0 d1
  clear hk3 hkf HBY HSM HLV
  go_wp2_with fail
  refine (HEZ.out _ HB3.out).mono ?_
  rintro e w4 ⟨rfl, hb4⟩
  have hz4 := hb4.size
  have hz3a : (w3.alloc (.cells #[.int .i64 E1, .int .i64 E2] 37)).heap.size = w3.heap.size + 1 := World.size_alloc _ _
  have HB4 := hid (HB3.out.trans (hb4.mono (by omega)))
  clear hb4 c0 c1 c2 c3 c4 c5 c6 c7 c8 c9 d0 d1
  go_wp2_with fail
  go_ret
  exact ⟨rfl, HB4.out⟩
set_option maxRecDepth 100000 in
set_option maxHeartbeats 4000000 in
theorem wo_big (M : MV) (v wh : Int) (w : World) (hok : MvOk w M) (hsb : smallB M = false) : Calls Try.prog 8 #[mvV M, .int .i64 v, .int .u8 wh] w fun e w' => e = .returned (.bool true) ∧ Below w.heap.size w w' := by
  have hlv := fun W => awake5_any W
  have hsm := fun W (hW : Below w.heap.size w W) => small9_any M W (hok.l.below hW)
  rw [hsb] at hsm
  obtain ⟨s, hws⟩ : ∃ s, w.heap.size = s := ⟨_, rfl⟩
  rw [hws] at hsm ⊢
  unfold mvV at hsm ⊢
  rw [show mvA M = #[.int .u8 (M.k : Int), .int .u64 (M.n0 : Int), .int .u64 (M.n1 : Int), .int .u64 (M.n2 : Int), .int .u64 (M.n3 : Int), .int .u64 (M.n4 : Int), .int .u64 (M.n5 : Int), .string M.s0, .string M.s1, .slice M.A M.l.length M.c] from rfl] at hsm ⊢
  obtain ⟨len, hlen⟩ : ∃ n, M.l.length = n := ⟨_, rfl⟩
  rw [hlen] at hsm ⊢
  have HLV := hid hlv; have HSM := hid hsm
  clear hlv hsm hlen hok hsb
  go_enter Try.func8, Try.ntmps8
  go_wp2_with fail
  obtain ⟨W, hW⟩ : ∃ W, w.alloc (.cells #[.int .u8 (M.k : Int), .int .u64 (M.n0 : Int), .int .u64 (M.n1 : Int), .int .u64 (M.n2 : Int), .int .u64 (M.n3 : Int), .int .u64 (M.n4 : Int), .int .u64 (M.n5 : Int), .string M.s0, .string M.s1, .slice M.A len M.c] 27) = W := ⟨_, rfl⟩
  have hk0 : Blk W s 27 #[.int .u8 (M.k : Int), .int .u64 (M.n0 : Int), .int .u64 (M.n1 : Int), .int .u64 (M.n2 : Int), .int .u64 (M.n3 : Int), .int .u64 (M.n4 : Int), .int .u64 (M.n5 : Int), .string M.s0, .string M.s1, .slice M.A len M.c] := by rw [← hW, ← hws]; exact Blk.new w _ _
  have hB : Below s w W := by rw [← hW, ← hws]; exact bw_a (Below.refl _ w) _
  have hlt := hk0.lt
  rw [hW]
  refine (HLV.out W).mono ?_
  rintro e w1 ⟨rfl, hb1⟩
  have hk0 := hk0.below hb1 (by omega)
  have hB := hB.trans (hb1.mono (by omega))
  have hlt := hk0.lt
  have c0 := hk0.cell 0
  have c1 := hk0.cell 1
  have c2 := hk0.cell 2
  have c3 := hk0.cell 3
  have c4 := hk0.cell 4
  have c5 := hk0.cell 5
  have c6 := hk0.cell 6
  have c7 := hk0.cell 7
  have c8 := hk0.cell 8
  have c9 := hk0.cell 9
  simp only [List.getElem?_toArray, List.getElem?_cons_zero, List.getElem?_cons_succ] at c0 c1 c2 c3 c4 c5 c6 c7 c8 c9
  have HB := hid hB
  clear hW hk0 hb1 hB
  go_wp2_with fail
  refine (HSM.out _ HB.out).mono ?_
  rintro e w2 ⟨rfl, hb2⟩
  have HB2 := hid (HB.out.trans (hb2.mono (by omega)))
  clear hb2 c0 c1 c2 c3 c4 c5 c6 c7 c8 c9
  go_wp2_with fail
  go_ret
  exact ⟨rfl, HB2.out⟩
theorem wholeWithout_any (M : MV) (v wh : Int) (w : World) (hok : MvOk w M) (hv1 : -9223372036854775808 ≤ v) (hv2 : v ≤ 9223372036854775807) (hw1 : 0 ≤ wh) (hw2 : wh ≤ 255) : Calls Try.prog 8 #[mvV M, .int .i64 v, .int .u8 wh] w fun e w' => e = .returned (.bool true) ∧ Below w.heap.size w w' := by
  cases hsb : smallB M with
  | false => exact wo_big M v wh w hok hsb
  | true =>
    by_cases hc : (chkV M (ofL (M.k : Int) v)).1 = 0
    · exact wo_main M v wh w hok hv1 hv2 hw1 hw2 hsb hc
    · exact wo_bad M v wh w hok hv1 hv2 hsb hc
end Go.Proofs.Ytehjibbjkadoiaa
