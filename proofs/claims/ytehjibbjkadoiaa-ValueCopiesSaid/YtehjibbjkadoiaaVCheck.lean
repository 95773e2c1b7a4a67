/- What is wrong with a message: value.Check. -/
import Derived.Test.YtehjibbjkadoiaaVWrong2
set_option linter.unusedVariables false
namespace Go.Proofs.Ytehjibbjkadoiaa
open Go.RowKit
theorem heldm {w w' : World} (hc : Below w.heap.size w w') {p0 p1 p2 p3 p4 p5 p6 p7 p8 p9 : Addr} {x0 x1 x2 x3 x4 x5 x6 x7 x8 x9 : Value} (h : w.cell? p0 = some x0 ∧ w.cell? p1 = some x1 ∧ w.cell? p2 = some x2 ∧ w.cell? p3 = some x3 ∧ w.cell? p4 = some x4 ∧ w.cell? p5 = some x5 ∧ w.cell? p6 = some x6 ∧ w.cell? p7 = some x7 ∧ w.cell? p8 = some x8 ∧ w.cell? p9 = some x9) : w'.cell? p0 = some x0 ∧ w'.cell? p1 = some x1 ∧ w'.cell? p2 = some x2 ∧ w'.cell? p3 = some x3 ∧ w'.cell? p4 = some x4 ∧ w'.cell? p5 = some x5 ∧ w'.cell? p6 = some x6 ∧ w'.cell? p7 = some x7 ∧ w'.cell? p8 = some x8 ∧ w'.cell? p9 = some x9 := by
  obtain ⟨h0, h1, h2, h3, h4, h5, h6, h7, h8, h9⟩ := h
  have f : ∀ (p : Addr) (x : Value), w.cell? p = some x → w'.cell? p = some x := fun p x h => (hc.cell (World.block_lt_of_cell? w p h)).trans h
  exact ⟨f _ _ h0, f _ _ h1, f _ _ h2, f _ _ h3, f _ _ h4, f _ _ h5, f _ _ h6, f _ _ h7, f _ _ h8, f _ _ h9⟩
/-- The first field with which something is wrong. -/
def fldE (m : MV) (r : SRow) : Int := if dflB m (r.typ : Nat) (r.slot : Nat) then 0 else wrongE m (r.typ : Nat) (r.slot : Nat)
def chkL (m : MV) : List SRow → Int × Int
  | [] => (0, 0)
  | r :: rs => if fldE m r = 0 then chkL m rs else (fldE m r, (r.num : Nat))
theorem chkL_at {m : MV} {L : List SRow} {j : Nat} (h : j < L.length) : chkL m (L.drop j) = if fldE m L[j] = 0 then chkL m (L.drop (j + 1)) else (fldE m L[j], (L[j].num : Nat)) := by
  rw [List.drop_eq_getElem_cons h, chkL]
theorem chkL_end {m : MV} {L : List SRow} {j : Nat} (h : L.length ≤ j) : chkL m (L.drop j) = (0, 0) := by
  rw [List.drop_eq_nil_of_le h, chkL]
/-- What is wrong with a message, and of which field. -/
def chkV (m : MV) (L : List SRow) : Int × Int := if L.length = 0 then (7, 0) else if (chkL m L).1 ≠ 0 then chkL m L else if sameB m (keptM L m) then (0, 0) else (20, 0)
theorem kept_sl {w : World} {m : MV} (L : List SRow) (h : Sl w m.A m.c (m.l.map sv)) : Sl w (keptM L m).A (keptM L m).c ((keptM L m).l.map sv) := by
  unfold keptM
  cases mkL L with
  | true => exact h
  | false => exact Sl.nil_ w
def FltOf (w : World) (r : Int × Int) (e : Ending) (w' : World) : Prop := e = .returned (.agg #[.int .i64 r.1, .int .i64 r.2]) ∧ Below w.heap.size w w'
theorem fstore {w : World} {p : Nat} {o0 o1 : Value} (h : Blk w p 37 #[o0, o1]) (x0 x1 : Value) : Blk ((w.setCell ⟨p, 0, none⟩ x0).setCell ⟨p, 1, none⟩ x1) p 37 #[x0, x1] ∧ Chg (fun q => q = p) w ((w.setCell ⟨p, 0, none⟩ x0).setCell ⟨p, 1, none⟩ x1) := by
  refine ⟨by simpa using (h.set_ 0 x0).set_ 1 x1, ((Chg.refl (fun q => q = p) w).set_ (.inl rfl) 0 x0).set_ (.inl rfl) 1 x1⟩
set_option maxRecDepth 100000 in
set_option maxHeartbeats 4000000 in
theorem vcheck_any (m : MV) (v : Int) (w : World) (hok : MvOk w m) (hv1 : -9223372036854775808 ≤ v) (hv2 : v ≤ 9223372036854775807) : Calls Try.prog 32 #[mvV m, .int .i64 v] w (FltOf w (chkV m (ofL (m.k : Int) v))) := by
  have hsof := fun W => ((callsIn_wide (n := 4)).1 (sof2_in 4 (by omega) (m.k : Int) v W hv1 hv2))
  have hkp := fun W => vkept_any m v W hv1 hv2
  have hq40 := ofL_le40 (m.k : Int) v
  generalize ofL (m.k : Int) v = L at *
  have hsm := fun W (hW : Below w.heap.size w W) => vsame_any m (keptM L m) W (hok.l.below hW) (kept_sl L (hok.l.below hW))
  have hdf := fun (num t i : Int) W => vdef_any m num t i W
  have hwr := fun (num t i : Int) W (hW : Below w.heap.size w W) => vwrong_any m num t i W (hok.below hW)
  have hV : chkV m L = if L.length = 0 then (7, 0) else if (chkL m L).1 ≠ 0 then chkL m L else if sameB m (keptM L m) then (0, 0) else (20, 0) := rfl
  generalize chkV m L = R at *
  generalize mvV (keptM L m) = kv at *
  generalize sameB m (keptM L m) = sb at *
  unfold mvV mvA at *
  generalize m.l.length = len at *
  obtain ⟨nL, hnL⟩ : ∃ n, L.length = n := ⟨_, rfl⟩
  rw [hnL] at hV hq40 hsof
  have HNL := hid hnL
  have HSOF := hid hsof
  have HKP := hid hkp
  have HSM := hid hsm
  have HDF := hid hdf
  have HWR := hid hwr
  have HV := hid hV
  clear hok hnL hsof hkp hsm hdf hwr hV
  obtain ⟨T, hT⟩ : ∃ T, FltOf w R = T := ⟨_, rfl⟩
  rw [hT]
  have HTT := hid hT
  clear hT
  obtain ⟨s, hws⟩ : ∃ s, w.heap.size = s := ⟨_, rfl⟩
  go_enter Try.func32, Try.ntmps32
  go_wp2_with fail
  go_step3
  go_wp2_with fail
  have hz : ((w.alloc (.cells #[.int .u8 (m.k : Int), .int .u64 (m.n0 : Int), .int .u64 (m.n1 : Int), .int .u64 (m.n2 : Int), .int .u64 (m.n3 : Int), .int .u64 (m.n4 : Int), .int .u64 (m.n5 : Int), .string m.s0, .string m.s1, .slice m.A len m.c] 27)).alloc (.cells #[.int .i64 0, .int .i64 0] 37)).heap.size = s + 2 := by simp [hws]
  have hb0 := bw_a (bw_a (Below.refl w.heap.size w) (.cells #[.int .u8 (m.k : Int), .int .u64 (m.n0 : Int), .int .u64 (m.n1 : Int), .int .u64 (m.n2 : Int), .int .u64 (m.n3 : Int), .int .u64 (m.n4 : Int), .int .u64 (m.n5 : Int), .string m.s0, .string m.s1, .slice m.A len m.c] 27)) (.cells #[.int .i64 0, .int .i64 0] 37)
  have hk0 := (Blk.new w 27 #[.int .u8 (m.k : Int), .int .u64 (m.n0 : Int), .int .u64 (m.n1 : Int), .int .u64 (m.n2 : Int), .int .u64 (m.n3 : Int), .int .u64 (m.n4 : Int), .int .u64 (m.n5 : Int), .string m.s0, .string m.s1, .slice m.A len m.c]).alloc (.cells #[.int .i64 0, .int .i64 0] 37)
  have hk1 := Blk.new (w.alloc (.cells #[.int .u8 (m.k : Int), .int .u64 (m.n0 : Int), .int .u64 (m.n1 : Int), .int .u64 (m.n2 : Int), .int .u64 (m.n3 : Int), .int .u64 (m.n4 : Int), .int .u64 (m.n5 : Int), .string m.s0, .string m.s1, .slice m.A len m.c] 27)) 37 #[.int .i64 0, .int .i64 0]
  rw [World.size_alloc] at hk1
  rw [hws] at hb0 hk0 hk1
  generalize (w.alloc _).alloc _ = W at *
  refine (HSOF.out W).mono ?_
  rintro e w1 ⟨vv, rfl, ho, hb1⟩
  obtain ⟨A, c, rfl, hs1⟩ := SlN.of_own (by omega) ho
  have hk0 := hk0.below hb1 (by omega)
  have hk1 := hk1.below hb1 (by omega)
  have hB1 := hb0.trans (hb1.mono (by omega))
  have hw1 : s + 2 ≤ w1.heap.size := by have := hb1.size; omega
  clear hb0 hb1 ho hz HSOF
  have HS1 := hid hs1
  have HK0 := hid hk0
  have HK1 := hid hk1
  have HB1 := hid hB1
  -- the end: a fault is stored
  have hend : ∀ (W9 : World) (x y : Int), Below w1.heap.size w1 W9 → R = (x, y) → ∃ W', W' = (W9.setCell ⟨s + 1, 0, none⟩ (.int .i64 x)).setCell ⟨s + 1, 1, none⟩ (.int .i64 y) ∧ Blk W' (s + 1) 37 #[.int .i64 x, .int .i64 y] ∧ FltOf w R (.returned (.agg #[.int .i64 x, .int .i64 y])) W' := by
    intro W9 x y hB hR
    have h1 := fstore (hk1.below hB hk1.lt) (.int .i64 x) (.int .i64 y)
    refine ⟨_, rfl, h1.1, by rw [hR], ?_⟩
    rw [hws]
    exact (hB1.trans (hB.mono (by omega))).trans (h1.2.below (B := s) (fun q hq => by omega) (by have := hB.size; omega))
  have hcl : ∀ (W9 : World), Below w1.heap.size w1 W9 → (W9.cell? ⟨s + 1, 0, none⟩ = some (.int .i64 0) ∧ W9.cell? ⟨s + 1, 1, none⟩ = some (.int .i64 0) ∧ W9.frozen? ⟨s + 1, 0, none⟩ = false ∧ W9.frozen? ⟨s + 1, 1, none⟩ = false) := by
    intro W9 hB
    have h1 := hk1.below hB hk1.lt
    exact ⟨h1.cell 0, h1.cell 1, h1.frozen 0, h1.frozen 1⟩
  have hcm : ∀ (W9 : World), Below w1.heap.size w1 W9 → Blk W9 s 27 #[.int .u8 (m.k : Int), .int .u64 (m.n0 : Int), .int .u64 (m.n1 : Int), .int .u64 (m.n2 : Int), .int .u64 (m.n3 : Int), .int .u64 (m.n4 : Int), .int .u64 (m.n5 : Int), .string m.s0, .string m.s1, .slice m.A len m.c] := fun W9 hB => hk0.below hB hk0.lt
  have HEND := hid hend
  have HCL := hid hcl
  have HCM := hid hcm
  clear hend hcl hcm hs1 hk0 hk1 hB1 HK1 HK0
  by_cases hn0 : nL = 0
  · have hR := HV.out
    rw [if_pos hn0] at hR
    subst hn0
    have HR := hid hR
    clear hR
    obtain ⟨c0, c1, f0, f1⟩ := HCL.out w1 (Below.refl _ _)
    go_wp2_with fail
    obtain ⟨W', hW', hbk, hfl⟩ := HEND.out w1 7 0 (Below.refl _ _) HR.out
    rw [← hW']
    have r0 := hbk.cell 0
    have r1 := hbk.cell 1
    simp only [List.getElem?_toArray, List.getElem?_cons_zero, List.getElem?_cons_succ] at r0 r1
    clear hW'
    refine bodyPost_ret (v := .agg #[.int .i64 7, .int .i64 0]) (by simp [results, Try.results32, go_sem, r0, r1]) rfl ?_
    rw [← HTT.out]
    exact hfl
  have hn1 : 0 < nL := by omega
  have hR := HV.out
  rw [if_neg hn0] at hR
  have HR := hid hR
  clear hR HV
  go_wp2_with fail
  go_step3
  go_wp2_with fail
  go_loopw [22] (fun i wr => ∃ j : Nat, j ≤ nL ∧ i = .int .i64 (j : Int) ∧ chkL m L = chkL m (L.drop j) ∧ Below w1.heap.size w1 wr) (fun i _ => nL - (intOf i).toNat)
  case atStart => exact ⟨0, by omega, rfl, rfl, Below.refl _ _⟩
  case round =>
    obtain ⟨j, hj, rfl, hch, hB⟩ := hrel
    have hk := HCM.out wr hB
    have c0 := hk.cell 0
    have c1 := hk.cell 1
    have c2 := hk.cell 2
    have c3 := hk.cell 3
    have c4 := hk.cell 4
    have c5 := hk.cell 5
    have c6 := hk.cell 6
    have c7 := hk.cell 7
    have c8 := hk.cell 8
    have c9 := hk.cell 9
    simp only [List.getElem?_toArray, List.getElem?_cons_zero, List.getElem?_cons_succ] at c0 c1 c2 c3 c4 c5 c6 c7 c8 c9
    have hls := hk.lt
    by_cases hlt : j < nL
    · have hjl : j < L.length := by have := HNL.out; omega
      have hn0' : (L.flatMap specC)[j * 3 + 0]? = _ := flatMap_get specC 3 L j 0 hjl (fun _ _ => rfl) (by omega)
      have hn1' : (L.flatMap specC)[j * 3 + 1]? = _ := flatMap_get specC 3 L j 1 hjl (fun _ _ => rfl) (by omega)
      have hn2' : (L.flatMap specC)[j * 3 + 2]? = _ := flatMap_get specC 3 L j 2 hjl (fun _ _ => rfl) (by omega)
      obtain ⟨b, off, hA, hbw, t0⟩ := HS1.out.rd _ _ hn0'
      subst hA
      have t1 := HS1.out.rd.addr _ _ hn1'
      have t2 := HS1.out.rd.addr _ _ hn2'
      rw [addr_add] at t1 t2
      simp only [Nat.add_zero, ← Nat.add_assoc] at t0 t1 t2
      have t0 := (hB.cell (p := ⟨b, off + j * 3, none⟩) hbw).trans t0
      have t1 := (hB.cell (p := ⟨b, off + j * 3 + 1, none⟩) hbw).trans t1
      have t2 := (hB.cell (p := ⟨b, off + j * 3 + 2, none⟩) hbw).trans t2
      have hji : (j : Int) < (nL : Int) := by omega
      have hj0 : (0 : Int) ≤ (j : Int) := by omega
      have hat := chkL_at (m := m) hjl
      rw [← hch] at hat
      have hfl : fldE m L[j] = if dflB m (L[j].typ : Nat) (L[j].slot : Nat) then 0 else wrongE m (L[j].typ : Nat) (L[j].slot : Nat) := rfl
      have hdf := fun W => HDF.out (L[j].num : Nat) (L[j].typ : Nat) (L[j].slot : Nat) W
      have hwr := fun W hW => HWR.out (L[j].num : Nat) (L[j].typ : Nat) (L[j].slot : Nat) W hW
      clear hn0' hn1' hn2'
      generalize fldE m L[j] = fe at *
      generalize dflB m (L[j].typ : Nat) (L[j].slot : Nat) = db at *
      generalize wrongE m (L[j].typ : Nat) (L[j].slot : Nat) = we at *
      generalize L[j] = r at *
      obtain ⟨rk, si, nu, ty, sl⟩ := r
      simp only at t0 t1 t2 hat hdf hwr
      have hbx : Below w1.heap.size w1 (wr.alloc (.cells #[.int .i64 (nu : Int), .int .i64 (ty : Int), .int .i64 (sl : Int)] 44)) := bw_a hB _
      have hbk := Blk.new wr 44 #[.int .i64 (nu : Int), .int .i64 (ty : Int), .int .i64 (sl : Int)]
      have HAT := hid hat
      have HFL := hid hfl
      have HD := hid hdf
      have HW := hid hwr
      have HBX := hid hbx
      have HBK := hid hbk
      have HCH := hid hch
      clear hat hfl hdf hwr hB hch hk hbx hbk
      go_wp2_with fail
      refine (HD.out _).mono ?_
      rintro e w2 ⟨rfl, hb2⟩
      have hB2 := HBX.out.trans (hb2.mono HBX.out.size)
      have HB2 := hid hB2
      have hk2 := HBK.out.below hb2 HBK.out.lt
      have HBK2 := hid hk2
      clear hb2
      cases db with
      | true =>
        have h1 : fe = 0 := by rw [HFL.out]; rfl
        have h2 := HAT.out
        rw [if_pos h1] at h2
        have HX := hid h2
        clear h1 h2 hk2 hB2
        go_wp2_with fail
        exact ⟨⟨j + 1, by omega, by go_num, HX.out, HB2.out⟩, by simp [intOf] <;> omega⟩
      | false =>
        have h1 : fe = we := by rw [HFL.out]; rfl
        have hk := HCM.out w2 hB2
        have c0 := hk.cell 0
        have c1 := hk.cell 1
        have c2 := hk.cell 2
        have c3 := hk.cell 3
        have c4 := hk.cell 4
        have c5 := hk.cell 5
        have c6 := hk.cell 6
        have c7 := hk.cell 7
        have c8 := hk.cell 8
        have c9 := hk.cell 9
        simp only [List.getElem?_toArray, List.getElem?_cons_zero, List.getElem?_cons_succ] at c0 c1 c2 c3 c4 c5 c6 c7 c8 c9
        have d0 := hk2.cell 0
        have d1 := hk2.cell 1
        have d2 := hk2.cell 2
        simp only [List.getElem?_toArray, List.getElem?_cons_zero, List.getElem?_cons_succ] at d0 d1 d2
        have h2 := HAT.out
        rw [h1] at h2
        have HX := hid h2
        clear h1 h2 hk2 hB2 hk
        go_wp2_with fail
        refine (HW.out _ (by rw [hws]; exact HB1.out.trans (HB2.out.mono (by omega)))).mono ?_
        rintro e w3 ⟨rfl, hb3⟩
        have hB3 := HB2.out.trans (hb3.mono HB2.out.size)
        have HB3 := hid hB3
        have hk3 := HBK2.out.below hb3 HBK2.out.lt
        have e0 := hk3.cell 0
        simp only [List.getElem?_toArray, List.getElem?_cons_zero] at e0
        obtain ⟨g0, g1, f0, f1⟩ := HCL.out w3 hB3
        clear hb3 hk3 hB3
        by_cases hwe : we = 0
        · have h2 := HX.out
          rw [if_pos hwe] at h2
          subst hwe
          have HY := hid h2
          clear h2
          go_wp2_with fail
          exact ⟨⟨j + 1, by omega, by go_num, HY.out, HB3.out⟩, by simp [intOf] <;> omega⟩
        · have hwb : (we != 0) = true := by simpa using hwe
          have h2 := HX.out
          rw [if_neg hwe] at h2
          have h3 := HR.out
          rw [h2, if_pos hwe] at h3
          have HY := hid h3
          clear h2 h3 hwe
          go_wp2_with fail
          obtain ⟨W', hW', hbk, hfl⟩ := HEND.out w3 we (nu : Int) HB3.out HY.out
          rw [← hW']
          have r0 := hbk.cell 0
          have r1 := hbk.cell 1
          simp only [List.getElem?_toArray, List.getElem?_cons_zero, List.getElem?_cons_succ] at r0 r1
          clear hW'
          refine bodyPost_ret (v := .agg #[.int .i64 we, .int .i64 (nu : Int)]) (by simp [results, Try.results32, go_sem, r0, r1]) rfl ?_
          rw [← HTT.out]
          exact hfl
    · obtain rfl : j = nL := by omega
      rw [chkL_end (by have := HNL.out; omega)] at hch
      have h3 := HR.out
      rw [hch] at h3
      have h4 : R = if sb then ((0 : Int), (0 : Int)) else (20, 0) := h3
      have HY := hid h4
      have HBR := hid hB
      have HC := hid (And.intro c0 (And.intro c1 (And.intro c2 (And.intro c3 (And.intro c4 (And.intro c5 (And.intro c6 (And.intro c7 (And.intro c8 c9)))))))))
      clear h3 h4 hB hch hk
      go_wp2_with fail
      go_region_held3 (fun w' => w'.cell? ⟨s, 0, none⟩ = some (.int .u8 (m.k : Int)) ∧ w'.cell? ⟨s, 1, none⟩ = some (.int .u64 (m.n0 : Int)) ∧ w'.cell? ⟨s, 2, none⟩ = some (.int .u64 (m.n1 : Int)) ∧ w'.cell? ⟨s, 3, none⟩ = some (.int .u64 (m.n2 : Int)) ∧ w'.cell? ⟨s, 4, none⟩ = some (.int .u64 (m.n3 : Int)) ∧ w'.cell? ⟨s, 5, none⟩ = some (.int .u64 (m.n4 : Int)) ∧ w'.cell? ⟨s, 6, none⟩ = some (.int .u64 (m.n5 : Int)) ∧ w'.cell? ⟨s, 7, none⟩ = some (.string m.s0) ∧ w'.cell? ⟨s, 8, none⟩ = some (.string m.s1) ∧ w'.cell? ⟨s, 9, none⟩ = some (.slice m.A len m.c)) (first | exact HC3.out | exact HC2.out | exact HC.out | go_keep) (first | (go_at_call 35; refine (HKP.out _).mono ?_; rintro e w2 ⟨rfl, hb2⟩; have HC2 := hid (heldm (w := wr.drewN 1) hb2 HC.out); have hW2 : Below w.heap.size w w2 := (by rw [hws]; exact HB1.out.trans ((HBR.out.trans ((bw_t (bw_d (Below.refl _ wr) 1) hb2).mono HBR.out.size)).mono (by omega)))) | (go_at_call 14; refine (HSM.out _ hW2).mono ?_; rintro e w3 ⟨rfl, hb3⟩; have HC3 := hid (heldm hb3 HC2.out)))
      have hB3 := HBR.out.trans ((bw_t (bw_t (bw_d (Below.refl _ wr) 1) hb2) hb3).mono HBR.out.size)
      have HB3 := hid hB3
      obtain ⟨g0, g1, f0, f1⟩ := HCL.out w3 hB3
      clear hB3 hb3 hb2 hW2 HC2 HC3
      cases sb with
      | true =>
        go_wp2_with fail
        obtain ⟨W', hW', hbk, hfl⟩ := HEND.out w3 0 0 HB3.out HY.out
        rw [← hW']
        have r0 := hbk.cell 0
        have r1 := hbk.cell 1
        simp only [List.getElem?_toArray, List.getElem?_cons_zero, List.getElem?_cons_succ] at r0 r1
        clear hW'
        refine bodyPost_ret (v := .agg #[.int .i64 0, .int .i64 0]) (by simp [results, Try.results32, go_sem, r0, r1]) rfl ?_
        rw [← HTT.out]
        exact hfl
      | false =>
        go_wp2_with fail
        obtain ⟨W', hW', hbk, hfl⟩ := HEND.out w3 20 0 HB3.out HY.out
        rw [← hW']
        have r0 := hbk.cell 0
        have r1 := hbk.cell 1
        simp only [List.getElem?_toArray, List.getElem?_cons_zero, List.getElem?_cons_succ] at r0 r1
        clear hW'
        refine bodyPost_ret (v := .agg #[.int .i64 20, .int .i64 0]) (by simp [results, Try.results32, go_sem, r0, r1]) rfl ?_
        rw [← HTT.out]
        exact hfl
end Go.Proofs.Ytehjibbjkadoiaa
