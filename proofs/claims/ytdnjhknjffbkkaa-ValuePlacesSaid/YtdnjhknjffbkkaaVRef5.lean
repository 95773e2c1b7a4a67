/- The document's Check of messages. -/
import Derived.Test.YtdnjhknjffbkkaaVRef4
set_option linter.unusedVariables false
namespace Go.Proofs.Ytdnjhknjffbkkaa
open Go.RowKit
set_option maxRecDepth 100000 in
set_option maxHeartbeats 4000000 in
theorem rcheck9_any (m : MV) (v : Int) (w : World) (hok : MvOk w m) (hv1 : -9223372036854775808 ≤ v) (hv2 : v ≤ 9223372036854775807) : Calls Try.prog 16 #[mvV m, .int .i64 v] w (FltOf w (chkV m (ofL (m.k : Int) v))) := by
  have hof := fun W => r8of_any (m.k : Int) v W (by omega) (by have := hok.k; omega) hv1 hv2
  unfold OfR at hof
  have hkp := fun W => rclean_any m v W hok.k hv1 hv2
  have hq40 := ofL_le40 (m.k : Int) v
  generalize ofL (m.k : Int) v = L at *
  have hsm := fun W (hW : Below w.heap.size w W) => rsame9_any m (keptM L m) W (hok.l.below hW) (kept_sl L (hok.l.below hW))
  have hwr := fun (num t i : Int) W (hW : Below w.heap.size w W) => rone9_any m num t i W (hok.below hW)
  have hV : chkV m L = if L.length = 0 then (7, 0) else if (chkL m L).1 ≠ 0 then chkL m L else if sameB m (keptM L m) then (0, 0) else (20, 0) := rfl
  generalize chkV m L = R at *
  generalize mvV (keptM L m) = kv at *
  generalize sameB m (keptM L m) = sb at *
  unfold mvV mvA at *
  generalize m.l.length = len at *
  obtain ⟨nL, hnL⟩ : ∃ n, L.length = n := ⟨_, rfl⟩
  rw [hnL] at hV hq40 hof
  have HNL := hid hnL
  have HSOF := hid hof
  have HKP := hid hkp
  have HSM := hid hsm
  have HWR := hid hwr
  have HV := hid hV
  clear hok hnL hof hkp hsm hwr hV
  obtain ⟨T, hT⟩ : ∃ T, FltOf w R = T := ⟨_, rfl⟩
  rw [hT]
  have HTT := hid hT
  clear hT
  obtain ⟨s, hws⟩ : ∃ s, w.heap.size = s := ⟨_, rfl⟩
  go_enter Try.func16, Try.ntmps16
  go_wp2_with fail
  have hz : ((w.alloc (.cells #[.int .u8 (m.k : Int), .int .u64 (m.n0 : Int), .int .u64 (m.n1 : Int), .int .u64 (m.n2 : Int), .int .u64 (m.n3 : Int), .int .u64 (m.n4 : Int), .int .u64 (m.n5 : Int), .string m.s0, .string m.s1, .slice m.A len m.c] 27)).alloc (.cells #[.int .i64 0, .int .i64 0] 32)).heap.size = s + 2 := by simp [hws]
  have hb0 := bw_a (bw_a (Below.refl w.heap.size w) (.cells #[.int .u8 (m.k : Int), .int .u64 (m.n0 : Int), .int .u64 (m.n1 : Int), .int .u64 (m.n2 : Int), .int .u64 (m.n3 : Int), .int .u64 (m.n4 : Int), .int .u64 (m.n5 : Int), .string m.s0, .string m.s1, .slice m.A len m.c] 27)) (.cells #[.int .i64 0, .int .i64 0] 32)
  have hk0 := (Blk.new w 27 #[.int .u8 (m.k : Int), .int .u64 (m.n0 : Int), .int .u64 (m.n1 : Int), .int .u64 (m.n2 : Int), .int .u64 (m.n3 : Int), .int .u64 (m.n4 : Int), .int .u64 (m.n5 : Int), .string m.s0, .string m.s1, .slice m.A len m.c]).alloc (.cells #[.int .i64 0, .int .i64 0] 32)
  have hk1 := Blk.new (w.alloc (.cells #[.int .u8 (m.k : Int), .int .u64 (m.n0 : Int), .int .u64 (m.n1 : Int), .int .u64 (m.n2 : Int), .int .u64 (m.n3 : Int), .int .u64 (m.n4 : Int), .int .u64 (m.n5 : Int), .string m.s0, .string m.s1, .slice m.A len m.c] 27)) 32 #[.int .i64 0, .int .i64 0]
  rw [World.size_alloc] at hk1
  rw [hws] at hb0 hk0 hk1
  generalize (w.alloc _).alloc _ = W at *
  refine (HSOF.out W).mono ?_
  rintro e w1 ⟨A, c, rfl, hs1, hb1⟩
  have hk0 := hk0.below hb1 (by omega)
  have hk1 := hk1.below hb1 (by omega)
  have hB1 := hb0.trans (hb1.mono (by omega))
  have hw1 : s + 2 ≤ w1.heap.size := by have := hb1.size; omega
  clear hb0 hb1 hz HSOF
  have HS1 := hid hs1

  have HK0 := hid hk0
  have HK1 := hid hk1
  have HB1 := hid hB1
  -- the end: a fault is stored
  have hend : ∀ (W9 : World) (x y : Int), Below w1.heap.size w1 W9 → R = (x, y) → ∃ W', W' = (W9.setCell ⟨s + 1, 0, none⟩ (.int .i64 x)).setCell ⟨s + 1, 1, none⟩ (.int .i64 y) ∧ Blk W' (s + 1) 32 #[.int .i64 x, .int .i64 y] ∧ FltOf w R (.returned (.agg #[.int .i64 x, .int .i64 y])) W' := by
    intro W9 x y hB hR
    have h1 := fstore (hk1.below hB hk1.lt) (.int .i64 x) (.int .i64 y)
    refine ⟨_, rfl, h1.1, by rw [hR], ?_⟩
    rw [hws]
    exact (hB1.trans (hB.mono (by omega))).trans (h1.2.below (B := s) (fun q hq => by omega) (by have := hB.size; omega))
  have hcl : ∀ (W9 : World), Below w1.heap.size w1 W9 → (W9.cell? ⟨s + 1, 0, none⟩ = some (.int .i64 0) ∧ W9.cell? ⟨s + 1, 1, none⟩ = some (.int .i64 0) ∧ W9.frozen? ⟨s + 1, 0, none⟩ = false ∧ W9.frozen? ⟨s + 1, 1, none⟩ = false) := by
    intro W9 hB
    have h1 := hk1.below hB hk1.lt
    exact ⟨h1.cell 0, h1.cell 1, h1.frozen 0, h1.frozen 1⟩
  have hcm : ∀ (W9 : World), Below w1.heap.size w1 W9 → Blk W9 s 27 #[.int .u8 (m.k : Int), .int .u64 (m.n0 : Int), .int .u64 (m.n1 : Int), .int .u64 (m.n2 : Int), .int .u64 (m.n3 : Int), .int .u64 (m.n4 : Int), .int .u64 (m.n5 : Int), .string m.s0, .string m.s1, .slice m.A len m.c] := fun W9 hB => hk0.below hB hk0.lt
  have HEND := hid hend
  have HCL := hid hcl
  have HCM := hid hcm
  clear hend hcl hcm hs1 hk0 hk1 hB1 HK1 HK0
  by_cases hn0 : nL = 0
  · have hR := HV.out
    rw [if_pos hn0] at hR
    subst hn0
    have HY := hid hR
    clear hR
    obtain ⟨c0, c1, f0, f1⟩ := HCL.out w1 (Below.refl _ _)
    go_wp2_with fail
    obtain ⟨W', hW', hbk, hfl⟩ := HEND.out w1 7 0 (Below.refl _ _) HY.out
    rw [← hW']
    have r0 := hbk.cell 0
    have r1 := hbk.cell 1
    simp only [List.getElem?_toArray, List.getElem?_cons_zero, List.getElem?_cons_succ] at r0 r1
    clear hW'
    refine bodyPost_ret (v := .agg #[.int .i64 7, .int .i64 0]) (by simp [results, Try.results16, go_sem, r0, r1]) rfl ?_
    rw [← HTT.out]
    exact hfl
  have hn1 : 0 < nL := by omega
  have hnb : ((nL : Int) == 0) = false := by simp; omega
  have hR := HV.out
  rw [if_neg hn0] at hR
  have HR := hid hR
  clear hR HV
  go_wp2_with fail
  go_loopw [6] (fun i wr => ∃ j : Nat, j ≤ nL ∧ i = .int .i64 (j : Int) ∧ chkL m L = chkL m (L.drop j) ∧ Below w1.heap.size w1 wr) (fun i _ => nL - (intOf i).toNat)
  case atStart => exact ⟨0, by omega, rfl, rfl, Below.refl _ _⟩
  case round =>
    obtain ⟨j, hj, rfl, hch, hB⟩ := hrel
    have hk := HCM.out wr hB
    have c0 := hk.cell 0
    have c1 := hk.cell 1
    have c2 := hk.cell 2
    have c3 := hk.cell 3
    have c4 := hk.cell 4
    have c5 := hk.cell 5
    have c6 := hk.cell 6
    have c7 := hk.cell 7
    have c8 := hk.cell 8
    have c9 := hk.cell 9
    simp only [List.getElem?_toArray, List.getElem?_cons_zero, List.getElem?_cons_succ] at c0 c1 c2 c3 c4 c5 c6 c7 c8 c9
    have hls := hk.lt
    by_cases hlt : j < nL
    · have hjl : j < L.length := by have := HNL.out; omega
      have hn0' : (L.flatMap specC)[j * 3 + 0]? = _ := flatMap_get specC 3 L j 0 hjl (fun _ _ => rfl) (by omega)
      have hn1' : (L.flatMap specC)[j * 3 + 1]? = _ := flatMap_get specC 3 L j 1 hjl (fun _ _ => rfl) (by omega)
      have hn2' : (L.flatMap specC)[j * 3 + 2]? = _ := flatMap_get specC 3 L j 2 hjl (fun _ _ => rfl) (by omega)
      obtain ⟨b, off, hA, hbw, t0⟩ := HS1.out.rd _ _ hn0'
      subst hA
      have t1 := HS1.out.rd.addr _ _ hn1'
      have t2 := HS1.out.rd.addr _ _ hn2'
      rw [addr_add] at t1 t2
      simp only [Nat.add_zero, ← Nat.add_assoc] at t0 t1 t2
      have t0 := (hB.cell (p := ⟨b, off + j * 3, none⟩) hbw).trans t0
      have t1 := (hB.cell (p := ⟨b, off + j * 3 + 1, none⟩) hbw).trans t1
      have t2 := (hB.cell (p := ⟨b, off + j * 3 + 2, none⟩) hbw).trans t2
      have hji : (j : Int) < (nL : Int) := by omega
      have hj0 : (0 : Int) ≤ (j : Int) := by omega
      have hat := chkL_at (m := m) hjl
      rw [← hch, fldE_eq] at hat
      have hwr := fun W hW => HWR.out (L[j].num : Nat) (L[j].typ : Nat) (L[j].slot : Nat) W hW
      clear hn0' hn1' hn2'
      generalize wrongE m (L[j].typ : Nat) (L[j].slot : Nat) = we at *
      generalize L[j] = r at *
      obtain ⟨rk, si, nu, ty, sl⟩ := r
      simp only at t0 t1 t2 hat hwr
      have HAT := hid hat
      have HW := hid hwr
      have HBB := hid hB
      have HCH := hid hch
      have HC := hid (And.intro c0 (And.intro c1 (And.intro c2 (And.intro c3 (And.intro c4 (And.intro c5 (And.intro c6 (And.intro c7 (And.intro c8 (And.intro c9 (And.intro t0 (And.intro t1 t2))))))))))))
      clear hat hwr hB hch hk
      have hWd : Below w.heap.size w (wr.drewN 1) := by rw [hws]; exact HB1.out.trans ((bw_d' HBB.out 1).mono (by omega))
      go_wp2_with fail
      go_region_held3 (fun w' => w'.cell? ⟨s, 0, none⟩ = some (.int .u8 (m.k : Int)) ∧ w'.cell? ⟨s, 1, none⟩ = some (.int .u64 (m.n0 : Int)) ∧ w'.cell? ⟨s, 2, none⟩ = some (.int .u64 (m.n1 : Int)) ∧ w'.cell? ⟨s, 3, none⟩ = some (.int .u64 (m.n2 : Int)) ∧ w'.cell? ⟨s, 4, none⟩ = some (.int .u64 (m.n3 : Int)) ∧ w'.cell? ⟨s, 5, none⟩ = some (.int .u64 (m.n4 : Int)) ∧ w'.cell? ⟨s, 6, none⟩ = some (.int .u64 (m.n5 : Int)) ∧ w'.cell? ⟨s, 7, none⟩ = some (.string m.s0) ∧ w'.cell? ⟨s, 8, none⟩ = some (.string m.s1) ∧ w'.cell? ⟨s, 9, none⟩ = some (.slice m.A len m.c) ∧ w'.cell? ⟨b, off + j * 3, none⟩ = some (.int .i64 (nu : Int)) ∧ w'.cell? ⟨b, off + j * 3 + 1, none⟩ = some (.int .i64 (ty : Int)) ∧ w'.cell? ⟨b, off + j * 3 + 2, none⟩ = some (.int .i64 (sl : Int))) (first | exact HC2.out | exact HC.out | go_keep) (first | (go_at_call 42; refine (HW.out _ hWd).mono ?_; rintro e w2 ⟨rfl, hb2⟩; have HC2 := hid (held13 (w := wr.drewN 1) hb2 HC.out)))
      have hbw2 := bw_t (bw_d (Below.refl _ wr) 1) hb2
      have hB2 := HBB.out.trans (hbw2.mono HBB.out.size)
      have HB2 := hid hB2
      obtain ⟨y0, y1, y2, y3, y4, y5, y6, y7, y8, y9, z0, z1, z2⟩ := HC2.out
      obtain ⟨g0, g1, f0, f1⟩ := HCL.out w2 hB2
      clear hb2 hbw2 hB2 HC HC2 hWd t0 t1 t2 c0 c1 c2 c3 c4 c5 c6 c7 c8 c9
      by_cases hwe : we = 0
      · have h2 := HAT.out
        rw [if_pos hwe] at h2
        subst hwe
        have HY := hid h2
        clear h2
        go_wp2_with fail
        exact ⟨⟨j + 1, by omega, by go_num, HY.out, HB2.out⟩, by simp [intOf] <;> omega⟩
      · have hwb : (we != 0) = true := by simpa using hwe
        have h2 := HAT.out
        rw [if_neg hwe] at h2
        have h3 := HR.out
        rw [h2, if_pos hwe] at h3
        have HY := hid h3
        clear h2 h3 hwe
        go_wp2_with fail
        obtain ⟨W', hW', hbk, hfl⟩ := HEND.out w2 we (nu : Int) HB2.out HY.out
        rw [← hW']
        have r0 := hbk.cell 0
        have r1 := hbk.cell 1
        simp only [List.getElem?_toArray, List.getElem?_cons_zero, List.getElem?_cons_succ] at r0 r1
        clear hW'
        refine bodyPost_ret (v := .agg #[.int .i64 we, .int .i64 (nu : Int)]) (by simp [results, Try.results16, go_sem, r0, r1]) rfl ?_
        rw [← HTT.out]
        exact hfl
    · obtain rfl : j = nL := by omega
      rw [chkL_end (by have := HNL.out; omega)] at hch
      have h3 := HR.out
      rw [hch] at h3
      have h4 : R = if sb then ((0 : Int), (0 : Int)) else (20, 0) := h3
      have HY := hid h4
      have HBR := hid hB
      have HC := hid (And.intro c0 (And.intro c1 (And.intro c2 (And.intro c3 (And.intro c4 (And.intro c5 (And.intro c6 (And.intro c7 (And.intro c8 c9)))))))))
      clear h3 h4 hB hch hk
      go_wp2_with fail
      go_region_held3 (fun w' => w'.cell? ⟨s, 0, none⟩ = some (.int .u8 (m.k : Int)) ∧ w'.cell? ⟨s, 1, none⟩ = some (.int .u64 (m.n0 : Int)) ∧ w'.cell? ⟨s, 2, none⟩ = some (.int .u64 (m.n1 : Int)) ∧ w'.cell? ⟨s, 3, none⟩ = some (.int .u64 (m.n2 : Int)) ∧ w'.cell? ⟨s, 4, none⟩ = some (.int .u64 (m.n3 : Int)) ∧ w'.cell? ⟨s, 5, none⟩ = some (.int .u64 (m.n4 : Int)) ∧ w'.cell? ⟨s, 6, none⟩ = some (.int .u64 (m.n5 : Int)) ∧ w'.cell? ⟨s, 7, none⟩ = some (.string m.s0) ∧ w'.cell? ⟨s, 8, none⟩ = some (.string m.s1) ∧ w'.cell? ⟨s, 9, none⟩ = some (.slice m.A len m.c)) (first | exact HC3.out | exact HC2.out | exact HC.out | go_keep) (first | (go_at_call 24; refine (HKP.out _).mono ?_; rintro e w2 ⟨rfl, hb2⟩; have HC2 := hid (heldm (w := wr.drewN 1) hb2 HC.out); have hW2 : Below w.heap.size w w2 := (by rw [hws]; exact HB1.out.trans ((HBR.out.trans ((bw_t (bw_d (Below.refl _ wr) 1) hb2).mono HBR.out.size)).mono (by omega)))) | (go_at_call 23; refine (HSM.out _ hW2).mono ?_; rintro e w3 ⟨rfl, hb3⟩; have HC3 := hid (heldm hb3 HC2.out)))
      have hB3 := HBR.out.trans ((bw_t (bw_t (bw_d (Below.refl _ wr) 1) hb2) hb3).mono HBR.out.size)
      have HB3 := hid hB3
      obtain ⟨g0, g1, f0, f1⟩ := HCL.out w3 hB3
      clear hB3 hb3 hb2 hW2 HC2 HC3
      cases sb with
      | true =>
        go_wp2_with fail
        obtain ⟨W', hW', hbk, hfl⟩ := HEND.out w3 0 0 HB3.out HY.out
        rw [← hW']
        have r0 := hbk.cell 0
        have r1 := hbk.cell 1
        simp only [List.getElem?_toArray, List.getElem?_cons_zero, List.getElem?_cons_succ] at r0 r1
        clear hW'
        refine bodyPost_ret (v := .agg #[.int .i64 0, .int .i64 0]) (by simp [results, Try.results16, go_sem, r0, r1]) rfl ?_
        rw [← HTT.out]
        exact hfl
      | false =>
        go_wp2_with fail
        obtain ⟨W', hW', hbk, hfl⟩ := HEND.out w3 20 0 HB3.out HY.out
        rw [← hW']
        have r0 := hbk.cell 0
        have r1 := hbk.cell 1
        simp only [List.getElem?_toArray, List.getElem?_cons_zero, List.getElem?_cons_succ] at r0 r1
        clear hW'
        refine bodyPost_ret (v := .agg #[.int .i64 20, .int .i64 0]) (by simp [results, Try.results16, go_sem, r0, r1]) rfl ?_
        rw [← HTT.out]
        exact hfl
end Go.Proofs.Ytdnjhknjffbkkaa
