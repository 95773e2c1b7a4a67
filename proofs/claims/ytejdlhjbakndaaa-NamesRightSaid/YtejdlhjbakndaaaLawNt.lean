/- NamesRight: a walk. -/
import Derived.Test.YtejdlhjbakndaaaNmR
import Derived.Test.YtejdlhjbakndaaaLawNr
set_option linter.unusedVariables false
namespace Go.Proofs.Ytejdlhjbakndaaa
open Go.RowKit
theorem st_all {w : World} {A : Option Addr} {n c : Nat} {X : List StV} (h : SlN w A n c 13 (X.flatMap stC)) (h0 : X.length ≠ 0) : ∃ g o, A = some ⟨g, o, none⟩ ∧ g < w.heap.size ∧ ∀ (i : Nat) (hi : i < X.length), w.cell? ⟨g, o + i * 13, none⟩ = some (.string X[i].nm) ∧ w.cell? ⟨g, o + i * 13 + 3, none⟩ = some (.slice X[i].af.A X[i].af.xs.length X[i].af.c) := by
  obtain ⟨g, o, hA, hg, -⟩ := st_at h 0 (by omega)
  refine ⟨g, o, hA, hg, fun i hi => ?_⟩
  obtain ⟨g', o', hA', -, e0, -, -, e3, -⟩ := st_at h i hi
  rw [hA] at hA'
  injection hA' with hA'
  injection hA' with h1 h2
  subst h1 h2
  exact ⟨e0, e3⟩
set_option maxRecDepth 100000 in
set_option maxHeartbeats 16000000 in
theorem namesRight_any (D : DfV) (w : World) (hok : DfOk w 18 D) :
    Calls Try.prog 5 #[.agg #[.string D.nm, .string D.tx, .slice D.st.A D.st.xs.length D.st.c]] w fun e w' => e = .returned (.bool true) ∧ Below w.heap.size w w' := by
  obtain ⟨s, hws⟩ : ∃ s, w.heap.size = s := ⟨_, rfl⟩
  have hb1 := bw_a (Below.refl _ w) (.cells #[.string D.nm, .string D.tx, .slice D.st.A D.st.xs.length D.st.c] 24)
  have hk1 := Blk.new w 24 #[.string D.nm, .string D.tx, .slice D.st.A D.st.xs.length D.st.c]
  have hz1 : (w.alloc (.cells #[.string D.nm, .string D.tx, .slice D.st.A D.st.xs.length D.st.c] 24)).heap.size = s + 1 := by rw [World.size_alloc, hws]
  rw [hws] at hk1
  have HOK := hid hok
  have HWS := hid hws
  rw [hws]
  obtain ⟨w1, hw1⟩ : ∃ w1, w.alloc (.cells #[.string D.nm, .string D.tx, .slice D.st.A D.st.xs.length D.st.c] 24) = w1 := ⟨_, rfl⟩
  rw [hw1] at hb1 hk1 hz1
  have HB1 := hid hb1
  have HK1 := hid hk1
  have HZ1 := hid hz1
  have HW1 := hid hw1
  clear hok hb1 hk1 hz1 hw1
  go_enter Try.func5, Try.ntmps5
  go_wp2_with fail
  rw [HW1.out]
  with_reducible refine (live25_any w1).mono ?_
  rintro e w2 ⟨rfl, hb2⟩
  have hk2 := HK1.out.below hb2 (by rw [HZ1.out]; omega)
  have c0 := hk2.cell 0
  have c1 := hk2.cell 1
  have c2 := hk2.cell 2
  simp only [List.getElem?_toArray, List.getElem?_cons_zero, List.getElem?_cons_succ] at c0 c1 c2
  have HB2 := hid (bw_t HB1.out hb2)
  have HK2 := hid hk2
  have hz2 := hb2.size
  clear hb2
  go_wp2_with fail
  with_reducible refine (rsmall21_any D w2 (HOK.out.below HB2.out)).mono ?_
  rintro e w3 ⟨b, rfl, hb3, hsmall⟩
  have HB3 := hid (bw_t HB2.out hb3)
  cases b with
  | false =>
    clear hsmall hb3
    go_wp2_with fail
    go_ret
    exact ⟨rfl, by have h := HB3.out; rw [HWS.out] at h; exact h⟩
  | true =>
  obtain ⟨-, -, hl, hss⟩ := hsmall rfl
  have hk3 := HK2.out.below hb3 (by rw [HZ1.out] at hz2; omega)
  have hs3 : s < w3.heap.size := hk3.lt
  have hX : ∀ W, Below w3.heap.size w3 W → ∀ x ∈ D.st.xs, TxOk W x.af ∧ x.af.xs.length ≤ 70 := fun W h x hx => ⟨((HOK.out.2.1 x hx).2.1.below HB3.out).below h, (hss x hx).2.2.2.1⟩
  have hST : ∀ W, Below w3.heap.size w3 W → StRow W D := fun W h => SlN.below (SlN.below HOK.out.2.2 HB3.out) h
  have hz : ∀ x ∈ D.st.xs, x.nm.size ≤ maxLen ∧ x.ac.size ≤ maxLen ∧ x.un.size ≤ maxLen := fun x hx => (HOK.out.2.1 x hx).1
  have hck := (callsIn_wide (n := 8)).1 (check_in 8 (by omega) D w3 (hST _ (Below.refl _ _)) (hX _ (Below.refl _ _)) hl hz HOK.out.1.1)
  have hC1 : ∀ W, Below w3.heap.size w3 W → Calls Try.prog 16 #[.agg #[.string D.nm, .string D.tx, .slice D.st.A D.st.xs.length D.st.c]] W fun e w' => ∃ A c, e = .returned (.slice A D.st.xs.length c) ∧ RwS w' (.slice A D.st.xs.length c) (Nm.rfAll (nms D.st.xs) 0 D.st.xs) ∧ Below W.heap.size W w' := fun W h => by
    refine ((callsIn_wide (n := 8)).1 (refs_in 8 (by omega) D W (hST W h) (hX W h) hl (fun x hx => (hz x hx).1))).mono ?_
    rintro e w' ⟨v, rfl, hr, hb⟩
    have hr0 := hr
    obtain ⟨A, c, vs, rfl, hs⟩ := hr
    rw [Nm.rfAll_len] at hr0 ⊢
    exact ⟨A, c, rfl, hr0, hb⟩
  have hC3 : ∀ W, Below w3.heap.size w3 W → Calls Try.prog 19 #[.agg #[.string D.nm, .string D.tx, .slice D.st.A D.st.xs.length D.st.c]] W fun e w' => ∃ A c, e = .returned (.slice A (Nm.msAll (nms D.st.xs) D.st.xs).length c) ∧ Below W.heap.size W w' := fun W h => by
    refine ((callsIn_wide (n := 8)).1 (missing_in 8 (by omega) D W (hST W h) (hX W h) hl (fun x hx => (hz x hx).1))).mono ?_
    rintro e w' ⟨v, rfl, ho, hb⟩
    obtain ⟨A, c, rfl, -⟩ := SlN.of_own (by omega) ho
    exact ⟨A, c, rfl, hb⟩
  have c0 := hk3.cell 0
  have c1 := hk3.cell 1
  have c2 := hk3.cell 2
  simp only [List.getElem?_toArray, List.getElem?_cons_zero, List.getElem?_cons_succ] at c0 c1 c2
  have HK3 := hid hk3
  have HC1 := hid hC1
  have HC3 := hid hC3
  have HX := hid hX
  have HST := hid hST
  have HSZ := hid (fun x hx => (hz x hx).1)
  have HL := hid hl
  clear hC1 hC3 hX hST hz hss hsmall hb3 hk3 hl
  go_wp2_with fail
  with_reducible refine hck.mono ?_
  rintro e w4 ⟨A4, k4, c4, rfl, hk4, -, hb4⟩
  have HB4 := hid hb4
  have hx4 := HK3.out.below hb4 hs3
  clear c0 c1 c2 hck
  have c0 := hx4.cell 0
  have c1 := hx4.cell 1
  have c2 := hx4.cell 2
  simp only [List.getElem?_toArray, List.getElem?_cons_zero, List.getElem?_cons_succ] at c0 c1 c2
  by_cases hk : 0 < k4
  · have hki : (0 : Int) < (k4 : Int) := by omega
    clear hk4 hx4
    go_wp2_with fail
    go_ret
    exact ⟨rfl, by have h := bw_t HB3.out hb4; rw [HWS.out] at h; exact h⟩
  obtain rfl : k4 = 0 := by omega
  have hrt := Nm.rt_of hk4
  have HRT := hid hrt
  have hn0 := hrt.n0
  have hms := hrt.ms
  have hr1 := HC1.out w4 hb4
  have hs4 := hb4.size
  clear hk hk4 hrt hb4
  go_wp2_with fail
  with_reducible refine hr1.mono ?_
  rintro e w5 ⟨A5, c5, rfl, hr5, hb5⟩
  have HB5 := hid (bw_t HB4.out hb5)
  have hx5 := hx4.below hb5 hx4.lt
  clear c0 c1 c2 hr1
  have c0 := hx5.cell 0
  have c1 := hx5.cell 1
  have c2 := hx5.cell 2
  simp only [List.getElem?_toArray, List.getElem?_cons_zero, List.getElem?_cons_succ] at c0 c1 c2
  have HR5 := hid hr5
  have hm1 := HC3.out w5 HB5.out
  rw [hms] at hm1
  clear hr5 hb5 hms hs4
  go_wp2_with fail
  with_reducible refine hm1.mono ?_
  rintro e w6 ⟨A6, c6, rfl, hb6⟩
  have HB6 := hid (bw_t HB5.out hb6)
  have hx6 := hx5.below hb6 hx5.lt
  clear c0 c1 c2 hm1
  have c0 := hx6.cell 0
  have c1 := hx6.cell 1
  have c2 := hx6.cell 2
  simp only [List.getElem?_toArray, List.getElem?_cons_zero, List.getElem?_cons_succ] at c0 c1 c2
  obtain ⟨B1, j1, e1, q1⟩ := (HR5.out.below hb6).at_
  rw [Nm.rfAll_len] at e1
  injection e1 with e1a e1b e1c
  subst e1a e1c
  have HQ1 := hid q1
  have HX6 := hid hx6
  have HR6 := hid (Below.refl w6.heap.size w6)
  have hs6 := hx6.lt
  simp only [List.length_nil]
  clear q1 e1b hb6 hx4 hx5 hx6 HR5 HC1 HC3
  obtain ⟨g, o, hA, hg, hall⟩ := st_all (HST.out w6 HB6.out) hn0
  have HS2 := hid (show ∀ W, Below w6.heap.size w6 W → W.cell? ⟨s, 2, none⟩ = some (.slice (some ⟨g, o, none⟩) D.st.xs.length D.st.c) from fun W h => by rw [← hA]; exact (h.cell hs6).trans c2)
  have HS0 := hid (show ∀ W, Below w6.heap.size w6 W → W.cell? ⟨s, 0, none⟩ = some (.string D.nm) from fun W h => (h.cell hs6).trans c0)
  have HNM := hid (show ∀ W, Below w6.heap.size w6 W → ∀ (i : Nat) (hi : i < D.st.xs.length), W.cell? ⟨g, o + i * 13, none⟩ = some (.string D.st.xs[i].nm) from fun W h i hi => (h.cell hg).trans (hall i hi).1)
  have HAF := hid (show ∀ W, Below w6.heap.size w6 W → ∀ (i : Nat) (hi : i < D.st.xs.length), W.cell? ⟨g, o + i * 13 + 3, none⟩ = some (.slice D.st.xs[i].af.A D.st.xs[i].af.xs.length D.st.xs[i].af.c) from fun W h i hi => (h.cell hg).trans (hall i hi).2)
  have HTX := hid (show ∀ W, Below w6.heap.size w6 W → ∀ (i : Nat) (hi : i < D.st.xs.length), TxOk W D.st.xs[i].af ∧ D.st.xs[i].af.xs.length ≤ 70 from fun W h i hi => HX.out W (bw_t HB6.out h) _ (List.getElem_mem hi))
  have HN0 := hid hn0
  have hl30 := HL.out
  rw [hA] at c2
  rw [hA]
  clear hA hg hall hn0 HST HX
  go_wp2_with fail
  clear c0 c1 c2
  go_loopw [4] (fun i wr => ∃ k : Nat, k ≤ D.st.xs.length ∧ i = .int .i64 (k : Int) ∧ Below w6.heap.size w6 wr) (fun i _ => D.st.xs.length - (intOf i).toNat)
  case atStart => exact ⟨0, by omega, rfl, HR6.out⟩
  case round =>
    obtain ⟨k, hk, rfl, hbr⟩ := hrel
    have HBR := hid hbr
    have c2 := HS2.out wr hbr
    have c0 := HS0.out wr hbr
    by_cases hlt : k < D.st.xs.length
    · have hkl : k < (Nm.rfAll (nms D.st.xs) 0 D.st.xs).length := by rw [Nm.rfAll_len]; exact hlt
      obtain ⟨g1, o1, F1, f1, h1a, h1b, h1c, h1d⟩ := HQ1.out k hkl
      subst h1a
      have hrl := HRT.out.rl k hlt
      have hra := Nm.rfAll_at (nms D.st.xs) D.st.xs 0 k hlt
      rw [Nat.zero_add] at hra
      rw [hra, hrl] at h1c h1d
      have hrg := HRT.out.st k hlt
      have hun := HRT.out.un k
      have hrf := HRT.out.rf k
      have HUN := hid (fun p (hp : p < k) => hun p hlt hp)
      have HRF := hid (fun p (hp : p < D.st.xs[k].af.xs.length) => hrf p hlt hp)
      have hnm := HNM.out wr hbr k hlt
      have haf := HAF.out wr hbr k hlt
      obtain ⟨htx, h70⟩ := HTX.out wr hbr k hlt
      have hxs := HSZ.out _ (List.getElem_mem hlt)
      have HNMk := hid (fun W h => HNM.out W h k hlt)
      have HAFk := hid (fun W h => HAF.out W h k hlt)
      have HTXk := hid (fun W h => (HTX.out W h k hlt).1)
      generalize Nm.rfRow (nms D.st.xs) k D.st.xs[k].af.xs = L at *
      generalize D.st.xs[k] = x at *
      have t1 := (hbr.cell h1b).trans h1c
      obtain ⟨m, hm⟩ : ∃ m, x.af.xs.length = m := ⟨_, rfl⟩
      rw [hm] at t1 haf h70 h1c h1d hrl
      have HM := hid hm
      have HRL := hid hrl
      have HF := hid (And.intro h1b h1c)
      have HD1 := hid h1d
      rw [hm] at HAFk
      have CR := hid (fun W => right25_any x.nm W (by unfold maxLen at hxs; exact hxs))
      rw [hrg] at CR
      have hki : (k : Int) < (D.st.xs.length : Int) := by omega
      have hk0 : (0 : Int) ≤ (k : Int) := by omega
      have hS : wr.drew.cell? ⟨g1, o1 + k, none⟩ = some (.slice F1 m f1) ∧ wr.drew.cell? ⟨s, 2, none⟩ = some (.slice (some ⟨g, o, none⟩) D.st.xs.length D.st.c) ∧ wr.drew.cell? ⟨g, o + k * 13 + 3, none⟩ = some (.slice x.af.A m x.af.c) ∧ wr.drew.cell? ⟨g, o + k * 13, none⟩ = some (.string x.nm) := ⟨t1, c2, haf, hnm⟩
      have HSS := hid hS
      clear hS hrl hrg hun hrf hra hm h1d h1c hxs htx hkl hbr
      go_wp2_with fail
      go_region_held3 (fun w' => w'.cell? ⟨g1, o1 + k, none⟩ = some (.slice F1 m f1) ∧ w'.cell? ⟨s, 2, none⟩ = some (.slice (some ⟨g, o, none⟩) D.st.xs.length D.st.c) ∧ w'.cell? ⟨g, o + k * 13 + 3, none⟩ = some (.slice x.af.A m x.af.c) ∧ w'.cell? ⟨g, o + k * 13, none⟩ = some (.string x.nm)) (first | exact HSS.out | go_keep) (first
        | (go_at_call 14; (with_reducible refine (CR.out _).mono ?_); rintro e wa ⟨rfl, rfl⟩))
      have HW0 := hid (show Below w6.heap.size w6 wr.drew from bw_d HBR.out 1)
      clear t1 c0 c2 haf hnm HSS CR h1b
      go_wp2_with fail
      obtain ⟨wo, hwo⟩ : ∃ z, z = wr.drew := ⟨_, rfl⟩
      rw [← hwo] at HW0 ⊢
      clear hwo HBR
      go_loopw [5] (fun i wr => ∃ p : Nat, p ≤ m ∧ i = .int .i64 (p : Int) ∧ Below w6.heap.size w6 wr) (fun i _ => m - (intOf i).toNat)
      case atStart => exact ⟨0, by omega, rfl, HW0.out⟩
      case round =>
        obtain ⟨p, hp, rfl, hbr⟩ := hrel
        obtain ⟨hg1, hc1⟩ := HF.out
        have t1 := (hbr.cell hg1).trans hc1
        have c2 := HS2.out wr hbr
        have HBR2 := hid hbr
        by_cases hlp : p < m
        · have hpx : p < x.af.xs.length := by have := HM.out; omega
          have hpL : p < L.length := by have := HRL.out; omega
          obtain ⟨J, hJ, hget, hJk, hJn⟩ := HRF.out p hpx
          rw [List.getElem?_eq_getElem hpL] at hget
          have hLJ : L[p] = J := Option.some.inj hget
          obtain ⟨g3, o3, hF1, -, y1⟩ := nv_at (HD1.out.below hbr) p hpL
          rw [hLJ] at y1
          have y2 := HNM.out wr hbr J hJ
          rw [hJn] at y2
          have y3 := HAFk.out wr hbr
          obtain ⟨g4, o4, hA4, -, y4⟩ := tx_at (HTXk.out wr hbr) p hpx
          rw [hA4] at y3
          rw [hF1] at t1
          generalize x.af.xs[p] = y at *
          have hpi : (p : Int) < (m : Int) := by omega
          have hp0 : (0 : Int) ≤ (p : Int) := by omega
          have hJi : ¬ (J : Int) = (k : Int) := by omega
          have hJ0 : ¬ (J : Int) < 0 := by omega
          have hJ1 : ¬ (D.st.xs.length : Int) ≤ (J : Int) := by omega
          have hJ2 : (J : Int) < (D.st.xs.length : Int) := by omega
          have hJ3 : (0 : Int) ≤ (J : Int) := by omega
          clear hbr hg1 hc1 hget hLJ hJn hF1 hA4
          go_wp2_with fail
          go_quiet (fail)
          go_wp2_with fail
          · exfalso
            rename_i hor
            rcases hor with (hor | hor) | hor
            · simp at hor; omega
            · omega
            · omega
          · exact ⟨⟨p + 1, by omega, by go_num, bw_d HBR2.out _⟩, by simp [intOf] <;> omega⟩
        · obtain rfl : p = m := by omega
          have hnp : ¬ (p : Int) < (p : Int) := by omega
          clear hbr hg1 hc1
          go_wp2_with fail
          clear t1 c2
          obtain ⟨wu, hwu⟩ : ∃ z, z = wr := ⟨_, rfl⟩
          rw [← hwu] at HBR2 ⊢
          clear hwu
          go_loopw [7] (fun i wr => ∃ p : Nat, p ≤ k ∧ i = .int .i64 (p : Int) ∧ Below w6.heap.size w6 wr) (fun i _ => k - (intOf i).toNat)
          case atStart => exact ⟨0, by omega, rfl, HBR2.out⟩
          case round =>
            obtain ⟨q, hq, rfl, hbr⟩ := hrel
            have c2 := HS2.out wr hbr
            have HBR3 := hid hbr
            by_cases hlq : q < k
            · have hqn : q < D.st.xs.length := by omega
              have y1 := HNM.out wr hbr q hqn
              have y2 := HNMk.out wr hbr
              have hne := HUN.out q hlq
              have heb := Nm.str_ne hne
              generalize D.st.xs[q].nm = z at *
              have hqi : (q : Int) < (k : Int) := by omega
              have hq0 : (0 : Int) ≤ (q : Int) := by omega
              have hq1 : (q : Int) < (D.st.xs.length : Int) := by omega
              clear hbr hne
              go_wp2_with fail
              go_quiet (fail)
              go_wp2_with fail
              go_roundw
              case rel => exact ⟨q + 1, by omega, by go_num, bw_d HBR3.out _⟩
              case measure => simp [intOf] <;> omega
            · obtain rfl : q = k := by omega
              have hnq : ¬ (q : Int) < (q : Int) := by omega
              clear hbr
              go_wp2_with fail
              go_roundw
              case rel => exact ⟨q + 1, by omega, by go_num, HBR3.out⟩
              case measure => simp [intOf] <;> omega
    · obtain rfl : k = D.st.xs.length := by omega
      have hnk : ¬ (D.st.xs.length : Int) < (D.st.xs.length : Int) := by omega
      have hn1 : (0 : Int) < (D.st.xs.length : Int) := by have := HN0.out; omega
      have CR := hid (fun W => right25_any D.nm W HOK.out.1.1)
      rw [HRT.out.nm] at CR
      clear hbr
      go_wp2_with (go_at_call 14; (with_reducible refine (CR.out _).mono ?_); rintro e wa ⟨rfl, rfl⟩)
      go_ret
      exact ⟨rfl, by have h := bw_t (bw_t HB3.out HB6.out) HBR.out; rw [HWS.out] at h; exact h⟩
end Go.Proofs.Ytejdlhjbakndaaa
