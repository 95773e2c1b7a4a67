/- NamesRefs: a walk. -/
import Derived.Test.YtejdlhjbakndaaaNmL
import Derived.Test.YtejdlhjbakndaaaNmV
import Derived.Test.YtejdlhjbakndaaaNmB
import Derived.Test.YtejdlhjbakndaaaTxs
import Derived.Test.YtejdlhjbakndaaaDfC
import Derived.Deep.RegionHeld3
import Derived.Deep.DeepCutAuto
import Derived.WalkKit
set_option linter.unusedVariables false
namespace Go.Proofs.Ytejdlhjbakndaaa
open Go.RowKit
theorem sv_map (l : List ByteArray) : l.flatMap svC = l.map sv25 := by
  induction l with
  | nil => rfl
  | cons a r ih => rw [List.flatMap_cons, ih]; rfl
theorem SlN.sl1 {w : World} {A : Option Addr} {n c : Nat} {xs : List Value} (h : SlN w A n c 1 xs) : Sl w A c xs := ⟨by have := h.len; have := h.cap; omega, h.small, h.nil0, h.rd⟩
/-- Two rows of rows, one number each. -/
theorem RwS.at_ {W : World} {v : Value} {Ls : List (List Nat)} (h : RwS W v Ls) : ∃ A c, v = .slice A Ls.length c ∧ ∀ (i : Nat) (hi : i < Ls.length), ∃ g o A' c', A = some ⟨g, o, none⟩ ∧ g < W.heap.size ∧ W.cell? ⟨g, o + i, none⟩ = some (.slice A' Ls[i].length c') ∧ SlN W A' Ls[i].length c' 1 (Ls[i].flatMap nvC) := by
  obtain ⟨A, c, vs, e, hs, hl, hr⟩ := h
  refine ⟨A, c, e, fun i hi => ?_⟩
  obtain ⟨g, o, e1, hg, hc⟩ := hs.rd i (vs[i]'(by omega)) (List.getElem?_eq_getElem (by omega))
  obtain ⟨A', c', e2, hs2⟩ := hr i (by omega) hi
  rw [e2] at hc
  exact ⟨g, o, A', c', e1, hg, hc, hs2⟩
theorem nv_at {w : World} {A : Option Addr} {n c : Nat} {L : List Nat} (h : SlN w A n c 1 (L.flatMap nvC)) (k : Nat) (hk : k < L.length) : ∃ g o, A = some ⟨g, o, none⟩ ∧ g < w.heap.size ∧ w.cell? ⟨g, o + k, none⟩ = some (.int .i64 (L[k] : Int)) := by
  have e : ∀ l : List Nat, l.flatMap nvC = l.map (fun x : Nat => Value.int .i64 (x : Int)) := fun l => by induction l with | nil => rfl | cons a r ih => rw [List.flatMap_cons, ih]; rfl
  obtain ⟨g, o, h1, h2, h3⟩ := h.rd k (.int .i64 (L[k] : Int)) (by rw [e]; simp [hk])
  exact ⟨g, o, h1, h2, h3⟩
set_option maxRecDepth 100000 in
set_option maxHeartbeats 16000000 in
theorem namesRefs_any (D : DfV) (w : World) (hok : DfOk w 18 D) :
    Calls Try.prog 4 #[.agg #[.string D.nm, .string D.tx, .slice D.st.A D.st.xs.length D.st.c]] w fun e w' => e = .returned (.bool true) ∧ Below w.heap.size w w' := by
  obtain ⟨s, hws⟩ : ∃ s, w.heap.size = s := ⟨_, rfl⟩
  have hb1 := bw_a (Below.refl _ w) (.cells #[.string D.nm, .string D.tx, .slice D.st.A D.st.xs.length D.st.c] 24)
  have hk1 := Blk.new w 24 #[.string D.nm, .string D.tx, .slice D.st.A D.st.xs.length D.st.c]
  have hz1 : (w.alloc (.cells #[.string D.nm, .string D.tx, .slice D.st.A D.st.xs.length D.st.c] 24)).heap.size = s + 1 := by rw [World.size_alloc, hws]
  rw [hws] at hk1
  have HOK := hid hok
  have HWS := hid hws
  rw [hws]
  obtain ⟨w1, hw1⟩ : ∃ w1, w.alloc (.cells #[.string D.nm, .string D.tx, .slice D.st.A D.st.xs.length D.st.c] 24) = w1 := ⟨_, rfl⟩
  rw [hw1] at hb1 hk1 hz1
  have HB1 := hid hb1
  have HK1 := hid hk1
  have HZ1 := hid hz1
  have HW1 := hid hw1
  clear hok hb1 hk1 hz1 hw1
  go_enter Try.func4, Try.ntmps4
  go_wp2_with fail
  rw [HW1.out]
  with_reducible refine (live25_any w1).mono ?_
  rintro e w2 ⟨rfl, hb2⟩
  have hk2 := HK1.out.below hb2 (by rw [HZ1.out]; omega)
  have c0 := hk2.cell 0
  have c1 := hk2.cell 1
  have c2 := hk2.cell 2
  simp only [List.getElem?_toArray, List.getElem?_cons_zero, List.getElem?_cons_succ] at c0 c1 c2
  have HB2 := hid (bw_t HB1.out hb2)
  have HK2 := hid hk2
  have hz2 := hb2.size
  clear hb2
  go_wp2_with fail
  with_reducible refine (rsmall21_any D w2 (HOK.out.below HB2.out)).mono ?_
  rintro e w3 ⟨b, rfl, hb3, hsmall⟩
  have HB3 := hid (bw_t HB2.out hb3)
  cases b with
  | false =>
    clear hsmall hb3
    go_wp2_with fail
    go_ret
    exact ⟨rfl, by have h := HB3.out; rw [HWS.out] at h; exact h⟩
  | true =>
  obtain ⟨-, -, hl, hss⟩ := hsmall rfl
  have hk3 := HK2.out.below hb3 (by rw [HZ1.out] at hz2; omega)
  have hs3 : s < w3.heap.size := hk3.lt
  have hX : ∀ W, Below w3.heap.size w3 W → ∀ x ∈ D.st.xs, TxOk W x.af ∧ x.af.xs.length ≤ 70 := fun W h x hx => ⟨((HOK.out.2.1 x hx).2.1.below HB3.out).below h, (hss x hx).2.2.2.1⟩
  have hST : ∀ W, Below w3.heap.size w3 W → StRow W D := fun W h => SlN.below (SlN.below HOK.out.2.2 HB3.out) h
  have hz : ∀ x ∈ D.st.xs, x.nm.size ≤ maxLen := fun x hx => (HOK.out.2.1 x hx).1.1
  obtain ⟨LL, hLL⟩ : ∃ LL, Nm.rfAll (nms D.st.xs) 0 D.st.xs = LL := ⟨_, rfl⟩
  have hLn : LL.length = D.st.xs.length := by rw [← hLL, Nm.rfAll_len]
  have hLs : ∀ (i : Nat) (h : i < LL.length), LL[i].length ≤ 70 := fun i h => by
    subst hLL
    have hi : i < D.st.xs.length := by rw [Nm.rfAll_len] at h; exact h
    rw [Nm.rfAll_at (nms D.st.xs) D.st.xs 0 i hi]
    exact Nat.le_trans (Nm.rfRow_len _ _ _) (hss _ (List.getElem_mem hi)).2.2.2.1
  obtain ⟨n, hn⟩ : ∃ n, D.st.xs.length = n := ⟨_, rfl⟩
  obtain ⟨DA, hDA⟩ : ∃ DA : Value, Value.agg #[.string D.nm, .string D.tx, .slice D.st.A n D.st.c] = DA := ⟨_, rfl⟩
  have hC1 : ∀ W, Below w3.heap.size w3 W → Calls Try.prog 16 #[.agg #[.string D.nm, .string D.tx, .slice D.st.A n D.st.c]] W fun e w' => ∃ A c, e = .returned (.slice A n c) ∧ RwS w' (.slice A n c) LL ∧ Below W.heap.size W w' := fun W h => by
    have h1 := (callsIn_wide (n := 8)).1 (refs_in 8 (by omega) D W (hST W h) (hX W h) hl hz)
    rw [hn] at h1
    refine h1.mono ?_
    rintro e w' ⟨v, rfl, hr, hb⟩
    rw [hLL] at hr
    obtain ⟨A, c, vs, rfl, hs⟩ := hr
    rw [hLn, hn]
    exact ⟨A, c, rfl, ⟨A, c, vs, by rw [hLn, hn], hs⟩, hb⟩
  have hC2 : ∀ W, Below w3.heap.size w3 W → Calls Try.prog 17 #[.agg #[.string D.nm, .string D.tx, .slice D.st.A n D.st.c]] W fun e w' => ∃ A c, e = .returned (.slice A n c) ∧ RwS w' (.slice A n c) LL ∧ Below W.heap.size W w' := fun W h => by
    have h1 := rrefs25_any D W (hST W h) (hX W h) hl
    rw [hn] at h1
    refine h1.mono ?_
    rintro e w' ⟨v, rfl, hr, hb⟩
    rw [hLL] at hr
    obtain ⟨A, c, vs, rfl, hs⟩ := hr
    rw [hLn, hn]
    exact ⟨A, c, rfl, ⟨A, c, vs, by rw [hLn, hn], hs⟩, hb⟩
  obtain ⟨M, hM⟩ : ∃ M, Nm.msAll (nms D.st.xs) D.st.xs = M := ⟨_, rfl⟩
  have hC3 : ∀ W, Below w3.heap.size w3 W → Calls Try.prog 19 #[.agg #[.string D.nm, .string D.tx, .slice D.st.A n D.st.c]] W fun e w' => ∃ A c, e = .returned (.slice A M.length c) ∧ Sl w' A c (M.map sv25) ∧ Below W.heap.size W w' := fun W h => by
    have h1 := (callsIn_wide (n := 8)).1 (missing_in 8 (by omega) D W (hST W h) (hX W h) hl hz)
    rw [hn] at h1
    refine h1.mono ?_
    rintro e w' ⟨v, rfl, ho, hb⟩
    rw [hM] at ho
    obtain ⟨A, c, rfl, hs⟩ := SlN.of_own (by omega) ho
    rw [sv_map] at hs
    exact ⟨A, c, rfl, hs.sl1, hb⟩
  have hC4 : ∀ W, Below w3.heap.size w3 W → Calls Try.prog 20 #[.agg #[.string D.nm, .string D.tx, .slice D.st.A n D.st.c]] W fun e w' => ∃ A c, e = .returned (.slice A M.length c) ∧ Sl w' A c (M.map sv25) ∧ Below W.heap.size W w' := fun W h => by
    have h1 := rmiss25_any D W (hST W h) (hX W h) hl
    rw [hn] at h1
    refine h1.mono ?_
    rintro e w' ⟨v, rfl, ho, hb⟩
    rw [hM] at ho
    obtain ⟨A, c, rfl, hs⟩ := SlN.of_own (by omega) ho
    rw [sv_map] at hs
    exact ⟨A, c, rfl, hs.sl1, hb⟩
  rw [hn] at hk3 hLn
  have c0 := hk3.cell 0
  have c1 := hk3.cell 1
  have c2 := hk3.cell 2
  simp only [List.getElem?_toArray, List.getElem?_cons_zero, List.getElem?_cons_succ] at c0 c1 c2
  have HSS := hid (show ∀ W, Below w3.heap.size w3 W → W.cell? ⟨s, 0, none⟩ = some (.string D.nm) ∧ W.cell? ⟨s, 1, none⟩ = some (.string D.tx) ∧ W.cell? ⟨s, 2, none⟩ = some (.slice D.st.A n D.st.c) from fun W h => ⟨(h.cell hs3).trans c0, (h.cell hs3).trans c1, (h.cell hs3).trans c2⟩)
  have HD0 := hid (show Below w3.heap.size w3 w3.drew from bw_d (Below.refl _ w3) 1)
  have HC1 := hid hC1
  have HC2 := hid hC2
  have HC3 := hid hC3
  have HC4 := hid hC4
  have HLs := hid hLs
  have HLn := hid hLn
  have hn30 : n ≤ 30 := by omega
  clear hC1 hC2 hC3 hC4 hLs hLn hX hST hz hss hsmall hLL hM hDA hn hl hb3 hk3 c0 c1 c2
  go_upto_region 5 with fail
  go_cut [3, 4] (fun v3 v4 wx => ∃ A1 k1 A2 k2, v3 = .slice A1 n k1 ∧ v4 = .slice A2 n k2 ∧ RwS wx (.slice A1 n k1) LL ∧ RwS wx (.slice A2 n k2) LL ∧ Below w3.heap.size w3 wx)
  case first =>
    go_region_held3 (fun w' => w'.cell? ⟨s, 0, none⟩ = some (.string D.nm) ∧ w'.cell? ⟨s, 1, none⟩ = some (.string D.tx) ∧ w'.cell? ⟨s, 2, none⟩ = some (.slice D.st.A n D.st.c)) (first | exact HSS.out _ HD0.out | exact HSS.out _ HDa.out | exact HSS.out _ HDb.out | go_keep) (first
      | (go_at_call 16; (with_reducible refine (HC1.out _ HD0.out).mono ?_); rintro e wa ⟨A1, k1, rfl, hr, hb⟩; have HR1 := hid hr; have HDa := hid (bw_t HD0.out hb); clear hr hb)
      | (go_at_call 17; (with_reducible refine (HC2.out _ HD0.out).mono ?_); rintro e wa ⟨A2, k2, rfl, hr, hb⟩; have HR2 := hid hr; have HDa := hid (bw_t HD0.out hb); clear hr hb)
      | (go_at_call 17; (with_reducible refine (HC2.out _ HDa.out).mono ?_); rintro e wb ⟨A2, k2, rfl, hr, hb⟩; have HR2 := hid hr; have HR1 := hid (HR1.out.below hb); have HDb := hid (bw_t HDa.out hb); clear hr hb)
      | (go_at_call 16; (with_reducible refine (HC1.out _ HDa.out).mono ?_); rintro e wb ⟨A1, k1, rfl, hr, hb⟩; have HR1 := hid hr; have HR2 := hid (HR2.out.below hb); have HDb := hid (bw_t HDa.out hb); clear hr hb))
    all_goals (go_wp2_with fail; go_meet; exact ⟨_, _, _, _, rfl, rfl, HR1.out, HR2.out, HDb.out⟩)
  case rest =>
  obtain ⟨A1, k1, A2, k2, rfl, rfl, hr1, hr2, hbx⟩ := hcut
  obtain ⟨wx, rfl⟩ : ∃ x, x = wc := ⟨_, rfl⟩
  have HR1 := hid hr1
  have HR2 := hid hr2
  have HBX := hid hbx
  have HSX := hid (fun W (h : Below wx.heap.size wx W) => HSS.out W (bw_t HBX.out h))
  have HX0 := hid (show Below wx.heap.size wx wx.drew from bw_d (Below.refl _ wx) 1)
  have HC3x := hid (fun W (h : Below wx.heap.size wx W) => HC3.out W (bw_t HBX.out h))
  have HC4x := hid (fun W (h : Below wx.heap.size wx W) => HC4.out W (bw_t HBX.out h))
  have HTX := hid (fun (A3 : Option Addr) (k3 : Nat) (A4 : Option Addr) (k4 : Nat) (W : World) (h1 : Sl W A3 k3 (M.map sv25)) (h2 : Sl W A4 k4 (M.map sv25)) => (rtexts25_any M M M.length M.length A3 A4 k3 k4 W rfl rfl h1 h2).mono (R' := fun e w' => e = .returned (.bool true) ∧ Below W.heap.size W w') (fun e w' ⟨h3, q, h4⟩ => ⟨by rw [h3]; simp, by rw [h4]; exact bw_d (Below.refl _ W) q⟩))
  clear hr1 hr2 hbx
  go_upto_region 6 with fail
  go_cut [28] (fun v28 wy => v28 = .bool false ∧ Below wx.heap.size wx wy)
  case first =>
    go_region_held3 (fun w' => w'.cell? ⟨s, 0, none⟩ = some (.string D.nm) ∧ w'.cell? ⟨s, 1, none⟩ = some (.string D.tx) ∧ w'.cell? ⟨s, 2, none⟩ = some (.slice D.st.A n D.st.c)) (first | exact HSX.out _ HX0.out | exact HSX.out _ HDe.out | exact HSX.out _ HDb.out | exact HSX.out _ HDa.out | go_keep) (first
      | (go_at_call 19; (with_reducible refine (HC3x.out _ HX0.out).mono ?_); rintro e wa ⟨A3, k3, rfl, hr, hb⟩; have HM3 := hid hr; have HDa := hid (bw_t HX0.out hb); clear hr hb)
      | (go_at_call 20; (with_reducible refine (HC4x.out _ HX0.out).mono ?_); rintro e wa ⟨A4, k4, rfl, hr, hb⟩; have HM4 := hid hr; have HDa := hid (bw_t HX0.out hb); clear hr hb)
      | (go_at_call 20; (with_reducible refine (HC4x.out _ HDa.out).mono ?_); rintro e wb ⟨A4, k4, rfl, hr, hb⟩; have HM4 := hid hr; have HM3 := hid (HM3.out.below hb); have HDb := hid (bw_t HDa.out hb); clear hr hb)
      | (go_at_call 19; (with_reducible refine (HC3x.out _ HDa.out).mono ?_); rintro e wb ⟨A3, k3, rfl, hr, hb⟩; have HM3 := hid hr; have HM4 := hid (HM4.out.below hb); have HDb := hid (bw_t HDa.out hb); clear hr hb)
      | (go_at_call 18; (with_reducible refine (HTX.out _ _ _ _ _ HM3.out HM4.out).mono ?_); rintro e we ⟨rfl, hb⟩; have HDe := hid (bw_t HDb.out hb); clear hb))
    all_goals (go_wp2_with fail; go_meet; exact ⟨rfl, HDe.out⟩)
  case rest =>
  obtain ⟨rfl, hby⟩ := hcut
  obtain ⟨wy, rfl⟩ : ∃ x, x = wc := ⟨_, rfl⟩
  have hr1 := HR1.out.below hby
  have hr2 := HR2.out.below hby
  have HBY := hid (bw_t HB3.out (bw_t HBX.out hby))
  obtain ⟨B1, j1, e1, q1⟩ := hr1.at_
  obtain ⟨B2, j2, e2, q2⟩ := hr2.at_
  rw [HLn.out] at e1 e2
  injection e1 with e1a e1b e1c
  injection e2 with e2a e2b e2c
  subst e1a e1c e2a e2c
  have HQ1 := hid q1
  have HQ2 := hid q2
  have HY0 := hid (Below.refl wy.heap.size wy)
  clear hr1 hr2 q1 q2 e1b e2b hby HR1 HR2 HTX HC3x HC4x HC1 HC2 HC3 HC4 HSS HSX HX0 HD0
  go_wp2_with fail
  go_loopw [5] (fun i wr => ∃ k : Nat, k ≤ n ∧ i = .int .i64 (k : Int) ∧ Below wy.heap.size wy wr) (fun i _ => n - (intOf i).toNat)
  case atStart => exact ⟨0, by omega, rfl, HY0.out⟩
  case round =>
    obtain ⟨k, hk, rfl, hbr⟩ := hrel
    have HBR := hid hbr
    clear hbr
    by_cases hlt : k < n
    · have hkl : k < LL.length := by have := HLn.out; omega
      obtain ⟨g1, o1, F1, f1, h1a, h1b, h1c, h1d⟩ := HQ1.out k hkl
      obtain ⟨g2, o2, F2, f2, h2a, h2b, h2c, h2d⟩ := HQ2.out k hkl
      subst h1a h2a
      have h70 := HLs.out k hkl
      have t1 := (HBR.out.cell h1b).trans h1c
      have t2 := (HBR.out.cell h2b).trans h2c
      generalize LL[k] = L at *
      obtain ⟨m, hm⟩ : ∃ m, L.length = m := ⟨_, rfl⟩
      rw [hm] at t1 t2 h70 h1d h2d
      have HM := hid hm
      have HD1 := hid h1d
      have HD2 := hid h2d
      have HT := hid (And.intro h1b (And.intro h1c (And.intro h2b h2c)))
      rw [hm] at HT
      have hki : (k : Int) < (n : Int) := by omega
      have hk0 : (0 : Int) ≤ (k : Int) := by omega
      clear hm h1d h2d h1c h2c
      go_wp2_with fail
      go_quiet (fail)
      go_wp2_with fail
      have HW1 := hid (show Below wy.heap.size wy (wr.drewN nq) from bw_d HBR.out nq)
      clear t1 t2
      obtain ⟨wo, hwo⟩ : ∃ z, z = wr.drewN nq := ⟨_, rfl⟩
      rw [← hwo] at HW1 ⊢
      clear hwo HBR
      go_loopw [6] (fun i wr => ∃ p : Nat, p ≤ m ∧ i = .int .i64 (p : Int) ∧ Below wy.heap.size wy wr) (fun i _ => m - (intOf i).toNat)
      case atStart => exact ⟨0, by omega, rfl, HW1.out⟩
      case round =>
        obtain ⟨p, hp, rfl, hbr⟩ := hrel
        obtain ⟨hg1, hc1, hg2, hc2⟩ := HT.out
        have t1 := (hbr.cell hg1).trans hc1
        have t2 := (hbr.cell hg2).trans hc2
        have HBR2 := hid hbr
        by_cases hlp : p < m
        · have hpl : p < L.length := by have := HM.out; omega
          obtain ⟨g3, o3, hF1, -, y1⟩ := nv_at (HD1.out.below hbr) p hpl
          obtain ⟨g4, o4, hF2, -, y2⟩ := nv_at (HD2.out.below hbr) p hpl
          subst hF1 hF2
          generalize L[p] = x at *
          have hpi : (p : Int) < (m : Int) := by omega
          have hp0 : (0 : Int) ≤ (p : Int) := by omega
          clear hbr hg1 hc1 hg2 hc2
          go_wp2_with fail
          go_quiet (fail)
          go_wp2_with fail
          go_roundw
          case rel => exact ⟨p + 1, by omega, by go_num, bw_d HBR2.out _⟩
          case measure => simp [intOf] <;> omega
        · obtain rfl : p = m := by omega
          have hnp : ¬ (p : Int) < (p : Int) := by omega
          clear hbr hg1 hc1 hg2 hc2
          go_wp2_with fail
          go_roundw
          case rel => exact ⟨k + 1, by omega, by go_num, HBR2.out⟩
          case measure => simp [intOf] <;> omega
    · obtain rfl : k = n := by omega
      have hnk : ¬ (k : Int) < (k : Int) := by omega
      go_wp2_with fail
      go_ret
      exact ⟨rfl, by have h := bw_t HBY.out HBR.out; rw [HWS.out] at h; exact h⟩
end Go.Proofs.Ytejdlhjbakndaaa
