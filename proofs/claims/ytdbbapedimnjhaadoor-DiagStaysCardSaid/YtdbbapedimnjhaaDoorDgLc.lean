/- DiagStays: a walk. -/
import Derived.Test.YtdbbapedimnjhaaDoorDgLa
set_option linter.unusedVariables false
namespace Go.Proofs.YtdbbapedimnjhaaDoor
open Go.RowKit
theorem own_empty24 (w : World) (t : TypeId) (sz B g : Nat) (hg : w.heap.size = g) (hB : B ≤ g) : (w.alloc (.cells #[] t)).ownsRow B t sz (.slice (some ⟨g, 0, none⟩) 0 0) 0 [] := by
  subst hg
  exact ⟨by simp, .inr ⟨w.heap.size, 0, #[], rfl, hB, heap_alloc_new w _, Nat.le_refl _, by simp [maxLen], by simp, by simp⟩⟩
/-- How often one stands among some. -/
def cnt24 (x : Dg.D) (L : List Dg.D) : Nat := (L.filter fun y => decide (y = x)).length
theorem cnt24_snoc (x y : Dg.D) (L : List Dg.D) : cnt24 x (L ++ [y]) = cnt24 x L + if y = x then 1 else 0 := by
  unfold cnt24; rw [List.filter_append, List.length_append]
  by_cases h : y = x <;> simp [h]
theorem cnt24_not {x : Dg.D} : ∀ {L : List Dg.D}, ¬ x ∈ L → cnt24 x L = 0
  | [], _ => rfl
  | y :: L, h => by
    have h1 : ¬ y = x := fun e => h (by rw [e]; simp)
    have h2 := cnt24_not (x := x) (L := L) (fun hm => h (by simp [hm]))
    unfold cnt24 at h2 ⊢
    rw [List.filter_cons, if_neg (by simpa using h1)]; exact h2
theorem cnt24_one {x : Dg.D} : ∀ {L : List Dg.D}, Dg.Up L → x ∈ L → cnt24 x L = 1
  | [], _, h => by cases h
  | y :: L, hu, h => by
    obtain ⟨h1, h2⟩ := List.pairwise_cons.1 hu
    by_cases e : y = x
    · subst e
      have hn : ¬ y ∈ L := fun hm => by have := h1 y hm; rw [Dg.irr] at this; cases this
      have := cnt24_not hn
      unfold cnt24 at this ⊢
      rw [List.filter_cons, if_pos (by simp)]; simp [this]
    · have hm : x ∈ L := by
        rcases List.mem_cons.1 h with h | h
        · exact absurd h.symm e
        · exact h
      have := cnt24_one h2 hm
      unfold cnt24 at this ⊢
      rw [List.filter_cons, if_neg (by simpa using e)]; exact this
theorem cnt24_le (x : Dg.D) (L : List Dg.D) : cnt24 x L ≤ L.length := List.length_filter_le _ _
theorem dok_srt {X : List Dg.D} (h : ∀ x ∈ X, DOk x) : ∀ x ∈ Dg.srt X, DOk x := fun x hx => h x (Dg.srt_mem.1 hx)
theorem srt_two (X Y : List Dg.D) : Dg.srt (X ++ Y) = Dg.srt (Dg.srt Y ++ Dg.srt X) := Dg.srt_ext fun x => by simp only [List.mem_append, Dg.srt_mem]; exact Or.comm
set_option maxRecDepth 100000 in
set_option maxHeartbeats 32000000 in
theorem diagStays_any (X Y : List Dg.D) (n m : Nat) (A B : Option Addr) (c d : Nat) (w : World) (hn : X.length = n) (hm : Y.length = m) (hl : n ≤ 9223372036854775807) (hl2 : m ≤ 9223372036854775807) (hok : ∀ x ∈ X, DOk x) (hok2 : ∀ x ∈ Y, DOk x) (hs : SlN w A n c 3 (X.flatMap dC)) (ht : SlN w B m d 3 (Y.flatMap dC)) (hT : PowT w) :
    Calls Tryd.prog 5 #[.slice A n c, .slice B m d] w fun e w' => e = .returned (.bool true) ∧ Below w.heap.size w w' := by
  obtain ⟨i0, hi0, hz0, hz1, hz2⟩ := info_parts Tryd.infoDg
  have HN := hid hn
  have HM := hid hm
  have HOK := hid hok
  have HOK2 := hid hok2
  have HS := hid hs
  have HT := hid ht
  have HP := hid hT
  clear hn hm hok hok2 hs ht hT
  go_enter Tryd.func5, Tryd.ntmps5
  go_wp2_with fail
  refine (live24_any w HP.out).mono ?_
  rintro e w2 ⟨rfl, hb2⟩
  have HB2 := hid hb2
  have hsm := small24_any X n A c w2 HN.out hl (HS.out.below HB2.out)
  have hsm2 := small24_any Y m B d w2 HM.out hl2 (HT.out.below HB2.out)
  clear hb2
  by_cases hsb : smD X = true
  case neg =>
    have hsb : smD X = false := by simpa using hsb
    rw [hsb] at hsm
    have HSM := hid hsm
    clear hsm hsb hsm2
    go_wp2_with fail
    refine HSM.out.mono ?_
    rintro e w3 ⟨rfl, h3⟩
    obtain rfl : w2 = w3 := h3.symm
    go_wp2_with fail
    go_ret
    exact ⟨rfl, HB2.out⟩
  rw [hsb] at hsm
  have HSM := hid hsm
  have HFW := hid (smD_iff.1 hsb)
  clear hsm hsb
  by_cases hsb : smD Y = true
  case neg =>
    have hsb : smD Y = false := by simpa using hsb
    rw [hsb] at hsm2
    have HSM2 := hid hsm2
    clear hsm2 hsb
    go_wp2_with fail
    refine HSM.out.mono ?_
    rintro e w3 ⟨rfl, h3⟩
    obtain rfl : w2 = w3 := h3.symm
    go_wp2_with fail
    refine HSM2.out.mono ?_
    rintro e w3 ⟨rfl, h3⟩
    obtain rfl : w2 = w3 := h3.symm
    go_wp2_with fail
    go_ret
    exact ⟨rfl, HB2.out⟩
  rw [hsb] at hsm2
  have HSM2 := hid hsm2
  have HFW2 := hid (smD_iff.1 hsb)
  clear hsm2 hsb
  have hn60 : n ≤ 60 := by rw [← HN.out]; exact HFW.out.1
  have hm60 : m ≤ 60 := by rw [← HM.out]; exact HFW2.out.1
  go_wp2_with fail
  refine HSM.out.mono ?_
  rintro e w3 ⟨rfl, h3⟩
  obtain rfl : w2 = w3 := h3.symm
  go_wp2_with fail
  refine HSM2.out.mono ?_
  rintro e w3 ⟨rfl, h3⟩
  obtain rfl : w2 = w3 := h3.symm
  go_wp2_with fail
  refine (dsort_any X n A c w2 HN.out (by omega) HOK.out (HS.out.below HB2.out)).mono ?_
  rintro e w3 ⟨As, ms, cs, rfl, hms, hss, hb3⟩
  have HSL := hid (Dg.srt_len X)
  have hms60 : ms ≤ n := by rw [← hms, ← HN.out]; exact HSL.out
  have HUP := hid (Dg.srt_up X)
  have HMEM := hid (fun x => Dg.srt_mem (l := X) (z := x))
  have HOS := hid (dok_srt HOK.out)
  have HTW := hid (srt_two X Y)
  have HSS2 := hid (Dg.srt_srt X)
  have HSLY := hid (Dg.srt_len Y)
  generalize Dg.srt X = SX at *
  have HMS := hid hms
  have HSS := hid hss
  have HB3 := hid (bw_t HB2.out hb3)
  clear hms hss hb3
  go_wp2_with fail
  obtain ⟨wz, rfl⟩ : ∃ z, z = w3 := ⟨_, rfl⟩
  have HB0 := hid (Below.refl wz.heap.size wz)
  go_loopw [6] (fun i wr => ∃ (k : Nat), 1 ≤ k ∧ k ≤ ms + 1 ∧ i = .int .i64 (k : Int) ∧ Below wz.heap.size wz wr) (fun i _ => ms + 1 - (intOf i).toNat)
  case atStart => exact ⟨1, by omega, by omega, rfl, HB0.out⟩
  case round =>
    obtain ⟨k, hk1, hk, rfl, hbe⟩ := hrel
    have HBE := hid hbe
    clear hbe
    by_cases hlt : k < ms
    · obtain ⟨j, hjk⟩ : ∃ j, j + 1 = k := ⟨k - 1, by omega⟩
      have hjl : j < SX.length := by have := HMS.out; omega
      have hjl1 : k < SX.length := by have := HMS.out; omega
      obtain ⟨g, o, rfl, hg, c0, c1, c2⟩ := dRow_at (HSS.out.below HBE.out) j hjl
      obtain ⟨g', o', e1, -, d0, d1, d2⟩ := dRow_at (HSS.out.below HBE.out) k hjl1
      injection e1 with e1
      injection e1 with e1 e1'
      subst e1 e1'
      have hyz : Dg.ltb SX[j] SX[k] = true := List.pairwise_iff_getElem.1 HUP.out j k hjl hjl1 (by omega)
      generalize SX[j] = y at *
      generalize SX[k] = z at *
      have C1' : ∀ W, Below wr.heap.size wr W → Calls Tryd.prog 12 #[.agg #[.int .i64 y.1, .int .i64 y.2.1, .string y.2.2], .agg #[.int .i64 z.1, .int .i64 z.2.1, .string z.2.2]] W fun e w' => e = .returned (.bool true) ∧ Below wr.heap.size wr w' := fun W h => (dless_any y z W).mono (fun e w' h2 => ⟨by rw [h2.1, hyz], bw_t h h2.2⟩)
      have C1 := hid C1'
      have hki : (k : Int) < (ms : Int) := by omega
      have hk0 : (0 : Int) ≤ (k : Int) := by omega
      have hj0 : (0 : Int) ≤ (j : Int) := by omega
      have hw1 : IntKind.i64.wrap ((k : Int) - 1) = (j : Int) := by rw [IntWalk.i64_in _ (by omega)]; omega
      have hjm : (j : Int) < (ms : Int) := by omega
      have HJK := hid hjk
      clear hjk
      have hS : ∀ W', Below wr.heap.size wr W' → (fun w' => w'.cell? ⟨g, o + j * 3, none⟩ = some (.int .i64 y.1) ∧ w'.cell? ⟨g, o + j * 3 + 1, none⟩ = some (.int .i64 y.2.1) ∧ w'.cell? ⟨g, o + j * 3 + 2, none⟩ = some (.string y.2.2) ∧ w'.cell? ⟨g, o + k * 3, none⟩ = some (.int .i64 z.1) ∧ w'.cell? ⟨g, o + k * 3 + 1, none⟩ = some (.int .i64 z.2.1) ∧ w'.cell? ⟨g, o + k * 3 + 2, none⟩ = some (.string z.2.2)) W' := fun W' hb => ⟨(hb.cell (p := ⟨g, o + j * 3, none⟩) hg).trans c0, (hb.cell (p := ⟨g, o + j * 3 + 1, none⟩) hg).trans c1, (hb.cell (p := ⟨g, o + j * 3 + 2, none⟩) hg).trans c2, (hb.cell (p := ⟨g, o + k * 3, none⟩) hg).trans d0, (hb.cell (p := ⟨g, o + k * 3 + 1, none⟩) hg).trans d1, (hb.cell (p := ⟨g, o + k * 3 + 2, none⟩) hg).trans d2⟩
      have HSSS := hid hS
      have HD0 := hid (show Below wr.heap.size wr wr.drew from bw_d (Below.refl _ wr) 1)
      clear hyz C1' hS c0 c1 c2 d0 d1 d2 hjl hjl1
      go_wp2_with fail
      go_region_held3 (fun w' => w'.cell? ⟨g, o + j * 3, none⟩ = some (.int .i64 y.1) ∧ w'.cell? ⟨g, o + j * 3 + 1, none⟩ = some (.int .i64 y.2.1) ∧ w'.cell? ⟨g, o + j * 3 + 2, none⟩ = some (.string y.2.2) ∧ w'.cell? ⟨g, o + k * 3, none⟩ = some (.int .i64 z.1) ∧ w'.cell? ⟨g, o + k * 3 + 1, none⟩ = some (.int .i64 z.2.1) ∧ w'.cell? ⟨g, o + k * 3 + 2, none⟩ = some (.string z.2.2)) (first | exact HSSS.out _ HD0.out | exact HSSS.out _ HDa.out | go_keep) ((go_at_call 12; (with_reducible refine (C1.out _ HD0.out).mono ?_); rintro e wa ⟨rfl, hbn⟩; have HDa := hid hbn; clear hbn))
      go_wp2_with fail
      go_roundw
      case rel => exact ⟨k + 1, by omega, by omega, by go_num, bw_t HBE.out HDa.out⟩
      case measure => simp [intOf] <;> omega
    · have hnk : ¬ (k : Int) < (ms : Int) := by omega
      have HBZ := hid (bw_t HB3.out HBE.out)
      have HSZ := hid (HSS.out.below HBE.out)
      go_wp2_with fail
      obtain ⟨wy, rfl⟩ : ∃ z, z = wr := ⟨_, rfl⟩
      have HY0 := hid (Below.refl wy.heap.size wy)
      clear hk hk1 hlt hnk
      go_loopw [7] (fun i wr => ∃ (p : Nat), p ≤ n ∧ i = .int .i64 (p : Int) ∧ Below wy.heap.size wy wr) (fun i _ => n - (intOf i).toNat)
      case atStart => exact ⟨0, by omega, rfl, HY0.out⟩
      case round =>
        obtain ⟨p, hp, rfl, hbe⟩ := hrel
        have HBP := hid hbe
        clear hbe
        by_cases hlp : p < n
        · have hpl : p < X.length := by have := HN.out; omega
          have hrow := dRow_at ((HS.out.below HBZ.out).below HBP.out) p hpl
          have hxm : X[p] ∈ SX := (HMEM.out X[p]).2 (List.getElem_mem hpl)
          have hone := cnt24_one HUP.out hxm
          generalize X[p] = x at *
          obtain ⟨g, o, rfl, hg, c0, c1, c2⟩ := hrow
          have HC := hid (And.intro hg (And.intro c0 (And.intro c1 c2)))
          have HONE := hid hone
          have hpi : (p : Int) < (n : Int) := by omega
          have hp0 : (0 : Int) ≤ (p : Int) := by omega
          clear hxm hone c0 c1 c2 hg
          obtain ⟨wx, rfl⟩ : ∃ z, z = wr := ⟨_, rfl⟩
          have HX0 := hid (Below.refl wx.heap.size wx)
          go_wp2_with fail
          go_loopw [8, 9] (fun kv i wr => ∃ (j : Nat), j ≤ ms ∧ i = .int .i64 (j : Int) ∧ kv = .int .i64 (cnt24 x (SX.take j) : Int) ∧ Below wx.heap.size wx wr) (fun _ i _ => ms - (intOf i).toNat)
          case atStart => exact ⟨0, by omega, rfl, rfl, HX0.out⟩
          case round =>
            obtain ⟨j, hj, rfl, rfl, hbe⟩ := hrel
            have HBJ := hid hbe
            clear hbe
            by_cases hlj : j < ms
            · have hjl : j < SX.length := by have := HMS.out; omega
              obtain ⟨g2, o2, eA, hg2, d0, d1, d2⟩ := dRow_at (HSZ.out.below (bw_t HBP.out HBJ.out)) j hjl
              first | subst eA | (injection eA with eA; injection eA with e1 e2; subst e1 e2)
              have hgx := HC.out.1
              have c0 := (HBJ.out.cell (p := ⟨g, o + p * 3, none⟩) hgx).trans HC.out.2.1
              have c1 := (HBJ.out.cell (p := ⟨g, o + p * 3 + 1, none⟩) hgx).trans HC.out.2.2.1
              have c2 := (HBJ.out.cell (p := ⟨g, o + p * 3 + 2, none⟩) hgx).trans HC.out.2.2.2
              have HTJ := hid (show cnt24 x (SX.take (j + 1)) = cnt24 x (SX.take j) + if SX[j] = x then 1 else 0 by rw [List.take_succ_eq_append_getElem hjl, cnt24_snoc])
              have hcl : cnt24 x (SX.take j) ≤ 60 := Nat.le_trans (cnt24_le _ _) (by rw [List.length_take]; omega)
              generalize SX[j] = y at *
              obtain ⟨q, hq⟩ : ∃ q, cnt24 x (SX.take j) = q := ⟨_, rfl⟩
              rw [hq] at hcl HTJ
              have HQ := hid hq
              rw [hq]
              clear hq
              have hji : (j : Int) < (ms : Int) := by omega
              have hj0 : (0 : Int) ≤ (j : Int) := by omega
              have hq8 := fun W => deql y x W
              by_cases hyx : y = x
              · have hde : decide (y = x) = true := by simp [hyx]
                rw [hde] at hq8
                have HTJ2 := hid (show cnt24 x (SX.take (j + 1)) = q + 1 by rw [HTJ.out, if_pos hyx])
                clear hyx hde
                go_wp2_with fail
                go_quiet (fail)
                go_wp2_with fail
                go_roundw
                case rel => exact ⟨j + 1, by omega, by go_num, by rw [HTJ2.out]; go_num, bw_d HBJ.out _⟩
                case measure => simp [intOf] <;> omega
              · have hde : decide (y = x) = false := by simp [hyx]
                rw [hde] at hq8
                have HTJ2 := hid (show cnt24 x (SX.take (j + 1)) = q by rw [HTJ.out, if_neg hyx]; rfl)
                clear hyx hde
                go_wp2_with fail
                go_quiet (fail)
                go_wp2_with fail
                go_roundw
                case rel => exact ⟨j + 1, by omega, by go_num, by rw [HTJ2.out], bw_d HBJ.out _⟩
                case measure => simp [intOf] <;> omega
            · have hjn : ¬ (j : Int) < (ms : Int) := by omega
              have hc1 : cnt24 x (SX.take j) = 1 := by rw [List.take_of_length_le (by have := HMS.out; omega), HONE.out]
              rw [hc1]
              clear hc1
              go_wp2_with fail
              go_roundw
              case rel => exact ⟨p + 1, by omega, by go_num, bw_t HBP.out HBJ.out⟩
              case measure => simp [intOf] <;> omega
        · have hpn : ¬ (p : Int) < (n : Int) := by omega
          have HBY := hid (bw_t HBZ.out HBP.out)
          have HSY := hid (HSZ.out.below HBP.out)
          obtain ⟨wx, rfl⟩ : ∃ z, z = wr := ⟨_, rfl⟩
          have hE0 : (wx.alloc (.cells #[] 25)).ownsRow wx.heap.size 25 3 (.slice (some ⟨wx.heap.size, 0, none⟩) 0 0) 0 [] := own_empty24 wx _ 3 _ _ rfl (Nat.le_refl _)
          have hbe := bw_a (Below.refl _ wx) (.cells #[] 25)
          have HE0 := hid hE0
          have HBE0 := hid hbe
          have hxn : X.length = n := HN.out
          have hyn : Y.length = m := HM.out
          have HSX := hid ((HS.out.below HBY.out).below hbe)
          clear hE0 hbe hp hlp
          go_wp2_with (first
            | (at_builtin; refine wpList_append_rd rfl (.tmp 66) (.tmp 67) 22 rfl wx.heap.size 25 i0 (.agg #[.int .i64 0, .int .i64 0, .string ⟨#[]⟩]) 3 32 Tryd.underlying22 hi0 hz0 hz1 hz2 rfl (by decide) _ _ _ rfl HE0.out A n c (X.flatMap dC) rfl (by rw [dflat_len]; exact congrArg (· * 3) (by assumption)) HSX.out.rd HSX.out.nil0 (dflat_one _) (by simp only [maxLen]; omega) (by omega) (by simp) ?_; intro v4 w4 hown4 hgrow4; have HO4 := hid hown4; have HBD4 := hid (bw_g HBE0.out hgrow4 (fun k ek => (HE0.out.lt k ek).1)); have hsz4 : wx.heap.size ≤ w4.heap.size := HBD4.out.size; have HTX := hid ((HT.out.below HBY.out).below HBD4.out); clear hown4 hgrow4)
            | (at_builtin; refine wpList_append_rd rfl (.tmp 68) (.tmp 69) 22 rfl wx.heap.size 25 i0 (.agg #[.int .i64 0, .int .i64 0, .string ⟨#[]⟩]) 3 32 Tryd.underlying22 hi0 hz0 hz1 hz2 rfl (by decide) _ _ _ rfl HO4.out B m d (Y.flatMap dC) rfl (by rw [dflat_len]; exact congrArg (· * 3) (by assumption)) HTX.out.rd HTX.out.nil0 (dflat_one _) (by simp only [maxLen]; omega) (by omega) (by omega) ?_; intro v5 w5 hown5 hgrow5; have HO5 := hid hown5; have HBD5 := hid (bw_g HBD4.out hgrow5 (fun k ek => (HO4.out.lt k ek).1)); clear hown5 hgrow5))
          obtain ⟨A5, c5, hv5, hs5⟩ := SlN.of_own (by omega) HO5.out
          subst hv5
          rw [List.nil_append, ← List.flatMap_append] at hs5
          obtain ⟨nm, hnm⟩ : ∃ nm, 0 + n + m = nm := ⟨_, rfl⟩
          rw [hnm] at hs5 ⊢
          have hlen5 : (X ++ Y).length = nm := by rw [List.length_append, hxn, hyn]; omega
          have HS5 := hid hs5
          have HW5 := hid (bw_t HBY.out HBD5.out)
          have hokxy : ∀ x ∈ X ++ Y, DOk x := fun x hx => (List.mem_append.1 hx).elim (HOK.out x) (HOK2.out x)
          clear hs5 HO5 HO4 HTX HBD4 hsz4 HE0 HBE0 HSX
          refine (dsort_any (X ++ Y) nm A5 c5 w5 hlen5 (by omega) hokxy HS5.out).mono ?_
          rintro e w6 ⟨A6, m6, c6, rfl, hm6, hs6, hb6⟩
          have HW6 := hid (bw_t HW5.out hb6)
          have HS6 := hid hs6
          have HM6 := hid hm6
          have HSY6 := hid (HSY.out.below (bw_t HBD5.out hb6))
          clear hb6 hs6 hm6
          go_wp2_with fail
          have hE0 : (w6.alloc (.cells #[] 25)).ownsRow w6.heap.size 25 3 (.slice (some ⟨w6.heap.size, 0, none⟩) 0 0) 0 [] := own_empty24 w6 _ 3 _ _ rfl (Nat.le_refl _)
          have hbe := bw_a (Below.refl _ w6) (.cells #[] 25)
          refine (dsort_any Y m B d _ hyn (by omega) HOK2.out ((HT.out.below HW6.out).below hbe)).mono ?_
          rintro e w7 ⟨A7, m7, c7, rfl, hm7, hs7, hb7⟩
          have HB7 := hid (bw_t hbe hb7)
          have HE7 := hid (own_below hE0 hb7)
          have HS7 := hid hs7
          have HM7 := hid hm7
          have HSY7 := hid (HSY6.out.below HB7.out)
          have hsz7 : w6.heap.size ≤ w7.heap.size := HB7.out.size
          have hm7b : m7 ≤ 60 := by rw [← hm7]; have := HSLY.out; omega
          have hsxl : SX.length = ms := HMS.out
          have HB6' := hid (fun k ek => (HE7.out.lt k ek).1)
          clear hE0 hbe hb7 hs7
          go_wp2_with (first
            | (at_builtin; refine wpList_append_rd rfl (.tmp 72) (.tmp 74) 22 rfl w6.heap.size 25 i0 (.agg #[.int .i64 0, .int .i64 0, .string ⟨#[]⟩]) 3 32 Tryd.underlying22 hi0 hz0 hz1 hz2 rfl (by decide) _ _ _ rfl HE7.out A7 m7 c7 ((Dg.srt Y).flatMap dC) rfl (by rw [dflat_len]; exact congrArg (· * 3) (by assumption)) HS7.out.rd HS7.out.nil0 (dflat_one _) (by simp only [maxLen]; omega) (by omega) (by omega) ?_; intro v8 w8 hown8 hgrow8; have HO8 := hid hown8; have HBD8 := hid (bw_g HB7.out hgrow8 (fun k ek => (HE7.out.lt k ek).1)); have hsz8 : w6.heap.size ≤ w8.heap.size := HBD8.out.size; have HSX8 := hid (HSY6.out.below HBD8.out); clear hown8 hgrow8)
            | (at_builtin; refine wpList_append_rd rfl (.tmp 75) (.tmp 76) 22 rfl w6.heap.size 25 i0 (.agg #[.int .i64 0, .int .i64 0, .string ⟨#[]⟩]) 3 32 Tryd.underlying22 hi0 hz0 hz1 hz2 rfl (by decide) _ _ _ rfl HO8.out As ms cs (SX.flatMap dC) rfl (by rw [dflat_len]; exact congrArg (· * 3) (by assumption)) HSX8.out.rd HSX8.out.nil0 (dflat_one _) (by simp only [maxLen]; omega) (by omega) (by omega) ?_; intro v9 w9 hown9 hgrow9; have HO9 := hid hown9; have HBD9 := hid (bw_g HBD8.out hgrow9 (fun k ek => (HO8.out.lt k ek).1)); clear hown9 hgrow9))
          obtain ⟨A9, c9, hv9, hs9⟩ := SlN.of_own (by omega) HO9.out
          subst hv9
          rw [List.nil_append, ← List.flatMap_append] at hs9
          obtain ⟨mm, hmm⟩ : ∃ mm, 0 + m7 + ms = mm := ⟨_, rfl⟩
          rw [hmm] at hs9 ⊢
          have hlen9 : (Dg.srt Y ++ SX).length = mm := by rw [List.length_append, HM7.out, hsxl]; omega
          have hokyx : ∀ x ∈ Dg.srt Y ++ SX, DOk x := fun x hx => (List.mem_append.1 hx).elim (dok_srt HOK2.out x) (HOS.out x)
          have HS9 := hid hs9
          have HS69 := hid (HS6.out.below HBD9.out)
          have HSX9 := hid (HSY6.out.below HBD9.out)
          have HW9 := hid (bw_t HW6.out HBD9.out)
          clear hs9 HO9 HO8 HSX8 HBD8 hsz8 HE7 HS7 HSY7
          refine (dsort_any (Dg.srt Y ++ SX) mm A9 c9 w9 hlen9 (by omega) hokyx HS9.out).mono ?_
          rintro e w10 ⟨A10, m10, c10, rfl, hm10, hs10, hb10⟩
          rw [← HTW.out] at hm10 hs10
          have HW10 := hid (bw_t HW9.out hb10)
          have HS10 := hid hs10
          have HS610 := hid (HS69.out.below hb10)
          have HSX10 := hid (HSX9.out.below hb10)
          have HM10 := hid hm10
          have h60 : (Dg.srt (X ++ Y)).length ≤ 1000 := by have := Dg.srt_len (X ++ Y); omega
          have hmsn : (ms : Int) ≤ (n : Int) := by omega
          have HSRT := hid (fun W (h : Below w10.heap.size w10 W) => (dsort_any SX ms As cs W hsxl (by omega) HOS.out (HSX10.out.below h)).mono (R' := fun e w' => ∃ A' m c', e = .returned (.slice A' m c') ∧ SX.length = m ∧ SlN w' A' m c' 3 (SX.flatMap dC) ∧ Below w10.heap.size w10 w') (fun e w' h2 => by obtain ⟨A', m, c', h3, h4, h5, h6⟩ := h2; rw [HSS2.out] at h4 h5; exact ⟨A', m, c', h3, h4, h5, bw_t h h6⟩))
          have hm6b : m6 ≤ 1000 := by rw [← HM6.out]; exact h60
          have hm10b : m10 ≤ 1000 := by rw [← HM10.out]; exact h60
          have HSAM := hid (fun W (h : Below w10.heap.size w10 W) => (same24_any _ _ m6 m10 A6 A10 c6 c10 W HM6.out HM10.out (by omega) (by omega) (HS610.out.below h) (HS10.out.below h)).mono (R' := fun e w' => e = .returned (.bool true) ∧ Below w10.heap.size w10 w') (fun e w' h3 => ⟨by rw [h3.1]; simp, bw_t h h3.2⟩))
          clear hm10 hs10 hb10 h60
          go_wp2_with fail
          refine (HSRT.out _ (Below.refl _ _)).mono ?_
          rintro e w11 ⟨A11, m11, c11, rfl, hm11, hs11, hb11⟩
          have HB11 := hid hb11
          have HSX11 := hid (HSX10.out.below hb11)
          have hm11b : m11 ≤ 1000 := by omega
          have hsame := same24_any SX SX m11 ms A11 As c11 cs w11 hm11 hsxl (by omega) (by omega) hs11 HSX11.out
          rw [show decide (SX = SX) = true from by simp] at hsame
          have HSA := hid hsame
          clear hb11 hs11 hsame
          go_wp2_with fail
          refine HSA.out.mono ?_
          rintro e w12 ⟨rfl, hb12⟩
          have HB12 := hid (bw_t HB11.out hb12)
          clear hb12
          go_wp2_with fail
          refine (HSAM.out _ HB12.out).mono ?_
          rintro e w13 ⟨rfl, hb13⟩
          have HB13 := hid (bw_t HW10.out hb13)
          clear hb13
          go_wp2_with fail
          go_ret
          exact ⟨rfl, HB13.out⟩
end Go.Proofs.YtdbbapedimnjhaaDoor
