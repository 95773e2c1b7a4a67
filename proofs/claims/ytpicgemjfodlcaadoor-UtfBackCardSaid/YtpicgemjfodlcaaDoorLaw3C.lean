/- The walk of UtfBack. -/
import Derived.Test.YtpicgemjfodlcaaDoorProg
import Derived.Test.YtpicgemjfodlcaaDoorBase
import Derived.Test.YtpicgemjfodlcaaDoorLaw3B
set_option linter.unusedVariables false
namespace Go.Proofs.YtpicgemjfodlcaaDoor
open Go.RowKit
theorem txBad_all {l : List Int} (h : txBad l = none) : ∀ n ∈ l, runeI n = true := by
  unfold txBad at h
  rw [List.findIdx?_eq_none_iff] at h
  intro n hn
  have := h n hn
  simpa using this
theorem map_nat {l : List Int} (h : ∀ n ∈ l, runeI n = true) : (l.map Int.toNat).map Int.ofNat = l := by
  rw [List.map_map]
  conv => rhs; rw [← List.map_id l]
  apply List.map_congr_left
  intro n hn
  have := h n hn
  simp [runeI] at this
  show ((n.toNat : Nat) : Int) = n
  omega
theorem txBad_ofNat {L : List Nat} (h : ∀ n ∈ L, runeI (n : Int) = true) : txBad (L.map Int.ofNat) = none := by
  apply txBad_none
  intro j hj
  rw [List.getElem_map]
  exact h _ (List.getElem_mem _)
theorem scan_textB {L : List Nat} (h : ∀ n ∈ L, runeI (n : Int) = true) : scan (textB L) 0 = (L, none) := by
  have := scan_text L h [] 0
  rw [List.append_nil, scan_nil] at this
  simpa using this
theorem text_of (L : List Nat) (h : ∀ n ∈ L, runeI (n : Int) = true) : txB (L.map Int.ofNat) = textB L ∧ txE (L.map Int.ofNat) = 0 ∧ txA (L.map Int.ofNat) = 0 := by
  have hb := txBad_ofNat h
  have e : (L.map Int.ofNat).map Int.toNat = L := by rw [List.map_map]; conv => rhs; rw [← List.map_id L]
                                                     apply List.map_congr_left; intro n _; rfl
  exact ⟨by rw [txB, if_pos hb, e], by rw [txE, if_pos hb], by rw [txA, hb]; rfl⟩
set_option maxRecDepth 100000 in
set_option maxHeartbeats 4000000 in
theorem backs_any (l : List Int) (len : Nat) (A : Option Addr) (c : Nat) (bs ms : List UInt8) (w : World) (hn : l.length = len) (hr : ∀ n ∈ l, -2147483648 ≤ n ∧ n ≤ 2147483647) (hs : Sl w A c (l.map iv))
    (hbl : bs.length ≤ 9223372036854775807) (hml : ms.length ≤ 9223372036854775807) (hT : Tab w) :
    Calls Tryd.prog 5 #[.slice A len c, .string (mkS bs), .string (mkS ms)] w fun e w' => e = .returned (.bool true) ∧ Below w.heap.size w w' := by
  have z1 : (mkS bs).size = bs.length := mkS_size bs
  have z2 : (mkS ms).size = ms.length := mkS_size ms
  by_cases hlen : 500 < len
  · go_enter Tryd.func5, Tryd.ntmps5
    go_wp2_with fail
    refine (live3_any _ hT).mono ?_
    rintro e w1 ⟨rfl, hb1⟩
    go_wp2_with fail
    go_ret
    exact ⟨rfl, hb1⟩
  by_cases hlen2 : 1000 < bs.length
  · go_enter Tryd.func5, Tryd.ntmps5
    go_wp2_with fail
    refine (live3_any _ hT).mono ?_
    rintro e w1 ⟨rfl, hb1⟩
    go_wp2_with fail
    go_ret
    exact ⟨rfl, hb1⟩
  by_cases hlen3 : 1000 < ms.length
  · go_enter Tryd.func5, Tryd.ntmps5
    go_wp2_with fail
    refine (live3_any _ hT).mono ?_
    rintro e w1 ⟨rfl, hb1⟩
    go_wp2_with fail
    go_ret
    exact ⟨rfl, hb1⟩
  have HX := hid (fun w hs hT => text_any l len A c w hn (by omega) hr hs hT)
  have HY := hid (fun w => runes_any (mkS bs) bs w (mkS_data bs) (by omega))
  have HF := hid (fun w => first_any (mkS ms) ms w (mkS_data ms) (by omega))
  have h1 : txB l = if txBad l = none then textB (l.map Int.toNat) else [] := rfl
  have h2 : txE l = if txBad l = none then 0 else 1 := rfl
  have h3 : txA l = (txBad l).getD 0 := rfl
  generalize txB l = tb at *
  generalize txE l = te at *
  generalize txA l = ta at *
  have H1 := hid h1
  have H2 := hid h2
  have H3 := hid h3
  have hNl : (l.map Int.toNat).length = len := by simpa using hn
  have hall := @txBad_all l
  have hmn := @map_nat l
  have HNL := hid hNl
  have HN := hid hn
  have HR := hid hr
  have k1 : badE bs = if (scan bs 0).2 = none then 0 else 9 := rfl
  have k2 : badA bs = (scan bs 0).2.getD 0 := rfl
  have k3 : runesOf bs = if (scan bs 0).2 = none then (scan bs 0).1 else [] := rfl
  have k4 := scan_len bs.length bs 0 (Nat.le_refl _)
  have k5 := scan_runes bs 0
  have k6 := @scan_none bs 0
  have k7 := fun h => @scan_both bs h ms
  generalize hbe : badE bs = be at *
  generalize hba : badA bs = ba at *
  generalize runesOf bs = rl at *
  generalize hsc : scan bs 0 = sc at *
  obtain ⟨rs, bad⟩ := sc
  simp only at k1 k2 k3 k4 k5 k6 k7
  have K1 := hid k1
  have K2 := hid k2
  have K3 := hid k3
  have K5 := hid k5
  have K6 := hid k6
  have K7 := hid k7
  have HALL := hid hall
  have HMN := hid hmn
  clear hn hr h1 h2 h3 k1 k2 k3 k5 k6 k7 hsc hNl hbe hba hall hmn
  generalize hbl' : bs.length = bl at *
  generalize hml' : ms.length = ml at *
  have HBL := hid hbl'
  have HML := hid hml'
  clear hbl' hml'
  go_enter Tryd.func5, Tryd.ntmps5
  go_wp2_with fail
  refine (live3_any _ hT).mono ?_
  rintro e w1 ⟨rfl, hb1⟩
  have hs1 := hs.below hb1
  have hT1 := hT.below hb1
  go_wp2_with fail
  refine (HX.out _ hs1 hT1).mono ?_
  rintro e w2 ⟨t, rfl, ht, hb2⟩
  obtain rfl := mkS_of ht
  clear ht
  have hb12 := bw_t hb1 hb2
  have hs2 := hs1.below hb2
  have hT2 := hT1.below hb2
  clear hs1 hT1 hb1 hb2
  by_cases hA : txBad l = none
  case' pos =>
    have HR1 := HALL.out hA
    have hmap := HMN.out HR1
    obtain rfl : te = 0 := by have := H2.out; rw [if_pos hA] at this; exact this
    obtain rfl : ta = 0 := by have := H3.out; rw [hA] at this; exact this
    obtain rfl : tb = textB (l.map Int.toNat) := by have := H1.out; rw [if_pos hA] at this; exact this
    generalize l.map Int.toNat = N at *
    have hNr : ∀ n ∈ N, runeI (n : Int) = true := by
      intro n hn
      have : Int.ofNat n ∈ l := by rw [← hmap]; exact List.mem_map_of_mem hn
      exact HR1 _ this
    have hsct := scan_textB hNr
    have g1 : badE (textB N) = 0 := by rw [badE, hsct]; rfl
    have g2 : badA (textB N) = 0 := by rw [badA, hsct]; rfl
    have g3 : runesOf (textB N) = N := by rw [runesOf, hsct]; rfl
    have htl := textB_le N
    have hZ := fun w => runes_any (mkS (textB N)) (textB N) w (mkS_data _) (by have := HNL.out; omega)
    rw [g1, g2, g3] at hZ
    have hZF := fun w => first_any (mkS (textB N)) (textB N) w (mkS_data _) (by have := HNL.out; omega)
    rw [hsct] at hZF
    have HZ := hid hZ
    have HZF := hid hZF
    have HM := hid hmap
    clear hZ hZF hsct g1 g2 g3 HR1 hmap hA htl
    go_wp2_with fail
    refine (HZ.out _).mono ?_
    rintro e w3 ⟨v, rfl, hown3, hb3⟩
    obtain ⟨A3, c3, rfl, -, hs3⟩ := Sl.of_own hown3
    have hr3 := hs3.rd
    rw [rv_iv, HM.out] at hr3
    clear hs3 hown3
    have hb23 : Below w2.heap.size w2 w3 := bw_t (bw_a (Below.refl _ _) _) hb3
    have hr3' := hr3.below ((Below.refl w3.heap.size w3).alloc (Nat.le_refl _) (.cells #[.int .i64 0, .int .i64 0] 27))
    have hs3l := (hs2.below (bw_a hb23 (.cells #[.int .i64 0, .int .i64 0] 27))).rd
    go_wp2_with fail
    refine (runes_same_at l l N.length len _ _ _ _ _ (by rw [HNL.out, HN.out]) HN.out (by have := HNL.out; omega) hr3' hs3l).mono ?_
    rw [decide_eq_true rfl]
    rintro e w4 ⟨rfl, n4, rfl⟩
    go_wp2_with fail
    refine (HZF.out _).mono ?_
    simp only [placeI]
    rintro e w5 ⟨rfl, hb5⟩
    have hb15 : Below w.heap.size w w5 := bw_t hb12 (bw_t (bw_d (bw_a hb23 _) n4) hb5)
    clear hb5 hb3 hb23 hr3 hr3' hs3l
    go_wp2_with fail
    refine (HY.out _).mono ?_
    rintro e w6 ⟨v6, rfl, hown6, hb6⟩
    have hb16 : Below w.heap.size w w6 := bw_t hb15 hb6
    clear hb15 hb6 hb12 hs2 hT2
  case' neg =>
    obtain rfl : te = 1 := by have := H2.out; rw [if_neg hA] at this; exact this
    clear hA
    go_wp2_with fail
    refine (HY.out _).mono ?_
    rintro e w6 ⟨v6, rfl, hown6, hb6⟩
    have hb16 : Below w.heap.size w w6 := bw_t (bw_a hb12 _) hb6
    clear hb6 hb12 hs2 hT2
  all_goals
    cases bad
    case some q =>
      obtain rfl : be = 9 := by have := K1.out; simpa using this
      go_wp2_with fail
      go_ret
      exact ⟨rfl, bw_a hb16 _⟩
    case none =>
      obtain rfl : be = 0 := by have := K1.out; simpa using this
      obtain rfl : ba = 0 := by have := K2.out; simpa using this
      obtain rfl : rl = rs := by have := K3.out; simpa using this
      obtain ⟨A6, c6, rfl, -, hs6⟩ := Sl.of_own hown6
      rw [rv_iv] at hs6
      have hrr := K5.out
      have htb : textB rl = bs := K6.out rfl
      have hto := text_of rl hrr
      rw [htb] at hto
      have hri : ∀ n ∈ rl.map Int.ofNat, -2147483648 ≤ n ∧ n ≤ 2147483647 := by
        intro n hn
        obtain ⟨m, hm, rfl⟩ := List.mem_map.1 hn
        have := runeI_le (hrr m hm)
        show -2147483648 ≤ (m : Int) ∧ (m : Int) ≤ 2147483647
        omega
      have hW := fun w hs hT => text_any (rl.map Int.ofNat) rl.length A6 c6 w (by simp) (by omega) hri hs hT
      rw [hto.1, hto.2.1, hto.2.2] at hW
      have HW := hid hW
      have hT6 : Tab w6 := hT.below hb16
      have HS6 := hid hs6
      have HT6 := hid hT6
      have hboth := K7.out rfl
      have hap := mkS_append bs ms
      have hFB := fun w => first_any (mkS bs ++ mkS ms) (bs ++ ms) w (by rw [mkS_append, mkS_data]) (by rw [List.length_append, HBL.out, HML.out]; omega)
      rw [hboth] at hFB
      have HFB := hid hFB
      have hzz : ¬ 9223372036854775807 < bl + ml := by omega
      clear hW hto hrr htb hri hown6 hs6 hT6 hboth hap hFB
      go_wp2_with fail
      refine (HW.out _ (HS6.out.below ((Below.refl _ _).alloc (Nat.le_refl _) _)) (HT6.out.below ((Below.refl _ _).alloc (Nat.le_refl _) _))).mono ?_
      rintro e w7 ⟨t7, rfl, ht7, hb7⟩
      obtain rfl := mkS_of ht7
      clear ht7
      have hb17 := bw_t (bw_a hb16 _) hb7
      clear hb7 hb16
      cases hrest : (scan ms 0).2
      case some q =>
        have hq : q < ml := by
          have h1 := (scan_forth ms.length ms 0 (Nat.le_refl _)).2
          rw [hrest] at h1
          have h2 := HML.out
          have h3 := h1.2.1
          omega
        have HRE := hid hrest
        rw [hrest] at HF HFB
        clear hrest
        go_wp2_with fail
        refine (HFB.out _).mono ?_
        simp only [placeI, Option.map_some]
        rintro e w8 ⟨rfl, hb8⟩
        go_wp2_with fail
        refine (HF.out _).mono ?_
        simp only [placeI]
        rintro e w9 ⟨rfl, hb9⟩
        go_wp2_with fail
        go_ret
        exact ⟨ret_bool (by simp; omega), bw_t (bw_t (bw_a hb17 _) hb8) hb9⟩
      case none =>
        have HRE := hid hrest
        rw [hrest] at HF HFB
        clear hrest
        go_wp2_with fail
        refine (HFB.out _).mono ?_
        simp only [placeI, Option.map_none]
        rintro e w8 ⟨rfl, hb8⟩
        go_wp2_with fail
        refine (HF.out _).mono ?_
        simp only [placeI]
        rintro e w9 ⟨rfl, hb9⟩
        go_wp2_with fail
        go_ret
        exact ⟨rfl, bw_t (bw_t (bw_a hb17 _) hb8) hb9⟩
theorem backs_at (l : List Int) (len : Nat) (A : Option Addr) (c : Nat) (s more : ByteArray) (w : World) (hn : l.length = len) (hr : ∀ n ∈ l, -2147483648 ≤ n ∧ n ≤ 2147483647) (hs : Sl w A c (l.map iv))
    (hbl : s.size ≤ 9223372036854775807) (hml : more.size ≤ 9223372036854775807) (hT : Tab w) :
    Calls Tryd.prog 5 #[.slice A len c, .string s, .string more] w fun e w' => e = .returned (.bool true) ∧ Below w.heap.size w w' := by
  have e1 := mkS_of (s := s) rfl
  have e2 := mkS_of (s := more) rfl
  have l1 : s.size = s.data.toList.length := by simp
  have l2 : more.size = more.data.toList.length := by simp
  have := backs_any l len A c s.data.toList more.data.toList w hn hr hs (by omega) (by omega) hT
  rwa [← e1, ← e2] at this
end Go.Proofs.YtpicgemjfodlcaaDoor
