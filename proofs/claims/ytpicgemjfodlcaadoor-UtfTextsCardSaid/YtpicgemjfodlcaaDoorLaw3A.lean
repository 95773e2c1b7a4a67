/- The walks of UtfFirst and UtfChecks. -/
import Derived.Test.YtpicgemjfodlcaaDoorProg
import Derived.Test.YtpicgemjfodlcaaDoorBase
import Derived.Test.YtpicgemjfodlcaaDoorLive3
set_option linter.unusedVariables false
namespace Go.Proofs.YtpicgemjfodlcaaDoor
open Go.RowKit
theorem rv_iv (l : List Nat) : l.map rv = (l.map (Int.ofNat)).map iv := by rw [List.map_map]; rfl
theorem runes_same_at (xs ys : List Int) (n m : Nat) (A B : Option Addr) (c d : Nat) (w : World) (hn : xs.length = n) (hm : ys.length = m) (hl : n ≤ 9223372036854775807) (hA : IRd w A xs) (hB : IRd w B ys) :
    Calls Tryd.prog 13 #[.slice A n c, .slice B m d] w fun e w' => e = .returned (.bool (decide (xs = ys))) ∧ ∃ n, w' = w.drewN n := by
  subst hn; subst hm; exact runes_same xs ys A B c d w hl hA hB
set_option maxRecDepth 100000 in
set_option maxHeartbeats 2000000 in
theorem firsts_any (s : ByteArray) (bs : List UInt8) (w : World) (hs : s.data.toList = bs) (hl : s.size ≤ 9223372036854775807) (hT : Tab w) :
    Calls Tryd.prog 3 #[.string s] w fun e w' => e = .returned (.bool true) ∧ Below w.heap.size w w' := by
  have hsz : s.size = bs.length := by rw [← hs]; simp
  by_cases hlen : 1000 < bs.length
  · go_enter Tryd.func3, Tryd.ntmps3
    go_wp2_with fail
    refine (live3_any _ hT).mono ?_
    rintro e w1 ⟨rfl, hb1⟩
    go_wp2_with fail
    go_ret
    exact ⟨rfl, hb1⟩
  · have F1 := hid (fun w => rfirst_any s bs w hs (by omega))
    have F2 := hid (fun w => first_any s bs w hs (by omega))
    have F3 := hid (fun w => runes_any s bs w hs (by omega))
    have F4 := hid (fun w => count_any s bs w hs (by omega))
    have F5 := hid (fun w => rrunes_own s bs w hs (by omega))
    have hsl := scan_len bs.length bs 0 (Nat.le_refl _)
    have h1 : badE bs = if (scan bs 0).2 = none then 0 else 9 := rfl
    have h2 : badA bs = (scan bs 0).2.getD 0 := rfl
    have h3 : runesOf bs = if (scan bs 0).2 = none then (scan bs 0).1 else [] := rfl
    have h4 : countI bs = if (scan bs 0).2 = none then ((scan bs 0).1.length : Int) else -1 := rfl
    have HS := hid hs
    clear hs
    generalize hn : bs.length = n at *
    have HN := hid hn
    clear hn
    generalize scan bs 0 = sc at *
    obtain ⟨rs, bad⟩ := sc
    simp only at F1 F2 F3 F4 F5 hsl h1 h2 h3 h4
    generalize badE bs = be at *
    generalize badA bs = ba at *
    generalize runesOf bs = L at *
    generalize countI bs = ci at *
    cases bad with
    | some k =>
      obtain rfl : be = 9 := by simpa using h1
      obtain rfl : ba = k := by simpa using h2
      obtain rfl : L = [] := by simpa using h3
      obtain rfl : ci = -1 := by simpa using h4
      clear h1 h2 h3 h4
      go_enter Tryd.func3, Tryd.ntmps3
      go_wp2_with fail
      refine (live3_any _ hT).mono ?_
      rintro e w1 ⟨rfl, hb1⟩
      go_wp2_with fail
      refine (F1.out _).mono ?_
      simp only [placeI]
      rintro e w2 ⟨rfl, rfl⟩
      go_wp2_with fail
      refine (F2.out _).mono ?_
      simp only [placeI]
      rintro e w3 ⟨rfl, hb3⟩
      go_wp2_with fail
      refine (F3.out _).mono ?_
      rintro e w4 ⟨v, rfl, hown, hb4⟩
      obtain ⟨A, c, rfl, -, hsl4⟩ := Sl.of_own hown
      simp only [List.length_nil]
      go_wp2_with fail
      refine (F4.out _).mono ?_
      rintro e w5 ⟨rfl, hb5⟩
      go_wp2_with fail
      go_ret
      exact ⟨rfl, bw_t (bw_a (bw_t (bw_t hb1 hb3) hb4) _) hb5⟩
    | none =>
      obtain rfl : be = 0 := by simpa using h1
      obtain rfl : ba = 0 := by simpa using h2
      obtain rfl : L = rs := by simpa using h3
      obtain rfl : ci = L.length := by simpa using h4
      clear h1 h2 h3 h4
      go_enter Tryd.func3, Tryd.ntmps3
      go_wp2_with fail
      refine (live3_any _ hT).mono ?_
      rintro e w1 ⟨rfl, hb1⟩
      go_wp2_with fail
      refine (F1.out _).mono ?_
      simp only [placeI]
      rintro e w2 ⟨rfl, rfl⟩
      go_wp2_with fail
      refine (F2.out _).mono ?_
      simp only [placeI]
      rintro e w3 ⟨rfl, hb3⟩
      go_wp2_with fail
      refine (F3.out _).mono ?_
      rintro e w4 ⟨v, rfl, hown, hb4⟩
      obtain ⟨A, c, rfl, -, hsl4⟩ := Sl.of_own hown
      go_wp2_with fail
      refine (F5.out _).mono ?_
      rintro e w5 ⟨v, rfl, hown5, hb5⟩
      obtain ⟨A5, c5, rfl, -, hsl5⟩ := Sl.of_own hown5
      have hr4 := (hsl4.below (bw_t (bw_a (Below.refl _ _) _) hb5)).rd
      have hr5 := hsl5.rd
      rw [rv_iv] at hr4 hr5
      go_wp2_with fail
      refine (runes_same_at (L.map Int.ofNat) (L.map Int.ofNat) _ _ _ _ _ _ _ (by simp) (by simp) (by omega) hr4 hr5).mono ?_
      rw [decide_eq_true rfl]
      rintro e w6 ⟨rfl, n6, rfl⟩
      go_wp2_with fail
      refine (F4.out _).mono ?_
      rintro e w7 ⟨rfl, hb7⟩
      go_wp2_with fail
      go_ret
      exact ⟨rfl, bw_t (bw_d (bw_t (bw_a (bw_t (bw_t hb1 hb3) hb4) _) hb5) n6) hb7⟩
def plainAt (bs : List UInt8) (k : Nat) : Bool := plainB (bs.take k)
set_option maxRecDepth 100000 in
set_option maxHeartbeats 2000000 in
theorem checks_any (s : ByteArray) (bs : List UInt8) (most : Int) (w : World) (hs : s.data.toList = bs) (hl : s.size ≤ 9223372036854775807) (h1 : -9223372036854775808 ≤ most) (h2 : most ≤ 9223372036854775807) (hT : Tab w) :
    Calls Tryd.prog 6 #[.string s, .int .i64 most] w fun e w' => e = .returned (.bool true) ∧ Below w.heap.size w w' := by
  have hsz : s.size = bs.length := by rw [← hs]; simp
  by_cases hlen : 1000 < bs.length
  · go_enter Tryd.func6, Tryd.ntmps6
    go_wp2_with fail
    refine (live3_any _ hT).mono ?_
    rintro e w1 ⟨rfl, hb1⟩
    go_wp2_with fail
    go_ret
    exact ⟨rfl, hb1⟩
  · have F1 := hid (fun w => check_any s bs most w hs (by omega) h1 h2)
    have F2 := hid (fun w => rcheck_any s bs most w hs (by omega) h1 h2)
    have F3 := hid (fun w => plain_any s bs w hs (by omega))
    have hgen : ∀ k (h : k < s.size), bs.drop k = (s[k]'h) :: bs.drop (k + 1) := by
      intro k h
      have hk : k < bs.length := by omega
      rw [List.drop_eq_getElem_cons hk]
      congr 1
      subst hs
      simp; rfl
    have HG := hid hgen
    have HS := hid hs
    clear hs hgen
    generalize hn : bs.length = n at *
    have HN := hid hn
    clear hn
    generalize checkI n (scan bs 0).2 most = ck at *
    go_enter Tryd.func6, Tryd.ntmps6
    go_wp2_with fail
    refine (live3_any _ hT).mono ?_
    rintro e w1 ⟨rfl, hb1⟩
    go_wp2_with fail
    go_loop [5, 6] (fun p i => ∃ k : Nat, k ≤ n ∧ i = .int .i64 (k : Int) ∧ p = .bool (plainAt bs k)) (fun _ i => n - (intOf i).toNat)
    case atStart => exact ⟨0, by omega, rfl, by simp [plainAt, plainB]⟩
    case round =>
      obtain ⟨k, hk, rfl, rfl⟩ := hrel
      by_cases hlt : k < s.size
      · have hd := HG.out k hlt
        have htk : plainAt bs (k + 1) = (plainAt bs k && decide (32 ≤ (s[k]'hlt).toNat ∧ (s[k]'hlt).toNat ≤ 126)) := plain_take hd
        have hx := (s[k]'hlt).toNat_lt
        have hgx : ((s[k]'hlt).toNat : Int) = ((s[k]'hlt).toNat : Int) := rfl
        generalize hy : (s[k]'hlt).toNat = x at *
        have hg : ((s[k]'hlt).toNat : Int) = (x : Int) := by rw [hy]
        have HTK := hid htk
        clear htk hd hgx hy
        generalize hp : plainAt bs k = p at *
        have HP := hid hp
        clear hp
        cases p
        · go_wp2
          go_round
          case rel => exact ⟨k + 1, by omega, by go_num, by rw [HTK.out]; rfl⟩
          case measure => simp [intOf]; omega
        · by_cases x1 : 32 ≤ x
          · by_cases x2 : x ≤ 126
            · go_wp2
              go_round
              case rel => exact ⟨k + 1, by omega, by go_num, by rw [HTK.out]; simp [x1, x2] <;> omega⟩
              case measure => simp [intOf]; omega
            · go_wp2
              go_round
              case rel => exact ⟨k + 1, by omega, by go_num, by rw [HTK.out]; simp [x2] <;> omega⟩
              case measure => simp [intOf]; omega
          · go_wp2
            go_round
            case rel => exact ⟨k + 1, by omega, by go_num, by rw [HTK.out]; simp [x1] <;> omega⟩
            case measure => simp [intOf]; omega
      · obtain rfl : k = n := by omega
        have hpl : plainAt bs k = plainB bs := by rw [plainAt, List.take_of_length_le (by have := HN.out; omega)]
        have HPL := hid hpl
        clear hpl
        go_wp2_with fail
        refine (F1.out _).mono ?_
        rintro e w2 ⟨rfl, hb2⟩
        go_wp2_with fail
        refine (F2.out _).mono ?_
        rintro e w3 ⟨rfl, rfl⟩
        go_wp2_with fail
        refine (F3.out _).mono ?_
        rw [← HPL.out]
        rintro e w4 ⟨rfl, hb4⟩
        go_wp2_with fail
        go_ret
        exact ⟨ret_bool (by simp), bw_t (bw_t hb1 hb2) hb4⟩
end Go.Proofs.YtpicgemjfodlcaaDoor
