/- The walk of StreamCuts: pieces, one behind the other, are the stream. -/
import Derived.Test.YtabklpgimjmdlaaLawTw
set_option linter.unusedVariables false
namespace Go.Proofs.Ytabklpgimjmdlaa
open Go.RowKit
theorem pcO_succ (n : Nat) (ss : List Int) (j : Nat) : pcO n ss (j + 1) = pcO n ss j + pcS n ss j (pcO n ss j) := rfl
theorem pcW_no {n : Nat} {ss : List Int} {j : Nat} (h : ss.length = 0) : pcW n ss j = (n : Int) := by unfold pcW; rw [if_pos h]
theorem pcW_some {n : Nat} {ss : List Int} {j k : Nat} (hk : ss.length = k) (h : k ≠ 0) (hj : j % k < ss.length) : pcW n ss j = max ss[j % k] 1 := by
  unfold pcW
  rw [if_neg (by omega), hk, List.getD_eq_getElem?_getD, List.getElem?_eq_getElem hj]
  rfl
set_option maxRecDepth 100000 in
set_option maxHeartbeats 8000000 in
theorem streamCuts_any (bs : List UInt8) (n : Nat) (A : Option Addr) (c : Nat) (ss : List Int) (k : Nat) (A2 : Option Addr) (c2 : Nat) (w : World) (hn : bs.length = n) (hs : Sl w A c (bs.map bv)) (hk : ss.length = k) (hss : ∀ x ∈ ss, -9223372036854775808 ≤ x ∧ x ≤ 9223372036854775807) (hs2 : Sl w A2 c2 (ss.map ivP)) :
    Calls Try.prog 5 #[.slice A n c, .slice A2 k c2] w fun e w' => e = .returned (.bool true) ∧ Below w.heap.size w w' := by
  obtain ⟨i0, ii, iz0, iz1, iz2⟩ := info_parts Try.info5
  obtain ⟨s, hws⟩ : ∃ s, w.heap.size = s := ⟨_, rfl⟩
  have hcap := hs.cap
  have hsm := hs.small
  have hcap2 := hs2.cap
  have hsm2 := hs2.small
  rw [List.length_map, hn] at hcap
  rw [List.length_map, hk] at hcap2
  have HS := hid hs
  have HN := hid hn
  have HS2 := hid hs2
  have HK := hid hk
  have HSS := hid hss
  have HWS := hid hws
  rw [hws]
  clear hs hn hs2 hk hss hws
  go_enter Try.func5, Try.ntmps5
  go_wp2_with fail
  refine (live16_any w).mono ?_
  rintro e w1 ⟨rfl, hb1⟩
  rw [HWS.out] at hb1
  have HB1 := hid hb1
  clear hb1
  by_cases hbig : 1000 < n
  · have hbi : (1000 : Int) < (n : Int) := by omega
    go_wp2_with fail
    go_ret
    exact ⟨rfl, HB1.out⟩
  have hbi : decide ((1000 : Int) < (n : Int)) = false := by simp; omega
  by_cases hbig2 : 20 < k
  · have hbi2 : (20 : Int) < (k : Int) := by omega
    go_wp2_with fail
    go_ret
    exact ⟨rfl, HB1.out⟩
  have hbi2 : ¬ (20 : Int) < (k : Int) := by omega
  obtain ⟨K, hKn, hKO, hKl, hcu⟩ := scut_any bs n A c ss k A2 c2 w1 HN.out (by omega) (HS.out.below (by rw [HWS.out]; exact HB1.out)) HK.out (by omega) HSS.out (HS2.out.below (by rw [HWS.out]; exact HB1.out))
  have HCU := hid hcu
  have HKO := hid hKO
  have HKL := hid hKl
  clear hcu hKO hKl
  go_wp2_with fail
  refine HCU.out.mono ?_
  rintro e w2 ⟨A3, c3, rfl, hct, hb2⟩
  obtain ⟨-, hc3, hm3, hget⟩ := hct.get
  have HGET := hid (fun j (hj : j < K) => hget j (by rw [pcL_len]; exact hj))
  have HB2 := hid (HB1.out.trans (hb2.mono (by have := HB1.out.size; have := HWS.out; omega)))
  obtain ⟨s2, hz2⟩ : ∃ s2, w2.heap.size = s2 := ⟨_, rfl⟩
  have HZ2 := hid hz2
  have hss2 : s ≤ s2 := by have := HB2.out.size; have := HWS.out; omega
  have hr0 := Below.refl s2 w2
  clear hct hb2 hget HCU hz2
  go_wp2_with fail
  go_loopw [6, 7] (fun v i wr => ∃ j : Nat, j ≤ K ∧ i = .int .i64 (j : Int) ∧ wr.ownsRow s2 5 1 v (pcO n ss j) ((bs.take (pcO n ss j)).map bv) ∧ Below s2 w2 wr) (fun _ i _ => K - (intOf i).toNat)
  case atStart => exact ⟨0, by omega, rfl, by simpa [pcO] using World.ownsRow_nil _ _ _ _, hr0⟩
  case round =>
    obtain ⟨j, hj, rfl, ho, hb⟩ := hrel
    have HB := hid hb
    have HO := hid ho
    clear hb ho hr0
    by_cases hlt : j < K
    · obtain ⟨b, o, P, q, rfl, hbl, t0, hpay⟩ := HGET.out j hlt
      have hlg := pcL_get bs ss n K j hlt
      have hsz := pcL_size (ss := ss) (j := j) HN.out
      have hps := pcS_pos (ss := ss) (j := j) (HKL.out j hlt)
      have hle := pcW_le n ss j
      have hsu := pcO_succ n ss j
      have hmx := pcO_le n ss (j + 1)
      have heq : j + 1 < K → ((pcS n ss j (pcO n ss j) : Nat) : Int) = pcW n ss j := fun h => pcW_eq (HKL.out _ h)
      rw [hlg] at t0 hpay
      rw [hsz] at t0
      have htk : bs.take (pcO n ss (j + 1)) = bs.take (pcO n ss j) ++ (bs.drop (pcO n ss j)).take (pcS n ss j (pcO n ss j)) := by rw [hsu, List.take_add]
      generalize (bs.drop (pcO n ss j)).take (pcS n ss j (pcO n ss j)) = X at *
      rw [hsu] at hmx
      have HSU := hid hsu
      have HTK := hid htk
      clear hlg hsu htk
      generalize pcS n ss j (pcO n ss j) = S at *
      obtain ⟨O, hO⟩ : ∃ O, pcO n ss j = O := ⟨_, rfl⟩
      have ho2 := HO.out
      rw [hO] at ho2 hmx
      have HOO := hid hO
      have HO2 := hid ho2
      clear hO ho2 HO
      have hbs : b < s2 := by rw [← HZ2.out]; exact hbl
      have hb2s := HB.out.size
      have hz2w : s2 ≤ wr.heap.size := by have := HZ2.out; omega
      have t0w := (HB.out.cell (p := ⟨b, o + j, none⟩) hbs).trans t0
      have HP := hid (hpay.sl.below (by rw [HZ2.out]; exact HB.out))
      have HXL := hid hsz
      have hjK : (j : Int) < (K : Int) := by omega
      have hj0 : (0 : Int) ≤ (j : Int) := by omega
      have hwj : IntKind.i64.wrap ((j : Int) + 1) = (j : Int) + 1 := IntWalk.i64_in _ (by omega)
      clear hpay hsz t0
      by_cases hk0 : k = 0
      · have hk1 : ¬ (0 : Int) < (k : Int) := by omega
        rw [pcW_no (by rw [HK.out]; exact hk0)] at hle heq
        have y0 : ¬ S = 0 := by omega
        have y1 : ((S : Int) == 0) = false := by simp; omega
        have y2 : decide ((n : Int) < (S : Int)) = false := by simp; omega
        by_cases hl2 : j + 1 < K
        · have hj1 : (j : Int) + 1 < (K : Int) := by omega
          have y3 : ((S : Int) != (n : Int)) = false := by rw [heq hl2]; simp
          have HEQ := hid heq
          clear heq
          go_wp2_with (at_builtin; refine wpList_append_rd rfl (.tmp 28) (.tmp 32) 22 rfl s2 5 i0 (.int .u8 0) 1 1 Try.underlying22 ii iz0 iz1 iz2 rfl (by decide) _ _ _ rfl HO2.out P S q (X.map bv) rfl (by rw [List.length_map, HXL.out, Nat.mul_one]) HP.out.rd HP.out.nil0 (bv_one _) (by simp only [maxLen]; omega) (by omega) hz2w ?_; intro v6 w6 ho6 hg6; have hu6 := (fun q hq => (HO2.out.lt q hq).1 : ∀ q, u6.ownBlock = some q → s2 ≤ q); have hc6 := Chg.of_grown (S := fun q => u6.ownBlock = some q) hg6 (fun q e => e); have HB6 := hid (HB.out.trans (hc6.below (fun q h => hu6 q h) hz2w)); have t6 := (HB6.out.cell (p := ⟨b, o + j, none⟩) hbs).trans ((HB.out.cell (p := ⟨b, o + j, none⟩) hbs).symm.trans t0w); have HO6 := hid (show w6.ownsRow s2 5 1 v6 (pcO n ss (j + 1)) ((bs.take (pcO n ss (j + 1))).map bv) from by rw [HTK.out, HSU.out, HOO.out, List.map_append]; exact ho6);  clear ho6 hg6 hc6 hu6)
          exact ⟨⟨_, _, _, ⟨j + 1, by omega, by go_num, by rw [← List.map_take]; exact HO6.out, HB6.out⟩, rfl, rfl, rfl⟩, by simp [intOf]; omega⟩
        · have hj1 : ¬ (j : Int) + 1 < (K : Int) := by omega
          have HEQ := hid heq
          clear heq
          go_wp2_with (at_builtin; refine wpList_append_rd rfl (.tmp 28) (.tmp 32) 22 rfl s2 5 i0 (.int .u8 0) 1 1 Try.underlying22 ii iz0 iz1 iz2 rfl (by decide) _ _ _ rfl HO2.out P S q (X.map bv) rfl (by rw [List.length_map, HXL.out, Nat.mul_one]) HP.out.rd HP.out.nil0 (bv_one _) (by simp only [maxLen]; omega) (by omega) hz2w ?_; intro v6 w6 ho6 hg6; have hu6 := (fun q hq => (HO2.out.lt q hq).1 : ∀ q, u6.ownBlock = some q → s2 ≤ q); have hc6 := Chg.of_grown (S := fun q => u6.ownBlock = some q) hg6 (fun q e => e); have HB6 := hid (HB.out.trans (hc6.below (fun q h => hu6 q h) hz2w)); have t6 := (HB6.out.cell (p := ⟨b, o + j, none⟩) hbs).trans ((HB.out.cell (p := ⟨b, o + j, none⟩) hbs).symm.trans t0w); have HO6 := hid (show w6.ownsRow s2 5 1 v6 (pcO n ss (j + 1)) ((bs.take (pcO n ss (j + 1))).map bv) from by rw [HTK.out, HSU.out, HOO.out, List.map_append]; exact ho6);  clear ho6 hg6 hc6 hu6)
          exact ⟨⟨_, _, _, ⟨j + 1, by omega, by go_num, by rw [← List.map_take]; exact HO6.out, HB6.out⟩, rfl, rfl, rfl⟩, by simp [intOf]; omega⟩
      · have hk1 : (0 : Int) < (k : Int) := by omega
        have hk2 : ¬ (k : Int) = 0 := by omega
        have hk3 : ((k : Int) == 0) = false := by simpa using hk2
        have hm : j % k < ss.length := by rw [HK.out]; exact Nat.mod_lt _ (by omega)
        have hmk : j % k < k := Nat.mod_lt _ (by omega)
        obtain ⟨b2, o2, rfl, hb2l, z0⟩ := HS2.out.rd (j % k) (ivP ss[j % k]) (by rw [List.getElem?_map, List.getElem?_eq_getElem hm]; rfl)
        rw [HWS.out] at hb2l
        have hxb := HSS.out _ (List.getElem_mem hm)
        rw [pcW_some HK.out hk0 hm] at hle heq
        generalize ss[j % k] = X0 at *
        obtain ⟨W, hW⟩ : ∃ W, max X0 1 = W := ⟨_, rfl⟩
        rw [hW] at hle heq
        have hmt : IntKind.i64.wrap ((j : Int).tmod (k : Int)) = ((j % k : Nat) : Int) := by rw [IntWalk.i64_in _ (by rw [Int.tmod_eq_emod_of_nonneg (by omega)]; omega), Int.tmod_eq_emod_of_nonneg (by omega)]; omega
        have hmk2 : (j : Int) % (k : Int) < (k : Int) := by omega
        have hmk3 : (0 : Int) ≤ (j : Int) % (k : Int) := by omega
        have hmk4 : ((j : Int) % (k : Int)).toNat = j % k := by omega
        have y0 : ¬ S = 0 := by omega
        have y1 : ((S : Int) == 0) = false := by simp; omega
        have y2 : decide (W < (S : Int)) = false := by simp; omega
        unfold ivP at z0
        by_cases hl2 : j + 1 < K
        · have hj1 : (j : Int) + 1 < (K : Int) := by omega
          have y3 : ((S : Int) != W) = false := by rw [heq hl2]; simp
          have HEQ := hid heq
          clear heq
          go_wp2_with (at_builtin; refine wpList_append_rd rfl (.tmp 28) (.tmp 32) 22 rfl s2 5 i0 (.int .u8 0) 1 1 Try.underlying22 ii iz0 iz1 iz2 rfl (by decide) _ _ _ rfl HO2.out P S q (X.map bv) rfl (by rw [List.length_map, HXL.out, Nat.mul_one]) HP.out.rd HP.out.nil0 (bv_one _) (by simp only [maxLen]; omega) (by omega) hz2w ?_; intro v6 w6 ho6 hg6; have hu6 := (fun q hq => (HO2.out.lt q hq).1 : ∀ q, u6.ownBlock = some q → s2 ≤ q); have hc6 := Chg.of_grown (S := fun q => u6.ownBlock = some q) hg6 (fun q e => e); have HB6 := hid (HB.out.trans (hc6.below (fun q h => hu6 q h) hz2w)); have t6 := (HB6.out.cell (p := ⟨b, o + j, none⟩) hbs).trans ((HB.out.cell (p := ⟨b, o + j, none⟩) hbs).symm.trans t0w); have HO6 := hid (show w6.ownsRow s2 5 1 v6 (pcO n ss (j + 1)) ((bs.take (pcO n ss (j + 1))).map bv) from by rw [HTK.out, HSU.out, HOO.out, List.map_append]; exact ho6); have z6 := ((HB2.out.trans (HB6.out.mono hss2)).cell (p := ⟨b2, o2 + j % k, none⟩) hb2l).trans z0; clear ho6 hg6 hc6 hu6)
          exact ⟨⟨j + 1, by omega, by go_num, HO6.out, HB6.out⟩, by simp [intOf]; omega⟩
        · have hj1 : ¬ (j : Int) + 1 < (K : Int) := by omega
          have HEQ := hid heq
          clear heq
          go_wp2_with (at_builtin; refine wpList_append_rd rfl (.tmp 28) (.tmp 32) 22 rfl s2 5 i0 (.int .u8 0) 1 1 Try.underlying22 ii iz0 iz1 iz2 rfl (by decide) _ _ _ rfl HO2.out P S q (X.map bv) rfl (by rw [List.length_map, HXL.out, Nat.mul_one]) HP.out.rd HP.out.nil0 (bv_one _) (by simp only [maxLen]; omega) (by omega) hz2w ?_; intro v6 w6 ho6 hg6; have hu6 := (fun q hq => (HO2.out.lt q hq).1 : ∀ q, u6.ownBlock = some q → s2 ≤ q); have hc6 := Chg.of_grown (S := fun q => u6.ownBlock = some q) hg6 (fun q e => e); have HB6 := hid (HB.out.trans (hc6.below (fun q h => hu6 q h) hz2w)); have t6 := (HB6.out.cell (p := ⟨b, o + j, none⟩) hbs).trans ((HB.out.cell (p := ⟨b, o + j, none⟩) hbs).symm.trans t0w); have HO6 := hid (show w6.ownsRow s2 5 1 v6 (pcO n ss (j + 1)) ((bs.take (pcO n ss (j + 1))).map bv) from by rw [HTK.out, HSU.out, HOO.out, List.map_append]; exact ho6); have z6 := ((HB2.out.trans (HB6.out.mono hss2)).cell (p := ⟨b2, o2 + j % k, none⟩) hb2l).trans z0; clear ho6 hg6 hc6 hu6)
          exact ⟨⟨j + 1, by omega, by go_num, HO6.out, HB6.out⟩, by simp [intOf]; omega⟩
    · obtain rfl : j = K := by omega
      have hki : ¬ (j : Int) < (j : Int) := by omega
      have ho2 := HO.out
      rw [HKO.out, List.take_of_length_le (by rw [HN.out]; exact Nat.le_refl _)] at ho2
      obtain ⟨A6, c6, rfl⟩ := row_slice_g ho2
      have HS6 := hid (Sl.of_own' ho2)
      have HBF := hid (HB2.out.trans (HB.out.mono hss2))
      clear ho2 HO
      go_wp2_with fail
      refine (same_nm bs bs n n A6 A c6 c wr HN.out HN.out (by omega) HS6.out.rd (HS.out.below (by rw [HWS.out]; exact HBF.out)).rd).mono ?_
      rintro e w7 ⟨rfl, n7, rfl⟩
      simp only [decide_true]
      have HB7 := hid (bw_dqs HBF.out n7)
      go_wp2_with fail
      go_ret
      exact ⟨rfl, HB7.out⟩
end Go.Proofs.Ytabklpgimjmdlaa
