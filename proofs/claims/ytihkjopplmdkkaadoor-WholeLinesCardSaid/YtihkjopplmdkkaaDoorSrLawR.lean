/- ScalarReads, ScalarBack: walks. -/
import Derived.Test.YtihkjopplmdkkaaDoorSrL
import Derived.Test.YtihkjopplmdkkaaDoorSrX
set_option linter.unusedVariables false
namespace Go.Proofs.YtihkjopplmdkkaaDoor
open Go.RowKit
set_option maxRecDepth 100000 in
set_option maxHeartbeats 2000000 in
theorem scalarReads_any (s : ByteArray) (w : World) (hl : s.size ≤ 9223372036854775807) (hT : Tab18 w) :
    Calls Tryd.prog 6 #[.string s] w fun e w' => e = .returned (.bool true) ∧ Below w.heap.size w w' := by
  obtain ⟨bs, hs⟩ : ∃ bs, s.data.toList = bs := ⟨_, rfl⟩
  have hsz : s.size = bs.length := by rw [Lib.size_eq, hs]
  have HLV := hid (live18_any w hT)
  by_cases h5 : 5000 < bs.length
  · clear hs
    generalize bs.length = n at *
    go_enter Tryd.func6, Tryd.ntmps6
    go_wp2_with fail
    refine HLV.out.mono ?_
    rintro e w1 ⟨rfl, hb1⟩
    go_wp2_with fail
    go_ret
    exact ⟨rfl, hb1⟩
  · have H1 := hid fun w => sRead_any s bs w hs (by omega)
    have H2 := hid fun w => rRead_any s bs w hs (by omega)
    have H3 := hid fun w => sCut_any s bs w hs (by omega)
    have H4 := hid fun w => rCut_any s bs w hs (by omega)
    clear hs
    generalize rdE bs = E at *
    generalize rdT bs = T at *
    generalize cutE (cutN bs) = C at *
    generalize cutN bs = c at *
    generalize bs.length = n at *
    go_enter Tryd.func6, Tryd.ntmps6
    go_wp2_with fail
    refine HLV.out.mono ?_
    rintro e w1 ⟨rfl, hb1⟩
    go_wp2_with fail
    refine (H1.out _).mono ?_
    rintro e w2 ⟨t2, rfl, ht2, hb2⟩
    go_wp2_with fail
    refine (H2.out _).mono ?_
    rintro e w3 ⟨t3, rfl, ht3, hb3⟩
    obtain rfl := str_ext ht2 ht3
    have HB3 := hid (bw_t (bw_t hb1 hb2) hb3)
    clear ht2 ht3 hb1 hb2 hb3
    go_wp2_with fail
    refine (H3.out _).mono ?_
    rintro e w4 ⟨rfl, rfl⟩
    go_wp2_with fail
    refine (H4.out _).mono ?_
    rintro e w5 ⟨rfl, rfl⟩
    go_wp2_with fail
    go_ret
    exact ⟨ret_bool (by simp), HB3.out⟩
/-- What is read back is what was put, if it may be. -/
theorem rdO_pu (bs : List UInt8) : rdO (puL bs) = some bs := by
  unfold puL rdO
  by_cases h : plB bs = true
  · rw [if_pos h, if_pos h]
  · rw [if_neg h, if_neg (by rw [show plB (quB bs) = false from plB_quote _]; simp)]
    have e2 : (quB bs).getLast? = some 34 := by unfold quB; rw [List.getLast?_append]; rfl
    rw [unQ, if_pos ⟨by rw [quB_len]; omega, rfl, e2⟩]
    simp [quB, un_qu]
theorem puL_le (bs : List UInt8) : (puL bs).length ≤ 4 * bs.length + 2 := by
  unfold puL; split
  · omega
  · rw [quB_len]; have := qB_le bs; omega
theorem rdE_pu (bs : List UInt8) : rdE (puL bs) = checkI bs.length (scan bs 0).2 4096 := by unfold rdE; rw [rdO_pu]
theorem rdT_pu (bs : List UInt8) : rdT (puL bs) = if checkI bs.length (scan bs 0).2 4096 = 0 then bs else [] := by unfold rdT; rw [rdO_pu]
/-- What was read may be read again. -/
theorem rd_ok {bs : List UInt8} (h : rdE bs = 0) : checkI (rdT bs).length (scan (rdT bs) 0).2 4096 = 0 := by
  unfold rdE at h; unfold rdT
  cases ho : rdO bs with
  | none => rw [ho] at h; simp at h
  | some t => rw [ho] at h; simp only at h ⊢; rw [if_pos h]; exact h
theorem rdT_le (bs : List UInt8) : (rdT bs).length ≤ bs.length := by
  unfold rdT
  cases ho : rdO bs with
  | none => simp
  | some t =>
    simp only
    have : t.length ≤ bs.length := by
      unfold rdO at ho
      split at ho
      · injection ho with ho; rw [ho]; exact Nat.le_refl _
      · unfold unQ at ho
        split at ho
        · have := unF_len _ _ _ (Nat.le_refl _) ho; simp at this; omega
        · cases ho
    split
    · exact this
    · simp
theorem checkI_ge (n : Nat) (b : Option Nat) : 0 ≤ checkI n b 4096 ∧ checkI n b 4096 ≤ 9 := by unfold checkI; split; omega; split <;> omega
set_option maxRecDepth 100000 in
set_option maxHeartbeats 4000000 in
theorem scalarBack_any (s be ro : ByteArray) (w : World) (hl : s.size ≤ 9223372036854775807) (hl2 : be.size ≤ 9223372036854775807) (hl3 : ro.size ≤ 9223372036854775807) (hT : Tab18 w) :
    Calls Tryd.prog 8 #[.string s, .string be, .string ro] w fun e w' => e = .returned (.bool true) ∧ Below w.heap.size w w' := by
  obtain ⟨bs, hs⟩ : ∃ bs, s.data.toList = bs := ⟨_, rfl⟩
  obtain ⟨bb, hbb⟩ : ∃ bb, be.data.toList = bb := ⟨_, rfl⟩
  obtain ⟨rs, hrs⟩ : ∃ rs, ro.data.toList = rs := ⟨_, rfl⟩
  have hsz : s.size = bs.length := by rw [Lib.size_eq, hs]
  have hbz : be.size = bb.length := by rw [Lib.size_eq, hbb]
  have hrz : ro.size = rs.length := by rw [Lib.size_eq, hrs]
  have HLV := hid (live18_any w hT)
  by_cases h5 : 5000 < bs.length
  · clear hs hbb hrs
    generalize bs.length = n at *
    go_enter Tryd.func8, Tryd.ntmps8
    go_wp2_with fail
    refine HLV.out.mono ?_
    rintro e w1 ⟨rfl, hb1⟩
    go_wp2_with fail
    go_ret
    exact ⟨rfl, hb1⟩
  by_cases h6 : 100 < bb.length
  · clear hs hbb hrs
    generalize bs.length = n at *
    generalize bb.length = m at *
    go_enter Tryd.func8, Tryd.ntmps8
    go_wp2_with fail
    refine HLV.out.mono ?_
    rintro e w1 ⟨rfl, hb1⟩
    go_wp2_with fail
    go_ret
    exact ⟨rfl, hb1⟩
  by_cases h7 : 5000 < rs.length
  · clear hs hbb hrs
    generalize bs.length = n at *
    generalize bb.length = m at *
    generalize rs.length = k at *
    go_enter Tryd.func8, Tryd.ntmps8
    go_wp2_with fail
    refine HLV.out.mono ?_
    rintro e w1 ⟨rfl, hb1⟩
    go_wp2_with fail
    go_ret
    exact ⟨rfl, hb1⟩
  have H1 := hid fun w => sPut_any s bs w hs (by omega)
  have hpl := puL_le bs
  have H2 := hid fun (p : ByteArray) (hp : p.data.toList = puL bs) w => sRead_any p (puL bs) w hp (by omega)
  have H3 := hid fun w => check_any s bs 4096 w hs (by omega) (by omega) (by omega)
  have H4 := hid fun (p q : ByteArray) (hp : p.data.toList = puL bs) (hq : q = p ++ ⟨#[32]⟩ ++ be) w => sCut_any q (puL bs ++ 32 :: bb) w (by rw [hq]; simp [hp, hbb]) (by simp; omega)
  rw [cut_pu] at H4
  have H5 := hid fun w => sRead_any ro rs w hrs (by omega)
  have htl := rdT_le rs
  have hpl2 := puL_le (rdT rs)
  have H6 := hid fun (u : ByteArray) (hu : u.data.toList = rdT rs) w => sPut_any u (rdT rs) w hu (by omega)
  have H7 := hid fun (p : ByteArray) (hp : p.data.toList = puL (rdT rs)) w => sRead_any p (puL (rdT rs)) w hp (by omega)
  rw [rdE_pu, rdT_pu] at H2
  have hE7 : rdE rs = 0 → rdE (puL (rdT rs)) = 0 ∧ rdT (puL (rdT rs)) = rdT rs := fun h => by rw [rdE_pu, rdT_pu, rd_ok h]; exact ⟨rfl, by simp⟩
  have HE7 := hid hE7
  have hpn : (puL bs).length ≠ 0 := by unfold puL; split; rename_i h; intro h0; simp [plB] at h; exact h.1 (List.eq_nil_of_length_eq_zero h0); rw [quB_len]; omega
  rw [show cutE (puL bs).length = 0 from by rw [cutE, if_neg hpn]] at H4
  have hck := checkI_ge bs.length (scan bs 0).2
  have HS := hid hs
  have hp32 : ∀ p : ByteArray, p.data.toList = puL bs → p.size = (puL bs).length := fun p h => by rw [Lib.size_eq, h]
  have HP32 := hid hp32
  clear hs hbb hrs hE7 hp32
  generalize checkI bs.length (scan bs 0).2 4096 = ch at *
  generalize (puL bs).length = pn at *
  generalize rdE rs = E5 at *
  generalize bs.length = n at *
  generalize bb.length = m at *
  generalize rs.length = k at *
  go_enter Tryd.func8, Tryd.ntmps8
  go_wp2_with fail
  refine HLV.out.mono ?_
  rintro e w1 ⟨rfl, hb1⟩
  go_wp2_with fail
  refine (H1.out _).mono ?_
  rintro e w2 ⟨p, rfl, hp, hb2⟩
  have hpz := HP32.out p hp
  have HP := hid hp
  clear hp
  go_wp2_with fail
  refine (H2.out p HP.out _).mono ?_
  rintro e w3 ⟨t, rfl, ht, hb3⟩
  go_wp2_with fail
  refine (H3.out _).mono ?_
  rintro e w4 ⟨rfl, hb4⟩
  have HB4 := hid (bw_t (bw_t (bw_t hb1 hb2) hb3) hb4)
  clear hb1 hb2 hb3 hb4
  have hz1 : ¬ 9223372036854775807 < pn + 1 := by omega
  have hz2 : (p ++ ⟨#[32]⟩ : ByteArray).size = pn + 1 := by simp [hpz]; rfl
  have hz3 : ¬ 9223372036854775807 < pn + 1 + m := by omega
  by_cases h0 : ch = 0
  · subst h0
    rw [if_pos rfl] at ht
    obtain rfl := str_ext HS.out ht
    clear ht
    go_wp2_with fail
    refine (H4.out p _ HP.out rfl _).mono ?_
    rintro e w5 ⟨rfl, rfl⟩
    go_wp2_with fail
    refine (H5.out _).mono ?_
    rintro e w6 ⟨u, rfl, hu, hb6⟩
    by_cases hE : E5 = 0
    · obtain ⟨e1, e2⟩ := HE7.out hE
      rw [e1, e2] at H7
      subst hE
      go_wp2_with fail
      refine (H6.out u hu _).mono ?_
      rintro e w7 ⟨p2, rfl, hp2, hb7⟩
      go_wp2_with fail
      refine (H7.out p2 hp2 _).mono ?_
      rintro e w8 ⟨v, rfl, hv, hb8⟩
      obtain rfl := str_ext hu hv
      have HB8 := hid (bw_t (bw_t (bw_t HB4.out hb6) hb7) hb8)
      clear hu hv hp2 hb6 hb7 hb8
      go_wp2_with fail
      go_ret
      exact ⟨ret_bool (by simp), HB8.out⟩
    · have t0 : (E5 == 0) = false := by simpa using hE
      have HB6 := hid (bw_t HB4.out hb6)
      go_wp2_with fail
      go_ret
      exact ⟨rfl, HB6.out⟩
  · rw [if_neg h0] at ht
    obtain rfl := str_nil ht
    clear ht
    have t0 : (ch == 0) = false := by simpa using h0
    have t1 : (ch != 0) = true := by simpa using h0
    go_wp2_with fail
    refine (H4.out p _ HP.out rfl _).mono ?_
    rintro e w5 ⟨rfl, rfl⟩
    go_wp2_with fail
    refine (H5.out _).mono ?_
    rintro e w6 ⟨u, rfl, hu, hb6⟩
    by_cases hE : E5 = 0
    · obtain ⟨e1, e2⟩ := HE7.out hE
      rw [e1, e2] at H7
      subst hE
      go_wp2_with fail
      refine (H6.out u hu _).mono ?_
      rintro e w7 ⟨p2, rfl, hp2, hb7⟩
      go_wp2_with fail
      refine (H7.out p2 hp2 _).mono ?_
      rintro e w8 ⟨v, rfl, hv, hb8⟩
      obtain rfl := str_ext hu hv
      have HB8 := hid (bw_t (bw_t (bw_t HB4.out hb6) hb7) hb8)
      clear hu hv hp2 hb6 hb7 hb8
      go_wp2_with fail
      go_ret
      exact ⟨ret_bool (by simp), HB8.out⟩
    · have t5 : (E5 == 0) = false := by simpa using hE
      have HB6 := hid (bw_t HB4.out hb6)
      go_wp2_with fail
      go_ret
      exact ⟨rfl, HB6.out⟩
end Go.Proofs.YtihkjopplmdkkaaDoor
