/- The document's Number (layer 18); ScalarNumbers: walks. -/
import Derived.Test.YtihkjopplmdkkaaDoorSrL
import Derived.Test.YtihkjopplmdkkaaDoorSrNum
import Derived.Lib.ItoaLen
set_option linter.unusedVariables false
namespace Go.Proofs.YtihkjopplmdkkaaDoor
open Go.RowKit
theorem all_drop {bs : List UInt8} {k : Nat} {c : UInt8} {r : List UInt8} (hd : bs.drop k = c :: r) : valF 0 (bs.take (k + 1)) = 10 * valF 0 (bs.take k) + (c.toNat - 48) := by
  have hk : k < bs.length := by have := congrArg List.length hd; simp at this; omega
  have hc : bs[k] = c := by
    have := List.drop_eq_getElem_cons hk
    rw [hd] at this; injection this with h _; exact h.symm
  rw [List.take_succ_eq_append_getElem hk, valF_snoc, hc]
theorem dgs_take {bs : List UInt8} {k : Nat} {c : UInt8} {r : List UInt8} (hd : bs.drop k = c :: r) (h : dgs (bs.take k)) (hc : 48 ≤ c.toNat ∧ c.toNat ≤ 57) : dgs (bs.take (k + 1)) := by
  have hk : k < bs.length := by have := congrArg List.length hd; simp at this; omega
  have he : bs[k] = c := by
    have := List.drop_eq_getElem_cons hk
    rw [hd] at this; injection this with h _; exact h.symm
  rw [List.take_succ_eq_append_getElem hk, he]
  intro d hd'
  rcases List.mem_append.1 hd' with h1 | h1
  · exact h d h1
  · simp only [List.mem_singleton] at h1; subst h1; exact hc
theorem rn_bad {bs : List UInt8} (h : numOk bs = false) : rnF bs = (0, 3) := by rw [rnF, if_neg (by simp [h])]
theorem num_bad {bs : List UInt8} {k : Nat} {c : UInt8} {r : List UInt8} (hd : bs.drop k = c :: r) (hc : ¬ (48 ≤ c.toNat ∧ c.toNat ≤ 57)) : numOk bs = false := by
  cases h : numOk bs with
  | false => rfl
  | true =>
    obtain ⟨h1, -, -⟩ := (numOk_iff bs).1 h
    exact absurd (h1 c (List.mem_of_mem_drop (by rw [hd]; simp))) hc
set_option maxRecDepth 100000 in
set_option maxHeartbeats 2000000 in
theorem rNumber_any (s : ByteArray) (bs : List UInt8) (w : World) (hs : s.data.toList = bs) (hl : bs.length ≤ 100000) :
    Calls Tryd.prog 34 #[.string s] w fun e w' => e = .returned (.tuple #[.int .i64 (rnF bs).1, .int .i64 (rnF bs).2]) ∧ w = w' := by
  have hsz : s.size = bs.length := by rw [Lib.size_eq, hs]
  by_cases g1 : bs.length < 1
  · have hb := rn_bad (bs := bs) (by unfold numOk; rw [show decide (1 ≤ bs.length ∧ bs.length ≤ 9) = false from by simp; omega]; rfl)
    rw [hb]
    clear hs hb
    generalize bs.length = n at *
    have q : decide (n < 1) = true := by simpa using g1
    have hn0 : n = 0 := by omega
    subst hn0
    go_enter Tryd.func34, Tryd.ntmps34
    go_wp2
    go_ret2
    exact ⟨rfl, rfl⟩
  by_cases g2 : 9 < bs.length
  · have hb := rn_bad (bs := bs) (by unfold numOk; rw [show decide (1 ≤ bs.length ∧ bs.length ≤ 9) = false from by simp; omega]; rfl)
    rw [hb]
    clear hs hb
    generalize bs.length = n at *
    have q : decide ((n : Int) < 1) = false := by simp; omega
    go_enter Tryd.func34, Tryd.ntmps34
    go_wp2
    go_ret2
    exact ⟨rfl, rfl⟩
  obtain ⟨c0, r0, rfl⟩ : ∃ c r, bs = c :: r := by cases bs with | nil => simp at g1 | cons c r => exact ⟨c, r, rfl⟩
  obtain ⟨hi0, hg0⟩ := str_at (k := 0) hs rfl
  have hc0 := c0.toNat_lt
  by_cases g3 : 1 < (c0 :: r0).length ∧ c0.toNat = 48
  · have hb := rn_bad (bs := c0 :: r0) (by
      unfold numOk
      have h48 : c0 = 48 := by rw [← b8_self c0, g3.2]; rfl
      rw [show decide (1 < (c0 :: r0).length) = true from by simpa using g3.1, h48]; simp)
    rw [hb]
    obtain ⟨g3, g4⟩ := g3
    rw [g4] at hg0
    clear hs hb
    generalize (c0 :: r0).length = n at *
    go_enter Tryd.func34, Tryd.ntmps34
    go_wp2
    go_ret2
    exact ⟨rfl, rfl⟩
  have hlead : lead (c0 :: r0) := by
    refine ⟨by simp, ?_⟩
    by_cases h : (c0 :: r0).length = 1
    · exact .inl h
    · exact .inr ⟨c0, r0, rfl, fun e => g3 ⟨by omega, e⟩⟩
  have hfin : dgs (c0 :: r0) → numOk (c0 :: r0) = true := fun h => (numOk_iff _).2 ⟨h, hlead, by omega⟩
  have HSB := hid hs
  have HFIN := hid hfin
  have hbd : (c0.toNat == 48) = false ∨ (c0 :: r0).length ≤ 1 := by
    by_cases h : c0.toNat = 48
    · right; by_cases h1 : (c0 :: r0).length ≤ 1; exact h1; exact absurd ⟨by omega, h⟩ g3
    · left; simpa using h
  clear hs hlead hfin g3
  generalize hbs : c0 :: r0 = bs at *
  generalize hn : bs.length = n at *
  have HN := hid hn
  clear hn hbs
  generalize c0.toNat = x0 at *
  have key : ∀ (v : World → Prop), True := fun _ => trivial
  clear key
  have q1 : decide ((n : Int) < 1) = false := by simp; omega
  have q2 : decide ((9 : Int) < (n : Int)) = false := by simp; omega
  have hways : n ≤ 1 ∨ (1 < n ∧ x0 ≠ 48) := by
    rcases hbd with h | h
    · by_cases h1 : 1 < n
      · exact .inr ⟨h1, by simpa using h⟩
      · exact .inl (by omega)
    · exact .inl h
  have hways2 : (decide (1 < n) = false ∧ decide ((1 : Int) < (n : Int)) = false) ∨ (1 < n ∧ ((x0 : Int) == 48) = false) := by
    rcases hways with h | ⟨h1, h2⟩
    · exact .inl ⟨by simp; omega, by simp; omega⟩
    · exact .inr ⟨h1, by simp; omega⟩
  clear hbd hways
  rcases hways2 with ⟨t1, t1'⟩ | ⟨t1, t48⟩
  all_goals
    go_enter Tryd.func34, Tryd.ntmps34
    go_wp2
    go_loop [4, 5] (fun m i => ∃ k : Nat, k ≤ n ∧ i = .int .i64 (k : Int) ∧ m = .int .i64 (valF 0 (bs.take k) : Nat) ∧ dgs (bs.take k) ∧ valF 0 (bs.take k) < 10 ^ k) (fun _ i => n - (intOf i).toNat)
    case atStart => exact ⟨0, by omega, rfl, by simp [valF], by simp [dgs], by simp [valF]⟩
    case round =>
      obtain ⟨k, hk, rfl, rfl, hdg, hvl⟩ := hrel
      have h10 : (10 : Nat) ^ k ≤ 10 ^ 9 := Nat.pow_le_pow_right (by omega) (by omega)
      have hv9 : valF 0 (bs.take k) ≤ 999999999 := by omega
      by_cases hlt : k < n
      · obtain ⟨c, r, hd⟩ := str_cons HN.out hlt
        obtain ⟨hi, hg⟩ := str_at HSB.out hd
        have hx := c.toNat_lt
        have hnx := all_drop hd
        by_cases hc : 48 ≤ c.toNat ∧ c.toNat ≤ 57
        · have hdg2 := dgs_take hd hdg hc
          obtain ⟨hc1, hc2⟩ := hc
          have hv2 : valF 0 (bs.take (k + 1)) < 10 ^ (k + 1) := by rw [hnx, Nat.pow_succ]; omega
          have HDG := hid hdg2
          have HV2 := hid hv2
          have HNX := hid hnx
          clear hd hdg2 hv2 hnx hdg hvl h10
          generalize valF 0 (bs.take k) = a at *
          generalize c.toNat = x at *
          go_wp2
          go_round
          case rel => exact ⟨k + 1, by omega, by go_num, by first | (rw [HNX.out]; done) | (rw [HNX.out]; go_num), HDG.out, HV2.out⟩
          case measure => simp [intOf] <;> omega
        · have hb := rn_bad (num_bad hd hc)
          have HB := hid hb
          have hcc : c.toNat < 48 ∨ 57 < c.toNat := by omega
          clear hd hb hnx hdg hvl h10 hc
          generalize valF 0 (bs.take k) = a at *
          generalize c.toNat = x at *
          rcases hcc with hcc | hcc
          all_goals
            go_wp2
            go_ret2
            exact ⟨by rw [HB.out]; rfl, rfl⟩
      · have ht : bs.take k = bs := List.take_of_length_le (by have := HN.out; omega)
        rw [ht] at hdg
        have hb : rnF bs = (((valF 0 (bs.take k) : Nat) : Int), (0 : Int)) := by unfold rnF; rw [if_pos (HFIN.out hdg), ht]
        have HB := hid hb
        clear hb ht hdg hvl h10
        generalize valF 0 (bs.take k) = a at *
        go_wp2
        go_ret2
        exact ⟨by rw [HB.out]; rfl, rfl⟩
set_option maxRecDepth 100000 in
set_option maxHeartbeats 2000000 in
theorem scalarNumbers_any (n : Int) (s : ByteArray) (w : World) (h0 : -9223372036854775808 ≤ n) (h1 : n ≤ 9223372036854775807) (hl : s.size ≤ 9223372036854775807) (hT : Tab18 w) :
    Calls Tryd.prog 9 #[.int .i64 n, .string s] w fun e w' => e = .returned (.bool true) ∧ Below w.heap.size w w' := by
  obtain ⟨bs, hs⟩ : ∃ bs, s.data.toList = bs := ⟨_, rfl⟩
  have hsz : s.size = bs.length := by rw [Lib.size_eq, hs]
  have HLV := hid (live18_any w hT)
  by_cases h5 : 100 < bs.length
  · clear hs
    generalize bs.length = m at *
    go_enter Tryd.func9, Tryd.ntmps9
    go_wp2_with fail
    refine HLV.out.mono ?_
    rintro e w1 ⟨rfl, hb1⟩
    go_wp2_with fail
    go_ret
    exact ⟨rfl, hb1⟩
  have H1 := hid fun w' (h : Below w.heap.size w w') => digits_any n w' h0 h1 (hT.below h)
  have H2 := hid fun w' (h : Below w.heap.size w w') => snumber_any s bs w' hs (by omega) (hT.below h)
  have H3 := hid fun w' => rNumber_any s bs w' hs (by omega)
  rw [← nm_rn] at H3
  have hbk := @nm_back bs
  have H4 := hid fun (q : Int) (hq : -9223372036854775808 ≤ q ∧ q ≤ 9223372036854775807) w' (h : Below w.heap.size w w') => digits_any q w' hq.1 hq.2 (hT.below h)
  have hse : dgL (nmF bs).1 = bs → (dgL (nmF bs).1 == s.toList) = true := fun h => str_eq hs h
  have hin : 0 ≤ n → n ≤ 999999999 → nmF (dgL n) = (n, 0) := nm_dig
  have H5 := hid fun (hn : nmF (dgL n) = (n, 0)) w' (h : Below w.heap.size w w') => snumber_any ⟨(dgL n).toArray⟩ (dgL n) w' (by simp) (by
      unfold dgL; split
      · have := Lib.itoa_length_le n h0 h1; omega
      · simp) (hT.below h)
  have hout : ¬ (0 ≤ n ∧ n ≤ 999999999) → dgL n = [] := fun h => by rw [dgL, if_neg h]
  have HBK := hid hbk
  have HSE := hid hse
  clear hs hbk hse
  generalize nmF bs = vq at *
  obtain ⟨v, q⟩ := vq
  simp only at H3 HBK HSE H2
  generalize bs.length = m at *
  by_cases hn : 0 ≤ n ∧ n ≤ 999999999
  · have hnn := hin hn.1 hn.2
    have H5' := H5.out hnn
    rw [hnn] at H5'
    have H6 := hid H5'
    obtain ⟨hn1, hn2⟩ := hn
    clear hin hout hnn H5 H5'
    generalize dgL n = ln at *
    go_enter Tryd.func9, Tryd.ntmps9
    go_wp2_with fail
    refine HLV.out.mono ?_
    rintro e w1 ⟨rfl, hb1⟩
    go_wp2_with fail
    refine (H1.out _ hb1).mono ?_
    rintro e w2 ⟨rfl, hb2⟩
    have HB2 := hid (bw_t hb1 hb2)
    clear hb1 hb2
    go_wp2_with fail
    refine (H6.out _ HB2.out).mono ?_
    rintro e w3 ⟨rfl, hb3⟩
    have HB3 := hid (bw_t HB2.out hb3)
    clear hb3
    go_wp2_with fail
    refine (H2.out _ HB3.out).mono ?_
    rintro e w5 ⟨rfl, hb5⟩
    have HB5 := hid (bw_t HB3.out hb5)
    clear hb5
    go_wp2_with fail
    refine (H3.out _).mono ?_
    rintro e w6 ⟨rfl, rfl⟩
    by_cases hq : q = 0
    · obtain ⟨e1, e2, e3⟩ := HBK.out hq
      have hse' := HSE.out e1
      have H4' := hid (H4.out v ⟨by omega, by omega⟩)
      subst hq
      generalize dgL v = lv at *
      clear e1
      go_wp2_with fail
      refine (H4'.out _ HB5.out).mono ?_
      rintro e w7 ⟨rfl, hb7⟩
      have HB7 := hid (bw_t HB5.out hb7)
      clear hb7
      go_wp2_with fail
      go_ret
      exact ⟨ret_bool (by simp), HB7.out⟩
    · have t0 : (q == 0) = false := by simpa using hq
      have t1 : (q != 0) = true := by simpa using hq
      go_wp2_with fail
      go_ret
      exact ⟨ret_bool (by simp), HB5.out⟩
  · have hd := hout hn
    rw [hd] at H1
    have hnc : n < 0 ∨ 999999999 < n := by omega
    clear hin hout H5 hd hn
    rcases hnc with hnc | hnc
    all_goals
      go_enter Tryd.func9, Tryd.ntmps9
      go_wp2_with fail
      refine HLV.out.mono ?_
      rintro e w1 ⟨rfl, hb1⟩
      go_wp2_with fail
      refine (H1.out _ hb1).mono ?_
      rintro e w2 ⟨rfl, hb2⟩
      have HB2 := hid (bw_t hb1 hb2)
      clear hb1 hb2
      go_wp2_with fail
      refine (H2.out _ HB2.out).mono ?_
      rintro e w5 ⟨rfl, hb5⟩
      have HB5 := hid (bw_t HB2.out hb5)
      clear hb5
      go_wp2_with fail
      refine (H3.out _).mono ?_
      rintro e w6 ⟨rfl, rfl⟩
      by_cases hq : q = 0
      · obtain ⟨e1, e2, e3⟩ := HBK.out hq
        have hse' := HSE.out e1
        have H4' := hid (H4.out v ⟨by omega, by omega⟩)
        subst hq
        generalize dgL v = lv at *
        clear e1
        go_wp2_with fail
        refine (H4'.out _ HB5.out).mono ?_
        rintro e w7 ⟨rfl, hb7⟩
        have HB7 := hid (bw_t HB5.out hb7)
        clear hb7
        go_wp2_with fail
        go_ret
        exact ⟨ret_bool (by simp), HB7.out⟩
      · have t0 : (q == 0) = false := by simpa using hq
        have t1 : (q != 0) = true := by simpa using hq
        go_wp2_with fail
        go_ret
        exact ⟨ret_bool (by simp), HB5.out⟩
end Go.Proofs.YtihkjopplmdkkaaDoor
