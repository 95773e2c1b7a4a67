/- The walks of CrcIs, CrcParts, CrcSeals. -/
import Derived.Test.YtolafcmaikjioaaLive7
set_option linter.unusedVariables false
namespace Go.Proofs.Ytolafcmaikjioaa
open Go.RowKit
set_option maxRecDepth 100000 in
set_option maxHeartbeats 2000000 in
theorem crcIs_any (bs : List UInt8) (n : Nat) (A : Option Addr) (c : Nat) (s : Nat) (bit : Bool) (w : World) (hn : bs.length = n) (hs : s ≤ 4294967295) (hS : Sl w A c (bs.map bv)) :
    Calls Try.prog 3 #[.slice A n c, .int .u32 (s : Int), .bool bit] w fun e w' => e = .returned (.bool true) ∧ Below w.heap.size w w' := by
  have hcap : n ≤ 9223372036854775807 := by have h1 := hS.cap; have h2 := hS.small; rw [List.length_map] at h1; omega
  have hlive := live7_any w
  by_cases hbig : 2000 < n
  · have HL := hid hlive
    clear hlive hn hS
    go_enter Try.func3, Try.ntmps3
    go_wp2_with fail
    refine HL.out.mono ?_
    rintro e w1 ⟨rfl, hb1⟩
    go_wp2_with fail
    go_ret
    exact ⟨rfl, hb1⟩
  · have hof := fun W (hW : Below w.heap.size w W) => cof_any bs n A c W hn (by omega) (hS.below hW)
    have hrof := fun W (hW : Below w.heap.size w W) => rof_any bs n A c W hn (by omega) (hS.below hW)
    have hst := fun W => cstep_any s bit W hs
    have hrst := fun W => rstep_any s bit W hs
    generalize C.sum bs = sm at *
    generalize C.stp s bit = t at *
    have HL := hid hlive
    have HOF := hid hof
    have HROF := hid hrof
    have HST := hid hst
    have HRST := hid hrst
    clear hlive hn hS hof hrof hst hrst
    go_enter Try.func3, Try.ntmps3
    go_wp2_with fail
    refine HL.out.mono ?_
    rintro e w1 ⟨rfl, hb1⟩
    go_wp2_with fail
    refine (HOF.out _ hb1).mono ?_
    rintro e w2 ⟨rfl, hb2⟩
    have hb12 := bw_t hb1 hb2
    clear hb1 hb2
    go_wp2_with fail
    refine (HROF.out _ hb12).mono ?_
    rintro e w3 ⟨rfl, rfl⟩
    go_wp2_with (first | (go_at_call 14; refine (HST.out _).mono ?_; rintro e w' ⟨rfl, rfl⟩) | (go_at_call 15; refine (HRST.out _).mono ?_; rintro e w' ⟨rfl, rfl⟩))
    go_ret
    exact ⟨rfl, hb12⟩
set_option maxRecDepth 100000 in
set_option maxHeartbeats 2000000 in
theorem crcParts_any (xs bs : List UInt8) (n m : Nat) (A B : Option Addr) (c d : Nat) (w : World) (hn : xs.length = n) (hm : bs.length = m) (hA : Sl w A c (xs.map bv)) (hB : Sl w B d (bs.map bv)) :
    Calls Try.prog 4 #[.slice A n c, .slice B m d] w fun e w' => e = .returned (.bool true) ∧ Below w.heap.size w w' := by
  obtain ⟨i0, hi, hz0, hz1, hz2⟩ := info_parts Try.info5
  have hcap : n ≤ 9223372036854775807 := by have h1 := hA.cap; have h2 := hA.small; rw [List.length_map] at h1; omega
  have hcap2 : m ≤ 9223372036854775807 := by have h1 := hB.cap; have h2 := hB.small; rw [List.length_map] at h1; omega
  have hlive := live7_any w
  by_cases hbig : 2000 < n
  · have HL := hid hlive
    clear hlive hn hm hA hB
    go_enter Try.func4, Try.ntmps4
    go_wp2_with fail
    refine HL.out.mono ?_
    rintro e w1 ⟨rfl, hb1⟩
    go_wp2_with fail
    go_ret
    exact ⟨rfl, hb1⟩
  by_cases hbig2 : 2000 < m
  · have HL := hid hlive
    clear hlive hn hm hA hB
    go_enter Try.func4, Try.ntmps4
    go_wp2_with fail
    refine HL.out.mono ?_
    rintro e w1 ⟨rfl, hb1⟩
    go_wp2_with fail
    go_ret
    exact ⟨rfl, hb1⟩
  have hof := fun W (hW : Below w.heap.size w W) => cof_any xs n A c W hn (by omega) (hA.below hW)
  have hsum := C.sum_lt xs
  have hmo := fun W (hW : Below w.heap.size w W) => cmore_any (C.sum xs) bs m B d W (by omega) hm (by omega) (hB.below hW)
  have hmn := fun W => cmore_any (C.sum xs) [] 0 none 0 W (by omega) rfl (by omega) (Sl.nil_ W)
  have hof2 := fun W X e hX => cof_any (xs ++ bs) (0 + n + m) X e W (by rw [List.length_append, hn, hm]; omega) (by omega) hX
  rw [C.more_sum] at hmo hmn
  rw [List.append_nil] at hmn
  have HA := hid hA
  have HB := hid hB
  have HN := hid hn
  have HM := hid hm
  clear hA hB hn hm
  generalize C.sum (xs ++ bs) = s2 at *
  generalize C.sum xs = s1 at *
  have HL := hid hlive
  have HOF := hid hof
  have HMO := hid hmo
  have HMN := hid hmn
  have HOF2 := hid hof2
  clear hlive hof hmo hmn hof2 hsum
  go_enter Try.func4, Try.ntmps4
  go_wp2_with fail
  refine HL.out.mono ?_
  rintro e w1 ⟨rfl, hb1⟩
  go_wp2_with fail
  refine (HOF.out _ hb1).mono ?_
  rintro e w2 ⟨rfl, hb2⟩
  have b2 := bw_t hb1 hb2
  clear hb1 hb2
  go_wp2_with fail
  refine (HMO.out _ b2).mono ?_
  rintro e w3 ⟨rfl, hb3⟩
  have b3 := bw_t b2 hb3
  clear hb3 b2
  have hrow : (w3.alloc (.cells #[] 5)).ownsRow w.heap.size 5 1 (.slice (some ⟨w3.heap.size, 0, none⟩) 0 0) 0 [] := own_mono (World.ownsRow_made w3 #[] 0 (Nat.le_refl _) (by decide) rfl) b3.size
  have ha3 := HA.out.below (bw_a b3 (.cells #[] 5))
  have HROW := hid hrow
  have HA3 := hid ha3
  have HB3 := hid (bw_a b3 (.cells #[] 5))
  clear hrow ha3 b3
  go_wp2_with (first | (at_builtin; refine wpList_append_rd rfl (.tmp 19) (.tmp 20) 22 rfl w.heap.size 5 i0 (.int .u8 0) 1 1 Try.underlying22 hi hz0 hz1 hz2 rfl (by decide) _ _ _ rfl HROW.out A n c (xs.map bv) rfl (by rw [List.length_map, HN.out, Nat.mul_one]) HA3.out.rd HA3.out.nil0 (bv_one _) (by simp only [maxLen]; omega) (by omega) HB3.out.size ?_; intro v4 w4 hown4 hgrow4; have HB4 := hid (bw_g HB3.out hgrow4 (fun k ek => (HROW.out.lt k ek).1)); have HO4 := hid hown4; have HBB4 := hid (HB.out.below HB4.out); clear hown4 hgrow4) | (at_builtin; refine wpList_append_rd rfl (.tmp 21) (.tmp 22) 22 rfl w.heap.size 5 i0 (.int .u8 0) 1 1 Try.underlying22 hi hz0 hz1 hz2 rfl (by decide) _ _ _ rfl HO4.out B m d (bs.map bv) rfl (by rw [List.length_map, HM.out, Nat.mul_one]) HBB4.out.rd HBB4.out.nil0 (bv_one _) (by simp only [maxLen]; omega) (by omega) HB4.out.size ?_; intro v5 w5 hown5 hgrow5; have HB5 := hid (bw_g HB4.out hgrow5 (fun k ek => (HO4.out.lt k ek).1)); have HO5 := hid hown5; clear hown5 hgrow5))
  obtain ⟨A5, c5, rfl, hn5, hs5⟩ := Sl.of_own HO5.out
  have hof5 := HOF2.out w5 A5 c5 (by simpa using hs5)
  clear hs5 hn5
  have H5 := hid hof5
  clear hof5
  go_wp2_with fail
  refine H5.out.mono ?_
  rintro e w6 ⟨rfl, hb6⟩
  have b6 := bw_t HB5.out hb6
  clear hb6
  go_wp2_with fail
  refine (HOF.out _ b6).mono ?_
  rintro e w7 ⟨rfl, hb7⟩
  have b7 := bw_t b6 hb7
  clear hb7 b6
  go_wp2_with fail
  refine (HMN.out _).mono ?_
  rintro e w8 ⟨rfl, hb8⟩
  have b8 := bw_t b7 hb8
  clear hb8 b7
  go_wp2_with fail
  refine (HOF.out _ b8).mono ?_
  rintro e w9 ⟨rfl, hb9⟩
  have b9 := bw_t b8 hb9
  clear hb9 b8
  go_wp2_with fail
  go_ret
  exact ⟨rfl, b9⟩
/-- A slice cut at its end. -/
theorem Sl.pre {w : World} {A : Option Addr} {c : Nat} {bs : List UInt8} (h : Sl w A c (bs.map bv)) (k : Nat) (hk : k ≤ bs.length) : Sl w A c ((bs.take k).map bv) := by
  have hc := h.cap
  rw [List.length_map] at hc
  refine ⟨by rw [List.length_map, List.length_take]; omega, h.small, h.nil0, ?_⟩
  have := h.rd.take k
  rwa [← List.map_take] at this
set_option maxRecDepth 100000 in
set_option maxHeartbeats 4000000 in
theorem crcSeals_any (bs : List UInt8) (n : Nat) (A : Option Addr) (c : Nat) (w : World) (hn : bs.length = n) (hS : Sl w A c (bs.map bv)) :
    Calls Try.prog 5 #[.slice A n c] w fun e w' => e = .returned (.bool true) ∧ Below w.heap.size w w' := by
  have hcap : n ≤ 9223372036854775807 := by have h1 := hS.cap; have h2 := hS.small; rw [List.length_map] at h1; omega
  have hcc : n ≤ c := by have h1 := hS.cap; rw [List.length_map] at h1; omega
  have hcs := hS.small
  have hlive := live7_any w
  by_cases hbig : 2000 < n
  · have HL := hid hlive
    clear hlive hn hS
    go_enter Try.func5, Try.ntmps5
    go_wp2_with fail
    refine HL.out.mono ?_
    rintro e w1 ⟨rfl, hb1⟩
    go_wp2_with fail
    go_ret
    exact ⟨rfl, hb1⟩
  have hlen := C.sealB_len bs
  have hse := fun W (hW : Below w.heap.size w W) => cseal_sl bs n (n + 4) A c W hn rfl (by omega) (hS.below hW)
  have hop := fun W X e h => copen_ok bs n (n + 4) X e W hn rfl (by omega) h
  have hrs := fun W (hW : Below w.heap.size w W) => rseal_any bs n A c W hn (by omega) (hS.below hW)
  have hop2 := fun W (hW : Below w.heap.size w W) => copen_any bs n A c W hn (by omega) (hS.below hW)
  have hsm := fun W X Y e d hX hY => same_at (C.sealB bs) (C.sealB bs) (n + 4) (n + 4) X Y e d W (by omega) (by omega) (by omega) hX hY
  have hsb := fun W X e hX (hW : Below w.heap.size w W) => same_at bs bs n n X A e c W hn hn (by omega) hX (hS.below hW).rd
  have HL := hid hlive
  have HSE := hid hse
  have HOP := hid hop
  have HRS := hid hrs
  have HOP2 := hid hop2
  have HSM := hid hsm
  have HSB := hid hsb
  have HS := hid hS
  have HN := hid hn
  have HLEN := hid hlen
  clear hlive hn hS hse hop hrs hop2 hsm hsb hlen
  go_enter Try.func5, Try.ntmps5
  go_wp2_with fail
  refine HL.out.mono ?_
  rintro e w1 ⟨rfl, hb1⟩
  go_wp2_with fail
  refine (HSE.out _ hb1).mono ?_
  rintro e w2 ⟨A2, c2, rfl, hs2, hb2⟩
  have b2 := bw_t hb1 hb2
  clear hb1 hb2
  go_wp2_with fail
  refine (HOP.out _ _ _ hs2).mono ?_
  rintro e w3 ⟨A3, c3, rfl, hs3, hb3⟩
  have b3 := bw_t b2 hb3
  have hs2 := hs2.below hb3
  clear hb3 b2
  go_wp2_with fail
  refine (HRS.out _ b3).mono ?_
  rintro e w4 ⟨v4, rfl, ho4, hb4⟩
  obtain ⟨A4, c4, rfl, -, hs4⟩ := Sl.of_own ho4
  have b4 := bw_t b3 hb4
  have hs2 := hs2.below hb4
  have hs3 := hs3.below hb4
  clear hb4 b3 ho4
  go_wp2_with fail
  refine (HSM.out _ _ _ _ _ hs2.rd hs4.rd).mono ?_
  rintro e w5 ⟨rfl, k5, rfl⟩
  have b5 := bw_d b4 k5
  have hs3 := hs3.drewN k5
  clear hs2 hs4 b4
  go_wp2_with fail
  refine (HSB.out _ _ _ hs3.rd b5).mono ?_
  rintro e w6 ⟨rfl, k6, rfl⟩
  have b6 := bw_d b5 k6
  clear hs3 b5
  generalize World.drewN _ k6 = w6 at *
  go_wp2_with fail
  refine (HOP2.out _ b6).mono ?_
  rintro e w7 ⟨hor, hb7⟩
  have b7 := bw_t b6 hb7
  by_cases h4 : n < 4
  · have he : C.openE bs = 4 := by unfold C.openE; rw [if_pos (by have := HN.out; omega)]
    rw [he] at hor
    rcases hor with ⟨h, -⟩ | ⟨-, rfl⟩
    · exact absurd h (by omega)
    · clear he hb7 b6
      go_wp2_with fail
      go_ret
      exact ⟨rfl, b7⟩
  · have hpre := HS.out.pre (n - 4) (by have := HN.out; omega)
    have hpl : (bs.take (n - 4)).length = n - 4 := by rw [List.length_take]; have := HN.out; omega
    have hE : C.openE bs = if C.sealB (bs.take (n - 4)) = bs then 0 else 12 := by unfold C.openE; rw [if_neg (by have := HN.out; omega), HN.out]
    have hrs2 := fun W (hW : Below w.heap.size w W) => rseal_any (bs.take (n - 4)) (n - 4) A c W hpl (by omega) (hpre.below hW)
    have hsl2 := C.sealB_len (bs.take (n - 4))
    have hsm2 := fun W X e hX (hW : Below w.heap.size w W) => same_at (C.sealB (bs.take (n - 4))) bs (n - 4 + 4) n X A e c W (by omega) HN.out (by omega) hX (HS.out.below hW).rd
    have hsm3 := fun W X e hX (hW : Below w.heap.size w W) => same_at (bs.take (n - 4)) (bs.take (n - 4)) (n - 4) (n - 4) X A e c W hpl hpl (by omega) hX (hpre.below hW).rd
    obtain ⟨p, hp⟩ : ∃ p, n = p + 4 := ⟨n - 4, by omega⟩
    subst hp
    rw [show p + 4 - 4 = p from by omega] at *
    have HRS2 := hid hrs2
    have HSM2 := hid hsm2
    have HSM3 := hid hsm3
    clear hrs2 hsm2 hsm3 hsl2 hpl hpre hb7 b6
    by_cases hq : C.sealB (bs.take p) = bs
    · rw [if_pos hq] at hE
      rw [hE] at hor
      have hd : decide (C.sealB (bs.take p) = bs) = true := by simpa using hq
      have HD := hid hd
      clear hd hq
      rcases hor with ⟨-, v, rfl, ho⟩ | ⟨h, -⟩
      · obtain ⟨A7, c7, rfl, -, hs7⟩ := Sl.of_own ho
        clear ho hE
        go_wp2_with fail
        refine (HRS2.out _ b7).mono ?_
        rintro e w8 ⟨v8, rfl, ho8, hb8⟩
        obtain ⟨A8, c8, rfl, -, hs8⟩ := Sl.of_own ho8
        have b8 := bw_t b7 hb8
        have hs7 := hs7.below hb8
        clear ho8 hb8 b7
        go_wp2_with fail
        refine (HSM2.out _ _ _ hs8.rd b8).mono ?_
        rw [HD.out]
        rintro e w9 ⟨rfl, k9, rfl⟩
        have b9 := bw_d b8 k9
        have hs7 := hs7.drewN k9
        clear hs8 b8
        go_wp2_with fail
        refine (HSM3.out _ _ _ hs7.rd b9).mono ?_
        rintro e w10 ⟨rfl, k10, rfl⟩
        have b10 := bw_d b9 k10
        clear hs7 b9
        go_wp2_with fail
        go_ret
        exact ⟨by simp, by have h := b10; simpa using h⟩
      · exact absurd rfl h
    · rw [if_neg hq] at hE
      rw [hE] at hor
      have hd : decide (C.sealB (bs.take p) = bs) = false := by simpa using hq
      have HD := hid hd
      clear hd hq
      rcases hor with ⟨h, -⟩ | ⟨-, rfl⟩
      · exact absurd h (by omega)
      · clear hE
        go_wp2_with fail
        refine (HRS2.out _ b7).mono ?_
        rintro e w8 ⟨v8, rfl, ho8, hb8⟩
        obtain ⟨A8, c8, rfl, -, hs8⟩ := Sl.of_own ho8
        have b8 := bw_t b7 hb8
        clear ho8 hb8 b7
        go_wp2_with fail
        refine (HSM2.out _ _ _ hs8.rd b8).mono ?_
        rw [HD.out]
        rintro e w9 ⟨rfl, k9, rfl⟩
        have b9 := bw_d b8 k9
        clear hs8 b8
        go_wp2_with fail
        go_ret
        exact ⟨rfl, b9⟩
end Go.Proofs.Ytolafcmaikjioaa
