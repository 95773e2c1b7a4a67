/- The walk of SkipEnds. -/
import Derived.Test.YtfbmdeegcoocnaaSkAgain
import Derived.Test.YtfbmdeegcoocnaaRefOne
set_option linter.unusedVariables false
namespace Go.Proofs.Ytfbmdeegcoocnaa
open Go.RowKit
set_option maxRecDepth 100000 in
set_option maxHeartbeats 4000000 in
theorem skipEnds_any (bs : List UInt8) (n : Nat) (A : Option Addr) (c : Nat) (at_ : Int) (w : World) (hn : bs.length = n) (ha1 : -9223372036854775808 ≤ at_) (ha2 : at_ ≤ 9223372036854775807) (hS : Sl w A c (bs.map bv)) :
    Calls Try.prog 4 #[.slice A n c, .int .i64 at_] w fun e w' => e = .returned (.bool true) ∧ Below w.heap.size w w' := by
  have hcap : n ≤ 9223372036854775807 := by have h1 := hS.cap; have h2 := hS.small; rw [List.length_map] at h1; omega
  have hlive := live6_any w
  by_cases hbig : 1000 < n
  · have HL := hid hlive
    clear hlive hn hS
    go_enter Try.func4, Try.ntmps4
    go_wp2_with fail
    refine HL.out.mono ?_
    rintro e w1 ⟨rfl, hb1⟩
    go_wp2_with fail
    go_ret
    exact ⟨rfl, hb1⟩
  by_cases hout : at_ < 0 ∨ (n : Int) ≤ at_
  · have hso := fun W => send_out n A c at_ W hcap hout
    have HL := hid hlive
    have HSO := hid hso
    clear hlive hso hn hS
    by_cases hneg : at_ < 0
    · clear hout
      go_enter Try.func4, Try.ntmps4
      go_wp2_with fail
      refine HL.out.mono ?_
      rintro e w1 ⟨rfl, hb1⟩
      go_wp2_with fail
      refine (HSO.out _).mono ?_
      rintro e w2 ⟨rfl, hb2⟩
      go_wp2_with fail
      go_ret
      exact ⟨rfl, bw_a (bw_t hb1 hb2) _⟩
    · have hge : (n : Int) ≤ at_ := by omega
      clear hout
      go_enter Try.func4, Try.ntmps4
      go_wp2_with fail
      refine HL.out.mono ?_
      rintro e w1 ⟨rfl, hb1⟩
      go_wp2_with fail
      refine (HSO.out _).mono ?_
      rintro e w2 ⟨rfl, hb2⟩
      go_wp2_with fail
      go_ret
      exact ⟨rfl, bw_a (bw_t hb1 hb2) _⟩
  obtain ⟨p, rfl⟩ : ∃ p : Nat, at_ = (p : Int) := ⟨at_.toNat, by omega⟩
  have hpn : p < n := by omega
  have hpi : (p : Int) < (n : Int) := by omega
  have hp0 : (0 : Int) ≤ (p : Int) := by omega
  have hend := fun W k (hk : k < n) (hW : Below w.heap.size w W) => send_at bs n A c k W hn (by omega) hk (hS.below hW)
  have hfl := fun W (hW : Below w.heap.size w W) => (callsIn_wide (n := 4)).1 (fields_in 4 (by omega) bs n A c W hn (by omega) (hS.below hW))
  have hat := flds_at bs n 0
  have hrd := fun fs => read_ok bs n 0 fs (by omega)
  have hone := fun W q (h : Rin 36 W q A c bs p) => rone_any W q A c bs p (by omega) h
  have HL := hid hlive
  have HEND := hid hend
  have HFL := hid hfl
  have HAT := hid hat
  have HRD := hid hrd
  have HONE := hid hone
  have HS := hid hS
  have HN := hid hn
  clear hlive hend hfl hat hrd hone hS hn hout
  go_enter Try.func4, Try.ntmps4
  go_wp2_with fail
  refine HL.out.mono ?_
  rintro e w1 ⟨rfl, hb1⟩
  go_wp2_with fail
  refine (HEND.out _ p hpn hb1).mono ?_
  rintro e w2 ⟨hor, hb2⟩
  have b2 := bw_t hb1 hb2
  clear hb1 hb2
  have hone := fun W q h => HONE.out W q h
  have hend := fun W hW => HEND.out W p hpn hW
  generalize hr1 : rOne bs p = r at *
  obtain ⟨rnum, rw', rn, rxs, re, rp, rnx⟩ := r
  simp only at hor hone
  have HONE2 := hid hone
  clear hone hend
  by_cases he : re = 0
  · subst he
    rcases hor with ⟨-, rfl⟩ | ⟨h, -⟩
    rotate_left
    · exact absurd rfl h
    go_wp2_with fail
    obtain ⟨z, hz⟩ : ∃ z, w2.heap.size = z := ⟨_, rfl⟩
    obtain ⟨Wa, hWa⟩ : ∃ Wa, (w2.alloc (.cells #[.int .i64 0, .int .i64 0] 27)).alloc (.cells #[.slice A n c, .int .i64 (p : Int)] 36) = Wa := ⟨_, rfl⟩
    have hk0 : Blk Wa z 27 #[.int .i64 0, .int .i64 0] := by rw [← hWa, ← hz]; exact (Blk.new w2 _ _).alloc _
    have hk1 : Blk Wa (z + 1) 36 #[.slice A n c, .int .i64 (p : Int)] := by
      have h := Blk.new (w2.alloc (.cells #[.int .i64 0, .int .i64 0] 27)) 36 #[.slice A n c, .int .i64 (p : Int)]
      rwa [World.size_alloc, hz, hWa] at h
    have hba : Below w.heap.size w Wa := by rw [← hWa]; exact bw_a (bw_a b2 _) _
    have hbz : w.heap.size ≤ z := by have := b2.size; omega
    have hr0 : Rin 36 Wa (z + 1) A c bs p := ⟨by rw [HN.out]; exact hk1, HS.out.below hba, by have := HN.out; omega, far_new HS.out (by omega)⟩
    rw [hWa, hz]
    refine (HONE2.out _ _ hr0).mono ?_
    rintro e w3 ⟨(⟨-, A3, c3, rfl, -, -⟩ | ⟨h, -⟩), hr3, ho3⟩
    rotate_left
    · exact absurd rfl h
    have m0 := ho3.blk hk0 (by omega)
    have m1 := hr3.blk
    have d0 := m0.cell 0
    have d1 := m0.cell 1
    have e1 := m1.cell 1
    simp only [List.getElem?_toArray, List.getElem?_cons_zero, List.getElem?_cons_succ] at d0 d1 e1
    have b3 := hba.trans (ho3.below (B := w.heap.size) (by omega) hba.size)
    have hl0 := m0.lt
    have hl1 := m1.lt
    have B3 := hid b3
    clear hk0 hk1 hr0 hWa hba hr3 ho3 m0 m1 b3 b2
    go_wp2_with fail
    have b3a := bw_a (bw_a B3.out (.cells #[.int .i64 rnum, .int .u8 rw', .int .u64 (rn : Int), .slice A3 rxs.length c3, .int .i64 (p : Int)] 39)) (.cells #[.int .i64 0, .int .i64 0] 27)
    refine (HFL.out _ b3a).mono ?_
    rintro e w5 ⟨hor5, hb5⟩
    have b5 := bw_t b3a hb5
    have B5 := hid b5
    clear b3a hb5 b5 d0 d1 e1
    rcases hor5 with ⟨he5, v, b, pre, rfl, -, ho, hfa, -⟩ | ⟨he5, rfl⟩
    · obtain ⟨Al, cl, rfl, hsn⟩ := sln_own (by omega) ho
      have hlen := fvAll_len hfa
      obtain ⟨hpl, -⟩ := HRD.out pre hfa
      rw [HN.out] at hpl
      have hsn6 := hsn.below (bw_a (Below.refl w5.heap.size w5) (.cells #[.int .i64 0, .int .i64 0] 27))
      have hk6 := Blk.new w5 27 #[.int .i64 0, .int .i64 0]
      have hb6 := bw_a (Below.refl w5.heap.size w5) (.cells #[.int .i64 0, .int .i64 0] 27)
      have HSN := hid hsn6
      have HK6 := hid hk6
      have HFA := hid hfa
      have HLEN := hid hlen
      clear ho hsn hsn6 hk6 hfa hlen he5
      generalize hpm : pre.length = m at *
      have HPM := hid hpm
      clear hpm
      go_wp2_with fail
      obtain ⟨W6, hW6⟩ : ∃ W6, w5.alloc (.cells #[.int .i64 0, .int .i64 0] 27) = W6 := ⟨_, rfl⟩
      rw [hW6] at HSN HK6 hb6 ⊢
      have HB6 := hid (B5.out.trans (hb6.mono B5.out.size))
      clear hW6 hb6
      go_loopw [12, 13, 14] (fun k _ _ wr => ∃ j : Nat, j ≤ m ∧ k = .int .i64 (j : Int) ∧ Below W6.heap.size W6 wr) (fun k _ _ _ => m - (intOf k).toNat)
      case atStart => exact ⟨0, by omega, rfl, Below.refl _ _⟩
      case round =>
        obtain ⟨j, hj, rfl, hB⟩ := hrel
        have hk := HK6.out.below hB HK6.out.lt
        have d0 := hk.cell 0
        simp only [List.getElem?_toArray, List.getElem?_cons_zero] at d0
        have hlk := hk.lt
        have hbw := HB6.out.trans (hB.mono HB6.out.size)
        by_cases hlt : j + 1 < m
        · have hj1 : j < pre.length := by have := HPM.out; omega
          have hj2 : j + 1 < pre.length := by have := HPM.out; omega
          have hr1' : j < (flds bs n 0).1.length := by have := HLEN.out; have := HPM.out; omega
          have hr2' : j + 1 < (flds bs n 0).1.length := by have := HLEN.out; have := HPM.out; omega
          have hn1 : (pre.flatMap fvC)[j * 5 + 4]? = _ := flatMap_get fvC 5 pre j 4 hj1 (fun _ _ => rfl) (by omega)
          have hn2 : (pre.flatMap fvC)[(j + 1) * 5 + 4]? = _ := flatMap_get fvC 5 pre (j + 1) 4 hj2 (fun _ _ => rfl) (by omega)
          have hf1 := fvAll_get HFA.out j hj1 hr1'
          have hf2 := fvAll_get HFA.out (j + 1) hj2 hr2'
          obtain ⟨g1, g2, g3, g4⟩ := at_get HAT.out j hr1'
          have g5 := g4 hr2'
          have hend := HEND.out wr ((flds bs n 0).1[j]).2 (by rw [HN.out] at g1; exact g1) hbw
          rw [← g5] at hend
          obtain ⟨q1, hq1⟩ : ∃ q1, ((flds bs n 0).1[j]).2 = q1 := ⟨_, rfl⟩
          obtain ⟨q2, hq2⟩ : ∃ q2, ((flds bs n 0).1[j + 1]).2 = q2 := ⟨_, rfl⟩
          rw [hq1] at hend g1 g3
          rw [hq2] at hend
          have ha1 : pre[j].at_ = (q1 : Int) := by rw [← hq1]; exact hf1.2.2.2.2
          have ha2 : pre[j + 1].at_ = (q2 : Int) := by rw [← hq2]; exact hf2.2.2.2.2
          obtain ⟨b0, off, rfl, hbl, t1⟩ := HSN.out.rd _ _ hn1
          have t2 := HSN.out.rd.addr _ _ hn2
          rw [addr_add] at t2
          simp only [ha1, ha2, ← Nat.add_assoc] at t1 t2
          have t1 := (hB.cell (p := ⟨b0, off + j * 5 + 4, none⟩) hbl).trans t1
          have t2 := (hB.cell (p := ⟨b0, off + (j + 1) * 5 + 4, none⟩) hbl).trans t2
          have hji : (j : Int) + 1 < (m : Int) := by omega
          have hj0 : (0 : Int) ≤ (j : Int) := by omega
          have HE := hid hend
          have HG3 := hid g3
          have HB := hid hB
          have HBW := hid hbw
          clear hn1 hn2 hf1 hf2 g2 g4 g5 hend hq1 hq2 ha1 ha2 hB hbw g3 hk
          go_wp2_with fail
          refine HE.out.mono ?_
          rintro e w7 ⟨(⟨-, rfl⟩ | ⟨h, -⟩), hb7⟩
          rotate_left
          · exact absurd HG3.out h
          have hbl7 : b0 < wr.heap.size := Nat.lt_of_lt_of_le hbl HB.out.size
          have t2 := (hb7.cell (p := ⟨b0, off + (j + 1) * 5 + 4, none⟩) hbl7).trans t2
          have d0 := (hb7.cell (p := ⟨w5.heap.size, 0, none⟩) hlk).trans d0
          have hl7 := hb7.size
          have hlk7 : w5.heap.size < w7.heap.size := by omega
          have hbl8 : b0 < w7.heap.size := by omega
          have HB7 := hid (HB.out.trans (hb7.mono HB.out.size))
          clear t1 hb7
          go_wp2_with fail
          go_roundw
          case rel => exact ⟨j + 1, by omega, by go_num, bw_a HB7.out _⟩
          case measure => simp [intOf] <;> omega
        · go_wp2_with fail
          go_ret
          exact ⟨rfl, hbw⟩
    · go_wp2_with fail
      have hB5 := bw_a B5.out (.cells #[.int .i64 ((flds bs n 0).2.1 : Nat), .int .i64 ((flds bs n 0).2.2 : Nat)] 27)
      go_loopw [12, 13, 14] (fun k _ _ wr => k = .int .i64 0 ∧ Below w.heap.size w wr) (fun _ _ _ _ => 0)
      case atStart => exact ⟨rfl, hB5⟩
      case round =>
        obtain ⟨rfl, hB⟩ := hrel
        go_wp2_with fail
        go_ret
        exact ⟨rfl, hB⟩
  · rcases hor with ⟨h, -⟩ | ⟨-, rfl⟩
    · exact absurd h he
    go_wp2_with fail
    obtain ⟨z, hz⟩ : ∃ z, w2.heap.size = z := ⟨_, rfl⟩
    obtain ⟨Wa, hWa⟩ : ∃ Wa, (w2.alloc (.cells #[.int .i64 (re : Int), .int .i64 (rp : Int)] 27)).alloc (.cells #[.slice A n c, .int .i64 (p : Int)] 36) = Wa := ⟨_, rfl⟩
    have hk0 : Blk Wa z 27 #[.int .i64 (re : Int), .int .i64 (rp : Int)] := by rw [← hWa, ← hz]; exact (Blk.new w2 _ _).alloc _
    have hk1 : Blk Wa (z + 1) 36 #[.slice A n c, .int .i64 (p : Int)] := by
      have h := Blk.new (w2.alloc (.cells #[.int .i64 (re : Int), .int .i64 (rp : Int)] 27)) 36 #[.slice A n c, .int .i64 (p : Int)]
      rwa [World.size_alloc, hz, hWa] at h
    have hba : Below w.heap.size w Wa := by rw [← hWa]; exact bw_a (bw_a b2 _) _
    have hbz : w.heap.size ≤ z := by have := b2.size; omega
    have hr0 : Rin 36 Wa (z + 1) A c bs p := ⟨by rw [HN.out]; exact hk1, HS.out.below hba, by have := HN.out; omega, far_new HS.out (by omega)⟩
    rw [hWa, hz]
    refine (HONE2.out _ _ hr0).mono ?_
    rintro e w3 ⟨(⟨h, -⟩ | ⟨-, rfl⟩), hr3, ho3⟩
    · exact absurd h he
    have m0 := ho3.blk hk0 (by omega)
    have d0 := m0.cell 0
    have d1 := m0.cell 1
    simp only [List.getElem?_toArray, List.getElem?_cons_zero, List.getElem?_cons_succ] at d0 d1
    have b3 := hba.trans (ho3.below (B := w.heap.size) (by omega) hba.size)
    have hl0 := m0.lt
    have B3 := hid b3
    have heb : (((re : Nat) : Int) != 0) = true := by simpa using he
    clear hk0 hk1 hr0 hWa hba hr3 ho3 m0 b3 b2
    go_wp2_with fail
    go_ret
    exact ⟨rfl, bw_a (bw_a B3.out _) _⟩
end Go.Proofs.Ytfbmdeegcoocnaa
