/- The walk of WholeNested. -/
import Derived.Test.YtgpkjlaplmdnaaaRsLive
import Derived.Test.YtgpkjlaplmdnaaaRsM5
set_option linter.unusedVariables false
namespace Go.Proofs.Ytgpkjlaplmdnaaa
open Go.RowKit
set_option maxRecDepth 100000 in
theorem stands_yes (l : List Nat) (n : Nat) (p : Nat) (A : Option Addr) (c : Nat) (w : World) (hn : l.length = n) (hl : n ≤ 1000000) (hp : p ∈ l) (hs : SlN w A n c 1 (l.map iv)) :
    Calls Try.prog 38 #[.slice A n c, .int .i64 (p : Int)] w fun e w' => e = .returned (.bool true) ∧ Below w.heap.size w w' := by
  obtain ⟨j, hj, hjp⟩ := List.getElem_of_mem hp
  have HN := hid hn
  have HS := hid hs
  have HJ := hid hjp
  have hjn : j < n := by omega
  have hcap : n ≤ c := hs.cap
  clear hn hs hjp hp
  go_enter Try.func38, Try.ntmps38
  go_wp2_with fail
  go_loop [5] (fun i => ∃ k : Nat, k ≤ j ∧ i = .int .i64 (k : Int)) (fun i => n - (intOf i).toNat)
  case atStart => exact ⟨0, by omega, rfl⟩
  case round =>
    obtain ⟨k, hk, rfl⟩ := hrel
    have hkl : k < l.length := by have := HN.out; omega
    obtain ⟨b, off, rfl, hbl, t0⟩ := HS.out.rd k (iv l[k]) (by simp [hkl])
    simp only [iv] at t0
    have hki : (k : Int) < (n : Int) := by omega
    have hk0 : (0 : Int) ≤ (k : Int) := by omega
    by_cases hkj : l[k] = p
    · rw [hkj] at t0
      go_wp2_with fail
      go_ret
      exact ⟨rfl, Below.refl _ _⟩
    · have hlt : k < j := by
        rcases Nat.lt_or_eq_of_le hk with h | h
        · exact h
        · subst h; exact absurd HJ.out hkj
      have hne : ((l[k] : Int) == (p : Int)) = false := by simp; omega
      generalize l[k] = x at *
      go_wp2_with fail
      go_round
      case rel => exact ⟨k + 1, by omega, by go_num⟩
      case measure => simp [intOf]; omega
theorem Rs.whole_in {bs : List UInt8} {k p : Nat} (h : Fr.rE (bs.drop p) = 0) (hp : p < k) : p ∈ Rs.whole bs k := by
  unfold Rs.whole
  rw [List.mem_filter]
  exact ⟨by simpa using hp, by simpa using h⟩
theorem Fr.put_out (o t : UInt8) (p : List UInt8) : ∃ lo hi r, Fr.put o (Fr.put t p) = 197 :: 154 :: o :: lo :: hi :: (Fr.put t p ++ r) ∧ lo = b8 ((p.length + 9) % 256) ∧ hi = b8 ((p.length + 9) / 256) :=
  ⟨_, _, _, Fr.put_cons o (Fr.put t p), by rw [Fr.put_len], by rw [Fr.put_len]⟩
set_option maxRecDepth 100000 in
set_option maxHeartbeats 4000000 in
theorem wholeNested_any (t : Nat) (bs : List UInt8) (n : Nat) (A : Option Addr) (c : Nat) (o : Nat) (w : World) (ht : t ≤ 255) (ho : o ≤ 255) (hn : bs.length = n) (hS : Sl w A c (bs.map bv)) :
    Calls Try.prog 12 #[.agg #[.int .u8 (t : Int), .slice A n c], .int .u8 (o : Int)] w fun e w' => e = .returned (.bool true) ∧ Below w.heap.size w w' := by
  have hcap : n ≤ 9223372036854775807 := by have h1 := hS.cap; have h2 := hS.small; rw [List.length_map] at h1; omega
  obtain ⟨W0, hW0⟩ : ∃ W0, W0 = (w.alloc (.cells #[.int .u8 (t : Int), .slice A n c] 24)) := ⟨_, rfl⟩
  have hk0 : Blk W0 w.heap.size 24 #[.int .u8 (t : Int), .slice A n c] := by rw [hW0]; exact Blk.new w _ _
  have hb0 : Below w.heap.size w W0 := by rw [hW0]; exact bw_a (Below.refl _ w) _
  have hsz0 : W0.heap.size = w.heap.size + 1 := by rw [hW0, World.size_alloc]
  have HL := hid (awake7_any W0)
  have hbox : ∀ W, Below W0.heap.size W0 W → Blk W w.heap.size 24 #[.int .u8 (t : Int), .slice A n c] := fun W h => hk0.below h hk0.lt
  have HW0 := hid hW0
  have HBOX := hid hbox
  have HB0 := hid hb0
  by_cases hbig : 500 < n
  · clear hn hS hk0 hbox hb0
    go_enter Try.func12, Try.ntmps12
    go_wp2_with fail
    rw [← HW0.out]
    refine HL.out.mono ?_
    rintro e w1 ⟨rfl, hb1⟩
    have hk := HBOX.out w1 hb1
    have x1 := hk.cell 1
    simp only [List.getElem?_toArray, List.getElem?_cons_zero, List.getElem?_cons_succ] at x1
    have hkl := hk.lt
    go_wp2_with fail
    go_ret
    exact ⟨rfl, HB0.out.trans (hb1.mono HB0.out.size)⟩
  obtain ⟨T, hT⟩ : ∃ T : UInt8, T.toNat = t := ⟨UInt8.ofNat t, by rw [UInt8.toNat_ofNat']; omega⟩
  obtain ⟨O, hO⟩ : ∃ O : UInt8, O.toNat = o := ⟨UInt8.ofNat o, by rw [UInt8.toNat_ofNat']; omega⟩
  obtain ⟨N1, hN1⟩ : ∃ k, n + 9 = k := ⟨_, rfl⟩
  obtain ⟨N2, hN2⟩ : ∃ k, N1 + 9 = k := ⟨_, rfl⟩
  have hp1 := fun W (hW : Below w.heap.size w W) => fput_any T bs n A c W hn (by omega) (hS.below hW)
  have hl1 : (Fr.put T bs).length = N1 := by rw [Fr.put_len]; omega
  have hl2 : (Fr.put O (Fr.put T bs)).length = N2 := by rw [Fr.put_len]; omega
  have hp2 := fun W A1 c1 h => fput_any O (Fr.put T bs) N1 A1 c1 W hl1 (by omega) h
  have hal := fun W A1 c1 h => (sall_any (Fr.put O (Fr.put T bs)) N2 A1 c1 W hl2 (by omega) h).mono (fun e w' h => AllR.go h (l := [⟨0, O, Fr.put T bs⟩]) (k := N2) (n := 1) (by
    have hx := Rs.rows_wk [(O, Fr.put T bs)] [] (by simp only [List.mem_singleton, forall_eq]; omega)
    simp only [Rs.rows, List.append_nil, List.nil_append, List.length_nil, Rs.at_] at hx
    rw [hx, hl2]) rfl)
  have hwh := fun W A1 c1 h => swhole_any (Fr.put O (Fr.put T bs)) N2 A1 c1 W hl2 (by omega) h
  obtain ⟨lo, hi, r, hpo, hlo, hhi⟩ := Fr.put_out O T bs
  rw [hn, hN1] at hlo hhi
  have hm0 : 0 ∈ Rs.whole (Fr.put O (Fr.put T bs)) N2 := Rs.whole_in (by
    have := (Fr.rE_put O (Fr.put T bs) [] (by omega)).1
    rwa [List.append_nil] at this) (by omega)
  have hm5 : 5 ∈ Rs.whole (Fr.put O (Fr.put T bs)) N2 := Rs.whole_in (by
    rw [hpo]
    exact (Fr.rE_put T bs r (by omega)).1) (by omega)
  have hwl := Rs.whole_len (Fr.put O (Fr.put T bs)) N2
  have hset : (Fr.put O (Fr.put T bs)).set 0 0 = 0 :: 154 :: O :: lo :: hi :: (Fr.put T bs ++ r) := by rw [hpo]; rfl
  have hN1p : ((N1 : Int) == 0) = false := by simp; omega
  have hst := fun W A1 c1 p (hp : p ∈ Rs.whole (Fr.put O (Fr.put T bs)) N2) h => stands_yes (Rs.whole (Fr.put O (Fr.put T bs)) N2) (Rs.whole (Fr.put O (Fr.put T bs)) N2).length p A1 c1 W rfl (by omega) hp h
  have hst0 := fun W A1 c1 h => hst W A1 c1 0 hm0 h
  have hst5 := fun W A1 c1 h => hst W A1 c1 5 hm5 h
  rw [hO] at hp2
  rw [hT] at hp1
  rw [hN1] at hp1
  rw [hN2] at hp2
  generalize (Rs.whole (Fr.put O (Fr.put T bs)) N2) = wh at *
  obtain ⟨nw, hnw⟩ : ∃ k, wh.length = k := ⟨_, rfl⟩
  rw [hnw] at hst0 hst5 hwh hwl
  have HP1 := hid hp1
  have HP2 := hid hp2
  have HAL := hid hal
  have HWH := hid hwh
  have HST0 := hid hst0
  have HST5 := hid hst5
  have HS := hid hS
  have HN := hid hn
  have HT := hid hT
  have HO := hid hO
  have HL2 := hid hl2
  have HSET := hid hset
  have HLO := hid hlo
  have HHI := hid hhi
  have hsz1 := hb0.size
  have hN2p : 0 < N2 := by omega
  have hN1b : N1 ≤ 509 := by omega
  have hN2b : N2 ≤ 518 := by omega
  clear hp1 hp2 hal hwh hst hst0 hst5 hS hn hT hO hl1 hl2 hset hpo hlo hhi hm0 hm5 hnw hN1 hN2 hk0 hbox hb0
  go_enter Try.func12, Try.ntmps12
  go_wp2_with fail
  rw [← HW0.out]
  refine HL.out.mono ?_
  rintro e w1 ⟨rfl, hb1⟩
  have hk := HBOX.out w1 hb1
  have x0 := hk.cell 0
  have x1 := hk.cell 1
  simp only [List.getElem?_toArray, List.getElem?_cons_zero, List.getElem?_cons_succ] at x0 x1
  have hkl := hk.lt
  clear hk
  go_wp2_with fail
  refine (HP1.out _ (HB0.out.trans (hb1.mono HB0.out.size))).mono ?_
  rintro e w2 ⟨v2, rfl, ho2, hb2⟩
  obtain ⟨A2, c2, rfl⟩ := row_slice_g ho2
  have B2 := bw_t hb1 hb2
  have hs2 := Sl.of_own'' ho2
  clear hb1 hb2 ho2 x0 x1 hkl
  go_wp2_with fail
  refine (HP2.out _ _ _ hs2).mono ?_
  rintro e w3 ⟨v3, rfl, ho3, hb3⟩
  obtain ⟨g, c3, cur, rfl, hgB, hc3, hcm, hsl, hrow⟩ := RowB.of_own ho3 (by omega)
  have hs3 := hrow.sl (by rw [hsl]; exact hc3) hcm
  have B3 := bw_t B2 hb3
  have hgq : W0.heap.size ≤ g := by have := B2.size; omega
  clear B2 hb3 ho3 hs2
  go_wp2_with fail
  refine (HAL.out _ _ _ hs3).mono ?_
  rintro e w4 ⟨A4, c4, rfl, hrow4, hb4⟩
  have B4 := bw_t B3 hb4
  have hs4 := hs3.below hb4
  have hrowB4 := hrow.blk.below hb4 hrow.blk.lt
  clear B3 hs3
  go_wp2_with fail
  refine (HWH.out _ _ _ hs4).mono ?_
  rintro e w5 ⟨v5, rfl, ho5, hb5⟩
  obtain ⟨A5, c5, rfl⟩ := row_slice_g ho5
  have hr5 := own_slg (by omega) ho5
  have B5 := bw_t B4 hb5
  obtain ⟨b4, o4, P4, q4, rfl, hb4', s0, s1, s2, -, hc4, -⟩ := (hrow4.below hb5).get rfl 0 (by simp)
  simp only [List.getElem_cons_zero, HO.out, Nat.zero_mul, Nat.add_zero] at s0 s1
  have hrow5 : RowB w5 g cur (Fr.put O (Fr.put T bs)) := ⟨hrowB4.below hb5 hrowB4.lt, hrow.len, hrow.get⟩
  clear B4 hb4 hb5 ho5 hs4 hrow4 hrowB4 hrow s2
  have HR5 := hid hr5
  have HROW5 := hid hrow5
  have HB5 := hid B5
  clear hr5 hrow5 B5
  go_wp2_with fail
  refine (HST0.out _ _ _ HR5.out).mono ?_
  rintro e w6 ⟨rfl, hb6⟩
  have hr6 := HR5.out.below hb6
  have HB6 := hid (bw_t HB5.out hb6)
  have hk6 := HROW5.out.blk.below hb6 HROW5.out.blk.lt
  have HROW6 : Hid (RowB w6 g cur (Fr.put O (Fr.put T bs))) := hid ⟨hk6, HROW5.out.len, HROW5.out.get⟩
  clear hb6 hk6
  go_wp2_with fail
  refine (HST5.out _ _ _ hr6).mono ?_
  rintro e w7 ⟨rfl, hb7⟩
  have HB7 := hid (bw_t HB6.out hb7)
  have hk7 := HROW6.out.blk.below hb7 HROW6.out.blk.lt
  have HROW7 : Hid (RowB w7 g cur (Fr.put O (Fr.put T bs))) := hid ⟨hk7, HROW6.out.len, HROW6.out.get⟩
  clear hb7 hk7 hr6
  by_cases ho1 : o = 197
  · subst ho1
    go_wp2_with fail
    go_ret
    exact ⟨rfl, HB0.out.trans (HB7.out.mono HB0.out.size)⟩
  have ho2 : ((o : Int) == 197) = false := by simp; omega
  by_cases hn1 : N1 % 256 = 197
  · have hn2 : ((N1 : Int) % 256 == 197) = true := by simp; omega
    go_wp2_with fail
    go_ret
    exact ⟨rfl, HB0.out.trans (HB7.out.mono HB0.out.size)⟩
  have hn2 : ((N1 : Int) % 256 == 197) = false := by simp; omega
  have hOne : O ≠ 197 := by intro h; apply ho1; rw [← HO.out, h]; rfl
  have hlo1 : lo ≠ 197 := by
    rw [HLO.out]; intro h
    have h2 := congrArg UInt8.toNat h
    rw [b8_toNat (by omega)] at h2
    exact hn1 h2
  have hhi1 : hi ≠ 197 := by
    rw [HHI.out]; intro h
    have h2 := congrArg UInt8.toNat h
    rw [b8_toNat (by omega)] at h2
    have h3 : (197 : UInt8).toNat = 197 := rfl
    omega
  obtain ⟨lr, hlr⟩ := Rs.nested T O lo hi bs r (by have := HN.out; omega) hOne hlo1 hhi1
  have hlen3 : (0 :: 154 :: O :: lo :: hi :: (Fr.put T bs ++ r)).length = N2 := by rw [← HSET.out, List.length_set]; exact hsl
  have hal3 := fun W A1 c1 h => (sall_any (0 :: 154 :: O :: lo :: hi :: (Fr.put T bs ++ r)) N2 A1 c1 W hlen3 (by omega) h).mono (fun e w' h => AllR.go h (l := ⟨5, T, bs⟩ :: lr) (n := lr.length + 1) (by rw [← hlr]) rfl)
  have hrow8 := HROW7.out.set_ 0 0
  rw [HSET.out] at hrow8
  have hs8 := hrow8.sl (by rw [hlen3]; exact hc3) hcm
  have hge := HROW7.out.get 0 (by omega)
  have c0 := HROW7.out.blk.cell 0
  rw [hge] at c0
  have f0 := HROW7.out.blk.frozen 0
  have hgl := HROW7.out.blk.lt
  have hc0 : (Fr.put O (Fr.put T bs))[0]'(by omega) = 197 := by simp only [Fr.put_cons, List.getElem_cons_zero]
  rw [hc0] at c0
  have hb8 : Below W0.heap.size W0 (w7.setCell ⟨g, 0, none⟩ (.int .u8 0)) := HB7.out.setCell (p := ⟨g, 0, none⟩) hgq _
  have HAL3 := hid hal3
  have HS8 := hid hs8
  have HB8 := hid hb8
  obtain ⟨nr, hnr⟩ : ∃ k, lr.length + 1 = k := ⟨_, rfl⟩
  rw [hnr] at hal3
  have HAL3 := hid hal3
  have hnr1 : 0 < nr := by omega
  clear hlr hal3 hrow8 hs8 hge hc0 hb8
  simp only [bv, show ((197 : UInt8).toNat : Int) = 197 from rfl] at c0
  go_wp2_with fail
  refine (HAL3.out _ _ _ HS8.out).mono ?_
  rintro e w9 ⟨A9, c9, rfl, hrow9, hb9⟩
  have B9 := HB8.out.trans (hb9.mono HB8.out.size)
  obtain ⟨b9, o9, P9, q9, rfl, hb9', s0, s1, s2, hp9, hc9, -⟩ := hrow9.get (by simpa using hnr) 0 (by simp)
  simp only [List.getElem_cons_zero, HN.out, HT.out, Nat.zero_mul, Nat.add_zero] at s0 s1 s2 hp9
  have hbx := HBOX.out _ B9
  have y0 := hbx.cell 0
  have y1 := hbx.cell 1
  simp only [List.getElem?_toArray, List.getElem?_cons_zero, List.getElem?_cons_succ] at y0 y1
  have hbl := hbx.lt
  have hsame := fun W (hW : Below w9.heap.size w9 W) => (fsame_any T T bs bs n n P9 A q9 c W HN.out HN.out (hp9.sl.below hW) (HS.out.below ((HB0.out.trans (B9.mono HB0.out.size)).trans (hW.mono (Nat.le_trans HB0.out.size B9.size))))).mono (fun e w' h => (show e = .returned (.bool true) ∧ Below W.heap.size W w' from ⟨by rw [h.1]; simp, h.2⟩))
  rw [HT.out] at hsame
  have HSM := hid hsame
  have HB9 := hid B9
  have HBR := hid (Below.refl w9.heap.size w9)
  clear hsame B9 hb9 hrow9 hp9 hbx
  go_wp2_with fail
  go_region_held3 (fun w' => w'.cell? ⟨b9, o9, none⟩ = some (.int .i64 5) ∧ w'.cell? ⟨b9, o9 + 1, none⟩ = some (.int .u8 (t : Int)) ∧ w'.cell? ⟨b9, o9 + 2, none⟩ = some (.slice P9 n q9) ∧ w'.cell? ⟨w.heap.size, 0, none⟩ = some (.int .u8 (t : Int)) ∧ w'.cell? ⟨w.heap.size, 1, none⟩ = some (.slice A n c)) (first | exact ⟨s0, s1, s2, y0, y1⟩ | exact ⟨z0, z1, z2, z3, z4⟩ | go_keep) (first | (go_at_call 20; (with_reducible refine (HSM.out _ (below_drew' HBR.out)).mono ?_); rintro e w10 ⟨rfl, hb10⟩; have hbq := (below_drew' (Below.refl _ w9)).trans hb10; have z0 := (hbq.cell (p := ⟨b9, o9, none⟩) hb9').trans s0; have z1 := (hbq.cell (p := ⟨b9, o9 + 1, none⟩) hb9').trans s1; have z2 := (hbq.cell (p := ⟨b9, o9 + 2, none⟩) hb9').trans s2; have z3 := (hbq.cell (p := ⟨w.heap.size, 0, none⟩) hbl).trans y0; have z4 := (hbq.cell (p := ⟨w.heap.size, 1, none⟩) hbl).trans y1; have HB10 := hid hbq; clear hb10 hbq))
  go_wp2_with fail
  go_ret
  exact ⟨rfl, (HB0.out.trans (HB9.out.mono HB0.out.size)).trans (HB10.out.mono (Nat.le_trans HB0.out.size HB9.out.size))⟩
end Go.Proofs.Ytgpkjlaplmdnaaa
