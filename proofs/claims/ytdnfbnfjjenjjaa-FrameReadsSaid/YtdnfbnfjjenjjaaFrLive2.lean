/- What must be whatever is asked: layer 13: the walk. -/
import Derived.Test.YtdnfbnfjjenjjaaFrLive
set_option linter.unusedVariables false
namespace Go.Proofs.Ytdnfbnfjjenjjaa
open Go.RowKit
set_option maxRecDepth 100000 in
set_option maxHeartbeats 1000000 in
theorem live13_any (w : World) : Calls Try.prog 6 #[] w fun e w' => e = .returned (.bool true) ∧ Below w.heap.size w w' := by
  obtain ⟨i0, hi, hz0, hz1, hz2⟩ := info_parts Try.info5
  have HSAME := hid (fun W A B c d hA hB => fsame_any 1 1 [8, 1] [8, 1] 2 2 A B c d W rfl rfl hA hB)
  go_enter Try.func6, Try.ntmps6
  go_wp2_with fail
  refine (l13_put w).mono ?_
  rintro e w1 ⟨A1, c1, rfl, ho1, hb1⟩
  have HOW := hid (own_below ho1 (bw_a (Below.refl _ w1) (.cells #[.int .u8 1] 5)))
  have HL1 := hid (lit_sl w1 5 [1] #[.int .u8 1] 1 rfl (by omega) rfl)
  have HB1 := hid (bw_a hb1 (.cells #[.int .u8 1] 5))
  clear ho1 hb1
  go_wp2_with (at_builtin; refine wpList_append_rd rfl (.tmp 25) (.tmp 26) 22 rfl w.heap.size 5 i0 (.int .u8 0) 1 1 Try.underlying22 hi hz0 hz1 hz2 rfl (by decide) _ _ _ rfl HOW.out (some ⟨w1.heap.size, 0, none⟩) 1 1 (([1] : List UInt8).map bv) rfl rfl HL1.out.rd HL1.out.nil0 (bv_one [1]) (by simp only [maxLen]; omega) (by omega) HB1.out.size ?_; intro v2 w2 hown2 hgrow2; have HO2 := hid hown2; have HB2 := hid (bw_g HB1.out hgrow2 (fun k ek => (HOW.out.lt k ek).1)); clear hown2 hgrow2)
  have ho2 := HO2.out
  rw [← List.map_append] at ho2
  obtain ⟨A2, c2, rfl, -, hs2⟩ := Sl.of_own ho2
  refine (l13_r1 w2 A2 c2 hs2).mono ?_
  rintro e w3 ⟨A3, c3, rfl, hb3⟩
  have HB3 := hid (bw_t HB2.out hb3)
  clear ho2 hs2 hb3
  go_wp2_with fail
  refine (l13_r2 _ _ (by simp)).mono ?_
  rintro e w4 ⟨rfl, hb4⟩
  have hk3 := (Blk.new w3 24 #[.int .u8 8, .slice A3 0 c3]).below hb4 (by simp)
  have HB4 := hid (bw_t (bw_a HB3.out _) hb4)
  have HK3 := hid hk3
  clear hk3 hb4
  go_wp2_with fail
  refine (l13_r3 _ _ (by simp)).mono ?_
  rintro e w5 ⟨rfl, hb5⟩
  have hb45 := bw_t (bw_a (Below.refl _ w4) _) hb5
  have HK3b := hid (HK3.out.below hb45 HK3.out.lt)
  have HB5 := hid (bw_t HB4.out hb45)
  clear hb5 hb45
  go_wp2_with fail
  refine (l13_r4 _ _ (by simp)).mono ?_
  rintro e w6 ⟨rfl, hb6⟩
  have hb56 := bw_t (bw_a (Below.refl _ w5) _) hb6
  have HK3c := hid (HK3b.out.below hb56 HK3b.out.lt)
  have HB6 := hid (bw_t HB5.out hb56)
  clear hb6 hb56
  go_wp2_with fail
  refine (l13_of0 _).mono ?_
  rintro e w7 ⟨rfl, hb7⟩
  have hb67 := bw_t (bw_a (Below.refl _ w6) _) hb7
  have HK3d := hid (HK3c.out.below hb67 HK3c.out.lt)
  have HB7 := hid (bw_t HB6.out hb67)
  clear hb7 hb67
  go_wp2_with fail
  refine (l13_of1 _).mono ?_
  rintro e w8 ⟨A8, c8, rfl, hs8, hb8⟩
  have hb78 := bw_t (bw_a (bw_a (Below.refl _ w7) (.cells #[.int .u8 0, .slice none 0 0] 24)) (.cells #[.int .i64 7, .int .i64 0] 40)) hb8
  have hk16 := (Blk.new (w7.alloc (.cells #[.int .u8 0, .slice none 0 0] 24)) 40 #[.int .i64 7, .int .i64 0]).below hb8 (by simp)
  rw [World.size_alloc] at hk16
  have hk3 := HK3d.out.below hb78 HK3d.out.lt
  have HB8 := hid (bw_t HB7.out hb78)
  have hb9 := bw_a (bw_a (Below.refl _ w8) (.cells #[.int .u8 1, .slice A8 2 c8] 24)) (.cells #[.int .i64 0, .int .i64 0] 40)
  have hk18 := Blk.new (w8.alloc (.cells #[.int .u8 1, .slice A8 2 c8] 24)) 40 #[.int .i64 0, .int .i64 0]
  rw [World.size_alloc] at hk18
  have hl3 := hk3.lt
  have hl16 := hk16.lt
  have hl16' : w7.heap.size < w8.heap.size := by omega
  have d0 := hk3.cell 0
  have d1 := hk16.cell 0
  have d2 := hk16.cell 1
  simp only [List.getElem?_toArray, List.getElem?_cons_zero, List.getElem?_cons_succ] at d0 d1 d2
  have HS9 := hid (hs8.below hb9)
  have HB9 := hid (HB8.out.trans (hb9.mono HB8.out.size))
  have hl9 := lit_sl ((w8.alloc (.cells #[.int .u8 1, .slice A8 2 c8] 24)).alloc (.cells #[.int .i64 0, .int .i64 0] 40)) 5 [8, 1] #[.int .u8 8, .int .u8 1] 2 rfl (by omega) rfl
  simp only [World.size_alloc] at hl9
  have HL9 := hid hl9
  have HK18 := hid hk18
  clear hb8 hb78 hk16 hk3 hs8 hb9 hk18 hl9
  go_wp2_with fail
  refine (HSAME.out _ _ _ _ _ (HS9.out.below (bw_a (Below.refl _ _) _)) HL9.out).mono ?_
  rintro e w10 ⟨rfl, hb10⟩
  have hk18 := (HK18.out.alloc (.cells #[.int .u8 8, .int .u8 1] 5)).below hb10 (HK18.out.alloc _).lt
  have HB10 := hid (bw_t (bw_a HB9.out _) hb10)
  clear d0 d1 d2
  have d5 := hk18.cell 0
  have d6 := hk18.cell 1
  simp only [List.getElem?_toArray, List.getElem?_cons_zero, List.getElem?_cons_succ] at d5 d6
  have hl18 := hk18.lt
  clear hb10 hk18
  go_wp2_with (first | (go_at_call 8; (with_reducible refine (l13_s0 _).mono ?_); rintro e w' ⟨rfl, rfl⟩) | (go_at_call 8; (with_reducible refine (l13_s1 _).mono ?_); rintro e w' ⟨rfl, rfl⟩))
  go_ret
  exact ⟨by simp, HB10.out⟩
end Go.Proofs.Ytdnfbnfjjenjjaa
