/- The document's Bytes, Bare and Put of fields. -/
import Derived.Test.YtfbmdeegcoocnaaSkMath
import Derived.Test.YtfbmdeegcoocnaaM5
set_option linter.unusedVariables false
namespace Go.Proofs.Ytfbmdeegcoocnaa
open Go.RowKit
set_option maxRecDepth 100000 in
set_option maxHeartbeats 1000000 in
theorem rfb_any (f : FV) (w : World) (h : FvOk w f) (he : pErrF f = 0) (hx : f.s.xs.length ≤ 100000) :
    Calls Try.prog 55 #[.agg (fvC f).toArray] w fun e w' => ∃ A' c', e = .returned (.slice A' (pBF f).length c') ∧ Sl w' A' c' ((pBF f).map bv) ∧ Below w.heap.size w w' := by
  obtain ⟨hm, hw, hl⟩ := pErr_inv f he h.w0 h.w1
  obtain ⟨num, x, n, ⟨A, c, xs⟩, at_⟩ := f
  obtain ⟨h0, h1, hn, -, -, -, -, hs⟩ := h
  simp only at hm hw hl h0 h1 hn hs hx
  have hmf := mk_facts num x h0 h1
  have hmk := fun W => rmake_any num x W h0 h1
  obtain ⟨k, hk⟩ : ∃ k : Nat, (mk num x).1 = (k : Int) := ⟨(mk num x).1.toNat, by omega⟩
  have hk64 : k ≤ 18446744073709551615 := by omega
  have hpb : pBF ⟨num, x, n, ⟨A, c, xs⟩, at_⟩ = putN k ++ pTail x n xs := by
    show putN (mk num x).1.toNat ++ pTail x n xs = _
    rw [hk]; rfl
  rw [hpb]
  rw [hm, hk] at hmk
  have hk10 := putN_length10 hk64
  have hvp := fun W => rput_any k W hk64
  generalize hpp : putN k = P at *
  have HMK := hid hmk
  have HVP := hid hvp
  have HS := hid hs
  clear hmk hvp hs hmf hpb hk hpp hm he
  simp only [fvC, List.length_append]
  obtain ⟨xl, hxl⟩ : ∃ xl, xs.length = xl := ⟨_, rfl⟩
  rw [hxl] at hx hl
  rw [hxl]
  rcases hw with rfl | rfl | rfl | rfl
  · have hB0 := bw_a (Below.refl w.heap.size w) (.cells #[.int .i64 num, .int .u8 0, .int .u64 (n : Int), .slice A xl c, .int .i64 at_] 39)
    have ht : pTail 0 n xs = putN n := rfl
    rw [ht]
    have hl3 := putN_length10 hn
    have hT := fun W => rput_any n W hn
    generalize hq : putN n = Q at *
    have HT := hid hT
    clear hT hq ht
    go_enter Try.func55, Try.ntmps55
    go_wp2_with (go_at_call 53; refine (HMK.out _).mono ?_; rintro e w' ⟨rfl, rfl⟩)
    refine (HVP.out _).mono ?_
    rintro e w1 ⟨A1, c1, rfl, hs1, hb1⟩
    have b1 := bw_t hB0 hb1
    have hk1 := (Blk.new w 39 #[.int .i64 num, .int .u8 0, .int .u64 (n : Int), .slice A xl c, .int .i64 at_]).below hb1 (Blk.new w _ _).lt
    have d1 := hk1.cell 1
    have d2 := hk1.cell 2
    have d3 := hk1.cell 3
    simp only [List.getElem?_toArray, List.getElem?_cons_zero, List.getElem?_cons_succ] at d1 d2 d3
    have hlk := hk1.lt
    clear hk1 hb1 hB0
    go_wp2_with fail
    refine (HT.out _).mono ?_
    rintro e w2 ⟨A2, c2, rfl, hs2, hb2⟩
    have b2 := bw_t b1 hb2
    have hs12 := hs1.below hb2
    clear hb2 hs1 d1 d2 d3 b1
    go_wp2_with fail
    refine (rjoin2_any P Q P.length Q.length A1 A2 c1 c2 _ rfl rfl (by omega) hs12 hs2).mono ?_
    rintro e w3 ⟨A3, c3, rfl, hs3, -, hb3⟩
    go_wp2_with fail
    go_ret
    exact ⟨A3, c3, rfl, hs3, bw_t b2 hb3⟩
  · have hB0 := bw_a (Below.refl w.heap.size w) (.cells #[.int .i64 num, .int .u8 1, .int .u64 (n : Int), .slice A xl c, .int .i64 at_] 39)
    have ht : pTail 1 n xs = fixN 8 n := rfl
    rw [ht]
    have hl3 := length_fixN 8 n
    have hT := fun W => rfix_at n 8 8 W rfl hn (by omega)
    rw [hl3]
    generalize hq : fixN 8 n = Q at *
    have HT := hid hT
    clear hT hq ht
    go_enter Try.func55, Try.ntmps55
    go_wp2_with (go_at_call 53; refine (HMK.out _).mono ?_; rintro e w' ⟨rfl, rfl⟩)
    refine (HVP.out _).mono ?_
    rintro e w1 ⟨A1, c1, rfl, hs1, hb1⟩
    have b1 := bw_t hB0 hb1
    have hk1 := (Blk.new w 39 #[.int .i64 num, .int .u8 1, .int .u64 (n : Int), .slice A xl c, .int .i64 at_]).below hb1 (Blk.new w _ _).lt
    have d1 := hk1.cell 1
    have d2 := hk1.cell 2
    have d3 := hk1.cell 3
    simp only [List.getElem?_toArray, List.getElem?_cons_zero, List.getElem?_cons_succ] at d1 d2 d3
    have hlk := hk1.lt
    clear hk1 hb1 hB0
    go_wp2_with fail
    refine (HT.out _).mono ?_
    rintro e w2 ⟨A2, c2, rfl, hs2, hb2⟩
    have b2 := bw_t b1 hb2
    have hs12 := hs1.below hb2
    clear hb2 hs1 d1 d2 d3 b1
    go_wp2_with fail
    refine (rjoin2_any P Q P.length 8 A1 A2 c1 c2 _ rfl hl3 (by omega) hs12 hs2).mono ?_
    rintro e w3 ⟨A3, c3, rfl, hs3, -, hb3⟩
    go_wp2_with fail
    go_ret
    exact ⟨A3, c3, rfl, hs3, bw_t b2 hb3⟩
  · have hB0 := bw_a (Below.refl w.heap.size w) (.cells #[.int .i64 num, .int .u8 2, .int .u64 (n : Int), .slice A xl c, .int .i64 at_] 39)
    have ht : pTail 2 n xs = putN xl ++ xs := by rw [← hxl]; rfl
    rw [ht]
    have hl3 : (putN xl).length ≤ 10 := putN_length10 (by omega)
    have hT := fun W (hW : Below w.heap.size w W) => rbytes_any xs xl A c W hxl (by omega) (HS.out.below hW)
    have hlq : (putN xl ++ xs).length = (putN xl).length + xl := by rw [List.length_append, hxl]
    rw [hlq]
    generalize hq : putN xl ++ xs = Q at *
    generalize hpl : (putN xl).length = pl at *
    have HT := hid hT
    clear hT hq ht
    go_enter Try.func55, Try.ntmps55
    go_wp2_with (go_at_call 53; refine (HMK.out _).mono ?_; rintro e w' ⟨rfl, rfl⟩)
    refine (HVP.out _).mono ?_
    rintro e w1 ⟨A1, c1, rfl, hs1, hb1⟩
    have b1 := bw_t hB0 hb1
    have hk1 := (Blk.new w 39 #[.int .i64 num, .int .u8 2, .int .u64 (n : Int), .slice A xl c, .int .i64 at_]).below hb1 (Blk.new w _ _).lt
    have d1 := hk1.cell 1
    have d2 := hk1.cell 2
    have d3 := hk1.cell 3
    simp only [List.getElem?_toArray, List.getElem?_cons_zero, List.getElem?_cons_succ] at d1 d2 d3
    have hlk := hk1.lt
    clear hk1 hb1 hB0
    go_wp2_with fail
    refine (HT.out _ b1).mono ?_
    rintro e w2 ⟨A2, c2, rfl, hs2, -, hb2⟩
    have b2 := bw_t b1 hb2
    have hs12 := hs1.below hb2
    clear hb2 hs1 d1 d2 d3 b1
    go_wp2_with fail
    refine (rjoin2_any P Q P.length (pl + xl) A1 A2 c1 c2 _ rfl hlq (by omega) hs12 hs2).mono ?_
    rintro e w3 ⟨A3, c3, rfl, hs3, -, hb3⟩
    go_wp2_with fail
    go_ret
    exact ⟨A3, c3, rfl, hs3, bw_t b2 hb3⟩
  · have hB0 := bw_a (Below.refl w.heap.size w) (.cells #[.int .i64 num, .int .u8 5, .int .u64 (n : Int), .slice A xl c, .int .i64 at_] 39)
    have ht : pTail 5 n xs = fixN 4 (n % 4294967296) := rfl
    rw [ht]
    have hl3 := length_fixN 4 (n % 4294967296)
    have hT := fun W => rfix_at (n % 4294967296) 4 4 W rfl (by omega) (by omega)
    rw [hl3]
    have hmod : (n : Int) % 4294967296 = ((n % 4294967296 : Nat) : Int) := by omega
    have htm : (n : Int).tmod 4294967296 = ((n % 4294967296 : Nat) : Int) := by rw [Int.tmod_eq_emod_of_nonneg (by omega)]; omega
    have hwr : IntKind.u64.wrap ((n % 4294967296 : Nat) : Int) = ((n % 4294967296 : Nat) : Int) := IntWalk.u64_in _ (by omega)
    generalize hq : fixN 4 (n % 4294967296) = Q at *
    generalize n % 4294967296 = n4 at *
    have HT := hid hT
    clear hT hq ht
    go_enter Try.func55, Try.ntmps55
    go_wp2_with (go_at_call 53; refine (HMK.out _).mono ?_; rintro e w' ⟨rfl, rfl⟩)
    refine (HVP.out _).mono ?_
    rintro e w1 ⟨A1, c1, rfl, hs1, hb1⟩
    have b1 := bw_t hB0 hb1
    have hk1 := (Blk.new w 39 #[.int .i64 num, .int .u8 5, .int .u64 (n : Int), .slice A xl c, .int .i64 at_]).below hb1 (Blk.new w _ _).lt
    have d1 := hk1.cell 1
    have d2 := hk1.cell 2
    have d3 := hk1.cell 3
    simp only [List.getElem?_toArray, List.getElem?_cons_zero, List.getElem?_cons_succ] at d1 d2 d3
    have hlk := hk1.lt
    clear hk1 hb1 hB0
    go_wp2_with fail
    refine (HT.out _).mono ?_
    rintro e w2 ⟨A2, c2, rfl, hs2, hb2⟩
    have b2 := bw_t b1 hb2
    have hs12 := hs1.below hb2
    clear hb2 hs1 d1 d2 d3 b1
    go_wp2_with fail
    refine (rjoin2_any P Q P.length 4 A1 A2 c1 c2 _ rfl hl3 (by omega) hs12 hs2).mono ?_
    rintro e w3 ⟨A3, c3, rfl, hs3, -, hb3⟩
    go_wp2_with fail
    go_ret
    exact ⟨A3, c3, rfl, hs3, bw_t b2 hb3⟩
set_option maxRecDepth 100000 in
set_option maxHeartbeats 1000000 in
theorem rbare_any (f : FV) (w : World) (h : FvOk w f) :
    Calls Try.prog 22 #[.agg (fvC f).toArray] w fun e w' => ∃ A' c', e = .returned (.agg #[.int .i64 f.num, .int .u8 f.w, .int .u64 (bareN f : Nat), .slice A' (bareX f).length c', .int .i64 f.at_]) ∧ Sl w' A' c' ((bareX f).map bv) ∧ Below w.heap.size w w' := by
  obtain ⟨num, x, n, ⟨A, c, xs⟩, at_⟩ := f
  obtain ⟨h0, h1, hn, -, -, -, -, hs⟩ := h
  simp only at h0 h1 hn hs
  have hsb := fun W (hW : Below w.heap.size w W) => hs.below hW
  have HS := hid hsb
  clear hs hsb
  unfold bareN bareX
  simp only [fvC]
  by_cases hw2 : x = 2
  · subst hw2
    rw [if_pos rfl, if_pos rfl]
    generalize hxl : xs.length = xl at *
    go_enter Try.func22, Try.ntmps22
    go_wp2_with fail
    refine bodyPost_ret (v := .agg #[.int .i64 num, .int .u8 2, .int .u64 0, .slice A xl c, .int .i64 at_]) (by simp [results, Try.results22, go_sem]) rfl ⟨A, c, rfl, ?_, ?_⟩
    · exact HS.out _ (bw_a (bw_a (Below.refl _ w) _) _)
    · exact bw_a (bw_a (Below.refl _ w) _) _
  · rw [if_neg hw2, if_neg hw2]
    have b2 : (x == 2) = false := by simpa using hw2
    by_cases hw5 : x = 5
    · subst hw5
      rw [if_pos rfl]
      have hmod : (n : Int) % 4294967296 = ((n % 4294967296 : Nat) : Int) := by omega
      have htm : (n : Int).tmod 4294967296 = ((n % 4294967296 : Nat) : Int) := by rw [Int.tmod_eq_emod_of_nonneg (by omega)]; omega
      have hwr : IntKind.u64.wrap ((n % 4294967296 : Nat) : Int) = ((n % 4294967296 : Nat) : Int) := IntWalk.u64_in _ (by omega)
      generalize n % 4294967296 = n4 at *
      generalize hxl : xs.length = xl at *
      go_enter Try.func22, Try.ntmps22
      go_wp2_with fail
      refine bodyPost_ret (v := .agg #[.int .i64 num, .int .u8 5, .int .u64 (n4 : Nat), .slice none 0 0, .int .i64 at_]) (by simp [results, Try.results22, go_sem]) rfl ⟨none, 0, rfl, Sl.nil_ _, ?_⟩
      exact bw_a (bw_a (Below.refl _ w) _) _
    · rw [if_neg hw5]
      have b5 : (x == 5) = false := by simpa using hw5
      generalize hxl : xs.length = xl at *
      clear hw2 hw5
      go_enter Try.func22, Try.ntmps22
      go_wp2_with fail
      refine bodyPost_ret (v := .agg #[.int .i64 num, .int .u8 x, .int .u64 (n : Nat), .slice none 0 0, .int .i64 at_]) (by simp [results, Try.results22, go_sem]) rfl ⟨none, 0, rfl, Sl.nil_ _, ?_⟩
      exact bw_a (bw_a (Below.refl _ w) _) _
end Go.Proofs.Ytfbmdeegcoocnaa
