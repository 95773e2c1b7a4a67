/- The document's text of a finding; lines: walks. -/
import Derived.Test.YtdbbapedimnjhaaDoorDgY
import Derived.Test.YtdbbapedimnjhaaDoorBldSh
set_option linter.unusedVariables false
namespace Go.Proofs.YtdbbapedimnjhaaDoor
open Go.RowKit
set_option maxRecDepth 100000 in
set_option maxHeartbeats 16000000 in
theorem rtext_any (x : Dg.D) (w : World) (hok : DOk x) (hl : x.2.2.size ≤ 5000) :
    Calls Tryd.prog 15 #[.agg (dC x).toArray] w fun e w' => ∃ t : ByteArray, e = .returned (.string t) ∧ t.data.toList = txL x ∧ Below w.heap.size w w' := by
  obtain ⟨s1, e1, t1⟩ := x
  obtain ⟨⟨h1, h2⟩, ⟨h3, h4⟩, h5⟩ := hok
  simp only at h1 h2 h3 h4 h5 hl
  have htx : txL (s1, e1, t1) = (if 0 ≤ s1 then dg24 s1 else [45]) ++ [32] ++ (wdB e1).data.toList ++ (if t1.size = 0 then [] else [32] ++ puL t1.data.toList) := rfl
  show Calls _ _ #[.agg #[.int .i64 s1, .int .i64 e1, .string t1]] w _
  have HB0 := hid (bw_a (Below.refl _ w) (.cells #[.int .i64 s1, .int .i64 e1, .string t1] 25))
  have HK := hid (Blk.new w 25 #[.int .i64 s1, .int .i64 e1, .string t1])
  have HDG := hid (fun W => rdigits24_any s1.toNat s1 W (Nat.le_refl _) h1 h2)
  have hwz := wdB_size e1
  have HPU := hid (fun W => rPut_any t1 _ W rfl (by rw [← Lib.size_eq]; omega))
  have HPL := hid (show (puL t1.data.toList).length ≤ 20002 by have := pu24_le t1.data.toList; rw [← Lib.size_eq] at this; omega)
  have hDz : (dg24 s1).length ≤ 9 := dg24_len
  obtain ⟨D, hD⟩ : ∃ D : ByteArray, D = ⟨(dg24 s1).toArray⟩ := ⟨_, rfl⟩
  have hDD : D.data.toList = dg24 s1 := by rw [hD]
  have hDs : D.size ≤ 9 := by rw [Lib.size_eq, hDD]; exact hDz
  rw [← hD] at HDG
  have HDD := hid hDD
  clear hD hDz hDD
  by_cases he : 0 ≤ e1 ∧ e1 < 21
  · obtain ⟨n, rfl⟩ : ∃ n : Nat, e1 = n := ⟨e1.toNat, by omega⟩
    have hn : n < 21 := by omega
    have hw0 : wdB (n : Int) = WD.getD n ⟨#[]⟩ := by unfold wdB; rw [if_pos he]; rfl
    have HWC := hid (wd_cells n hn)
    rw [← hw0] at HWC
    have hn0 : (0 : Int) ≤ (n : Int) := by omega
    have hn1 : (n : Int) < 21 := by omega
    generalize wdB (n : Int) = W0 at *
    clear hw0 he
    by_cases hs : s1 < 0
    · rw [if_neg (by omega)] at htx
      have hs0 : ¬ 0 ≤ s1 := by omega
      by_cases ht : t1.size = 0
      · obtain rfl := bz ht
        rw [if_pos (by rfl)] at htx
        have HTX := hid htx
        clear htx ht
        go_enter Tryd.func15, Tryd.ntmps15
        go_wp2_with fail
        obtain ⟨w2, hw2⟩ : ∃ w2, w.alloc (.cells #[.int .i64 s1, .int .i64 (n : Int), .string ⟨#[]⟩] 25) = w2 := ⟨_, rfl⟩
        have HB2 := HB0
        have HK2 := HK
        have hlt2 : w.heap.size < (w.alloc (.cells #[.int .i64 s1, .int .i64 (n : Int), .string ⟨#[]⟩] 25)).heap.size := by rw [World.size_alloc]; omega
        rw [hw2] at HB2 HK2 hlt2 ⊢
        clear hw2
        refine (rwords_any _).mono ?_
        rintro e w3 ⟨rfl, hb3⟩
        have hk := (HK2.out.below hb3 hlt2).alloc (.cells WLIT 34)
        have HB3 := hid (bw_a (bw_t HB2.out hb3) (.cells WLIT 34))
        have hlt3 : w.heap.size < (w3.alloc (.cells WLIT 34)).heap.size := by rw [World.size_alloc]; have := hb3.size; omega
        have hlit := Blk.new w3 34 WLIT
        have f1 : ¬ 9223372036854775807 < 1 + 1 := by omega
        have f2 : ((⟨#[45]⟩ : ByteArray) ++ ⟨#[32]⟩).size = 1 + 1 := by rw [ByteArray.size_append]; rfl
        have f3 : ¬ 9223372036854775807 < 1 + 1 + W0.size := by omega
        have f6 : (((⟨#[45]⟩ : ByteArray) ++ ⟨#[32]⟩) ++ W0).size = 1 + 1 + W0.size := by rw [ByteArray.size_append, ByteArray.size_append]; rfl
        go_wp2_with (first
          | (refine wpList_alloc_lit rfl 34 rfl _ (alloc21 w3) ?_)
          | (refine wpList_store_lit rfl 34 _ _ rfl (store21 w3) ?_; obtain ⟨w4, hw4⟩ : ∃ w4, w3.alloc (.cells WLIT 34) = w4 := ⟨_, rfl⟩; rw [hw4] at HB3 hk hlt3 hlit ⊢; have d0 := hk.cell 0; have d1 := hk.cell 1; have d2 := hk.cell 2; simp only [List.getElem?_toArray, List.getElem?_cons_zero, List.getElem?_cons_succ] at d0 d1 d2; have hcell := hlit.cell n; rw [HWC.out] at hcell; have HW4 := hid hw4; clear hw4))
        go_ret
        exact ⟨_, rfl, by rw [HTX.out]; simp [], HB3.out⟩
      · have hte : (t1.toList == []) = false := by
          simp only [beq_eq_false_iff_ne, ne_eq]; intro e; rw [Lib.toList_data] at e; rw [Lib.size_eq, e] at ht; exact ht rfl
        rw [if_neg ht] at htx
        have HTX := hid htx
        clear htx ht
        go_enter Tryd.func15, Tryd.ntmps15
        go_wp2_with fail
        obtain ⟨w2, hw2⟩ : ∃ w2, w.alloc (.cells #[.int .i64 s1, .int .i64 (n : Int), .string t1] 25) = w2 := ⟨_, rfl⟩
        have HB2 := HB0
        have HK2 := HK
        have hlt2 : w.heap.size < (w.alloc (.cells #[.int .i64 s1, .int .i64 (n : Int), .string t1] 25)).heap.size := by rw [World.size_alloc]; omega
        rw [hw2] at HB2 HK2 hlt2 ⊢
        clear hw2
        refine (rwords_any _).mono ?_
        rintro e w3 ⟨rfl, hb3⟩
        have hk := (HK2.out.below hb3 hlt2).alloc (.cells WLIT 34)
        have HB3 := hid (bw_a (bw_t HB2.out hb3) (.cells WLIT 34))
        have hlt3 : w.heap.size < (w3.alloc (.cells WLIT 34)).heap.size := by rw [World.size_alloc]; have := hb3.size; omega
        have hlit := Blk.new w3 34 WLIT
        have f1 : ¬ 9223372036854775807 < 1 + 1 := by omega
        have f2 : ((⟨#[45]⟩ : ByteArray) ++ ⟨#[32]⟩).size = 1 + 1 := by rw [ByteArray.size_append]; rfl
        have f3 : ¬ 9223372036854775807 < 1 + 1 + W0.size := by omega
        have f6 : (((⟨#[45]⟩ : ByteArray) ++ ⟨#[32]⟩) ++ W0).size = 1 + 1 + W0.size := by rw [ByteArray.size_append, ByteArray.size_append]; rfl
        go_wp2_with (first
          | (refine wpList_alloc_lit rfl 34 rfl _ (alloc21 w3) ?_)
          | (refine wpList_store_lit rfl 34 _ _ rfl (store21 w3) ?_; obtain ⟨w4, hw4⟩ : ∃ w4, w3.alloc (.cells WLIT 34) = w4 := ⟨_, rfl⟩; rw [hw4] at HB3 hk hlt3 hlit ⊢; have d0 := hk.cell 0; have d1 := hk.cell 1; have d2 := hk.cell 2; simp only [List.getElem?_toArray, List.getElem?_cons_zero, List.getElem?_cons_succ] at d0 d1 d2; have hcell := hlit.cell n; rw [HWC.out] at hcell; have HW4 := hid hw4; clear hw4))
        refine (HPU.out _).mono ?_
        rintro e w5 ⟨t2, rfl, ht2, hb5⟩
        have HB5 := hid (bw_t HB3.out hb5)
        have ht2s : t2.size ≤ 20002 := by rw [Lib.size_eq, ht2]; exact HPL.out
        have HT2 := hid ht2
        have f7 : ¬ 9223372036854775807 < 1 + 1 + W0.size + 1 := by omega
        have f8 : ((((⟨#[45]⟩ : ByteArray) ++ ⟨#[32]⟩) ++ W0) ++ ⟨#[32]⟩).size = 1 + 1 + W0.size + 1 := by rw [ByteArray.size_append, ByteArray.size_append, ByteArray.size_append]; rfl
        have f9 : ¬ 9223372036854775807 < 1 + 1 + W0.size + 1 + t2.size := by omega
        clear hb5 ht2
        go_wp2_with fail
        go_ret
        exact ⟨_, rfl, by rw [HTX.out]; simp [HT2.out], HB5.out⟩
    · rw [if_pos (by omega)] at htx
      have hs0 : 0 ≤ s1 := by omega
      by_cases ht : t1.size = 0
      · obtain rfl := bz ht
        rw [if_pos (by rfl)] at htx
        have HTX := hid htx
        clear htx ht
        go_enter Tryd.func15, Tryd.ntmps15
        go_wp2_with fail
        refine (HDG.out _).mono ?_
        rintro e w2 ⟨rfl, hb2⟩
        have HB2 := hid (bw_t HB0.out hb2)
        have HK2 := hid (HK.out.below hb2 (by rw [World.size_alloc]; omega))
        have hlt2 : w.heap.size < w2.heap.size := by have := hb2.size; rw [World.size_alloc] at this; omega
        clear hb2
        go_wp2_with fail
        refine (rwords_any _).mono ?_
        rintro e w3 ⟨rfl, hb3⟩
        have hk := (HK2.out.below hb3 hlt2).alloc (.cells WLIT 34)
        have HB3 := hid (bw_a (bw_t HB2.out hb3) (.cells WLIT 34))
        have hlt3 : w.heap.size < (w3.alloc (.cells WLIT 34)).heap.size := by rw [World.size_alloc]; have := hb3.size; omega
        have hlit := Blk.new w3 34 WLIT
        have f1 : ¬ 9223372036854775807 < D.size + 1 := by omega
        have f2 : ((D : ByteArray) ++ ⟨#[32]⟩).size = D.size + 1 := by rw [ByteArray.size_append]; rfl
        have f3 : ¬ 9223372036854775807 < D.size + 1 + W0.size := by omega
        have f6 : (((D : ByteArray) ++ ⟨#[32]⟩) ++ W0).size = D.size + 1 + W0.size := by rw [ByteArray.size_append, ByteArray.size_append]; rfl
        go_wp2_with (first
          | (refine wpList_alloc_lit rfl 34 rfl _ (alloc21 w3) ?_)
          | (refine wpList_store_lit rfl 34 _ _ rfl (store21 w3) ?_; obtain ⟨w4, hw4⟩ : ∃ w4, w3.alloc (.cells WLIT 34) = w4 := ⟨_, rfl⟩; rw [hw4] at HB3 hk hlt3 hlit ⊢; have d0 := hk.cell 0; have d1 := hk.cell 1; have d2 := hk.cell 2; simp only [List.getElem?_toArray, List.getElem?_cons_zero, List.getElem?_cons_succ] at d0 d1 d2; have hcell := hlit.cell n; rw [HWC.out] at hcell; have HW4 := hid hw4; clear hw4))
        go_ret
        exact ⟨_, rfl, by rw [HTX.out]; simp [HDD.out, ], HB3.out⟩
      · have hte : (t1.toList == []) = false := by
          simp only [beq_eq_false_iff_ne, ne_eq]; intro e; rw [Lib.toList_data] at e; rw [Lib.size_eq, e] at ht; exact ht rfl
        rw [if_neg ht] at htx
        have HTX := hid htx
        clear htx ht
        go_enter Tryd.func15, Tryd.ntmps15
        go_wp2_with fail
        refine (HDG.out _).mono ?_
        rintro e w2 ⟨rfl, hb2⟩
        have HB2 := hid (bw_t HB0.out hb2)
        have HK2 := hid (HK.out.below hb2 (by rw [World.size_alloc]; omega))
        have hlt2 : w.heap.size < w2.heap.size := by have := hb2.size; rw [World.size_alloc] at this; omega
        clear hb2
        go_wp2_with fail
        refine (rwords_any _).mono ?_
        rintro e w3 ⟨rfl, hb3⟩
        have hk := (HK2.out.below hb3 hlt2).alloc (.cells WLIT 34)
        have HB3 := hid (bw_a (bw_t HB2.out hb3) (.cells WLIT 34))
        have hlt3 : w.heap.size < (w3.alloc (.cells WLIT 34)).heap.size := by rw [World.size_alloc]; have := hb3.size; omega
        have hlit := Blk.new w3 34 WLIT
        have f1 : ¬ 9223372036854775807 < D.size + 1 := by omega
        have f2 : ((D : ByteArray) ++ ⟨#[32]⟩).size = D.size + 1 := by rw [ByteArray.size_append]; rfl
        have f3 : ¬ 9223372036854775807 < D.size + 1 + W0.size := by omega
        have f6 : (((D : ByteArray) ++ ⟨#[32]⟩) ++ W0).size = D.size + 1 + W0.size := by rw [ByteArray.size_append, ByteArray.size_append]; rfl
        go_wp2_with (first
          | (refine wpList_alloc_lit rfl 34 rfl _ (alloc21 w3) ?_)
          | (refine wpList_store_lit rfl 34 _ _ rfl (store21 w3) ?_; obtain ⟨w4, hw4⟩ : ∃ w4, w3.alloc (.cells WLIT 34) = w4 := ⟨_, rfl⟩; rw [hw4] at HB3 hk hlt3 hlit ⊢; have d0 := hk.cell 0; have d1 := hk.cell 1; have d2 := hk.cell 2; simp only [List.getElem?_toArray, List.getElem?_cons_zero, List.getElem?_cons_succ] at d0 d1 d2; have hcell := hlit.cell n; rw [HWC.out] at hcell; have HW4 := hid hw4; clear hw4))
        refine (HPU.out _).mono ?_
        rintro e w5 ⟨t2, rfl, ht2, hb5⟩
        have HB5 := hid (bw_t HB3.out hb5)
        have ht2s : t2.size ≤ 20002 := by rw [Lib.size_eq, ht2]; exact HPL.out
        have HT2 := hid ht2
        have f7 : ¬ 9223372036854775807 < D.size + 1 + W0.size + 1 := by omega
        have f8 : ((((D : ByteArray) ++ ⟨#[32]⟩) ++ W0) ++ ⟨#[32]⟩).size = D.size + 1 + W0.size + 1 := by rw [ByteArray.size_append, ByteArray.size_append, ByteArray.size_append]; rfl
        have f9 : ¬ 9223372036854775807 < D.size + 1 + W0.size + 1 + t2.size := by omega
        clear hb5 ht2
        go_wp2_with fail
        go_ret
        exact ⟨_, rfl, by rw [HTX.out]; simp [HDD.out, HT2.out], HB5.out⟩
  · have hw0 : wdB e1 = ⟨#[]⟩ := by unfold wdB; rw [if_neg he]
    rw [hw0] at htx
    clear hw0 hwz
    have HE := hid he
    clear he
    by_cases he0 : 0 ≤ e1
    · have he1 : ¬ e1 < 21 := fun h => HE.out ⟨he0, h⟩
      by_cases hs : s1 < 0
      · rw [if_neg (by omega)] at htx
        have hs0 : ¬ 0 ≤ s1 := by omega
        by_cases ht : t1.size = 0
        · obtain rfl := bz ht
          rw [if_pos (by rfl)] at htx
          have HTX := hid htx
          clear htx ht
          go_enter Tryd.func15, Tryd.ntmps15
          go_wp2_with fail
          obtain ⟨w2, hw2⟩ : ∃ w2, w.alloc (.cells #[.int .i64 s1, .int .i64 e1, .string ⟨#[]⟩] 25) = w2 := ⟨_, rfl⟩
          have HB2 := HB0
          have HK2 := HK
          have hlt2 : w.heap.size < (w.alloc (.cells #[.int .i64 s1, .int .i64 e1, .string ⟨#[]⟩] 25)).heap.size := by rw [World.size_alloc]; omega
          rw [hw2] at HB2 HK2 hlt2 ⊢
          clear hw2
          refine (rwords_any _).mono ?_
          rintro e w3 ⟨rfl, hb3⟩
          have hk := (HK2.out.below hb3 hlt2).alloc (.cells WLIT 34)
          have HB3 := hid (bw_a (bw_t HB2.out hb3) (.cells WLIT 34))
          have hlt3 : w.heap.size < (w3.alloc (.cells WLIT 34)).heap.size := by rw [World.size_alloc]; have := hb3.size; omega
          have hlit := Blk.new w3 34 WLIT
          have f1 : ¬ 9223372036854775807 < 1 + 1 := by omega
          have f2 : ((⟨#[45]⟩ : ByteArray) ++ ⟨#[32]⟩).size = 1 + 1 := by rw [ByteArray.size_append]; rfl
          have f3 : ¬ 9223372036854775807 < 1 + 1 + 0 := by omega
          have f6 : (((⟨#[45]⟩ : ByteArray) ++ ⟨#[32]⟩) ++ ⟨#[]⟩).size = 1 + 1 + 0 := by rw [ByteArray.size_append, ByteArray.size_append]; rfl
          go_wp2_with (first
            | (refine wpList_alloc_lit rfl 34 rfl _ (alloc21 w3) ?_)
            | (refine wpList_store_lit rfl 34 _ _ rfl (store21 w3) ?_; obtain ⟨w4, hw4⟩ : ∃ w4, w3.alloc (.cells WLIT 34) = w4 := ⟨_, rfl⟩; rw [hw4] at HB3 hk hlt3 hlit ⊢; have d0 := hk.cell 0; have d1 := hk.cell 1; have d2 := hk.cell 2; simp only [List.getElem?_toArray, List.getElem?_cons_zero, List.getElem?_cons_succ] at d0 d1 d2; have HW4 := hid hw4; clear hw4))
          go_ret
          exact ⟨_, rfl, by rw [HTX.out]; simp [], HB3.out⟩
        · have hte : (t1.toList == []) = false := by
            simp only [beq_eq_false_iff_ne, ne_eq]; intro e; rw [Lib.toList_data] at e; rw [Lib.size_eq, e] at ht; exact ht rfl
          rw [if_neg ht] at htx
          have HTX := hid htx
          clear htx ht
          go_enter Tryd.func15, Tryd.ntmps15
          go_wp2_with fail
          obtain ⟨w2, hw2⟩ : ∃ w2, w.alloc (.cells #[.int .i64 s1, .int .i64 e1, .string t1] 25) = w2 := ⟨_, rfl⟩
          have HB2 := HB0
          have HK2 := HK
          have hlt2 : w.heap.size < (w.alloc (.cells #[.int .i64 s1, .int .i64 e1, .string t1] 25)).heap.size := by rw [World.size_alloc]; omega
          rw [hw2] at HB2 HK2 hlt2 ⊢
          clear hw2
          refine (rwords_any _).mono ?_
          rintro e w3 ⟨rfl, hb3⟩
          have hk := (HK2.out.below hb3 hlt2).alloc (.cells WLIT 34)
          have HB3 := hid (bw_a (bw_t HB2.out hb3) (.cells WLIT 34))
          have hlt3 : w.heap.size < (w3.alloc (.cells WLIT 34)).heap.size := by rw [World.size_alloc]; have := hb3.size; omega
          have hlit := Blk.new w3 34 WLIT
          have f1 : ¬ 9223372036854775807 < 1 + 1 := by omega
          have f2 : ((⟨#[45]⟩ : ByteArray) ++ ⟨#[32]⟩).size = 1 + 1 := by rw [ByteArray.size_append]; rfl
          have f3 : ¬ 9223372036854775807 < 1 + 1 + 0 := by omega
          have f6 : (((⟨#[45]⟩ : ByteArray) ++ ⟨#[32]⟩) ++ ⟨#[]⟩).size = 1 + 1 + 0 := by rw [ByteArray.size_append, ByteArray.size_append]; rfl
          go_wp2_with (first
            | (refine wpList_alloc_lit rfl 34 rfl _ (alloc21 w3) ?_)
            | (refine wpList_store_lit rfl 34 _ _ rfl (store21 w3) ?_; obtain ⟨w4, hw4⟩ : ∃ w4, w3.alloc (.cells WLIT 34) = w4 := ⟨_, rfl⟩; rw [hw4] at HB3 hk hlt3 hlit ⊢; have d0 := hk.cell 0; have d1 := hk.cell 1; have d2 := hk.cell 2; simp only [List.getElem?_toArray, List.getElem?_cons_zero, List.getElem?_cons_succ] at d0 d1 d2; have HW4 := hid hw4; clear hw4))
          refine (HPU.out _).mono ?_
          rintro e w5 ⟨t2, rfl, ht2, hb5⟩
          have HB5 := hid (bw_t HB3.out hb5)
          have ht2s : t2.size ≤ 20002 := by rw [Lib.size_eq, ht2]; exact HPL.out
          have HT2 := hid ht2
          have f7 : ¬ 9223372036854775807 < 1 + 1 + 0 + 1 := by omega
          have f8 : ((((⟨#[45]⟩ : ByteArray) ++ ⟨#[32]⟩) ++ ⟨#[]⟩) ++ ⟨#[32]⟩).size = 1 + 1 + 0 + 1 := by rw [ByteArray.size_append, ByteArray.size_append, ByteArray.size_append]; rfl
          have f9 : ¬ 9223372036854775807 < 1 + 1 + 0 + 1 + t2.size := by omega
          clear hb5 ht2
          go_wp2_with fail
          go_ret
          exact ⟨_, rfl, by rw [HTX.out]; simp [HT2.out], HB5.out⟩
      · rw [if_pos (by omega)] at htx
        have hs0 : 0 ≤ s1 := by omega
        by_cases ht : t1.size = 0
        · obtain rfl := bz ht
          rw [if_pos (by rfl)] at htx
          have HTX := hid htx
          clear htx ht
          go_enter Tryd.func15, Tryd.ntmps15
          go_wp2_with fail
          refine (HDG.out _).mono ?_
          rintro e w2 ⟨rfl, hb2⟩
          have HB2 := hid (bw_t HB0.out hb2)
          have HK2 := hid (HK.out.below hb2 (by rw [World.size_alloc]; omega))
          have hlt2 : w.heap.size < w2.heap.size := by have := hb2.size; rw [World.size_alloc] at this; omega
          clear hb2
          go_wp2_with fail
          refine (rwords_any _).mono ?_
          rintro e w3 ⟨rfl, hb3⟩
          have hk := (HK2.out.below hb3 hlt2).alloc (.cells WLIT 34)
          have HB3 := hid (bw_a (bw_t HB2.out hb3) (.cells WLIT 34))
          have hlt3 : w.heap.size < (w3.alloc (.cells WLIT 34)).heap.size := by rw [World.size_alloc]; have := hb3.size; omega
          have hlit := Blk.new w3 34 WLIT
          have f1 : ¬ 9223372036854775807 < D.size + 1 := by omega
          have f2 : ((D : ByteArray) ++ ⟨#[32]⟩).size = D.size + 1 := by rw [ByteArray.size_append]; rfl
          have f3 : ¬ 9223372036854775807 < D.size + 1 + 0 := by omega
          have f6 : (((D : ByteArray) ++ ⟨#[32]⟩) ++ ⟨#[]⟩).size = D.size + 1 + 0 := by rw [ByteArray.size_append, ByteArray.size_append]; rfl
          go_wp2_with (first
            | (refine wpList_alloc_lit rfl 34 rfl _ (alloc21 w3) ?_)
            | (refine wpList_store_lit rfl 34 _ _ rfl (store21 w3) ?_; obtain ⟨w4, hw4⟩ : ∃ w4, w3.alloc (.cells WLIT 34) = w4 := ⟨_, rfl⟩; rw [hw4] at HB3 hk hlt3 hlit ⊢; have d0 := hk.cell 0; have d1 := hk.cell 1; have d2 := hk.cell 2; simp only [List.getElem?_toArray, List.getElem?_cons_zero, List.getElem?_cons_succ] at d0 d1 d2; have HW4 := hid hw4; clear hw4))
          go_ret
          exact ⟨_, rfl, by rw [HTX.out]; simp [HDD.out, ], HB3.out⟩
        · have hte : (t1.toList == []) = false := by
            simp only [beq_eq_false_iff_ne, ne_eq]; intro e; rw [Lib.toList_data] at e; rw [Lib.size_eq, e] at ht; exact ht rfl
          rw [if_neg ht] at htx
          have HTX := hid htx
          clear htx ht
          go_enter Tryd.func15, Tryd.ntmps15
          go_wp2_with fail
          refine (HDG.out _).mono ?_
          rintro e w2 ⟨rfl, hb2⟩
          have HB2 := hid (bw_t HB0.out hb2)
          have HK2 := hid (HK.out.below hb2 (by rw [World.size_alloc]; omega))
          have hlt2 : w.heap.size < w2.heap.size := by have := hb2.size; rw [World.size_alloc] at this; omega
          clear hb2
          go_wp2_with fail
          refine (rwords_any _).mono ?_
          rintro e w3 ⟨rfl, hb3⟩
          have hk := (HK2.out.below hb3 hlt2).alloc (.cells WLIT 34)
          have HB3 := hid (bw_a (bw_t HB2.out hb3) (.cells WLIT 34))
          have hlt3 : w.heap.size < (w3.alloc (.cells WLIT 34)).heap.size := by rw [World.size_alloc]; have := hb3.size; omega
          have hlit := Blk.new w3 34 WLIT
          have f1 : ¬ 9223372036854775807 < D.size + 1 := by omega
          have f2 : ((D : ByteArray) ++ ⟨#[32]⟩).size = D.size + 1 := by rw [ByteArray.size_append]; rfl
          have f3 : ¬ 9223372036854775807 < D.size + 1 + 0 := by omega
          have f6 : (((D : ByteArray) ++ ⟨#[32]⟩) ++ ⟨#[]⟩).size = D.size + 1 + 0 := by rw [ByteArray.size_append, ByteArray.size_append]; rfl
          go_wp2_with (first
            | (refine wpList_alloc_lit rfl 34 rfl _ (alloc21 w3) ?_)
            | (refine wpList_store_lit rfl 34 _ _ rfl (store21 w3) ?_; obtain ⟨w4, hw4⟩ : ∃ w4, w3.alloc (.cells WLIT 34) = w4 := ⟨_, rfl⟩; rw [hw4] at HB3 hk hlt3 hlit ⊢; have d0 := hk.cell 0; have d1 := hk.cell 1; have d2 := hk.cell 2; simp only [List.getElem?_toArray, List.getElem?_cons_zero, List.getElem?_cons_succ] at d0 d1 d2; have HW4 := hid hw4; clear hw4))
          refine (HPU.out _).mono ?_
          rintro e w5 ⟨t2, rfl, ht2, hb5⟩
          have HB5 := hid (bw_t HB3.out hb5)
          have ht2s : t2.size ≤ 20002 := by rw [Lib.size_eq, ht2]; exact HPL.out
          have HT2 := hid ht2
          have f7 : ¬ 9223372036854775807 < D.size + 1 + 0 + 1 := by omega
          have f8 : ((((D : ByteArray) ++ ⟨#[32]⟩) ++ ⟨#[]⟩) ++ ⟨#[32]⟩).size = D.size + 1 + 0 + 1 := by rw [ByteArray.size_append, ByteArray.size_append, ByteArray.size_append]; rfl
          have f9 : ¬ 9223372036854775807 < D.size + 1 + 0 + 1 + t2.size := by omega
          clear hb5 ht2
          go_wp2_with fail
          go_ret
          exact ⟨_, rfl, by rw [HTX.out]; simp [HDD.out, HT2.out], HB5.out⟩
    · by_cases hs : s1 < 0
      · rw [if_neg (by omega)] at htx
        have hs0 : ¬ 0 ≤ s1 := by omega
        by_cases ht : t1.size = 0
        · obtain rfl := bz ht
          rw [if_pos (by rfl)] at htx
          have HTX := hid htx
          clear htx ht
          go_enter Tryd.func15, Tryd.ntmps15
          go_wp2_with fail
          obtain ⟨w2, hw2⟩ : ∃ w2, w.alloc (.cells #[.int .i64 s1, .int .i64 e1, .string ⟨#[]⟩] 25) = w2 := ⟨_, rfl⟩
          have HB2 := HB0
          have HK2 := HK
          have hlt2 : w.heap.size < (w.alloc (.cells #[.int .i64 s1, .int .i64 e1, .string ⟨#[]⟩] 25)).heap.size := by rw [World.size_alloc]; omega
          rw [hw2] at HB2 HK2 hlt2 ⊢
          clear hw2
          refine (rwords_any _).mono ?_
          rintro e w3 ⟨rfl, hb3⟩
          have hk := (HK2.out.below hb3 hlt2).alloc (.cells WLIT 34)
          have HB3 := hid (bw_a (bw_t HB2.out hb3) (.cells WLIT 34))
          have hlt3 : w.heap.size < (w3.alloc (.cells WLIT 34)).heap.size := by rw [World.size_alloc]; have := hb3.size; omega
          have hlit := Blk.new w3 34 WLIT
          have f1 : ¬ 9223372036854775807 < 1 + 1 := by omega
          have f2 : ((⟨#[45]⟩ : ByteArray) ++ ⟨#[32]⟩).size = 1 + 1 := by rw [ByteArray.size_append]; rfl
          have f3 : ¬ 9223372036854775807 < 1 + 1 + 0 := by omega
          have f6 : (((⟨#[45]⟩ : ByteArray) ++ ⟨#[32]⟩) ++ ⟨#[]⟩).size = 1 + 1 + 0 := by rw [ByteArray.size_append, ByteArray.size_append]; rfl
          go_wp2_with (first
            | (refine wpList_alloc_lit rfl 34 rfl _ (alloc21 w3) ?_)
            | (refine wpList_store_lit rfl 34 _ _ rfl (store21 w3) ?_; obtain ⟨w4, hw4⟩ : ∃ w4, w3.alloc (.cells WLIT 34) = w4 := ⟨_, rfl⟩; rw [hw4] at HB3 hk hlt3 hlit ⊢; have d0 := hk.cell 0; have d1 := hk.cell 1; have d2 := hk.cell 2; simp only [List.getElem?_toArray, List.getElem?_cons_zero, List.getElem?_cons_succ] at d0 d1 d2; have HW4 := hid hw4; clear hw4))
          go_ret
          exact ⟨_, rfl, by rw [HTX.out]; simp [], HB3.out⟩
        · have hte : (t1.toList == []) = false := by
            simp only [beq_eq_false_iff_ne, ne_eq]; intro e; rw [Lib.toList_data] at e; rw [Lib.size_eq, e] at ht; exact ht rfl
          rw [if_neg ht] at htx
          have HTX := hid htx
          clear htx ht
          go_enter Tryd.func15, Tryd.ntmps15
          go_wp2_with fail
          obtain ⟨w2, hw2⟩ : ∃ w2, w.alloc (.cells #[.int .i64 s1, .int .i64 e1, .string t1] 25) = w2 := ⟨_, rfl⟩
          have HB2 := HB0
          have HK2 := HK
          have hlt2 : w.heap.size < (w.alloc (.cells #[.int .i64 s1, .int .i64 e1, .string t1] 25)).heap.size := by rw [World.size_alloc]; omega
          rw [hw2] at HB2 HK2 hlt2 ⊢
          clear hw2
          refine (rwords_any _).mono ?_
          rintro e w3 ⟨rfl, hb3⟩
          have hk := (HK2.out.below hb3 hlt2).alloc (.cells WLIT 34)
          have HB3 := hid (bw_a (bw_t HB2.out hb3) (.cells WLIT 34))
          have hlt3 : w.heap.size < (w3.alloc (.cells WLIT 34)).heap.size := by rw [World.size_alloc]; have := hb3.size; omega
          have hlit := Blk.new w3 34 WLIT
          have f1 : ¬ 9223372036854775807 < 1 + 1 := by omega
          have f2 : ((⟨#[45]⟩ : ByteArray) ++ ⟨#[32]⟩).size = 1 + 1 := by rw [ByteArray.size_append]; rfl
          have f3 : ¬ 9223372036854775807 < 1 + 1 + 0 := by omega
          have f6 : (((⟨#[45]⟩ : ByteArray) ++ ⟨#[32]⟩) ++ ⟨#[]⟩).size = 1 + 1 + 0 := by rw [ByteArray.size_append, ByteArray.size_append]; rfl
          go_wp2_with (first
            | (refine wpList_alloc_lit rfl 34 rfl _ (alloc21 w3) ?_)
            | (refine wpList_store_lit rfl 34 _ _ rfl (store21 w3) ?_; obtain ⟨w4, hw4⟩ : ∃ w4, w3.alloc (.cells WLIT 34) = w4 := ⟨_, rfl⟩; rw [hw4] at HB3 hk hlt3 hlit ⊢; have d0 := hk.cell 0; have d1 := hk.cell 1; have d2 := hk.cell 2; simp only [List.getElem?_toArray, List.getElem?_cons_zero, List.getElem?_cons_succ] at d0 d1 d2; have HW4 := hid hw4; clear hw4))
          refine (HPU.out _).mono ?_
          rintro e w5 ⟨t2, rfl, ht2, hb5⟩
          have HB5 := hid (bw_t HB3.out hb5)
          have ht2s : t2.size ≤ 20002 := by rw [Lib.size_eq, ht2]; exact HPL.out
          have HT2 := hid ht2
          have f7 : ¬ 9223372036854775807 < 1 + 1 + 0 + 1 := by omega
          have f8 : ((((⟨#[45]⟩ : ByteArray) ++ ⟨#[32]⟩) ++ ⟨#[]⟩) ++ ⟨#[32]⟩).size = 1 + 1 + 0 + 1 := by rw [ByteArray.size_append, ByteArray.size_append, ByteArray.size_append]; rfl
          have f9 : ¬ 9223372036854775807 < 1 + 1 + 0 + 1 + t2.size := by omega
          clear hb5 ht2
          go_wp2_with fail
          go_ret
          exact ⟨_, rfl, by rw [HTX.out]; simp [HT2.out], HB5.out⟩
      · rw [if_pos (by omega)] at htx
        have hs0 : 0 ≤ s1 := by omega
        by_cases ht : t1.size = 0
        · obtain rfl := bz ht
          rw [if_pos (by rfl)] at htx
          have HTX := hid htx
          clear htx ht
          go_enter Tryd.func15, Tryd.ntmps15
          go_wp2_with fail
          refine (HDG.out _).mono ?_
          rintro e w2 ⟨rfl, hb2⟩
          have HB2 := hid (bw_t HB0.out hb2)
          have HK2 := hid (HK.out.below hb2 (by rw [World.size_alloc]; omega))
          have hlt2 : w.heap.size < w2.heap.size := by have := hb2.size; rw [World.size_alloc] at this; omega
          clear hb2
          go_wp2_with fail
          refine (rwords_any _).mono ?_
          rintro e w3 ⟨rfl, hb3⟩
          have hk := (HK2.out.below hb3 hlt2).alloc (.cells WLIT 34)
          have HB3 := hid (bw_a (bw_t HB2.out hb3) (.cells WLIT 34))
          have hlt3 : w.heap.size < (w3.alloc (.cells WLIT 34)).heap.size := by rw [World.size_alloc]; have := hb3.size; omega
          have hlit := Blk.new w3 34 WLIT
          have f1 : ¬ 9223372036854775807 < D.size + 1 := by omega
          have f2 : ((D : ByteArray) ++ ⟨#[32]⟩).size = D.size + 1 := by rw [ByteArray.size_append]; rfl
          have f3 : ¬ 9223372036854775807 < D.size + 1 + 0 := by omega
          have f6 : (((D : ByteArray) ++ ⟨#[32]⟩) ++ ⟨#[]⟩).size = D.size + 1 + 0 := by rw [ByteArray.size_append, ByteArray.size_append]; rfl
          go_wp2_with (first
            | (refine wpList_alloc_lit rfl 34 rfl _ (alloc21 w3) ?_)
            | (refine wpList_store_lit rfl 34 _ _ rfl (store21 w3) ?_; obtain ⟨w4, hw4⟩ : ∃ w4, w3.alloc (.cells WLIT 34) = w4 := ⟨_, rfl⟩; rw [hw4] at HB3 hk hlt3 hlit ⊢; have d0 := hk.cell 0; have d1 := hk.cell 1; have d2 := hk.cell 2; simp only [List.getElem?_toArray, List.getElem?_cons_zero, List.getElem?_cons_succ] at d0 d1 d2; have HW4 := hid hw4; clear hw4))
          go_ret
          exact ⟨_, rfl, by rw [HTX.out]; simp [HDD.out, ], HB3.out⟩
        · have hte : (t1.toList == []) = false := by
            simp only [beq_eq_false_iff_ne, ne_eq]; intro e; rw [Lib.toList_data] at e; rw [Lib.size_eq, e] at ht; exact ht rfl
          rw [if_neg ht] at htx
          have HTX := hid htx
          clear htx ht
          go_enter Tryd.func15, Tryd.ntmps15
          go_wp2_with fail
          refine (HDG.out _).mono ?_
          rintro e w2 ⟨rfl, hb2⟩
          have HB2 := hid (bw_t HB0.out hb2)
          have HK2 := hid (HK.out.below hb2 (by rw [World.size_alloc]; omega))
          have hlt2 : w.heap.size < w2.heap.size := by have := hb2.size; rw [World.size_alloc] at this; omega
          clear hb2
          go_wp2_with fail
          refine (rwords_any _).mono ?_
          rintro e w3 ⟨rfl, hb3⟩
          have hk := (HK2.out.below hb3 hlt2).alloc (.cells WLIT 34)
          have HB3 := hid (bw_a (bw_t HB2.out hb3) (.cells WLIT 34))
          have hlt3 : w.heap.size < (w3.alloc (.cells WLIT 34)).heap.size := by rw [World.size_alloc]; have := hb3.size; omega
          have hlit := Blk.new w3 34 WLIT
          have f1 : ¬ 9223372036854775807 < D.size + 1 := by omega
          have f2 : ((D : ByteArray) ++ ⟨#[32]⟩).size = D.size + 1 := by rw [ByteArray.size_append]; rfl
          have f3 : ¬ 9223372036854775807 < D.size + 1 + 0 := by omega
          have f6 : (((D : ByteArray) ++ ⟨#[32]⟩) ++ ⟨#[]⟩).size = D.size + 1 + 0 := by rw [ByteArray.size_append, ByteArray.size_append]; rfl
          go_wp2_with (first
            | (refine wpList_alloc_lit rfl 34 rfl _ (alloc21 w3) ?_)
            | (refine wpList_store_lit rfl 34 _ _ rfl (store21 w3) ?_; obtain ⟨w4, hw4⟩ : ∃ w4, w3.alloc (.cells WLIT 34) = w4 := ⟨_, rfl⟩; rw [hw4] at HB3 hk hlt3 hlit ⊢; have d0 := hk.cell 0; have d1 := hk.cell 1; have d2 := hk.cell 2; simp only [List.getElem?_toArray, List.getElem?_cons_zero, List.getElem?_cons_succ] at d0 d1 d2; have HW4 := hid hw4; clear hw4))
          refine (HPU.out _).mono ?_
          rintro e w5 ⟨t2, rfl, ht2, hb5⟩
          have HB5 := hid (bw_t HB3.out hb5)
          have ht2s : t2.size ≤ 20002 := by rw [Lib.size_eq, ht2]; exact HPL.out
          have HT2 := hid ht2
          have f7 : ¬ 9223372036854775807 < D.size + 1 + 0 + 1 := by omega
          have f8 : ((((D : ByteArray) ++ ⟨#[32]⟩) ++ ⟨#[]⟩) ++ ⟨#[32]⟩).size = D.size + 1 + 0 + 1 := by rw [ByteArray.size_append, ByteArray.size_append, ByteArray.size_append]; rfl
          have f9 : ¬ 9223372036854775807 < D.size + 1 + 0 + 1 + t2.size := by omega
          clear hb5 ht2
          go_wp2_with fail
          go_ret
          exact ⟨_, rfl, by rw [HTX.out]; simp [HDD.out, HT2.out], HB5.out⟩
/-- Lines about findings. -/
def lnD (X : List Dg.D) : List UInt8 := X.flatMap fun x => txL x ++ [10]
theorem tx_len (x : Dg.D) (hl : x.2.2.size ≤ 5000) : (txL x).length ≤ 20030 := by
  unfold txL
  simp only [List.length_append]
  have h1 : (if 0 ≤ x.1 then dg24 x.1 else [45]).length ≤ 9 := by split; exact dg24_len; simp
  have h2 : (wdB x.2.1).data.toList.length ≤ 7 := by rw [← Lib.size_eq]; exact wdB_size _
  have h3 : (if x.2.2.size = 0 then [] else [32] ++ puL x.2.2.data.toList).length ≤ 20003 := by
    split
    · simp
    · have := pu24_le x.2.2.data.toList
      rw [← Lib.size_eq] at this
      simp; omega
  simp only [List.length_cons, List.length_nil]
  omega
theorem lnD_len (X : List Dg.D) (hX : ∀ x ∈ X, x.2.2.size ≤ 5000) (k : Nat) (hk : k ≤ X.length) : (lnD (X.take k)).length ≤ k * 20031 := by
  induction k with
  | zero => simp [lnD]
  | succ k ih =>
    have h := ih (by omega)
    have h2 := tx_len X[k] (hX _ (List.getElem_mem _))
    unfold lnD at h ⊢
    rw [List.take_succ_eq_append_getElem (by omega), List.flatMap_append, List.length_append]
    simp only [List.flatMap_cons, List.flatMap_nil, List.append_nil, List.length_append, List.length_cons, List.length_nil]
    omega
theorem bld24 {T e : TypeId} {B b : Nat} {bs : List Value} {w w' : World} (h : Lib.IsBuilderF T e B b bs w) (hb : Below w.heap.size w w') : Lib.IsBuilderF T e B b bs w' := by
  have key : ∀ p, Lib.BuilderAtF T e B b p bs w → Lib.BuilderAtF T e B b p bs w' := fun p h => by
    have hl := h.lt
    obtain ⟨hB, v, hk, hown, hne⟩ := h
    exact ⟨hB, v, (hb.block b hl).trans hk, hown.kept (row := none) ⟨hb.os, hb.tape, hb.output, hb.size, fun k hk _ => hb.block k hk⟩ (by cases hv : v.ownBlock <;> simp), hne⟩
  exact h.imp (key _) (key _)
theorem byteC_app24 (a b : List UInt8) : Lib.byteCells (a ++ b) = Lib.byteCells a ++ Lib.byteCells b := by simp [Lib.byteCells]
theorem strC24 (t : ByteArray) : Lib.strCells t = Lib.byteCells t.data.toList := by simp [Lib.strCells, Lib.byteCells]
set_option maxRecDepth 100000 in
set_option maxHeartbeats 4000000 in
theorem dlines_any (X : List Dg.D) (n : Nat) (A : Option Addr) (c : Nat) (w : World) (hn : X.length = n) (hl : n ≤ 100000) (hok : ∀ x ∈ X, DOk x) (hsz : ∀ x ∈ X, x.2.2.size ≤ 5000) (hT : PowT w) (hs : SlN w A n c 3 (X.flatMap dC)) :
    Calls Tryd.prog 18 #[.slice A n c] w fun e w' => ∃ t : ByteArray, e = .returned (.string t) ∧ t.data.toList = lnD X ∧ Below w.heap.size w w' := by
  obtain ⟨s, hws⟩ : ∃ s, w.heap.size = s := ⟨_, rfl⟩
  have HN := hid hn
  have HOK := hid hok
  have HSZ := hid hsz
  have HS := hid hs
  have HWS := hid hws
  have HJL := hid (fun k hk => lnD_len X hsz k hk)
  have HPT := hid hT
  have hb0 := bw_a (Below.refl _ w) (.cells #[.pointer none, .slice none 0 0] 48)
  rw [hws] at hb0
  have hbd : Lib.IsBuilderF 48 5 s s (Lib.byteCells (lnD (X.take 0))) (w.alloc (.cells #[.pointer none, .slice none 0 0] 48)) := .inl ⟨Nat.le_refl _, .slice none 0 0, by rw [← hws]; exact World.alloc_heap_new w _, by simp [lnD, Lib.byteCells]; exact World.ownsRowF_nil _ _ _ _, fun h => by cases h⟩
  have HB0 := hid hb0
  have HBD := hid hbd
  rw [hws]
  clear hn hok hsz hs hT hb0 hbd
  go_enter Tryd.func18, Tryd.ntmps18
  go_wp2_with fail
  go_loopw [8] (fun i wr => ∃ k : Nat, k ≤ n ∧ i = .int .i64 (k : Int) ∧ Lib.IsBuilderF 48 5 s s (Lib.byteCells (lnD (X.take k))) wr ∧ Below s w wr ∧ s + 1 ≤ wr.heap.size) (fun i _ => n - (intOf i).toNat)
  case atStart => exact ⟨0, by omega, rfl, HBD.out, HB0.out, by simp; omega⟩
  case round =>
    obtain ⟨k, hk, rfl, hbd, hbe, hsz1⟩ := hrel
    have HBD := hid hbd
    have HBE := hid hbe
    clear hbd hbe
    by_cases hlt : k < n
    · have hkl : k < X.length := by have := HN.out; omega
      obtain ⟨g, o, rfl, hg, c0, c1, c2⟩ := dRow_at (HS.out.below (w' := wr) (by rw [HWS.out]; exact HBE.out)) k hkl
      have hxk := HOK.out _ (List.getElem_mem hkl)
      have hxz := HSZ.out _ (List.getElem_mem hkl)
      have htk : lnD (X.take (k + 1)) = lnD (X.take k) ++ (txL X[k] ++ [10]) := by unfold lnD; rw [List.take_succ_eq_append_getElem hkl, List.flatMap_append]; simp
      have hjl := HJL.out k (by omega)
      generalize X[k] = x at *
      have htx := tx_len x hxz
      have hdt := fun W hT => dtext_any x W hxk hxz hT
      simp only [dC] at hdt
      obtain ⟨s1, e1, t1⟩ := x
      simp only at hdt
      change ∀ W, PowT W → Calls Tryd.prog 14 #[.agg #[.int .i64 s1, .int .i64 e1, .string t1]] W _ at hdt
      have HDT := hid hdt
      have HTK := hid htk
      have hki : (k : Int) < (n : Int) := by omega
      have hk0 : (0 : Int) ≤ (k : Int) := by omega
      have HX := hid (And.intro hjl htx)
      clear hdt htk hkl hxk hxz hjl htx
      go_wp2_with fail
      have hba := bw_a (Below.refl _ wr) (.cells #[.int .i64 s1, .int .i64 e1, .string t1] 25)
      have hbw : Below w.heap.size w (wr.alloc (.cells #[.int .i64 s1, .int .i64 e1, .string t1] 25)) := by rw [HWS.out]; exact HBE.out.trans (hba.mono (by omega))
      have HBA := hid hba
      refine (HDT.out _ (HPT.out.below hbw)).mono ?_
      rintro e w2 ⟨t2, rfl, ht2, hb2⟩
      have hbd2 := bld24 (bld24 HBD.out HBA.out) hb2
      have hbe2 : Below s w w2 := HBE.out.trans ((bw_t HBA.out hb2).mono (by omega))
      have hs2 : s + 1 ≤ w2.heap.size := by have := hb2.size; rw [World.size_alloc] at this; omega
      have ht2l : t2.size ≤ 20030 := by rw [Lib.size_eq, ht2]; exact HX.out.2
      have HT2 := hid ht2
      have HBD2 := hid hbd2
      have HBE2 := hid hbe2
      clear hb2 hbd2 hbe2 ht2 hba hbw
      go_wp2_with fail
      refine (Tryd.j_WriteString s s (Lib.byteCells (lnD (X.take k))) t2 w2 HBD2.out (by rw [Lib.byteCells_length]; have := HX.out.1; omega) (by omega)).mono ?_
      rintro e w3 ⟨rfl, hbd3, hb3, -⟩
      have hs3 : s + 1 ≤ w3.heap.size := by have := hb3.size; omega
      have HB3 := hid hb3
      have HBD3 := hid hbd3
      clear hb3 hbd3
      go_wp2_with fail
      refine (Tryd.j_WriteByte s s (Lib.byteCells (lnD (X.take k)) ++ Lib.strCells t2) 10 w3 (.inr HBD3.out) (by rw [List.length_append, Lib.byteCells_length, strC24, Lib.byteCells_length, ← Lib.size_eq]; have := HX.out.1; omega) (by omega)).mono ?_
      rintro e w4 ⟨rfl, hbd4, hb4, -⟩
      have hs4 : s + 1 ≤ w4.heap.size := by have := hb4.size; omega
      have HB4 := hid hb4
      have HBD4 := hid hbd4
      clear hb4 hbd4
      go_wp2_with fail
      go_roundw
      case rel =>
        refine ⟨k + 1, by omega, by go_num, .inr ?_, (HBE2.out.trans HB3.out).trans HB4.out, hs4⟩
        have h := HBD4.out
        rw [strC24, HT2.out] at h
        rw [HTK.out, byteC_app24, byteC_app24, ← List.append_assoc]
        exact h
      case measure => simp [intOf] <;> omega
    · obtain rfl : k = n := by omega
      rw [List.take_of_length_le (by have := HN.out; omega)] at HBD
      go_wp2_with fail
      refine (Tryd.j_String s s (lnD X) _ HBD.out (by omega)).mono ?_
      rintro e w2 ⟨rfl, -, hb2, -⟩
      have HB2 := hid hb2
      clear hb2
      go_wp2_with fail
      go_ret
      exact ⟨_, rfl, by simp, HBE.out.trans HB2.out⟩
end Go.Proofs.YtdbbapedimnjhaaDoor
