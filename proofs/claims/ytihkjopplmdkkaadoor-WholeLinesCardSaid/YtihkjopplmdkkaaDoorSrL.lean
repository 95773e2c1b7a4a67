/- What must be of layer 18, whatever is asked: a walk. -/
import Derived.Test.YtihkjopplmdkkaaDoorSrE
import Derived.Test.YtihkjopplmdkkaaDoorSrN
set_option linter.unusedVariables false
namespace Go.Proofs.YtihkjopplmdkkaaDoor
open Go.RowKit
theorem un_l1 : unF [92, 120, 48, 55, 92, 110] = some [7, 10] := by
  rw [unF_more (by decide +kernel), show sgF [92, 120, 48, 55, 92, 110] = (7, 4) from by decide +kernel]
  simp only [List.drop_succ_cons, List.drop_zero]
  rw [unF_more (by decide +kernel), show sgF [92, 110] = (10, 2) from by decide +kernel]
  simp only [List.drop_succ_cons, List.drop_nil, unF_nil, Option.map_some]
  rfl
theorem un_l3 : unF [255] = some [255] := by
  rw [unF_more (by decide +kernel), show sgF [255] = (255, 1) from by decide +kernel]
  simp only [List.drop_succ_cons, List.drop_zero, unF_nil, Option.map_some]
  rfl
theorem rdO_l1 : rdO [34, 92, 120, 48, 55, 92, 110, 34] = some [7, 10] := by
  rw [rdO, if_neg (by decide +kernel), unQ, if_pos (by decide +kernel)]; exact un_l1
theorem rdO_l2 : rdO [45, 97] = none := by
  rw [rdO, if_neg (by decide +kernel), unQ, if_neg (by decide +kernel)]
theorem rdO_l3 : rdO [34, 255, 34] = some [255] := by
  rw [rdO, if_neg (by decide +kernel), unQ, if_pos (by decide +kernel)]; exact un_l3
theorem scan_l1 : (scan [7, 10] 0).2 = none := by simp [scan, oneL]
theorem scan_l3 : (scan [255] 0).2 = some 0 := by simp [scan, oneL]
theorem rd_l1 : rdE [34, 92, 120, 48, 55, 92, 110, 34] = 0 ∧ rdT [34, 92, 120, 48, 55, 92, 110, 34] = [7, 10] := by
  unfold rdE rdT; rw [rdO_l1]; simp only [scan_l1]; decide
theorem rd_l2 : rdE [45, 97] = 3 := by unfold rdE; rw [rdO_l2]
theorem rd_l3 : rdE [34, 255, 34] = 9 := by unfold rdE; rw [rdO_l3]; simp only [scan_l3]; decide
theorem cut_l : cutN [34, 97, 92, 34, 98, 34, 32, 99] = 6 := by decide +kernel
theorem dec_l1 : Lib.itoa 120 = [49, 50, 48] := by
  unfold Lib.itoa; rw [if_neg (by decide)]
  rw [show (120 : Int).toNat = 120 from rfl, Lib.decDigits, dif_neg (by decide), Lib.decDigits, dif_neg (by decide), Lib.decDigits, dif_pos (by decide)]; rfl
theorem dec_l2 : Lib.itoa 1 = [49] := by
  unfold Lib.itoa; rw [if_neg (by decide)]
  rw [show (1 : Int).toNat = 1 from rfl, Lib.decDigits, dif_pos (by decide)]; rfl
theorem dg_l1 : dgL 120 = [49, 50, 48] := by rw [dgL, if_pos (by decide)]; exact dec_l1
theorem dg_l2 : dgL 1 = [49] := by rw [dgL, if_pos (by decide)]; exact dec_l2
theorem dg_l3 : dgL (-1) = [] := by rw [dgL, if_neg (by decide)]
theorem nm_l1 : nmF [49, 50, 48] = (120, 0) := by
  unfold nmF; rw [show Lib.atoiAll [49, 50, 48] = .ok 120 from by decide +kernel]; simp only [dg_l1, if_true]
theorem nm_l2 : nmF [48, 49] = (0, 3) := by
  unfold nmF; rw [show Lib.atoiAll [48, 49] = .ok 1 from by decide +kernel]; simp only [dg_l2]; rfl
theorem qu_l : quB [97, 10] = [34, 97, 92, 110, 34] := by decide +kernel
theorem pu_l : puL [] = [34, 34] := by decide +kernel
set_option maxRecDepth 100000 in
set_option maxHeartbeats 2000000 in
theorem live18_any (w : World) (hT : Tab18 w) : Calls Tryd.prog 20 #[] w fun e w' => e = .returned (.bool true) ∧ Below w.heap.size w w' := by
  go_enter Tryd.func20, Tryd.ntmps20
  go_wp2_with fail
  refine (sRead_any ⟨#[34, 92, 120, 48, 55, 92, 110, 34]⟩ [34, 92, 120, 48, 55, 92, 110, 34] _ rfl (by decide)).mono ?_
  rintro e w1 ⟨t1, rfl, ht1, hb1⟩
  rw [rd_l1.2] at ht1
  obtain rfl := str_ext ht1 (show (⟨#[7, 10]⟩ : ByteArray).data.toList = [7, 10] from rfl)
  rw [rd_l1.1]
  clear ht1
  go_wp2_with fail
  refine (sRead_any ⟨#[45, 97]⟩ [45, 97] _ rfl (by decide)).mono ?_
  rintro e w2 ⟨t2, rfl, ht2, hb2⟩
  rw [rd_l2]
  clear ht2
  go_wp2_with fail
  refine (sRead_any ⟨#[34, 255, 34]⟩ [34, 255, 34] _ rfl (by decide)).mono ?_
  rintro e w3 ⟨t3, rfl, ht3, hb3⟩
  rw [rd_l3]
  clear ht3
  go_wp2_with fail
  refine (sCut_any ⟨#[34, 97, 92, 34, 98, 34, 32, 99]⟩ [34, 97, 92, 34, 98, 34, 32, 99] _ rfl (by decide)).mono ?_
  rintro e w4 ⟨rfl, rfl⟩
  rw [cut_l, show cutE 6 = 0 from rfl]
  have hb33 := bw_t (bw_t hb1 hb2) hb3
  have HB3 := hid hb33
  clear hb1 hb2 hb3 hb33
  go_wp2_with fail
  refine (snumber_any ⟨#[49, 50, 48]⟩ [49, 50, 48] _ rfl (by decide) (hT.below HB3.out)).mono ?_
  rintro e w5 ⟨rfl, hb5⟩
  rw [nm_l1]
  have HB5 := hid (bw_t HB3.out hb5)
  clear hb5
  go_wp2_with fail
  refine (snumber_any ⟨#[48, 49]⟩ [48, 49] _ rfl (by decide) (hT.below HB5.out)).mono ?_
  rintro e w6 ⟨rfl, hb6⟩
  rw [nm_l2]
  have HB6 := hid (bw_t HB5.out hb6)
  clear hb6
  go_wp2_with fail
  refine (sPlain_any ⟨#[97, 45, 98]⟩ [97, 45, 98] _ rfl (by decide)).mono ?_
  rintro e w7 ⟨rfl, rfl⟩
  rw [show plB [97, 45, 98] = true from by decide +kernel]
  go_wp2_with fail
  refine (sPlain_any ⟨#[97, 32, 98]⟩ [97, 32, 98] _ rfl (by decide)).mono ?_
  rintro e w8 ⟨rfl, rfl⟩
  rw [show plB [97, 32, 98] = false from by decide +kernel]
  go_wp2_with fail
  refine (sQuote_any ⟨#[97, 10]⟩ [97, 10] _ rfl (by decide)).mono ?_
  rintro e w9 ⟨t9, rfl, ht9, hb9⟩
  rw [qu_l] at ht9
  obtain rfl := str_ext ht9 (show (⟨#[34, 97, 92, 110, 34]⟩ : ByteArray).data.toList = [34, 97, 92, 110, 34] from rfl)
  have HB9 := hid (bw_t HB6.out hb9)
  clear ht9 hb9
  go_wp2_with fail
  refine (sPut_any ⟨#[]⟩ [] _ rfl (by decide)).mono ?_
  rintro e w10 ⟨t10, rfl, ht10, hb10⟩
  rw [pu_l] at ht10
  obtain rfl := str_ext ht10 (show (⟨#[34, 34]⟩ : ByteArray).data.toList = [34, 34] from rfl)
  have HB10 := hid (bw_t HB9.out hb10)
  clear ht10 hb10
  go_wp2_with fail
  refine (digits_any 120 _ (by decide) (by decide) (hT.below HB10.out)).mono ?_
  rintro e w11 ⟨rfl, hb11⟩
  rw [dg_l1]
  have HB11 := hid (bw_t HB10.out hb11)
  clear hb11
  go_wp2_with fail
  refine (digits_any (-1) _ (by decide) (by decide) (hT.below HB11.out)).mono ?_
  rintro e w12 ⟨rfl, hb12⟩
  rw [dg_l3]
  have HB12 := hid (bw_t HB11.out hb12)
  clear hb12
  go_wp2_with fail
  go_ret
  exact ⟨rfl, HB12.out⟩
end Go.Proofs.YtihkjopplmdkkaaDoor
