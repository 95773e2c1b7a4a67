/- What is awake in layer 3. -/
import Derived.Test.YtpicgemjfodlcaaDoorProg
import Derived.Test.YtpicgemjfodlcaaDoorBase
import Derived.Test.YtpicgemjfodlcaaDoorUtfRunes
import Derived.Test.YtpicgemjfodlcaaDoorUtfText
import Derived.WalkSmall
set_option linter.unusedVariables false
namespace Go.Proofs.YtpicgemjfodlcaaDoor
open Go.RowKit
theorem scan_a : scan [97] 0 = ([97], none) := by simp [scan, oneL]
theorem scan_aa : scan [97, 195, 164] 0 = ([97, 228], none) := by
  have h := scan_text [97, 228] (by decide) [] 0
  rw [show textB [97, 228] ++ [] = [97, 195, 164] from by decide, scan_nil] at h
  simpa using h
theorem scan_bad1 : scan [97, 192, 128] 0 = ([97], some 1) := by simp [scan, oneL, tl, conts]
theorem scan_ff : scan [255] 0 = ([], some 0) := by simp [scan, oneL]
theorem live_runes (w : World) : Calls Tryd.prog 11 #[.string ⟨#[97, 195, 164]⟩] w fun e w' => ∃ g o c, e = .returned (.tuple #[.slice (some ⟨g, o, none⟩) 2 c, .agg #[.int .i64 0, .int .i64 0]]) ∧ g < w'.heap.size ∧ w'.cell? ⟨g, o + 1, none⟩ = some (.int .i32 228) ∧ Below w.heap.size w w' := by
  refine (runes_any ⟨#[97, 195, 164]⟩ [97, 195, 164] w rfl (by simp)).mono ?_
  rw [show badE [97, 195, 164] = 0 from by rw [badE, scan_aa]; rfl, show badA [97, 195, 164] = 0 from by rw [badA, scan_aa]; rfl, show runesOf [97, 195, 164] = [97, 228] from by rw [runesOf, scan_aa]; rfl]
  rintro e w' ⟨v, rfl, ho, hb⟩
  obtain ⟨A, c, rfl, _, hs⟩ := Sl.of_own ho
  obtain ⟨g, o, rfl, hg, hc⟩ := hs.rd 1 (rv 228) rfl
  exact ⟨g, o, c, rfl, hg, hc, hb⟩
theorem live_text1 (W : World) (N : Nat) (hN : W.heap.size = N) (hT : Tab W) : Calls Tryd.prog 15 #[.slice (some ⟨N, 0, none⟩) 2 2] (W.alloc (.cells #[.int .i32 97, .int .i32 228] 21)) fun e w' => e = .returned (.tuple #[.string ⟨#[97, 195, 164]⟩, .agg #[.int .i64 0, .int .i64 0]]) ∧ Below (W.heap.size + 1) (W.alloc (.cells #[.int .i32 97, .int .i32 228] 21)) w' := by
  subst hN
  refine (text_any [97, 228] 2 _ 2 _ rfl (by omega) (by simp) ⟨by simp, by omega, (fun h => by cases h), Rd.new W 21 #[.int .i32 97, .int .i32 228]⟩ (hT.below ((Below.refl _ W).alloc (Nat.le_refl _) _))).mono ?_
  rw [show txE [97, 228] = 0 from by decide, show txA [97, 228] = 0 from by decide, show txB [97, 228] = [97, 195, 164] from by decide]
  rintro e w' ⟨s, rfl, hs, hb⟩
  have : s = ⟨#[97, 195, 164]⟩ := by
    obtain ⟨⟨l⟩⟩ := s
    simp at hs
    subst hs; rfl
  subst this
  exact ⟨rfl, by simpa using hb⟩
theorem live_text2 (W : World) (N : Nat) (hN : W.heap.size = N) (hT : Tab W) : Calls Tryd.prog 15 #[.slice (some ⟨N, 0, none⟩) 2 2] (W.alloc (.cells #[.int .i32 97, .int .i32 55296] 21)) fun e w' => (∃ s, e = .returned (.tuple #[.string s, .agg #[.int .i64 1, .int .i64 1]])) ∧ Below (W.heap.size + 1) (W.alloc (.cells #[.int .i32 97, .int .i32 55296] 21)) w' := by
  subst hN
  refine (text_any [97, 55296] 2 _ 2 _ rfl (by omega) (by simp) ⟨by simp, by omega, (fun h => by cases h), Rd.new W 21 #[.int .i32 97, .int .i32 55296]⟩ (hT.below ((Below.refl _ W).alloc (Nat.le_refl _) _))).mono ?_
  rw [show txE [97, 55296] = 1 from by decide, show txA [97, 55296] = 1 from by decide]
  rintro e w' ⟨s, rfl, hs, hb⟩
  exact ⟨⟨s, rfl⟩, by simpa using hb⟩
theorem live_first1 (w : World) : Calls Tryd.prog 10 #[.string ⟨#[97, 192, 128]⟩] w fun e w' => e = .returned (.int .i64 1) ∧ Below w.heap.size w w' := by
  have h := first_any ⟨#[97, 192, 128]⟩ [97, 192, 128] w rfl (by simp)
  rwa [scan_bad1] at h
theorem live_first2 (w : World) : Calls Tryd.prog 10 #[.string ⟨#[97]⟩] w fun e w' => e = .returned (.int .i64 (-1)) ∧ Below w.heap.size w w' := by
  have h := first_any ⟨#[97]⟩ [97] w rfl (by simp)
  rwa [scan_a] at h
theorem live_count1 (w : World) : Calls Tryd.prog 12 #[.string ⟨#[97, 195, 164]⟩] w fun e w' => e = .returned (.int .i64 2) ∧ Below w.heap.size w w' := by
  have h := count_any ⟨#[97, 195, 164]⟩ [97, 195, 164] w rfl (by simp)
  rwa [show countI [97, 195, 164] = 2 from by rw [countI, scan_aa]; rfl] at h
theorem live_count2 (w : World) : Calls Tryd.prog 12 #[.string ⟨#[255]⟩] w fun e w' => e = .returned (.int .i64 (-1)) ∧ Below w.heap.size w w' := by
  have h := count_any ⟨#[255]⟩ [255] w rfl (by simp)
  rwa [show countI [255] = -1 from by rw [countI, scan_ff]; rfl] at h
theorem live_check1 (w : World) : Calls Tryd.prog 18 #[.string ⟨#[97, 98]⟩, .int .i64 1] w fun e w' => e = .returned (.int .i64 2) ∧ Below w.heap.size w w' := by
  have h := check_any ⟨#[97, 98]⟩ [97, 98] 1 w rfl (by simp) (by omega) (by omega)
  rwa [show checkI [(97 : UInt8), 98].length (scan [97, 98] 0).2 1 = 2 from by simp [checkI]] at h
theorem live_check2 (w : World) : Calls Tryd.prog 18 #[.string ⟨#[255]⟩, .int .i64 1] w fun e w' => e = .returned (.int .i64 9) ∧ Below w.heap.size w w' := by
  have h := check_any ⟨#[255]⟩ [255] 1 w rfl (by simp) (by omega) (by omega)
  rwa [scan_ff, show checkI [(255 : UInt8)].length (some 0) 1 = 9 from by decide] at h
theorem live_plain1 (w : World) : Calls Tryd.prog 20 #[.string ⟨#[97, 32, 98]⟩] w fun e w' => e = .returned (.bool true) ∧ Below w.heap.size w w' := by
  have h := plain_any ⟨#[97, 32, 98]⟩ [97, 32, 98] w rfl (by simp)
  rwa [show plainB [97, 32, 98] = true from by decide] at h
theorem live_plain2 (w : World) : Calls Tryd.prog 20 #[.string ⟨#[97, 10]⟩] w fun e w' => e = .returned (.bool false) ∧ Below w.heap.size w w' := by
  have h := plain_any ⟨#[97, 10]⟩ [97, 10] w rfl (by simp)
  rwa [show plainB [97, 10] = false from by decide] at h
set_option maxRecDepth 100000 in
set_option maxHeartbeats 2000000 in
theorem live3_any (w : World) (hT : Tab w) : Calls Tryd.prog 8 #[] w fun e w' => e = .returned (.bool true) ∧ Below w.heap.size w w' := by
  go_enter Tryd.func8, Tryd.ntmps8
  go_wp2_with fail
  refine (live_runes _).mono ?_
  rintro e w1 ⟨g, o, c, rfl, hg, hc, hb1⟩
  have hT1 := hT.below hb1
  go_wp2_with fail
  have hA1 : Blk (w1.alloc (.cells #[.int .i64 0, .int .i64 0] 27)) w1.heap.size 27 #[.int .i64 0, .int .i64 0] := Blk.new w1 _ _
  refine (live_text1 _ _ (by simp) (hT1.below ((Below.refl _ _).alloc (Nat.le_refl _) _))).mono ?_
  rintro e w2 ⟨rfl, hb2⟩
  have hb12 : Below w1.heap.size w1 w2 := (((Below.refl _ w1).alloc (Nat.le_refl _) _).alloc (by simp) _).trans (hb2.mono (by simp; omega))
  have hq1 : Blk w2 w1.heap.size 27 #[.int .i64 0, .int .i64 0] := (hA1.alloc _).below hb2 (by simp; omega)
  have hc2 : w2.cell? ⟨g, o + 1, none⟩ = some (.int .i32 228) := (hb12.cell (p := ⟨g, o + 1, none⟩) hg).trans hc
  have hg2 : g < w2.heap.size := by have := hb12.size; omega
  have hT2 := hT1.below hb12
  have HB1 := hid hb1
  have HB12 := hid hb12
  clear hb1 hb12 hb2 hA1 hT1 hT hc hg
  go_wp2_with fail
  have hA2 : Blk (w2.alloc (.cells #[.int .i64 0, .int .i64 0] 27)) w2.heap.size 27 #[.int .i64 0, .int .i64 0] := Blk.new w2 _ _
  refine (live_text2 _ _ (by simp) (hT2.below ((Below.refl _ _).alloc (Nat.le_refl _) _))).mono ?_
  rintro e w3 ⟨⟨sx, rfl⟩, hb3⟩
  have hb23 : Below w2.heap.size w2 w3 := (((Below.refl _ w2).alloc (Nat.le_refl _) _).alloc (by simp) _).trans (hb3.mono (by simp; omega))
  have hq2 : Blk w3 w2.heap.size 27 #[.int .i64 0, .int .i64 0] := (hA2.alloc _).below hb3 (by simp; omega)
  have hq1' := hq1.below hb23 hq1.lt
  have hc3 : w3.cell? ⟨g, o + 1, none⟩ = some (.int .i32 228) := (hb23.cell (p := ⟨g, o + 1, none⟩) hg2).trans hc2
  have hg3 : g < w3.heap.size := by have := hb23.size; omega
  have HB23 := hid hb23
  have k10 : w3.cell? ⟨w1.heap.size, 0, none⟩ = some (.int .i64 0) := hq1'.cell 0
  have k11 : w3.cell? ⟨w1.heap.size, 1, none⟩ = some (.int .i64 0) := hq1'.cell 1
  have k20 : w3.cell? ⟨w2.heap.size, 0, none⟩ = some (.int .i64 0) := hq2.cell 0
  have k21 : w3.cell? ⟨w2.heap.size, 1, none⟩ = some (.int .i64 0) := hq2.cell 1
  have l1 : w1.heap.size < w3.heap.size := hq1'.lt
  have l2 : w2.heap.size < w3.heap.size := hq2.lt
  clear hb23 hb3 hA2 hT2 hc2 hg2 hq1 hq1' hq2
  go_wp2_with fail
  refine (live_first1 _).mono ?_
  rintro e w4 ⟨rfl, hb4⟩
  go_wp2_with fail
  refine (live_first2 _).mono ?_
  rintro e w5 ⟨rfl, hb5⟩
  go_wp2_with fail
  refine (live_count1 _).mono ?_
  rintro e w6 ⟨rfl, hb6⟩
  go_wp2_with fail
  refine (live_count2 _).mono ?_
  rintro e w7 ⟨rfl, hb7⟩
  go_wp2_with fail
  refine (live_check1 _).mono ?_
  rintro e w8 ⟨rfl, hb8⟩
  go_wp2_with fail
  refine (live_check2 _).mono ?_
  rintro e w9 ⟨rfl, hb9⟩
  go_wp2_with fail
  refine (live_plain1 _).mono ?_
  rintro e w10 ⟨rfl, hb10⟩
  go_wp2_with fail
  refine (live_plain2 _).mono ?_
  rintro e w11 ⟨rfl, hb11⟩
  go_wp2_with fail
  go_ret
  refine ⟨rfl, ?_⟩
  have h13 := bw_t (bw_t HB1.out HB12.out) HB23.out
  exact bw_t (bw_t (bw_t (bw_t (bw_t (bw_t (bw_t (bw_t (bw_a h13 _) hb4) hb5) hb6) hb7) hb8) hb9) hb10) hb11
end Go.Proofs.YtpicgemjfodlcaaDoor
