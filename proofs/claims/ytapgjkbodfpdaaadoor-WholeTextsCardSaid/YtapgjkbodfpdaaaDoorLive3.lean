/- What is awake in layer 3. -/
import Derived.Test.YtapgjkbodfpdaaaDoorProg
import Derived.Test.YtapgjkbodfpdaaaDoorBase
import Derived.Test.YtapgjkbodfpdaaaDoorUtfRunes
import Derived.Test.YtapgjkbodfpdaaaDoorUtfText
import Derived.WalkSmall
set_option linter.unusedVariables false
namespace Go.Proofs.YtapgjkbodfpdaaaDoor
open Go.RowKit
theorem scan_a : scan [97] 0 = ([97], none) := by simp [scan, oneL]
theorem scan_aa : scan [97, 195, 164] 0 = ([97, 228], none) := by
  have h := scan_text [97, 228] (by decide) [] 0
  rw [show textB [97, 228] ++ [] = [97, 195, 164] from by decide, scan_nil] at h
  simpa using h
theorem scan_bad1 : scan [97, 192, 128] 0 = ([97], some 1) := by simp [scan, oneL, tl, conts]
theorem scan_ff : scan [255] 0 = ([], some 0) := by simp [scan, oneL]
theorem live_runes (w : World) : Calls Tryd.prog 9 #[.string ⟨#[97, 195, 164]⟩] w fun e w' => ∃ g o c, e = .returned (.tuple #[.slice (some ⟨g, o, none⟩) 2 c, .agg #[.int .i64 0, .int .i64 0]]) ∧ g < w'.heap.size ∧ w'.cell? ⟨g, o + 1, none⟩ = some (.int .i32 228) ∧ Below w.heap.size w w' := by
  refine (runes_any ⟨#[97, 195, 164]⟩ [97, 195, 164] w rfl (by simp)).mono ?_
  rw [show badE [97, 195, 164] = 0 from by rw [badE, scan_aa]; rfl, show badA [97, 195, 164] = 0 from by rw [badA, scan_aa]; rfl, show runesOf [97, 195, 164] = [97, 228] from by rw [runesOf, scan_aa]; rfl]
  rintro e w' ⟨v, rfl, ho, hb⟩
  obtain ⟨A, c, rfl, _, hs⟩ := Sl.of_own ho
  obtain ⟨g, o, rfl, hg, hc⟩ := hs.rd 1 (rv 228) rfl
  exact ⟨g, o, c, rfl, hg, hc, hb⟩
theorem live_text1 (W : World) (N : Nat) (hN : W.heap.size = N) (hT : Tab W) : Calls Tryd.prog 5 #[.slice (some ⟨N, 0, none⟩) 2 2] (W.alloc (.cells #[.int .i32 97, .int .i32 228] 21)) fun e w' => e = .returned (.tuple #[.string ⟨#[97, 195, 164]⟩, .agg #[.int .i64 0, .int .i64 0]]) ∧ Below (W.heap.size + 1) (W.alloc (.cells #[.int .i32 97, .int .i32 228] 21)) w' := by
  subst hN
  refine (text_any [97, 228] 2 _ 2 _ rfl (by omega) (by simp) ⟨by simp, by omega, (fun h => by cases h), Rd.new W 21 #[.int .i32 97, .int .i32 228]⟩ (hT.below ((Below.refl _ W).alloc (Nat.le_refl _) _))).mono ?_
  rw [show txE [97, 228] = 0 from by decide, show txA [97, 228] = 0 from by decide, show txB [97, 228] = [97, 195, 164] from by decide]
  rintro e w' ⟨s, rfl, hs, hb⟩
  have : s = ⟨#[97, 195, 164]⟩ := by
    obtain ⟨⟨l⟩⟩ := s
    simp at hs
    subst hs; rfl
  subst this
  exact ⟨rfl, by simpa using hb⟩
theorem live_text2 (W : World) (N : Nat) (hN : W.heap.size = N) (hT : Tab W) : Calls Tryd.prog 5 #[.slice (some ⟨N, 0, none⟩) 2 2] (W.alloc (.cells #[.int .i32 97, .int .i32 55296] 21)) fun e w' => (∃ s, e = .returned (.tuple #[.string s, .agg #[.int .i64 1, .int .i64 1]])) ∧ Below (W.heap.size + 1) (W.alloc (.cells #[.int .i32 97, .int .i32 55296] 21)) w' := by
  subst hN
  refine (text_any [97, 55296] 2 _ 2 _ rfl (by omega) (by simp) ⟨by simp, by omega, (fun h => by cases h), Rd.new W 21 #[.int .i32 97, .int .i32 55296]⟩ (hT.below ((Below.refl _ W).alloc (Nat.le_refl _) _))).mono ?_
  rw [show txE [97, 55296] = 1 from by decide, show txA [97, 55296] = 1 from by decide]
  rintro e w' ⟨s, rfl, hs, hb⟩
  exact ⟨⟨s, rfl⟩, by simpa using hb⟩
theorem live_first1 (w : World) : Calls Tryd.prog 20 #[.string ⟨#[97, 192, 128]⟩] w fun e w' => e = .returned (.int .i64 1) ∧ Below w.heap.size w w' := by
  have h := first_any ⟨#[97, 192, 128]⟩ [97, 192, 128] w rfl (by simp)
  rwa [scan_bad1] at h
theorem live_first2 (w : World) : Calls Tryd.prog 20 #[.string ⟨#[97]⟩] w fun e w' => e = .returned (.int .i64 (-1)) ∧ Below w.heap.size w w' := by
  have h := first_any ⟨#[97]⟩ [97] w rfl (by simp)
  rwa [scan_a] at h
theorem live_count1 (w : World) : Calls Tryd.prog 12 #[.string ⟨#[97, 195, 164]⟩] w fun e w' => e = .returned (.int .i64 2) ∧ Below w.heap.size w w' := by
  have h := count_any ⟨#[97, 195, 164]⟩ [97, 195, 164] w rfl (by simp)
  rwa [show countI [97, 195, 164] = 2 from by rw [countI, scan_aa]; rfl] at h
theorem live_count2 (w : World) : Calls Tryd.prog 12 #[.string ⟨#[255]⟩] w fun e w' => e = .returned (.int .i64 (-1)) ∧ Below w.heap.size w w' := by
  have h := count_any ⟨#[255]⟩ [255] w rfl (by simp)
  rwa [show countI [255] = -1 from by rw [countI, scan_ff]; rfl] at h
end Go.Proofs.YtapgjkbodfpdaaaDoor
