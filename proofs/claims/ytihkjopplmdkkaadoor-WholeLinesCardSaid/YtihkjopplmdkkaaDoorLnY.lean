/- What must be of a text in a line: a walk. -/
import Derived.Test.YtihkjopplmdkkaaDoorLnV
import Derived.Test.YtihkjopplmdkkaaDoorLnLawR
import Derived.Test.YtihkjopplmdkkaaDoorSrLawR
set_option linter.unusedVariables false
namespace Go.Proofs.YtihkjopplmdkkaaDoor
open Go.RowKit
theorem lns_w : lnsL [32, 32, 34, 97, 32, 35, 32, 98, 34, 32, 35, 32, 99] = [[32, 32, 34, 97, 32, 35, 32, 98, 34, 32, 35, 32, 99]] := by
  rw [← spG_spl _ _ (Nat.le_refl _)]; decide +kernel
theorem all_w : allL [32, 32, 34, 97, 32, 35, 32, 98, 34, 32, 35, 32, 99] = ([(1, 2, [34, 97, 32, 35, 32, 98, 34])], 0, 0) := by
  rw [allL_ok (by simp [scan, oneL]) (by unfold atLn; rw [lns_w]; decide +kernel), lns_w]
  simp only [List.length_cons, List.length_nil, acR, atLn, lns_w]
  decide +kernel
theorem pu_w : puL [97, 32, 35, 32, 98] = [34, 97, 32, 35, 32, 98, 34] := by decide +kernel
theorem rd_w : rdE [34, 97, 32, 35, 32, 98, 34] = 0 ∧ rdT [34, 97, 32, 35, 32, 98, 34] = [97, 32, 35, 32, 98] := by
  rw [← pu_w, rdE_pu, rdT_pu]
  have : (scan [97, 32, 35, 32, 98] 0).2 = none := by simp [scan, oneL]
  rw [this]; decide
set_option maxRecDepth 100000 in
set_option maxHeartbeats 4000000 in
theorem awake17_any (w : World) :
    Calls Tryd.prog 35 #[] w fun e w' => e = .returned (.bool true) ∧ Below w.heap.size w w' := by
  have H1 := hid fun w => (lall_any ⟨#[32, 32, 34, 97, 32, 35, 32, 98, 34, 32, 35, 32, 99]⟩ _ w rfl (by decide)).mono (R' := fun e w' => ∃ A c, e = .returned (.tuple #[.slice A 1 c, .agg #[.int .i64 0, .int .i64 0]]) ∧ w'.ownsRow w.heap.size 39 3 (.slice A 1 c) 1 (List.flatMap lcC [(1, 2, [34, 97, 32, 35, 32, 98, 34])]) ∧ Below w.heap.size w w') fun e w' h => by unfold LAR at h; rw [all_w] at h; exact h
  have H2 := hid fun w => (sRead_any ⟨#[34, 97, 32, 35, 32, 98, 34]⟩ [34, 97, 32, 35, 32, 98, 34] w rfl (by decide)).mono (R' := fun e w' => e = .returned (.tuple #[.string ⟨#[97, 32, 35, 32, 98]⟩, .int .i64 0]) ∧ Below w.heap.size w w') fun e w' h => by
    obtain ⟨t, h1, h2, h3⟩ := h
    rw [rd_w.1] at h1
    rw [rd_w.2] at h2
    exact ⟨by rw [h1, show t = ⟨#[97, 32, 35, 32, 98]⟩ from str_ext h2 rfl], h3⟩
  go_enter Tryd.func35, Tryd.ntmps35
  go_wp2_with fail
  refine (H1.out _).mono ?_
  rintro e w1 ⟨A1, c1, rfl, hr1, hb1⟩
  have HB1 := hid hb1
  have HR1 := hid hr1
  have hrow := own_below hr1 (bw_a (Below.refl _ w1) (.cells #[.int .i64 0, .int .i64 0] 26))
  obtain ⟨g, o, rfl, hg, -, s0, s1, s2⟩ := row3_at hrow rfl 0 (by decide)
  simp only [List.getElem_cons_zero, Nat.zero_mul, Nat.add_zero] at s0 s1 s2
  clear hb1 hr1 hrow
  go_wp2_with fail
  refine (H2.out _).mono ?_
  rintro e w2 ⟨rfl, hb2⟩
  have t1 := (hb2.cell (p := ⟨g, o + 1, none⟩) hg).trans s1
  have HB2 := hid hb2
  clear hb2
  go_wp2_with fail
  go_ret
  exact ⟨rfl, bw_t (bw_a HB1.out _) HB2.out⟩
end Go.Proofs.YtihkjopplmdkkaaDoor
