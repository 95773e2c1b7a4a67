/- What must be of layer 17, whatever is asked: a walk. -/
import Derived.Test.YtepbfgniocjagaaDoorLnJ
set_option linter.unusedVariables false
namespace Go.Proofs.YtepbfgniocjagaaDoor
open Go.RowKit
theorem lns_c1 : lnsL [97, 10, 32, 32, 10, 35, 32, 120, 10, 32, 32, 98, 32, 35, 32, 99] = [[97], [32, 32], [35, 32, 120], [32, 32, 98, 32, 35, 32, 99]] := by
  rw [← spG_spl _ _ (Nat.le_refl _)]; decide +kernel
theorem lns_c2 : lnsL [97, 10, 9, 98] = [[97], [9, 98]] := by
  rw [← spG_spl _ _ (Nat.le_refl _)]; decide +kernel
theorem all_c1 : allL [97, 10, 32, 32, 10, 35, 32, 120, 10, 32, 32, 98, 32, 35, 32, 99] = ([(1, 0, [97]), (4, 2, [98])], 0, 0) := by
  rw [allL_ok (by simp [scan, oneL]) (by unfold atLn; rw [lns_c1]; decide +kernel), lns_c1]
  simp only [List.length_cons, List.length_nil, acR, atLn, lns_c1]
  decide +kernel
theorem all_c2 : allL [97, 10, 9, 98] = ([], 3, 2) := by
  rw [allL_dirt (j := 1) (by simp [scan, oneL]) (by rw [lns_c2]; decide) (by unfold atLn; rw [lns_c2]; decide +kernel) (by unfold atLn; rw [lns_c2]; decide +kernel)]; rfl
theorem all_c3 : allL [97, 10, 255] = ([], 9, 2) := by
  rw [allL_utf (k := 2) (by simp [scan, oneL])]; decide +kernel
theorem strip_c : stripL [97, 32, 34, 98, 32, 35, 32, 99, 34, 32, 35, 32, 100] = [97, 32, 34, 98, 32, 35, 32, 99, 34] := by decide +kernel
set_option maxRecDepth 100000 in
set_option maxHeartbeats 4000000 in
theorem live17_any (w : World) :
    Calls Tryd.prog 8 #[] w fun e w' => e = .returned (.bool true) ∧ Below w.heap.size w w' := by
  have H1 := hid fun w => (lall_any ⟨#[97, 10, 32, 32, 10, 35, 32, 120, 10, 32, 32, 98, 32, 35, 32, 99]⟩ _ w rfl (by decide)).mono (R' := fun e w' => ∃ A c, e = .returned (.tuple #[.slice A 2 c, .agg #[.int .i64 0, .int .i64 0]]) ∧ w'.ownsRow w.heap.size 35 3 (.slice A 2 c) 2 (List.flatMap lcC [(1, 0, [97]), (4, 2, [98])]) ∧ Below w.heap.size w w') fun e w' h => by unfold LAR at h; rw [all_c1] at h; exact h
  have H2 := hid fun w => (lall_any ⟨#[97, 10, 9, 98]⟩ _ w rfl (by decide)).mono (R' := fun e w' => ∃ A c, e = .returned (.tuple #[.slice A 0 c, .agg #[.int .i64 3, .int .i64 2]]) ∧ Below w.heap.size w w') fun e w' h => by unfold LAR at h; rw [all_c2] at h; obtain ⟨A, c, h1, -, h3⟩ := h; exact ⟨A, c, h1, h3⟩
  have H3 := hid fun w => (lall_any ⟨#[97, 10, 255]⟩ _ w rfl (by decide)).mono (R' := fun e w' => ∃ A c, e = .returned (.tuple #[.slice A 0 c, .agg #[.int .i64 9, .int .i64 2]]) ∧ Below w.heap.size w w') fun e w' h => by unfold LAR at h; rw [all_c3] at h; obtain ⟨A, c, h1, -, h3⟩ := h; exact ⟨A, c, h1, h3⟩
  have H4 := hid fun w => (strip_any ⟨#[97, 32, 34, 98, 32, 35, 32, 99, 34, 32, 35, 32, 100]⟩ _ w rfl (by decide)).mono (R' := fun e w' => e = .returned (.string ⟨#[97, 32, 34, 98, 32, 35, 32, 99, 34]⟩) ∧ w = w') fun e w' h => by obtain ⟨t, h1, h2, h3⟩ := h; exact ⟨by rw [h1, show t = ⟨#[97, 32, 34, 98, 32, 35, 32, 99, 34]⟩ from str_ext h2 (show _ = stripL _ from strip_c.symm)], h3⟩
  have H5 := hid fun (A : Option Addr) (c B1 : Nat) w (h : w.ownsRow B1 35 3 (.slice A 2 c) 2 (List.flatMap lcC [(1, 0, [97]), (4, 2, [98])])) => (ljoin_any [(1, 0, [97]), (4, 2, [98])] 2 A c B1 w rfl (by decide) (by decide) h).mono (R' := fun e w' => e = .returned (.string ⟨#[97, 10, 32, 32, 98, 10]⟩) ∧ Below w.heap.size w w') fun e w' h => by obtain ⟨t, h1, h2, h3⟩ := h; exact ⟨by rw [h1, show t = ⟨#[97, 10, 32, 32, 98, 10]⟩ from str_ext h2 (by decide +kernel)], h3⟩
  have H6 := hid fun w => (lcount_any ⟨#[97, 10, 98]⟩ [97, 10, 98] w rfl (by decide))
  have H7 := hid fun w => (lcount_any ⟨#[]⟩ [] w rfl (by decide))
  rw [show cntL [97, 10, 98] = 2 from by decide +kernel] at H6
  rw [show cntL [] = 0 from by decide +kernel] at H7
  go_enter Tryd.func8, Tryd.ntmps8
  go_wp2_with fail
  refine (H1.out _).mono ?_
  rintro e w1 ⟨A1, c1, rfl, hr1, hb1⟩
  have HB1 := hid hb1
  have HR1 := hid hr1
  clear hb1 hr1
  go_wp2_with fail
  refine (H2.out _).mono ?_
  rintro e w2 ⟨A2, c2, rfl, hb2⟩
  have HB2 := hid hb2
  clear hb2
  go_wp2_with fail
  refine (H3.out _).mono ?_
  rintro e w3 ⟨A3, c3, rfl, hb3⟩
  go_wp2_with fail
  have k1 := (((Blk.new w1 28 #[.int .i64 0, .int .i64 0]).below HB2.out (by rw [World.size_alloc]; omega)).alloc (.cells #[.int .i64 3, .int .i64 2] 28)).below hb3 (by have := HB2.out.size; rw [World.size_alloc] at this ⊢; omega) |>.alloc (.cells #[.int .i64 9, .int .i64 2] 28)
  have k2 := (((Blk.new w2 28 #[.int .i64 3, .int .i64 2]).below hb3 (by rw [World.size_alloc]; omega)).alloc (.cells #[.int .i64 9, .int .i64 2] 28))
  have k3 := Blk.new w3 28 #[.int .i64 9, .int .i64 2]
  have b1 : Below w1.heap.size w1 (w3.alloc (.cells #[.int .i64 9, .int .i64 2] 28)) := bw_a (bw_t (bw_a (bw_t (bw_a (Below.refl _ w1) (.cells #[.int .i64 0, .int .i64 0] 28)) HB2.out) (.cells #[.int .i64 3, .int .i64 2] 28)) hb3) (.cells #[.int .i64 9, .int .i64 2] 28)
  have hrow := own_below HR1.out b1
  have hbw := bw_t HB1.out b1
  have p1 := k1.lt
  have p2 := k2.lt
  have p3 := k3.lt
  generalize w3.alloc (.cells #[.int .i64 9, .int .i64 2] 28) = W3 at *
  generalize w1.heap.size = q1 at *
  generalize w2.heap.size = q2 at *
  have x0 := k1.cell 0
  have x1 := k1.cell 1
  have y0 := k2.cell 0
  have y1 := k2.cell 1
  have z0 := k3.cell 0
  have z1 := k3.cell 1
  simp only [List.getElem?_toArray, List.getElem?_cons_zero, List.getElem?_cons_succ] at x0 x1 y0 y1 z0 z1
  obtain ⟨g, o, rfl, hg, -, s0, s1, s2⟩ := row3_at hrow rfl 1 (by decide)
  simp only [List.getElem_cons_succ, List.getElem_cons_zero, Nat.one_mul] at s0 s1 s2
  have HROW := hid hrow
  have HBW := hid hbw
  have H5' := hid (H5.out _ _ _ _ hrow)
  clear hrow hbw b1 k1 k2 k3 HB1 HB2 HR1 hb3 H1 H2 H3 H5
  refine (H4.out _).mono ?_
  rintro e w4 ⟨rfl, rfl⟩
  go_wp2_with fail
  refine H5'.out.mono ?_
  rintro e w5 ⟨rfl, hb5⟩
  have HB5 := hid hb5
  clear hb5
  go_wp2_with fail
  refine (H6.out _).mono ?_
  rintro e w6 ⟨rfl, rfl⟩
  go_wp2_with fail
  refine (H7.out _).mono ?_
  rintro e w7 ⟨rfl, rfl⟩
  go_wp2_with fail
  go_ret
  exact ⟨rfl, bw_t HBW.out HB5.out⟩
end Go.Proofs.YtepbfgniocjagaaDoor
