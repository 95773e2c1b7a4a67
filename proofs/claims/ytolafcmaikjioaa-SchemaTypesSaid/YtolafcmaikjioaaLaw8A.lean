/- The walk of SchemaTypes. -/
import Derived.Test.YtolafcmaikjioaaLive8
set_option linter.unusedVariables false
namespace Go.Proofs.Ytolafcmaikjioaa
open Go.RowKit
set_option maxRecDepth 100000 in
set_option maxHeartbeats 2000000 in
theorem schTypes_any (t : Int) (w : World) (h1 : -9223372036854775808 ≤ t) (h2 : t ≤ 9223372036854775807) : Calls Try.prog 8 #[.int .i64 t] w fun e w' => e = .returned (.bool true) ∧ Below w.heap.size w w' := by
  have hw := fun W => swire_any t W
  have hd := fun W => rwire_any t W
  have hm := fun W => smost_any t W
  have hn := fun W => rmost_any t W
  have HL := hid (live8_any w)
  by_cases hr : 1 ≤ t ∧ t ≤ 10
  · have hB : wireK t = true := decide_eq_true hr
    have hN : wireN t = wireD t := by
      unfold wireN wireD
      obtain ⟨ha, hb⟩ := hr
      by_cases h4 : t ≤ 4
      · rw [if_neg (by omega), if_neg (by omega), if_neg (by omega), if_pos h4]
      · rw [if_neg h4]
        by_cases h5 : t = 5
        · rw [if_pos h5, if_pos h5]
        · rw [if_neg h5, if_neg h5]
          by_cases h6 : t = 6
          · rw [if_pos h6, if_pos h6]
          · rw [if_neg h6, if_neg h6, if_pos (by omega)]
    rw [hB, hN] at hw
    obtain ⟨r1, r2⟩ := hr
    have r3 : ¬ t < 1 := by omega
    have r4 : ¬ 10 < t := by omega
    clear hB hN
    generalize wireD t = x at *
    generalize mostN t = y at *
    have HW := hid hw
    have HD := hid hd
    have HM := hid hm
    have HN := hid hn
    clear hw hd hm hn
    go_enter Try.func8, Try.ntmps8
    go_wp2_with fail
    refine HL.out.mono ?_
    rintro e w1 ⟨rfl, hb1⟩
    go_wp2_with (first | (go_at_call 28; refine (HW.out _).mono ?_; rintro e w2 ⟨rfl, rfl⟩) | (go_at_call 29; refine (HD.out _).mono ?_; rintro e w3 ⟨rfl, rfl⟩) | (go_at_call 30; refine (HM.out _).mono ?_; rintro e w4 ⟨rfl, rfl⟩) | (go_at_call 31; refine (HN.out _).mono ?_; rintro e w5 ⟨rfl, rfl⟩))
    go_ret
    exact ⟨rfl, hb1⟩
  · have hB : wireK t = false := decide_eq_false hr
    have hN : wireN t = 0 := by unfold wireN; rw [if_neg (by omega), if_neg (by omega), if_neg (by omega)]
    rw [hB, hN] at hw
    clear hB hN hd
    generalize mostN t = y at *
    have HW := hid hw
    have HM := hid hm
    have HN := hid hn
    clear hw hm hn
    by_cases r1 : t < 1
    · have r2 : ¬ 1 ≤ t := by omega
      clear hr
      go_enter Try.func8, Try.ntmps8
      go_wp2_with fail
      refine HL.out.mono ?_
      rintro e w1 ⟨rfl, hb1⟩
      go_wp2_with (first | (go_at_call 28; refine (HW.out _).mono ?_; rintro e w2 ⟨rfl, rfl⟩) | (go_at_call 30; refine (HM.out _).mono ?_; rintro e w4 ⟨rfl, rfl⟩) | (go_at_call 31; refine (HN.out _).mono ?_; rintro e w5 ⟨rfl, rfl⟩))
      go_ret
      exact ⟨rfl, hb1⟩
    · have r2 : 1 ≤ t := by omega
      have r3 : 10 < t := by omega
      have r4 : ¬ t ≤ 10 := by omega
      clear hr
      go_enter Try.func8, Try.ntmps8
      go_wp2_with fail
      refine HL.out.mono ?_
      rintro e w1 ⟨rfl, hb1⟩
      go_wp2_with (first | (go_at_call 28; refine (HW.out _).mono ?_; rintro e w2 ⟨rfl, rfl⟩) | (go_at_call 30; refine (HM.out _).mono ?_; rintro e w4 ⟨rfl, rfl⟩) | (go_at_call 31; refine (HN.out _).mono ?_; rintro e w5 ⟨rfl, rfl⟩))
      go_ret
      exact ⟨rfl, hb1⟩
end Go.Proofs.Ytolafcmaikjioaa
