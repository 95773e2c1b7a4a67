/- LineReads: a walk. -/
import Derived.Test.YtihkjopplmdkkaaDoorLnL
set_option linter.unusedVariables false
namespace Go.Proofs.YtihkjopplmdkkaaDoor
open Go.RowKit
theorem allL_len (bs : List UInt8) : (allL bs).1.length ≤ bs.length + 1 := by
  have h1 := acR_len bs (lnsL bs).length
  have h2 := cntL_spl bs.length bs (Nat.le_refl _)
  have h3 := cntL_le bs
  unfold allL
  split
  · simp
  · split
    · simp
    · simp only; omega
set_option maxRecDepth 100000 in
set_option maxHeartbeats 4000000 in
theorem lineReads_any (s : ByteArray) (w : World) (hl : s.size ≤ 9223372036854775807) :
    Calls Tryd.prog 3 #[.string s] w fun e w' => e = .returned (.bool true) ∧ Below w.heap.size w w' := by
  obtain ⟨bs, hs⟩ : ∃ bs, s.data.toList = bs := ⟨_, rfl⟩
  have hsz : s.size = bs.length := by rw [Lib.size_eq, hs]
  have HLV := hid (live17_any w)
  by_cases h5 : 2000 < bs.length
  · clear hs
    generalize bs.length = n at *
    go_enter Tryd.func3, Tryd.ntmps3
    go_wp2_with fail
    refine HLV.out.mono ?_
    rintro e w1 ⟨rfl, hb1⟩
    go_wp2_with fail
    go_ret
    exact ⟨rfl, hb1⟩
  · have hal := allL_len bs
    have H1 := hid fun w => (lall_any s bs w hs (by omega))
    have H2 := hid fun w => (rall17_any s bs w hs (by omega))
    have H4 := hid fun w => lcount_any s bs w hs (by omega)
    have H5 := hid fun w => rsplit17_any s bs w hs (by omega)
    have H6 := hid fun w => strip_any s bs w hs (by omega)
    have H7 := hid fun w => rstrip_any s bs w hs (by omega)
    rw [cntL_spl _ bs (Nat.le_refl _)] at H5
    unfold LAR at H1
    unfold LDR at H2
    clear hs
    generalize allL bs = R at *
    obtain ⟨X, er, at'⟩ := R
    simp only at H1 H2 hal
    generalize cntL bs = cn at *
    generalize bs.length = n at *
    generalize hXn : X.length = xn at *
    have HXN := hid hXn
    clear hXn
    go_enter Tryd.func3, Tryd.ntmps3
    go_wp2_with fail
    refine HLV.out.mono ?_
    rintro e w1 ⟨rfl, hb1⟩
    have HB1 := hid hb1
    clear hb1
    go_wp2_with fail
    refine (H1.out _).mono ?_
    rintro e w2 ⟨A, c, rfl, hr1, hb2⟩
    have HR1 := hid hr1
    have HB2 := hid hb2
    clear hr1 hb2
    go_wp2_with fail
    refine (H2.out _).mono ?_
    rintro e w3 ⟨B, d, rfl, hr2, hb3⟩
    have k1 := ((Blk.new w2 26 #[.int .i64 er, .int .i64 at']).below hb3 (by rw [World.size_alloc]; omega)).alloc (.cells #[.int .i64 er, .int .i64 at'] 26)
    have k2 := Blk.new w3 26 #[.int .i64 er, .int .i64 at']
    have b1 : Below w2.heap.size w2 (w3.alloc (.cells #[.int .i64 er, .int .i64 at'] 26)) := bw_a (bw_t (bw_a (Below.refl _ w2) (.cells #[.int .i64 er, .int .i64 at'] 26)) hb3) (.cells #[.int .i64 er, .int .i64 at'] 26)
    have ha := own_below HR1.out b1
    have hb := own_below hr2 (bw_a (Below.refl _ w3) (.cells #[.int .i64 er, .int .i64 at'] 26))
    have hbw := bw_t (bw_t HB1.out HB2.out) b1
    have hsm := lsame_yes X xn A B c d _ _ _ HXN.out (by omega) ha hb
    have p1 := k1.lt
    have p2 := k2.lt
    have x0 := k1.cell 0
    have x1 := k1.cell 1
    have y0 := k2.cell 0
    have y1 := k2.cell 1
    simp only [List.getElem?_toArray, List.getElem?_cons_zero, List.getElem?_cons_succ] at x0 x1 y0 y1
    have HSM := hid hsm
    have HBW := hid hbw
    clear ha hb hbw hsm k1 k2 b1 hb3 hr2 HR1 HB1 HB2
    go_wp2_with fail
    refine HSM.out.mono ?_
    rintro e w4 ⟨rfl, hb4⟩
    have HB4 := hid hb4
    clear hb4
    go_wp2_with fail
    refine (H4.out _).mono ?_
    rintro e w5 ⟨rfl, rfl⟩
    go_wp2_with fail
    refine (H5.out _).mono ?_
    rintro e w6 ⟨v, rfl, hr6, hb6⟩
    obtain ⟨A6, c6, rfl⟩ := row_sl hr6
    have HB6 := hid hb6
    clear hr6 hb6
    go_wp2_with fail
    refine (H6.out _).mono ?_
    rintro e w7 ⟨t, rfl, ht, rfl⟩
    go_wp2_with fail
    refine (H7.out _).mono ?_
    rintro e w8 ⟨u, rfl, hu, rfl⟩
    obtain rfl := str_ext ht hu
    clear ht hu
    go_wp2_with fail
    go_ret
    exact ⟨ret_bool (by simp), bw_t (bw_t HBW.out HB4.out) HB6.out⟩
end Go.Proofs.YtihkjopplmdkkaaDoor
