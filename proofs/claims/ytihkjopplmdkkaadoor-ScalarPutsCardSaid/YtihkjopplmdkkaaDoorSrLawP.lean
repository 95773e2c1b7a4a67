/- ScalarPuts: a walk. -/
import Derived.Test.YtihkjopplmdkkaaDoorSrL
import Derived.Test.YtihkjopplmdkkaaDoorSrT
set_option linter.unusedVariables false
namespace Go.Proofs.YtihkjopplmdkkaaDoor
open Go.RowKit
set_option maxRecDepth 100000 in
set_option maxHeartbeats 2000000 in
theorem scalarPuts_any (s : ByteArray) (w : World) (hl : s.size ≤ 9223372036854775807) (hT : Tab18 w) :
    Calls Tryd.prog 7 #[.string s] w fun e w' => e = .returned (.bool true) ∧ Below w.heap.size w w' := by
  obtain ⟨bs, hs⟩ : ∃ bs, s.data.toList = bs := ⟨_, rfl⟩
  have hsz : s.size = bs.length := by rw [Lib.size_eq, hs]
  have HLV := hid (live18_any w hT)
  by_cases h5 : 5000 < bs.length
  · clear hs
    generalize bs.length = n at *
    go_enter Tryd.func7, Tryd.ntmps7
    go_wp2_with fail
    refine HLV.out.mono ?_
    rintro e w1 ⟨rfl, hb1⟩
    go_wp2_with fail
    go_ret
    exact ⟨rfl, hb1⟩
  · have H1 := hid fun w => sPlain_any s bs w hs (by omega)
    have H2 := hid fun w => rPlain_any s bs w hs (by omega)
    have H3 := hid fun w => sQuote_any s bs w hs (by omega)
    have H4 := hid fun w => rQuote_any s bs w hs (by omega)
    have H5 := hid fun w => sPut_any s bs w hs (by omega)
    have H6 := hid fun w => rPut_any s bs w hs (by omega)
    clear hs
    generalize plB bs = p at *
    generalize quB bs = q at *
    generalize puL bs = u at *
    generalize bs.length = n at *
    go_enter Tryd.func7, Tryd.ntmps7
    go_wp2_with fail
    refine HLV.out.mono ?_
    rintro e w1 ⟨rfl, hb1⟩
    go_wp2_with fail
    refine (H1.out _).mono ?_
    rintro e w2 ⟨rfl, rfl⟩
    go_wp2_with fail
    refine (H2.out _).mono ?_
    rintro e w3 ⟨rfl, rfl⟩
    have hpp : (p == p) = true := by simp
    go_wp2_with fail
    refine (H3.out _).mono ?_
    rintro e w4 ⟨t4, rfl, ht4, hb4⟩
    go_wp2_with fail
    refine (H4.out _).mono ?_
    rintro e w5 ⟨t5, rfl, ht5, hb5⟩
    obtain rfl := str_ext ht4 ht5
    have HB5 := hid (bw_t (bw_t hb1 hb4) hb5)
    clear ht4 ht5 hb1 hb4 hb5
    go_wp2_with fail
    refine (H5.out _).mono ?_
    rintro e w6 ⟨t6, rfl, ht6, hb6⟩
    go_wp2_with fail
    refine (H6.out _).mono ?_
    rintro e w7 ⟨t7, rfl, ht7, hb7⟩
    obtain rfl := str_ext ht6 ht7
    have HB7 := hid (bw_t (bw_t HB5.out hb6) hb7)
    clear ht6 ht7 hb6 hb7
    go_wp2_with fail
    go_ret
    exact ⟨ret_bool (by simp), HB7.out⟩
end Go.Proofs.YtihkjopplmdkkaaDoor
