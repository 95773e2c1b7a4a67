/- The walk of ResyncFinds. -/
import Derived.Test.YtgpkjlaplmdnaaaRsLive
import Derived.Test.YtgpkjlaplmdnaaaRsRef
import Derived.Test.YtgpkjlaplmdnaaaRsSame
import Derived.Test.YtgpkjlaplmdnaaaRsM5
set_option linter.unusedVariables false
namespace Go.Proofs.Ytgpkjlaplmdnaaa
open Go.RowKit
theorem RdR.any {w w' : World} {bs : List UInt8} {e : Ending} (h : RdR w bs e w') : ∃ (ty L nn q : Nat) (A : Option Addr), e = .returned (.tuple #[.agg #[.int .u8 (ty : Int), .slice A L q], .int .i64 (nn : Int), .int .i64 (Fr.rE bs : Nat)]) ∧ Below w.heap.size w w' := by
  rcases h with ⟨⟨h0, A, c, rfl, -⟩ | ⟨h0, rfl⟩, hb⟩
  · exact ⟨_, _, _, _, _, by rw [h0]; rfl, hb⟩
  · exact ⟨0, 0, 0, 0, none, rfl, hb⟩
theorem bw_dq2 {a b : World} {B : Nat} (h : Below B a b) (n : Nat) : Below B a (b.drewN n) := ⟨h.os, h.tape, h.output, h.size, h.block⟩
set_option maxRecDepth 100000 in
set_option maxHeartbeats 4000000 in
theorem resyncFinds_any (bs : List UInt8) (n : Nat) (A : Option Addr) (c : Nat) (w : World) (hn : bs.length = n) (hS : Sl w A c (bs.map bv)) :
    Calls Try.prog 6 #[.slice A n c] w fun e w' => e = .returned (.bool true) ∧ Below w.heap.size w w' := by
  have hcap : n ≤ 9223372036854775807 := by have h1 := hS.cap; have h2 := hS.small; rw [List.length_map] at h1; omega
  have HL := hid (live14_any w)
  by_cases hbig : 3000 < n
  · clear hn hS
    go_enter Try.func6, Try.ntmps6
    go_wp2_with fail
    refine HL.out.mono ?_
    rintro e w1 ⟨rfl, hb1⟩
    go_wp2_with fail
    go_ret
    exact ⟨rfl, hb1⟩
  have hpt := Rs.psum_tot false bs
  have hp1 := fun f (h : f ∈ (Rs.wk false bs 0).1) => Rs.ok_put ((Rs.wk_facts false bs 0).1 f h).2.1
  have hp2 := fun f (h : f ∈ (Rs.wk true bs 0).1) => Rs.ok_put ((Rs.wk_facts true bs 0).1 f h).2.1
  have hall := fun W (hW : Below w.heap.size w W) => (sall_any bs n A c W hn (by omega) (hS.below hW)).mono (fun e w' h => AllR.go h (l := (Rs.wk false bs 0).1) (k := (Rs.wk false bs 0).2) rfl rfl)
  have hwf := fun W (hW : Below w.heap.size w W) => (rwalk_any false bs n A c W hn (by omega) (hS.below hW)).mono (fun e w' (h : WkR W false bs e w') => (show ∃ A c, e = .returned (.tuple #[.slice A (Rs.wk false bs 0).1.length c, .int .i64 (Rs.psum (Rs.gaps (Rs.wk false bs 0).1 (Rs.wk false bs 0).2) : Nat), .int .i64 ((Rs.wk false bs 0).2 : Nat)]) ∧ FdRow W.heap.size w' (.slice A (Rs.wk false bs 0).1.length c) (Rs.wk false bs 0).1 ∧ Below W.heap.size W w' from by
    obtain ⟨A1, c1, ps, h1, h2, h3, h4⟩ := h
    have he : ps = Rs.psum (Rs.gaps (Rs.wk false bs 0).1 (Rs.wk false bs 0).2) := by omega
    subst he
    exact ⟨A1, c1, h1, h3, h4⟩))
  have hwt := fun W (hW : Below w.heap.size w W) => (rwalk_any true bs n A c W hn (by omega) (hS.below hW))
  have hrd := fun W (hW : Below w.heap.size w W) => (rfread_any bs n A c W hn (by omega) (hS.below hW)).mono (fun e w' h => RdR.any h)
  have hwh := fun W (hW : Below w.heap.size w W) => swhole_any bs n A c W hn (by omega) (hS.below hW)
  have hwr := fun W (hW : Below w.heap.size w W) => rwhole_any bs n A c W hn (by omega) (hS.below hW)
  have hps := fun W (hW : Below w.heap.size w W) => spassed_any bs n A c W hn (by omega) (hS.below hW)
  have hen := fun W (hW : Below w.heap.size w W) => sended_any bs n A c W hn (by omega) (hS.below hW)
  have hcd := fun W (hW : Below w.heap.size w W) => (scould_any bs n A c W hn (hS.below hW)).mono (fun e w' h => (show e = .returned (.bool (((Fr.rE bs : Int) == 0) || ((Fr.rE bs : Int) == 4))) ∧ Below W.heap.size W w' from ⟨by rw [h.1]; congr 2; rw [Bool.eq_iff_iff]; simp; omega, h.2⟩))
  have hwl := Rs.whole_len bs n
  have hlf := Rs.wk_len false bs 0
  have hlt := Rs.wk_len true bs 0
  rw [hn] at hp1 hp2 hlf hlt
  unfold WkR at hwt
  generalize Rs.psum (Rs.gaps (Rs.wk false bs 0).1 (Rs.wk false bs 0).2) = ps at *
  generalize (Rs.wk false bs 0).1 = l at *
  generalize (Rs.wk false bs 0).2 = E at *
  generalize (Rs.wk true bs 0).1 = lt at *
  generalize (Rs.wk true bs 0).2 = Et at *
  generalize Rs.whole bs n = wh at *
  generalize Fr.rE bs = R at *
  obtain ⟨nl, hnl⟩ : ∃ k, l.length = k := ⟨_, rfl⟩
  obtain ⟨nt, hnt⟩ : ∃ k, lt.length = k := ⟨_, rfl⟩
  obtain ⟨nw, hnw⟩ : ∃ k, wh.length = k := ⟨_, rfl⟩
  rw [hnl] at hall hwf hlf
  rw [hnt] at hwt hen hlt
  rw [hnw] at hwh hwr hwl
  have hsl := fun W B1 B2 A1 A2 c1 c2 h1 h2 => rsame14_yes l nl A1 A2 c1 c2 B1 B2 W hnl (by omega) (fun f hf => by have := hp1 f hf; omega) h1 h2
  have hst := fun W B1 B2 A1 A2 c1 c2 h1 h2 => rsame14_yes lt nt A1 A2 c1 c2 B1 B2 W hnt (by omega) (fun f hf => by have := hp2 f hf; omega) h1 h2
  have HALL := hid hall
  have HWF := hid hwf
  have HWT := hid hwt
  have HRD := hid hrd
  have HWH := hid hwh
  have HWR := hid hwr
  have HPS := hid hps
  have HEN := hid hen
  have HCD := hid hcd
  have HSL := hid hsl
  have HST := hid hst
  have HNW := hid hnw
  clear hall hwf hwt hrd hwh hwr hps hen hcd hsl hst hnw hnl hnt hp1 hp2 hpt hn hS
  go_enter Try.func6, Try.ntmps6
  go_wp2_with fail
  refine HL.out.mono ?_
  rintro e w1 ⟨rfl, hb1⟩
  go_wp2_with fail
  refine (HALL.out _ hb1).mono ?_
  rintro e w2 ⟨A2, c2, rfl, hrow2, hb2⟩
  have B2 := bw_t hb1 hb2
  clear hb1 hb2
  go_wp2_with fail
  refine (HWF.out _ B2).mono ?_
  rintro e w3 ⟨A3, c3, rfl, hrow3, hb3⟩
  have B3 := bw_t B2 hb3
  have hrow2 := hrow2.below hb3
  clear B2 hb3
  go_wp2_with fail
  refine (HWT.out _ B3).mono ?_
  rintro e w4 ⟨A4, c4, pt, rfl, -, hrow4, hb4⟩
  have B4 := bw_t B3 hb4
  have hrow2 := hrow2.below hb4
  have hrow3 := hrow3.below hb4
  clear B3 hb4
  go_wp2_with fail
  refine (HRD.out _ B4).mono ?_
  rintro e w5 ⟨ty, L, nn, q5, P5, rfl, hb5⟩
  have hb5 := bw_a hb5 (.cells #[.int .u8 (ty : Int), .slice P5 L q5] 24)
  have B5 := bw_t B4 hb5
  have hrow2 := hrow2.below hb5
  have hrow3 := hrow3.below hb5
  have hrow4 := hrow4.below hb5
  clear B4 hb5
  go_wp2_with fail
  refine (HWH.out _ B5).mono ?_
  rintro e w6 ⟨v6, rfl, ho6, hb6⟩
  obtain ⟨A6, c6, rfl⟩ := row_slice_g ho6
  have B6 := bw_t B5 hb6
  have hrow2 := hrow2.below hb6
  have hrow3 := hrow3.below hb6
  have hrow4 := hrow4.below hb6
  clear B5 hb6
  go_wp2_with fail
  refine (HWR.out _ B6).mono ?_
  rintro e w7 ⟨v7, rfl, ho7, hb7⟩
  obtain ⟨A7, c7, rfl⟩ := row_slice_g ho7
  have B7 := bw_t B6 hb7
  have hr6 := own_slg (by omega) (own_below ho6 hb7)
  have hr7 := own_slg (by omega) ho7
  have HR2 := hid (hrow2.below hb7)
  have HR3 := hid (hrow3.below hb7)
  have HR4 := hid (hrow4.below hb7)
  have HR6 := hid hr6
  have HR7 := hid hr7
  have HB7 := hid B7
  have hc6 : nw ≤ c6 := hr6.cap
  have hc7 : nw ≤ c7 := hr7.cap
  clear B6 hb7 B7 hrow2 hrow3 hrow4 hr6 hr7 ho6 ho7
  go_wp2_with fail
  go_loopw [16] (fun i wr => ∃ k : Nat, k ≤ nw ∧ i = .int .i64 (k : Int) ∧ Below w7.heap.size w7 wr) (fun i _ => nw - (intOf i).toNat)
  case atStart => exact ⟨0, by omega, rfl, Below.refl _ _⟩
  case round =>
    obtain ⟨k, hk, rfl, hB⟩ := hrel
    by_cases hlt2 : k < nw
    · have hkl : k < wh.length := by have := HNW.out; omega
      obtain ⟨b6, o6, rfl, hb6, s0⟩ := (HR6.out.below hB).rd k (iv wh[k]) (by simp [hkl])
      obtain ⟨b7, o7, rfl, hb7, t0⟩ := (HR7.out.below hB).rd k (iv wh[k]) (by simp [hkl])
      simp only [iv] at s0 t0
      generalize wh[k] = p at *
      have HBE := hid hB
      have hki : (k : Int) < (nw : Int) := by omega
      have hk0 : (0 : Int) ≤ (k : Int) := by omega
      clear hB
      go_wp2_with fail
      go_quiet (fail)
      go_wp2_with fail
      go_roundw
      case rel => exact ⟨k + 1, by omega, by go_num, bw_dq2 HBE.out _⟩
      case measure => simp [intOf]; omega
    · obtain rfl : k = nw := by omega
      have hrow2 := HR2.out.below hB
      have hrow3 := HR3.out.below hB
      have hrow4 := HR4.out.below hB
      have B8 := bw_t HB7.out hB
      have HR2 := hid hrow2
      have HR3 := hid hrow3
      have HR4 := hid hrow4
      have HB8 := hid B8
      clear hB hrow2 hrow3 hrow4 B8
      obtain ⟨e0, he0⟩ : ∃ e0 : Bool, ((R : Int) == 0) = e0 := ⟨_, rfl⟩
      obtain ⟨e4, he4⟩ : ∃ e4 : Bool, ((R : Int) == 4) = e4 := ⟨_, rfl⟩
      have hcd := HCD.out
      rw [he0, he4] at hcd
      have HCD := hid hcd
      clear hcd
      cases e0 <;> cases e4
      all_goals
        go_wp2_with fail
        refine (HSL.out _ _ _ _ _ _ _ HR2.out HR3.out).mono ?_
        rintro e w8 ⟨rfl, hb8⟩
        have B9 := bw_t HB8.out hb8
        have HR49 := hid (HR4.out.below hb8)
        clear hb8
        go_wp2_with fail
        refine (HPS.out _ B9).mono ?_
        rintro e w9 ⟨rfl, hb9⟩
        have B10 := bw_t B9 hb9
        have HR410 := hid (HR49.out.below hb9)
        clear B9 hb9
        go_wp2_with fail
        refine (HEN.out _ B10).mono ?_
        rintro e w10 ⟨A10, c10, rfl, hrow10, hb10⟩
        have B11 := bw_t B10 hb10
        have HR411 := hid (HR410.out.below hb10)
        clear B10 hb10
        go_wp2_with fail
        refine (HST.out _ _ _ _ _ _ _ hrow10 HR411.out).mono ?_
        rintro e w11 ⟨rfl, hb11⟩
        have B12 := bw_t B11 hb11
        clear B11 hb11
        go_wp2_with fail
        refine (HCD.out _ B12).mono ?_
        rintro e w12 ⟨rfl, hb12⟩
        have B13 := bw_t B12 hb12
        clear B12 hb12
        go_wp2_with fail
        go_ret
        exact ⟨rfl, B13⟩
end Go.Proofs.Ytgpkjlaplmdnaaa
