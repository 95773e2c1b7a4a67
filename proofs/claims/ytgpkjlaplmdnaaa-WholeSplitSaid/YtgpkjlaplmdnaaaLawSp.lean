/- The walk of WholeSplit. -/
import Derived.Test.YtgpkjlaplmdnaaaRsLive
import Derived.Test.YtgpkjlaplmdnaaaRsM5
set_option linter.unusedVariables false
namespace Go.Proofs.Ytgpkjlaplmdnaaa
open Go.RowKit
theorem bw_dq {a b : World} {B : Nat} (h : Below B a b) (n : Nat) : Below B a (b.drewN n) := ⟨h.os, h.tape, h.output, h.size, h.block⟩
set_option maxRecDepth 100000 in
set_option maxHeartbeats 4000000 in
theorem wholeSplit_any (xa bs : List UInt8) (n m : Nat) (A B : Option Addr) (c d : Nat) (w : World) (hn : xa.length = n) (hm : bs.length = m) (hS : Sl w A c (xa.map bv)) (hM : Sl w B d (bs.map bv)) :
    Calls Try.prog 13 #[.slice A n c, .slice B m d] w fun e w' => e = .returned (.bool true) ∧ Below w.heap.size w w' := by
  have hcap : n ≤ 9223372036854775807 := by have h1 := hS.cap; have h2 := hS.small; rw [List.length_map] at h1; omega
  have hcapm : m ≤ 9223372036854775807 := by have h1 := hM.cap; have h2 := hM.small; rw [List.length_map] at h1; omega
  have HL := hid (awake7_any w)
  by_cases hbig : 2000 < n
  · clear hn hS hm hM
    go_enter Try.func13, Try.ntmps13
    go_wp2_with fail
    refine HL.out.mono ?_
    rintro e w1 ⟨rfl, hb1⟩
    go_wp2_with fail
    go_ret
    exact ⟨rfl, hb1⟩
  by_cases hbig2 : 2000 < m
  · clear hn hS hm hM
    go_enter Try.func13, Try.ntmps13
    go_wp2_with fail
    refine HL.out.mono ?_
    rintro e w1 ⟨rfl, hb1⟩
    go_wp2_with fail
    go_ret
    exact ⟨rfl, hb1⟩
  have hall := fun W (hW : Below w.heap.size w W) => (sall_any xa n A c W hn (by omega) (hS.below hW)).mono (fun e w' h => AllR.go h (l := (Rs.wk false xa 0).1) (k := (Rs.wk false xa 0).2) rfl rfl)
  have hallb := fun W (hW : Below w.heap.size w W) => (sall_any bs m B d W hm (by omega) (hM.below hW)).mono (fun e w' h => AllR.go h (l := (Rs.wk false bs 0).1) (k := (Rs.wk false bs 0).2) rfl rfl)
  have hjn := fun W (hW : Below w.heap.size w W) => rjoin2_any xa bs n m A B c d W hn hm (by omega) (hS.below hW) (hM.below hW)
  have hall2 := fun W A1 c1 h => (sall_any (xa ++ bs) (n + m) A1 c1 W (by rw [List.length_append]; omega) (by omega) h).mono (fun e w' h => AllR.go h (l := (Rs.wk false (xa ++ bs) 0).1) (k := (Rs.wk false (xa ++ bs) 0).2) rfl rfl)
  have hE := (Rs.wk_facts false xa 0).2.2 (Nat.zero_le _)
  have hEb := (Rs.wk_facts false bs 0).2.2 (Nat.zero_le _)
  have hfa := fun f (h : f ∈ (Rs.wk false bs 0).1) => (show f.at_ ≤ m from by have := ((Rs.wk_facts false bs 0).1 f h).2.1.2.2.2; omega)
  have hfx := fun f (h : f ∈ (Rs.wk false xa 0).1) => (show f.at_ ≤ n from by have := ((Rs.wk_facts false xa 0).1 f h).2.1.2.2.2; omega)
  have hlx := Rs.wk_len false xa 0
  have hlb := Rs.wk_len false bs 0
  rw [hn] at hE
  by_cases hlt : (Rs.wk false xa 0).2 < n
  · generalize (Rs.wk false xa 0).1 = l at *
    generalize (Rs.wk false xa 0).2 = E at *
    have hltI : (E : Int) < (n : Int) := by omega
    have HALL := hid hall
    clear hall hallb hjn hall2 hn hm hS hM hfa hfx hlx hlb
    go_enter Try.func13, Try.ntmps13
    go_wp2_with fail
    refine HL.out.mono ?_
    rintro e w1 ⟨rfl, hb1⟩
    go_wp2_with fail
    refine (HALL.out _ hb1).mono ?_
    rintro e w2 ⟨A2, c2, rfl, hrow2, hb2⟩
    go_wp2_with fail
    go_ret
    exact ⟨rfl, bw_t hb1 hb2⟩
  have hEn : (Rs.wk false xa 0).2 = n := by omega
  have hsp := Rs.split xa bs (by omega)
  rw [hn] at hsp
  rw [hsp] at hall2
  simp only at hall2
  rw [hEn] at hall
  generalize (Rs.wk false xa 0).1 = l at *
  generalize (Rs.wk false bs 0).1 = r at *
  generalize (Rs.wk false bs 0).2 = E2 at *
  obtain ⟨nl, hnl⟩ : ∃ k, l.length = k := ⟨_, rfl⟩
  obtain ⟨nr, hnr⟩ : ∃ k, r.length = k := ⟨_, rfl⟩
  obtain ⟨N5, hN5⟩ : ∃ k, nl + nr = k := ⟨_, rfl⟩
  obtain ⟨E5, hE5⟩ : ∃ k, n + E2 = k := ⟨_, rfl⟩
  have hlr : (l ++ r.map (Fnd.shift n)).length = N5 := by rw [List.length_append, List.length_map]; omega
  rw [hnl] at hall
  rw [hnr] at hallb
  rw [hlr, hE5] at hall2
  rw [hn] at hlx
  rw [hm] at hlb hEb
  have hnb : nl ≤ n := by omega
  have hnr2 : nr ≤ m := by omega
  have hw1 : wrap64 ((nl : Int) + (nr : Int)) = (N5 : Int) := by rw [w64_in _ (by omega)]; omega
  have hw2 : wrap64 ((n : Int) + (E2 : Int)) = (E5 : Int) := by rw [w64_in _ (by omega)]; omega
  have HALL := hid hall
  have HALLB := hid hallb
  have HJN := hid hjn
  have HALL2 := hid hall2
  have HFA := hid hfa
  have HFX := hid hfx
  have HNL := hid hnl
  have HNR := hid hnr
  have HLR := hid hlr
  have HN5 := hid hN5
  have HE5 := hid hE5
  clear hall hallb hjn hall2 hsp hfa hfx hnl hnr hlr hn hm hS hM hlt hEn hN5 hE5 hE hEb hlx hlb
  go_enter Try.func13, Try.ntmps13
  go_wp2_with fail
  refine HL.out.mono ?_
  rintro e w1 ⟨rfl, hb1⟩
  go_wp2_with fail
  refine (HALL.out _ hb1).mono ?_
  rintro e w2 ⟨A2, c2, rfl, hrow2, hb2⟩
  have B2 := bw_t hb1 hb2
  clear hb1 hb2
  go_wp2_with fail
  refine (HALLB.out _ B2).mono ?_
  rintro e w3 ⟨A3, c3, rfl, hrow3, hb3⟩
  have B3 := bw_t B2 hb3
  have hrow2 := hrow2.below hb3
  clear B2 hb3
  go_wp2_with fail
  refine (HJN.out _ B3).mono ?_
  rintro e w4 ⟨A4, c4, rfl, hs4, -, hb4⟩
  go_wp2_with fail
  refine (HALL2.out _ _ _ hs4).mono ?_
  rintro e w5 ⟨A5, c5, rfl, hrow5, hb5⟩
  have HR2 := hid ((hrow2.below hb4).below hb5)
  have HR3 := hid ((hrow3.below hb4).below hb5)
  have HR5 := hid hrow5
  have HB5 := hid (bw_t (bw_t B3 hb4) hb5)
  clear hb4 hb5 hs4 hrow2 hrow3 hrow5 B3
  go_wp2_with fail
  all_goals try (exfalso; have h5 := HN5.out; have h6 := HE5.out; omega)
  rename ((N5 : Int) = (nl : Int) + (nr : Int)) => hx1
  clear hx1 hw1 hw2
  go_loopw [11] (fun i wr => ∃ k : Nat, k ≤ N5 ∧ i = .int .i64 (k : Int) ∧ Below w5.heap.size w5 wr) (fun i _ => N5 - (intOf i).toNat)
  case atStart => exact ⟨0, by omega, rfl, Below.refl _ _⟩
  case round =>
    obtain ⟨k, hk, rfl, hB⟩ := hrel
    by_cases hlt : k < N5
    · have hkl : k < (l ++ r.map (Fnd.shift n)).length := by have := HLR.out; omega
      obtain ⟨b5, o5, P5, q5, rfl, hb5, s0, s1, s2, hp5, hnc5, hm5⟩ := (HR5.out.below hB).get HLR.out k hkl
      have hki : (k : Int) < (N5 : Int) := by omega
      have hk0 : (0 : Int) ≤ (k : Int) := by omega
      by_cases hkn : k < nl
      · have hkl2 : k < l.length := by have := HNL.out; omega
        obtain ⟨b2, o2, P2, q2, rfl, hb2, t0, t1, t2, hp2, hnc2, hm2⟩ := (HR2.out.below hB).get HNL.out k hkl2
        rw [List.getElem_append_left hkl2] at s0 s1 s2 hp5
        have hfx := HFX.out _ (List.getElem_mem hkl2)
        generalize l[k] = f at *
        obtain ⟨fa, fty, fpl⟩ := f
        simp only at s0 s1 s2 t0 t1 t2 hp2 hp5 hfx
        obtain ⟨pl, hpl⟩ : ∃ m, fpl.length = m := ⟨_, rfl⟩
        rw [hpl] at s2 t2
        have hsame := fun W (hW : Below wr.heap.size wr W) => (fsame_any fty fty fpl fpl pl pl P5 P2 q5 q2 W hpl hpl (hp5.sl.below hW) (hp2.sl.below hW)).mono (fun e w' h => (show e = .returned (.bool true) ∧ Below W.heap.size W w' from ⟨by rw [h.1]; simp, h.2⟩))
        have HSM := hid hsame
        have HBE := hid hB
        have hkj : (k : Int) < (nl : Int) := by omega
        have hkc : decide ((nl : Int) ≤ (k : Int)) = false := by simp; omega
        have hkd : decide ((k : Int) < (nl : Int)) = true := by simp; omega
        have hkc' : decide (nl ≤ k) = false := by simp; omega
        have hkd' : decide (k < nl) = true := by simp; omega
        clear hsame hB hpl hp2 hp5
        generalize fty.toNat = ty at *
        have HBR := hid (Below.refl wr.heap.size wr)
        go_wp2_with fail
        go_region_held3 (fun w' => w'.cell? ⟨b5, o5 + k * 3, none⟩ = some (.int .i64 (fa : Int)) ∧ w'.cell? ⟨b5, o5 + k * 3 + 1, none⟩ = some (.int .u8 (ty : Int)) ∧ w'.cell? ⟨b5, o5 + k * 3 + 2, none⟩ = some (.slice P5 pl q5) ∧ w'.cell? ⟨b2, o2 + k * 3, none⟩ = some (.int .i64 (fa : Int)) ∧ w'.cell? ⟨b2, o2 + k * 3 + 1, none⟩ = some (.int .u8 (ty : Int)) ∧ w'.cell? ⟨b2, o2 + k * 3 + 2, none⟩ = some (.slice P2 pl q2)) (first | exact ⟨s0, s1, s2, t0, t1, t2⟩ | exact ⟨x0, x1, x2, y0, y1, y2⟩ | go_keep) (first | (go_at_call 20; (with_reducible refine (HSM.out _ (below_drew' HBR.out)).mono ?_); rintro e w5 ⟨rfl, hb5'⟩; have hbq := (below_drew' (Below.refl _ wr)).trans hb5'; have x0 := (hbq.cell (p := ⟨b5, o5 + k * 3, none⟩) hb5).trans s0; have x1 := (hbq.cell (p := ⟨b5, o5 + k * 3 + 1, none⟩) hb5).trans s1; have x2 := (hbq.cell (p := ⟨b5, o5 + k * 3 + 2, none⟩) hb5).trans s2; have y0 := (hbq.cell (p := ⟨b2, o2 + k * 3, none⟩) hb2).trans t0; have y1 := (hbq.cell (p := ⟨b2, o2 + k * 3 + 1, none⟩) hb2).trans t1; have y2 := (hbq.cell (p := ⟨b2, o2 + k * 3 + 2, none⟩) hb2).trans t2; have HB5' := hid hbq; clear hb5' hbq))
        go_wp2_with fail
        go_quiet (fail)
        go_wp2_with fail
        go_roundw
        case rel => exact ⟨k + 1, by omega, by go_num, HBE.out.trans ((bw_dq HB5'.out _).mono HBE.out.size)⟩
        case measure => simp [intOf]; omega
      · obtain ⟨j, rfl⟩ : ∃ j, k = nl + j := ⟨k - nl, by omega⟩
        have hjr : j < nr := by have := HN5.out; omega
        have hkl2 : j < r.length := by have := HNR.out; omega
        obtain ⟨b2, o2, P2, q2, rfl, hb2, t0, t1, t2, hp2, hnc2, hm2⟩ := (HR3.out.below hB).get HNR.out j hkl2
        have hge : (l ++ r.map (Fnd.shift n))[nl + j] = Fnd.shift n r[j] := by
          rw [List.getElem_append_right (by rw [HNL.out]; omega), List.getElem_map]
          congr 2
          have := HNL.out; omega
        rw [hge] at s0 s1 s2 hp5
        have hfa := HFA.out _ (List.getElem_mem hkl2)
        generalize r[j] = f at *
        obtain ⟨fa, fty, fpl⟩ := f
        simp only [Fnd.shift] at s0 s1 s2 t0 t1 t2 hp2 hp5 hfa
        obtain ⟨pl, hpl⟩ : ∃ m, fpl.length = m := ⟨_, rfl⟩
        rw [hpl] at s2 t2
        have hsame := fun W (hW : Below wr.heap.size wr W) => (fsame_any fty fty fpl fpl pl pl P5 P2 q5 q2 W hpl hpl (hp5.sl.below hW) (hp2.sl.below hW)).mono (fun e w' h => (show e = .returned (.bool true) ∧ Below W.heap.size W w' from ⟨by rw [h.1]; simp, h.2⟩))
        have HSM := hid hsame
        have HBE := hid hB
        obtain ⟨k, hkj⟩ : ∃ k, nl + j = k := ⟨_, rfl⟩
        rw [hkj] at s0 s1 s2 hki hk0 hlt ⊢
        rw [Int.natCast_add] at s0
        have hws : IntKind.i64.wrap ((k : Int) - (nl : Int)) = (j : Int) := by rw [IntWalk.i64_in _ (by omega)]; omega
        have hwa : IntKind.i64.wrap ((n : Int) + (fa : Int)) = (n : Int) + (fa : Int) := IntWalk.i64_in _ (by omega)
        have hjI : (j : Int) < (nr : Int) := by omega
        have hj0 : (0 : Int) ≤ (j : Int) := by omega
        have hkc : decide ((nl : Int) ≤ (k : Int)) = true := by simp; omega
        have hkd : decide ((k : Int) < (nl : Int)) = false := by simp; omega
        have hkc' : decide (nl ≤ k) = true := by simp; omega
        have hkd' : decide (k < nl) = false := by simp; omega
        have hkI : (nl : Int) ≤ (k : Int) := by omega
        clear hsame hB hpl hp2 hp5 hge hkj hkl hkl2 hkn
        generalize fty.toNat = ty at *
        have HBR := hid (Below.refl wr.heap.size wr)
        go_wp2_with fail
        go_quiet (fail)
        go_wp2_with fail
        go_region_held3 (fun w' => w'.cell? ⟨b5, o5 + k * 3, none⟩ = some (.int .i64 ((n : Int) + (fa : Int))) ∧ w'.cell? ⟨b5, o5 + k * 3 + 1, none⟩ = some (.int .u8 (ty : Int)) ∧ w'.cell? ⟨b5, o5 + k * 3 + 2, none⟩ = some (.slice P5 pl q5) ∧ w'.cell? ⟨b2, o2 + j * 3, none⟩ = some (.int .i64 (fa : Int)) ∧ w'.cell? ⟨b2, o2 + j * 3 + 1, none⟩ = some (.int .u8 (ty : Int)) ∧ w'.cell? ⟨b2, o2 + j * 3 + 2, none⟩ = some (.slice P2 pl q2)) (first | exact ⟨s0, s1, s2, t0, t1, t2⟩ | exact ⟨x0, x1, x2, y0, y1, y2⟩ | go_keep) (first | (go_at_call 20; (with_reducible refine (HSM.out _ (bw_dq HBR.out _)).mono ?_); rintro e w5 ⟨rfl, hb5'⟩; have hbq := (bw_dq (Below.refl wr.heap.size wr) _).trans hb5'; have x0 := (hbq.cell (p := ⟨b5, o5 + k * 3, none⟩) hb5).trans s0; have x1 := (hbq.cell (p := ⟨b5, o5 + k * 3 + 1, none⟩) hb5).trans s1; have x2 := (hbq.cell (p := ⟨b5, o5 + k * 3 + 2, none⟩) hb5).trans s2; have y0 := (hbq.cell (p := ⟨b2, o2 + j * 3, none⟩) hb2).trans t0; have y1 := (hbq.cell (p := ⟨b2, o2 + j * 3 + 1, none⟩) hb2).trans t1; have y2 := (hbq.cell (p := ⟨b2, o2 + j * 3 + 2, none⟩) hb2).trans t2; have HB5' := hid hbq; clear hb5' hbq))
        go_wp2_with fail
        go_roundw
        case rel => exact ⟨k + 1, by omega, by go_num, HBE.out.trans (HB5'.out.mono HBE.out.size)⟩
        case measure => simp [intOf]; omega
    · obtain rfl : k = N5 := by omega
      have HBE := hid hB
      clear hB
      go_wp2_with fail
      go_ret
      exact ⟨rfl, bw_t HB5.out HBE.out⟩
end Go.Proofs.Ytgpkjlaplmdnaaa
