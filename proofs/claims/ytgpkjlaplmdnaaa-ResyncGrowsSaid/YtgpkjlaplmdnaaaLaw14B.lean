/- The walk of ResyncGrows. -/
import Derived.Test.YtgpkjlaplmdnaaaRsLive
import Derived.Test.YtgpkjlaplmdnaaaRsSame
import Derived.Test.YtgpkjlaplmdnaaaRsM3
set_option linter.unusedVariables false
namespace Go.Proofs.Ytgpkjlaplmdnaaa
open Go.RowKit
theorem FdRow.pre {B : Nat} {w : World} {A : Option Addr} {n c : Nat} {l : List Fnd} (h : FdRow B w (.slice A n c) l) (hn : l.length = n) (k : Nat) (hk : k ≤ n) : FdRow B w (.slice A k c) (l.take k) := by
  obtain ⟨fs, rfl, ho, hp⟩ := h
  rw [List.length_map] at hn
  subst hn
  refine ⟨fs.take k, by rw [List.map_take], ?_, fun f hf => hp f (List.mem_of_mem_take hf)⟩
  have hl : (fs.take k).length = k := by rw [List.length_take]; omega
  rw [hl]
  have hfm : ∀ gs : List FdV, (gs.flatMap fdC).length = gs.length * 3 := by
    intro gs
    induction gs with
    | nil => rfl
    | cons g gs ih => rw [List.flatMap_cons, List.length_append, ih, List.length_cons]; simp [fdC]; omega
  have hft : (fs.take k).flatMap fdC = (fs.flatMap fdC).take (k * 3) := by
    have h1 : fs.flatMap fdC = (fs.take k).flatMap fdC ++ (fs.drop k).flatMap fdC := by rw [← List.flatMap_append, List.take_append_drop]
    rw [h1, List.take_left' (by rw [hfm, hl])]
  rw [hft]
  refine ⟨by rw [List.length_take, hfm]; omega, ?_⟩
  rcases ho.2 with ⟨e, h0⟩ | ⟨g, cap, cur, e, hb, hg, hnc, hcm, hcs, htake⟩
  · injection e with e1 e2 e3
    left
    have hk0 : k = 0 := by omega
    subst hk0
    rw [e1, e3]
    exact ⟨rfl, rfl⟩
  · injection e with e1 e2 e3
    subst e1; subst e3
    right
    refine ⟨g, c, cur, rfl, hb, hg, by omega, hcm, hcs, ?_⟩
    rw [← htake, List.take_take, Nat.min_eq_left (by omega)]
theorem FdRow.cap {B : Nat} {w : World} {A : Option Addr} {n c : Nat} {l : List Fnd} (h : FdRow B w (.slice A n c) l) (hn : l.length = n) : n ≤ c := by
  obtain ⟨fs, rfl, ho, -⟩ := h
  rw [List.length_map] at hn
  subst hn
  exact (own_slg (by omega) ho).cap
theorem Rs.pl8 {fin : Bool} {bs : List UInt8} {q : Nat} {f : Fnd} (h : f ∈ (Rs.wk fin bs q).1) : f.pl.length ≤ 8192 ∧ f.at_ + f.size ≤ bs.length := by
  have h2 := ((Rs.wk_facts fin bs q).1 f h).2.1
  have h3 := Fr.rE_ok h2.1
  rw [← h2.2.2.1] at h3
  exact ⟨by omega, h2.2.2.2⟩
set_option maxRecDepth 100000 in
set_option maxHeartbeats 4000000 in
theorem resyncGrows_any (bs : List UInt8) (n : Nat) (A : Option Addr) (c : Nat) (ms : List UInt8) (m : Nat) (B : Option Addr) (d : Nat) (w : World) (hn : bs.length = n) (hm : ms.length = m) (hS : Sl w A c (bs.map bv)) (hM : Sl w B d (ms.map bv)) :
    Calls Try.prog 8 #[.slice A n c, .slice B m d] w fun e w' => e = .returned (.bool true) ∧ Below w.heap.size w w' := by
  have hcap : n ≤ 9223372036854775807 := by have h1 := hS.cap; have h2 := hS.small; rw [List.length_map] at h1; omega
  have hcapm : m ≤ 9223372036854775807 := by have h1 := hM.cap; have h2 := hM.small; rw [List.length_map] at h1; omega
  have HL := hid (live14_any w)
  by_cases hbig : 3000 < n
  · clear hn hS hm hM
    go_enter Try.func8, Try.ntmps8
    go_wp2_with fail
    refine HL.out.mono ?_
    rintro e w1 ⟨rfl, hb1⟩
    go_wp2_with fail
    go_ret
    exact ⟨rfl, hb1⟩
  by_cases hbig2 : 3000 < m
  · clear hn hS hm hM
    go_enter Try.func8, Try.ntmps8
    go_wp2_with fail
    refine HL.out.mono ?_
    rintro e w1 ⟨rfl, hb1⟩
    go_wp2_with fail
    go_ret
    exact ⟨rfl, hb1⟩
  have hall := fun W (hW : Below w.heap.size w W) => (sall_any bs n A c W hn (by omega) (hS.below hW)).mono (fun e w' h => AllR.go h (l := (Rs.wk false bs 0).1) (k := (Rs.wk false bs 0).2) rfl rfl)
  have hjn := fun W (hW : Below w.heap.size w W) => rjoin2_any bs ms n m A B c d W hn hm (by omega) (hS.below hW) (hM.below hW)
  have hall2 := fun W A1 c1 h => (sall_any (bs ++ ms) (n + m) A1 c1 W (by rw [List.length_append]; omega) (by omega) h).mono (fun e w' h => AllR.go h (l := (Rs.wk false (bs ++ ms) 0).1) (k := (Rs.wk false (bs ++ ms) 0).2) rfl rfl)
  have hgr := Rs.grow bs ms 0 (Nat.zero_le _)
  have hE := (Rs.wk_facts false bs 0).2.2 (Nat.zero_le _)
  have hf2 := Rs.wk_facts false (bs ++ ms) (Rs.wk false bs 0).2
  have hp8 := fun f (h : f ∈ (Rs.wk false (bs ++ ms) 0).1) => Rs.pl8 h
  have hlen := Rs.wk_len false (bs ++ ms) 0
  have hE2 := (Rs.wk_facts false (bs ++ ms) 0).2.2 (Nat.zero_le _)
  rw [hgr] at hall2 hp8 hlen hE2
  simp only at hall2 hp8 hlen hE2
  rw [List.length_append, hn, hm] at hp8 hE2
  rw [List.length_append, List.length_append, hn, hm] at hlen
  rw [hn] at hE
  generalize (Rs.wk false bs 0).1 = l at *
  generalize (Rs.wk false bs 0).2 = E at *
  generalize (Rs.wk false (bs ++ ms) E).1 = r at *
  generalize (Rs.wk false (bs ++ ms) E).2 = E2 at *
  have hrat := fun f (h : f ∈ r) => (hf2.1 f h).1
  have hEE := hf2.2.1
  obtain ⟨nl, hnl⟩ : ∃ k, l.length = k := ⟨_, rfl⟩
  obtain ⟨nr, hnr⟩ : ∃ k, (l ++ r).length = k := ⟨_, rfl⟩
  have hnlr : nl ≤ nr := by rw [← hnl, ← hnr, List.length_append]; omega
  rw [hnl] at hall
  rw [hnr] at hall2
  rw [← List.length_append, hnr] at hlen
  have HALL := hid hall
  have HJN := hid hjn
  have HALL2 := hid hall2
  have HP8 := hid hp8
  have HRAT := hid hrat
  have HNL := hid hnl
  have HNR := hid hnr
  clear hall hjn hall2 hgr hf2 hp8 hrat hnl hnr hn hm hS hM
  go_enter Try.func8, Try.ntmps8
  go_wp2_with fail
  refine HL.out.mono ?_
  rintro e w1 ⟨rfl, hb1⟩
  go_wp2_with fail
  refine (HALL.out _ hb1).mono ?_
  rintro e w2 ⟨A2, c2, rfl, hrow2, hb2⟩
  have B2 := bw_t hb1 hb2
  clear hb1 hb2
  go_wp2_with fail
  refine (HJN.out _ B2).mono ?_
  rintro e w3 ⟨A3, c3, rfl, hs3, -, hb3⟩
  go_wp2_with fail
  refine (HALL2.out _ _ _ hs3).mono ?_
  rintro e w4 ⟨A4, c4, rfl, hrow4, hb4⟩
  have HR2 := hid ((hrow2.below hb3).below hb4)
  have B4 := bw_t (bw_t B2 hb3) hb4
  have hpre := hrow4.pre HNR.out nl hnlr
  rw [List.take_left' HNL.out] at hpre
  have hc4 : nr ≤ c4 := hrow4.cap HNR.out
  have HSM := hid (rsame14_yes l nl A4 A2 c4 c2 _ _ w4 HNL.out (by omega) (fun f hf => by have := HP8.out f (List.mem_append_left _ hf); unfold Fnd.size at this; omega) hpre HR2.out)
  have HR4 := hid hrow4
  have HB4 := hid B4
  have hnn : (nl : Int) ≤ (c4 : Int) := by omega
  have hd1 : decide (nr < nl) = false := by simp; omega
  have hd2 : decide (E2 < E) = false := by simp; omega
  clear hb3 hb4 hs3 hrow2 hpre hrow4 B2 B4
  go_wp2_with fail
  refine HSM.out.mono ?_
  rintro e w5 ⟨rfl, hb5⟩
  have HR5 := hid (HR4.out.below hb5)
  have HB5 := hid (bw_t HB4.out hb5)
  clear hb5
  go_wp2_with fail
  go_loop [9] (fun i => ∃ k : Nat, nl ≤ k ∧ k ≤ nr ∧ i = .int .i64 (k : Int)) (fun i => nr - (intOf i).toNat)
  case atStart => exact ⟨nl, by omega, by omega, rfl⟩
  case round =>
    obtain ⟨k, hk1, hk2, rfl⟩ := hrel
    by_cases hlt : k < nr
    · have hkl : k < (l ++ r).length := by have := HNR.out; omega
      obtain ⟨b, off, P, q, rfl, hb, s0, -, -, -, hnc, -⟩ := HR5.out.get HNR.out k hkl
      have hge : E ≤ (l ++ r)[k].at_ := by
        rw [List.getElem_append_right (by rw [HNL.out]; exact hk1)]
        exact HRAT.out _ (List.getElem_mem _)
      generalize (l ++ r)[k].at_ = fa at *
      have hki : (k : Int) < (nr : Int) := by omega
      have hk0 : (0 : Int) ≤ (k : Int) := by omega
      have hdf : decide (fa < E) = false := by simp; omega
      go_wp2_with fail
      go_round
      case rel => exact ⟨k + 1, by omega, by omega, by go_num⟩
      case measure => simp [intOf]; omega
    · obtain rfl : k = nr := by omega
      go_wp2_with fail
      go_ret
      exact ⟨rfl, HB5.out⟩
end Go.Proofs.Ytgpkjlaplmdnaaa
