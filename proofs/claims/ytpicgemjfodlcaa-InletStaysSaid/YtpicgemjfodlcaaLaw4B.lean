/- The walk of InletStays. -/
import Derived.Test.YtpicgemjfodlcaaProg
import Derived.Test.YtpicgemjfodlcaaBase
import Derived.Test.YtpicgemjfodlcaaLaw4A
import Derived.Test.YtpicgemjfodlcaaStays
import Derived.Test.YtpicgemjfodlcaaLive4
import Derived.Test.YtpicgemjfodlcaaSame
set_option linter.unusedVariables false
namespace Go.Proofs.Ytpicgemjfodlcaa
open Go.RowKit
theorem plc_err {e p p1 : Nat} (h : e ≠ 0) : plc e p p1 = p ∧ flt e p = p := by simp [plc, flt, h]
theorem plc_ok {p p1 : Nat} : plc 0 p p1 = p1 ∧ flt 0 p = 0 := by simp [plc, flt]
theorem plc_le {e p p1 : Nat} (h : p ≤ p1) : p ≤ plc e p p1 := by unfold plc; split <;> omega
set_option maxRecDepth 100000 in
set_option maxHeartbeats 8000000 in
theorem inStays_any (bs : List UInt8) (n : Nat) (A : Option Addr) (c : Nat) (l : List Ak) (m : Nat) (B : Option Addr) (d : Nat) (w : World) (hn : bs.length = n) (hm : l.length = m) (hs : Sl w A c (bs.map bv)) (hok : ∀ a ∈ l, akOk a) (hl : SlN w B m d 2 (l.flatMap akv)) :
    Calls Try.prog 4 #[.slice A n c, .slice B m d] w fun e w' => e = .returned (.bool true) ∧ Below w.heap.size w w' := by
  have hcn : n ≤ 9223372036854775807 := by have g1 := hs.cap; have g2 := hs.small; simp only [List.length_map] at g1; omega
  have hcm : m ≤ 9223372036854775807 := by have g1 := hl.cap; have g2 := hl.small; omega
  have hnc : n ≤ c := by have g1 := hs.cap; simp only [List.length_map] at g1; omega
  have hdm : m ≤ d := hl.cap
  have hds : d ≤ 9223372036854775807 := hl.small
  by_cases h1 : 1000 < n
  · go_enter Try.func4, Try.ntmps4
    go_wp2_with fail
    refine (live4_any _).mono ?_
    rintro e w1 ⟨rfl, hb1⟩
    go_wp2_with fail
    go_ret
    exact ⟨rfl, hb1⟩
  by_cases h2 : 60 < m
  · go_enter Try.func4, Try.ntmps4
    go_wp2_with fail
    refine (live4_any _).mono ?_
    rintro e w1 ⟨rfl, hb1⟩
    go_wp2_with fail
    go_ret
    exact ⟨rfl, hb1⟩
  have HN := hid hn
  have HM := hid hm
  have HLw := hid hl
  have HS := hid hs
  have HOK := hid hok
  clear hn hm hok
  go_enter Try.func4, Try.ntmps4
  go_wp2_with fail
  refine (live4_any _).mono ?_
  rintro e w1 ⟨rfl, hb1⟩
  have hs1 := hs.below hb1
  have hw1 : w.heap.size ≤ w1.heap.size := hb1.size
  have hl1 := hl.below hb1
  have HL := hid hl1
  go_wp2_with fail
  refine (new_any bs n A c w1 HN.out (by omega) hs1).mono ?_
  rintro e w2 ⟨q1, A1, c1, rfl, hr1, hq1, hfar, hb2⟩
  have HB12 := hid (bw_t hb1 hb2)
  have hq1l := hr1.blk.lt
  have HR1 := hid hr1
  have HFA := hid hfar
  clear hs hs1 hl hl1 hb1 hb2 hr1 hfar
  go_wp2_with fail
  have hw2 : w.heap.size ≤ w2.heap.size := HB12.out.size
  go_loopw [6] (fun i wr => ∃ k p : Nat, k ≤ m ∧ i = .int .i64 (k : Int) ∧ Rin 51 wr q1 A1 c1 bs p ∧ Below w.heap.size w wr) (fun i _ => m - (intOf i).toNat)
  case atStart => exact ⟨0, 0, by omega, rfl, HR1.out, HB12.out⟩
  case round =>
    obtain ⟨k, p, hk, rfl, hrin, hB⟩ := hrel
    have HTW := hid hrin
    by_cases hlt : k < m
    · have hkl : k < l.length := by have := HM.out; omega
      have hn0 : (l.flatMap akv)[k * 2 + 0]? = _ := flatMap_get akv 2 l k 0 hkl (fun _ _ => rfl) (by omega)
      have hn1 : (l.flatMap akv)[k * 2 + 1]? = _ := flatMap_get akv 2 l k 1 hkl (fun _ _ => rfl) (by omega)
      have hak := HOK.out l[k] (List.getElem_mem hkl)
      generalize l[k] = a at *
      obtain ⟨kd, nn⟩ := a
      obtain ⟨b, off, rfl, hbl, hc0⟩ := HLw.out.rd _ (.int .u8 (kd : Int)) (by rw [hn0]; rfl)
      obtain ⟨b', off', he', _, hc1⟩ := HLw.out.rd _ (.int .i64 nn) (by rw [hn1]; rfl)
      injection he' with he'; injection he' with e1 e2; subst e1; subst e2
      rw [Nat.add_zero] at hc0
      have hr0 : wr.cell? ⟨b, off + k * 2, none⟩ = some (.int .u8 (kd : Int)) := (hB.cell (p := ⟨b, off + k * 2, none⟩) hbl).trans hc0
      have hr1 : wr.cell? ⟨b, off + k * 2 + 1, none⟩ = some (.int .i64 nn) := (hB.cell (p := ⟨b, off + k * 2 + 1, none⟩) hbl).trans hc1
      clear hc0 hc1 hn0 hn1
      obtain ⟨hkd, hna, hnb⟩ := hak
      simp only at hkd hna hnb
      have hkm : (k : Int) < (m : Int) := by omega
      have hk0 : (0 : Int) ≤ (k : Int) := by omega
      have hpn : p ≤ n := by have := hrin.le; have := HN.out; omega
      have hat : ∀ (p' : Nat) W, Hid (Rin 51 W q1 A1 c1 bs p') → Calls Try.prog 8 #[.pointer (some ⟨q1, 0, none⟩)] W fun e w' => e = .returned (.int .i64 (p' : Int)) ∧ W = w' :=
        fun p' W h => iat_any 0 _ q1 A1 c1 bs p' h.out
      have HAT := hid hat
      have hlf : ∀ (p' : Nat) W, Hid (Rin 51 W q1 A1 c1 bs p') → Calls Try.prog 9 #[.pointer (some ⟨q1, 0, none⟩)] W fun e w' => e = .returned (.int .i64 ((n : Int) - (p' : Int))) ∧ ∃ j, w' = W.drewN j := by
        rintro p' W h
        have h4 := h.out.le
        have h5 := HN.out
        have h6 := ileft_any _ q1 A1 c1 bs p' h.out
        rwa [show ((bs.length - p' : Nat) : Int) = (n : Int) - (p' : Int) from by omega] at h6
      have HLF := hid hlf
      clear hlf
      clear hat hrin
      have hba := (Below.refl wr.heap.size wr).alloc (Nat.le_refl _) (.cells #[.int .i64 0, .int .i64 0] 37)
      have ka0 : (wr.alloc (.cells #[.int .i64 0, .int .i64 0] 37)).cell? ⟨b, off + k * 2, none⟩ = some (.int .u8 (kd : Int)) := (hba.cell (p := ⟨b, off + k * 2, none⟩) (Nat.lt_of_lt_of_le hbl hB.size)).trans hr0
      have ka1 : (wr.alloc (.cells #[.int .i64 0, .int .i64 0] 37)).cell? ⟨b, off + k * 2 + 1, none⟩ = some (.int .i64 nn) := (hba.cell (p := ⟨b, off + k * 2 + 1, none⟩) (Nat.lt_of_lt_of_le hbl hB.size)).trans hr1
      have kb := Blk.new wr 37 #[.int .i64 0, .int .i64 0]
      have HRA := hid (HTW.out.below hba)
      have HBA := hid (hB.trans (hba.mono hB.size))
      have HKB := hid kb
      have hg0 : w.heap.size ≤ wr.heap.size := hB.size
      have hgq : q1 < wr.heap.size := HTW.out.blk.lt
      clear hba kb hr0 hr1
      rcases (by omega : kd = 0 ∨ kd = 1 ∨ kd = 2 ∨ kd = 3 ∨ kd = 4 ∨ 5 ≤ kd) with rfl | rfl | rfl | rfl | rfl | h5
      · as_aux_lemma =>
          go_wp2_with (go_at_call 8; refine (HAT.out p _ HTW).mono ?_; rintro e w3 ⟨rfl, rfl⟩)
          refine (sv_any _ q1 A1 c1 bs p HRA.out).mono ?_
          rintro e w3 ⟨v, er, fa, p', rfl, hst, hpn', hri, hon⟩
          have hpm : p' ≤ n := by have := HN.out; omega
          have kb3 := hon.out.blk HKB.out (by omega)
          have kn0 : w3.cell? ⟨wr.heap.size, 0, none⟩ = some (.int .i64 0) := kb3.cell 0
          have kn1 : w3.cell? ⟨wr.heap.size, 1, none⟩ = some (.int .i64 0) := kb3.cell 1
          have knl := kb3.lt
          have kf0 := kb3.frozen 0
          have kf1 := kb3.frozen 1
          have HK3 := hid kb3
          have HB3 := hid (HBA.out.trans (hon.out.below (by omega) (by simp; omega)))
          clear kb3 hon hpn'
          have hpp : p ≤ p' := by omega
          have hw4 : Only wr.heap.size w3 ((w3.setCell ⟨wr.heap.size, 0, none⟩ (.int .i64 (er : Int))).setCell ⟨wr.heap.size, 1, none⟩ (.int .i64 (fa : Int))) := ((Only.refl wr.heap.size w3).set_ 0 _).set_ 1 _
          have hb4 := (HK3.out.set_ 0 (.int .i64 (er : Int))).set_ 1 (.int .i64 (fa : Int))
          have hr4 := hri.out.other hw4 (by omega) (HFA.out _ (.inr (by omega)))
          have HW4 := hid hw4
          have HB4 := hid hb4
          have HR4 := hid hr4
          clear hw4 hb4 hr4
          go_wp2_with fail
          generalize hW4 : (w3.setCell ⟨wr.heap.size, 0, none⟩ (.int .i64 (er : Int))).setCell ⟨wr.heap.size, 1, none⟩ (.int .i64 (fa : Int)) = w4
          rw [hW4] at HW4 HB4 HR4
          have hR4 : Hid (Rin 51 w4 q1 A1 c1 bs p') := HR4
          have k40 : w4.cell? ⟨wr.heap.size, 0, none⟩ = some (.int .i64 (er : Int)) := by simpa using HB4.out.cell 0
          have k41 : w4.cell? ⟨wr.heap.size, 1, none⟩ = some (.int .i64 (fa : Int)) := by simpa using HB4.out.cell 1
          have hB5 : Below w.heap.size w w4 := HB3.out.trans (HW4.out.below hg0 (by have := HB3.out.size; omega))
          have hwr : IntKind.i64.wrap ((n : Int) - (p' : Int)) = (n : Int) - (p' : Int) := IntWalk.i64_in _ (by omega)
          clear hW4 kn0 kn1 kf0 kf1 knl
          refine (HAT.out p' _ hR4).mono ?_
          rintro e w5 ⟨rfl, rfl⟩
          go_wp2_with fail
          refine (HLF.out p' _ hR4).mono ?_
          rintro e w6 ⟨rfl, n4, rfl⟩
          have k50 : (w4.drewN n4).cell? ⟨wr.heap.size, 0, none⟩ = some (.int .i64 (er : Int)) := k40
          have k51 : (w4.drewN n4).cell? ⟨wr.heap.size, 1, none⟩ = some (.int .i64 (fa : Int)) := k41
          have HR5 := hid (hR4.out.below (below_drewN (Below.refl _ _) n4) : Rin 51 (w4.drewN n4) q1 A1 c1 bs p')
          have hB6 : Below w.heap.size w (w4.drewN n4) := below_drewN hB5 n4
          rcases hst with ⟨rfl, _⟩ | ⟨hne, rfl, rfl⟩
          all_goals go_wp2_with fail
          all_goals exact ⟨⟨k + 1, _, by omega, by go_num, HR5.out, hB6⟩, by simp [intOf] <;> omega⟩
      · as_aux_lemma =>
          go_wp2_with (go_at_call 8; refine (HAT.out p _ HTW).mono ?_; rintro e w3 ⟨rfl, rfl⟩)
          refine (st_any _ q1 A1 c1 bs p HRA.out).mono ?_
          rintro e w3 ⟨v, x, er, fa, p', rfl, hst, hpn', hri, hon⟩
          have hpm : p' ≤ n := by have := HN.out; omega
          have kb3 := hon.out.blk HKB.out (by omega)
          have kn0 : w3.cell? ⟨wr.heap.size, 0, none⟩ = some (.int .i64 0) := kb3.cell 0
          have kn1 : w3.cell? ⟨wr.heap.size, 1, none⟩ = some (.int .i64 0) := kb3.cell 1
          have knl := kb3.lt
          have kf0 := kb3.frozen 0
          have kf1 := kb3.frozen 1
          have HK3 := hid kb3
          have HB3 := hid (HBA.out.trans (hon.out.below (by omega) (by simp; omega)))
          clear kb3 hon hpn'
          have hpp : p ≤ p' := by omega
          have hw4 : Only wr.heap.size w3 ((w3.setCell ⟨wr.heap.size, 0, none⟩ (.int .i64 (er : Int))).setCell ⟨wr.heap.size, 1, none⟩ (.int .i64 (fa : Int))) := ((Only.refl wr.heap.size w3).set_ 0 _).set_ 1 _
          have hb4 := (HK3.out.set_ 0 (.int .i64 (er : Int))).set_ 1 (.int .i64 (fa : Int))
          have hr4 := hri.out.other hw4 (by omega) (HFA.out _ (.inr (by omega)))
          have HW4 := hid hw4
          have HB4 := hid hb4
          have HR4 := hid hr4
          clear hw4 hb4 hr4
          go_wp2_with fail
          generalize hW4 : (w3.setCell ⟨wr.heap.size, 0, none⟩ (.int .i64 (er : Int))).setCell ⟨wr.heap.size, 1, none⟩ (.int .i64 (fa : Int)) = w4
          rw [hW4] at HW4 HB4 HR4
          have hR4 : Hid (Rin 51 w4 q1 A1 c1 bs p') := HR4
          have k40 : w4.cell? ⟨wr.heap.size, 0, none⟩ = some (.int .i64 (er : Int)) := by simpa using HB4.out.cell 0
          have k41 : w4.cell? ⟨wr.heap.size, 1, none⟩ = some (.int .i64 (fa : Int)) := by simpa using HB4.out.cell 1
          have hB5 : Below w.heap.size w w4 := HB3.out.trans (HW4.out.below hg0 (by have := HB3.out.size; omega))
          have hwr : IntKind.i64.wrap ((n : Int) - (p' : Int)) = (n : Int) - (p' : Int) := IntWalk.i64_in _ (by omega)
          clear hW4 kn0 kn1 kf0 kf1 knl
          refine (HAT.out p' _ hR4).mono ?_
          rintro e w5 ⟨rfl, rfl⟩
          go_wp2_with fail
          refine (HLF.out p' _ hR4).mono ?_
          rintro e w6 ⟨rfl, n4, rfl⟩
          have k50 : (w4.drewN n4).cell? ⟨wr.heap.size, 0, none⟩ = some (.int .i64 (er : Int)) := k40
          have k51 : (w4.drewN n4).cell? ⟨wr.heap.size, 1, none⟩ = some (.int .i64 (fa : Int)) := k41
          have HR5 := hid (hR4.out.below (below_drewN (Below.refl _ _) n4) : Rin 51 (w4.drewN n4) q1 A1 c1 bs p')
          have hB6 : Below w.heap.size w (w4.drewN n4) := below_drewN hB5 n4
          rcases hst with ⟨rfl, _⟩ | ⟨hne, rfl, rfl⟩
          all_goals go_wp2_with fail
          all_goals exact ⟨⟨k + 1, _, by omega, by go_num, HR5.out, hB6⟩, by simp [intOf] <;> omega⟩
      · as_aux_lemma =>
          go_wp2_with (go_at_call 8; refine (HAT.out p _ HTW).mono ?_; rintro e w3 ⟨rfl, rfl⟩)
          refine (sf_any _ q1 A1 c1 bs p HRA.out).mono ?_
          rintro e w3 ⟨v, er, fa, p', rfl, hz, hst, hpn', hri, hon⟩
          have hpm : p' ≤ n := by have := HN.out; omega
          have kb3 := hon.out.blk HKB.out (by omega)
          have kn0 : w3.cell? ⟨wr.heap.size, 0, none⟩ = some (.int .i64 0) := kb3.cell 0
          have kn1 : w3.cell? ⟨wr.heap.size, 1, none⟩ = some (.int .i64 0) := kb3.cell 1
          have knl := kb3.lt
          have kf0 := kb3.frozen 0
          have kf1 := kb3.frozen 1
          have HK3 := hid kb3
          have HB3 := hid (HBA.out.trans (hon.out.below (by omega) (by simp; omega)))
          clear kb3 hon hpn'
          have hpp : p ≤ p' := by omega
          have hw4 : Only wr.heap.size w3 ((w3.setCell ⟨wr.heap.size, 0, none⟩ (.int .i64 (er : Int))).setCell ⟨wr.heap.size, 1, none⟩ (.int .i64 (fa : Int))) := ((Only.refl wr.heap.size w3).set_ 0 _).set_ 1 _
          have hb4 := (HK3.out.set_ 0 (.int .i64 (er : Int))).set_ 1 (.int .i64 (fa : Int))
          have hr4 := hri.out.other hw4 (by omega) (HFA.out _ (.inr (by omega)))
          have HW4 := hid hw4
          have HB4 := hid hb4
          have HR4 := hid hr4
          clear hw4 hb4 hr4
          go_wp2_with fail
          generalize hW4 : (w3.setCell ⟨wr.heap.size, 0, none⟩ (.int .i64 (er : Int))).setCell ⟨wr.heap.size, 1, none⟩ (.int .i64 (fa : Int)) = w4
          rw [hW4] at HW4 HB4 HR4
          have hR4 : Hid (Rin 51 w4 q1 A1 c1 bs p') := HR4
          have k40 : w4.cell? ⟨wr.heap.size, 0, none⟩ = some (.int .i64 (er : Int)) := by simpa using HB4.out.cell 0
          have k41 : w4.cell? ⟨wr.heap.size, 1, none⟩ = some (.int .i64 (fa : Int)) := by simpa using HB4.out.cell 1
          have hB5 : Below w.heap.size w w4 := HB3.out.trans (HW4.out.below hg0 (by have := HB3.out.size; omega))
          have hwr : IntKind.i64.wrap ((n : Int) - (p' : Int)) = (n : Int) - (p' : Int) := IntWalk.i64_in _ (by omega)
          clear hW4 kn0 kn1 kf0 kf1 knl
          refine (HAT.out p' _ hR4).mono ?_
          rintro e w5 ⟨rfl, rfl⟩
          go_wp2_with fail
          refine (HLF.out p' _ hR4).mono ?_
          rintro e w6 ⟨rfl, n4, rfl⟩
          have k50 : (w4.drewN n4).cell? ⟨wr.heap.size, 0, none⟩ = some (.int .i64 (er : Int)) := k40
          have k51 : (w4.drewN n4).cell? ⟨wr.heap.size, 1, none⟩ = some (.int .i64 (fa : Int)) := k41
          have HR5 := hid (hR4.out.below (below_drewN (Below.refl _ _) n4) : Rin 51 (w4.drewN n4) q1 A1 c1 bs p')
          have hB6 : Below w.heap.size w (w4.drewN n4) := below_drewN hB5 n4
          rcases hst with ⟨rfl, _⟩ | ⟨hne, rfl, rfl⟩
          · obtain rfl := hz rfl
            have hw9 : IntKind.i64.wrap ((p : Int) + 4) = (p : Int) + 4 := IntWalk.i64_in _ (by omega)
            go_wp2_with fail
            exact ⟨⟨k + 1, _, by omega, by go_num, HR5.out, hB6⟩, by simp [intOf] <;> omega⟩
          · go_wp2_with fail
            exact ⟨⟨k + 1, _, by omega, by go_num, HR5.out, hB6⟩, by simp [intOf] <;> omega⟩
      · as_aux_lemma =>
          go_wp2_with (go_at_call 8; refine (HAT.out p _ HTW).mono ?_; rintro e w3 ⟨rfl, rfl⟩)
          refine (se_any _ q1 A1 c1 bs p HRA.out).mono ?_
          rintro e w3 ⟨v, er, fa, p', rfl, hz, hst, hpn', hri, hon⟩
          have hpm : p' ≤ n := by have := HN.out; omega
          have kb3 := hon.out.blk HKB.out (by omega)
          have kn0 : w3.cell? ⟨wr.heap.size, 0, none⟩ = some (.int .i64 0) := kb3.cell 0
          have kn1 : w3.cell? ⟨wr.heap.size, 1, none⟩ = some (.int .i64 0) := kb3.cell 1
          have knl := kb3.lt
          have kf0 := kb3.frozen 0
          have kf1 := kb3.frozen 1
          have HK3 := hid kb3
          have HB3 := hid (HBA.out.trans (hon.out.below (by omega) (by simp; omega)))
          clear kb3 hon hpn'
          have hpp : p ≤ p' := by omega
          have hw4 : Only wr.heap.size w3 ((w3.setCell ⟨wr.heap.size, 0, none⟩ (.int .i64 (er : Int))).setCell ⟨wr.heap.size, 1, none⟩ (.int .i64 (fa : Int))) := ((Only.refl wr.heap.size w3).set_ 0 _).set_ 1 _
          have hb4 := (HK3.out.set_ 0 (.int .i64 (er : Int))).set_ 1 (.int .i64 (fa : Int))
          have hr4 := hri.out.other hw4 (by omega) (HFA.out _ (.inr (by omega)))
          have HW4 := hid hw4
          have HB4 := hid hb4
          have HR4 := hid hr4
          clear hw4 hb4 hr4
          go_wp2_with fail
          generalize hW4 : (w3.setCell ⟨wr.heap.size, 0, none⟩ (.int .i64 (er : Int))).setCell ⟨wr.heap.size, 1, none⟩ (.int .i64 (fa : Int)) = w4
          rw [hW4] at HW4 HB4 HR4
          have hR4 : Hid (Rin 51 w4 q1 A1 c1 bs p') := HR4
          have k40 : w4.cell? ⟨wr.heap.size, 0, none⟩ = some (.int .i64 (er : Int)) := by simpa using HB4.out.cell 0
          have k41 : w4.cell? ⟨wr.heap.size, 1, none⟩ = some (.int .i64 (fa : Int)) := by simpa using HB4.out.cell 1
          have hB5 : Below w.heap.size w w4 := HB3.out.trans (HW4.out.below hg0 (by have := HB3.out.size; omega))
          have hwr : IntKind.i64.wrap ((n : Int) - (p' : Int)) = (n : Int) - (p' : Int) := IntWalk.i64_in _ (by omega)
          clear hW4 kn0 kn1 kf0 kf1 knl
          refine (HAT.out p' _ hR4).mono ?_
          rintro e w5 ⟨rfl, rfl⟩
          go_wp2_with fail
          refine (HLF.out p' _ hR4).mono ?_
          rintro e w6 ⟨rfl, n4, rfl⟩
          have k50 : (w4.drewN n4).cell? ⟨wr.heap.size, 0, none⟩ = some (.int .i64 (er : Int)) := k40
          have k51 : (w4.drewN n4).cell? ⟨wr.heap.size, 1, none⟩ = some (.int .i64 (fa : Int)) := k41
          have HR5 := hid (hR4.out.below (below_drewN (Below.refl _ _) n4) : Rin 51 (w4.drewN n4) q1 A1 c1 bs p')
          have hB6 : Below w.heap.size w (w4.drewN n4) := below_drewN hB5 n4
          rcases hst with ⟨rfl, _⟩ | ⟨hne, rfl, rfl⟩
          · obtain rfl := hz rfl
            have hw9 : IntKind.i64.wrap ((p : Int) + 8) = (p : Int) + 8 := IntWalk.i64_in _ (by omega)
            go_wp2_with fail
            exact ⟨⟨k + 1, _, by omega, by go_num, HR5.out, hB6⟩, by simp [intOf] <;> omega⟩
          · go_wp2_with fail
            exact ⟨⟨k + 1, _, by omega, by go_num, HR5.out, hB6⟩, by simp [intOf] <;> omega⟩
      · as_aux_lemma =>
          go_wp2_with (go_at_call 8; refine (HAT.out p _ HTW).mono ?_; rintro e w3 ⟨rfl, rfl⟩)
          refine (sb_any _ q1 A1 c1 bs p HRA.out nn hna hnb).mono ?_
          rintro e w3 ⟨A', c', L, er, fa, p', rfl, HSL, HFR, hz, hst, hpn', hri, hon⟩
          generalize hLz : L.length = z at *
          rcases hst with ⟨rfl, _⟩ | ⟨hne, rfl, rfl⟩
          · as_aux_lemma =>
              obtain ⟨hzp, hLL⟩ := hz rfl
              have hpm : p' ≤ n := by have := HN.out; omega
              have kb3 := hon.out.blk HKB.out (by omega)
              have kn0 : w3.cell? ⟨wr.heap.size, 0, none⟩ = some (.int .i64 0) := kb3.cell 0
              have kn1 : w3.cell? ⟨wr.heap.size, 1, none⟩ = some (.int .i64 0) := kb3.cell 1
              have knl := kb3.lt
              have kf0 := kb3.frozen 0
              have kf1 := kb3.frozen 1
              have HK3 := hid kb3
              have HB3 := hid (HBA.out.trans (hon.out.below (by omega) (by simp; omega)))
              clear kb3 hon hpn'
              have hpp : p ≤ p' := by omega
              have hw4 : Only wr.heap.size w3 (((w3.setCell ⟨wr.heap.size, 0, none⟩ (.int .i64 0)).setCell ⟨wr.heap.size, 1, none⟩ (.int .i64 (fa : Int))).alloc (.cells #[.int .i64 0, .int .i64 (fa : Int)] 37)) := (((Only.refl wr.heap.size w3).set_ 0 _).set_ 1 _).alloc _
              have hb40 := (HK3.out.set_ 0 (.int .i64 0)).set_ 1 (.int .i64 (fa : Int))
              have hb4 := hb40.below ((Below.refl _ _).alloc (Nat.le_refl _) (.cells #[.int .i64 0, .int .i64 (fa : Int)] 37)) hb40.lt
              have hr4 := hri.out.other hw4 (by omega) (HFA.out _ (.inr (by omega)))
              have HW4 := hid hw4
              have HB4 := hid hb4
              have HR4 := hid hr4
              clear hw4 hb40 hb4 hr4
              go_wp2_with fail
              generalize hW4 : ((w3.setCell ⟨wr.heap.size, 0, none⟩ (.int .i64 0)).setCell ⟨wr.heap.size, 1, none⟩ (.int .i64 (fa : Int))).alloc (.cells #[.int .i64 0, .int .i64 (fa : Int)] 37) = w4
              rw [hW4] at HW4 HB4 HR4
              have hR4 : Hid (Rin 51 w4 q1 A1 c1 bs p') := HR4
              have k40 : w4.cell? ⟨wr.heap.size, 0, none⟩ = some (.int .i64 0) := by simpa using HB4.out.cell 0
              have k41 : w4.cell? ⟨wr.heap.size, 1, none⟩ = some (.int .i64 (fa : Int)) := by simpa using HB4.out.cell 1
              have hB5 : Below w.heap.size w w4 := HB3.out.trans (HW4.out.below hg0 (by have := HB3.out.size; omega))
              have hwr : IntKind.i64.wrap ((n : Int) - (p' : Int)) = (n : Int) - (p' : Int) := IntWalk.i64_in _ (by omega)
              clear hW4 kn0 kn1 kf0 kf1 knl
              have hsm : ∀ (X : Option Addr) (e d : Nat), X = cutA A c (p' - z) → e = z → Calls Try.prog 15 #[.slice A' z c', .slice X e d] w4 fun e w' => e = .returned (.bool true) ∧ ∃ n, w' = w4.drewN n := by
                intro X e d hX he
                have hcut := (HS.out.below hB5).cut (p' - z) (by have := HN.out; omega)
                have hrd : BRd w4 (cutA A c (p' - z)) L := by
                  rw [hLL]
                  intro k u hk
                  rw [List.map_take, List.getElem?_take] at hk
                  split at hk
                  · exact hcut.rd k u hk
                  · cases hk
                have h := same_any L L A' (cutA A c (p' - z)) c' d w4 (by omega) (HW4.out.sl HSL.out (HFR.out _ (HFA.out _ (.inr (by omega)))) (by simp; omega)).rd hrd
                rw [hLz] at h
                rw [hX, he]
                exact h.mono fun e w' h => ⟨by rw [h.1]; simp, h.2⟩
              have HSM := hid hsm
              clear hsm
              have hpc : p' ≤ c := by omega
              have hpc1 : (p' : Int) ≤ (c : Int) := by omega
              have hpz0 : (0 : Int) ≤ (p' : Int) - (z : Int) := by omega
              have hpz1 : (p' : Int) - (z : Int) ≤ (p' : Int) := by omega
              have hwz : IntKind.i64.wrap ((p' : Int) - (z : Int)) = (p' : Int) - (z : Int) := IntWalk.i64_in _ (by omega)
              by_cases hcz : c = p' - z
              · go_wp2_with (go_at_call 8; refine (HAT.out p' w4 hR4).mono ?_; rintro e w5 ⟨rfl, rfl⟩)
                subst hcz
                refine (HSM.out _ _ _ (by simp [cutA, *]) (by omega)).mono ?_
                rintro e w5 ⟨rfl, n5, rfl⟩
                have HR6 : Hid (Rin 51 (w4.drewN n5) q1 A1 c1 bs p') := hid (hR4.out.below (below_drewN (Below.refl _ _) n5))
                have k60 : (w4.drewN n5).cell? ⟨wr.heap.size, 0, none⟩ = some (.int .i64 0) := k40
                have k61 : (w4.drewN n5).cell? ⟨wr.heap.size, 1, none⟩ = some (.int .i64 (fa : Int)) := k41
                have hB7 := below_drewN hB5 n5
                generalize w4.drewN n5 = w8 at HR6 k60 k61 hB7 ⊢
                go_wp2_with fail
                refine (HAT.out p' _ HR6).mono ?_
                rintro e w5 ⟨rfl, rfl⟩
                go_wp2_with fail
                refine (HLF.out p' _ HR6).mono ?_
                rintro e w6 ⟨rfl, n4, rfl⟩
                have k50 : (w8.drewN n4).cell? ⟨wr.heap.size, 0, none⟩ = some (.int .i64 0) := k60
                have k51 : (w8.drewN n4).cell? ⟨wr.heap.size, 1, none⟩ = some (.int .i64 (fa : Int)) := k61
                have HR5 := hid (HR6.out.below (below_drewN (Below.refl _ _) n4) : Rin 51 (w8.drewN n4) q1 A1 c1 bs p')
                have hB6 : Below w.heap.size w (w8.drewN n4) := below_drewN hB7 n4
                go_wp2_with fail
                first
                  | exact ⟨⟨k + 1, _, by omega, by go_num, HR5.out, hB6⟩, by simp [intOf] <;> omega⟩
                  | (go_roundw
                     case rel => exact ⟨k + 1, _, by omega, by go_num, HR5.out, hB6⟩
                     case measure => simp [intOf] <;> omega)
              · go_wp2_with (go_at_call 8; refine (HAT.out p' w4 hR4).mono ?_; rintro e w5 ⟨rfl, rfl⟩)
                refine (HSM.out _ _ _ (by simp [cutA, *]) (by omega)).mono ?_
                rintro e w5 ⟨rfl, n5, rfl⟩
                have HR6 : Hid (Rin 51 (w4.drewN n5) q1 A1 c1 bs p') := hid (hR4.out.below (below_drewN (Below.refl _ _) n5))
                have k60 : (w4.drewN n5).cell? ⟨wr.heap.size, 0, none⟩ = some (.int .i64 0) := k40
                have k61 : (w4.drewN n5).cell? ⟨wr.heap.size, 1, none⟩ = some (.int .i64 (fa : Int)) := k41
                have hB7 := below_drewN hB5 n5
                generalize w4.drewN n5 = w8 at HR6 k60 k61 hB7 ⊢
                go_wp2_with fail
                refine (HAT.out p' _ HR6).mono ?_
                rintro e w5 ⟨rfl, rfl⟩
                go_wp2_with fail
                refine (HLF.out p' _ HR6).mono ?_
                rintro e w6 ⟨rfl, n4, rfl⟩
                have k50 : (w8.drewN n4).cell? ⟨wr.heap.size, 0, none⟩ = some (.int .i64 0) := k60
                have k51 : (w8.drewN n4).cell? ⟨wr.heap.size, 1, none⟩ = some (.int .i64 (fa : Int)) := k61
                have HR5 := hid (HR6.out.below (below_drewN (Below.refl _ _) n4) : Rin 51 (w8.drewN n4) q1 A1 c1 bs p')
                have hB6 : Below w.heap.size w (w8.drewN n4) := below_drewN hB7 n4
                go_wp2_with fail
                first
                  | exact ⟨⟨k + 1, _, by omega, by go_num, HR5.out, hB6⟩, by simp [intOf] <;> omega⟩
                  | (go_roundw
                     case rel => exact ⟨k + 1, _, by omega, by go_num, HR5.out, hB6⟩
                     case measure => simp [intOf] <;> omega)
          · as_aux_lemma =>
              have hpm : fa ≤ n := by have := HN.out; omega
              have kb3 := hon.out.blk HKB.out (by omega)
              have kn0 : w3.cell? ⟨wr.heap.size, 0, none⟩ = some (.int .i64 0) := kb3.cell 0
              have kn1 : w3.cell? ⟨wr.heap.size, 1, none⟩ = some (.int .i64 0) := kb3.cell 1
              have knl := kb3.lt
              have kf0 := kb3.frozen 0
              have kf1 := kb3.frozen 1
              have HK3 := hid kb3
              have HB3 := hid (HBA.out.trans (hon.out.below (by omega) (by simp; omega)))
              clear kb3 hon hpn'
              have hpp : fa ≤ fa := by omega
              have hw4 : Only wr.heap.size w3 (((w3.setCell ⟨wr.heap.size, 0, none⟩ (.int .i64 (er : Int))).setCell ⟨wr.heap.size, 1, none⟩ (.int .i64 (fa : Int))).alloc (.cells #[.int .i64 (er : Int), .int .i64 (fa : Int)] 37)) := (((Only.refl wr.heap.size w3).set_ 0 _).set_ 1 _).alloc _
              have hb40 := (HK3.out.set_ 0 (.int .i64 (er : Int))).set_ 1 (.int .i64 (fa : Int))
              have hb4 := hb40.below ((Below.refl _ _).alloc (Nat.le_refl _) (.cells #[.int .i64 (er : Int), .int .i64 (fa : Int)] 37)) hb40.lt
              have hr4 := hri.out.other hw4 (by omega) (HFA.out _ (.inr (by omega)))
              have HW4 := hid hw4
              have HB4 := hid hb4
              have HR4 := hid hr4
              clear hw4 hb40 hb4 hr4
              go_wp2_with fail
              generalize hW4 : ((w3.setCell ⟨wr.heap.size, 0, none⟩ (.int .i64 (er : Int))).setCell ⟨wr.heap.size, 1, none⟩ (.int .i64 (fa : Int))).alloc (.cells #[.int .i64 (er : Int), .int .i64 (fa : Int)] 37) = w4
              rw [hW4] at HW4 HB4 HR4
              have hR4 : Hid (Rin 51 w4 q1 A1 c1 bs fa) := HR4
              have k40 : w4.cell? ⟨wr.heap.size, 0, none⟩ = some (.int .i64 (er : Int)) := by simpa using HB4.out.cell 0
              have k41 : w4.cell? ⟨wr.heap.size, 1, none⟩ = some (.int .i64 (fa : Int)) := by simpa using HB4.out.cell 1
              have hB5 : Below w.heap.size w w4 := HB3.out.trans (HW4.out.below hg0 (by have := HB3.out.size; omega))
              have hwr : IntKind.i64.wrap ((n : Int) - (fa : Int)) = (n : Int) - (fa : Int) := IntWalk.i64_in _ (by omega)
              clear hW4 kn0 kn1 kf0 kf1 knl
              refine (HAT.out fa _ hR4).mono ?_
              rintro e w5 ⟨rfl, rfl⟩
              go_wp2_with fail
              refine (HLF.out fa _ hR4).mono ?_
              rintro e w6 ⟨rfl, n4, rfl⟩
              have k50 : (w4.drewN n4).cell? ⟨wr.heap.size, 0, none⟩ = some (.int .i64 (er : Int)) := k40
              have k51 : (w4.drewN n4).cell? ⟨wr.heap.size, 1, none⟩ = some (.int .i64 (fa : Int)) := k41
              have HR5 := hid (hR4.out.below (below_drewN (Below.refl _ _) n4) : Rin 51 (w4.drewN n4) q1 A1 c1 bs fa)
              have hB6 : Below w.heap.size w (w4.drewN n4) := below_drewN hB5 n4
              go_wp2_with fail
              exact ⟨⟨k + 1, _, by omega, by go_num, HR5.out, hB6⟩, by simp [intOf] <;> omega⟩
      · as_aux_lemma =>
          go_wp2_with (go_at_call 8; refine (HAT.out p _ HTW).mono ?_; rintro e w3 ⟨rfl, rfl⟩)
          refine (sk_any _ q1 A1 c1 bs p HRA.out nn hna hnb).mono ?_
          rintro e w3 ⟨A', c', L, er, fa, p', rfl, hz, hst, hpn', hri, hon⟩
          generalize L.length = z at *
          have hpm : p' ≤ n := by have := HN.out; omega
          have kb3 := hon.out.blk HKB.out (by omega)
          have kn0 : w3.cell? ⟨wr.heap.size, 0, none⟩ = some (.int .i64 0) := kb3.cell 0
          have kn1 : w3.cell? ⟨wr.heap.size, 1, none⟩ = some (.int .i64 0) := kb3.cell 1
          have knl := kb3.lt
          have kf0 := kb3.frozen 0
          have kf1 := kb3.frozen 1
          have HK3 := hid kb3
          have HB3 := hid (HBA.out.trans (hon.out.below (by omega) (by simp; omega)))
          clear kb3 hon hpn'
          have hpp : p ≤ p' := by omega
          have hw4 : Only wr.heap.size w3 (((w3.setCell ⟨wr.heap.size, 0, none⟩ (.int .i64 (er : Int))).setCell ⟨wr.heap.size, 1, none⟩ (.int .i64 (fa : Int))).alloc (.cells #[.int .i64 (er : Int), .int .i64 (fa : Int)] 37)) := (((Only.refl wr.heap.size w3).set_ 0 _).set_ 1 _).alloc _
          have hb40 := (HK3.out.set_ 0 (.int .i64 (er : Int))).set_ 1 (.int .i64 (fa : Int))
          have hb4 := hb40.below ((Below.refl _ _).alloc (Nat.le_refl _) (.cells #[.int .i64 (er : Int), .int .i64 (fa : Int)] 37)) hb40.lt
          have hr4 := hri.out.other hw4 (by omega) (HFA.out _ (.inr (by omega)))
          have HW4 := hid hw4
          have HB4 := hid hb4
          have HR4 := hid hr4
          clear hw4 hb40 hb4 hr4
          go_wp2_with fail
          generalize hW4 : ((w3.setCell ⟨wr.heap.size, 0, none⟩ (.int .i64 (er : Int))).setCell ⟨wr.heap.size, 1, none⟩ (.int .i64 (fa : Int))).alloc (.cells #[.int .i64 (er : Int), .int .i64 (fa : Int)] 37) = w4
          rw [hW4] at HW4 HB4 HR4
          have hR4 : Hid (Rin 51 w4 q1 A1 c1 bs p') := HR4
          have k40 : w4.cell? ⟨wr.heap.size, 0, none⟩ = some (.int .i64 (er : Int)) := by simpa using HB4.out.cell 0
          have k41 : w4.cell? ⟨wr.heap.size, 1, none⟩ = some (.int .i64 (fa : Int)) := by simpa using HB4.out.cell 1
          have hB5 : Below w.heap.size w w4 := HB3.out.trans (HW4.out.below hg0 (by have := HB3.out.size; omega))
          have hwr : IntKind.i64.wrap ((n : Int) - (p' : Int)) = (n : Int) - (p' : Int) := IntWalk.i64_in _ (by omega)
          clear hW4 kn0 kn1 kf0 kf1 knl
          refine (HAT.out p' _ hR4).mono ?_
          rintro e w5 ⟨rfl, rfl⟩
          go_wp2_with fail
          refine (HLF.out p' _ hR4).mono ?_
          rintro e w6 ⟨rfl, n4, rfl⟩
          have k50 : (w4.drewN n4).cell? ⟨wr.heap.size, 0, none⟩ = some (.int .i64 (er : Int)) := k40
          have k51 : (w4.drewN n4).cell? ⟨wr.heap.size, 1, none⟩ = some (.int .i64 (fa : Int)) := k41
          have HR5 := hid (hR4.out.below (below_drewN (Below.refl _ _) n4) : Rin 51 (w4.drewN n4) q1 A1 c1 bs p')
          have hB6 : Below w.heap.size w (w4.drewN n4) := below_drewN hB5 n4
          rcases hst with ⟨rfl, _⟩ | ⟨hne, rfl, rfl⟩
          · obtain rfl := hz rfl
            have hw9 : IntKind.i64.wrap ((p : Int) + (z : Int)) = (p : Int) + (z : Int) := IntWalk.i64_in _ (by omega)
            by_cases hz0 : 0 < z
            · have hz1 : (0 : Int) < (z : Int) := by omega
              go_wp2_with fail
              exact ⟨⟨k + 1, _, by omega, by go_num, HR5.out, hB6⟩, by simp [intOf] <;> omega⟩
            · obtain rfl : z = 0 := by omega
              go_wp2_with fail
              exact ⟨⟨k + 1, _, by omega, by go_num, HR5.out, hB6⟩, by simp [intOf] <;> omega⟩
          · by_cases hz0 : 0 < z
            · have hz1 : (0 : Int) < (z : Int) := by omega
              go_wp2_with fail
              exact ⟨⟨k + 1, _, by omega, by go_num, HR5.out, hB6⟩, by simp [intOf] <;> omega⟩
            · obtain rfl : z = 0 := by omega
              go_wp2_with fail
              exact ⟨⟨k + 1, _, by omega, by go_num, HR5.out, hB6⟩, by simp [intOf] <;> omega⟩
    · go_wp2_with fail
      go_ret
      exact ⟨rfl, hB⟩
end Go.Proofs.Ytpicgemjfodlcaa
