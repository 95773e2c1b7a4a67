/- The walk of ResyncLoses. -/
import Derived.Test.YtgpkjlaplmdnaaaRsLive
set_option linter.unusedVariables false
namespace Go.Proofs.Ytgpkjlaplmdnaaa
open Go.RowKit
def Rs.fndB (l : List Fnd) (p : Nat) : Bool := l.any fun f => ((f.at_ : Int) == (p : Int))
def Rs.hidB (l : List Fnd) (p : Nat) : Bool := l.any fun f => decide (f.at_ < p) && decide (p < f.at_ + f.size)
theorem Rs.fndB_snoc (l : List Fnd) (f : Fnd) (p : Nat) : Rs.fndB (l ++ [f]) p = (Rs.fndB l p || ((f.at_ : Int) == (p : Int))) := by unfold Rs.fndB; simp
theorem Rs.hidB_snoc (l : List Fnd) (f : Fnd) (p : Nat) : Rs.hidB (l ++ [f]) p = (Rs.hidB l p || (decide (f.at_ < p) && decide (p < f.at_ + f.size))) := by unfold Rs.hidB; simp
theorem Rs.fndB_cons (l : List Fnd) (f : Fnd) (p : Nat) : Rs.fndB (f :: l) p = (((f.at_ : Int) == (p : Int)) || Rs.fndB l p) := by unfold Rs.fndB; simp
theorem Rs.hidB_cons (l : List Fnd) (f : Fnd) (p : Nat) : Rs.hidB (f :: l) p = ((decide (f.at_ < p) && decide (p < f.at_ + f.size)) || Rs.hidB l p) := by unfold Rs.hidB; simp
theorem Rs.fndB_far {l : List Fnd} {p q : Nat} (h : ∀ f ∈ l, q ≤ f.at_) (hp : p < q) : Rs.fndB l p = false := by
  unfold Rs.fndB
  rw [List.any_eq_false]
  intro f hf
  have := h f hf
  simp; omega
theorem Rs.hidB_far {l : List Fnd} {p q : Nat} (h : ∀ f ∈ l, q ≤ f.at_) (hp : p < q) : Rs.hidB l p = false := by
  unfold Rs.hidB
  rw [List.any_eq_false]
  intro f hf
  have := h f hf
  simp; omega
/-- A frame that stands somewhere is found, or hidden. -/
theorem Rs.loses (fin : Bool) (bs : List UInt8) (q : Nat) : ∀ p, q ≤ p → Fr.rE (bs.drop p) = 0 → Rs.fndB (Rs.wk fin bs q).1 p = !(decide ((Rs.wk fin bs q).2 ≤ p) || Rs.hidB (Rs.wk fin bs q).1 p) := by
  refine (Rs.wk_ind fin bs (fun q r => ((∀ f ∈ r.1, q ≤ f.at_) ∧ q ≤ r.2) ∧ ∀ p, q ≤ p → Fr.rE (bs.drop p) = 0 → Rs.fndB r.1 p = !(decide (r.2 ≤ p) || Rs.hidB r.1 p)) ?_ ?_ ?_ ?_ q).2
  · intro q hq
    refine ⟨⟨by simp, Nat.le_refl _⟩, fun p hp h0 => ?_⟩
    rw [List.drop_eq_nil_of_le (by omega)] at h0
    exact absurd h0 (by decide)
  · intro q r hlt h0 ⟨⟨h1, h2⟩, h3⟩
    obtain ⟨ho, hl, hle⟩ := Rs.ok_mk hlt h0
    refine ⟨⟨?_, by show q ≤ r.2; omega⟩, fun p hp hp0 => ?_⟩
    · intro f hf
      rcases List.mem_cons.1 hf with rfl | hf
      · exact Nat.le_refl _
      · have := h1 f hf; omega
    · have hsz : (⟨q, Fr.ty (bs.drop q), Fr.pl (bs.drop q)⟩ : Fnd).size = Fr.ln (bs.drop q) + 9 := by unfold Fnd.size; rw [hl]
      rw [Rs.fndB_cons, Rs.hidB_cons, hsz]
      simp only
      generalize Fr.ln (bs.drop q) = L at *
      by_cases hp1 : p < q + (L + 9)
      · rw [Rs.fndB_far h1 hp1, Rs.hidB_far h1 hp1]
        have e1 : decide (r.2 ≤ p) = false := by simp; omega
        rw [e1]
        by_cases e : p = q
        · subst e; simp
        · have e2 : ((q : Int) == (p : Int)) = false := by simp; omega
          have e3 : decide (q < p) = true := by simp; omega
          rw [e2, e3]; simp; omega
      · have h4 := h3 p (by omega) hp0
        have e2 : ((q : Int) == (p : Int)) = false := by simp; omega
        have e3 : decide (p < q + (L + 9)) = false := by simp; omega
        rw [e2, e3, Bool.and_false, Bool.false_or, Bool.false_or]
        exact h4
  · intro q hlt h4 _
    refine ⟨⟨by simp, Nat.le_refl _⟩, fun p hp h0 => ?_⟩
    have : decide (q ≤ p) = true := by simp; exact hp
    simp [Rs.fndB, Rs.hidB, this]
  · intro q r hlt h0 h4 ⟨⟨h1, h2⟩, h3⟩
    refine ⟨⟨fun f hf => by have := h1 f hf; omega, by omega⟩, fun p hp hp0 => ?_⟩
    have : p ≠ q := by rintro rfl; exact h0 hp0
    exact h3 p (by omega) hp0
theorem Rs.whole_mem {bs : List UInt8} {k p : Nat} (h : p ∈ Rs.whole bs k) : Fr.rE (bs.drop p) = 0 ∧ p < k := by
  unfold Rs.whole at h
  rw [List.mem_filter] at h
  exact ⟨by simpa using h.2, by simpa using h.1⟩
set_option maxRecDepth 100000 in
set_option maxHeartbeats 4000000 in
theorem resyncLoses_any (bs : List UInt8) (n : Nat) (A : Option Addr) (c : Nat) (w : World) (hn : bs.length = n) (hS : Sl w A c (bs.map bv)) :
    Calls Try.prog 9 #[.slice A n c] w fun e w' => e = .returned (.bool true) ∧ Below w.heap.size w w' := by
  have hcap : n ≤ 9223372036854775807 := by have h1 := hS.cap; have h2 := hS.small; rw [List.length_map] at h1; omega
  have HL := hid (live14_any w)
  by_cases hbig : 3000 < n
  · clear hn hS
    go_enter Try.func9, Try.ntmps9
    go_wp2_with fail
    refine HL.out.mono ?_
    rintro e w1 ⟨rfl, hb1⟩
    go_wp2_with fail
    go_ret
    exact ⟨rfl, hb1⟩
  have hall := fun W (hW : Below w.heap.size w W) => sall_any bs n A c W hn (by omega) (hS.below hW)
  have hwh := fun W (hW : Below w.heap.size w W) => swhole_any bs n A c W hn (by omega) (hS.below hW)
  have hfa := Rs.wk_facts false bs 0
  have hlo := fun p h => Rs.loses false bs 0 p (Nat.zero_le _) h
  have hwm := fun p (h : p ∈ Rs.whole bs n) => hlo p (Rs.whole_mem h).1
  have hwl := Rs.whole_len bs n
  have hwn := fun p (h : p ∈ Rs.whole bs n) => (Rs.whole_mem h).2
  have hat : (Rs.wk false bs 0).2 ≤ n := by have := hfa.2.2 (Nat.zero_le _); omega
  have hln := Rs.wk_len false bs 0
  have hfm := fun f (h : f ∈ (Rs.wk false bs 0).1) => (show f.at_ + f.size ≤ n from by have := (hfa.1 f h).2.1.2.2.2; omega)
  have hpl8 := fun f (h : f ∈ (Rs.wk false bs 0).1) => (show f.pl.length ≤ 8192 from by
    have h2 := (hfa.1 f h).2.1
    have h3 := Fr.rE_ok h2.1
    rw [← h2.2.2.1] at h3
    omega)
  have hall2 := fun W hW => (hall W hW).mono (fun e w' h => AllR.go h (l := (Rs.wk false bs 0).1) (k := (Rs.wk false bs 0).2) rfl rfl)
  clear hall hfa hlo
  rw [Nat.sub_zero, hn] at hln
  generalize (Rs.wk false bs 0).1 = l at *
  generalize (Rs.wk false bs 0).2 = E at *
  generalize Rs.whole bs n = wh at *
  obtain ⟨nl, hnl⟩ : ∃ m, l.length = m := ⟨_, rfl⟩
  obtain ⟨nw, hnw⟩ : ∃ m, wh.length = m := ⟨_, rfl⟩
  rw [hnl] at hall2 hln
  rw [hnw] at hwh hwl
  have HALL := hid hall2
  have HWH := hid hwh
  have HWM := hid hwm
  have HWN := hid hwn
  have HFM := hid hfm
  have HP8 := hid hpl8
  have HNL := hid hnl
  have HNW := hid hnw
  clear hall2 hwh hwm hwn hfm hpl8 hnl hnw hn hS
  go_enter Try.func9, Try.ntmps9
  go_wp2_with fail
  refine HL.out.mono ?_
  rintro e w1 ⟨rfl, hb1⟩
  go_wp2_with fail
  refine (HALL.out _ hb1).mono ?_
  rintro e w2 ⟨A2, c2, rfl, hrow, hb2⟩
  have B2 := bw_t hb1 hb2
  go_wp2_with fail
  refine (HWH.out _ B2).mono ?_
  rintro e w3 ⟨v, rfl, ho, hb3⟩
  obtain ⟨A3, c3, rfl⟩ := row_slice_g ho
  have hws := own_slg (by omega) ho
  have HROW := hid (hrow.below hb3)
  have HWS := hid hws
  have HB3 := hid (bw_t B2 hb3)
  have hc3 : nw ≤ c3 := hws.cap
  clear hb1 hb2 hb3 B2 hrow ho hws
  go_wp2_with fail
  go_loop [6, 7, 8, 9, 10, 11] (fun i _ _ _ _ _ => ∃ k : Nat, k ≤ nw ∧ i = .int .i64 (k : Int)) (fun i _ _ _ _ _ => nw - (intOf i).toNat)
  case atStart => exact ⟨0, by omega, rfl⟩
  case round =>
    obtain ⟨k, hk, rfl⟩ := hrel
    by_cases hlt : k < nw
    · have hkl : k < wh.length := by have := HNW.out; omega
      obtain ⟨b, off, rfl, hbl, t0⟩ := HWS.out.rd k (iv wh[k]) (by simp [hkl])
      simp only [iv] at t0
      have hpm := List.getElem_mem hkl
      have hpw := HWM.out _ hpm
      have hpn := HWN.out _ hpm
      generalize wh[k] = p at *
      have HPW := hid hpw
      have hki : (k : Int) < (nw : Int) := by omega
      have hk0 : (0 : Int) ≤ (k : Int) := by omega
      clear hpw hpm
      go_wp2_with fail
      go_loop [8, 9, 10, 11] (fun fo hi i _ => ∃ m : Nat, m ≤ nl ∧ i = .int .i64 (m : Int) ∧ fo = .bool (Rs.fndB (l.take m) p) ∧ hi = .bool (decide (E ≤ p) || Rs.hidB (l.take m) p)) (fun _ _ i _ => nl - (intOf i).toNat)
      case atStart => exact ⟨0, by omega, rfl, rfl, by simp [Rs.hidB]⟩
      case round =>
        obtain ⟨m, hm, rfl, rfl, rfl⟩ := hrel
        by_cases hml : m < nl
        · have hml2 : m < l.length := by have := HNL.out; omega
          obtain ⟨b2, off2, Ap, cp, rfl, hbl2, s0, s1, s2, -, hnc, -⟩ := HROW.out.get HNL.out m hml2
          have htk : l.take (m + 1) = l.take m ++ [l[m]] := List.take_succ_eq_append_getElem hml2
          have hf1 := Rs.fndB_snoc (l.take m) l[m] p
          have hh1 := Rs.hidB_snoc (l.take m) l[m] p
          rw [← htk] at hf1 hh1
          have hfm := HFM.out _ (List.getElem_mem hml2)
          have hp8 := HP8.out _ (List.getElem_mem hml2)
          have hszd : l[m].size = l[m].pl.length + 9 := rfl
          rw [hszd] at hh1 hfm
          generalize l[m].at_ = fa at *
          generalize l[m].pl.length = pl at *
          generalize l[m].ty.toNat = ty at *
          have hsz := fsize_any (pl : Int) w3 (by omega) (by omega)
          have hze : Fr.size (pl : Int) = (pl : Int) + 9 := by unfold Fr.size; rw [if_neg (by omega)]
          rw [hze] at hsz
          have hmi : (m : Int) < (nl : Int) := by omega
          have hm0 : (0 : Int) ≤ (m : Int) := by omega
          have HSZ := hid hsz
          have HF1 := hid hf1
          have HH1 := hid hh1
          generalize Rs.fndB (l.take m) p = fo at *
          generalize (decide (E ≤ p)) = ep at *
          generalize Rs.hidB (l.take m) p = hi at *
          obtain ⟨hd, hhd⟩ : ∃ hd : Bool, (ep || hi) = hd := ⟨_, rfl⟩
          have HHD := hid hhd
          rw [hhd]
          clear hsz hze hf1 hh1 htk hszd hhd
          rcases (by omega : fa = p ∨ (fa < p ∧ p < fa + (pl + 9)) ∨ (fa < p ∧ fa + (pl + 9) ≤ p) ∨ p < fa) with hc | hc | hc | hc
          · skip
            have hx : ((fa : Int) == (p : Int)) = true := by simp; omega
            have hy : decide (fa < p) = false := by simp; omega
            have hz : decide ((p : Int) < (fa : Int) + ((pl : Int) + 9)) = true := by simp; omega
            have hz' : decide (p < fa + (pl + 9)) = true := by simp; omega
            rw [hx] at HF1
            rw [hy, hz'] at HH1
            cases fo <;> cases hd <;> (go_wp2_with (go_at_call 16; refine HSZ.out.mono ?_; rintro e w' ⟨rfl, rfl⟩))
            all_goals go_round
            all_goals first | (case rel => exact ⟨m + 1, by omega, by go_num, by rw [HF1.out]; rfl, by rw [HH1.out, ← Bool.or_assoc, HHD.out]; rfl⟩) | (case measure => simp [intOf]; omega)
          · skip
            have hx : ((fa : Int) == (p : Int)) = false := by simp; omega
            have hy : decide (fa < p) = true := by simp; omega
            have hz : decide ((p : Int) < (fa : Int) + ((pl : Int) + 9)) = true := by simp; omega
            have hz' : decide (p < fa + (pl + 9)) = true := by simp; omega
            rw [hx] at HF1
            rw [hy, hz'] at HH1
            cases fo <;> cases hd <;> (go_wp2_with (go_at_call 16; refine HSZ.out.mono ?_; rintro e w' ⟨rfl, rfl⟩))
            all_goals go_round
            all_goals first | (case rel => exact ⟨m + 1, by omega, by go_num, by rw [HF1.out]; rfl, by rw [HH1.out, ← Bool.or_assoc, HHD.out]; rfl⟩) | (case measure => simp [intOf]; omega)
          · skip
            have hx : ((fa : Int) == (p : Int)) = false := by simp; omega
            have hy : decide (fa < p) = true := by simp; omega
            have hz : decide ((p : Int) < (fa : Int) + ((pl : Int) + 9)) = false := by simp; omega
            have hz' : decide (p < fa + (pl + 9)) = false := by simp; omega
            rw [hx] at HF1
            rw [hy, hz'] at HH1
            cases fo <;> cases hd <;> (go_wp2_with (go_at_call 16; refine HSZ.out.mono ?_; rintro e w' ⟨rfl, rfl⟩))
            all_goals go_round
            all_goals first | (case rel => exact ⟨m + 1, by omega, by go_num, by rw [HF1.out]; rfl, by rw [HH1.out, ← Bool.or_assoc, HHD.out]; rfl⟩) | (case measure => simp [intOf]; omega)
          · skip
            have hx : ((fa : Int) == (p : Int)) = false := by simp; omega
            have hy : decide (fa < p) = false := by simp; omega
            have hz : decide ((p : Int) < (fa : Int) + ((pl : Int) + 9)) = true := by simp; omega
            have hz' : decide (p < fa + (pl + 9)) = true := by simp; omega
            rw [hx] at HF1
            rw [hy, hz'] at HH1
            cases fo <;> cases hd <;> (go_wp2_with (go_at_call 16; refine HSZ.out.mono ?_; rintro e w' ⟨rfl, rfl⟩))
            all_goals go_round
            all_goals first | (case rel => exact ⟨m + 1, by omega, by go_num, by rw [HF1.out]; rfl, by rw [HH1.out, ← Bool.or_assoc, HHD.out]; rfl⟩) | (case measure => simp [intOf]; omega)
        · obtain rfl : m = nl := by omega
          rw [List.take_of_length_le (by have := HNL.out; omega)]
          have hpw := HPW.out
          have hbeq : ∀ a b : Bool, a = !b → (a == b) = false := by decide
          have hbe := hbeq _ _ hpw
          generalize (decide (E ≤ p) || Rs.hidB l p) = hd at *
          generalize Rs.fndB l p = fo at *
          clear hpw hbeq
          cases fo <;> cases hd <;> first | (exfalso; revert hbe; decide) | skip
          all_goals go_wp2_with fail
          all_goals go_round
          all_goals first | (case rel => exact ⟨k + 1, by omega, by go_num⟩) | (case measure => simp [intOf]; omega)
    · obtain rfl : k = nw := by omega
      go_wp2_with fail
      go_ret
      exact ⟨rfl, HB3.out⟩
end Go.Proofs.Ytgpkjlaplmdnaaa
