/- The document's Read. -/
import Derived.Test.YtnfodgjihdoncaaFrRef
import Derived.BigQuiet
import Derived.Deep.QuietTactic
set_option linter.unusedVariables false
namespace Go.Proofs.Ytnfodgjihdoncaa
open Go.RowKit
theorem drew_size (w : World) : w.drew.heap.size = w.heap.size := rfl
theorem rjoin_pay (xs : List UInt8) (n : Nat) (A : Option Addr) (c : Nat) (w : World) (hn : xs.length = n) (hl : n ≤ 100000) (hs : Sl w A c (xs.map bv)) :
    Calls Try.prog 33 #[.slice A n c, .slice none 0 0] w fun e w' => ∃ A' c', e = .returned (.slice A' n c') ∧ Pay w.heap.size w' A' c' xs ∧ Below w.heap.size w w' := by
  refine (rjoin_any xs n A c w hn hl hs).mono ?_
  rintro e w' ⟨v, rfl, ho, hb⟩
  obtain ⟨A', c', rfl, hp⟩ := Pay.of_own ho
  exact ⟨A', c', rfl, hp, hb⟩
set_option maxRecDepth 100000 in
set_option maxHeartbeats 4000000 in
theorem rfread_any (bs : List UInt8) (n : Nat) (A : Option Addr) (c : Nat) (w : World) (hn : bs.length = n) (hl : n ≤ 1000000) (hS : Sl w A c (bs.map bv)) :
    Calls Try.prog 83 #[.slice A n c] w (RdR w bs) := by
  have hcap := hS.cap
  have hsm := hS.small
  rw [List.length_map, hn] at hcap
  have hR : RdR w bs = fun e w' => ((Fr.rE bs = 0 ∧ ∃ A c, e = .returned (.tuple #[.agg #[.int .u8 ((Fr.ty bs).toNat : Int), .slice A (Fr.ln bs) c], .int .i64 ((Fr.ln bs + 9 : Nat) : Int), .int .i64 0]) ∧ Pay w.heap.size w' A c (Fr.pl bs)) ∨
   (Fr.rE bs ≠ 0 ∧ e = .returned (.tuple #[.agg #[.int .u8 0, .slice none 0 0], .int .i64 0, .int .i64 (Fr.rE bs : Nat)]))) ∧ Below w.heap.size w w' := rfl
  generalize RdR w bs = R at *
  have hbad : ∀ k W, Fr.rE bs = k → k ≠ 0 → Below w.heap.size w W → R (.returned (.tuple #[.agg #[.int .u8 0, .slice none 0 0], .int .i64 0, .int .i64 (k : Int)])) W := by
    intro k W h1 h2 h3
    rw [hR]
    exact ⟨.inr ⟨by rw [h1]; exact h2, by rw [h1]⟩, h3⟩
  have hrh : Fr.hE bs ≠ 0 → Fr.rE bs = Fr.hE bs := fun h => by unfold Fr.rE; rw [if_pos h]
  by_cases h0 : n = 0
  · have hE : Fr.hE bs = 4 := by rw [Fr.hE_five (by omega) (by omega), if_pos (by omega)]
    have HB := hid (fun W => hbad 4 W (by rw [hrh (by omega), hE]) (by omega))
    subst h0
    clear hbad hR hrh hE hn hS
    go_enter Try.func83, Try.ntmps83
    go_wp2_with fail
    refine bodyPost_ret (v := .tuple #[.agg #[.int .u8 0, .slice none 0 0], .int .i64 0, .int .i64 4]) (by simp [results, Try.results83, go_sem]) rfl ?_
    exact HB.out _ (by first | exact bw_a (Below.refl _ _) _ | exact (bw_a (Below.refl _ _) _).setCell (Nat.le_refl _) _)
  have hn0 : 0 < n := by omega
  obtain ⟨b, off, rfl, hbl, hc0⟩ := BRd.at_ (k := 0) hS.rd (by omega)
  have hg0 : bs.getD 0 0 = bs[0] := by simp [List.getD, hn, hn0]
  have hx0l := bs[0].toNat_lt
  simp only [Nat.add_zero] at hc0
  by_cases hx0 : bs[0].toNat = 197
  · have hv0 : (((bs[0].toNat : Nat) : Int) != 197) = false := by simp [hx0]
    by_cases h1 : n = 1
    · have hE : Fr.hE bs = 4 := by rw [Fr.hE_five (fun _ => by rw [hg0]; exact hx0) (by omega), if_pos (by omega)]
      have HB := hid (fun W => hbad 4 W (by rw [hrh (by omega), hE]) (by omega))
      generalize bs[0].toNat = x0 at *
      subst h1
      clear hbad hR hrh hE hn hS hg0 hx0
      go_enter Try.func83, Try.ntmps83
      go_wp2_with fail
      refine bodyPost_ret (v := .tuple #[.agg #[.int .u8 0, .slice none 0 0], .int .i64 0, .int .i64 4]) (by simp [results, Try.results83, go_sem]) rfl ?_
      exact HB.out _ (by first | exact bw_a (Below.refl _ _) _ | exact (bw_a (Below.refl _ _) _).setCell (Nat.le_refl _) _)
    have hn1 : 1 < n := by omega
    obtain ⟨b', off', hbb, -, hc1⟩ := BRd.at_ (k := 1) hS.rd (by omega)
    injection hbb with hbb
    injection hbb with hb1 hb2
    subst hb1
    subst hb2
    have hg1 : bs.getD 1 0 = bs[1] := by simp [List.getD, hn, hn1]
    have hx1l := bs[1].toNat_lt
    by_cases hx1 : bs[1].toNat = 154
    · have hv1 : (((bs[1].toNat : Nat) : Int) != 154) = false := by simp [hx1]
      have h5 := Fr.hE_five (bs := bs) (fun _ => by rw [hg0]; exact hx0) (fun _ => by rw [hg1]; exact hx1)
      by_cases hn5 : n < 5
      · rw [if_pos (by omega)] at h5
        have HB := hid (fun W => hbad 4 W (by rw [hrh (by omega), h5]) (by omega))
        generalize bs[0].toNat = x0 at *
        generalize bs[1].toNat = x1 at *
        clear hbad hR hrh h5 hn hS hg0 hg1 hx0 hx1
        go_enter Try.func83, Try.ntmps83
        go_wp2_with fail
        refine bodyPost_ret (v := .tuple #[.agg #[.int .u8 0, .slice none 0 0], .int .i64 0, .int .i64 4]) (by simp [results, Try.results83, go_sem]) rfl ?_
        exact HB.out _ (by first | exact bw_a (Below.refl _ _) _ | exact (bw_a (Below.refl _ _) _).setCell (Nat.le_refl _) _)
      · rw [if_neg (by omega)] at h5
        obtain ⟨b', off', hbb, -, hc2⟩ := BRd.at_ (k := 2) hS.rd (by omega)
        injection hbb with hbb
        injection hbb with hb1 hb2
        subst hb1
        subst hb2
        obtain ⟨b', off', hbb, -, hc3⟩ := BRd.at_ (k := 3) hS.rd (by omega)
        injection hbb with hbb
        injection hbb with hb1 hb2
        subst hb1
        subst hb2
        obtain ⟨b', off', hbb, -, hc4⟩ := BRd.at_ (k := 4) hS.rd (by omega)
        injection hbb with hbb
        injection hbb with hb1 hb2
        subst hb1
        subst hb2
        have hty : (Fr.ty bs).toNat = bs[2].toNat := by unfold Fr.ty; congr 1; simp [List.getD, show 2 < bs.length from by omega]
        have hln : Fr.ln bs = bs[3].toNat + 256 * bs[4].toNat := by
          unfold Fr.ln
          congr 2
          · simp [List.getD, show 3 < bs.length from by omega]
          · congr 1; simp [List.getD, show 4 < bs.length from by omega]
        have hx3l := bs[3].toNat_lt
        have hx4l := bs[4].toNat_lt
        have hL0 : Fr.ln bs ≤ 65535 := by omega
        by_cases h8 : 8192 < Fr.ln bs
        · rw [if_pos h8] at h5
          have HB := hid (fun W => hbad 2 W (by rw [hrh (by omega), h5]) (by omega))
          generalize Fr.ln bs = L at *
          generalize bs[0].toNat = x0 at *
          generalize bs[1].toNat = x1 at *
          generalize bs[2].toNat = x2 at *
          generalize bs[3].toNat = x3 at *
          generalize bs[4].toNat = x4 at *
          have HLN := hid hln
          clear hbad hR hrh h5 hn hS hg0 hg1 hx0 hx1 hty hln
          go_enter Try.func83, Try.ntmps83
          go_wp2_with fail
          go_quiet (fail)
          rw [show (x3 : Int) + 256 * (x4 : Int) = (L : Int) from by have := HLN.out; omega]
          go_wp2_with fail
          refine bodyPost_ret (v := .tuple #[.agg #[.int .u8 0, .slice none 0 0], .int .i64 0, .int .i64 2]) (by simp [results, Try.results83, go_sem]) rfl ?_
          exact HB.out _ (((bw_d (bw_a (Below.refl _ w) _) _).setCell (p := ⟨w.heap.size, 0, none⟩) (Nat.le_refl _) _).setCell (p := ⟨w.heap.size, 1, none⟩) (Nat.le_refl _) _)
        · rw [if_neg h8] at h5
          by_cases hs : n < Fr.ln bs + 9
          · have hrE : Fr.rE bs = 4 := by unfold Fr.rE; rw [h5, if_neg (by simp), if_pos (by omega)]
            have HB := hid (fun W => hbad 4 W hrE (by omega))
            generalize Fr.ln bs = L at *
            generalize bs[0].toNat = x0 at *
            generalize bs[1].toNat = x1 at *
            generalize bs[2].toNat = x2 at *
            generalize bs[3].toNat = x3 at *
            generalize bs[4].toNat = x4 at *
            have HLN := hid hln
            have hsb : decide ((n : Int) < (L : Int) + 9) = true := by simp; omega
            clear hbad hR hrh h5 hn hS hg0 hg1 hx0 hx1 hty hln hrE
            go_enter Try.func83, Try.ntmps83
            go_wp2_with fail
            go_quiet (fail)
            rw [show (x3 : Int) + 256 * (x4 : Int) = (L : Int) from by have := HLN.out; omega]
            go_wp2_with fail
            refine bodyPost_ret (v := .tuple #[.agg #[.int .u8 0, .slice none 0 0], .int .i64 0, .int .i64 4]) (by simp [results, Try.results83, go_sem]) rfl ?_
            exact HB.out _ (((bw_d (bw_a (Below.refl _ w) _) _).setCell (p := ⟨w.heap.size, 0, none⟩) (Nat.le_refl _) _).setCell (p := ⟨w.heap.size, 1, none⟩) (Nat.le_refl _) _)
          · have hrE : Fr.rE bs = if Fr.put (Fr.ty bs) (Fr.pl bs) = bs.take (Fr.ln bs + 9) then 0 else 12 := by unfold Fr.rE; rw [h5, if_neg (by simp), if_neg (by omega)]
            have hple : (Fr.pl bs).length = Fr.ln bs := by unfold Fr.pl; rw [List.length_take, List.length_drop]; omega
            have hcut5 : ∀ W, Below w.heap.size w W → Sl W (some ⟨b, off + 5, none⟩) (c - 5) ((Fr.pl bs).map bv) := by
              intro W hW
              have h2 := (hS.below hW).cut 5 (by omega)
              have h3 : cutA (some ⟨b, off, none⟩) c 5 = some ⟨b, off + 5, none⟩ ∨ c = 5 := by
                unfold cutA
                by_cases hc5 : c = 5
                · exact .inr hc5
                · rw [if_neg hc5]; simp [addr_add]
              rcases h3 with h3 | h3
              · rw [h3] at h2
                refine ⟨by rw [List.length_map, hple]; omega, h2.small, (fun h => by cases h), ?_⟩
                have := h2.rd.take (Fr.ln bs)
                rw [← List.map_take] at this
                exact this
              · omega
            have hpre : ∀ W, Below w.heap.size w W → BRd W (some ⟨b, off, none⟩) (bs.take (Fr.ln bs + 9)) := fun W hW => by
              have := (hS.below hW).rd.take (Fr.ln bs + 9)
              rw [← List.map_take] at this
              exact this
            have hj := fun W (hW : Below w.heap.size w W) => rjoin_pay (Fr.pl bs) (Fr.ln bs) (some ⟨b, off + 5, none⟩) (c - 5) W hple (by omega) (hcut5 W hW)
            have hp := fun W A' c' h => rfput_any (Fr.ty bs) (Fr.pl bs) (Fr.ln bs) A' c' W hple (by omega) h
            have htl : (bs.take (Fr.ln bs + 9)).length = Fr.ln bs + 9 := by rw [List.length_take]; omega
            have hsm9 := fun W A' c' (hW : Below w.heap.size w W) (h : Sl W A' c' ((Fr.put (Fr.ty bs) (Fr.pl bs)).map bv)) => same_at (Fr.put (Fr.ty bs) (Fr.pl bs)) (bs.take (Fr.ln bs + 9)) (Fr.ln bs + 9) (Fr.ln bs + 9) A' (some ⟨b, off, none⟩) c' c W (by rw [Fr.put_len, hple]) htl (by omega) h.rd (hpre W hW)
            have hgood : ∀ A' c' W, Fr.rE bs = 0 → Pay w.heap.size W A' c' (Fr.pl bs) → Below w.heap.size w W → R (.returned (.tuple #[.agg #[.int .u8 ((Fr.ty bs).toNat : Int), .slice A' (Fr.ln bs) c'], .int .i64 ((Fr.ln bs + 9 : Nat) : Int), .int .i64 0])) W := by
              intro A' c' W h1 h2 h3
              rw [hR]
              exact ⟨.inl ⟨h1, A', c', rfl, h2⟩, h3⟩
            rw [← hty] at hc2
            generalize hz : decide (Fr.put (Fr.ty bs) (Fr.pl bs) = bs.take (Fr.ln bs + 9)) = z at *
            have hz1 : z = true → Fr.rE bs = 0 := fun h => by rw [h] at hz; rw [hrE, if_pos (of_decide_eq_true hz)]
            have hz2 : z = false → Fr.rE bs = 12 := fun h => by rw [h] at hz; rw [hrE, if_neg (of_decide_eq_false hz)]
            have hb12 := hbad 12
            clear hz hrE hbad hR hrh h5 hpre htl
            generalize hP : Fr.put (Fr.ty bs) (Fr.pl bs) = P at *
            generalize Fr.ln bs = L at *
            generalize Fr.pl bs = p at *
            generalize Fr.ty bs = ty at *
            generalize ty.toNat = x2 at *
            generalize bs[0].toNat = x0 at *
            generalize bs[1].toNat = x1 at *
            generalize bs[3].toNat = x3 at *
            generalize bs[4].toNat = x4 at *
            generalize Fr.rE bs = E at *
            generalize bs.take (L + 9) = pre at *
            have HLN := hid hln
            have HJ := hid hj
            have HP := hid hp
            have HSM := hid hsm9
            have HG := hid hgood
            have HZ1 := hid hz1
            have HZ2 := hid hz2
            have HB12 := hid hb12
            have hsb : decide ((n : Int) < (L : Int) + 9) = false := by simp; omega
            have h9 : (9 : Int) + (L : Int) = (L : Int) + 9 := by omega
            have hc59 : 5 + L ≤ c := by omega
            clear hn hS hg0 hg1 hx0 hx1 hty hln hj hp hsm9 hgood hz1 hz2 hb12 hple hcut5 hP h9
            go_enter Try.func83, Try.ntmps83
            go_wp2_with fail
            go_quiet (fail)
            rw [show (x3 : Int) + 256 * (x4 : Int) = (L : Int) from by have := HLN.out; omega]
            go_wp2_with fail
            have HBQ := hid (bw_d (bw_a (Below.refl _ w) (.cells #[.int .u8 0, .slice none 0 0] 70)) nq)
            have hres := (Blk.new w 70 #[.int .u8 0, .slice none 0 0])
            replace hres : Blk ((w.alloc (.cells #[.int .u8 0, .slice none 0 0] 70)).drewN nq) w.heap.size 70 #[.int .u8 0, .slice none 0 0] := hres
            have hcq : ((w.alloc (.cells #[.int .u8 0, .slice none 0 0] 70)).drewN nq).cell? ⟨b, off + 2, none⟩ = some (.int .u8 (x2 : Int)) := by
              rw [HBQ.out.cell (p := ⟨b, off + 2, none⟩) hbl]; exact hc2
            have hszq : w.heap.size < ((w.alloc (.cells #[.int .u8 0, .slice none 0 0] 70)).drewN nq).heap.size := hres.lt
            generalize hwq : ((w.alloc (.cells #[.int .u8 0, .slice none 0 0] 70)).drewN nq) = wq at *
            have HRES := hid hres
            have HWQ := hid hwq
            clear hres hwq
            have hi2 : (2 : Int) < (n : Int) := by omega
            have hs1 : IntKind.i64.wrap (5 + (L : Int)) = 5 + (L : Int) := IntWalk.i64_in _ (by omega)
            have hs2 : (5 + (L : Int)).toNat = 5 + L := by omega
            have hs3 : (0 : Int) ≤ 5 + (L : Int) := by omega
            have hs4 : (5 : Int) ≤ 5 + (L : Int) := by omega
            have hs5 : 5 + (L : Int) ≤ (c : Int) := by omega
            have hs6 : 5 + L - 5 = L := by omega
            have hs7 : ¬ c = 5 := by omega
            have HBD := hid (below_drew' HBQ.out)
            have hszd : wq.drew.heap.size = wq.heap.size := rfl
            have HSD := hid hszd
            clear hszd
            have hbq1 : ¬ b = wq.heap.size := by omega
            have hbq2 : ¬ wq.heap.size = b := by omega
            have hcqd : wq.drew.cell? ⟨b, off + 2, none⟩ = some (.int .u8 (x2 : Int)) := hcq
            go_region_held3 (fun w' => w'.cell? ⟨b, off + 2, none⟩ = some (.int .u8 (x2 : Int))) (first | exact hcq | exact hcqd | go_keep) (first | (go_at_call 33; (with_reducible refine (HJ.out _ HBD.out).mono ?_); rintro e w2 ⟨A2, c2, rfl, ho2, hb2⟩; have HO2 := hid ho2; have HB2 := hid hb2; have hcq2 := (hb2.cell (p := ⟨b, off + 2, none⟩) (show b < wq.drew.heap.size from by rw [HSD.out]; omega)).trans hcq; clear ho2 hb2) | (go_at_call 33; (with_reducible refine (HJ.out _ (below_drew' (bw_a HBQ.out _))).mono ?_); rintro e w2 ⟨A2, c2, rfl, ho2, hb2⟩; have HO2 := hid ho2; have HB2 := hid hb2; have hcq2 := (hb2.cell (p := ⟨b, off + 2, none⟩) (show b < _ from by rw [drew_size, World.size_alloc]; omega)).trans (((Below.refl _ wq).alloc (Nat.le_refl _) _).cell (p := ⟨b, off + 2, none⟩) (show b < wq.heap.size from by omega) |>.trans hcq); have hkf : Blk w2 wq.heap.size 70 #[.int .u8 0, .slice none 0 0] := Blk.below (w := (wq.alloc (.cells #[.int .u8 0, .slice none 0 0] 70)).drew) (Blk.new wq 70 #[.int .u8 0, .slice none 0 0]) hb2 (show wq.heap.size < _ from by rw [drew_size, World.size_alloc]; omega); have hkfc0 := hkf.cell 0; have hkfc1 := hkf.cell 1; have hkff0 := hkf.frozen 0; have hkff1 := hkf.frozen 1; have hkfl := hkf.lt; clear ho2 hb2))
            all_goals go_wp2_with fail
            · have hkq := Blk.new w2 70 #[.int .u8 (x2 : Int), .slice A2 L c2]
              have B2 := bw_t HBD.out HB2.out
              have hp3 := (HO2.out.mono (show w.heap.size ≤ _ from by rw [drew_size]; omega)).below (bw_a (Below.refl _ w2) (.cells #[.int .u8 (x2 : Int), .slice A2 L c2] 70))
              have hb3 := bw_a B2 (.cells #[.int .u8 (x2 : Int), .slice A2 L c2] 70)
              have hr3 := (HRES.out.below (B := wq.drew.heap.size) (w' := w2) ((below_drew' (Below.refl _ wq)).trans HB2.out) (by rw [drew_size]; omega)).alloc (.cells #[.int .u8 (x2 : Int), .slice A2 L c2] 70)
              have hqne : ¬ w2.heap.size = w.heap.size := by have := HB2.out.size; rw [drew_size] at this; omega
              clear hcq hcqd hcq2 hszq
              generalize w2.alloc (.cells #[.int .u8 (x2 : Int), .slice A2 L c2] 70) = w3 at *
              generalize w2.heap.size = q at *
              have hq0 := hkq.cell 0
              have hq1 := hkq.cell 1
              simp only [List.getElem?_toArray, List.getElem?_cons_zero, List.getElem?_cons_succ] at hq0 hq1
              have hql := hkq.lt
              have hs9 : IntKind.i64.wrap ((L : Int) + 9) = (L : Int) + 9 := IntWalk.i64_in _ (by omega)
              have hs10 : ((L : Int) + 9).toNat = L + 9 := by omega
              have hs11 : (0 : Int) ≤ (L : Int) + 9 := by omega
              have hs12 : (L : Int) + 9 ≤ (c : Int) := by omega
              have HKQ := hid hkq
              have HP3 := hid hp3
              have HB3 := hid hb3
              have HR3 := hid hr3
              clear hkq hp3 hb3 hr3 hs1 hs2 hs3 hs4 hs5 hs6 hs7
              go_region_held3 (fun w' => w'.cell? ⟨q, 0, none⟩ = some (.int .u8 (x2 : Int)) ∧ w'.cell? ⟨q, 1, none⟩ = some (.slice A2 L c2)) (first | exact ⟨hq0, hq1⟩ | exact ⟨k0, k1⟩ | go_keep) (first | (go_at_call 43; (with_reducible refine (HP.out _ _ _ (HP3.out.below (below_drew' (Below.refl _ w3))).sl).mono ?_); rintro e w4 ⟨v4, rfl, ho4, hb4⟩; obtain ⟨A4, c4, rfl, hl4, hs4⟩ := Sl.of_own ho4; have k0 := (hb4.cell (p := ⟨q, 0, none⟩) (show q < w3.drew.heap.size from by rw [drew_size]; exact hql)).trans hq0; have k1 := (hb4.cell (p := ⟨q, 1, none⟩) (show q < w3.drew.heap.size from by rw [drew_size]; exact hql)).trans hq1; have HB4 := hid hb4; have HS4 := hid hs4; clear ho4 hb4 hs4 hl4) | (go_at_call 34; (with_reducible refine (HSM.out _ _ _ (bw_t (below_drew' HB3.out) HB4.out) HS4.out).mono ?_); rintro e w5 ⟨rfl, kd, rfl⟩))
              have B4 := bw_t (below_drew' HB3.out) HB4.out
              have hq4 := (HKQ.out.below (B := w3.drew.heap.size) (w' := w4) ((below_drew' (Below.refl _ w3)).trans HB4.out) (by rw [drew_size]; exact hql))
              have hr4 := (HR3.out.below (B := w3.drew.heap.size) (w' := w4) ((below_drew' (Below.refl _ w3)).trans HB4.out) (by rw [drew_size]; exact HR3.out.lt))
              have hp4 := HP3.out.below (B := w.heap.size) (w' := w4) ((below_drew' (Below.refl _ w3)).trans HB4.out)
              have hq4' : Blk (w4.drewN kd) q 70 #[.int .u8 (x2 : Int), .slice A2 L c2] := hq4
              have hr4' : Blk (w4.drewN kd) w.heap.size 70 #[.int .u8 0, .slice none 0 0] := hr4
              have hp4' : Pay w.heap.size (w4.drewN kd) A2 c2 p := hp4.below (bw_d (Below.refl _ w4) kd)
              have B5 := bw_d B4 kd
              clear hq4 hr4 hp4 B4 hq0 hq1 k0 k1
              have hq0 := hq4'.cell 0
              have hq1 := hq4'.cell 1
              have hr0 := hr4'.cell 0
              have hr1 := hr4'.cell 1
              have hrf := fun i => hr4'.frozen i
              have hrl := hr4'.lt
              have hql := hq4'.lt
              simp only [List.getElem?_toArray, List.getElem?_cons_zero, List.getElem?_cons_succ] at hq0 hq1 hr0 hr1
              have HP5 := hid hp4'
              have HR5 := hid hr4'
              have HB5 := hid B5
              clear hp4' hq4' hr4' B5
              generalize w4.drewN kd = w5 at *
              cases z with
              | true =>
                have hchg5 := ((Chg.refl (fun k => k = w.heap.size) w5).set_ (.inl rfl) 0 (.int .u8 (x2 : Int))).set_ (.inl rfl) 1 (.slice A2 L c2)
                have hp6 := HP5.out.chg hchg5 (fun b' cs k h1 h2 e => by
                  subst e
                  rw [show w5.heap[w.heap.size]? = _ from HR5.out] at h2
                  injection h2 with h2
                  injection h2 with _ h2
                  exact absurd h2 (by decide))
                have HF := hid (HG.out _ _ _ (HZ1.out rfl) hp6 (HB5.out.trans (hchg5.below (B := w.heap.size) (fun k hk => by omega) HB5.out.size)))
                clear hchg5 hp6
                go_wp2_with fail
                refine bodyPost_ret (v := .tuple #[.agg #[.int .u8 (x2 : Int), .slice A2 L c2], .int .i64 ((L + 9 : Nat) : Int), .int .i64 0]) (by simp [results, Try.results83, go_sem, hr0, hr1]) rfl ?_
                exact HF.out
              | false =>
                have HF := hid (fun W => HB12.out W (HZ2.out rfl) (by omega))
                go_wp2_with fail
                refine bodyPost_ret (v := .tuple #[.agg #[.int .u8 0, .slice none 0 0], .int .i64 0, .int .i64 12]) (by simp [results, Try.results83, go_sem, hr0, hr1]) rfl ?_
                exact HF.out _ ((HB5.out.setCell (p := ⟨w.heap.size, 0, none⟩) (Nat.le_refl _) _).setCell (p := ⟨w.heap.size, 1, none⟩) (Nat.le_refl _) _)
            · have hchg := ((Chg.refl (fun k => k = wq.heap.size) w2).set_ (.inl rfl) 0 (.int .u8 (x2 : Int))).set_ (.inl rfl) 1 (.slice A2 L c2)
              have hkq := (Blk.set_ hkf 0 (.int .u8 (x2 : Int))).set_ 1 (.slice A2 L c2)
              have B2 := bw_t (below_drew' (bw_a HBQ.out _)) HB2.out
              have hp3 := (HO2.out.mono (show w.heap.size ≤ _ from by rw [drew_size, World.size_alloc]; omega)).chg hchg (fun b' cs k h1 h2 e => by
                subst e
                rw [show w2.heap[wq.heap.size]? = _ from hkf] at h2
                injection h2 with h2
                injection h2 with _ h2
                exact absurd h2 (by decide))
              have hb3 := B2.trans (hchg.below (B := w.heap.size) (fun k hk => by omega) B2.size)
              have hr3 := hchg.blk (HRES.out.below (bw_t (below_drew' (bw_a (Below.refl _ wq) _)) HB2.out) HRES.out.lt) (show ¬ w.heap.size = wq.heap.size by omega)
              have hqne : ¬ wq.heap.size = w.heap.size := by omega
              simp only [Array.setIfInBounds, List.size_toArray, List.length_cons, List.length_nil, Nat.reduceAdd, dite_true, List.set_toArray, List.set_cons_zero, List.set_cons_succ, Nat.zero_lt_succ, Nat.lt_add_one] at hkq
              clear hcq hcqd hcq2 hkfc0 hkfc1 hkff0 hkff1 hkfl hkf hchg
              generalize (w2.setCell ⟨wq.heap.size, 0, none⟩ (.int .u8 (x2 : Int))).setCell ⟨wq.heap.size, 1, none⟩ (.slice A2 L c2) = w3 at *
              generalize wq.heap.size = q at *
              have hq0 := hkq.cell 0
              have hq1 := hkq.cell 1
              simp only [List.getElem?_toArray, List.getElem?_cons_zero, List.getElem?_cons_succ] at hq0 hq1
              have hql := hkq.lt
              have hs9 : IntKind.i64.wrap ((L : Int) + 9) = (L : Int) + 9 := IntWalk.i64_in _ (by omega)
              have hs10 : ((L : Int) + 9).toNat = L + 9 := by omega
              have hs11 : (0 : Int) ≤ (L : Int) + 9 := by omega
              have hs12 : (L : Int) + 9 ≤ (c : Int) := by omega
              have HKQ := hid hkq
              have HP3 := hid hp3
              have HB3 := hid hb3
              have HR3 := hid hr3
              clear hkq hp3 hb3 hr3 hs1 hs2 hs3 hs4 hs5 hs6 hs7
              go_region_held3 (fun w' => w'.cell? ⟨q, 0, none⟩ = some (.int .u8 (x2 : Int)) ∧ w'.cell? ⟨q, 1, none⟩ = some (.slice A2 L c2)) (first | exact ⟨hq0, hq1⟩ | exact ⟨k0, k1⟩ | go_keep) (first | (go_at_call 43; (with_reducible refine (HP.out _ _ _ (HP3.out.below (below_drew' (Below.refl _ w3))).sl).mono ?_); rintro e w4 ⟨v4, rfl, ho4, hb4⟩; obtain ⟨A4, c4, rfl, hl4, hs4⟩ := Sl.of_own ho4; have k0 := (hb4.cell (p := ⟨q, 0, none⟩) (show q < w3.drew.heap.size from by rw [drew_size]; exact hql)).trans hq0; have k1 := (hb4.cell (p := ⟨q, 1, none⟩) (show q < w3.drew.heap.size from by rw [drew_size]; exact hql)).trans hq1; have HB4 := hid hb4; have HS4 := hid hs4; clear ho4 hb4 hs4 hl4) | (go_at_call 34; (with_reducible refine (HSM.out _ _ _ (bw_t (below_drew' HB3.out) HB4.out) HS4.out).mono ?_); rintro e w5 ⟨rfl, kd, rfl⟩))
              have B4 := bw_t (below_drew' HB3.out) HB4.out
              have hq4 := (HKQ.out.below (B := w3.drew.heap.size) (w' := w4) ((below_drew' (Below.refl _ w3)).trans HB4.out) (by rw [drew_size]; exact hql))
              have hr4 := (HR3.out.below (B := w3.drew.heap.size) (w' := w4) ((below_drew' (Below.refl _ w3)).trans HB4.out) (by rw [drew_size]; exact HR3.out.lt))
              have hp4 := HP3.out.below (B := w.heap.size) (w' := w4) ((below_drew' (Below.refl _ w3)).trans HB4.out)
              have hq4' : Blk (w4.drewN kd) q 70 #[.int .u8 (x2 : Int), .slice A2 L c2] := hq4
              have hr4' : Blk (w4.drewN kd) w.heap.size 70 #[.int .u8 0, .slice none 0 0] := hr4
              have hp4' : Pay w.heap.size (w4.drewN kd) A2 c2 p := hp4.below (bw_d (Below.refl _ w4) kd)
              have B5 := bw_d B4 kd
              clear hq4 hr4 hp4 B4 hq0 hq1 k0 k1
              have hq0 := hq4'.cell 0
              have hq1 := hq4'.cell 1
              have hr0 := hr4'.cell 0
              have hr1 := hr4'.cell 1
              have hrf := fun i => hr4'.frozen i
              have hrl := hr4'.lt
              have hql := hq4'.lt
              simp only [List.getElem?_toArray, List.getElem?_cons_zero, List.getElem?_cons_succ] at hq0 hq1 hr0 hr1
              have HP5 := hid hp4'
              have HR5 := hid hr4'
              have HB5 := hid B5
              clear hp4' hq4' hr4' B5
              generalize w4.drewN kd = w5 at *
              cases z with
              | true =>
                have hchg5 := ((Chg.refl (fun k => k = w.heap.size) w5).set_ (.inl rfl) 0 (.int .u8 (x2 : Int))).set_ (.inl rfl) 1 (.slice A2 L c2)
                have hp6 := HP5.out.chg hchg5 (fun b' cs k h1 h2 e => by
                  subst e
                  rw [show w5.heap[w.heap.size]? = _ from HR5.out] at h2
                  injection h2 with h2
                  injection h2 with _ h2
                  exact absurd h2 (by decide))
                have HF := hid (HG.out _ _ _ (HZ1.out rfl) hp6 (HB5.out.trans (hchg5.below (B := w.heap.size) (fun k hk => by omega) HB5.out.size)))
                clear hchg5 hp6
                go_wp2_with fail
                refine bodyPost_ret (v := .tuple #[.agg #[.int .u8 (x2 : Int), .slice A2 L c2], .int .i64 ((L + 9 : Nat) : Int), .int .i64 0]) (by simp [results, Try.results83, go_sem, hr0, hr1]) rfl ?_
                exact HF.out
              | false =>
                have HF := hid (fun W => HB12.out W (HZ2.out rfl) (by omega))
                go_wp2_with fail
                refine bodyPost_ret (v := .tuple #[.agg #[.int .u8 0, .slice none 0 0], .int .i64 0, .int .i64 12]) (by simp [results, Try.results83, go_sem, hr0, hr1]) rfl ?_
                exact HF.out _ ((HB5.out.setCell (p := ⟨w.heap.size, 0, none⟩) (Nat.le_refl _) _).setCell (p := ⟨w.heap.size, 1, none⟩) (Nat.le_refl _) _)
    · have hv1 : (((bs[1].toNat : Nat) : Int) != 154) = true := by simp; omega
      have hE : Fr.hE bs = 3 := Fr.hE_form (.inr ⟨by omega, by rw [hg1]; exact hx1⟩)
      have HB := hid (fun W => hbad 3 W (by rw [hrh (by omega), hE]) (by omega))
      generalize bs[0].toNat = x0 at *
      generalize bs[1].toNat = x1 at *
      clear hbad hR hrh hE hn hS hg0 hg1 hx0 hx1
      go_enter Try.func83, Try.ntmps83
      go_wp2_with fail
      refine bodyPost_ret (v := .tuple #[.agg #[.int .u8 0, .slice none 0 0], .int .i64 0, .int .i64 3]) (by simp [results, Try.results83, go_sem]) rfl ?_
      exact HB.out _ (by first | exact bw_a (Below.refl _ _) _ | exact (bw_a (Below.refl _ _) _).setCell (Nat.le_refl _) _)
  · have hv0 : (((bs[0].toNat : Nat) : Int) != 197) = true := by simp; omega
    have hE : Fr.hE bs = 3 := Fr.hE_form (.inl ⟨by omega, by rw [hg0]; exact hx0⟩)
    have HB := hid (fun W => hbad 3 W (by rw [hrh (by omega), hE]) (by omega))
    generalize bs[0].toNat = x0 at *
    clear hbad hR hrh hE hn hS hg0 hx0
    go_enter Try.func83, Try.ntmps83
    go_wp2_with fail
    refine bodyPost_ret (v := .tuple #[.agg #[.int .u8 0, .slice none 0 0], .int .i64 0, .int .i64 3]) (by simp [results, Try.results83, go_sem]) rfl ?_
    exact HB.out _ (by first | exact bw_a (Below.refl _ _) _ | exact (bw_a (Below.refl _ _) _).setCell (Nat.le_refl _) _)
end Go.Proofs.Ytnfodgjihdoncaa
