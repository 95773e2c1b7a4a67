/- The walk of StreamLoses: another kind of edit. -/
import Derived.Test.YtgiealcfhlcpoaaLawSlA
import Derived.Deep.DeepCutAuto
set_option linter.unusedVariables false
namespace Go.Proofs.Ytgiealcfhlcpoaa
open Go.RowKit
attribute [local go_sem high] run_cut2_l
set_option maxRecDepth 100000 in
set_option maxHeartbeats 100000000 in
theorem streamLoses_5 (l : List FrV) (m : Nat) (A : Option Addr) (c : Nat) (wh to_ : Nat) (kd : Int) (w : World) (hm : l.length = m) (hok : ∀ f ∈ l, FrOk w f) (hM : SlN w A m c 2 (l.flatMap frC)) (hwh : wh ≤ 255) (hto : to_ ≤ 255) (hkb : -9223372036854775808 ≤ kd ∧ kd ≤ 9223372036854775807) (hk3 : kd = 5) :
    Calls Try.prog 3 #[.slice A m c, .int .u8 (wh : Int), .int .u8 (to_ : Int), .int .i64 kd] w fun e w' => e = .returned (.bool true) ∧ Below w.heap.size w w' := by
  obtain ⟨i0, ii, iz0, iz1, iz2⟩ := info_parts Try.infoFr
  obtain ⟨s, hws⟩ : ∃ s, w.heap.size = s := ⟨_, rfl⟩
  have hcap := hM.cap
  have hsm := hM.small
  have HM := hid hM
  have HL := hid hm
  have HOK := hid hok
  have HWS := hid hws
  have HK3 := hid hk3
  clear hk3
  rw [hws]
  clear hM hm hok hws
  go_enter Try.func3, Try.ntmps3
  go_wp2_with fail
  refine (live16_any w).mono ?_
  rintro e w1 ⟨rfl, hb1⟩
  rw [HWS.out] at hb1
  have HB1 := hid hb1
  have HM1 := hid (HM.out.below (by rw [HWS.out]; exact hb1))
  have HS1 := hid (by have := hb1.size; have := HWS.out; omega : s ≤ w1.heap.size)
  clear hb1
  by_cases hm0 : m = 0
  · subst hm0
    go_wp2_with fail
    go_ret
    exact ⟨rfl, HB1.out⟩
  have hm1 : ((m : Int) == 0) = false := by simp; omega
  have hfew := rfew_any l m A c w1 HL.out (by omega) HM1.out
  by_cases hfw : frFew l = true
  case neg =>
    have hfw : frFew l = false := by simpa using hfw
    rw [hfw] at hfew
    have HFW := hid hfew
    clear hfew hfw
    go_wp2_with fail
    refine HFW.out.mono ?_
    rintro e w2 ⟨rfl, hb2⟩
    have HB2 := hid (HB1.out.trans (hb2.mono HS1.out))
    go_wp2_with fail
    go_ret
    exact ⟨rfl, HB2.out⟩
  have hfe : l.length ≤ 12 ∧ ∀ f ∈ l, f.s.xs.length ≤ 300 := by
    have h := hfw
    unfold frFew at h
    simpa using h
  rw [hfw] at hfew
  have HFW := hid hfew
  have HFE := hid hfe
  have hm12 : m ≤ 12 := by rw [← HL.out]; exact hfe.1
  clear hfew hfw hfe
  go_wp2_with fail
  refine HFW.out.mono ?_
  rintro e w2 ⟨rfl, hb2⟩
  have HB2 := hid (HB1.out.trans (hb2.mono HS1.out))
  clear hb2 HFW
  by_cases c1 : kd < 2
  · go_wp2_with fail
    go_ret
    exact ⟨rfl, HB2.out⟩
  have c1d : decide (kd < 2) = false := by simpa using c1
  by_cases c2 : 5 < kd
  · go_wp2_with fail
    go_ret
    exact ⟨rfl, HB2.out⟩
  have c2d : decide (5 < kd) = false := by simpa using c2
  by_cases c3 : kd = 4
  · subst c3
    go_wp2_with fail
    go_ret
    exact ⟨rfl, HB2.out⟩
  have c3d : (kd == 4) = false := by simpa using c3
  have hkd : kd = 2 ∨ kd = 3 ∨ kd = 5 := by omega
  have HKD := hid hkd
  clear hkd
  obtain ⟨k, hk⟩ : ∃ k : Nat, (wh : Int) % (m : Int) = (k : Int) := ⟨_, (Int.toNat_of_nonneg (Int.emod_nonneg _ (by omega))).symm⟩
  have hkm : k < m := by have := Int.emod_lt_of_pos (wh : Int) (show (0 : Int) < (m : Int) by omega); omega
  have hw0 : IntKind.i64.wrap (wh : Int) = (wh : Int) := IntWalk.i64_in _ (by omega)
  have hw1 : IntKind.i64.wrap (to_ : Int) = (to_ : Int) := IntWalk.i64_in _ (by omega)
  have hkl : k < l.length := by rw [HL.out]; exact hkm
  obtain ⟨b, off, rfl, hbl, t0w, t1w⟩ := frRow_get HL.out HM.out k hkl
  have hok := HOK.out _ (List.getElem_mem hkl)
  have h300 := HFE.out.2 _ (List.getElem_mem hkl)
  obtain ⟨pl, hpl⟩ : ∃ p, l[k].s.xs.length = p := ⟨_, rfl⟩
  obtain ⟨a, ha⟩ : ∃ a, (Rs.rows ((l.take k).map FrV.p)).length = a := ⟨_, rfl⟩
  have hlens : ∀ (L : List FrV), (∀ f ∈ L, f ∈ l) → ∀ g ∈ L.map FrV.p, g.2.length ≤ 300 := fun L hL g hg => by
    obtain ⟨f, hf, rfl⟩ := List.mem_map.1 hg
    exact HFE.out.2 f (hL f hf)
  have hjo : ∀ (L : List FrV) (n : Nat) (B : Option Addr) (d : Nat) (W : World), L.length = n → n ≤ 12 → (∀ f ∈ L, f ∈ l) → SlN W B n d 2 (L.flatMap frC) → Below s w W → Calls Try.prog 6 #[.slice B n d] W fun e w' => ∃ A' c', e = .returned (.slice A' (Rs.rows (L.map FrV.p)).length c') ∧ Sl w' A' c' ((Rs.rows (L.map FrV.p)).map bv) ∧ Below W.heap.size W w' := fun L n B d W hn h12 hL hs hW =>
    rjoin14_any L n B d W hn (by unfold frFew; simp only [Bool.and_eq_true, decide_eq_true_eq, List.all_eq_true]; exact ⟨by omega, fun f hf => HFE.out.2 f (hL f hf)⟩) (fun f hf => ⟨(HOK.out f (hL f hf)).1, (HOK.out f (hL f hf)).2.below (by rw [HWS.out]; exact hW)⟩) hs
  have haB : a ≤ 4000 := by
    have := Rs.rows_len ((l.take k).map FrV.p) (hlens _ (fun f hf => List.mem_of_mem_take hf))
    rw [List.length_map, List.length_take, ha] at this
    omega
  have hj1 := fun W (hW : Below s w W) => hjo (l.take k) k (some ⟨b, off, none⟩) c W (by rw [List.length_take, HL.out]; omega) (by omega) (fun f hf => List.mem_of_mem_take hf) ((HM.out.below (by rw [HWS.out]; exact hW)).take2 HL.out k (by omega)) hW
  rw [ha] at hj1
  have HJ1 := hid hj1
  have hput := fun W (hW : Below s w W) => rfput_any (UInt8.ofNat l[k].t) l[k].s.xs pl l[k].s.A l[k].s.c W hpl (by rw [← hpl]; omega) (hok.2.below (by rw [HWS.out]; exact hW))
  rw [show (UInt8.ofNat l[k].t).toNat = l[k].t by rw [UInt8.toNat_ofNat']; have := hok.1; omega] at hput
  rw [hpl] at t1w h300
  obtain ⟨sz, hsz⟩ : ∃ sz, pl + 9 = sz := ⟨_, rfl⟩
  rw [hsz] at hput
  have HPUT := hid hput
  have HPL := hid hpl
  have HAA := hid ha
  have HSZ := hid hsz
  have HJO := hid hjo
  have HLENS := hid hlens
  have hbs : b < s := by rw [← HWS.out]; exact hbl
  have hjk1 : (k : Int) < (m : Int) := by omega
  have hk0 : (0 : Int) ≤ (k : Int) := by omega
  have hkc : (k : Int) ≤ (c : Int) := by omega
  have hszB : sz ≤ 309 := by omega
  have t0 := (HB2.out.cell (p := ⟨b, off + k * 2, none⟩) hbs).trans t0w
  have t1 := (HB2.out.cell (p := ⟨b, off + k * 2 + 1, none⟩) hbs).trans t1w
  have hs2 : s ≤ w2.heap.size := by have := HB2.out.size; have := HWS.out; omega
  clear hok hpl ha hput hj1 hjo hlens hsz
  go_upto_region 6 with fail
  go_cut [9, 10, 11] (fun s9 s10 s11 wx => s9 = .int .i64 (k : Int) ∧ s10 = .int .i64 (a : Int) ∧ s11 = .int .i64 (sz : Int) ∧ Below s w wx)
  case first =>
    go_region_held3 (fun w' => w'.cell? ⟨b, off + k * 2, none⟩ = some (.int .u8 (l[k].t : Int)) ∧ w'.cell? ⟨b, off + k * 2 + 1, none⟩ = some (.slice l[k].s.A pl l[k].s.c)) (first | exact ⟨t0, t1⟩ | exact ⟨y0, y1⟩ | exact ⟨x0, x1⟩ | go_keep) (first
      | (go_at_call 6; (with_reducible refine (HJ1.out _ HBE.out).mono ?_); rintro e wy ⟨A3, c3, rfl, -, hby⟩; have HBF := hid (HBE.out.trans (hby.mono (by have := HBE.out.size; have := HWS.out; omega))); have x0 := (HBF.out.cell (p := ⟨b, off + k * 2, none⟩) hbs).trans t0w; have x1 := (HBF.out.cell (p := ⟨b, off + k * 2 + 1, none⟩) hbs).trans t1w; clear hby)
      | (go_at_call 7; (with_reducible refine (HPUT.out _ HBE.out).mono ?_); rintro e wy ⟨v4, rfl, ho4, hby⟩; obtain ⟨A4, c4, rfl⟩ := row_slice_g ho4; have HBF := hid (HBE.out.trans (hby.mono (by have := HBE.out.size; have := HWS.out; omega))); have x0 := (HBF.out.cell (p := ⟨b, off + k * 2, none⟩) hbs).trans t0w; have x1 := (HBF.out.cell (p := ⟨b, off + k * 2 + 1, none⟩) hbs).trans t1w; clear hby ho4)
      | (go_at_call 6; (with_reducible refine (HJ1.out _ (below_drew' HB2.out)).mono ?_); rintro e wz ⟨A3, c3, rfl, -, hbz⟩; have HBE := hid ((below_drew' HB2.out).trans (hbz.mono hs2)); have y0 := (HBE.out.cell (p := ⟨b, off + k * 2, none⟩) hbs).trans t0w; have y1 := (HBE.out.cell (p := ⟨b, off + k * 2 + 1, none⟩) hbs).trans t1w; clear hbz)
      | (go_at_call 7; (with_reducible refine (HPUT.out _ (below_drew' HB2.out)).mono ?_); rintro e wz ⟨v4, rfl, ho4, hbz⟩; obtain ⟨A4, c4, rfl⟩ := row_slice_g ho4; have HBE := hid ((below_drew' HB2.out).trans (hbz.mono hs2)); have y0 := (HBE.out.cell (p := ⟨b, off + k * 2, none⟩) hbs).trans t0w; have y1 := (HBE.out.cell (p := ⟨b, off + k * 2 + 1, none⟩) hbs).trans t1w; clear hbz ho4))
    all_goals (go_wp2_with fail; go_meet; exact ⟨rfl, rfl, rfl, HBF.out⟩)
  case rest =>
  obtain ⟨rfl, rfl, rfl, hB6⟩ := hcut
  obtain ⟨wx, rfl⟩ : ∃ x, x = wc := ⟨_, rfl⟩
  have HB6 := hid hB6
  clear t0 t1 hs2 HB2 hB6
  obtain ⟨k1, hk1⟩ : ∃ k1, k + 1 = k1 := ⟨_, rfl⟩
  have e3 : IntKind.i64.wrap ((k : Int) + 1) = (k1 : Int) := by rw [IntWalk.i64_in _ (by omega)]; omega
  obtain ⟨q2, hq2⟩ : ∃ q2, m - k1 = q2 := ⟨_, rfl⟩
  obtain ⟨r, hr⟩ : ∃ r, k + q2 = r := ⟨_, rfl⟩
  have hk1m : k1 ≤ m := by omega
  have hE0 : ((wx.alloc (.cells #[] 29)).drew).ownsRow wx.heap.size 29 2 (.slice (some ⟨wx.heap.size, 0, none⟩) 0 0) 0 [] := own_empty wx _ 2 _ _ rfl (Nat.le_refl _)
  have hbe : Below s w (wx.alloc (.cells #[] 29)).drew := below_drew' (HB6.out.trans ((bw_a (Below.refl _ wx) (.cells #[] 29)).mono (by have := HB6.out.size; have := HWS.out; omega)))
  have hbe7 : Below wx.heap.size wx (wx.alloc (.cells #[] 29)).drew := below_drew' (bw_a (Below.refl _ wx) (.cells #[] 29))
  have HE0 := hid hE0
  have HT1 := hid ((HM.out.take2 HL.out k (by omega)).below (by rw [HWS.out]; exact hbe))
  have HBE7 := hid hbe7
  have HK1 := hid hk1
  have HQ2 := hid hr
  have hs7 : s ≤ wx.heap.size := by have := HB6.out.size; have := HWS.out; omega
  have HTL := hid (show (l.take k).length = k by rw [List.length_take, HL.out]; omega)
  have HDL := hid (show (l.drop k1).length = q2 by rw [List.length_drop, HL.out]; exact hq2)
  have hrj : r ≤ 12 := by omega
  have hrm : r + 1 = m := by omega
  have HRM := hid hrm
  have t06 := (HB6.out.cell (p := ⟨b, off + k * 2, none⟩) hbs).trans t0w
  clear hE0 hbe hbe7 hk1 hr hrm
  go_wp2_with fail
  go_region_held3 (fun w' => w'.cell? ⟨b, off + k * 2, none⟩ = some (.int .u8 (l[k].t : Int))) (first | exact t06 | exact x0 | exact y0 | go_keep) (first | (refine step_append_rd rfl (.tmp 57) (.tmp 60) 22 (by rfl) wx.heap.size 29 i0 (.agg #[.int .u8 0, .slice none 0 0]) 2 32 Try.underlying22 ii iz0 iz1 iz2 rfl (by decide) _ 0 [] (by rfl) HE0.out (some ⟨b, off, none⟩) k c ((l.take k).flatMap frC) (by rfl) (by rw [frC_len, HTL.out]) HT1.out.rd HT1.out.nil0 (frC_one _) k (by omega) ((l.take k).flatMap frC) (by simp) (by simp only [maxLen]; omega) (by omega) (by simp) ?_; intro A8 c8 w8 ho8 hg8; have hc8 := Chg.of_grown (S := fun q => q = wx.heap.size) hg8 (fun g e => by cases e; rfl); have HB8 := hid (HBE7.out.trans (hc8.below (fun q h => by omega) (by simp))); have HO8 := hid ho8; have x0 := ((HB6.out.trans (HB8.out.mono hs7)).cell (p := ⟨b, off + k * 2, none⟩) hbs).trans t0w; clear ho8 hg8 hc8) | (refine step_append_rd rfl (.tmp 61) (.tmp 65) 22 (by rfl) wx.heap.size 29 i0 (.agg #[.int .u8 0, .slice none 0 0]) 2 32 Try.underlying22 ii iz0 iz1 iz2 rfl (by decide) _ k ((l.take k).flatMap frC) (by rfl) HO8.out (cutF (some ⟨b, off, none⟩) c k1) q2 (c - k1) ((l.drop k1).flatMap frC) (by rfl) (by rw [frC_len, HDL.out]) ((HM.out.cut2 HL.out k1 hk1m).below (by rw [HWS.out]; exact HB6.out.trans (HB8.out.mono hs7))).rd ((HM.out.cut2 HL.out k1 hk1m).below (by rw [HWS.out]; exact HB6.out.trans (HB8.out.mono hs7))).nil0 (frC_one _) r HQ2.out (((l.take k) ++ (l.drop k1)).flatMap frC) (by rw [List.flatMap_append]) (by simp only [maxLen]; omega) (by omega) (by have := HB8.out.size; omega) ?_; intro A9 c9 w9 ho9 hg9; have hv8 := (fun q hq => (HO8.out.lt q hq).1 : ∀ q, (Value.slice A8 k c8).ownBlock = some q → wx.heap.size ≤ q); have hc9 := Chg.of_grown (S := fun q => (Value.slice A8 k c8).ownBlock = some q) hg9 (fun g e => e); have HB9 := hid (HB8.out.trans (hc9.below (fun q h => hv8 q h) (by have := HB8.out.size; omega))); have HO9 := hid ho9; have y0 := ((HB6.out.trans (HB9.out.mono hs7)).cell (p := ⟨b, off + k * 2, none⟩) hbs).trans t0w; clear ho9 hg9 hc9 hv8))
  have HW9 := hid (HB6.out.trans (HB9.out.mono hs7))
  have HSR := hid (own_slg (by omega) HO9.out)
  have HOKR := hid (fun f (hf : f ∈ l.take k ++ l.drop k1) => (by
    rcases List.mem_append.1 hf with h | h
    · exact List.mem_of_mem_take h
    · exact List.mem_of_mem_drop h : f ∈ l))
  have HRL := hid (show (l.take k ++ l.drop k1).length = r by rw [List.length_append, HTL.out, HDL.out, HQ2.out])
  obtain ⟨t, ht⟩ : ∃ t : Nat, (to_ : Int) % ((r : Int) + 1) = (t : Int) := ⟨_, (Int.toNat_of_nonneg (Int.emod_nonneg _ (by omega))).symm⟩
  have htr : t ≤ r := by have := Int.emod_lt_of_pos (to_ : Int) (show (0 : Int) < (r : Int) + 1 by omega); omega
  have e4 : IntKind.i64.wrap ((r : Int) + 1) = (r : Int) + 1 := IntWalk.i64_in _ (by omega)
  have hc9 := HSR.out.cap
  have hc9m := HSR.out.small
  have t0 := (HW9.out.cell (p := ⟨b, off + k * 2, none⟩) hbs).trans t0w
  have t1 := (HW9.out.cell (p := ⟨b, off + k * 2 + 1, none⟩) hbs).trans t1w
  have hs9 : s ≤ w9.heap.size := by have := HW9.out.size; have := HWS.out; omega
  obtain ⟨Wn, hWn⟩ : ∃ Wn, (slW l k t l[k] kd).length = Wn := ⟨_, rfl⟩
  have HWN := hid hWn
  have hfC : frC l[k] = [.int .u8 (l[k].t : Int), .slice l[k].s.A pl l[k].s.c] := by unfold frC; rw [HPL.out]
  have HFC := hid hfC
  clear t06 x0 y0 HO8 HB8 HB9 HO9 HT1 HE0 HBE7 hWn hfC t0w t1w
  have hkd : kd = 5 := HK3.out
  have hw : slW l k t l[k] kd = ((l.take k ++ l.drop k1).take t ++ [l[k]]) ++ (l.take k ++ l.drop k1).drop t := by unfold slW; rw [if_neg (by omega), if_pos hkd, HK1.out]
  have x3 : (kd == 3) = false := by simp; omega
  have x5 : (kd == 5) = true := by rw [hkd]; rfl
  obtain ⟨q3, hq3⟩ : ∃ q3, r - t = q3 := ⟨_, rfl⟩
  have hWr : t + 1 + q3 = Wn := by rw [← HWN.out, hw, List.length_append, List.length_append, List.length_take, List.length_drop, HRL.out, List.length_singleton]; omega
  have HW2 := hid hw
  have HWR := hid hWr
  have HSR1 := hid (fun W (hW : Below w9.heap.size w9 W) => (HSR.out.take2 HRL.out t htr).below hW)
  have HSR3 := hid (fun W (hW : Below w9.heap.size w9 W) => (HSR.out.cut2 HRL.out t htr).below hW)
  have HL1 := hid (show ((l.take k ++ l.drop k1).take t).length = t by rw [List.length_take, HRL.out]; omega)
  have HL3 := hid (show ((l.take k ++ l.drop k1).drop t).length = q3 by rw [List.length_drop, HRL.out]; exact hq3)
  have hWB : Wn ≤ 13 := by omega
  have hkc1 : (t : Int) ≤ (c9 : Int) := by omega
  have hk10 : (0 : Int) ≤ (t : Int) := by omega
  rw [hq3] at HSR3
  clear hw hWr hkd
  go_wp2_with fail
  go_region_held3 (fun w' => w'.cell? ⟨b, off + k * 2, none⟩ = some (.int .u8 (l[k].t : Int)) ∧ w'.cell? ⟨b, off + k * 2 + 1, none⟩ = some (.slice l[k].s.A pl l[k].s.c)) (first | exact ⟨t0, t1⟩ | exact ⟨x0, x1⟩ | exact ⟨y0, y1⟩ | exact ⟨v0, v1⟩ | go_keep) (first | (refine step_append_rd rfl (.tmp 96) (.tmp 99) 22 (by rfl) w9.heap.size 29 i0 (.agg #[.int .u8 0, .slice none 0 0]) 2 32 Try.underlying22 ii iz0 iz1 iz2 rfl (by decide) _ 0 [] (by rfl) (by first | exact own_empty w9 _ 2 _ _ rfl (Nat.le_refl _) | exact own_below (own_empty w9 _ 2 _ _ rfl (Nat.le_refl _)) (bw_a (Below.refl _ _) (.cells #[.int .u8 (l[k].t : Int), .slice l[k].s.A pl l[k].s.c] 29)) | exact own_below (own_empty w9 _ 2 _ _ rfl (Nat.le_refl _)) (below_drew' (bw_a (Below.refl _ _) (.cells #[.int .u8 (l[k].t : Int), .slice l[k].s.A pl l[k].s.c] 29))) | exact own_empty (w9.alloc (.cells #[.int .u8 (l[k].t : Int), .slice l[k].s.A pl l[k].s.c] 29)) _ 2 _ _ (by simp) (by omega)) A9 t c9 (((l.take k ++ l.drop k1).take t).flatMap frC) (by rfl) (by rw [frC_len, HL1.out]) (HSR1.out _ (by first | exact below_drew' (bw_a (Below.refl _ w9) (.cells #[] 29)) | exact below_drew' (bw_a (bw_a (Below.refl _ w9) (.cells #[] 29)) (.cells #[.int .u8 (l[k].t : Int), .slice l[k].s.A pl l[k].s.c] 29)) | exact below_drew' (bw_a (bw_a (Below.refl _ w9) (.cells #[.int .u8 (l[k].t : Int), .slice l[k].s.A pl l[k].s.c] 29)) (.cells #[] 29)) | exact (bw_a (Below.refl _ w9) (.cells #[] 29)) | exact (bw_a (bw_a (Below.refl _ w9) (.cells #[] 29)) (.cells #[.int .u8 (l[k].t : Int), .slice l[k].s.A pl l[k].s.c] 29)) | exact (bw_a (bw_a (Below.refl _ w9) (.cells #[.int .u8 (l[k].t : Int), .slice l[k].s.A pl l[k].s.c] 29)) (.cells #[] 29)))).rd (HSR1.out _ (by first | exact below_drew' (bw_a (Below.refl _ w9) (.cells #[] 29)) | exact below_drew' (bw_a (bw_a (Below.refl _ w9) (.cells #[] 29)) (.cells #[.int .u8 (l[k].t : Int), .slice l[k].s.A pl l[k].s.c] 29)) | exact below_drew' (bw_a (bw_a (Below.refl _ w9) (.cells #[.int .u8 (l[k].t : Int), .slice l[k].s.A pl l[k].s.c] 29)) (.cells #[] 29)) | exact (bw_a (Below.refl _ w9) (.cells #[] 29)) | exact (bw_a (bw_a (Below.refl _ w9) (.cells #[] 29)) (.cells #[.int .u8 (l[k].t : Int), .slice l[k].s.A pl l[k].s.c] 29)) | exact (bw_a (bw_a (Below.refl _ w9) (.cells #[.int .u8 (l[k].t : Int), .slice l[k].s.A pl l[k].s.c] 29)) (.cells #[] 29)))).nil0 (frC_one _) t (by omega) (((l.take k ++ l.drop k1).take t).flatMap frC) (by simp) (by simp only [maxLen]; omega) (by omega) (by simp; try omega) ?_; intro A8 c8 w8 ho8 hg8; have hc8 := Chg.of_grown (S := fun q => w9.heap.size ≤ q) hg8 (fun g e => by cases e; first | exact Nat.le_refl _ | exact Nat.le_succ _ | simp); have HB8 := hid (Below.trans (by first | exact below_drew' (bw_a (Below.refl _ w9) (.cells #[] 29)) | exact below_drew' (bw_a (bw_a (Below.refl _ w9) (.cells #[] 29)) (.cells #[.int .u8 (l[k].t : Int), .slice l[k].s.A pl l[k].s.c] 29)) | exact below_drew' (bw_a (bw_a (Below.refl _ w9) (.cells #[.int .u8 (l[k].t : Int), .slice l[k].s.A pl l[k].s.c] 29)) (.cells #[] 29)) | exact (bw_a (Below.refl _ w9) (.cells #[] 29)) | exact (bw_a (bw_a (Below.refl _ w9) (.cells #[] 29)) (.cells #[.int .u8 (l[k].t : Int), .slice l[k].s.A pl l[k].s.c] 29)) | exact (bw_a (bw_a (Below.refl _ w9) (.cells #[.int .u8 (l[k].t : Int), .slice l[k].s.A pl l[k].s.c] 29)) (.cells #[] 29))) (hc8.below (fun q h => h) (by simp; try omega)) : Below w9.heap.size w9 w8); (try (have HF8 := hid (rd_kept (g := w9.heap.size + 1) (xs := [.int .u8 (l[k].t : Int), .slice l[k].s.A pl l[k].s.c]) (by first | exact (by have h := Rd.new (w9.alloc (.cells #[] 29)) 29 #[.int .u8 (l[k].t : Int), .slice l[k].s.A pl l[k].s.c]; rw [World.size_alloc] at h; exact h)) hg8 (by intro h; have h : w9.heap.size = w9.heap.size + 1 := Option.some.inj h; omega)))); (try (have HF8 := hid (rd_kept (g := w9.heap.size) (xs := [.int .u8 (l[k].t : Int), .slice l[k].s.A pl l[k].s.c]) (by exact (Rd.new w9 29 #[.int .u8 (l[k].t : Int), .slice l[k].s.A pl l[k].s.c]).below (below_drew' (bw_a (Below.refl _ _) (.cells #[] 29)))) hg8 (by intro h; have h : w9.heap.size + 1 = w9.heap.size := Option.some.inj h; omega)))); have HO8 := hid ho8; have x0 := ((HW9.out.trans (HB8.out.mono hs9)).cell (p := ⟨b, off + k * 2, none⟩) hbs).trans (((HW9.out.cell (p := ⟨b, off + k * 2, none⟩) hbs).symm).trans t0); have x1 := ((HW9.out.trans (HB8.out.mono hs9)).cell (p := ⟨b, off + k * 2 + 1, none⟩) hbs).trans (((HW9.out.cell (p := ⟨b, off + k * 2 + 1, none⟩) hbs).symm).trans t1); clear ho8 hg8 hc8) | (refine step_append_rd rfl (.tmp 100) (.tmp 105) 22 (by rfl) w9.heap.size 29 i0 (.agg #[.int .u8 0, .slice none 0 0]) 2 32 Try.underlying22 ii iz0 iz1 iz2 rfl (by decide) _ t (((l.take k ++ l.drop k1).take t).flatMap frC) (by rfl) (by first | exact HO8.out | exact own_below HO8.out (bw_a (Below.refl _ _) (.cells #[.int .u8 (l[k].t : Int), .slice l[k].s.A pl l[k].s.c] 29))) _ 1 1 [.int .u8 (l[k].t : Int), .slice l[k].s.A pl l[k].s.c] (by rfl) rfl (by first | exact HF8.out | exact Rd.new w8 29 #[.int .u8 (l[k].t : Int), .slice l[k].s.A pl l[k].s.c]) (fun h => by cases h) (by intro u hu; simp only [List.mem_cons, List.not_mem_nil, or_false] at hu; rcases hu with rfl | rfl <;> rfl) (t + 1) rfl (((l.take k ++ l.drop k1).take t ++ [l[k]]).flatMap frC) (by rw [List.flatMap_append, List.flatMap_singleton, HFC.out]) (by simp only [maxLen]; omega) (by omega) (by have := HB8.out.size; first | exact this | (simp; omega)) ?_; intro A10 c10 w10 ho10 hg10; have hc10 := Chg.of_grown (S := fun q => w9.heap.size ≤ q) hg10 (fun g e => (HO8.out.lt g e).1); have HB10 := hid (by first | exact HB8.out.trans (hc10.below (fun q h => h) (by have := HB8.out.size; first | exact this | (simp; omega))) | exact (HB8.out.trans (below_drew' ((bw_a (Below.refl _ w8) (.cells #[.int .u8 (l[k].t : Int), .slice l[k].s.A pl l[k].s.c] 29)).mono HB8.out.size))).trans (hc10.below (fun q h => h) (by have := HB8.out.size; simp; omega)) | exact (HB8.out.trans (((bw_a (Below.refl _ w8) (.cells #[.int .u8 (l[k].t : Int), .slice l[k].s.A pl l[k].s.c] 29)).mono HB8.out.size))).trans (hc10.below (fun q h => h) (by have := HB8.out.size; simp; omega)) : Below w9.heap.size w9 w10); have HO10 := hid ho10; have y0 := ((HW9.out.trans (HB10.out.mono hs9)).cell (p := ⟨b, off + k * 2, none⟩) hbs).trans (((HW9.out.cell (p := ⟨b, off + k * 2, none⟩) hbs).symm).trans t0); have y1 := ((HW9.out.trans (HB10.out.mono hs9)).cell (p := ⟨b, off + k * 2 + 1, none⟩) hbs).trans (((HW9.out.cell (p := ⟨b, off + k * 2 + 1, none⟩) hbs).symm).trans t1); clear ho10 hg10 hc10) | (refine step_append_rd rfl (.tmp 106) (.tmp 109) 22 (by rfl) w9.heap.size 29 i0 (.agg #[.int .u8 0, .slice none 0 0]) 2 32 Try.underlying22 ii iz0 iz1 iz2 rfl (by decide) _ (t + 1) (((l.take k ++ l.drop k1).take t ++ [l[k]]).flatMap frC) (by rfl) HO10.out (cutF A9 c9 t) q3 (c9 - t) (((l.take k ++ l.drop k1).drop t).flatMap frC) (by rfl) (by rw [frC_len, HL3.out]) (HSR3.out _ HB10.out).rd (HSR3.out _ HB10.out).nil0 (frC_one _) Wn HWR.out ((((l.take k ++ l.drop k1).take t ++ [l[k]]) ++ (l.take k ++ l.drop k1).drop t).flatMap frC) (by simp only [List.flatMap_append]) (by simp only [maxLen]; omega) (by omega) HB10.out.size ?_; intro A11 c11 w11 ho11 hg11; have hc11 := Chg.of_grown (S := fun q => w9.heap.size ≤ q) hg11 (fun g e => (HO10.out.lt g e).1); have HB11 := hid (HB10.out.trans (hc11.below (fun q h => h) HB10.out.size)); have HO11 := hid ho11; have v0 := ((HW9.out.trans (HB11.out.mono hs9)).cell (p := ⟨b, off + k * 2, none⟩) hbs).trans (((HW9.out.cell (p := ⟨b, off + k * 2, none⟩) hbs).symm).trans t0); have v1 := ((HW9.out.trans (HB11.out.mono hs9)).cell (p := ⟨b, off + k * 2 + 1, none⟩) hbs).trans (((HW9.out.cell (p := ⟨b, off + k * 2 + 1, none⟩) hbs).symm).trans t1); clear ho11 hg11 hc11))
  all_goals
    have hs14 : SlN w11 A11 Wn c11 2 ((slW l k t l[k] kd).flatMap frC) := by rw [HW2.out]; exact own_slg (by omega) HO11.out
    have hB14 := HB11.out
    clear v0 v1 x0 x1 y0 y1
    go_upto_region 15 with fail
    have HWV := hid (HW9.out.trans (hB14.mono hs9))
    have hsv : s ≤ w11.heap.size := by have := HWV.out.size; have := HWS.out; omega
    have HS14 := hid hs14
    have t0v := (HWV.out.cell (p := ⟨b, off + k * 2, none⟩) hbs).trans ((HW9.out.cell (p := ⟨b, off + k * 2, none⟩) hbs).symm.trans t0)
    have HVV := hid (Below.refl w11.heap.size w11)
    obtain ⟨N, hN⟩ : ∃ N, (Rs.rows (l.map FrV.p)).length = N := ⟨_, rfl⟩
    have hNB : N ≤ 4000 := by
      have := Rs.rows_len (l.map FrV.p) (HLENS.out _ (fun f hf => hf))
      rw [List.length_map, hN, HL.out] at this
      omega
    obtain ⟨Tn, hTn⟩ : ∃ Tn, (Rs.rows (((l.take k ++ l.drop k1).take t).map FrV.p)).length = Tn := ⟨_, rfl⟩
    have hTB : Tn ≤ 4000 := by
      have := Rs.rows_len (((l.take k ++ l.drop k1).take t).map FrV.p) (HLENS.out _ (fun f hf => HOKR.out f (List.mem_of_mem_take hf)))
      rw [List.length_map, List.length_take, hTn, HRL.out] at this
      omega
    have hja := fun W (hW : Below w11.heap.size w11 W) => HJO.out l m (some ⟨b, off, none⟩) c W HL.out hm12 (fun f hf => hf) (HM.out.below (by rw [HWS.out]; exact HWV.out.trans (hW.mono hsv))) (HWV.out.trans (hW.mono hsv))
    rw [hN] at hja
    have hjr := fun W (hW : Below w11.heap.size w11 W) => HJO.out ((l.take k ++ l.drop k1).take t) t A9 c9 W (by rw [List.length_take, HRL.out]; omega) (by omega) (fun f hf => HOKR.out f (List.mem_of_mem_take hf)) (((HSR.out.take2 HRL.out t htr).below hB14).below hW) (HWV.out.trans (hW.mono hsv))
    rw [hTn] at hjr
    have hed := sl_edF l k t a sz Tn kd hkl HAA.out (by rw [HPL.out, HSZ.out]) (by rw [HK1.out]; exact hTn) HKD.out
    have hdo := fun W g A5 c5 (hs : Sl W A5 c5 ((Rs.rows (l.map FrV.p)).map bv)) hr => sl_one (Rs.rows (l.map FrV.p)) N A5 c5 kd a sz Tn W g hN (by omega) (by omega) (by omega) (by omega) hs hr
    rw [hed] at hdo
    have HJA := hid hja
    have HJR := hid hjr
    have HDO := hid hdo
    have htc9 : (t : Int) ≤ (c9 : Int) := by omega
    have ht09 : (0 : Int) ≤ (t : Int) := by omega
    clear hja hjr hed hdo hN hTn hB14 hs14 t0 t1
    go_cut [13, 15] (fun s13 s15 wu => s13 = .int .i64 (t : Int) ∧ ∃ (A15 : Option Addr) (N15 c15 : Nat), s15 = .slice A15 N15 c15 ∧ (Rs.rows ((slW l k t l[k] kd).map FrV.p)).length = N15 ∧ Sl wu A15 c15 ((Rs.rows ((slW l k t l[k] kd).map FrV.p)).map bv) ∧ Below w11.heap.size w11 wu)
    case first =>
      go_region_held3 (fun w' => w'.cell? ⟨b, off + k * 2, none⟩ = some (.int .u8 (l[k].t : Int))) (first | exact t0v | exact y0 | exact x0 | exact v0 | go_keep) (first
        | (go_at_call 6; (with_reducible refine (HJA.out _ HBE.out).mono ?_); rintro e wy ⟨A5, c5, rfl, hs5, hby⟩; have HBF := hid (HBE.out.trans (hby.mono HBE.out.size)); have HS5 := hid hs5; have x0 := ((HWV.out.trans (HBF.out.mono hsv)).cell (p := ⟨b, off + k * 2, none⟩) hbs).trans (((HWV.out.cell (p := ⟨b, off + k * 2, none⟩) hbs).symm).trans t0v); clear hby hs5)
        | (go_at_call 6; (with_reducible refine (HJR.out _ HBE.out).mono ?_); rintro e wy ⟨A6, c6, rfl, -, hby⟩; have HBF := hid (HBE.out.trans (hby.mono HBE.out.size)); have HS5 := hid (HS5.out.below hby); have x0 := ((HWV.out.trans (HBF.out.mono hsv)).cell (p := ⟨b, off + k * 2, none⟩) hbs).trans (((HWV.out.cell (p := ⟨b, off + k * 2, none⟩) hbs).symm).trans t0v); clear hby)
        | (go_at_call 6; (with_reducible refine (HJA.out _ (below_drew' HVV.out)).mono ?_); rintro e wz ⟨A5, c5, rfl, hs5, hbz⟩; have HBE := hid ((below_drew' HVV.out).trans (hbz.mono (Nat.le_refl _))); have HS5 := hid hs5; have y0 := ((HWV.out.trans (HBE.out.mono hsv)).cell (p := ⟨b, off + k * 2, none⟩) hbs).trans (((HWV.out.cell (p := ⟨b, off + k * 2, none⟩) hbs).symm).trans t0v); clear hbz hs5)
        | (go_at_call 6; (with_reducible refine (HJR.out _ (below_drew' HVV.out)).mono ?_); rintro e wz ⟨A6, c6, rfl, -, hbz⟩; have HBE := hid ((below_drew' HVV.out).trans (hbz.mono (Nat.le_refl _))); have y0 := ((HWV.out.trans (HBE.out.mono hsv)).cell (p := ⟨b, off + k * 2, none⟩) hbs).trans (((HWV.out.cell (p := ⟨b, off + k * 2, none⟩) hbs).symm).trans t0v); clear hbz)
        | (go_at_call 8; refine (HDO.out _ wy.heap.size A5 c5 (by first | exact HS5.out.below (bw_a (Below.refl _ wy) (.cells #[.int .i64 kd, .int .i64 (a : Int), .int .i64 (sz : Int), .int .i64 (Tn : Int), .slice none 0 0] 32)) | exact (HS5.out.below (bw_a (Below.refl _ wy) (.cells #[.int .i64 kd, .int .i64 (a : Int), .int .i64 (sz : Int), .int .i64 (Tn : Int), .slice none 0 0] 32))).drewN 1) (by exact Rd.new wy 32 #[.int .i64 kd, .int .i64 (a : Int), .int .i64 (sz : Int), .int .i64 (Tn : Int), .slice none 0 0])).mono ?_; rintro e w8 ⟨A15, n15, c15, rfl, hn15, hs15, hb15⟩; have HBG := hid (by first | exact (HBF.out.trans ((bw_a (Below.refl _ wy) (.cells #[.int .i64 kd, .int .i64 (a : Int), .int .i64 (sz : Int), .int .i64 (Tn : Int), .slice none 0 0] 32)).mono HBF.out.size)).trans (hb15.mono (by have := HBF.out.size; simp; omega)) | exact (HBF.out.trans (below_drew' ((bw_a (Below.refl _ wy) (.cells #[.int .i64 kd, .int .i64 (a : Int), .int .i64 (sz : Int), .int .i64 (Tn : Int), .slice none 0 0] 32)).mono HBF.out.size))).trans (hb15.mono (by have := HBF.out.size; simp; omega)) : Below w11.heap.size w11 w8); have HN15 := hid hn15; have HS15 := hid hs15; have v0 := ((HWV.out.trans (HBG.out.mono hsv)).cell (p := ⟨b, off + k * 2, none⟩) hbs).trans (((HWV.out.cell (p := ⟨b, off + k * 2, none⟩) hbs).symm).trans t0v); clear hn15 hs15 hb15))
      all_goals
        go_wp2_with fail
        go_meet
        exact ⟨rfl, _, _, _, rfl, HN15.out, HS15.out, HBG.out⟩
    case rest =>
    obtain ⟨rfl, A15, N15, c15, rfl, hn15, hs15, hB15⟩ := hcut
    obtain ⟨wu, rfl⟩ : ∃ x, x = wc := ⟨_, rfl⟩
    have hmemW := slW_mem (k := k) (t := t) (kd := kd) (List.getElem_mem hkl)
    have hWl := slW_len (l := l) (k := k) (t := t) (f := l[k]) (kd := kd)
    rw [HWN.out, HL.out] at hWl
    have hNB15 : N15 ≤ 5000 := by
      have := Rs.rows_len ((slW l k t l[k] kd).map FrV.p) (HLENS.out _ hmemW)
      rw [List.length_map, hn15, HWN.out] at this
      omega
    have hwk : Rs.wk false (Rs.rows ((slW l k t l[k] kd).map FrV.p)) 0 = (Rs.at_ 0 ((slW l k t l[k] kd).map FrV.p), N15) := by
      have h := Rs.rows_wk ((slW l k t l[k] kd).map FrV.p) [] (fun g hg => Nat.le_trans (HLENS.out _ hmemW g hg) (by omega))
      simp only [List.nil_append, List.length_nil] at h
      rw [h, hn15]
    have HGL := hid (show (Rs.at_ 0 ((slW l k t l[k] kd).map FrV.p)).length = Wn by rw [Rs.at_len, List.length_map, HWN.out])
    have HAL := hid ((sall_any (Rs.rows ((slW l k t l[k] kd).map FrV.p)) N15 A15 c15 wu hn15 (by omega) hs15).mono (fun e w' h => AllR.go h hwk HGL.out))
    have HWU := hid (HWV.out.trans (hB15.mono hsv))
    have hsu : s ≤ wu.heap.size := by have := HWU.out.size; have := HWS.out; omega
    have HS14u := hid (HS14.out.below hB15)
    have HMW := hid hmemW
    clear hwk hn15 hs15 hB15 hmemW
    go_wp2_with fail
    refine HAL.out.mono ?_
    rintro e w6 ⟨A16, c16, rfl, hrow16, hb16⟩
    have HR16 := hid hrow16
    have HW6 := hid (HWU.out.trans (hb16.mono hsu))
    have HS146 := hid (HS14u.out.below hb16)
    have hn1 : ((Wn : Int) != (Wn : Int)) = false := by simp
    have hn2 : ((N15 : Int) != (N15 : Int)) = false := by simp
    have hr0 := Below.refl w6.heap.size w6
    have hs6 : s ≤ w6.heap.size := by have := HW6.out.size; have := HWS.out; omega
    have hz14 := HS146.out.cap
    have hz14m := HS146.out.small
    clear hrow16 hb16 HAL
    go_wp2_with fail
    go_loopw [18] (fun i wr => ∃ u : Nat, u ≤ Wn ∧ i = .int .i64 (u : Int) ∧ Below w6.heap.size w6 wr) (fun i _ => Wn - (intOf i).toNat)
    case atStart => exact ⟨0, by omega, rfl, hr0⟩
    case round =>
      obtain ⟨u, hu, rfl, hB⟩ := hrel
      have HB := hid hB
      clear hB hr0
      by_cases hlt3 : u < Wn
      · have huG : u < (Rs.at_ 0 ((slW l k t l[k] kd).map FrV.p)).length := by rw [HGL.out]; exact hlt3
        have huR : u < (slW l k t l[k] kd).length := by rw [HWN.out]; exact hlt3
        obtain ⟨b6, o6, P6, q6, rfl, hb6, -, g1, g2, hp6, hg6c, hg6m⟩ := HR16.out.get HGL.out u huG
        obtain ⟨b9, o9, rfl, hb9, r0, r1⟩ := frRow_get HWN.out HS146.out u huR
        have hmem := HMW.out _ (List.getElem_mem huR)
        have hgu := Rs.at_get ((slW l k t l[k] kd).map FrV.p) 0 u (by rw [List.length_map]; exact huR)
        rw [hgu] at g1 g2 hp6
        simp only [List.getElem_map] at g1 g2 hp6
        have hok := HOK.out _ hmem
        have h3002 := HFE.out.2 _ hmem
        clear hgu hmem
        generalize (slW l k t l[k] kd)[u] = f at *
        obtain ⟨gt, ⟨gA, gc, gxs⟩⟩ := f
        obtain ⟨hgt, hgs⟩ := hok
        simp only [FrV.p] at g1 g2 hp6 r0 r1 hgt hgs h3002
        obtain ⟨T, hT⟩ : ∃ T : UInt8, T.toNat = gt := ⟨UInt8.ofNat gt, by rw [UInt8.toNat_ofNat']; omega⟩
        have hT2 : UInt8.ofNat gt = T := by rw [← hT]; simp
        rw [hT2, hT] at g1
        obtain ⟨fl, hfl⟩ : ∃ p, gxs.length = p := ⟨_, rfl⟩
        rw [hfl] at g2 r1 h3002
        have hbw := HB.out.size
        have hb6w := Nat.lt_of_lt_of_le hb6 hbw
        have hb9w := Nat.lt_of_lt_of_le hb9 hbw
        have g1 := (HB.out.cell (p := ⟨b6, o6 + u * 3 + 1, none⟩) hb6).trans g1
        have g2 := (HB.out.cell (p := ⟨b6, o6 + u * 3 + 2, none⟩) hb6).trans g2
        have r0 := (HB.out.cell (p := ⟨b9, o9 + u * 2, none⟩) hb9).trans r0
        have r1 := (HB.out.cell (p := ⟨b9, o9 + u * 2 + 1, none⟩) hb9).trans r1
        have hwr : Below s w wr := HW6.out.trans (HB.out.mono hs6)
        have hsame := fun W (hW : Below wr.heap.size wr W) => (rfsame_any T T gxs gxs fl fl P6 gA q6 gc W hfl hfl (by omega) ((hp6.sl.below HB.out).below hW) ((hgs.below (by rw [HWS.out]; exact hwr)).below hW)).mono (fun e w' h => (show e = .returned (.bool true) ∧ Below W.heap.size W w' from ⟨by rw [h.1]; simp, h.2⟩))
        rw [hT] at hsame
        have HSM := hid hsame
        have HBR := hid (Below.refl wr.heap.size wr)
        have hti3 : (u : Int) < (Wn : Int) := by omega
        have ht03 : (0 : Int) ≤ (u : Int) := by omega
        clear hsame hp6 hgs hT hT2 hfl hwr
        go_wp2_with fail
        go_region_held3 (fun w' => w'.cell? ⟨b6, o6 + u * 3 + 1, none⟩ = some (.int .u8 (gt : Int)) ∧ w'.cell? ⟨b6, o6 + u * 3 + 2, none⟩ = some (.slice P6 fl q6) ∧ w'.cell? ⟨b9, o9 + u * 2, none⟩ = some (.int .u8 (gt : Int)) ∧ w'.cell? ⟨b9, o9 + u * 2 + 1, none⟩ = some (.slice gA fl gc)) (first | exact ⟨g1, g2, r0, r1⟩ | exact ⟨x1, x2, y0, y1⟩ | go_keep) (first | (go_at_call 10; (with_reducible refine (HSM.out _ (below_drew' HBR.out)).mono ?_); rintro e w8 ⟨rfl, hb8⟩; have hbq := (below_drew' (Below.refl _ wr)).trans hb8; have x1 := (hbq.cell (p := ⟨b6, o6 + u * 3 + 1, none⟩) hb6w).trans g1; have x2 := (hbq.cell (p := ⟨b6, o6 + u * 3 + 2, none⟩) hb6w).trans g2; have y0 := (hbq.cell (p := ⟨b9, o9 + u * 2, none⟩) hb9w).trans r0; have y1 := (hbq.cell (p := ⟨b9, o9 + u * 2 + 1, none⟩) hb9w).trans r1; have HB8 := hid hbq; clear hb8 hbq))
        go_wp2_with fail
        go_roundw
        case rel => exact ⟨u + 1, by omega, by go_num, bw_t HB.out HB8.out⟩
        case measure => simp [intOf]; omega
      · obtain rfl : u = Wn := by omega
        have hti3 : ¬ (u : Int) < (u : Int) := by omega
        go_wp2_with fail
        go_ret
        exact ⟨rfl, HW6.out.trans (HB.out.mono hs6)⟩
end Go.Proofs.Ytgiealcfhlcpoaa
