/- The walk of WholeLost: with any bytes of one frame lost all others are found. -/
import Derived.Test.YtabklpgimjmdlaaLoMath
import Derived.Test.YtabklpgimjmdlaaStmRow
set_option linter.unusedVariables false
namespace Go.Proofs.Ytabklpgimjmdlaa
open Go.RowKit
/-- Has a frame the byte C5 somewhere but at its beginning? -/
def inB (bs : List UInt8) : Bool := (bs.drop 1).any (· == 197)
theorem inB_no {bs : List UInt8} (h : inB bs = false) : Jn.clean (bs.drop 1) := by
  intro x hx
  unfold inB at h
  rw [List.any_eq_false] at h
  simpa using h x hx
set_option maxRecDepth 100000 in
set_option maxHeartbeats 2000000 in
theorem inner_any (t : UInt8) (bs : List UInt8) (n : Nat) (A : Option Addr) (c : Nat) (w : World) (hn : bs.length = n) (hl : n ≤ 10000) (hS : Sl w A c (bs.map bv)) :
    Calls Try.prog 32 #[.agg #[.int .u8 (t.toNat : Int), .slice A n c]] w fun e w' => e = .returned (.bool (inB (Fr.put t bs))) ∧ Below w.heap.size w w' := by
  have hba := bw_a (Below.refl w.heap.size w) (.cells #[.int .u8 (t.toNat : Int), .slice A n c] 47)
  have HP := hid (rfput_any t bs n A c _ hn hl (hS.below hba))
  have HPL := hid (show (Fr.put t bs).length = n + 9 by rw [Fr.put_len, hn])
  have HBA := hid hba
  clear hn hS hba
  generalize Fr.put t bs = F at *
  go_enter Try.func32, Try.ntmps32
  go_wp2_with fail
  refine HP.out.mono ?_
  rintro e w2 ⟨v2, rfl, ho2, hb2⟩
  obtain ⟨A2, c2, rfl⟩ := row_slice_g ho2
  have HS2 := hid (Sl.of_own' ho2)
  have HB2 := hid (bw_t HBA.out hb2)
  have hcap := HS2.out.cap
  have hsm := HS2.out.small
  rw [List.length_map, HPL.out] at hcap
  clear ho2 hb2 HP
  obtain ⟨N, hN⟩ : ∃ N, n + 9 = N := ⟨_, rfl⟩
  have HPL2 := hid (show F.length = N by rw [HPL.out, hN])
  have hN1 : 1 ≤ N := by omega
  rw [hN] at hcap ⊢
  clear hN
  go_wp2_with fail
  go_loopw [4] (fun i wr => wr = w2 ∧ ∃ j : Nat, 1 ≤ j ∧ j ≤ N ∧ i = .int .i64 (j : Int) ∧ ∀ x ∈ (F.take j).drop 1, x ≠ 197) (fun i _ => N - (intOf i).toNat)
  case atStart => exact ⟨rfl, 1, by omega, by omega, rfl, fun x hx => by rw [show (F.take 1).drop 1 = [] from List.drop_eq_nil_of_le (List.length_take_le 1 F)] at hx; simp at hx⟩
  case round =>
    obtain ⟨rfl, j, hj1, hj, rfl, hno⟩ := hrel
    have HNO := hid hno
    clear hno
    by_cases hlt : j < N
    · have hjl : j < F.length := by rw [HPL2.out]; exact hlt
      obtain ⟨b, o, rfl, hb, t0⟩ := BRd.at_ HS2.out.rd (k := j) hjl
      have hki : (j : Int) < (N : Int) := by omega
      have hk0 : (0 : Int) ≤ (j : Int) := by omega
      have htk : (F.take (j + 1)).drop 1 = (F.take j).drop 1 ++ [F[j]] := by
        rw [List.take_succ_eq_append_getElem hjl, List.drop_append_of_le_length (by rw [List.length_take]; omega)]
      have hin : F[j] = 197 → inB F = true := fun h => by
        unfold inB
        rw [List.any_eq_true]
        exact ⟨F[j], by rw [List.mem_iff_getElem]; exact ⟨j - 1, by rw [List.length_drop]; omega, by rw [List.getElem_drop]; congr 1; omega⟩, by rw [h]; rfl⟩
      have HTK := hid htk
      have HIN := hid hin
      clear htk hin
      generalize F[j] = X at *
      by_cases hX : X = 197
      · have hx1 : ((X.toNat : Int) == 197) = true := by rw [hX]; rfl
        have HX := hid hX
        clear hX
        go_wp2_with fail
        go_ret
        exact ⟨by rw [HIN.out HX.out]; rfl, HB2.out⟩
      · have hx1 : ((X.toNat : Int) == 197) = false := by
          simp only [beq_eq_false_iff_ne, ne_eq]
          intro h
          exact hX (UInt8.toNat_inj.1 (by show X.toNat = 197; omega))
        have HX := hid hX
        clear hX
        go_wp2_with fail
        go_roundw
        case rel => exact ⟨trivial, j + 1, by omega, by omega, by go_num, fun x hx => by
          rw [HTK.out] at hx
          rcases List.mem_append.1 hx with hx | hx
          · exact HNO.out x hx
          · rw [List.mem_singleton.1 hx]; exact HX.out⟩
        case measure => simp [intOf]; omega
    · obtain rfl : j = N := by omega
      have hki : ¬ (j : Int) < (j : Int) := by omega
      have hf : inB F = false := by
        unfold inB
        rw [List.any_eq_false]
        intro x hx
        have := HNO.out x (by rw [List.take_of_length_le (by rw [HPL2.out]; exact Nat.le_refl _)]; exact hx)
        simpa using this
      have HF := hid hf
      clear hf
      go_wp2_with fail
      go_ret
      exact ⟨by rw [HF.out]; rfl, HB2.out⟩
/-- What is left of a stream, one frame of which has lost some bytes. -/
theorem lo_one (bs : List UInt8) (N : Nat) (A : Option Addr) (c p q : Nat) (W : World) (g : Nat) (hn : bs.length = N) (hl : N ≤ 100000) (hp : p + q ≤ N) (hs : Sl W A c (bs.map bv)) (hr : Rd W (some ⟨g, 0, none⟩) [.int .i64 2, .int .i64 (p : Int), .int .i64 (q : Int), .int .i64 0, .slice none 0 0]) :
    Calls Try.prog 22 #[.slice A N c, .slice (some ⟨g, 0, none⟩) 1 1] W fun e w' => ∃ A2 c2, e = .returned (.slice A2 (p + (N - (p + q))) c2) ∧ Sl w' A2 c2 ((bs.take p ++ bs.drop (p + q)).map bv) ∧ Below W.heap.size W w' := by
  refine (sdo_any [⟨2, p, q, 0, ⟨none, 0, []⟩⟩] 1 _ 1 bs N A c W rfl ⟨rfl, by omega, by omega, (fun h => by cases h), hr⟩ hn (by omega) hs (fun j => if j = 1 then bs.take p ++ bs.drop (p + q) else bs) rfl ?_).mono ?_
  · intro j hj W1 A' n' c' hE hB
    have hA : A' = none ∨ ∃ ga oa, A' = some (⟨ga, oa, none⟩ : Addr) := hE.own.imp id fun ⟨g, cs, e, _⟩ => ⟨g, 0, e⟩
    obtain rfl : j = 0 := by simpa using hj
    have hn' : n' = N := by have h := hE.len; simp at h; omega
    subst hn'
    refine (sedit_lose bs p q 0 none 0 0 A' n' c' p q (p + q) (p + (n' - (p + q))) W1 hn (by omega) (by simpa using hE.sl) hA (by omega) (by omega) (by omega) (by omega) (Int.emod_eq_of_lt (by omega) (by omega)) (Int.emod_eq_of_lt (by omega) (by omega)) rfl hp rfl).mono ?_
    rintro e w' ⟨A2, c2, rfl, e1, e2⟩
    exact ⟨_, _, _, rfl, by simpa using e1.mono hB.size, Chg.of_new e2⟩
  · rintro e w' ⟨A2, n2, c2, rfl, hE, hB⟩
    have hn2 : n2 = p + (N - (p + q)) := by have h := hE.len; simp only [if_pos] at h; rw [List.length_append, List.length_take, List.length_drop] at h; omega
    subst hn2
    exact ⟨_, _, rfl, by simpa using hE.sl, hB⟩
theorem lo_do (L : List FrV) (k fr q : Nat) (hk : k < L.length) (hq : fr + q ≤ L[k].s.xs.length + 9) :
    (Rs.rows (L.map FrV.p)).take ((Rs.rows ((L.take k).map FrV.p)).length + fr) ++ (Rs.rows (L.map FrV.p)).drop ((Rs.rows ((L.take k).map FrV.p)).length + fr + q) = Rs.rows ((L.take k).map FrV.p) ++ (Lo.left L[k].p fr q ++ Rs.rows ((L.drop (k + 1)).map FrV.p)) := by
  have happ : ∀ a b : List (UInt8 × List UInt8), Rs.rows (a ++ b) = Rs.rows a ++ Rs.rows b := by
    intro a b
    induction a with
    | nil => rfl
    | cons x a ih => simp [Rs.rows, ih]
  have hL : L = L.take k ++ (L[k] :: L.drop (k + 1)) := by rw [List.getElem_cons_drop, List.take_append_drop]
  have hrow : Rs.rows (L.map FrV.p) = Rs.rows ((L.take k).map FrV.p) ++ (Fr.put L[k].p.1 L[k].p.2 ++ Rs.rows ((L.drop (k + 1)).map FrV.p)) := by
    conv => lhs; rw [hL]
    rw [List.map_append, happ, List.map_cons]
    rfl
  have hpl : (Fr.put L[k].p.1 L[k].p.2).length = L[k].s.xs.length + 9 := by rw [Fr.put_len]; rfl
  rw [hrow]
  unfold Lo.left
  generalize Rs.rows ((L.take k).map FrV.p) = R at *
  generalize Rs.rows ((L.drop (k + 1)).map FrV.p) = T at *
  generalize Fr.put L[k].p.1 L[k].p.2 = P at *
  rw [List.take_append, List.take_of_length_le (by omega), show R.length + fr - R.length = fr by omega, List.take_append_of_le_length (by omega), show R.length + fr + q = R.length + (fr + q) by omega, ← List.drop_drop, List.drop_left, List.drop_append_of_le_length (by omega), List.append_assoc, List.append_assoc]
theorem rows_app (a b : List (UInt8 × List UInt8)) : Rs.rows (a ++ b) = Rs.rows a ++ Rs.rows b := by
  induction a with
  | nil => rfl
  | cons x a ih => simp [Rs.rows, ih]
attribute [local go_sem high] run_cut2_l
set_option maxRecDepth 100000 in
set_option maxHeartbeats 16000000 in
theorem wholeLost_any (l : List FrV) (m : Nat) (A : Option Addr) (c : Nat) (wh : Nat) (fr n : Int) (w : World) (hm : l.length = m) (hok : ∀ f ∈ l, FrOk w f) (hM : SlN w A m c 2 (l.flatMap frC)) (hwh : wh ≤ 255) (hfr : -9223372036854775808 ≤ fr ∧ fr ≤ 9223372036854775807) (hn : -9223372036854775808 ≤ n ∧ n ≤ 9223372036854775807) :
    Calls Try.prog 9 #[.slice A m c, .int .u8 (wh : Int), .int .i64 fr, .int .i64 n] w fun e w' => e = .returned (.bool true) ∧ Below w.heap.size w w' := by
  obtain ⟨i0, ii, iz0, iz1, iz2⟩ := info_parts Try.infoFr
  obtain ⟨s, hws⟩ : ∃ s, w.heap.size = s := ⟨_, rfl⟩
  have hcap := hM.cap
  have hsm := hM.small
  have HM := hid hM
  have HL := hid hm
  have HOK := hid hok
  have HWS := hid hws
  rw [hws]
  clear hM hm hok hws
  go_enter Try.func9, Try.ntmps9
  go_wp2_with fail
  refine (awake8_any w).mono ?_
  rintro e w1 ⟨rfl, hb1⟩
  rw [HWS.out] at hb1
  have HB1 := hid hb1
  have HM1 := hid (HM.out.below (by rw [HWS.out]; exact hb1))
  have HOK1 := hid (fun f hf => ⟨(HOK.out f hf).1, (HOK.out f hf).2.below (by rw [HWS.out]; exact hb1)⟩ : ∀ f ∈ l, FrOk w1 f)
  have HS1 := hid (by have := hb1.size; have := HWS.out; omega : s ≤ w1.heap.size)
  clear hb1
  by_cases hm0 : m = 0
  · subst hm0
    go_wp2_with fail
    go_ret
    exact ⟨rfl, HB1.out⟩
  have hm1 : ((m : Int) == 0) = false := by simp; omega
  have hfew := rfew_any l m A c w1 HL.out (by omega) HM1.out
  by_cases hfw : frFew l = true
  case neg =>
    have hfw : frFew l = false := by simpa using hfw
    rw [hfw] at hfew
    have HFW := hid hfew
    clear hfew hfw
    go_wp2_with fail
    refine HFW.out.mono ?_
    rintro e w2 ⟨rfl, hb2⟩
    have HB2 := hid (HB1.out.trans (hb2.mono HS1.out))
    go_wp2_with fail
    go_ret
    exact ⟨rfl, HB2.out⟩
  have hfe : l.length ≤ 12 ∧ ∀ f ∈ l, f.s.xs.length ≤ 300 := by
    have h := hfw
    unfold frFew at h
    simpa using h
  rw [hfw] at hfew
  have HFW := hid hfew
  have HFE := hid hfe
  have hm12 : m ≤ 12 := by rw [← HL.out]; exact hfe.1
  clear hfew hfw hfe
  go_wp2_with fail
  refine HFW.out.mono ?_
  rintro e w2 ⟨rfl, hb2⟩
  have HB2 := hid (HB1.out.trans (hb2.mono HS1.out))
  clear hb2 HFW
  go_wp2_with fail
  go_loopw [9] (fun i wr => Below s w wr ∧ ∃ j : Nat, j ≤ m ∧ i = .int .i64 (j : Int) ∧ ∀ (i : Nat) (hi : i < l.length), i < j → inB (Fr.put l[i].p.1 l[i].p.2) = false) (fun i _ => m - (intOf i).toNat)
  case atStart => exact ⟨HB2.out, 0, by omega, rfl, fun i _ h => by omega⟩
  case round =>
    obtain ⟨hB, j, hj, rfl, hno⟩ := hrel
    have HB := hid hB
    have HNO := hid hno
    clear hB hno
    by_cases hlt : j < m
    · have hjl : j < l.length := by have := HL.out; omega
      obtain ⟨b, off, rfl, hbl, t0, t1⟩ := frRow_get HL.out (HM.out.below (by rw [HWS.out]; exact HB.out)) j hjl
      have hok := HOK.out _ (List.getElem_mem hjl)
      have h300 := HFE.out.2 _ (List.getElem_mem hjl)
      have HNS := hid (fun (hp : inB (Fr.put l[j].p.1 l[j].p.2) = false) (i : Nat) (hi : i < l.length) (h : i < j + 1) => (by
        by_cases h2 : i < j
        · exact HNO.out i hi h2
        · obtain rfl : i = j := by omega
          exact hp : inB (Fr.put l[i].p.1 l[i].p.2) = false))
      generalize l[j] = f at *
      obtain ⟨ft, ⟨fA, fc, fxs⟩⟩ := f
      obtain ⟨hft, hfs⟩ := hok
      simp only [FrV.p] at t0 t1 hft hfs h300 HNS
      obtain ⟨T, hT⟩ : ∃ T : UInt8, T.toNat = ft := ⟨UInt8.ofNat ft, by rw [UInt8.toNat_ofNat']; omega⟩
      have hT2 : UInt8.ofNat ft = T := by rw [← hT]; simp
      rw [hT2] at HNS
      obtain ⟨pl, hpl⟩ : ∃ p, fxs.length = p := ⟨_, rfl⟩
      rw [hpl] at t1 h300
      have hin := inner_any T fxs pl fA fc wr hpl (by omega) (hfs.below (by rw [HWS.out]; exact HB.out))
      rw [hT] at hin
      have hki : (j : Int) < (m : Int) := by omega
      have hk0 : (0 : Int) ≤ (j : Int) := by omega
      clear hT hT2 hpl hfs
      by_cases hI : inB (Fr.put T fxs) = true
      · rw [hI] at hin
        have HIN := hid hin
        clear hin hI
        go_wp2_with fail
        refine HIN.out.mono ?_
        rintro e w5 ⟨rfl, hb5⟩
        have HB5 := hid (HB.out.trans (hb5.mono (by have := HB.out.size; have := HWS.out; omega)))
        go_wp2_with fail
        go_ret
        exact ⟨rfl, HB5.out⟩
      · have hI : inB (Fr.put T fxs) = false := by simpa using hI
        rw [hI] at hin
        have HIN := hid hin
        have HNS2 := hid (HNS.out hI)
        clear hin hI
        go_wp2_with fail
        refine HIN.out.mono ?_
        rintro e w5 ⟨rfl, hb5⟩
        have HB5 := hid (HB.out.trans (hb5.mono (by have := HB.out.size; have := HWS.out; omega)))
        go_wp2_with fail
        go_roundw
        case rel => exact ⟨HB5.out, j + 1, by omega, by go_num, HNS2.out⟩
        case measure => simp [intOf]; omega
    · obtain rfl : j = m := by omega
      have hki : ¬ (j : Int) < (j : Int) := by omega
      obtain ⟨wA, rfl⟩ : ∃ x, x = wr := ⟨_, rfl⟩
      obtain ⟨k, hk⟩ : ∃ k : Nat, (wh : Int) % (j : Int) = (k : Int) := ⟨_, (Int.toNat_of_nonneg (Int.emod_nonneg _ (by omega))).symm⟩
      have hkm : k < j := by have := Int.emod_lt_of_pos (wh : Int) (show (0 : Int) < (j : Int) by omega); omega
      have hw0 : IntKind.i64.wrap (wh : Int) = (wh : Int) := IntWalk.i64_in _ (by omega)
      have hkl : k < l.length := by rw [HL.out]; exact hkm
      have HCL := hid (inB_no (HNO.out k hkl hkm))
      obtain ⟨b, off, rfl, hbl, t0w, t1w⟩ := frRow_get HL.out HM.out k hkl
      have hok := HOK.out _ (List.getElem_mem hkl)
      have h300 := HFE.out.2 _ (List.getElem_mem hkl)
      obtain ⟨pl, hpl⟩ : ∃ p, l[k].s.xs.length = p := ⟨_, rfl⟩
      obtain ⟨a, ha⟩ : ∃ a, (Rs.rows ((l.take k).map FrV.p)).length = a := ⟨_, rfl⟩
      have hlens : ∀ (L : List FrV), (∀ f ∈ L, f ∈ l) → ∀ g ∈ L.map FrV.p, g.2.length ≤ 300 := fun L hL g hg => by
        obtain ⟨f, hf, rfl⟩ := List.mem_map.1 hg
        exact HFE.out.2 f (hL f hf)
      have haB : a ≤ 4000 := by
        have := Rs.rows_len ((l.take k).map FrV.p) (hlens _ (fun f hf => List.mem_of_mem_take hf))
        rw [List.length_map, List.length_take, ha] at this
        omega
      have HJ1 := hid (fun W (hW : Below s w W) => (rjoin14_any (l.take k) k (some ⟨b, off, none⟩) c W (by rw [List.length_take, HL.out]; omega) (by unfold frFew; simp only [Bool.and_eq_true, decide_eq_true_eq, List.all_eq_true]; exact ⟨by rw [List.length_take, HL.out]; omega, fun f hf => HFE.out.2 f (List.mem_of_mem_take hf)⟩) (fun f hf => ⟨(HOK.out f (List.mem_of_mem_take hf)).1, (HOK.out f (List.mem_of_mem_take hf)).2.below (by rw [HWS.out]; exact hW)⟩) ((HM.out.below (by rw [HWS.out]; exact hW)).take2 HL.out k (by omega))).mono (fun e w' h => (show ∃ A' c', e = .returned (.slice A' a c') ∧ Below W.heap.size W w' from by obtain ⟨A', c', he, -, hb⟩ := h; exact ⟨A', c', by rw [he, ha], hb⟩)))
      have hput := fun W (hW : Below s w W) => rfput_any (UInt8.ofNat l[k].t) l[k].s.xs pl l[k].s.A l[k].s.c W hpl (by rw [← hpl]; omega) (hok.2.below (by rw [HWS.out]; exact hW))
      rw [show (UInt8.ofNat l[k].t).toNat = l[k].t by rw [UInt8.toNat_ofNat']; have := hok.1; omega] at hput
      have HPUT := hid hput
      rw [hpl] at t1w h300
      have HPL := hid hpl
      have HAA := hid ha
      have hbs : b < s := by rw [← HWS.out]; exact hbl
      have hjk1 : (k : Int) < (j : Int) := by omega
      have hk0 : (0 : Int) ≤ (k : Int) := by omega
      have hkc : (k : Int) ≤ (c : Int) := by omega
      clear hok hpl ha hput
      go_wp2_with fail
      refine (HJ1.out _ HB.out).mono ?_
      rintro e w3 ⟨A3, c3, rfl, hb3⟩
      have HB3 := hid (HB.out.trans (hb3.mono (by have := HB.out.size; have := HWS.out; omega)))
      have t0 := (HB3.out.cell (p := ⟨b, off + k * 2, none⟩) hbs).trans t0w
      have t1 := (HB3.out.cell (p := ⟨b, off + k * 2 + 1, none⟩) hbs).trans t1w
      clear hb3
      go_wp2_with fail
      refine (HPUT.out _ HB3.out).mono ?_
      rintro e w4 ⟨v4, rfl, ho4, hb4⟩
      obtain ⟨A4, c4, rfl⟩ := row_slice_g ho4
      have HB4 := hid (HB3.out.trans (hb4.mono (by have := HB3.out.size; have := HWS.out; omega)))
      clear ho4 hb4 t0 t1
      by_cases c1 : fr < 0
      · go_wp2_with fail
        go_ret
        exact ⟨rfl, HB4.out⟩
      by_cases c2 : n < 1
      · go_wp2_with fail
        go_ret
        exact ⟨rfl, HB4.out⟩
      obtain ⟨sz, hsz⟩ : ∃ sz, pl + 9 = sz := ⟨_, rfl⟩
      by_cases c3 : (sz : Int) ≤ fr
      · rw [hsz]
        have HSZ := hid hsz
        clear hsz
        go_wp2_with fail
        go_ret
        exact ⟨rfl, HB4.out⟩
      have e1 : IntKind.i64.wrap ((sz : Int) - fr) = (sz : Int) - fr := IntWalk.i64_in _ (by omega)
      by_cases c4 : (sz : Int) - fr < n
      · rw [hsz]
        have HSZ := hid hsz
        clear hsz
        go_wp2_with fail
        go_ret
        exact ⟨rfl, HB4.out⟩
      obtain ⟨F, rfl⟩ : ∃ F : Nat, fr = (F : Int) := ⟨fr.toNat, by omega⟩
      obtain ⟨q, rfl⟩ : ∃ q : Nat, n = (q : Int) := ⟨n.toNat, by omega⟩
      rw [hsz]
      have hFq : F + q ≤ sz := by omega
      have hq1 : 1 ≤ q := by omega
      obtain ⟨N, hN⟩ : ∃ N, (Rs.rows (l.map FrV.p)).length = N := ⟨_, rfl⟩
      have hNB : N ≤ 4000 := by
        have := Rs.rows_len (l.map FrV.p) (hlens _ (fun f hf => hf))
        rw [List.length_map, hN, HL.out] at this
        omega
      have hrow : a + sz ≤ N := by
        have h := rows_take_snoc l k hkl
        have h2 : (Rs.rows ((l.take (k + 1)).map FrV.p)).length ≤ N := by
          have h3 : Rs.rows (l.map FrV.p) = Rs.rows ((l.take (k + 1)).map FrV.p) ++ Rs.rows ((l.drop (k + 1)).map FrV.p) := by
            conv => lhs; rw [← List.take_append_drop (k + 1) l, List.map_append]
            exact rows_app _ _
          rw [← hN, h3, List.length_append]; omega
        rw [h, List.length_append, HAA.out, Fr.put_len, HPL.out] at h2
        omega
      have hS := lo_do l k F q hkl (by rw [HPL.out]; omega)
      rw [HAA.out] at hS
      have hlost := Lo.lost ((l.take k).map FrV.p) ((l.drop (k + 1)).map FrV.p) l[k].p F q (fun g hg => Nat.le_trans (hlens _ (fun f hf => List.mem_of_mem_take hf) g hg) (by omega)) (fun g hg => Nat.le_trans (hlens _ (fun f hf => List.mem_of_mem_drop hf) g hg) (by omega)) HCL.out hq1
      rw [← hS, HAA.out] at hlost
      have HLO := hid hlost
      have HNN := hid hN
      have HSZ := hid hsz
      have HJ2 := hid (fun W (hW : Below s w W) => rjoin14_any l j (some ⟨b, off, none⟩) c W HL.out (by unfold frFew; simp only [Bool.and_eq_true, decide_eq_true_eq, List.all_eq_true]; exact HFE.out) (fun f hf => ⟨(HOK.out f hf).1, (HOK.out f hf).2.below (by rw [HWS.out]; exact hW)⟩) (HM.out.below (by rw [HWS.out]; exact hW)))
      have hj2 := HJ2.out _ HB4.out
      rw [hN] at hj2
      have HJ2' := hid hj2
      have e2 : IntKind.i64.wrap ((a : Int) + (F : Int)) = ((a + F : Nat) : Int) := by rw [IntWalk.i64_in _ (by omega)]; omega
      obtain ⟨aF, haF⟩ : ∃ aF, a + F = aF := ⟨_, rfl⟩
      rw [haF] at e2 HLO
      have HAF := hid haF
      clear hS hlost hN hsz hj2 haF HJ2
      go_wp2_with fail
      refine HJ2'.out.mono ?_
      rintro e w5 ⟨A5, c5, rfl, hs5, hb5⟩
      have hB5 := HB4.out.trans (hb5.mono (by have := HB4.out.size; have := HWS.out; omega))
      have hbx := bw_a (Below.refl _ w5) (.cells #[.int .i64 2, .int .i64 (aF : Int), .int .i64 (q : Int), .int .i64 0, .slice none 0 0] 36)
      have hrd := Rd.new w5 36 #[.int .i64 2, .int .i64 (aF : Int), .int .i64 (q : Int), .int .i64 0, .slice none 0 0]
      have HDO := hid (lo_one (Rs.rows (l.map FrV.p)) N A5 c5 aF q _ w5.heap.size HNN.out (by omega) (by have := HAF.out; omega) (hs5.below hbx) hrd)
      have HB5 := hid (hB5.trans (hbx.mono (by have := hB5.size; have := HWS.out; omega)))
      clear hs5 hb5 hB5 hbx hrd HJ2'
      go_wp2_with fail
      refine HDO.out.mono ?_
      rintro e w6 ⟨A6, c6, rfl, hs6, hb6⟩
      have HB6 := hid (HB5.out.trans (hb6.mono (by have := HB5.out.size; have := HWS.out; omega)))
      obtain ⟨N6, hN6⟩ : ∃ N6, aF + (N - (aF + q)) = N6 := ⟨_, rfl⟩
      rw [hN6]
      have hN6b : N6 ≤ 4000 := by have := HAF.out; omega
      have hlen6 : ((Rs.rows (l.map FrV.p)).take aF ++ (Rs.rows (l.map FrV.p)).drop (aF + q)).length = N6 := by rw [List.length_append, List.length_take, List.length_drop, HNN.out]; have := HAF.out; omega
      have HEN := hid (sended_any _ N6 A6 c6 w6 hlen6 (by omega) hs6)
      clear hs6 hb6 hN6 hlen6 HDO
      generalize (Rs.wk true ((Rs.rows (l.map FrV.p)).take aF ++ (Rs.rows (l.map FrV.p)).drop (aF + q)) 0).1 = G at *
      obtain ⟨gl, hgl⟩ : ∃ gl, G.length = gl := ⟨_, rfl⟩
      rw [hgl] at HEN
      have HGL := hid hgl
      clear hgl
      go_wp2_with fail
      refine HEN.out.mono ?_
      rintro e w7 ⟨A7, c7, rfl, hrow7, hb7⟩
      have HB7 := hid (HB6.out.trans (hb7.mono (by have := HB6.out.size; have := HWS.out; omega)))
      have HR7 := hid hrow7
      clear hrow7 hb7 HEN
      obtain ⟨k1, hk1⟩ : ∃ k1, k + 1 = k1 := ⟨_, rfl⟩
      have e3 : IntKind.i64.wrap ((k : Int) + 1) = (k1 : Int) := by rw [IntWalk.i64_in _ (by omega)]; omega
      obtain ⟨q2, hq2⟩ : ∃ q2, j - k1 = q2 := ⟨_, rfl⟩
      obtain ⟨r, hr⟩ : ∃ r, k + q2 = r := ⟨_, rfl⟩
      have hk1m : k1 ≤ j := by omega
      rw [hk1] at HLO
      have hE0 : ((w7.alloc (.cells #[] 47)).drew).ownsRow w7.heap.size 47 2 (.slice (some ⟨w7.heap.size, 0, none⟩) 0 0) 0 [] := own_empty w7 _ 2 _ _ rfl (Nat.le_refl _)
      have hbe : Below s w (w7.alloc (.cells #[] 47)).drew := below_drew' (HB7.out.trans ((bw_a (Below.refl _ w7) (.cells #[] 47)).mono (by have := HB7.out.size; have := HWS.out; omega)))
      have hbe7 : Below w7.heap.size w7 (w7.alloc (.cells #[] 47)).drew := below_drew' (bw_a (Below.refl _ w7) (.cells #[] 47))
      have HE0 := hid hE0
      have HT1 := hid ((HM.out.take2 HL.out k (by omega)).below (by rw [HWS.out]; exact hbe))
      have HBE7 := hid hbe7
      have HK1 := hid hk1
      have HQ2 := hid hr
      have hs7 : s ≤ w7.heap.size := by have := HB7.out.size; have := HWS.out; omega
      have HTL := hid (show (l.take k).length = k by rw [List.length_take, HL.out]; omega)
      have HDL := hid (show (l.drop k1).length = q2 by rw [List.length_drop, HL.out]; exact hq2)
      have hrj : r ≤ 12 := by omega
      clear hE0 hbe hbe7 hk1 hr
      go_wp2_with fail
      have t0 := (HB7.out.cell (p := ⟨b, off + k * 2, none⟩) hbs).trans t0w
      go_region_held3 (fun w' => w'.cell? ⟨b, off + k * 2, none⟩ = some (.int .u8 (l[k].t : Int))) (first | exact t0 | exact x0 | exact y0 | go_keep) (first | (refine step_append_rd rfl (.tmp 84) (.tmp 87) 45 (by rfl) w7.heap.size 47 i0 (.agg #[.int .u8 0, .slice none 0 0]) 2 32 Try.underlying45 ii iz0 iz1 iz2 rfl (by decide) _ 0 [] (by rfl) HE0.out (some ⟨b, off, none⟩) k c ((l.take k).flatMap frC) (by rfl) (by rw [frC_len, HTL.out]) HT1.out.rd HT1.out.nil0 (frC_one _) k (by omega) ((l.take k).flatMap frC) (by simp) (by simp only [maxLen]; omega) (by omega) (by simp) ?_; intro A8 c8 w8 ho8 hg8; have hc8 := Chg.of_grown (S := fun q => q = w7.heap.size) hg8 (fun g e => by cases e; rfl); have HB8 := hid (HBE7.out.trans (hc8.below (fun q h => by omega) (by simp))); have HO8 := hid ho8; have x0 := ((HB7.out.trans (HB8.out.mono hs7)).cell (p := ⟨b, off + k * 2, none⟩) hbs).trans t0w; clear ho8 hg8 hc8) | (refine step_append_rd rfl (.tmp 88) (.tmp 92) 45 (by rfl) w7.heap.size 47 i0 (.agg #[.int .u8 0, .slice none 0 0]) 2 32 Try.underlying45 ii iz0 iz1 iz2 rfl (by decide) _ k ((l.take k).flatMap frC) (by rfl) HO8.out (cutF (some ⟨b, off, none⟩) c k1) q2 (c - k1) ((l.drop k1).flatMap frC) (by rfl) (by rw [frC_len, HDL.out]) ((HM.out.cut2 HL.out k1 hk1m).below (by rw [HWS.out]; exact HB7.out.trans (HB8.out.mono hs7))).rd ((HM.out.cut2 HL.out k1 hk1m).below (by rw [HWS.out]; exact HB7.out.trans (HB8.out.mono hs7))).nil0 (frC_one _) r HQ2.out (((l.take k) ++ (l.drop k1)).flatMap frC) (by rw [List.flatMap_append]) (by simp only [maxLen]; omega) (by omega) (by have := HB8.out.size; omega) ?_; intro A9 c9 w9 ho9 hg9; have hv8 := (fun q hq => (HO8.out.lt q hq).1 : ∀ q, (Value.slice A8 k c8).ownBlock = some q → w7.heap.size ≤ q); have hc9 := Chg.of_grown (S := fun q => (Value.slice A8 k c8).ownBlock = some q) hg9 (fun g e => e); have HB9 := hid (HB8.out.trans (hc9.below (fun q h => hv8 q h) (by have := HB8.out.size; omega))); have HO9 := hid ho9; have y0 := ((HB7.out.trans (HB9.out.mono hs7)).cell (p := ⟨b, off + k * 2, none⟩) hbs).trans t0w; clear ho9 hg9 hc9 hv8))
      have HW9 := hid (HB7.out.trans (HB9.out.mono hs7))
      have HR9 := hid (HR7.out.below HB9.out)
      have HSR := hid (own_slg (by omega) HO9.out)
      have HOKR := hid (fun f (hf : f ∈ l.take k ++ l.drop k1) => (by
        rcases List.mem_append.1 hf with h | h
        · exact List.mem_of_mem_take h
        · exact List.mem_of_mem_drop h : f ∈ l))
      have HRL := hid (show (l.take k ++ l.drop k1).length = r by rw [List.length_append, HTL.out, HDL.out, HQ2.out])
      have hrx : ((l.take k ++ l.drop k1).map FrV.p) = (l.take k).map FrV.p ++ (l.drop k1).map FrV.p := List.map_append
      have HRX := hid hrx
      clear t0 x0 y0 HO8 HB8 HB9 HO9 HR7 HT1 HE0 HBE7 hrx
      go_wp2_with fail
      go_loopw [16] (fun i wr => wr = w9 ∧ ∃ t : Nat, t ≤ gl ∧ i = .int .i64 (t : Int) ∧ ∀ (u : Nat) (hu : u < G.length), u < t → ¬ (G[u].at_ = a ∧ 0 < F)) (fun i _ => gl - (intOf i).toNat)
      case atStart => exact ⟨rfl, 0, by omega, rfl, fun u _ h => by omega⟩
      case round =>
        obtain ⟨rfl, t, ht, rfl, hno2⟩ := hrel
        have HNO2 := hid hno2
        clear hno2
        by_cases hlt2 : t < gl
        · have htG : t < G.length := by rw [HGL.out]; exact hlt2
          obtain ⟨b6, o6, P6, q6, rfl, hb6, g0, -, -, -, hg1, hg2⟩ := HR9.out.get HGL.out t htG
          have HNS := hid (fun (hp : ¬ (G[t].at_ = a ∧ 0 < F)) (u : Nat) (hu : u < G.length) (h : u < t + 1) => (by
            by_cases h2 : u < t
            · exact HNO2.out u hu h2
            · obtain rfl : u = t := by omega
              exact hp : ¬ (G[u].at_ = a ∧ 0 < F)))
          generalize G[t].at_ = P at *
          have hti : (t : Int) < (gl : Int) := by omega
          have ht0 : (0 : Int) ≤ (t : Int) := by omega
          by_cases hP : P = a
          · have hPi : ((P : Int) == (a : Int)) = true := by rw [hP]; simp
            by_cases hF0 : 0 < F
            · have hFi : (0 : Int) < (F : Int) := by omega
              clear hP
              go_wp2_with fail
              go_ret
              exact ⟨by rfl, HW9.out⟩
            · have hFi : ¬ (0 : Int) < (F : Int) := by omega
              have HN2 := hid (HNS.out (fun h => hF0 h.2))
              clear hP
              go_wp2_with fail
              go_roundw
              case rel => exact ⟨trivial, t + 1, by omega, by go_num, HN2.out⟩
              case measure => simp [intOf]; omega
          · have hPi : ((P : Int) == (a : Int)) = false := by simp; omega
            have HN2 := hid (HNS.out (fun h => hP h.1))
            go_wp2_with fail
            go_roundw
            case rel => exact ⟨trivial, t + 1, by omega, by go_num, HN2.out⟩
            case measure => simp [intOf]; omega
        · obtain rfl : t = gl := by omega
          have hti : ¬ (t : Int) < (t : Int) := by omega
          obtain ⟨wB, rfl⟩ : ∃ x, x = wr := ⟨_, rfl⟩
          have hG : G = Rs.at_ 0 ((l.take k).map FrV.p) ++ Rs.at_ (Rs.rows ((l.take k).map FrV.p) ++ Lo.left l[k].p F q).length ((l.drop k1).map FrV.p) := by
            rcases HLO.out with ⟨g, hg, h1, h2⟩ | h
            · obtain ⟨u, hu, rfl⟩ := List.getElem_of_mem hg
              exact absurd ⟨h1, h2⟩ (HNO2.out u hu (by rw [← HGL.out]; exact hu))
            · exact h
          have hglr : t = r := by
            rw [← HGL.out, hG, List.length_append, Rs.at_len, Rs.at_len, List.length_map, List.length_map, HTL.out, HDL.out, HQ2.out]
          have hne : ((t : Int) != (r : Int)) = false := by rw [hglr]; simp
          have HG := hid hG
          have hr0 := Below.refl wB.heap.size wB
          have HTR := hid hglr
          clear hG HNO2 HLO hglr
          go_wp2_with fail
          go_loopw [17] (fun i wr => ∃ u : Nat, u ≤ r ∧ i = .int .i64 (u : Int) ∧ Below wB.heap.size wB wr) (fun i _ => r - (intOf i).toNat)
          case atStart => exact ⟨0, by omega, rfl, hr0⟩
          case round =>
            obtain ⟨u, hu, rfl, hB⟩ := hrel
            have HB := hid hB
            clear hB hr0
            by_cases hlt3 : u < r
            · have huG : u < G.length := by rw [HGL.out, HTR.out]; exact hlt3
              have huR : u < (l.take k ++ l.drop k1).length := by rw [HRL.out]; exact hlt3
              obtain ⟨b6, o6, P6, q6, rfl, hb6, -, g1, g2, hp6, -, -⟩ := HR9.out.get HGL.out u huG
              obtain ⟨b9, o9, rfl, hb9, r0, r1⟩ := frRow_get HRL.out HSR.out u huR
              have hmem := HOKR.out _ (List.getElem_mem huR)
              have hgu : G[u].ty = ((l.take k ++ l.drop k1)[u]).p.1 ∧ G[u].pl = ((l.take k ++ l.drop k1)[u]).p.2 := by
                obtain ⟨P, hP⟩ := Lo.get ((l.take k).map FrV.p) ((l.drop k1).map FrV.p) 0 (Rs.rows ((l.take k).map FrV.p) ++ Lo.left l[k].p F q).length u (by rw [← HRX.out, List.length_map]; exact huR)
                have h1 : G[u] = ⟨P, ((l.take k).map FrV.p ++ (l.drop k1).map FrV.p)[u]'(by rw [← HRX.out, List.length_map]; exact huR) |>.1, ((l.take k).map FrV.p ++ (l.drop k1).map FrV.p)[u]'(by rw [← HRX.out, List.length_map]; exact huR) |>.2⟩ := by
                  rw [← hP]
                  congr 1
                rw [h1]
                simp only [← HRX.out, List.getElem_map, and_self]
              have hok := HOK.out _ hmem
              have h3002 := HFE.out.2 _ hmem
              rw [hgu.1] at g1
              rw [hgu.2] at g2 hp6
              clear hgu hmem
              generalize (l.take k ++ l.drop k1)[u] = f at *
              obtain ⟨ft, ⟨fA, fc, fxs⟩⟩ := f
              obtain ⟨hft, hfs⟩ := hok
              simp only [FrV.p] at g1 g2 hp6 r0 r1 hft hfs h3002
              obtain ⟨T, hT⟩ : ∃ T : UInt8, T.toNat = ft := ⟨UInt8.ofNat ft, by rw [UInt8.toNat_ofNat']; omega⟩
              have hT2 : UInt8.ofNat ft = T := by rw [← hT]; simp
              rw [hT2, hT] at g1
              obtain ⟨fl, hfl⟩ : ∃ p, fxs.length = p := ⟨_, rfl⟩
              rw [hfl] at g2 r1 h3002
              have hbw := HB.out.size
              have hb6w := Nat.lt_of_lt_of_le hb6 hbw
              have hb9w := Nat.lt_of_lt_of_le hb9 hbw
              have g1 := (HB.out.cell (p := ⟨b6, o6 + u * 3 + 1, none⟩) hb6).trans g1
              have g2 := (HB.out.cell (p := ⟨b6, o6 + u * 3 + 2, none⟩) hb6).trans g2
              have r0 := (HB.out.cell (p := ⟨b9, o9 + u * 2, none⟩) hb9).trans r0
              have r1 := (HB.out.cell (p := ⟨b9, o9 + u * 2 + 1, none⟩) hb9).trans r1
              have hwr : Below s w wr := HW9.out.trans (HB.out.mono (by have := HW9.out.size; have := HWS.out; omega))
              have hsame := fun W (hW : Below wr.heap.size wr W) => (fsame_any T T fxs fxs fl fl P6 fA q6 fc W hfl hfl ((hp6.sl.below HB.out).below hW) ((hfs.below (by rw [HWS.out]; exact hwr)).below hW)).mono (fun e w' h => (show e = .returned (.bool true) ∧ Below W.heap.size W w' from ⟨by rw [h.1]; simp, h.2⟩))
              rw [hT] at hsame
              have HSM := hid hsame
              have HBR := hid (Below.refl wr.heap.size wr)
              have hti3 : (u : Int) < (r : Int) := by omega
              have ht03 : (0 : Int) ≤ (u : Int) := by omega
              clear hsame hp6 hfs hT hT2 hfl hwr
              have hrg : (r : Int) = (t : Int) := by rw [HTR.out]
              have hti4 : (u : Int) < (t : Int) := by omega
              clear hrg
              have hfit1 := HR9.out.get HGL.out u huG
              have hfit2 := HSR.out.cap
              have hfit3 := HSR.out.small
              clear hfit1
              go_wp2_with fail
              go_region_held3 (fun w' => w'.cell? ⟨b6, o6 + u * 3 + 1, none⟩ = some (.int .u8 (ft : Int)) ∧ w'.cell? ⟨b6, o6 + u * 3 + 2, none⟩ = some (.slice P6 fl q6) ∧ w'.cell? ⟨b9, o9 + u * 2, none⟩ = some (.int .u8 (ft : Int)) ∧ w'.cell? ⟨b9, o9 + u * 2 + 1, none⟩ = some (.slice fA fl fc)) (first | exact ⟨g1, g2, r0, r1⟩ | exact ⟨x1, x2, y0, y1⟩ | go_keep) (first | (go_at_call 34; (with_reducible refine (HSM.out _ (below_drew' HBR.out)).mono ?_); rintro e w8 ⟨rfl, hb8⟩; have hbq := (below_drew' (Below.refl _ wr)).trans hb8; have x1 := (hbq.cell (p := ⟨b6, o6 + u * 3 + 1, none⟩) hb6w).trans g1; have x2 := (hbq.cell (p := ⟨b6, o6 + u * 3 + 2, none⟩) hb6w).trans g2; have y0 := (hbq.cell (p := ⟨b9, o9 + u * 2, none⟩) hb9w).trans r0; have y1 := (hbq.cell (p := ⟨b9, o9 + u * 2 + 1, none⟩) hb9w).trans r1; have HB8 := hid hbq; clear hb8 hbq))
              go_wp2_with fail
              go_roundw
              case rel => exact ⟨u + 1, by omega, by go_num, bw_t HB.out HB8.out⟩
              case measure => simp [intOf]; omega
            · obtain rfl : u = r := by omega
              have hti3 : ¬ (u : Int) < (u : Int) := by omega
              go_wp2_with fail
              go_ret
              exact ⟨rfl, HW9.out.trans (HB.out.mono (by have := HW9.out.size; have := HWS.out; omega))⟩
end Go.Proofs.Ytabklpgimjmdlaa
