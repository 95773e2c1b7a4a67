/- DiagTexts: a walk. -/
import Derived.Test.YtdbbapedimnjhaaDoorDgLa
set_option linter.unusedVariables false
namespace Go.Proofs.YtdbbapedimnjhaaDoor
open Go.RowKit
theorem wd_inj : ∀ i j, i < 21 → j < 21 → WD.getD i ⟨#[]⟩ = WD.getD j ⟨#[]⟩ → i = j := by
  have key : ∀ i j : Fin 21, WD.getD i.1 ⟨#[]⟩ = WD.getD j.1 ⟨#[]⟩ → i.1 = j.1 := by decide +kernel
  exact fun i j h1 h2 h => key ⟨i, h1⟩ ⟨j, h2⟩ h
/-- Where a word stands among the first so many. -/
def IsL (s : ByteArray) (k : Nat) (z : Int) : Prop := (z = -1 ∧ ∀ j < k, WD.getD j ⟨#[]⟩ ≠ s) ∨ ∃ i : Nat, i < k ∧ z = (i : Int) ∧ WD.getD i ⟨#[]⟩ = s
theorem dwT {a b : World} (h : Below a.drew.heap.size a.drew b) : Below a.heap.size a b := ⟨h.os, h.tape, h.output, h.size, h.block⟩
set_option maxRecDepth 100000 in
set_option maxHeartbeats 32000000 in
theorem diagTexts_any (X : List Dg.D) (n : Nat) (A : Option Addr) (c : Nat) (e0 : Int) (s : ByteArray) (w : World) (hn : X.length = n) (hl : n ≤ 9223372036854775807) (hok : ∀ x ∈ X, DOk x) (he1 : -9223372036854775808 ≤ e0) (he2 : e0 ≤ 9223372036854775807) (hs : SlN w A n c 3 (X.flatMap dC)) (hT : PowT w) :
    Calls Tryd.prog 4 #[.slice A n c, .int .i64 e0, .string s] w fun e w' => e = .returned (.bool true) ∧ Below w.heap.size w w' := by
  have HN0 := hid hn
  have HOK := hid hok
  have HS := hid hs
  have HT := hid hT
  clear hn hok hs hT
  go_enter Tryd.func4, Tryd.ntmps4
  go_wp2_with fail
  refine (live24_any w HT.out).mono ?_
  rintro e w2 ⟨rfl, hb2⟩
  have HB2 := hid hb2
  have hsm := small24_any X n A c w2 HN0.out hl (HS.out.below HB2.out)
  clear hb2
  by_cases hsb : smD X = true
  case neg =>
    have hsb : smD X = false := by simpa using hsb
    rw [hsb] at hsm
    have HSM := hid hsm
    clear hsm hsb
    go_wp2_with (go_at_call 7; refine HSM.out.mono ?_; rintro e w3 ⟨rfl, rfl⟩)
    go_ret
    exact ⟨rfl, HB2.out⟩
  rw [hsb] at hsm
  have HSM := hid hsm
  have HFW := hid (smD_iff.1 hsb)
  clear hsm hsb
  have hn60 : n ≤ 60 := by rw [← HN0.out]; exact HFW.out.1
  have HSZ := hid (fun x hx => Nat.le_trans (HFW.out.2 x hx) (by omega : 500 ≤ 5000))
  by_cases hx5 : 100 < s.size
  · have hx5i : (100 : Int) < (s.size : Int) := by omega
    go_wp2_with (go_at_call 7; refine HSM.out.mono ?_; rintro e w3 ⟨rfl, rfl⟩)
    go_ret
    exact ⟨rfl, HB2.out⟩
  have hx5i : ¬ (100 : Int) < (s.size : Int) := by omega
  go_wp2_with (go_at_call 7; refine HSM.out.mono ?_; rintro e w3 ⟨rfl, rfl⟩)
  obtain ⟨wz, rfl⟩ : ∃ z, z = w3 := ⟨_, rfl⟩
  have hb0 := Below.refl wz.heap.size wz
  have HB0 := hid hb0
  have HLN := hid (fun k hk => lnD_len X HSZ.out k hk)
  clear hb0
  go_loopw [7, 8] (fun tv i wr => ∃ (k : Nat) (t : ByteArray), k ≤ n ∧ i = .int .i64 (k : Int) ∧ tv = .string t ∧ t.data.toList = lnD (X.take k) ∧ Below wz.heap.size wz wr) (fun _ i _ => n - (intOf i).toNat)
  case atStart => exact ⟨0, ⟨#[]⟩, by omega, rfl, rfl, rfl, HB0.out⟩
  case round =>
    obtain ⟨k, t, hk, rfl, rfl, htt, hbe⟩ := hrel
    have HTT := hid htt
    have HBE := hid hbe
    clear htt hbe
    by_cases hlt : k < n
    · have hkl : k < X.length := by have := HN0.out; omega
      obtain ⟨g, o, rfl, hg, c0, c1, c2⟩ := dRow_at ((HS.out.below HB2.out).below HBE.out) k hkl
      have htk : lnD (X.take (k + 1)) = lnD (X.take k) ++ (txL X[k] ++ [10]) := by unfold lnD; rw [List.take_succ_eq_append_getElem hkl, List.flatMap_append]; simp
      have hyo := HOK.out _ (List.getElem_mem hkl)
      have hyz := HSZ.out _ (List.getElem_mem hkl)
      have hjl := HLN.out k (by omega)
      generalize X[k] = y at *
      have hts : t.size ≤ 1201860 := by rw [Lib.size_eq, HTT.out]; omega
      have htx := tx_len y hyz
      have C1' : ∀ W, Below wr.heap.size wr W → Calls Tryd.prog 14 #[.agg #[.int .i64 y.1, .int .i64 y.2.1, .string y.2.2]] W fun e w' => ∃ t : ByteArray, e = .returned (.string t) ∧ t.data.toList = txL y ∧ Below wr.heap.size wr w' := fun W h => (dtext_any y W hyo hyz (HT.out.below (bw_t (bw_t HB2.out HBE.out) h))).mono (fun e w' h2 => by obtain ⟨t, h3, h4, h5⟩ := h2; exact ⟨t, h3, h4, bw_t h h5⟩)
      have C2' : ∀ W, Below wr.heap.size wr W → Calls Tryd.prog 15 #[.agg #[.int .i64 y.1, .int .i64 y.2.1, .string y.2.2]] W fun e w' => ∃ t : ByteArray, e = .returned (.string t) ∧ t.data.toList = txL y ∧ Below wr.heap.size wr w' := fun W h => (rtext_any y W hyo hyz).mono (fun e w' h2 => by obtain ⟨t, h3, h4, h5⟩ := h2; exact ⟨t, h3, h4, bw_t h h5⟩)
      have C1 := hid C1'
      have C2 := hid C2'
      have hki : (k : Int) < (n : Int) := by omega
      have hk0 : (0 : Int) ≤ (k : Int) := by omega
      have HTK := hid htk
      have HTX := hid htx
      have hS : ∀ W', Below wr.heap.size wr W' → (fun w' => w'.cell? ⟨g, o + k * 3, none⟩ = some (.int .i64 y.1) ∧ w'.cell? ⟨g, o + k * 3 + 1, none⟩ = some (.int .i64 y.2.1) ∧ w'.cell? ⟨g, o + k * 3 + 2, none⟩ = some (.string y.2.2)) W' := fun W' hb => ⟨(hb.cell (p := ⟨g, o + k * 3, none⟩) hg).trans c0, (hb.cell (p := ⟨g, o + k * 3 + 1, none⟩) hg).trans c1, (hb.cell (p := ⟨g, o + k * 3 + 2, none⟩) hg).trans c2⟩
      have HSS := hid hS
      have HD0 := hid (show Below wr.heap.size wr wr.drew from bw_d (Below.refl _ wr) 1)
      clear htk hkl hyo hyz hjl htx C1' C2' hS c0 c1 c2
      go_wp2_with fail
      go_region_held3 (fun w' => w'.cell? ⟨g, o + k * 3, none⟩ = some (.int .i64 y.1) ∧ w'.cell? ⟨g, o + k * 3 + 1, none⟩ = some (.int .i64 y.2.1) ∧ w'.cell? ⟨g, o + k * 3 + 2, none⟩ = some (.string y.2.2)) (first | exact HSS.out _ HD0.out | exact HSS.out _ HDa.out | exact HSS.out _ HDb.out | go_keep) (first
        | (go_at_call 14; (with_reducible refine (C1.out _ HD0.out).mono ?_); rintro e wa ⟨ta, rfl, hta, hbn⟩; have HDa := hid hbn; have HTA := hid hta; clear hbn hta)
        | (go_at_call 15; (with_reducible refine (C2.out _ HDa.out).mono ?_); rintro e wb ⟨tb, rfl, htb, hbn⟩; have HDb := hid hbn; obtain rfl : tb = ta := Dg.bext (by rw [htb, HTA.out]); clear hbn htb))
      have hte : (!(tb.toList == tb.toList)) = false := by simp
      have hdb := HSS.out _ HDb.out
      obtain ⟨d0, d1, d2⟩ := hdb
      go_wp2_with fail
      refine (C2.out _ HDb.out).mono ?_
      rintro e w5 ⟨tc, rfl, htc, hbn⟩
      have HDc := hid hbn
      have htcs : tc.size ≤ 20030 := by rw [Lib.size_eq, htc]; exact HTX.out
      have HTC := hid htc
      have f1 : ¬ 9223372036854775807 < t.size + tc.size := by omega
      have f2 : (t ++ tc : ByteArray).size = t.size + tc.size := by rw [ByteArray.size_append]
      have f3 : ¬ 9223372036854775807 < t.size + tc.size + 1 := by omega
      clear hbn htc d0 d1 d2
      go_wp2_with fail
      go_roundw
      case rel => exact ⟨k + 1, _, by omega, by go_num, rfl, by rw [HTK.out]; simp [HTT.out, HTC.out], bw_t HBE.out HDc.out⟩
      case measure => simp [intOf] <;> omega
    · obtain rfl : k = n := by omega
      rw [List.take_of_length_le (by have := HN0.out; omega)] at HTT
      have HBQ := hid (bw_t HB2.out HBE.out)
      obtain ⟨n, rfl⟩ : ∃ z, z = k := ⟨_, rfl⟩
      by_cases he : 0 ≤ e0 ∧ e0 < 21
      · obtain ⟨ne, rfl⟩ : ∃ ne : Nat, e0 = ne := ⟨e0.toNat, by omega⟩
        have hne : ne < 21 := by omega
        have hw0' : wdB (ne : Int) = WD.getD ne ⟨#[]⟩ := by unfold wdB; rw [if_pos he]; rfl
        have HWC := hid (wd_cells ne hne)
        rw [← hw0'] at HWC
        obtain ⟨W0, hw0⟩ : ∃ W0, wdB (ne : Int) = W0 := ⟨_, rfl⟩
        rw [hw0] at HWC
        have hn0 : (0 : Int) ≤ (ne : Int) := by omega
        have hn1 : (ne : Int) < 21 := by omega
        clear hw0' he
        go_wp2_with fail
        refine (rwords_any _).mono ?_
        rintro e w3 ⟨rfl, hb3⟩
        have HB3 := hid (bw_a (bw_t HBQ.out hb3) (.cells WLIT 34))
        have hlit := Blk.new w3 34 WLIT
        have hbt := bw_a hb3 (.cells WLIT 34)
        go_wp2_with (first
          | (refine wpList_alloc_lit rfl 34 rfl _ (alloc21 w3) ?_)
          | (refine wpList_store_lit rfl 34 _ _ rfl (store21 w3) ?_; obtain ⟨w4, hw4⟩ : ∃ w4, w3.alloc (.cells WLIT 34) = w4 := ⟨_, rfl⟩; rw [hw4] at HB3 hlit hbt ⊢; have hcell := hlit.cell ne; rw [HWC.out] at hcell; have HW4 := hid hw4; have HLIT := hid hlit; have HBT := hid hbt; clear hw4 hlit hbt))
        have hlt4 := HLIT.out.lt
        refine (derrno_any s _).mono ?_
        rintro e w5 ⟨her, hb5⟩
        have HB5 := hid (bw_t HB3.out hb5)
        have HLIT5 := hid (HLIT.out.below hb5 hlt4)
        have HBT5 := hid (bw_t HBT.out hb5)
        clear hcell
        have hf : (∃ i : Nat, i < 21 ∧ e = .returned (.tuple #[.int .i64 (i : Int), .bool true]) ∧ WD.getD i ⟨#[]⟩ = s) ∨ (e = .returned (.tuple #[.int .i64 0, .bool false]) ∧ ∀ j < 21, WD.getD j ⟨#[]⟩ ≠ s) := by
          rcases her with ⟨i, h1, h2, h3, -⟩ | h
          · exact .inl ⟨i, h1, h2, h3⟩
          · exact .inr h
        have hee : ∃ (fv : Int) (ok : Bool), e = .returned (.tuple #[.int .i64 fv, .bool ok]) ∧ ((ok = true ∧ ∃ i : Nat, i < 21 ∧ fv = (i : Int) ∧ WD.getD i ⟨#[]⟩ = s) ∨ (ok = false ∧ fv = 0 ∧ ∀ j < 21, WD.getD j ⟨#[]⟩ ≠ s)) := by
          rcases hf with ⟨i, h1, h2, h3⟩ | ⟨h1, h2⟩
          · exact ⟨i, true, h2, .inl ⟨rfl, i, h1, rfl, h3⟩⟩
          · exact ⟨0, false, h1, .inr ⟨rfl, rfl, h2⟩⟩
        clear hf her
        obtain ⟨fv, ok, rfl, hfo⟩ := hee
        have HFO := hid hfo
        clear hb5 hfo
        go_wp2_with fail
        obtain ⟨wy, rfl⟩ : ∃ z, z = w5 := ⟨_, rfl⟩
        have HY0 := hid (Below.refl wy.heap.size wy)
        go_loopw [13, 14] (fun iv i wr => ∃ (k : Nat) (z : Int), k ≤ 21 ∧ i = .int .i64 (k : Int) ∧ iv = .int .i64 z ∧ IsL s k z ∧ Below wy.heap.size wy wr) (fun _ i _ => 21 - (intOf i).toNat)
        case atStart => exact ⟨0, -1, by omega, rfl, rfl, .inl ⟨rfl, fun j hj => by omega⟩, HY0.out⟩
        case round =>
          obtain ⟨k, z, hk, rfl, rfl, hz, hbr⟩ := hrel
          have HZ := hid hz
          have HBR := hid hbr
          clear hz hbr
          by_cases hlt : k < 21
          · have hcell := (HLIT5.out.below HBR.out HLIT5.out.lt).cell k
            rw [wd_cells k hlt] at hcell
            have hki : (k : Int) < 21 := by omega
            have hk0 : (0 : Int) ≤ (k : Int) := by omega
            obtain ⟨x, hx⟩ : ∃ x, WD.getD k ⟨#[]⟩ = x := ⟨_, rfl⟩
            rw [hx] at hcell
            by_cases hxs : x = s
            · have he : (x.toList == s.toList) = true := by rw [str_beq]; simp [hxs]
              have HN := hid (show IsL s (k + 1) (k : Int) from .inr ⟨k, by omega, rfl, by rw [hx, hxs]⟩)
              clear hxs hx
              go_wp2_with fail
              go_roundw
              case rel => exact ⟨k + 1, _, by omega, by go_num, rfl, HN.out, HBR.out⟩
              case measure => simp [intOf] <;> omega
            · have he : (x.toList == s.toList) = false := by rw [str_beq]; simp [hxs]
              have HN := hid (show IsL s (k + 1) z from by
                rcases HZ.out with ⟨h1, h2⟩ | ⟨i, h1, h2, h3⟩
                · refine .inl ⟨h1, fun j hj => ?_⟩
                  rcases Nat.lt_or_ge j k with h | h
                  · exact h2 j h
                  · obtain rfl : j = k := by omega
                    rw [hx]; exact hxs
                · exact .inr ⟨i, by omega, h2, h3⟩)
              clear hxs hx
              go_wp2_with fail
              go_roundw
              case rel => exact ⟨k + 1, _, by omega, by go_num, rfl, HN.out, HBR.out⟩
              case measure => simp [intOf] <;> omega
          · obtain rfl : k = 21 := by omega
            have hkn : ¬ ((21 : Nat) : Int) < 21 := by omega
            have HL := hid (fun W (h : Below wr.heap.size wr W) => dlines_any X n A c W HN0.out (by omega) HOK.out HSZ.out (HT.out.below (bw_t (bw_t HB5.out HBR.out) h)) (HS.out.below (bw_t (bw_t HB5.out HBR.out) h)))
            have HWD := hid (fun W => dword_any (ne : Int) W (by omega) (by omega))
            rw [hw0] at HWD
            go_wp2_with fail
            refine (HL.out _ (Below.refl _ _)).mono ?_
            rintro e w6 ⟨tl, rfl, htl, hb6⟩
            obtain rfl : tl = t := Dg.bext (by rw [htl, HTT.out])
            have hte : (tl.toList == tl.toList) = true := by simp
            have HB6 := hid (bw_t (bw_t HB5.out HBR.out) hb6)
            clear hb6 htl
            rcases HFO.out with ⟨rfl, i, hi, rfl, hw⟩ | ⟨rfl, rfl, hw⟩
            · have hz : z = (i : Int) := by
                rcases HZ.out with ⟨h1, h2⟩ | ⟨i1, h1, h2, h3⟩
                · exact absurd hw (h2 i hi)
                · rw [h2, wd_inj i1 i (by omega) hi (by rw [h3, hw])]
              subst hz
              have hi0 : (0 : Int) ≤ (i : Int) := by omega
              clear hw
              go_wp2_with fail
              refine (HWD.out _).mono ?_
              rintro e w7 ⟨rfl, hb7⟩
              have HB7 := hid (bw_t HB6.out hb7)
              clear hb7
              go_wp2_with fail
              go_ret
              exact ⟨by simp, HB7.out⟩
            · have hz : z = -1 := by
                rcases HZ.out with ⟨h1, h2⟩ | ⟨i1, h1, h2, h3⟩
                · exact h1
                · exact absurd h3 (hw i1 h1)
              subst hz
              clear hw
              go_wp2_with fail
              refine (HWD.out _).mono ?_
              rintro e w7 ⟨rfl, hb7⟩
              have HB7 := hid (bw_t HB6.out hb7)
              clear hb7
              go_wp2_with fail
              go_ret
              exact ⟨by simp, HB7.out⟩
      · have hw0 : wdB e0 = ⟨#[]⟩ := by unfold wdB; rw [if_neg he]
        have HE := hid he
        clear he
        by_cases hn0 : 0 ≤ e0
        · have hn1 : ¬ e0 < 21 := fun h => HE.out ⟨hn0, h⟩
          go_wp2_with fail
          refine (rwords_any _).mono ?_
          rintro e w3 ⟨rfl, hb3⟩
          have HB3 := hid (bw_a (bw_t HBQ.out hb3) (.cells WLIT 34))
          have hlit := Blk.new w3 34 WLIT
          have hbt := bw_a hb3 (.cells WLIT 34)
          go_wp2_with (first
            | (refine wpList_alloc_lit rfl 34 rfl _ (alloc21 w3) ?_)
            | (refine wpList_store_lit rfl 34 _ _ rfl (store21 w3) ?_; obtain ⟨w4, hw4⟩ : ∃ w4, w3.alloc (.cells WLIT 34) = w4 := ⟨_, rfl⟩; rw [hw4] at HB3 hlit hbt ⊢; have HW4 := hid hw4; have HLIT := hid hlit; have HBT := hid hbt; clear hw4 hlit hbt))
          have hlt4 := HLIT.out.lt
          refine (derrno_any s _).mono ?_
          rintro e w5 ⟨her, hb5⟩
          have HB5 := hid (bw_t HB3.out hb5)
          have HLIT5 := hid (HLIT.out.below hb5 hlt4)
          have HBT5 := hid (bw_t HBT.out hb5)
          skip
          have hf : (∃ i : Nat, i < 21 ∧ e = .returned (.tuple #[.int .i64 (i : Int), .bool true]) ∧ WD.getD i ⟨#[]⟩ = s) ∨ (e = .returned (.tuple #[.int .i64 0, .bool false]) ∧ ∀ j < 21, WD.getD j ⟨#[]⟩ ≠ s) := by
            rcases her with ⟨i, h1, h2, h3, -⟩ | h
            · exact .inl ⟨i, h1, h2, h3⟩
            · exact .inr h
          have hee : ∃ (fv : Int) (ok : Bool), e = .returned (.tuple #[.int .i64 fv, .bool ok]) ∧ ((ok = true ∧ ∃ i : Nat, i < 21 ∧ fv = (i : Int) ∧ WD.getD i ⟨#[]⟩ = s) ∨ (ok = false ∧ fv = 0 ∧ ∀ j < 21, WD.getD j ⟨#[]⟩ ≠ s)) := by
            rcases hf with ⟨i, h1, h2, h3⟩ | ⟨h1, h2⟩
            · exact ⟨i, true, h2, .inl ⟨rfl, i, h1, rfl, h3⟩⟩
            · exact ⟨0, false, h1, .inr ⟨rfl, rfl, h2⟩⟩
          clear hf her
          obtain ⟨fv, ok, rfl, hfo⟩ := hee
          have HFO := hid hfo
          clear hb5 hfo
          go_wp2_with fail
          obtain ⟨wy, rfl⟩ : ∃ z, z = w5 := ⟨_, rfl⟩
          have HY0 := hid (Below.refl wy.heap.size wy)
          go_loopw [13, 14] (fun iv i wr => ∃ (k : Nat) (z : Int), k ≤ 21 ∧ i = .int .i64 (k : Int) ∧ iv = .int .i64 z ∧ IsL s k z ∧ Below wy.heap.size wy wr) (fun _ i _ => 21 - (intOf i).toNat)
          case atStart => exact ⟨0, -1, by omega, rfl, rfl, .inl ⟨rfl, fun j hj => by omega⟩, HY0.out⟩
          case round =>
            obtain ⟨k, z, hk, rfl, rfl, hz, hbr⟩ := hrel
            have HZ := hid hz
            have HBR := hid hbr
            clear hz hbr
            by_cases hlt : k < 21
            · have hcell := (HLIT5.out.below HBR.out HLIT5.out.lt).cell k
              rw [wd_cells k hlt] at hcell
              have hki : (k : Int) < 21 := by omega
              have hk0 : (0 : Int) ≤ (k : Int) := by omega
              obtain ⟨x, hx⟩ : ∃ x, WD.getD k ⟨#[]⟩ = x := ⟨_, rfl⟩
              rw [hx] at hcell
              by_cases hxs : x = s
              · have he : (x.toList == s.toList) = true := by rw [str_beq]; simp [hxs]
                have HN := hid (show IsL s (k + 1) (k : Int) from .inr ⟨k, by omega, rfl, by rw [hx, hxs]⟩)
                clear hxs hx
                go_wp2_with fail
                go_roundw
                case rel => exact ⟨k + 1, _, by omega, by go_num, rfl, HN.out, HBR.out⟩
                case measure => simp [intOf] <;> omega
              · have he : (x.toList == s.toList) = false := by rw [str_beq]; simp [hxs]
                have HN := hid (show IsL s (k + 1) z from by
                  rcases HZ.out with ⟨h1, h2⟩ | ⟨i, h1, h2, h3⟩
                  · refine .inl ⟨h1, fun j hj => ?_⟩
                    rcases Nat.lt_or_ge j k with h | h
                    · exact h2 j h
                    · obtain rfl : j = k := by omega
                      rw [hx]; exact hxs
                  · exact .inr ⟨i, by omega, h2, h3⟩)
                clear hxs hx
                go_wp2_with fail
                go_roundw
                case rel => exact ⟨k + 1, _, by omega, by go_num, rfl, HN.out, HBR.out⟩
                case measure => simp [intOf] <;> omega
            · obtain rfl : k = 21 := by omega
              have hkn : ¬ ((21 : Nat) : Int) < 21 := by omega
              have HL := hid (fun W (h : Below wr.heap.size wr W) => dlines_any X n A c W HN0.out (by omega) HOK.out HSZ.out (HT.out.below (bw_t (bw_t HB5.out HBR.out) h)) (HS.out.below (bw_t (bw_t HB5.out HBR.out) h)))
              have HWD := hid (fun W => dword_any e0 W he1 he2)
              rw [hw0] at HWD
              go_wp2_with fail
              refine (HL.out _ (Below.refl _ _)).mono ?_
              rintro e w6 ⟨tl, rfl, htl, hb6⟩
              obtain rfl : tl = t := Dg.bext (by rw [htl, HTT.out])
              have hte : (tl.toList == tl.toList) = true := by simp
              have HB6 := hid (bw_t (bw_t HB5.out HBR.out) hb6)
              clear hb6 htl
              rcases HFO.out with ⟨rfl, i, hi, rfl, hw⟩ | ⟨rfl, rfl, hw⟩
              · have hz : z = (i : Int) := by
                  rcases HZ.out with ⟨h1, h2⟩ | ⟨i1, h1, h2, h3⟩
                  · exact absurd hw (h2 i hi)
                  · rw [h2, wd_inj i1 i (by omega) hi (by rw [h3, hw])]
                subst hz
                have hi0 : (0 : Int) ≤ (i : Int) := by omega
                clear hw
                go_wp2_with fail
                refine (HWD.out _).mono ?_
                rintro e w7 ⟨rfl, hb7⟩
                have HB7 := hid (bw_t HB6.out hb7)
                clear hb7
                go_wp2_with fail
                go_ret
                exact ⟨by simp, HB7.out⟩
              · have hz : z = -1 := by
                  rcases HZ.out with ⟨h1, h2⟩ | ⟨i1, h1, h2, h3⟩
                  · exact h1
                  · exact absurd h3 (hw i1 h1)
                subst hz
                clear hw
                go_wp2_with fail
                refine (HWD.out _).mono ?_
                rintro e w7 ⟨rfl, hb7⟩
                have HB7 := hid (bw_t HB6.out hb7)
                clear hb7
                go_wp2_with fail
                go_ret
                exact ⟨by simp, HB7.out⟩
        ·
          go_wp2_with fail
          refine (rwords_any _).mono ?_
          rintro e w3 ⟨rfl, hb3⟩
          have HB3 := hid (bw_a (bw_t HBQ.out hb3) (.cells WLIT 34))
          have hlit := Blk.new w3 34 WLIT
          have hbt := bw_a hb3 (.cells WLIT 34)
          go_wp2_with (first
            | (refine wpList_alloc_lit rfl 34 rfl _ (alloc21 w3) ?_)
            | (refine wpList_store_lit rfl 34 _ _ rfl (store21 w3) ?_; obtain ⟨w4, hw4⟩ : ∃ w4, w3.alloc (.cells WLIT 34) = w4 := ⟨_, rfl⟩; rw [hw4] at HB3 hlit hbt ⊢; have HW4 := hid hw4; have HLIT := hid hlit; have HBT := hid hbt; clear hw4 hlit hbt))
          have hlt4 := HLIT.out.lt
          refine (derrno_any s _).mono ?_
          rintro e w5 ⟨her, hb5⟩
          have HB5 := hid (bw_t HB3.out hb5)
          have HLIT5 := hid (HLIT.out.below hb5 hlt4)
          have HBT5 := hid (bw_t HBT.out hb5)
          skip
          have hf : (∃ i : Nat, i < 21 ∧ e = .returned (.tuple #[.int .i64 (i : Int), .bool true]) ∧ WD.getD i ⟨#[]⟩ = s) ∨ (e = .returned (.tuple #[.int .i64 0, .bool false]) ∧ ∀ j < 21, WD.getD j ⟨#[]⟩ ≠ s) := by
            rcases her with ⟨i, h1, h2, h3, -⟩ | h
            · exact .inl ⟨i, h1, h2, h3⟩
            · exact .inr h
          have hee : ∃ (fv : Int) (ok : Bool), e = .returned (.tuple #[.int .i64 fv, .bool ok]) ∧ ((ok = true ∧ ∃ i : Nat, i < 21 ∧ fv = (i : Int) ∧ WD.getD i ⟨#[]⟩ = s) ∨ (ok = false ∧ fv = 0 ∧ ∀ j < 21, WD.getD j ⟨#[]⟩ ≠ s)) := by
            rcases hf with ⟨i, h1, h2, h3⟩ | ⟨h1, h2⟩
            · exact ⟨i, true, h2, .inl ⟨rfl, i, h1, rfl, h3⟩⟩
            · exact ⟨0, false, h1, .inr ⟨rfl, rfl, h2⟩⟩
          clear hf her
          obtain ⟨fv, ok, rfl, hfo⟩ := hee
          have HFO := hid hfo
          clear hb5 hfo
          go_wp2_with fail
          obtain ⟨wy, rfl⟩ : ∃ z, z = w5 := ⟨_, rfl⟩
          have HY0 := hid (Below.refl wy.heap.size wy)
          go_loopw [13, 14] (fun iv i wr => ∃ (k : Nat) (z : Int), k ≤ 21 ∧ i = .int .i64 (k : Int) ∧ iv = .int .i64 z ∧ IsL s k z ∧ Below wy.heap.size wy wr) (fun _ i _ => 21 - (intOf i).toNat)
          case atStart => exact ⟨0, -1, by omega, rfl, rfl, .inl ⟨rfl, fun j hj => by omega⟩, HY0.out⟩
          case round =>
            obtain ⟨k, z, hk, rfl, rfl, hz, hbr⟩ := hrel
            have HZ := hid hz
            have HBR := hid hbr
            clear hz hbr
            by_cases hlt : k < 21
            · have hcell := (HLIT5.out.below HBR.out HLIT5.out.lt).cell k
              rw [wd_cells k hlt] at hcell
              have hki : (k : Int) < 21 := by omega
              have hk0 : (0 : Int) ≤ (k : Int) := by omega
              obtain ⟨x, hx⟩ : ∃ x, WD.getD k ⟨#[]⟩ = x := ⟨_, rfl⟩
              rw [hx] at hcell
              by_cases hxs : x = s
              · have he : (x.toList == s.toList) = true := by rw [str_beq]; simp [hxs]
                have HN := hid (show IsL s (k + 1) (k : Int) from .inr ⟨k, by omega, rfl, by rw [hx, hxs]⟩)
                clear hxs hx
                go_wp2_with fail
                go_roundw
                case rel => exact ⟨k + 1, _, by omega, by go_num, rfl, HN.out, HBR.out⟩
                case measure => simp [intOf] <;> omega
              · have he : (x.toList == s.toList) = false := by rw [str_beq]; simp [hxs]
                have HN := hid (show IsL s (k + 1) z from by
                  rcases HZ.out with ⟨h1, h2⟩ | ⟨i, h1, h2, h3⟩
                  · refine .inl ⟨h1, fun j hj => ?_⟩
                    rcases Nat.lt_or_ge j k with h | h
                    · exact h2 j h
                    · obtain rfl : j = k := by omega
                      rw [hx]; exact hxs
                  · exact .inr ⟨i, by omega, h2, h3⟩)
                clear hxs hx
                go_wp2_with fail
                go_roundw
                case rel => exact ⟨k + 1, _, by omega, by go_num, rfl, HN.out, HBR.out⟩
                case measure => simp [intOf] <;> omega
            · obtain rfl : k = 21 := by omega
              have hkn : ¬ ((21 : Nat) : Int) < 21 := by omega
              have HL := hid (fun W (h : Below wr.heap.size wr W) => dlines_any X n A c W HN0.out (by omega) HOK.out HSZ.out (HT.out.below (bw_t (bw_t HB5.out HBR.out) h)) (HS.out.below (bw_t (bw_t HB5.out HBR.out) h)))
              have HWD := hid (fun W => dword_any e0 W he1 he2)
              rw [hw0] at HWD
              go_wp2_with fail
              refine (HL.out _ (Below.refl _ _)).mono ?_
              rintro e w6 ⟨tl, rfl, htl, hb6⟩
              obtain rfl : tl = t := Dg.bext (by rw [htl, HTT.out])
              have hte : (tl.toList == tl.toList) = true := by simp
              have HB6 := hid (bw_t (bw_t HB5.out HBR.out) hb6)
              clear hb6 htl
              rcases HFO.out with ⟨rfl, i, hi, rfl, hw⟩ | ⟨rfl, rfl, hw⟩
              · have hz : z = (i : Int) := by
                  rcases HZ.out with ⟨h1, h2⟩ | ⟨i1, h1, h2, h3⟩
                  · exact absurd hw (h2 i hi)
                  · rw [h2, wd_inj i1 i (by omega) hi (by rw [h3, hw])]
                subst hz
                have hi0 : (0 : Int) ≤ (i : Int) := by omega
                clear hw
                go_wp2_with fail
                refine (HWD.out _).mono ?_
                rintro e w7 ⟨rfl, hb7⟩
                have HB7 := hid (bw_t HB6.out hb7)
                clear hb7
                go_wp2_with fail
                go_ret
                exact ⟨by simp, HB7.out⟩
              · have hz : z = -1 := by
                  rcases HZ.out with ⟨h1, h2⟩ | ⟨i1, h1, h2, h3⟩
                  · exact h1
                  · exact absurd h3 (hw i1 h1)
                subst hz
                clear hw
                go_wp2_with fail
                refine (HWD.out _).mono ?_
                rintro e w7 ⟨rfl, hb7⟩
                have HB7 := hid (bw_t HB6.out hb7)
                clear hb7
                go_wp2_with fail
                go_ret
                exact ⟨by simp, HB7.out⟩
end Go.Proofs.YtdbbapedimnjhaaDoor
