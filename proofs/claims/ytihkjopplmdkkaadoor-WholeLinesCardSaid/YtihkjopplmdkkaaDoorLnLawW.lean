/- WholeLines: a walk. -/
import Derived.Test.YtihkjopplmdkkaaDoorLnZ
import Derived.Test.YtihkjopplmdkkaaDoorLnO
set_option linter.unusedVariables false
namespace Go.Proofs.YtihkjopplmdkkaaDoor
open Go.RowKit
set_option maxRecDepth 100000 in
set_option maxHeartbeats 8000000 in
theorem wholeLines_any (L : List ByteArray) (n : Nat) (A : Option Addr) (c : Nat) (bs : List UInt8) (nb : Nat) (B : Option Addr) (d : Nat) (rm : ByteArray) (w : World) (hn : L.length = n) (hL : SlN w A n c 1 (L.flatMap fun s => [.string s])) (hsz : ∀ s ∈ L, s.size ≤ 9223372036854775807) (hb : bs.length = nb) (hB : Sl w B d (bs.map bv)) (hrz : rm.size ≤ 9223372036854775807) :
    Calls Tryd.prog 10 #[.slice A n c, .slice B nb d, .string rm] w fun e w' => e = .returned (.bool true) ∧ Below w.heap.size w w' := by
  obtain ⟨m, hm⟩ : ∃ m, rm.data.toList = m := ⟨_, rfl⟩
  obtain ⟨i0, hi0, hz0, hz1, hz2⟩ := info_parts Tryd.infoLn
  have hcol : ∀ k, colN bs k = if k < bs.length then (bs.getD k 0).toNat % 100 else 0 := fun k => by
    unfold colN
    split
    · rfl
    · rw [List.getD_eq_getElem?_getD, List.getElem?_eq_none (by omega)]; rfl
  have hbc : ∀ k, k < bs.length → ∃ g o, B = some ⟨g, o, none⟩ ∧ g < w.heap.size ∧ w.cell? ⟨g, o + k, none⟩ = some (.int .u8 ((bs.getD k 0).toNat : Int)) := fun k hk => by
    have hk2 : (bs.map bv)[k]? = some (bv (bs.getD k 0)) := by rw [List.getElem?_map, List.getElem?_eq_getElem hk, List.getD_eq_getElem?_getD, List.getElem?_eq_getElem hk]; rfl
    obtain ⟨g, o, h1, h2, h3⟩ := hB.rd k _ hk2
    exact ⟨g, o, h1, h2, h3⟩
  have hlc : ∀ k, k < L.length → ∃ g o, A = some ⟨g, o, none⟩ ∧ g < w.heap.size ∧ w.cell? ⟨g, o + k, none⟩ = some (.string (L.getD k ⟨#[]⟩)) := fun k hk => by
    obtain ⟨g, o, h1, h2, h3⟩ := hL.rd k (.string (L.getD k ⟨#[]⟩)) (by rw [flat_one, List.getElem?_map, List.getElem?_eq_getElem hk, List.getD_eq_getElem?_getD, List.getElem?_eq_getElem hk]; rfl)
    exact ⟨g, o, h1, h2, h3⟩
  have hlz : ∀ k, k < L.length → (L.getD k ⟨#[]⟩).size ≤ 9223372036854775807 := fun k hk => by
    rw [List.getD_eq_getElem?_getD, List.getElem?_eq_getElem hk]
    exact hsz _ (List.getElem_mem hk)
  have hbcap := hB.cap
  have hbsm := hB.small
  simp only [List.length_map] at hbcap
  have HCOL := hid hcol
  have HBC := hid hbc
  have HLC := hid hlc
  have HLZ := hid hlz
  have HNL := hid hn
  have HNB := hid hb
  rw [hb] at hbcap
  clear hcol hbc hlc hlz hsz
  have hmz : rm.size = m.length := by rw [Lib.size_eq, hm]
  have HLV := hid (awake17_any w)
  have hnc := hL.cap
  have hcs := hL.small

  clear hL hB hn hb
  by_cases h5 : 20 < n
  · clear hm
    generalize m.length = mz at *
    go_enter Tryd.func10, Tryd.ntmps10
    go_wp2_with fail
    refine HLV.out.mono ?_
    rintro e w1 ⟨rfl, hb1⟩
    go_wp2_with fail
    go_ret
    exact ⟨rfl, hb1⟩
  by_cases h6 : 100 < m.length
  · clear hm
    generalize m.length = mz at *
    go_enter Tryd.func10, Tryd.ntmps10
    go_wp2_with fail
    refine HLV.out.mono ?_
    rintro e w1 ⟨rfl, hb1⟩
    go_wp2_with fail
    go_ret
    exact ⟨rfl, hb1⟩
  have hck := fun W => check_any rm m 100 W hm (by omega) (by omega) (by omega)
  have hce : checkI m.length (scan m 0).2 100 = 0 → VT m := fun h => by
    unfold checkI at h
    rw [if_neg (by omega)] at h
    unfold VT
    cases hs : (scan m 0).2 with
    | none => rfl
    | some k => rw [hs] at h; simp at h
  have HCK := hid hck
  have HCE := hid hce
  have HM := hid hm
  clear hck hce hm
  generalize checkI m.length (scan m 0).2 100 = ck at *
  by_cases h0 : ck = 0
  · subst h0
    have HVM := hid (HCE.out rfl)
    generalize hmn : m.length = mz at *
    have HMN := hid hmn
    clear hmn HCE
    go_enter Tryd.func10, Tryd.ntmps10
    go_wp2_with fail
    refine HLV.out.mono ?_
    rintro e w1 ⟨rfl, hb1⟩
    have HB1 := hid hb1
    clear hb1
    go_wp2_with fail
    refine (HCK.out _).mono ?_
    rintro e w2 ⟨rfl, hb2⟩
    have HB2 := hid (bw_t HB1.out hb2)
    clear hb2
    go_wp2_with fail
    go_loop [7] (fun i => ∃ k : Nat, k ≤ mz ∧ i = .int .i64 (k : Int) ∧ dirtyL m = dirtyL (m.drop k)) (fun i => mz - (intOf i).toNat)
    case atStart => exact ⟨0, by omega, rfl, by simp⟩
    case round =>
      obtain ⟨k, hk, rfl, hsc⟩ := hrel
      have HC := hid hsc
      clear hsc
      by_cases hlt : k < mz
      · obtain ⟨ch, r, hd⟩ := str_cons HMN.out hlt
        obtain ⟨hi, hg⟩ := str_at HM.out hd
        have hx := ch.toNat_lt
        have hdnx := drop_next hd
        have hst : dirtyL (ch :: r) = (hidN ch.toNat || dirtyL r) := rfl
        generalize ch.toNat = x at *
        have HD := hid hd
        have HDX := hid hdnx
        have HST := hid hst
        clear hd hdnx hst
        by_cases h1 : x < 32
        · go_wp2_with fail
          go_ret
          exact ⟨rfl, HB2.out⟩
        by_cases h2 : x = 127
        · have q : ((x : Int) == 127) = true := by simp [h2]
          clear h2
          go_wp2_with fail
          go_ret
          exact ⟨rfl, HB2.out⟩
        · have HH := hid (show hidN x = false from by simp [hidN]; omega)
          have q : ((x : Int) == 127) = false := by simp; omega
          go_wp2_with fail
          go_round
          case rel => exact ⟨k + 1, by omega, by go_num, by rw [HC.out, HD.out, HST.out, HH.out, HDX.out]; rfl⟩
          case measure => simp [intOf] <;> omega
      · have HDM := hid (show dirtyL m = false from by rw [HC.out, List.drop_eq_nil_of_le (by have := HMN.out; omega)]; rfl)
        clear HC
        go_wp2_with fail
        go_loopw [8, 9] (fun v i W => ∃ (k : Nat) (ov : Value), k ≤ n ∧ i = .int .i64 (k : Int) ∧ ov = v ∧ W.ownsRow w.heap.size 39 3 ov k ((wRow m L bs k).flatMap lcC) ∧ Below w.heap.size w W ∧ ∀ j, j < k → VT (L.getD j ⟨#[]⟩).data.toList ∧ (L.getD j ⟨#[]⟩).data.toList.length ≤ 1000) (fun _ i _ => n - (intOf i).toNat)
        case atStart => exact ⟨0, _, by omega, rfl, rfl, World.ownsRow_nil _ _ _ _, HB2.out, fun j hj => absurd hj (Nat.not_lt_zero _)⟩
        case round =>
          obtain ⟨k, ov, hk, rfl, rfl, ho, hbe, htx⟩ := hrel
          have HO := hid ho
          have HBE := hid hbe
          have HTX := hid htx
          clear ho hbe htx
          by_cases hlt : k < n
          · have hkl : k < L.length := by have := HNL.out; omega
            obtain ⟨g, o, rfl, hg, s0⟩ := HLC.out k hkl
            have t0 := (HBE.out.cell (p := ⟨g, o + k, none⟩) hg).trans s0
            have hxz := HLZ.out k hkl
            have hnx : VT (L.getD k ⟨#[]⟩).data.toList ∧ (L.getD k ⟨#[]⟩).data.toList.length ≤ 1000 → ∀ j, j < k + 1 → VT (L.getD j ⟨#[]⟩).data.toList ∧ (L.getD j ⟨#[]⟩).data.toList.length ≤ 1000 := fun h j hj => by
              rcases Nat.lt_or_ge j k with h1 | h1
              · exact HTX.out j h1
              · obtain rfl : j = k := by omega
                exact h
            have hrw : wRow m L bs (k + 1) = wRow m L bs k ++ [(k + 1, colN bs k, puL (L.getD k ⟨#[]⟩).data.toList ++ 32 :: 35 :: m)] := rfl
            have HNX := hid hnx
            have HRW := hid hrw
            have hgz : g < wr.heap.size := by have := HBE.out.size; omega
            clear hnx hrw s0 HTX
            generalize L.getD k ⟨#[]⟩ = x at *
            obtain ⟨xs, hx⟩ : ∃ xs, x.data.toList = xs := ⟨_, rfl⟩
            rw [hx] at HNX HRW
            have hxs : x.size = xs.length := by rw [Lib.size_eq, hx]
            have HX := hid hx
            clear hx hkl
            have hki : (k : Int) < (n : Int) := by omega
            have hk0 : (0 : Int) ≤ (k : Int) := by omega
            by_cases h1 : 1000 < xs.length
            · have h1' : 1000 < (xs.length : Int) := by omega
              go_wp2_with fail
              go_ret
              exact ⟨rfl, HBE.out⟩
            · have h1' : ¬ 1000 < (xs.length : Int) := by omega
              have hfi := fun W => first_any x xs W HX.out (by omega)
              have hpu := fun W => sPut_any x xs W HX.out (by omega)
              have hpl := puL_le xs
              cases hsc : (scan xs 0).2 with
              | some p =>
                rw [hsc] at hfi
                have HFI := hid hfi
                clear hfi hpu hsc
                go_wp2_with fail
                refine (HFI.out _).mono ?_
                rintro e w4 ⟨rfl, hb4⟩
                simp only [placeI]
                go_wp2_with fail
                go_ret
                exact ⟨rfl, bw_t HBE.out hb4⟩
              | none =>
                rw [hsc] at hfi
                have HFI := hid hfi
                have HPU := hid hpu
                have HVX := hid (show VT xs from hsc)
                have hcc := HCOL.out k
                clear hfi hpu hsc
                go_wp2_with fail
                refine (HFI.out _).mono ?_
                rintro e w4 ⟨rfl, hb4⟩
                simp only [placeI]
                have t4 := (hb4.cell (p := ⟨g, o + k, none⟩) hgz).trans t0
                have HB4 := hid (bw_t HBE.out hb4)
                have HO4 := hid (own_below HO.out hb4)
                have hgz4 : g < w4.heap.size := by have := hb4.size; omega
                clear hb4 t0
                by_cases hkb : k < nb
                · obtain ⟨g2, o2, rfl, hg2, c0⟩ := HBC.out k (by have := HNB.out; omega)
                  have c4 := (HB4.out.cell (p := ⟨g2, o2 + k, none⟩) hg2).trans c0
                  rw [if_pos (by have := HNB.out; omega)] at hcc
                  have hxb := (bs.getD k 0).toNat_lt
                  generalize (bs.getD k 0).toNat = xb at *
                  have hkbi : (k : Int) < (nb : Int) := by omega
                  have hwx : IntKind.i64.wrap (xb : Int) = (xb : Int) := IntWalk.i64_in _ (by omega)
                  have htm : (xb : Int).tmod 100 = ((xb % 100 : Nat) : Int) := by rw [Int.tmod_eq_emod_of_nonneg (by omega)]; omega
                  have hwm : IntKind.i64.wrap ((xb % 100 : Nat) : Int) = ((xb % 100 : Nat) : Int) := IntWalk.i64_in _ (by omega)
                  have HCC := hid hcc
                  clear hcc c0
                  go_wp2_with fail
                  refine (HPU.out _).mono ?_
                  rintro e w5 ⟨t, rfl, ht, hb5⟩
                  have htz : t.size = (puL xs).length := by rw [Lib.size_eq, ht]
                  have HT := hid ht
                  have HB5 := hid (bw_t HB4.out hb5)
                  have HO5 := hid (own_below HO4.out hb5)
                  clear hb5 ht
                  have hz1' : ¬ 9223372036854775807 < t.size + 2 := by omega
                  have hz2' : (t ++ ⟨#[32, 35]⟩ : ByteArray).size = t.size + 2 := by simp; rfl
                  have hz3' : ¬ 9223372036854775807 < t.size + 2 + mz := by omega
                  have HY := hid (str_mk (t ++ ⟨#[32, 35]⟩ ++ rm) (puL xs ++ 32 :: 35 :: m) (by rw [app_data, app_data, HT.out, HM.out]; simp))
                  have hwk : IntKind.i64.wrap ((k : Int) + 1) = (k : Int) + 1 := IntWalk.i64_in _ (by omega)
                  have hsz5 := HB5.out.size
                  go_wp2_with (at_builtin; refine wpList_append_rd rfl (.tmp 77) (.tmp 90) 23 rfl w.heap.size 39 i0 (.agg #[.int .i64 0, .int .i64 0, .string ⟨#[]⟩]) 3 32 Tryd.underlying23 hi0 hz0 hz1 hz2 rfl (by decide) _ _ _ rfl (own_below HO5.out (bw_a (Below.refl _ w5) (.cells #[.int .i64 ((k : Int) + 1), .int .i64 ((xb : Int) % 100), .string (t ++ ⟨#[32, 35]⟩ ++ rm)] 39))) (some ⟨w5.heap.size, 0, none⟩) 1 1 [.int .i64 ((k : Int) + 1), .int .i64 ((xb : Int) % 100), .string (t ++ ⟨#[32, 35]⟩ ++ rm)] rfl rfl (Rd.new w5 39 #[.int .i64 ((k : Int) + 1), .int .i64 ((xb : Int) % 100), .string (t ++ ⟨#[32, 35]⟩ ++ rm)]) (fun h => by cases h) (by simp [Value.oneCell']) (by simp only [maxLen]; omega) (by omega) (by simp; omega) ?_; intro v2 w6 hown2 hgrow2)
                  have HOW := hid hown2
                  have HB6 := hid (HB5.out.trans ((((Chg.refl (fun y => some y = ov.ownBlock) w5).alloc _).trans (Chg.of_grown hgrow2 (fun g e => e.symm))).below (B := w.heap.size) (fun y hy => (HO5.out.lt y hy.symm).1) hsz5))
                  clear hown2 hgrow2
                  go_wp2_with fail
                  go_roundw
                  case rel =>
                    refine ⟨k + 1, _, by omega, by go_num, rfl, ?_, HB6.out, HNX.out ⟨HVX.out, by omega⟩⟩
                    rw [HRW.out, List.flatMap_append, List.flatMap_cons, List.flatMap_nil, List.append_nil, HCC.out]
                    have h := HOW.out
                    unfold lcC at h ⊢
                    simp only
                    rw [show ((k + 1 : Nat) : Int) = (k : Int) + 1 from by omega, show ((xb % 100 : Nat) : Int) = (xb : Int) % 100 from by omega, ← HY.out]
                    exact h
                  case measure => simp [intOf] <;> omega
                · have hkbi : ¬ (k : Int) < (nb : Int) := by omega
                  rw [if_neg (by have := HNB.out; omega)] at hcc
                  have HCC := hid hcc
                  clear hcc
                  go_wp2_with fail
                  refine (HPU.out _).mono ?_
                  rintro e w5 ⟨t, rfl, ht, hb5⟩
                  have htz : t.size = (puL xs).length := by rw [Lib.size_eq, ht]
                  have HT := hid ht
                  have HB5 := hid (bw_t HB4.out hb5)
                  have HO5 := hid (own_below HO4.out hb5)
                  clear hb5 ht
                  have hz1' : ¬ 9223372036854775807 < t.size + 2 := by omega
                  have hz2' : (t ++ ⟨#[32, 35]⟩ : ByteArray).size = t.size + 2 := by simp; rfl
                  have hz3' : ¬ 9223372036854775807 < t.size + 2 + mz := by omega
                  have HY := hid (str_mk (t ++ ⟨#[32, 35]⟩ ++ rm) (puL xs ++ 32 :: 35 :: m) (by rw [app_data, app_data, HT.out, HM.out]; simp))
                  have hwk : IntKind.i64.wrap ((k : Int) + 1) = (k : Int) + 1 := IntWalk.i64_in _ (by omega)
                  have hsz5 := HB5.out.size
                  go_wp2_with (at_builtin; refine wpList_append_rd rfl (.tmp 77) (.tmp 90) 23 rfl w.heap.size 39 i0 (.agg #[.int .i64 0, .int .i64 0, .string ⟨#[]⟩]) 3 32 Tryd.underlying23 hi0 hz0 hz1 hz2 rfl (by decide) _ _ _ rfl (own_below HO5.out (bw_a (Below.refl _ w5) (.cells #[.int .i64 ((k : Int) + 1), .int .i64 0, .string (t ++ ⟨#[32, 35]⟩ ++ rm)] 39))) (some ⟨w5.heap.size, 0, none⟩) 1 1 [.int .i64 ((k : Int) + 1), .int .i64 0, .string (t ++ ⟨#[32, 35]⟩ ++ rm)] rfl rfl (Rd.new w5 39 #[.int .i64 ((k : Int) + 1), .int .i64 0, .string (t ++ ⟨#[32, 35]⟩ ++ rm)]) (fun h => by cases h) (by simp [Value.oneCell']) (by simp only [maxLen]; omega) (by omega) (by simp; omega) ?_; intro v2 w6 hown2 hgrow2)
                  have HOW := hid hown2
                  have HB6 := hid (HB5.out.trans ((((Chg.refl (fun y => some y = ov.ownBlock) w5).alloc _).trans (Chg.of_grown hgrow2 (fun g e => e.symm))).below (B := w.heap.size) (fun y hy => (HO5.out.lt y hy.symm).1) hsz5))
                  clear hown2 hgrow2
                  go_wp2_with fail
                  go_roundw
                  case rel =>
                    refine ⟨k + 1, _, by omega, by go_num, rfl, ?_, HB6.out, HNX.out ⟨HVX.out, by omega⟩⟩
                    rw [HRW.out, List.flatMap_append, List.flatMap_cons, List.flatMap_nil, List.append_nil, HCC.out]
                    have h := HOW.out
                    unfold lcC at h ⊢
                    simp only
                    rw [show ((k + 1 : Nat) : Int) = (k : Int) + 1 from by omega, show ((0 : Nat) : Int) = 0 from rfl, ← HY.out]
                    exact h
                  case measure => simp [intOf] <;> omega
          · obtain rfl : k = n := by omega
            obtain ⟨Av, cv, rfl⟩ := row_sl HO.out
            have hl1000 := fun j hj => (HTX.out j hj).2
            have hm100 : m.length ≤ 100 := by have := HMN.out; omega
            have hj := ljoin_any (wRow m L bs k) k Av cv _ wr (wRow_len _ _ _ _) (by omega) (wRow_mem hl1000 hm100) HO.out
            have hjl := wRow_jlen (m := m) (L := L) (bs := bs) (k := k) hl1000 hm100
            have hal := fun (t : ByteArray) (ht : t.data.toList = jnL (wRow m L bs k)) W => lall_any t (jnL (wRow m L bs k)) W ht (by omega)
            obtain ⟨X2, hx2, hl2, hat2⟩ := all_put HVM.out HDM.out (T := wT L bs k) (fun p hp => by
              obtain ⟨j, hj, rfl⟩ := List.getElem_of_mem hp
              have h := wT_at L bs k j (by rwa [wT_len] at hj)
              rw [List.getElem?_eq_getElem hj] at h
              injection h with h
              rw [h]; exact (HTX.out j (by rwa [wT_len] at hj)).1)
            rw [← wRow_jn] at hx2
            rw [wT_len] at hl2
            unfold LAR at hal
            rw [hx2] at hal
            simp only at hal
            rw [hl2] at hal
            have hxa : ∀ j (hj : j < k) (hj' : j < X2.length), X2[j] = (j + 1, colN bs j, puL (L.getD j ⟨#[]⟩).data.toList) := fun j hj hj' => by
              rw [hat2 j (by rw [wT_len]; exact hj) hj']
              have h := wT_at L bs k j hj
              rw [List.getElem?_eq_getElem (by rw [wT_len]; exact hj)] at h
              injection h with h
              rw [h]
            have hwa : ∀ j (hj : j < k) (hj' : j < (wRow m L bs k).length), (wRow m L bs k)[j] = (j + 1, colN bs j, puL (L.getD j ⟨#[]⟩).data.toList ++ 32 :: 35 :: m) := fun j hj hj' => by
              have h := wRow_at m L bs k j hj
              rw [List.getElem?_eq_getElem hj'] at h
              injection h
            have hrd : ∀ j, j < k → ∀ (y : ByteArray) W, y.data.toList = puL (L.getD j ⟨#[]⟩).data.toList → Calls Tryd.prog 21 #[.string y] W fun e w' => e = .returned (.tuple #[.string (L.getD j ⟨#[]⟩), .int .i64 0]) ∧ Below W.heap.size W w' := fun j hj y W hy => by
              have h1 := HTX.out j hj
              have h2 := puL_le (L.getD j ⟨#[]⟩).data.toList
              have hck : checkI (L.getD j ⟨#[]⟩).data.toList.length (scan (L.getD j ⟨#[]⟩).data.toList 0).2 4096 = 0 := by
                have hv : (scan (L.getD j ⟨#[]⟩).data.toList 0).2 = none := h1.1
                rw [hv]; unfold checkI; rw [if_neg (by omega)]; rfl
              refine (sRead_any y _ W hy (by omega)).mono fun e w' h => ?_
              obtain ⟨t, g1, g2, g3⟩ := h
              rw [rdE_pu, hck] at g1
              rw [rdT_pu, if_pos hck] at g2
              exact ⟨by rw [g1, show t = L.getD j ⟨#[]⟩ from str_ext g2 rfl], g3⟩
            have HRD := hid hrd
            have HXA := hid hxa
            have HWA := hid hwa
            have HL2 := hid hl2
            have HJ := hid hj
            have HAL := hid hal
            clear hrd hxa hwa hat2 hx2 hl2 hj hal hjl hl1000 HTX HB2 HB1
            go_wp2_with fail
            refine HJ.out.mono ?_
            rintro e w5 ⟨t, rfl, ht, hb5⟩
            have HT := hid ht
            clear ht
            go_wp2_with fail
            refine (HAL.out t HT.out _).mono ?_
            rintro e w6 ⟨A2, c2, rfl, hr2, hb6⟩
            have hb56 := bw_t hb5 hb6
            have HRO6 := hid (own_below HO.out hb56)
            have HB6 := hid (bw_t HBE.out hb56)
            have HR2 := hid hr2
            clear hr2 hb5 hb6 hb56 HT
            go_wp2_with fail
            have hra := own_below HRO6.out (bw_a (Below.refl _ w6) (.cells #[.int .i64 0, .int .i64 0] 26))
            have hrb := own_below HR2.out (bw_a (Below.refl _ w6) (.cells #[.int .i64 0, .int .i64 0] 26))
            have hb7 := bw_a HB6.out (.cells #[.int .i64 0, .int .i64 0] 26)
            generalize w6.alloc (.cells #[.int .i64 0, .int .i64 0] 26) = W7 at *
            have HRA := hid hra
            have HRB := hid hrb
            have HB7 := hid hb7
            clear hra hrb hb7 HRO6 HR2 HB6 HO HBE
            go_loopw [13] (fun i W => ∃ j : Nat, j ≤ k ∧ i = .int .i64 (j : Int) ∧ Below W7.heap.size W7 W) (fun i _ => k - (intOf i).toNat)
            case atStart => exact ⟨0, by omega, rfl, Below.refl _ _⟩
            case round =>
              obtain ⟨j, hj, rfl, hB⟩ := hrel
              by_cases hlj : j < k
              · have hj2 : j < X2.length := by have := HL2.out; omega
                have hj3 : j < (wRow m L bs k).length := by rw [wRow_len]; exact hlj
                obtain ⟨b1, o1, rfl, hb1, -, s0, s1, s2⟩ := row3_at (own_below HRA.out hB) (wRow_len m L bs k) j hj3
                obtain ⟨b2, o2, rfl, hb2, -, t0, t1, t2⟩ := row3_at (own_below HRB.out hB) HL2.out j hj2
                obtain ⟨g3, o3, rfl, hg3, u0⟩ := HLC.out j (by have := HNL.out; omega)
                have u1 := ((HB7.out.trans (hB.mono (by have := HB7.out.size; omega))).cell (p := ⟨g3, o3 + j, none⟩) hg3).trans u0
                have hg3' : g3 < wr.heap.size := by have := HB7.out.size; have := hB.size; omega
                rw [HWA.out j hlj hj3] at s1
                rw [HXA.out j hlj hj2] at t0 t1 t2
                simp only at s1 t0 t1 t2
                obtain ⟨y, hy⟩ : ∃ y : ByteArray, y = ⟨(puL (L.getD j ⟨#[]⟩).data.toList).toArray⟩ := ⟨_, rfl⟩
                rw [← hy] at t2
                have hrd := fun W => HRD.out j hlj y W (by rw [hy])
                have HRJ := hid hrd
                clear hrd hy s0 s2 u0 hj2 hj3
                generalize L.getD j ⟨#[]⟩ = x at *
                generalize colN bs j = cj at *
                rw [Int.natCast_add, Int.natCast_one] at t0
                have hki : (j : Int) < (k : Int) := by omega
                have hk0 : (0 : Int) ≤ (j : Int) := by omega
                have hwj : IntKind.i64.wrap ((j : Int) + 1) = (j : Int) + 1 := IntWalk.i64_in _ (by omega)
                have HBE := hid hB
                clear hB
                go_wp2_with fail
                refine (HRJ.out _).mono ?_
                rintro e w8 ⟨rfl, hb8⟩
                have v1 := (hb8.cell (p := ⟨b1, o1 + j * 3 + 1, none⟩) hb1).trans s1
                have v2 := (hb8.cell (p := ⟨b2, o2 + j * 3, none⟩) hb2).trans t0
                have v3 := (hb8.cell (p := ⟨b2, o2 + j * 3 + 1, none⟩) hb2).trans t1
                have v4 := (hb8.cell (p := ⟨g3, o3 + j, none⟩) hg3').trans u1
                have HB8 := hid (bw_t HBE.out hb8)
                clear hb8 s1 t0 t1 t2 u1
                go_wp2_with fail
                go_quiet (fail)
                go_wp2_with fail
                go_roundw
                case rel => exact ⟨j + 1, by omega, by go_num, bw_d HB8.out _⟩
                case measure => simp [intOf]; omega
              · obtain rfl : j = k := by omega
                have HBE := hid hB
                clear hB
                go_wp2_with fail
                go_ret
                exact ⟨rfl, bw_t HB7.out HBE.out⟩
  · have q : (ck == 0) = false := by simpa using h0
    have q2 : (ck != 0) = true := by simpa using h0
    generalize m.length = mz at *
    go_enter Tryd.func10, Tryd.ntmps10
    go_wp2_with fail
    refine HLV.out.mono ?_
    rintro e w1 ⟨rfl, hb1⟩
    have HB1 := hid hb1
    clear hb1
    go_wp2_with fail
    refine (HCK.out _).mono ?_
    rintro e w2 ⟨rfl, hb2⟩
    have HB2 := hid (bw_t HB1.out hb2)
    clear hb2
    go_wp2_with fail
    go_ret
    exact ⟨rfl, HB2.out⟩
end Go.Proofs.YtihkjopplmdkkaaDoor
