/- LineJoins: a walk. -/
import Derived.Test.YtihkjopplmdkkaaDoorLnO
import Derived.Test.YtihkjopplmdkkaaDoorLnLawR
set_option linter.unusedVariables false
namespace Go.Proofs.YtihkjopplmdkkaaDoor
open Go.RowKit
/-- A line of a row that came in. -/
theorem rowI_at {w : World} {A : Option Addr} {n c : Nat} {X : List (Int × Int × List UInt8)} (h : SlN w A n c 3 (X.flatMap lcI)) (k : Nat) (hk : k < X.length) : ∃ g o, A = some ⟨g, o, none⟩ ∧ g < w.heap.size ∧ w.cell? ⟨g, o + k * 3, none⟩ = some (.int .i64 X[k].1) ∧ w.cell? ⟨g, o + k * 3 + 1, none⟩ = some (.int .i64 X[k].2.1) ∧ w.cell? ⟨g, o + k * 3 + 2, none⟩ = some (.string ⟨X[k].2.2.toArray⟩) := by
  have hf := fun i hi => flat3 lcI (fun _ => rfl) X k hk i hi
  obtain ⟨g, o, h1, h2, h3⟩ := h.rd (k * 3 + 0) _ (hf 0 (by omega))
  obtain ⟨g', o', h4, h5, h6⟩ := h.rd (k * 3 + 1) _ (hf 1 (by omega))
  obtain ⟨g'', o'', h7, h8, h9⟩ := h.rd (k * 3 + 2) _ (hf 2 (by omega))
  have e1 := h1.symm.trans h4
  have e2 := h1.symm.trans h7
  injection e1 with e1
  injection e1 with e1 e1'
  injection e2 with e2
  injection e2 with e2 e2'
  subst e1 e1' e2 e2'
  exact ⟨g, o, h1, h2, h3, h6, h9⟩
theorem again_at {X X' : List (Nat × Nat × List UInt8)} (hl : X'.length = X.length) (h2 : X'.map (fun r => r.2) = X.map (fun r => r.2)) (h1 : X'.map (fun r => r.1) = List.range' 1 X.length) (k : Nat) (hk : k < X.length) (hk' : k < X'.length) : X'[k].1 = k + 1 ∧ X'[k].2 = X[k].2 := by
  have g1 := congrArg (fun l => l[k]?) h1
  have g2 := congrArg (fun l => l[k]?) h2
  simp only [List.getElem?_map, List.getElem?_eq_getElem hk', List.getElem?_eq_getElem hk, Option.map_some, Option.some.injEq] at g1 g2
  rw [List.getElem?_range' hk] at g1
  injection g1 with g1
  exact ⟨by omega, g2⟩
set_option maxRecDepth 100000 in
set_option maxHeartbeats 8000000 in
theorem lineJoins_any (s : ByteArray) (X : List (Int × Int × List UInt8)) (n : Nat) (A : Option Addr) (c : Nat) (w : World) (hl : s.size ≤ 9223372036854775807) (hn : X.length = n) (hX : SlN w A n c 3 (X.flatMap lcI)) :
    Calls Tryd.prog 4 #[.string s, .slice A n c] w fun e w' => e = .returned (.bool true) ∧ Below w.heap.size w w' := by
  obtain ⟨bs, hs⟩ : ∃ bs, s.data.toList = bs := ⟨_, rfl⟩
  have hsz : s.size = bs.length := by rw [Lib.size_eq, hs]
  have HLV := hid (live17_any w)
  have hnc := hX.cap
  have hcs := hX.small
  by_cases h5 : 2000 < bs.length
  · clear hs
    generalize bs.length = m at *
    go_enter Tryd.func4, Tryd.ntmps4
    go_wp2_with fail
    refine HLV.out.mono ?_
    rintro e w1 ⟨rfl, hb1⟩
    go_wp2_with fail
    go_ret
    exact ⟨rfl, hb1⟩
  by_cases h6 : 20 < n
  · clear hs
    generalize bs.length = m at *
    go_enter Tryd.func4, Tryd.ntmps4
    go_wp2_with fail
    refine HLV.out.mono ?_
    rintro e w1 ⟨rfl, hb1⟩
    go_wp2_with fail
    go_ret
    exact ⟨rfl, hb1⟩
  have hrows := fun k hk => rowI_at hX k hk
  have hji := fun W (hW : Below w.heap.size w W) (hx : ∀ r ∈ X, r.2.2.length ≤ 1000000) => ljoinI_any X n A c W hn (by omega) hx (fun k hk => rowI_at (hX.below hW) k hk)
  have hal := fun W => lall_any s bs W hs (by omega)
  have hrl := fun r (h : r ∈ (allL bs).1) => row_le h
  have hx1 := allL_len bs
  obtain ⟨X1, er, at', hR⟩ : ∃ X1 er at', allL bs = (X1, er, at') := ⟨_, _, _, rfl⟩
  unfold LAR at hal
  rw [hR] at hal hrl hx1
  simp only at hal hrl hx1
  have HR := hid hR
  have HRL := hid hrl
  clear hR hrl
  have HROW := hid hrows
  have HJI := hid hji
  have HAL := hid hal
  have HN := hid hn
  clear hrows hji hal hs hX hn
  go_enter Tryd.func4, Tryd.ntmps4
  go_wp2_with fail
  refine HLV.out.mono ?_
  rintro e w1 ⟨rfl, hb1⟩
  have HB1 := hid hb1
  clear hb1
  go_wp2_with fail
  go_loop [5, 6] (fun t i => ∃ (k : Nat) (v : ByteArray), k ≤ n ∧ i = .int .i64 (k : Int) ∧ t = .string v ∧ v.data.toList = jnI (X.take k) ∧ (∀ q (hq : q < X.length), q < k → X[q].2.2.length ≤ 200) ∧ v.size ≤ k * 301) (fun _ i => n - (intOf i).toNat)
  case atStart => exact ⟨0, ⟨#[]⟩, by omega, rfl, rfl, rfl, fun q hq h => absurd h (Nat.not_lt_zero _), by show 0 ≤ _; omega⟩
  case round =>
    obtain ⟨k, v, hk, rfl, rfl, hv, htx, hvs⟩ := hrel
    have HV := hid hv
    have HTX := hid htx
    clear hv htx
    by_cases hlt : k < n
    · have hkl : k < X.length := by have := HN.out; omega
      obtain ⟨g, o, rfl, hg, s0', s1', s2'⟩ := HROW.out k hkl
      have s1 := (HB1.out.cell (p := ⟨g, o + k * 3 + 1, none⟩) hg).trans s1'
      have s2 := (HB1.out.cell (p := ⟨g, o + k * 3 + 2, none⟩) hg).trans s2'
      have htk := jnI_take hkl
      have hnx : X[k].2.2.length ≤ 200 → ∀ q (hq : q < X.length), q < k + 1 → X[q].2.2.length ≤ 200 := fun h q hq hqk => by
        rcases Nat.lt_or_ge q k with h1 | h1
        · exact HTX.out q hq h1
        · obtain rfl : q = k := by omega
          exact h
      have HTK := hid htk
      have HNX := hid hnx
      clear htk hnx s0' s1' s2'
      generalize X[k] = f at *
      obtain ⟨fn, fc, ft⟩ := f
      simp only at s1 s2
      obtain ⟨x, hx⟩ : ∃ x : ByteArray, x = ⟨ft.toArray⟩ := ⟨_, rfl⟩
      have hxd : x.data.toList = ft := by rw [hx]
      have hxz : x.size = ft.length := by rw [Lib.size_eq, hxd]
      rw [← hx] at s2
      have hki : (k : Int) < (n : Int) := by omega
      have hk0 : (0 : Int) ≤ (k : Int) := by omega
      have HXD := hid hxd
      clear hx hxd hkl
      by_cases h2 : 200 < ft.length
      · have h2' : 200 < (ft.length : Int) := by omega
        go_wp2_with fail
        go_ret
        exact ⟨rfl, HB1.out⟩
      · have h2' : ¬ 200 < (ft.length : Int) := by omega
        obtain ⟨m, hm⟩ : ∃ m : Nat, (min (max fc 0) 100).toNat = m := ⟨_, rfl⟩
        have hm3 : m ≤ 100 := by omega
        have HM := hid hm
        clear hm
        go_wp2_with fail
        go_loop [5, 7] (fun t i => ∃ (q : Nat) (v : ByteArray), q ≤ m ∧ i = .int .i64 (q : Int) ∧ t = .string v ∧ v.data.toList = jnI (X.take k) ++ List.replicate q 32 ∧ v.size ≤ k * 301 + q) (fun _ i => m - (intOf i).toNat)
        case atStart => exact ⟨0, v, by omega, rfl, rfl, by rw [HV.out]; simp, by omega⟩
        case round =>
          obtain ⟨q, v, hq, rfl, rfl, hv2, hvs2⟩ := hrel
          have HV2 := hid hv2
          clear hv2
          by_cases hlq : q < m
          · have hqc : (q : Int) < min fc 100 := by have := HM.out; omega
            have hz : ¬ 9223372036854775807 < v.size + 1 := by omega
            go_wp2_with fail
            go_round
            case rel => exact ⟨q + 1, _, by omega, by go_num, rfl, by rw [app_data, HV2.out, List.replicate_succ']; simp, by rw [show (v ++ ⟨#[32]⟩ : ByteArray).size = v.size + 1 from by simp; rfl]; omega⟩
            case measure => simp [intOf] <;> omega
          · have hqc : ¬ (q : Int) < min fc 100 := by have := HM.out; omega
            have hqm : q = m := by omega
            have hz : ¬ 9223372036854775807 < v.size + ft.length := by omega
            have hz2 : ¬ 9223372036854775807 < v.size + ft.length + 1 := by omega
            have hz3 : (v ++ x).size = v.size + ft.length := by simp [hxz]
            have HEQ := hid (show (v ++ x ++ ⟨#[10]⟩ : ByteArray).data.toList = jnI (X.take (k + 1)) from by rw [app_data, app_data, HV2.out, HXD.out, HTK.out]; unfold jLi; simp only; rw [HM.out, hqm]; simp)
            clear hqm
            have hfl : ft.length ≤ 200 := by omega
            have hsz9 : (v ++ x ++ ⟨#[10]⟩ : ByteArray).size ≤ (k + 1) * 301 := by
              have : (v ++ x ++ ⟨#[10]⟩ : ByteArray).size = v.size + x.size + 1 := by simp; rfl
              omega
            have HSZ9 := hid hsz9
            clear hsz9
            go_wp2_with fail
            go_round
            case rel => exact ⟨k + 1, _, by omega, by go_num, rfl, HEQ.out, HNX.out hfl, HSZ9.out⟩
            case measure => simp [intOf] <;> omega
    · obtain rfl : k = n := by omega
      rw [List.take_of_length_le (by have := HN.out; omega)] at HV
      have hxx : ∀ r ∈ X, r.2.2.length ≤ 1000000 := fun r hr => by
        obtain ⟨q, hq, rfl⟩ := List.getElem_of_mem hr
        have := HTX.out q hq (by have := HN.out; omega)
        omega
      have hj := HJI.out w1 HB1.out hxx
      have HJ := hid hj
      clear hj hxx HJI HTX HROW
      go_wp2_with fail
      refine HJ.out.mono ?_
      rintro e w2 ⟨t, rfl, ht, hb2⟩
      have hvt := str_ext HV.out ht
      subst hvt
      have HB2 := hid hb2
      clear ht hb2 HV HJ
      go_wp2_with fail
      refine (HAL.out _).mono ?_
      rintro e w3 ⟨A1, c1, rfl, hr1, hb3⟩
      have HB3 := hid (bw_t (bw_t HB1.out HB2.out) hb3)
      have HR1 := hid hr1
      clear hr1 hb3
      by_cases he : er = 0
      · subst he
        have hag := fun hc => all_again HR.out hc
        have hjl := fun hc => jn_len HR.out hc
        have HAG := hid hag
        have HJL := hid hjl
        clear hag hjl
        go_wp2_with fail
        have hro := own_below HR1.out (bw_a (Below.refl _ w3) (.cells #[.int .i64 0, .int .i64 at'] 26))
        have hb4 := bw_a HB3.out (.cells #[.int .i64 0, .int .i64 at'] 26)
        generalize w3.alloc (.cells #[.int .i64 0, .int .i64 at'] 26) = W4 at *
        have HRO := hid hro
        have HB4 := hid hb4
        clear hro hb4 HB3 HR1 HB2 HB1
        generalize hn1 : X1.length = n1 at *
        have HN1 := hid hn1
        clear hn1
        go_loop [10] (fun i => ∃ q : Nat, q ≤ n1 ∧ i = .int .i64 (q : Int) ∧ ∀ r (hr : r < X1.length), r < q → X1[r].2.1 ≤ 100) (fun i => n1 - (intOf i).toNat)
        case atStart => exact ⟨0, by omega, rfl, fun r hr h => absurd h (Nat.not_lt_zero _)⟩
        case round =>
          obtain ⟨q, hq, rfl, hcs⟩ := hrel
          have HCS := hid hcs
          clear hcs
          by_cases hlq : q < n1
          · have hql : q < X1.length := by have := HN1.out; omega
            obtain ⟨g, o, rfl, hg, -, s0, s1, s2⟩ := row3_at HRO.out HN1.out q hql
            have hnx : X1[q].2.1 ≤ 100 → ∀ r (hr : r < X1.length), r < q + 1 → X1[r].2.1 ≤ 100 := fun h r hr hrq => by
              rcases Nat.lt_or_ge r q with h1 | h1
              · exact HCS.out r hr h1
              · obtain rfl : r = q := by omega
                exact h
            have HNX := hid hnx
            clear hnx s0 s2
            generalize X1[q].2.1 = fc at *
            have hqi : (q : Int) < (n1 : Int) := by omega
            by_cases h1 : fc ≤ 100
            · have h1' : ¬ 100 < (fc : Int) := by omega
              go_wp2_with fail
              go_round
              case rel => exact ⟨q + 1, by omega, by go_num, HNX.out h1⟩
              case measure => simp [intOf] <;> omega
            · have h1' : 100 < (fc : Int) := by omega
              go_wp2_with fail
              go_ret
              exact ⟨rfl, HB4.out⟩
          · obtain rfl : q = n1 := by omega
            have hcx : ∀ r ∈ X1, r.2.1 ≤ 100 := fun r hr => by
              obtain ⟨i, hi, rfl⟩ := List.getElem_of_mem hr
              exact HCS.out i hi (by have := HN1.out; omega)
            obtain ⟨X2, hx2, hl2, hm2, hm1⟩ := HAG.out hcx
            have hjl := HJL.out hcx
            have hj := ljoin_any X1 q A1 c1 _ W4 HN1.out (by omega) (fun r hr => by have := HRL.out r hr; omega) HRO.out
            have hal2 := fun (t : ByteArray) (ht : t.data.toList = jnL X1) W => lall_any t (jnL X1) W ht (by omega)
            unfold LAR at hal2
            rw [hx2] at hal2
            simp only at hal2
            rw [hl2] at hal2
            have hag := fun r (hr : r < X1.length) => again_at (by rw [hl2, HN1.out]) hm2 (by rw [hm1, HN1.out]) r hr
            have HAGA := hid hag
            have HL2 := hid hl2
            have HJ2 := hid hj
            have HAL2 := hid hal2
            clear hj hal2 hm1 hm2 hx2 hl2 hag hcx HCS HAG HJL HAL
            go_wp2_with fail
            refine HJ2.out.mono ?_
            rintro e w5 ⟨t, rfl, ht, hb5⟩
            have HT := hid ht
            clear ht
            go_wp2_with fail
            refine (HAL2.out t HT.out _).mono ?_
            rintro e w6 ⟨A2, c2, rfl, hr2, hb6⟩
            have hb56 := bw_t hb5 hb6
            have HRO6 := hid (own_below HRO.out hb56)
            have HB6 := hid (bw_t HB4.out hb56)
            have HR2 := hid hr2
            clear hr2 hb5 hb6 hb56 HT
            go_wp2_with fail
            have hra := own_below HRO6.out (bw_a (Below.refl _ w6) (.cells #[.int .i64 0, .int .i64 0] 26))
            have hrb := own_below HR2.out (bw_a (Below.refl _ w6) (.cells #[.int .i64 0, .int .i64 0] 26))
            have hb7 := bw_a HB6.out (.cells #[.int .i64 0, .int .i64 0] 26)
            generalize w6.alloc (.cells #[.int .i64 0, .int .i64 0] 26) = W7 at *
            have HRA := hid hra
            have HRB := hid hrb
            have HB7 := hid hb7
            clear hra hrb hb7 HRO6 HR2 HB6 HRO HB4
            go_loopw [13] (fun i wr => ∃ r : Nat, r ≤ q ∧ i = .int .i64 (r : Int) ∧ Below W7.heap.size W7 wr) (fun i _ => q - (intOf i).toNat)
            case atStart => exact ⟨0, by omega, rfl, Below.refl _ _⟩
            case round =>
              obtain ⟨r, hr, rfl, hB⟩ := hrel
              by_cases hlr : r < q
              · have hr1 : r < X1.length := by have := HN1.out; omega
                have hr2 : r < X2.length := by have := HL2.out; omega
                obtain ⟨b1, o1, rfl, hb1, -, s0, s1, s2⟩ := row3_at (own_below HRA.out hB) HN1.out r hr1
                obtain ⟨b2, o2, rfl, hb2, -, t0, t1, t2⟩ := row3_at (own_below HRB.out hB) HL2.out r hr2
                obtain ⟨e1, e2⟩ := HAGA.out r hr1 hr2
                rw [e1] at t0
                rw [e2] at t1 t2
                clear e1 e2 s0
                generalize X1[r] = f at *
                obtain ⟨fn, fc, ft⟩ := f
                simp only at s1 s2 t1 t2
                generalize (⟨ft.toArray⟩ : ByteArray) = y at *
                rw [Int.natCast_add, Int.natCast_one] at t0
                have hki : (r : Int) < (q : Int) := by omega
                have hk0 : (0 : Int) ≤ (r : Int) := by omega
                have hw : IntKind.i64.wrap ((r : Int) + 1) = (r : Int) + 1 := IntWalk.i64_in _ (by omega)
                have HBE := hid hB
                clear hB hr1 hr2
                go_wp2_with fail
                go_quiet (fail)
                go_wp2_with fail
                go_roundw
                case rel => exact ⟨r + 1, by omega, by go_num, bw_d HBE.out _⟩
                case measure => simp [intOf]; omega
              · obtain rfl : r = q := by omega
                have HBE := hid hB
                clear hB
                go_wp2_with fail
                go_ret
                exact ⟨rfl, bw_t HB7.out HBE.out⟩
      · have hxe := allL_bad HR.out he
        have q1 : (er == 0) = false := by simpa using he
        have q2 : (er != 0) = true := by simpa using he
        subst hxe
        clear HR HRL
        go_wp2_with fail
        go_ret
        exact ⟨rfl, bw_a HB3.out _⟩
end Go.Proofs.YtihkjopplmdkkaaDoor
