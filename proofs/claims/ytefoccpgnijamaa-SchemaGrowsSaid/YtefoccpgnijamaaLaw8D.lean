/- The walk of SchemaGrows. -/
import Derived.Test.YtefoccpgnijamaaSchMore
import Derived.Test.YtefoccpgnijamaaLive8
import Derived.Test.YtefoccpgnijamaaM3
import Derived.Deep.QuietTactic
import Derived.BigQuiet
set_option linter.unusedVariables false
namespace Go.Proofs.Ytefoccpgnijamaa
open Go.RowKit
theorem sort8_any (t : Int) (w : World) : Calls Try.prog 15 #[.int .i64 t] w fun e w' => e = .returned (.int .i64 (sortN t : Nat)) ∧ w' = w := by
  by_cases h6 : t ≤ 6
  · have hs : sortN t = 0 := by unfold sortN; rw [if_pos h6]
    rw [hs]
    go_enter Try.func15, Try.ntmps15
    go_wp2
    go_ret
    exact ⟨rfl, rfl⟩
  by_cases h10 : t < 10
  · have hs : sortN t = 1 := by unfold sortN; rw [if_neg h6, if_pos h10]
    rw [hs]
    go_enter Try.func15, Try.ntmps15
    go_wp2
    go_ret
    exact ⟨rfl, rfl⟩
  · have hs : sortN t = 2 := by unfold sortN; rw [if_neg h6, if_neg h10]
    rw [hs]
    go_enter Try.func15, Try.ntmps15
    go_wp2
    go_ret
    exact ⟨rfl, rfl⟩
set_option maxRecDepth 100000 in
set_option maxHeartbeats 8000000 in
theorem schGrows_any (k : Nat) (v later : Int) (hk : k ≤ 255) (w : World) (hv1 : -9223372036854775808 ≤ v) (hv2 : v ≤ 9223372036854775807) (hl1 : -9223372036854775808 ≤ later) (hl2 : later ≤ 9223372036854775807) : Calls Try.prog 4 #[.int .u8 (k : Nat), .int .i64 v, .int .i64 later] w fun e w' => e = .returned (.bool true) ∧ Below w.heap.size w w' := by
  have HL := hid (live8_any w)
  have hsof := fun W => ((callsIn_wide (n := 4)).1 (sof2_in 4 (by omega) (k : Int) v W hv1 hv2))
  have hsfi := fun n W => ((callsIn_wide (n := 4)).1 (sfind_in 4 (by omega) (k : Int) later n W hl1 hl2))
  have hso := fun t W => sort8_any t W
  have hq40 := ofL_le40 (k : Int) v
  obtain ⟨L, hL⟩ : ∃ L, L = ofL (k : Int) v := ⟨_, rfl⟩
  have hgf : ∀ i (hi : i < L.length), v ≤ later → later ≤ 3 → finS (k : Int) later (L[i].num : Int) = some L[i] := by
    subst hL; exact fun i hi h1 h2 => grow_find k v later i hi h1 h2
  have hga : ∀ i j (hi : i < L.length) (hj : j < i), (L[j]'(Nat.lt_trans hj hi)).num < L[i].num ∧ ¬ (sortN (L[j]'(Nat.lt_trans hj hi)).typ = sortN L[i].typ ∧ (L[j]'(Nat.lt_trans hj hi)).slot = L[i].slot) := by
    subst hL; exact fun i j hi hj => grow_apart k v i j hi hj
  rw [← hL] at hsof hq40
  clear hL
  obtain ⟨m, hm⟩ : ∃ m, L.length = m := ⟨_, rfl⟩
  rw [hm] at hsof hq40
  have HSOF := hid hsof
  have HSFI := hid hsfi
  have HGF := hid hgf
  have HGA := hid hga
  have HSO := hid hso
  have HM := hid hm
  clear hsof hsfi hgf hga hm hso
  go_enter Try.func4, Try.ntmps4
  go_wp2_with fail
  refine HL.out.mono ?_
  rintro e w1 ⟨rfl, hb1⟩
  go_wp2_with fail
  refine (HSOF.out _).mono ?_
  rintro e w2 ⟨vv, rfl, ho2, hb2⟩
  obtain ⟨A2, c2, rfl, hs2⟩ := SlN.of_own (by omega) ho2
  have B2 := bw_t hb1 hb2
  have HS2 := hid hs2
  have HB2 := hid B2
  clear hb1 hb2 ho2 hs2 B2
  go_wp2_with fail
  go_loopw [9] (fun i wr => ∃ j : Nat, j ≤ m ∧ i = .int .i64 (j : Int) ∧ Below w2.heap.size w2 wr) (fun i _ => m - (intOf i).toNat)
  case atStart => exact ⟨0, by omega, rfl, Below.refl _ _⟩
  case round =>
    obtain ⟨i, hi, rfl, hB⟩ := hrel
    by_cases hlt : i < m
    · have hil : i < L.length := by have := HM.out; omega
      have hn0 : (L.flatMap specC)[i * 3 + 0]? = _ := flatMap_get specC 3 L i 0 hil (fun _ _ => rfl) (by omega)
      have hn1 : (L.flatMap specC)[i * 3 + 1]? = _ := flatMap_get specC 3 L i 1 hil (fun _ _ => rfl) (by omega)
      have hn2 : (L.flatMap specC)[i * 3 + 2]? = _ := flatMap_get specC 3 L i 2 hil (fun _ _ => rfl) (by omega)
      obtain ⟨b, off, hA, hbw, t0⟩ := HS2.out.rd _ _ hn0
      subst hA
      have t1 := HS2.out.rd.addr _ _ hn1
      have t2 := HS2.out.rd.addr _ _ hn2
      rw [addr_add] at t1 t2
      simp only [Nat.add_zero, ← Nat.add_assoc] at t0 t1 t2
      have s0 := t0
      have s1 := t1
      have s2 := t2
      clear t0 t1 t2
      have t0 := (hB.cell (p := ⟨b, off + i * 3, none⟩) hbw).trans s0
      have t1 := (hB.cell (p := ⟨b, off + i * 3 + 1, none⟩) hbw).trans s1
      have t2 := (hB.cell (p := ⟨b, off + i * 3 + 2, none⟩) hbw).trans s2
      have hji : (i : Int) < (m : Int) := by omega
      have hj0 : (0 : Int) ≤ (i : Int) := by omega
      have hfi := HGF.out i (by omega)
      have hap := fun j (hj : j < i) => HGA.out i j (by omega) hj
      have hin : ∀ (wr : World), Below w2.heap.size w2 wr → ∀ j, j < i → ∃ nu ty sl : Nat, wr.cell? ⟨b, off + j * 3, none⟩ = some (.int .i64 (nu : Int)) ∧ wr.cell? ⟨b, off + j * 3 + 1, none⟩ = some (.int .i64 (ty : Int)) ∧ wr.cell? ⟨b, off + j * 3 + 2, none⟩ = some (.int .i64 (sl : Int)) ∧ nu < L[i].num ∧ ¬ (sortN ty = sortN L[i].typ ∧ sl = L[i].slot) := by
        intro wr hB j hj
        have hjl : j < L.length := by omega
        have hn0 : (L.flatMap specC)[j * 3 + 0]? = _ := flatMap_get specC 3 L j 0 hjl (fun _ _ => rfl) (by omega)
        have hn1 : (L.flatMap specC)[j * 3 + 1]? = _ := flatMap_get specC 3 L j 1 hjl (fun _ _ => rfl) (by omega)
        have hn2 : (L.flatMap specC)[j * 3 + 2]? = _ := flatMap_get specC 3 L j 2 hjl (fun _ _ => rfl) (by omega)
        have t0 := HS2.out.rd.addr _ _ hn0
        have t1 := HS2.out.rd.addr _ _ hn1
        have t2 := HS2.out.rd.addr _ _ hn2
        rw [addr_add] at t0 t1 t2
        simp only [Nat.add_zero, ← Nat.add_assoc] at t0 t1 t2
        have h2 := hap j hj
        exact ⟨_, _, _, (hB.cell (p := ⟨b, off + j * 3, none⟩) hbw).trans t0, (hB.cell (p := ⟨b, off + j * 3 + 1, none⟩) hbw).trans t1, (hB.cell (p := ⟨b, off + j * 3 + 2, none⟩) hbw).trans t2, h2.1, h2.2⟩
      clear hn0 hn1 hn2 hap
      generalize L[i] = r at *
      obtain ⟨rk, si, nu, ty, sl⟩ := r
      simp only at t0 t1 t2 s0 s1 s2 hfi hin
      have HT := hid (fun (W : World) (hW : Below w2.heap.size w2 W) => And.intro ((hW.cell (p := ⟨b, off + i * 3, none⟩) hbw).trans s0) (And.intro ((hW.cell (p := ⟨b, off + i * 3 + 1, none⟩) hbw).trans s1) ((hW.cell (p := ⟨b, off + i * 3 + 2, none⟩) hbw).trans s2)))
      clear s0 s1 s2
      have HB := hid hB
      have HFI := hid hfi
      have HIN := hid hin
      clear hB hfi hin
      -- the inner loop, from any world
      have hinner : True := trivial
      by_cases hg : v ≤ later ∧ later ≤ 3
      · obtain ⟨hg1, hg2⟩ := hg
        have hf := HFI.out hg1 hg2
        have hsf := fun W => HSFI.out (nu : Int) W
        rw [hf] at hsf
        simp only [specO, specV, Option.isSome_some] at hsf
        have HSF := hid hsf
        clear hf hsf HFI
        go_wp2_with fail
        refine (HSF.out _).mono ?_
        rintro e w4 ⟨rfl, hb4⟩
        have hk4 := Blk.new w4 28 #[.int .i64 (nu : Int), .int .i64 (ty : Int), .int .i64 (sl : Int)]
        have hB4 := bw_a (HB.out.trans (hb4.mono HB.out.size)) (.cells #[.int .i64 (nu : Int), .int .i64 (ty : Int), .int .i64 (sl : Int)] 28)
        obtain ⟨t0, t1, t2⟩ := HT.out _ hB4
        have HBW := hid hB4
        clear hb4 hB4
        go_wp2_with fail
        have q0 := hk4.cell 0
        have q1 := hk4.cell 1
        have q2 := hk4.cell 2
        simp only [List.getElem?_toArray, List.getElem?_cons_zero, List.getElem?_cons_succ] at q0 q1 q2
        clear hk4
        go_quiet (fail)
        have HBW := hid (bw_d HBW.out nq)
        clear q0 q1 q2
        go_wp2_with fail
        go_loopw [12] (fun kv wr => ∃ j : Nat, j ≤ i ∧ kv = .int .i64 (j : Int) ∧ Below w2.heap.size w2 wr) (fun kv _ => i - (intOf kv).toNat)
        case atStart => exact ⟨0, by omega, rfl, HBW.out⟩
        case round =>
          obtain ⟨j, hj, rfl, hB3⟩ := hrel
          obtain ⟨t0, t1, t2⟩ := HT.out _ hB3
          have HB3 := hid hB3
          by_cases hlt3 : j < i
          · obtain ⟨nu', ty', sl', q0, q1, q2, hnu, hap⟩ := HIN.out _ hB3 j hlt3
            have hap2 : ((sortN (ty' : Int) : Int) == (sortN (ty : Int) : Int)) = false ∨ (((sortN (ty' : Int) : Int) == (sortN (ty : Int) : Int)) = true ∧ ((sl' : Int) == (sl : Int)) = false) := by
              by_cases h1 : sortN (ty' : Int) = sortN (ty : Int)
              · refine .inr ⟨by simp [h1], ?_⟩
                have h2 : ¬ sl' = sl := fun h2 => hap ⟨h1, h2⟩
                simp; omega
              · exact .inl (by simp; omega)
            have hso1 := fun W => HSO.out (ty' : Int) W
            have hso2 := fun W => HSO.out (ty : Int) W
            clear hap hB3
            generalize sortN (ty' : Int) = p1 at *
            generalize sortN (ty : Int) = p2 at *
            have HS1 := hid hso1
            have HS2' := hid hso2
            clear hso1 hso2
            have hnuI : (nu' : Int) < (nu : Int) := by omega
            have hjI : (j : Int) < (m : Int) := by omega
            have hj0' : (0 : Int) ≤ (j : Int) := by omega
            have hge : decide (nu ≤ nu') = false := by simp; omega
            rcases hap2 with hap2 | ⟨hap2, hap3⟩
            · go_wp2_with fail
              go_quiet ((first | (go_at_call 15; exact Calls.quiet_of_same (HS1.out _)) | (go_at_call 15; exact Calls.quiet_of_same (HS2'.out _))))
              go_wp2_with fail
              exact ⟨⟨j + 1, by omega, by go_num, bw_d HB3.out _⟩, by simp [intOf] <;> omega⟩
            · go_wp2_with fail
              go_quiet ((first | (go_at_call 15; exact Calls.quiet_of_same (HS1.out _)) | (go_at_call 15; exact Calls.quiet_of_same (HS2'.out _))))
              go_wp2_with fail
              exact ⟨⟨j + 1, by omega, by go_num, bw_d HB3.out _⟩, by simp [intOf] <;> omega⟩
          · obtain rfl : j = i := by omega
            clear hB3
            go_wp2_with fail
            exact ⟨⟨j + 1, by omega, by go_num, HB3.out⟩, by simp [intOf] <;> omega⟩
      · have HBW := HB
        by_cases hg1 : v ≤ later
        · have hg2 : ¬ later ≤ 3 := fun h => hg ⟨hg1, h⟩
          clear hg
          go_wp2_with fail
          go_loopw [12] (fun kv wr => ∃ j : Nat, j ≤ i ∧ kv = .int .i64 (j : Int) ∧ Below w2.heap.size w2 wr) (fun kv _ => i - (intOf kv).toNat)
          case atStart => exact ⟨0, by omega, rfl, HBW.out⟩
          case round =>
            obtain ⟨j, hj, rfl, hB3⟩ := hrel
            obtain ⟨t0, t1, t2⟩ := HT.out _ hB3
            have HB3 := hid hB3
            by_cases hlt3 : j < i
            · obtain ⟨nu', ty', sl', q0, q1, q2, hnu, hap⟩ := HIN.out _ hB3 j hlt3
              have hap2 : ((sortN (ty' : Int) : Int) == (sortN (ty : Int) : Int)) = false ∨ (((sortN (ty' : Int) : Int) == (sortN (ty : Int) : Int)) = true ∧ ((sl' : Int) == (sl : Int)) = false) := by
                by_cases h1 : sortN (ty' : Int) = sortN (ty : Int)
                · refine .inr ⟨by simp [h1], ?_⟩
                  have h2 : ¬ sl' = sl := fun h2 => hap ⟨h1, h2⟩
                  simp; omega
                · exact .inl (by simp; omega)
              have hso1 := fun W => HSO.out (ty' : Int) W
              have hso2 := fun W => HSO.out (ty : Int) W
              clear hap hB3
              generalize sortN (ty' : Int) = p1 at *
              generalize sortN (ty : Int) = p2 at *
              have HS1 := hid hso1
              have HS2' := hid hso2
              clear hso1 hso2
              have hnuI : (nu' : Int) < (nu : Int) := by omega
              have hjI : (j : Int) < (m : Int) := by omega
              have hj0' : (0 : Int) ≤ (j : Int) := by omega
              have hge : decide (nu ≤ nu') = false := by simp; omega
              rcases hap2 with hap2 | ⟨hap2, hap3⟩
              · go_wp2_with fail
                go_quiet ((first | (go_at_call 15; exact Calls.quiet_of_same (HS1.out _)) | (go_at_call 15; exact Calls.quiet_of_same (HS2'.out _))))
                go_wp2_with fail
                exact ⟨⟨j + 1, by omega, by go_num, bw_d HB3.out _⟩, by simp [intOf] <;> omega⟩
              · go_wp2_with fail
                go_quiet ((first | (go_at_call 15; exact Calls.quiet_of_same (HS1.out _)) | (go_at_call 15; exact Calls.quiet_of_same (HS2'.out _))))
                go_wp2_with fail
                exact ⟨⟨j + 1, by omega, by go_num, bw_d HB3.out _⟩, by simp [intOf] <;> omega⟩
            · obtain rfl : j = i := by omega
              clear hB3
              go_wp2_with fail
              exact ⟨⟨j + 1, by omega, by go_num, HB3.out⟩, by simp [intOf] <;> omega⟩
        · clear hg
          go_wp2_with fail
          go_loopw [12] (fun kv wr => ∃ j : Nat, j ≤ i ∧ kv = .int .i64 (j : Int) ∧ Below w2.heap.size w2 wr) (fun kv _ => i - (intOf kv).toNat)
          case atStart => exact ⟨0, by omega, rfl, HBW.out⟩
          case round =>
            obtain ⟨j, hj, rfl, hB3⟩ := hrel
            obtain ⟨t0, t1, t2⟩ := HT.out _ hB3
            have HB3 := hid hB3
            by_cases hlt3 : j < i
            · obtain ⟨nu', ty', sl', q0, q1, q2, hnu, hap⟩ := HIN.out _ hB3 j hlt3
              have hap2 : ((sortN (ty' : Int) : Int) == (sortN (ty : Int) : Int)) = false ∨ (((sortN (ty' : Int) : Int) == (sortN (ty : Int) : Int)) = true ∧ ((sl' : Int) == (sl : Int)) = false) := by
                by_cases h1 : sortN (ty' : Int) = sortN (ty : Int)
                · refine .inr ⟨by simp [h1], ?_⟩
                  have h2 : ¬ sl' = sl := fun h2 => hap ⟨h1, h2⟩
                  simp; omega
                · exact .inl (by simp; omega)
              have hso1 := fun W => HSO.out (ty' : Int) W
              have hso2 := fun W => HSO.out (ty : Int) W
              clear hap hB3
              generalize sortN (ty' : Int) = p1 at *
              generalize sortN (ty : Int) = p2 at *
              have HS1 := hid hso1
              have HS2' := hid hso2
              clear hso1 hso2
              have hnuI : (nu' : Int) < (nu : Int) := by omega
              have hjI : (j : Int) < (m : Int) := by omega
              have hj0' : (0 : Int) ≤ (j : Int) := by omega
              have hge : decide (nu ≤ nu') = false := by simp; omega
              rcases hap2 with hap2 | ⟨hap2, hap3⟩
              · go_wp2_with fail
                go_quiet ((first | (go_at_call 15; exact Calls.quiet_of_same (HS1.out _)) | (go_at_call 15; exact Calls.quiet_of_same (HS2'.out _))))
                go_wp2_with fail
                exact ⟨⟨j + 1, by omega, by go_num, bw_d HB3.out _⟩, by simp [intOf] <;> omega⟩
              · go_wp2_with fail
                go_quiet ((first | (go_at_call 15; exact Calls.quiet_of_same (HS1.out _)) | (go_at_call 15; exact Calls.quiet_of_same (HS2'.out _))))
                go_wp2_with fail
                exact ⟨⟨j + 1, by omega, by go_num, bw_d HB3.out _⟩, by simp [intOf] <;> omega⟩
            · obtain rfl : j = i := by omega
              clear hB3
              go_wp2_with fail
              exact ⟨⟨j + 1, by omega, by go_num, HB3.out⟩, by simp [intOf] <;> omega⟩
    · obtain rfl : i = m := by omega
      go_wp2_with fail
      go_ret
      exact ⟨rfl, HB2.out.trans (hB.mono HB2.out.size)⟩
end Go.Proofs.Ytefoccpgnijamaa
