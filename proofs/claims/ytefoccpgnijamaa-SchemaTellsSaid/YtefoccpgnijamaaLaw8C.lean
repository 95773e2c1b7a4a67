/- The walk of SchemaTells. -/
import Derived.Test.YtefoccpgnijamaaSchRef
set_option linter.unusedVariables false
namespace Go.Proofs.Ytefoccpgnijamaa
open Go.RowKit
theorem sl_kinds {w : World} {base : Nat} {v : Value} {l : List Nat} (h : w.ownsRow base 5 1 v l.length (l.map kvN)) : ∃ A c, v = .slice A l.length c ∧ Sl w A c (l.map kvN) := by
  obtain ⟨A, c, hv, -, hs⟩ := Sl.of_own h
  exact ⟨A, c, hv, hs⟩
set_option maxRecDepth 100000 in
set_option maxHeartbeats 8000000 in
theorem schTells_any (k : Nat) (v n : Int) (hk : k ≤ 255) (w : World) (hv1 : -9223372036854775808 ≤ v) (hv2 : v ≤ 9223372036854775807) : Calls Try.prog 3 #[.int .u8 (k : Nat), .int .i64 v, .int .i64 n] w fun e w' => e = .returned (.bool true) ∧ Below w.heap.size w w' := by
  have HL := hid (live8_any w)
  have hsof := fun W => ((callsIn_wide (n := 4)).1 (sof2_in 4 (by omega) (k : Int) v W hv1 hv2))
  have hrof := fun W => r8of_any (k : Int) v W (by omega) (by omega) hv1 hv2
  have hsfi := fun W => ((callsIn_wide (n := 4)).1 (sfind_in 4 (by omega) (k : Int) v n W hv1 hv2))
  have hrfi := fun W => r8find_any (k : Int) v n W (by omega) (by omega) hv1 hv2
  have hki := fun W => ((callsIn_wide (n := 4)).1 (skinds_in 4 (by omega) v W hv1 hv2))
  have hro2 := fun (j : Nat) (hj : j ≤ 10) W => r8of_any (j : Int) v W (by omega) (by omega) hv1 hv2
  unfold OfR at hrof hro2
  have hspec := fun A1 A2 c1 c2 W h1 h2 => r8specs_any (ofL (k : Int) v) (ofL (k : Int) v).length A1 A2 c1 c2 W rfl h1 h2
  have hq40 := ofL_le40 (k : Int) v
  generalize ofL (k : Int) v = L at *
  have hsp : ∃ x y z b, Value.tuple #[specO (finS (k : Int) v n), .bool (finS (k : Int) v n).isSome] = .tuple #[.agg #[.int .i64 x, .int .i64 y, .int .i64 z], .bool b] := by
    cases finS (k : Int) v n with
    | none => exact ⟨0, 0, 0, false, rfl⟩
    | some r => exact ⟨_, _, _, true, rfl⟩
  obtain ⟨x, y, z, b, hsp⟩ := hsp
  rw [hsp] at hsfi hrfi
  clear hsp
  generalize hm : L.length = m at *
  have hkn := cntK_all v
  have hkat := cntK_at v
  have hkhas := cntK_has v
  have hknot := cntK_not v
  have hhas : ∀ j : Nat, hasB v j = decide (0 < (ofL (j : Int) v).length) := fun j => rfl
  generalize hK : kinds v = K at *
  have hK10 : K.length ≤ 10 := by
    rw [← hkn]; unfold cntK
    have := List.length_filter_le (hasB v) (List.range' 1 10)
    simpa using this
  have HSOF := hid hsof
  have HROF := hid hrof
  have HSFI := hid hsfi
  have HRFI := hid hrfi
  have HKI := hid hki
  have HRO2 := hid hro2
  have HSPEC := hid hspec
  have HKN := hid hkn
  have HKAT := hid hkat
  have HKHAS := hid hkhas
  have HKNOT := hid hknot
  have HHAS := hid hhas
  have HM := hid hm
  clear hsof hrof hsfi hrfi hki hro2 hspec hkn hkat hkhas hknot hhas hm hK
  go_enter Try.func3, Try.ntmps3
  go_wp2_with fail
  refine HL.out.mono ?_
  rintro e w1 ⟨rfl, hb1⟩
  go_wp2_with fail
  refine (HSOF.out _).mono ?_
  rintro e w2 ⟨vv, rfl, ho2, hb2⟩
  obtain ⟨A2, c2, rfl, hs2⟩ := SlN.of_own (by omega) ho2
  have B2 := bw_t hb1 hb2
  clear hb1 hb2 ho2
  go_wp2_with fail
  refine (HROF.out _).mono ?_
  rintro e w3 ⟨A3, c3, rfl, hs3, hb3⟩
  have B3 := bw_t B2 hb3
  have hs2 := hs2.below hb3
  clear hb3 B2
  go_wp2_with fail
  refine (HSFI.out _).mono ?_
  rintro e w4 ⟨rfl, hb4⟩
  have hb4b := bw_a hb4 (.cells #[.int .i64 x, .int .i64 y, .int .i64 z] 28)
  have hk4 := Blk.new w4 28 #[.int .i64 x, .int .i64 y, .int .i64 z]
  have B4 := bw_t B3 hb4b
  have hs2 := hs2.below hb4b
  have hs3 := hs3.below hb4b
  clear hb4b hb4 B3
  go_wp2_with fail
  refine (HRFI.out _).mono ?_
  rintro e w5 ⟨rfl, hb5⟩
  have hb5b := bw_a hb5 (.cells #[.int .i64 x, .int .i64 y, .int .i64 z] 28)
  have hk5 := Blk.new w5 28 #[.int .i64 x, .int .i64 y, .int .i64 z]
  have hk4 := hk4.below hb5b hk4.lt
  have B5 := bw_t B4 hb5b
  have hs2 := hs2.below hb5b
  have hs3 := hs3.below hb5b
  have l4 := hk4.lt
  clear hb5b hb5 B4
  go_wp2_with fail
  refine (HSPEC.out _ _ _ _ _ hs2 hs3).mono ?_
  rintro e w6 ⟨rfl, q, rfl⟩
  have d0 := hk4.cell 0
  have d1 := hk4.cell 1
  have d2 := hk4.cell 2
  have e0 := hk5.cell 0
  have e1 := hk5.cell 1
  have e2 := hk5.cell 2
  simp only [List.getElem?_toArray, List.getElem?_cons_zero, List.getElem?_cons_succ] at d0 d1 d2 e0 e1 e2
  have B6 := bw_d B5 q
  obtain ⟨s4, hs4⟩ : ∃ s, w4.heap.size = s := ⟨_, rfl⟩
  obtain ⟨W6, hW6⟩ : ∃ W, w5.alloc (.cells #[.int .i64 x, .int .i64 y, .int .i64 z] 28) = W := ⟨_, rfl⟩
  obtain ⟨s5, hs5⟩ : ∃ s, w5.heap.size = s := ⟨_, rfl⟩
  rw [hW6, hs5] at e0 e1 e2
  rw [hW6, hs4] at d0 d1 d2
  rw [hW6] at B6
  rw [hW6, hs4, hs5]
  clear hW6 hs4 hs5 hk4 hk5 hs2 hs3 B5 l4
  go_wp2_with fail
  refine (HKI.out _).mono ?_
  rintro e w7 ⟨vk, rfl, ho7, hb7⟩
  obtain ⟨A7, c7, rfl, hs7⟩ := sl_kinds ho7
  have B7 := bw_t B6 hb7
  have HS7 := hid hs7
  have HB7 := hid B7
  clear ho7 hb7 B6 B7 hs7 d0 d1 d2 e0 e1 e2
  generalize hkl : K.length = kl at *
  have HKL := hid hkl
  clear hkl
  go_wp2_with fail
  go_loopw [15, 16] (fun nv kv wr => ∃ (k c : Nat), 1 ≤ k ∧ k ≤ 11 ∧ c = cntK v (k - 1) ∧ nv = .int .i64 (c : Int) ∧ kv = .int .i64 (k : Int) ∧ Below w7.heap.size w7 wr) (fun _ kv _ => 11 - (intOf kv).toNat)
  case atStart => exact ⟨1, 0, by omega, by omega, rfl, rfl, rfl, Below.refl _ _⟩
  case round =>
    obtain ⟨k, c, hk1, hk11, hc, rfl, rfl, hB⟩ := hrel
    have HC := hid hc
    have HB := hid hB
    clear hc hB
    by_cases hlt : k ≤ 10
    · have hkI : (k : Int) ≤ 10 := by omega
      have hro := fun W => HRO2.out k hlt W
      have hhk := HHAS.out k
      have hat := HKAT.out (k - 1) (by omega)
      have hha := HKHAS.out (k - 1)
      have hno := HKNOT.out (k - 1)
      rw [show k - 1 + 1 = k from by omega, ← HC.out] at hat
      rw [show k - 1 + 1 = k from by omega, ← HC.out] at hha hno
      generalize hql : (ofL (k : Int) v).length = ql at *
      have HAT := hid hat
      have HHA := hid hha
      have HNO := hid hno
      have HRO := hid hro
      have HHK := hid hhk
      clear hat hha hno hro hhk hql
      go_wp2_with fail
      refine (HRO.out _).mono ?_
      rintro e w8 ⟨A8, c8, rfl, -, hb8⟩
      have HB8 := hid (HB.out.trans (hb8.mono HB.out.size))
      have hs8 := HS7.out.below HB8.out
      clear hb8
      by_cases hq : ql = 0
      · subst hq
        have hn2 := HNO.out (by rw [HHK.out]; rfl)
        have HN2 := hid hn2
        clear hn2 hs8
        go_wp2_with fail
        exact ⟨⟨k + 1, c, by omega, by omega, by rw [Nat.add_sub_cancel]; exact HN2.out.symm, rfl, by go_num, HB8.out⟩, by simp [intOf] <;> omega⟩
      · have hq1 : 0 < ql := by omega
        have ht : hasB v k = true := by rw [HHK.out]; simpa using hq1
        have hget := HAT.out ht
        have hn2 := HHA.out ht
        obtain ⟨hcl, -⟩ := List.getElem?_eq_some_iff.1 hget
        rw [HKL.out] at hcl
        have hcI : (c : Int) < (kl : Int) := by omega
        have hc0 : (0 : Int) ≤ (c : Int) := by omega
        obtain ⟨b8, of8, rfl, hbl8, t8⟩ := hs8.rd c (kvN k) (by rw [List.getElem?_map, hget]; rfl)
        unfold kvN at t8
        have HN2 := hid hn2
        clear hn2 hget hs8
        go_wp2_with fail
        exact ⟨⟨k + 1, c + 1, by omega, by omega, by rw [Nat.add_sub_cancel]; exact HN2.out.symm, by go_num, by go_num, HB8.out⟩, by simp [intOf] <;> omega⟩
    · obtain rfl : k = 11 := by omega
      have hce : c = kl := by have h1 : c = cntK v 10 := HC.out; have h2 := HKN.out; omega
      subst hce
      go_wp2_with fail
      go_ret
      exact ⟨by simp, HB7.out.trans (HB.out.mono HB7.out.size)⟩
end Go.Proofs.Ytefoccpgnijamaa
