/- Which places belong to a field: value.marked. -/
import Derived.Test.YtehjibbjkadoiaaVCopy
set_option linter.unusedVariables false
namespace Go.Proofs.Ytehjibbjkadoiaa
open Go.RowKit
def mkN (l : List SRow) (i : Nat) : Bool := l.any fun r => decide (r.typ ≤ 6 ∧ r.slot = i)
def mkS (l : List SRow) (i : Nat) : Bool := l.any fun r => decide ((7 ≤ r.typ ∧ r.typ ≤ 9) ∧ r.slot = i)
def mkL (l : List SRow) : Bool := l.any fun r => decide (r.typ = 10)
def mkA (l : List SRow) : Array Value := #[.bool (mkN l 0), .bool (mkN l 1), .bool (mkN l 2), .bool (mkN l 3), .bool (mkN l 4), .bool (mkN l 5), .bool (mkS l 0), .bool (mkS l 1), .bool (mkL l)]
theorem mkN_app (l : List SRow) (r : SRow) (i : Nat) : mkN (l ++ [r]) i = (mkN l i || decide (r.typ ≤ 6 ∧ r.slot = i)) := by unfold mkN; rw [List.any_append]; simp
theorem mkS_app (l : List SRow) (r : SRow) (i : Nat) : mkS (l ++ [r]) i = (mkS l i || decide ((7 ≤ r.typ ∧ r.typ ≤ 9) ∧ r.slot = i)) := by unfold mkS; rw [List.any_append]; simp
theorem mkL_app (l : List SRow) (r : SRow) : mkL (l ++ [r]) = (mkL l || decide (r.typ = 10)) := by unfold mkL; rw [List.any_append]; simp
theorem mkA_num (l : List SRow) (r : SRow) (h : r.typ ≤ 6) (hs : r.slot ≤ 5) : (mkA l).setIfInBounds r.slot (.bool true) = mkA (l ++ [r]) := by
  have hi : r.slot = 0 ∨ r.slot = 1 ∨ r.slot = 2 ∨ r.slot = 3 ∨ r.slot = 4 ∨ r.slot = 5 := by omega
  have h7 : ¬ (7 ≤ r.typ ∧ r.typ ≤ 9) := by omega
  have h10 : ¬ r.typ = 10 := by omega
  unfold mkA
  simp only [mkN_app, mkS_app, mkL_app]
  rcases hi with hi | hi | hi | hi | hi | hi <;> rw [hi] <;> simp [h, h7, h10]
theorem mkA_text (l : List SRow) (r : SRow) (h : 7 ≤ r.typ ∧ r.typ ≤ 9) (hs : r.slot ≤ 1) : (mkA l).setIfInBounds (6 + r.slot) (.bool true) = mkA (l ++ [r]) := by
  have hi : r.slot = 0 ∨ r.slot = 1 := by omega
  have h7 : ¬ r.typ ≤ 6 := by omega
  have h10 : ¬ r.typ = 10 := by omega
  unfold mkA
  simp only [mkN_app, mkS_app, mkL_app]
  rcases hi with hi | hi <;> rw [hi] <;> simp [h, h7, h10]
theorem mkA_list (l : List SRow) (r : SRow) (h : r.typ = 10) : (mkA l).setIfInBounds 8 (.bool true) = mkA (l ++ [r]) := by
  have h7 : ¬ r.typ ≤ 6 := by omega
  have h9 : ¬ (7 ≤ r.typ ∧ r.typ ≤ 9) := by omega
  unfold mkA
  simp only [mkN_app, mkS_app, mkL_app]
  simp [h]
theorem row_ok2 {r : SRow} (h : r ∈ ROWS) : 1 ≤ r.typ ∧ r.typ ≤ 10 ∧ r.slot ≤ 5 ∧ (7 ≤ r.typ → r.typ ≤ 9 → r.slot ≤ 1) := by
  have h := List.all_eq_true.1 (show ROWS.all (fun r => decide (1 ≤ r.typ ∧ r.typ ≤ 10 ∧ r.slot ≤ 5 ∧ (7 ≤ r.typ → r.typ ≤ 9 → r.slot ≤ 1))) = true by decide) r h
  simp at h
  omega
theorem mkA_cell (l : List SRow) (i : Nat) (h : i < 9) : ∃ b, (mkA l)[i]? = some (.bool b) := by
  have hi : i = 0 ∨ i = 1 ∨ i = 2 ∨ i = 3 ∨ i = 4 ∨ i = 5 ∨ i = 6 ∨ i = 7 ∨ i = 8 := by omega
  rcases hi with rfl | rfl | rfl | rfl | rfl | rfl | rfl | rfl | rfl <;> exact ⟨_, rfl⟩
set_option maxRecDepth 100000 in
set_option maxHeartbeats 4000000 in
theorem vmarked_any (k v : Int) (w : World) (hv1 : -9223372036854775808 ≤ v) (hv2 : v ≤ 9223372036854775807) : Calls Try.prog 56 #[.int .u8 k, .int .i64 v] w fun e w' => e = .returned (.agg (mkA (ofL k v))) ∧ Below w.heap.size w w' := by
  have hsof := fun W => ((callsIn_wide (n := 4)).1 (sof2_in 4 (by omega) k v W hv1 hv2))
  have hq40 := ofL_le40 k v
  have hmem : ∀ r ∈ ofL k v, r ∈ ROWS := fun r hr => ofL_mem k v hr
  generalize ofL k v = L at *
  have HMEM := hid hmem
  have HSOF := hid hsof
  clear hsof hmem
  obtain ⟨s, hsz⟩ : ∃ s, w.heap.size = s := ⟨_, rfl⟩
  rw [hsz]
  go_enter Try.func56, Try.ntmps56
  go_wp2_with fail
  have hz := #[Value.bool false, .bool false, .bool false, .bool false, .bool false, .bool false, .bool false, .bool false, .bool false]
  have hb0 := bw_a (bw_a (Below.refl w.heap.size w) (.cells (mkA []) 93)) (.cells (mkA []) 93)
  have hk0 := (Blk.new w 93 (mkA [])).alloc (.cells (mkA []) 93)
  have hk1 := Blk.new (w.alloc (.cells (mkA []) 93)) 93 (mkA [])
  rw [World.size_alloc] at hk1
  rw [hsz] at hk0 hk1 hb0
  have e0 : mkA [] = #[Value.bool false, .bool false, .bool false, .bool false, .bool false, .bool false, .bool false, .bool false, .bool false] := rfl
  rw [e0] at hk0 hk1 hb0
  clear e0 hz
  have hk1' : Blk _ (s + 1) 93 (mkA []) := hk1
  have hwz : ((w.alloc (.cells #[Value.bool false, .bool false, .bool false, .bool false, .bool false, .bool false, .bool false, .bool false, .bool false] 93)).alloc (.cells #[Value.bool false, .bool false, .bool false, .bool false, .bool false, .bool false, .bool false, .bool false, .bool false] 93)).heap.size = s + 2 := by simp [hsz]
  clear hk1
  generalize (w.alloc _).alloc _ = W at *
  refine (HSOF.out W).mono ?_
  rintro e w1 ⟨vv, rfl, ho, hb1⟩
  have hk0 := hk0.below hb1 hk0.lt
  have hk1 := hk1'.below hb1 hk1'.lt
  have hB1 := hb0.trans (hb1.mono (by omega))
  have hap : ∀ g, vv.ownBlock = some g → s + 3 ≤ g := fun g hg => by have := (ho.lt g hg).1; omega
  obtain ⟨A, c, rfl, hs1⟩ := SlN.of_own (by omega) ho
  obtain ⟨m, hm⟩ : ∃ m, L.length = m := ⟨_, rfl⟩
  rw [hm] at hs1 hq40 hap ⊢
  have hw1 : s + 2 ≤ w1.heap.size := by have := hb1.size; omega
  have HM := hid hm
  have HS1 := hid hs1
  have HK0 := hid hk0
  have HK1 := hid hk1
  have HB1 := hid hB1
  have HAP := hid hap
  clear hm hs1 hk0 hk1 hB1 hap hk1' hb0 hb1 ho HSOF hwz
  go_wp2_with fail
  go_loopw [18] (fun i wr => ∃ j : Nat, j ≤ m ∧ i = .int .i64 (j : Int) ∧ Blk wr (s + 1) 93 (mkA (L.take j)) ∧ Chg (fun q => q = s + 1) w1 wr) (fun i _ => m - (intOf i).toNat)
  case atStart => exact ⟨0, by omega, rfl, HK1.out, Chg.refl _ _⟩
  case round =>
    obtain ⟨j, hj, rfl, hk, hc⟩ := hrel
    by_cases hlt : j < m
    · have hjl : j < L.length := by have := HM.out; omega
      have hn0 : (L.flatMap specC)[j * 3 + 0]? = _ := flatMap_get specC 3 L j 0 hjl (fun _ _ => rfl) (by omega)
      have hn1 : (L.flatMap specC)[j * 3 + 1]? = _ := flatMap_get specC 3 L j 1 hjl (fun _ _ => rfl) (by omega)
      have hn2 : (L.flatMap specC)[j * 3 + 2]? = _ := flatMap_get specC 3 L j 2 hjl (fun _ _ => rfl) (by omega)
      obtain ⟨b, off, hA, hbw, t0⟩ := HS1.out.rd _ _ hn0
      subst hA
      have hbs : s + 3 ≤ b := HAP.out b rfl
      have t1 := HS1.out.rd.addr _ _ hn1
      have t2 := HS1.out.rd.addr _ _ hn2
      rw [addr_add] at t1 t2
      simp only [Nat.add_zero, ← Nat.add_assoc] at t0 t1 t2
      have hbb := hc.block b hbw (by omega)
      have t0 := (World.cell?_of_block (a := ⟨b, off + j * 3, none⟩) hbb).trans t0
      have t1 := (World.cell?_of_block (a := ⟨b, off + j * 3 + 1, none⟩) hbb).trans t1
      have t2 := (World.cell?_of_block (a := ⟨b, off + j * 3 + 2, none⟩) hbb).trans t2
      have hji : (j : Int) < (m : Int) := by omega
      have hj0 : (0 : Int) ≤ (j : Int) := by omega
      have hro := row_ok2 (HMEM.out L[j] (List.getElem_mem hjl))
      have hmn := mkA_num (L.take j) L[j]
      have hmt := mkA_text (L.take j) L[j]
      have hml := mkA_list (L.take j) L[j]
      have htk : L.take (j + 1) = L.take j ++ [L[j]] := List.take_succ_eq_append_getElem hjl
      rw [← htk] at hmn hmt hml
      have hcell := mkA_cell (L.take j)
      obtain ⟨Lj1, hLj1⟩ : ∃ x, L.take (j + 1) = x := ⟨_, rfl⟩
      rw [hLj1] at hmn hmt hml
      have HLJ := hid hLj1
      clear hLj1
      generalize L.take j = Lj at *
      clear hn0 hn1 hn2 htk hbb
      generalize L[j] = r at *
      obtain ⟨rk, si, nu, ty, sl⟩ := r
      simp only at t0 t1 t2 hro hmn hmt hml
      have hls := hk.lt
      have HKW := hid hk
      have HCW := hid hc
      have HMN := hid hmn
      have HMT := hid hmt
      have HML := hid hml
      have HCELL := hid hcell
      clear hmn hmt hml hc hk hcell
      obtain ⟨hro1, hro2, hro3, hro4⟩ := hro
      have hty : ty = 1 ∨ ty = 2 ∨ ty = 3 ∨ ty = 4 ∨ ty = 5 ∨ ty = 6 ∨ ty = 7 ∨ ty = 8 ∨ ty = 9 ∨ ty = 10 := by omega
      rcases hty with rfl | rfl | rfl | rfl | rfl | rfl | rfl | rfl | rfl | rfl
      · have hsI : (sl : Int) < 6 := by omega
        have hsI0 : (0 : Int) ≤ (sl : Int) := by omega
        obtain ⟨bb, hbb⟩ := HCELL.out sl (by omega)
        have q0 := (HKW.out.cell sl).trans hbb
        have q1 := HKW.out.frozen sl
        have hset := HMN.out (by omega) (by omega)
        have HSET := hid hset
        clear hset hbb
        go_wp2_with fail
        have hf := HKW.out.set_ sl (.bool true)
        rw [HSET.out] at hf
        exact ⟨⟨j + 1, by omega, by go_num, by rw [HLJ.out]; exact hf.alloc _, (HCW.out.set_ (.inl rfl) _ _).alloc _⟩, by simp [intOf] <;> omega⟩
      · have hsI : (sl : Int) < 6 := by omega
        have hsI0 : (0 : Int) ≤ (sl : Int) := by omega
        obtain ⟨bb, hbb⟩ := HCELL.out sl (by omega)
        have q0 := (HKW.out.cell sl).trans hbb
        have q1 := HKW.out.frozen sl
        have hset := HMN.out (by omega) (by omega)
        have HSET := hid hset
        clear hset hbb
        go_wp2_with fail
        have hf := HKW.out.set_ sl (.bool true)
        rw [HSET.out] at hf
        exact ⟨⟨j + 1, by omega, by go_num, by rw [HLJ.out]; exact hf.alloc _, (HCW.out.set_ (.inl rfl) _ _).alloc _⟩, by simp [intOf] <;> omega⟩
      · have hsI : (sl : Int) < 6 := by omega
        have hsI0 : (0 : Int) ≤ (sl : Int) := by omega
        obtain ⟨bb, hbb⟩ := HCELL.out sl (by omega)
        have q0 := (HKW.out.cell sl).trans hbb
        have q1 := HKW.out.frozen sl
        have hset := HMN.out (by omega) (by omega)
        have HSET := hid hset
        clear hset hbb
        go_wp2_with fail
        have hf := HKW.out.set_ sl (.bool true)
        rw [HSET.out] at hf
        exact ⟨⟨j + 1, by omega, by go_num, by rw [HLJ.out]; exact hf.alloc _, (HCW.out.set_ (.inl rfl) _ _).alloc _⟩, by simp [intOf] <;> omega⟩
      · have hsI : (sl : Int) < 6 := by omega
        have hsI0 : (0 : Int) ≤ (sl : Int) := by omega
        obtain ⟨bb, hbb⟩ := HCELL.out sl (by omega)
        have q0 := (HKW.out.cell sl).trans hbb
        have q1 := HKW.out.frozen sl
        have hset := HMN.out (by omega) (by omega)
        have HSET := hid hset
        clear hset hbb
        go_wp2_with fail
        have hf := HKW.out.set_ sl (.bool true)
        rw [HSET.out] at hf
        exact ⟨⟨j + 1, by omega, by go_num, by rw [HLJ.out]; exact hf.alloc _, (HCW.out.set_ (.inl rfl) _ _).alloc _⟩, by simp [intOf] <;> omega⟩
      · have hsI : (sl : Int) < 6 := by omega
        have hsI0 : (0 : Int) ≤ (sl : Int) := by omega
        obtain ⟨bb, hbb⟩ := HCELL.out sl (by omega)
        have q0 := (HKW.out.cell sl).trans hbb
        have q1 := HKW.out.frozen sl
        have hset := HMN.out (by omega) (by omega)
        have HSET := hid hset
        clear hset hbb
        go_wp2_with fail
        have hf := HKW.out.set_ sl (.bool true)
        rw [HSET.out] at hf
        exact ⟨⟨j + 1, by omega, by go_num, by rw [HLJ.out]; exact hf.alloc _, (HCW.out.set_ (.inl rfl) _ _).alloc _⟩, by simp [intOf] <;> omega⟩
      · have hsI : (sl : Int) < 6 := by omega
        have hsI0 : (0 : Int) ≤ (sl : Int) := by omega
        obtain ⟨bb, hbb⟩ := HCELL.out sl (by omega)
        have q0 := (HKW.out.cell sl).trans hbb
        have q1 := HKW.out.frozen sl
        have hset := HMN.out (by omega) (by omega)
        have HSET := hid hset
        clear hset hbb
        go_wp2_with fail
        have hf := HKW.out.set_ sl (.bool true)
        rw [HSET.out] at hf
        exact ⟨⟨j + 1, by omega, by go_num, by rw [HLJ.out]; exact hf.alloc _, (HCW.out.set_ (.inl rfl) _ _).alloc _⟩, by simp [intOf] <;> omega⟩
      · have hsI : (sl : Int) < 2 := by omega
        have hsI0 : (0 : Int) ≤ (sl : Int) := by omega
        obtain ⟨bb, hbb⟩ := HCELL.out (6 + sl) (by omega)
        have q0 := (HKW.out.cell (6 + sl)).trans hbb
        have q1 := HKW.out.frozen (6 + sl)
        have hset := HMT.out (by omega) (by omega)
        have HSET := hid hset
        clear hset hbb
        go_wp2_with fail
        have hf := HKW.out.set_ (6 + sl) (.bool true)
        rw [HSET.out] at hf
        exact ⟨⟨j + 1, by omega, by go_num, by rw [HLJ.out]; exact hf.alloc _, (HCW.out.set_ (.inl rfl) _ _).alloc _⟩, by simp [intOf] <;> omega⟩
      · have hsI : (sl : Int) < 2 := by omega
        have hsI0 : (0 : Int) ≤ (sl : Int) := by omega
        obtain ⟨bb, hbb⟩ := HCELL.out (6 + sl) (by omega)
        have q0 := (HKW.out.cell (6 + sl)).trans hbb
        have q1 := HKW.out.frozen (6 + sl)
        have hset := HMT.out (by omega) (by omega)
        have HSET := hid hset
        clear hset hbb
        go_wp2_with fail
        have hf := HKW.out.set_ (6 + sl) (.bool true)
        rw [HSET.out] at hf
        exact ⟨⟨j + 1, by omega, by go_num, by rw [HLJ.out]; exact hf.alloc _, (HCW.out.set_ (.inl rfl) _ _).alloc _⟩, by simp [intOf] <;> omega⟩
      · have hsI : (sl : Int) < 2 := by omega
        have hsI0 : (0 : Int) ≤ (sl : Int) := by omega
        obtain ⟨bb, hbb⟩ := HCELL.out (6 + sl) (by omega)
        have q0 := (HKW.out.cell (6 + sl)).trans hbb
        have q1 := HKW.out.frozen (6 + sl)
        have hset := HMT.out (by omega) (by omega)
        have HSET := hid hset
        clear hset hbb
        go_wp2_with fail
        have hf := HKW.out.set_ (6 + sl) (.bool true)
        rw [HSET.out] at hf
        exact ⟨⟨j + 1, by omega, by go_num, by rw [HLJ.out]; exact hf.alloc _, (HCW.out.set_ (.inl rfl) _ _).alloc _⟩, by simp [intOf] <;> omega⟩
      · obtain ⟨bb, hbb⟩ := HCELL.out 8 (by omega)
        have q0 := (HKW.out.cell 8).trans hbb
        have q1 := HKW.out.frozen 8
        have hset := HML.out rfl
        have HSET := hid hset
        clear hset hbb
        go_wp2_with fail
        have hf := HKW.out.set_ 8 (.bool true)
        rw [HSET.out] at hf
        exact ⟨⟨j + 1, by omega, by go_num, by rw [HLJ.out]; exact hf.alloc _, (HCW.out.set_ (.inl rfl) _ _).alloc _⟩, by simp [intOf] <;> omega⟩
    · obtain rfl : j = m := by omega
      rw [List.take_of_length_le (by have := HM.out; omega)] at hk
      have hk00 := hc.blk HK0.out (by omega)
      obtain ⟨b0, b1, b2, b3, b4, b5, b6, b7, b8, hmk⟩ : ∃ b0 b1 b2 b3 b4 b5 b6 b7 b8, mkA L = #[.bool b0, .bool b1, .bool b2, .bool b3, .bool b4, .bool b5, .bool b6, .bool b7, .bool b8] := ⟨_, _, _, _, _, _, _, _, _, rfl⟩
      rw [hmk] at hk
      have HMK := hid hmk
      clear hmk
      have c0 := hk.cell 0
      have d0 := hk00.cell 0
      have f0 := hk00.frozen 0
      have c1 := hk.cell 1
      have d1 := hk00.cell 1
      have f1 := hk00.frozen 1
      have c2 := hk.cell 2
      have d2 := hk00.cell 2
      have f2 := hk00.frozen 2
      have c3 := hk.cell 3
      have d3 := hk00.cell 3
      have f3 := hk00.frozen 3
      have c4 := hk.cell 4
      have d4 := hk00.cell 4
      have f4 := hk00.frozen 4
      have c5 := hk.cell 5
      have d5 := hk00.cell 5
      have f5 := hk00.frozen 5
      have c6 := hk.cell 6
      have d6 := hk00.cell 6
      have f6 := hk00.frozen 6
      have c7 := hk.cell 7
      have d7 := hk00.cell 7
      have f7 := hk00.frozen 7
      have c8 := hk.cell 8
      have d8 := hk00.cell 8
      have f8 := hk00.frozen 8
      simp only [List.getElem?_toArray, List.getElem?_cons_zero, List.getElem?_cons_succ] at c0 c1 c2 c3 c4 c5 c6 c7 c8 d0 d1 d2 d3 d4 d5 d6 d7 d8
      have hend := (((((((((hk00.set_ 0 (.bool b0)).set_ 1 (.bool b1)).set_ 2 (.bool b2)).set_ 3 (.bool b3)).set_ 4 (.bool b4)).set_ 5 (.bool b5)).set_ 6 (.bool b6)).set_ 7 (.bool b7)).set_ 8 (.bool b8))
      have hch : Chg (fun q => q = s) wr _ := ((((((((((Chg.refl (fun q => q = s) wr).set_ (.inl rfl) 0 (.bool b0)).set_ (.inl rfl) 1 (.bool b1)).set_ (.inl rfl) 2 (.bool b2)).set_ (.inl rfl) 3 (.bool b3)).set_ (.inl rfl) 4 (.bool b4)).set_ (.inl rfl) 5 (.bool b5)).set_ (.inl rfl) 6 (.bool b6)).set_ (.inl rfl) 7 (.bool b7)).set_ (.inl rfl) 8 (.bool b8))
      have hB := HB1.out.trans (hc.below (B := s) (fun q hq => by omega) (by omega))
      have hwr : s ≤ wr.heap.size := by have := hc.size; omega
      have HE := hid hend
      have HCH := hid hch
      have HB := hid hB
      clear hend hch hB hk hk00 hc
      go_wp2_with fail
      have hB := HB.out.trans (HCH.out.below (B := s) (fun q hq => by omega) hwr)
      have hend := HE.out
      have r0 := hend.cell 0
      have r1 := hend.cell 1
      have r2 := hend.cell 2
      have r3 := hend.cell 3
      have r4 := hend.cell 4
      have r5 := hend.cell 5
      have r6 := hend.cell 6
      have r7 := hend.cell 7
      have r8 := hend.cell 8
      clear hend HE HCH
      generalize World.setCell (World.setCell _ _ _) _ _ = W9 at *
      simp at r0 r1 r2 r3 r4 r5 r6 r7 r8
      refine bodyPost_ret (v := .agg #[.bool b0, .bool b1, .bool b2, .bool b3, .bool b4, .bool b5, .bool b6, .bool b7, .bool b8]) (by simp [results, Try.results56, go_sem, r0, r1, r2, r3, r4, r5, r6, r7, r8]) rfl ?_
      exact ⟨by rw [HMK.out], hB⟩
end Go.Proofs.Ytehjibbjkadoiaa
