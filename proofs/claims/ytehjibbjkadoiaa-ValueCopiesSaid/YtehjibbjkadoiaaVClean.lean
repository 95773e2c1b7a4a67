/- Short messages (the document's Small); value.Clean. -/
import Derived.Test.YtehjibbjkadoiaaVRef3
set_option linter.unusedVariables false
namespace Go.Proofs.Ytehjibbjkadoiaa
open Go.RowKit
def smallB (m : MV) : Bool := decide (m.s0.size ≤ 8000) && decide (m.s1.size ≤ 8000) && decide (m.l.length ≤ 70) && m.l.all fun s => decide (s.size ≤ 200)
theorem smallB_facts {m : MV} (h : smallB m = true) : m.s0.size ≤ 8000 ∧ m.s1.size ≤ 8000 ∧ m.l.length ≤ 70 ∧ ∀ s ∈ m.l, s.size ≤ 200 := by
  unfold smallB at h
  simp only [Bool.and_eq_true, decide_eq_true_eq, List.all_eq_true] at h
  exact ⟨h.1.1.1, h.1.1.2, h.1.2, h.2⟩
set_option maxRecDepth 100000 in
set_option maxHeartbeats 2000000 in
theorem small9_any (m : MV) (w : World) (hs : Sl w m.A m.c (m.l.map sv)) : Calls Try.prog 11 #[mvV m] w fun e w' => e = .returned (.bool (smallB m)) ∧ Below w.heap.size w w' := by
  have hS : smallB m = (decide (m.s0.size ≤ 8000) && decide (m.s1.size ≤ 8000) && decide (m.l.length ≤ 70) && m.l.all fun s => decide (s.size ≤ 200)) := rfl
  generalize smallB m = R at *
  obtain ⟨len, hlen⟩ : ∃ n, m.l.length = n := ⟨_, rfl⟩
  unfold mvV mvA
  rw [hlen] at hS ⊢
  have hbx := bw_a (Below.refl w.heap.size w) (.cells #[.int .u8 (m.k : Int), .int .u64 (m.n0 : Int), .int .u64 (m.n1 : Int), .int .u64 (m.n2 : Int), .int .u64 (m.n3 : Int), .int .u64 (m.n4 : Int), .int .u64 (m.n5 : Int), .string m.s0, .string m.s1, .slice m.A len m.c] 27)
  have hbk := Blk.new w 27 #[.int .u8 (m.k : Int), .int .u64 (m.n0 : Int), .int .u64 (m.n1 : Int), .int .u64 (m.n2 : Int), .int .u64 (m.n3 : Int), .int .u64 (m.n4 : Int), .int .u64 (m.n5 : Int), .string m.s0, .string m.s1, .slice m.A len m.c]
  have HS := hid hS
  have HL := hid hlen
  have HSL := hid (hs.below hbx)
  have HBX := hid hbx
  have HBK := hid hbk
  clear hS hlen hs hbx hbk
  by_cases h0 : m.s0.size ≤ 8000
  case neg =>
    have HR := hid (show R = false from by rw [HS.out]; simp [h0])
    clear HS
    have h0' : 8000 < m.s0.size := by omega
    go_enter Try.func11, Try.ntmps11
    go_wp2_with fail
    go_ret
    exact ⟨by rw [HR.out]; rfl, HBX.out⟩
  by_cases h1 : m.s1.size ≤ 8000
  case neg =>
    have HR := hid (show R = false from by rw [HS.out]; simp [h1])
    clear HS
    have h1' : 8000 < m.s1.size := by omega
    go_enter Try.func11, Try.ntmps11
    go_wp2_with fail
    go_ret
    exact ⟨by rw [HR.out]; rfl, HBX.out⟩
  by_cases h2 : len ≤ 70
  case neg =>
    have HR := hid (show R = false from by rw [HS.out]; simp [h2])
    clear HS
    have h2' : 70 < len := by omega
    go_enter Try.func11, Try.ntmps11
    go_wp2_with fail
    go_ret
    exact ⟨by rw [HR.out]; rfl, HBX.out⟩
  have HR := hid (show R = m.l.all fun s => decide (s.size ≤ 200) from by rw [HS.out]; simp [h0, h1, h2])
  clear HS
  go_enter Try.func11, Try.ntmps11
  go_wp2_with fail
  obtain ⟨W, hW⟩ : ∃ W, w.alloc (.cells #[.int .u8 (m.k : Int), .int .u64 (m.n0 : Int), .int .u64 (m.n1 : Int), .int .u64 (m.n2 : Int), .int .u64 (m.n3 : Int), .int .u64 (m.n4 : Int), .int .u64 (m.n5 : Int), .string m.s0, .string m.s1, .slice m.A len m.c] 27) = W := ⟨_, rfl⟩
  rw [hW] at HBX HBK HSL
  rw [hW]
  obtain ⟨s, hws⟩ : ∃ s, w.heap.size = s := ⟨_, rfl⟩
  rw [hws] at HBK
  have c9 := HBK.out.cell 9
  simp only [List.getElem?_toArray, List.getElem?_cons_zero, List.getElem?_cons_succ] at c9
  clear hW
  go_loopw [3] (fun i wr => ∃ j : Nat, j ≤ len ∧ i = .int .i64 (j : Int) ∧ (m.l.take j).all (fun s => decide (s.size ≤ 200)) = true ∧ wr = W) (fun i _ => len - (intOf i).toNat)
  case atStart => exact ⟨0, by omega, rfl, rfl, rfl⟩
  case round =>
    obtain ⟨j, hj, rfl, hall, rfl⟩ := hrel
    by_cases hlt : j < len
    · have hj1 : j < m.l.length := by have := HL.out; omega
      obtain ⟨b, off, hA, hbw, t0⟩ := HSL.out.rd j (sv m.l[j]) (by simp [hj1])
      rw [hA] at c9
      have hnx : m.l[j].size ≤ 200 → (m.l.take (j + 1)).all (fun s => decide (s.size ≤ 200)) = true := fun h => by
        rw [List.take_succ_eq_append_getElem hj1, List.all_append, hall]; simp [h]
      have hno : ¬ m.l[j].size ≤ 200 → (m.l.all fun s => decide (s.size ≤ 200)) = false := fun h => by
        rw [Bool.eq_false_iff]
        intro h2
        have h3 := List.all_eq_true.1 h2 m.l[j] (List.getElem_mem hj1)
        exact h (by simpa using h3)
      have hji : (j : Int) < (len : Int) := by omega
      have hj0 : (0 : Int) ≤ (j : Int) := by omega
      unfold sv at t0
      generalize m.l[j] = x at *
      have HNX := hid hnx
      have HNO := hid hno
      clear hnx hno hall
      by_cases hx : x.size ≤ 200
      · have HX := hid (HNX.out hx)
        go_wp2_with fail
        exact ⟨⟨j + 1, by omega, by go_num, HX.out, trivial⟩, by simp [intOf] <;> omega⟩
      · have HX := hid (HNO.out hx)
        have hx' : 200 < x.size := by omega
        go_wp2_with fail
        go_ret
        exact ⟨by rw [HR.out, HX.out]; rfl, HBX.out⟩
    · obtain rfl : j = len := by omega
      rw [List.take_of_length_le (by have := HL.out; omega)] at hall
      have HX := hid hall
      clear hall
      go_wp2_with fail
      go_ret
      exact ⟨by rw [HR.out, HX.out]; rfl, HBX.out⟩
theorem kept_len {L : List SRow} {m : MV} : (keptM L m).l.length ≤ m.l.length := by
  unfold keptM; cases mkL L <;> simp
set_option maxRecDepth 100000 in
set_option maxHeartbeats 4000000 in
theorem vclean_any (m : MV) (v : Int) (w : World) (hl : m.l.length ≤ 1000000) (hs : Sl w m.A m.c (m.l.map sv)) (hv1 : -9223372036854775808 ≤ v) (hv2 : v ≤ 9223372036854775807) : Calls Try.prog 13 #[mvV m, .int .i64 v] w fun e w' => ∃ A' c', e = .returned (mvV { keptM (ofL (m.k : Int) v) m with A := A', c := c' }) ∧ w'.ownsRow (w.heap.size + 2) 9 1 (.slice A' (keptM (ofL (m.k : Int) v) m).l.length c') (keptM (ofL (m.k : Int) v) m).l.length ((keptM (ofL (m.k : Int) v) m).l.map sv) ∧ Below w.heap.size w w' := by
  have hkp := fun W => vkept_any m v W hv1 hv2
  generalize ofL (m.k : Int) v = L at *
  have hcp := fun W (hW : Below w.heap.size w W) => vcopy_any (keptM L m) W (by have := kept_len (L := L) (m := m); omega) (kept_sl L (hs.below hW))
  have hx : ∀ A' c', ∃ (a1 a2 a3 a4 a5 a6 : Nat) (t7 t8 : ByteArray) (ln9 : Nat), ln9 = (keptM L m).l.length ∧ mvV { keptM L m with A := A', c := c' } = .agg #[.int .u8 (m.k : Int), .int .u64 (a1 : Int), .int .u64 (a2 : Int), .int .u64 (a3 : Int), .int .u64 (a4 : Int), .int .u64 (a5 : Int), .int .u64 (a6 : Int), .string t7, .string t8, .slice A' ln9 c'] := fun A' c' => ⟨_, _, _, _, _, _, _, _, _, rfl, rfl⟩
  generalize mvV (keptM L m) = kv at *
  unfold mvV mvA at hkp
  have hkp2 : ∀ W, Calls Try.prog 35 #[.agg #[.int .u8 (m.k : Int), .int .u64 (m.n0 : Int), .int .u64 (m.n1 : Int), .int .u64 (m.n2 : Int), .int .u64 (m.n3 : Int), .int .u64 (m.n4 : Int), .int .u64 (m.n5 : Int), .string m.s0, .string m.s1, .slice m.A m.l.length m.c], .int .i64 v] W fun e w' => e = .returned kv ∧ Below W.heap.size W w' := hkp
  have hmv : mvV m = .agg #[.int .u8 (m.k : Int), .int .u64 (m.n0 : Int), .int .u64 (m.n1 : Int), .int .u64 (m.n2 : Int), .int .u64 (m.n3 : Int), .int .u64 (m.n4 : Int), .int .u64 (m.n5 : Int), .string m.s0, .string m.s1, .slice m.A m.l.length m.c] := rfl
  rw [hmv]
  clear hkp hmv hl hs
  generalize m.l.length = len at *
  have HKP := hid hkp2
  have HCP := hid hcp
  have HX := hid hx
  clear hkp2 hcp hx
  obtain ⟨s, hws⟩ : ∃ s, w.heap.size = s := ⟨_, rfl⟩
  rw [hws] at HCP
  rw [hws]
  go_enter Try.func13, Try.ntmps13
  go_wp2_with fail
  have hz : ((w.alloc (.cells #[.int .u8 (m.k : Int), .int .u64 (m.n0 : Int), .int .u64 (m.n1 : Int), .int .u64 (m.n2 : Int), .int .u64 (m.n3 : Int), .int .u64 (m.n4 : Int), .int .u64 (m.n5 : Int), .string m.s0, .string m.s1, .slice m.A len m.c] 27)).alloc (.cells #[.int .u8 0, .int .u64 0, .int .u64 0, .int .u64 0, .int .u64 0, .int .u64 0, .int .u64 0, .string ⟨#[]⟩, .string ⟨#[]⟩, .slice none 0 0] 27)).heap.size = s + 2 := by simp [hws]
  have hb0 := bw_a (bw_a (Below.refl w.heap.size w) (.cells #[.int .u8 (m.k : Int), .int .u64 (m.n0 : Int), .int .u64 (m.n1 : Int), .int .u64 (m.n2 : Int), .int .u64 (m.n3 : Int), .int .u64 (m.n4 : Int), .int .u64 (m.n5 : Int), .string m.s0, .string m.s1, .slice m.A len m.c] 27)) (.cells #[.int .u8 0, .int .u64 0, .int .u64 0, .int .u64 0, .int .u64 0, .int .u64 0, .int .u64 0, .string ⟨#[]⟩, .string ⟨#[]⟩, .slice none 0 0] 27)
  have hk1 := Blk.new (w.alloc (.cells #[.int .u8 (m.k : Int), .int .u64 (m.n0 : Int), .int .u64 (m.n1 : Int), .int .u64 (m.n2 : Int), .int .u64 (m.n3 : Int), .int .u64 (m.n4 : Int), .int .u64 (m.n5 : Int), .string m.s0, .string m.s1, .slice m.A len m.c] 27)) 27 #[.int .u8 0, .int .u64 0, .int .u64 0, .int .u64 0, .int .u64 0, .int .u64 0, .int .u64 0, .string ⟨#[]⟩, .string ⟨#[]⟩, .slice none 0 0]
  rw [World.size_alloc] at hk1
  rw [hws] at hb0 hk1
  generalize (w.alloc _).alloc _ = W at *
  refine (HKP.out W).mono ?_
  rintro e w1 ⟨rfl, hb1⟩
  have hB1 := hb0.trans (hb1.mono (by omega))
  have hw1 : s + 2 ≤ w1.heap.size := by have := hb1.size; omega
  have hk1 := hk1.below hb1 (by omega)
  have HB1 := hid hB1
  have HK1 := hid hk1
  clear hb0 hb1 hk1 hB1 hz
  go_wp2_with fail
  refine (HCP.out _ HB1.out).mono ?_
  rintro e w2 ⟨A', c', rfl, ho2, hb2⟩
  obtain ⟨a1, a2, a3, a4, a5, a6, t7, t8, ln9, hln, hxx⟩ := HX.out A' c'
  have hk2 := HK1.out.below hb2 (by omega)
  have hB2 := HB1.out.trans (hb2.mono (by omega))
  have ho3 := own_mono ho2 (show s + 2 ≤ w1.heap.size + 2 by omega)
  have hs2 := hb2.size
  rw [← hln] at ho3
  have HLN := hid hln
  have HXX := hid hxx
  have HO := hid ho3
  have HB2 := hid hB2
  have HK2 := hid hk2
  rw [hxx]
  have hend := mstore hk2 (.int .u8 (m.k : Int)) (.int .u64 (a1 : Int)) (.int .u64 (a2 : Int)) (.int .u64 (a3 : Int)) (.int .u64 (a4 : Int)) (.int .u64 (a5 : Int)) (.int .u64 (a6 : Int)) (.string t7) (.string t8) (.slice A' ln9 c')
  have HE := hid hend
  have d0 := hk2.cell 0
  have g0 := hk2.frozen 0
  have d1 := hk2.cell 1
  have g1 := hk2.frozen 1
  have d2 := hk2.cell 2
  have g2 := hk2.frozen 2
  have d3 := hk2.cell 3
  have g3 := hk2.frozen 3
  have d4 := hk2.cell 4
  have g4 := hk2.frozen 4
  have d5 := hk2.cell 5
  have g5 := hk2.frozen 5
  have d6 := hk2.cell 6
  have g6 := hk2.frozen 6
  have d7 := hk2.cell 7
  have g7 := hk2.frozen 7
  have d8 := hk2.cell 8
  have g8 := hk2.frozen 8
  have d9 := hk2.cell 9
  have g9 := hk2.frozen 9
  simp only [List.getElem?_toArray, List.getElem?_cons_zero, List.getElem?_cons_succ] at d0 d1 d2 d3 d4 d5 d6 d7 d8 d9
  clear hend hln hxx ho2 ho3 hk2 hB2 hb2
  go_wp2_with fail
  have hB3 := HB2.out.trans (HE.out.2.below (B := s) (fun q hq => by omega) (by omega))
  have ho4 := own_chgS HO.out HE.out.2 (fun g hg hk => by have := (HO.out.lt g hg).1; omega)
  have hbk := HE.out.1
  have r0 := hbk.cell 0
  have r1 := hbk.cell 1
  have r2 := hbk.cell 2
  have r3 := hbk.cell 3
  have r4 := hbk.cell 4
  have r5 := hbk.cell 5
  have r6 := hbk.cell 6
  have r7 := hbk.cell 7
  have r8 := hbk.cell 8
  have r9 := hbk.cell 9
  clear HE hbk
  generalize World.setCell (World.setCell _ _ _) _ _ = W9 at *
  simp only [List.getElem?_toArray, List.getElem?_cons_zero, List.getElem?_cons_succ] at r0 r1 r2 r3 r4 r5 r6 r7 r8 r9
  refine bodyPost_ret (v := .agg #[.int .u8 (m.k : Int), .int .u64 (a1 : Int), .int .u64 (a2 : Int), .int .u64 (a3 : Int), .int .u64 (a4 : Int), .int .u64 (a5 : Int), .int .u64 (a6 : Int), .string t7, .string t8, .slice A' ln9 c']) (by simp [results, Try.results13, go_sem, r0, r1, r2, r3, r4, r5, r6, r7, r8, r9]) rfl ?_
  exact ⟨A', c', by rw [HXX.out], by rw [← HLN.out]; exact ho4, hB3⟩
end Go.Proofs.Ytehjibbjkadoiaa
