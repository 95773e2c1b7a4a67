/- What must be whatever is asked: layer 14; frames awake. -/
import Derived.Test.YtgpkjlaplmdnaaaRsRow
import Derived.Test.YtgpkjlaplmdnaaaFrRefR
import Derived.Test.YtgpkjlaplmdnaaaFrU
set_option linter.unusedVariables false
namespace Go.Proofs.Ytgpkjlaplmdnaaa
open Go.RowKit
theorem AllR.go {w w' : World} {fin : Bool} {bs : List UInt8} {e : Ending} {l : List Fnd} {k n : Nat} (h : AllR w fin bs e w') (hw : Rs.wk fin bs 0 = (l, k)) (hn : l.length = n) : ∃ A c, e = .returned (.tuple #[.slice A n c, .int .i64 (k : Int)]) ∧ FdRow w.heap.size w' (.slice A n c) l ∧ Below w.heap.size w w' := by
  unfold AllR at h
  rw [hw] at h
  simp only [hn] at h
  exact h
theorem l14_put (W : World) (A : Option Addr) (c : Nat) (h : Sl W A c (([1] : List UInt8).map bv)) : Calls Try.prog 18 #[.agg #[.int .u8 7, .slice A 1 c]] W fun e w' => ∃ A' c', e = .returned (.slice A' 10 c') ∧ Sl w' A' c' ((Fr.put 7 [1]).map bv) ∧ Below W.heap.size W w' := by
  refine Calls.mono (rfput_any 7 [1] 1 A c W rfl (by omega) h) ?_
  rintro e w1 ⟨v1, rfl, ho1, hb1⟩
  obtain ⟨A1, c1, rfl, -, hs⟩ := Sl.of_own ho1
  exact ⟨A1, c1, rfl, hs, hb1⟩
theorem l14_join (W : World) (A B : Option Addr) (c d : Nat) (hA : Sl W A c (([0, 197] : List UInt8).map bv)) (hB : Sl W B d ((Fr.put 7 [1]).map bv)) : Calls Try.prog 32 #[.slice A 2 c, .slice B 10 d] W fun e w' => ∃ A' c', e = .returned (.slice A' 12 c') ∧ Sl w' A' c' (([0, 197] ++ Fr.put 7 [1]).map bv) ∧ Below W.heap.size W w' := by
  refine Calls.mono (rjoin2_any [0, 197] (Fr.put 7 [1]) 2 10 A B c d W rfl (by rw [Fr.put_len]; rfl) (by omega) hA hB) ?_
  rintro e w1 ⟨A1, c1, rfl, hs, -, hb⟩
  exact ⟨A1, c1, rfl, hs, hb⟩
theorem l14_len : ([0, 197] ++ Fr.put 7 [1]).length = 12 := by rw [List.length_append, Fr.put_len]; rfl
theorem l14_all (W : World) (A : Option Addr) (c : Nat) (h : Sl W A c (([0, 197] ++ Fr.put 7 [1]).map bv)) : Calls Try.prog 24 #[.slice A 12 c] W fun e w' => ∃ g o c', e = .returned (.tuple #[.slice (some ⟨g, o, none⟩) 1 c', .int .i64 12]) ∧ 1 ≤ c' ∧ g < w'.heap.size ∧ w'.cell? ⟨g, o, none⟩ = some (.int .i64 2) ∧ w'.cell? ⟨g, o + 1, none⟩ = some (.int .u8 7) ∧ Below W.heap.size W w' := by
  refine (sall_any _ 12 A c W l14_len (by omega) h).mono ?_
  intro e w' hr
  obtain ⟨A', c', rfl, hrow, hb⟩ := hr.go l14_wk rfl
  obtain ⟨b, off, Ap, cp, rfl, hbl, t0, t1, -, -, hc, -⟩ := hrow.get rfl 0 (by decide)
  exact ⟨b, off, c', rfl, hc, hbl, t0, t1, hb⟩
theorem l14_all2 (W : World) (N : Nat) (hN : W.heap.size = N) : Calls Try.prog 24 #[.slice (some ⟨N, 0, none⟩) 3 3] (W.alloc (.cells #[.int .u8 197, .int .u8 154, .int .u8 1] 5)) fun e w' => ∃ A c', e = .returned (.tuple #[.slice A 0 c', .int .i64 0]) ∧ Below W.heap.size W w' := by
  subst hN
  refine (sall_any [197, 154, 1] 3 _ 3 _ rfl (by omega) (lit_sl W 5 [197, 154, 1] #[.int .u8 197, .int .u8 154, .int .u8 1] 3 rfl (by omega) rfl)).mono ?_
  intro e w' hr
  obtain ⟨A', c', rfl, -, hb⟩ := hr.go l14_wk2 rfl
  exact ⟨A', c', rfl, bw_t (bw_a (Below.refl _ W) _) hb⟩
theorem l14_ended (W : World) (N : Nat) (hN : W.heap.size = N) : Calls Try.prog 30 #[.slice (some ⟨N, 0, none⟩) 2 2] (W.alloc (.cells #[.int .u8 197, .int .u8 154] 5)) fun e w' => ∃ A c', e = .returned (.slice A 0 c') ∧ Below W.heap.size W w' := by
  subst hN
  refine (sended_any [197, 154] 2 _ 2 _ rfl (by omega) (lit_sl W 5 [197, 154] #[.int .u8 197, .int .u8 154] 2 rfl (by omega) rfl)).mono ?_
  rintro e w' ⟨A', c', rfl, -, hb⟩
  rw [l14_wk3]
  exact ⟨A', c', rfl, bw_t (bw_a (Below.refl _ W) _) hb⟩
theorem l14_could (W : World) (N : Nat) (hN : W.heap.size = N) : Calls Try.prog 31 #[.slice (some ⟨N, 0, none⟩) 1 1] (W.alloc (.cells #[.int .u8 197] 5)) fun e w' => e = .returned (.bool true) ∧ Below W.heap.size W w' := by
  subst hN
  refine (scould_any [197] 1 _ 1 _ rfl (lit_sl W 5 [197] #[.int .u8 197] 1 rfl (by omega) rfl)).mono ?_
  rintro e w' ⟨rfl, hb⟩
  rw [l13_e2]
  exact ⟨rfl, bw_t (bw_a (Below.refl _ W) _) hb⟩
theorem l14_could2 (W : World) (N : Nat) (hN : W.heap.size = N) : Calls Try.prog 31 #[.slice (some ⟨N, 0, none⟩) 1 1] (W.alloc (.cells #[.int .u8 0] 5)) fun e w' => e = .returned (.bool false) ∧ Below W.heap.size W w' := by
  subst hN
  refine (scould_any [0] 1 _ 1 _ rfl (lit_sl W 5 [0] #[.int .u8 0] 1 rfl (by omega) rfl)).mono ?_
  rintro e w' ⟨rfl, hb⟩
  rw [l14_e0]
  exact ⟨rfl, bw_t (bw_a (Below.refl _ W) _) hb⟩
theorem l14_passed (W : World) (A : Option Addr) (c : Nat) (h : Sl W A c (([0, 197] ++ Fr.put 7 [1]).map bv)) : Calls Try.prog 29 #[.slice A 12 c] W fun e w' => e = .returned (.int .i64 2) ∧ Below W.heap.size W w' := by
  have h1 := spassed_any _ 12 A c W l14_len (by omega) h
  rw [l14_wk] at h1
  simp only [l14_gp] at h1
  exact h1
theorem l14_whole (W : World) (A : Option Addr) (c : Nat) (h : Sl W A c (([0, 197] ++ Fr.put 7 [1]).map bv)) : Calls Try.prog 26 #[.slice A 12 c] W fun e w' => ∃ A' c', e = .returned (.slice A' 1 c') ∧ Below W.heap.size W w' := by
  refine (swhole_any _ 12 A c W l14_len (by omega) h).mono ?_
  rintro e w' ⟨v, rfl, ho, hb⟩
  obtain ⟨A', c', rfl⟩ := row_slice_g ho
  rw [l14_wh]
  exact ⟨A', c', rfl, hb⟩
set_option maxRecDepth 100000 in
set_option maxHeartbeats 4000000 in
theorem live14_any (w : World) : Calls Try.prog 23 #[] w fun e w' => e = .returned (.bool true) ∧ Below w.heap.size w w' := by
  have hl0 := (lit_sl w 5 [0, 197] #[.int .u8 0, .int .u8 197] 2 rfl (by omega) rfl).below (bw_a (Below.refl _ _) (.cells #[.int .u8 1] 5))
  have hl1 := lit_sl (w.alloc (.cells #[.int .u8 0, .int .u8 197] 5)) 5 [1] #[.int .u8 1] 1 rfl (by omega) rfl
  rw [World.size_alloc] at hl1
  have HL0 := hid hl0
  have HL1 := hid hl1
  have HB0 := hid (bw_a (bw_a (Below.refl _ w) (.cells #[.int .u8 0, .int .u8 197] 5)) (.cells #[.int .u8 1] 5))
  clear hl0 hl1
  go_enter Try.func23, Try.ntmps23
  go_wp2_with fail
  refine (l14_put _ _ _ HL1.out).mono ?_
  rintro e w1 ⟨A1, c1, rfl, hs1, hb1⟩
  have HB1 := hid (bw_t HB0.out hb1)
  have HL := hid (HL0.out.below hb1)
  have HS1 := hid hs1
  clear hs1 hb1
  go_wp2_with fail
  refine (l14_join _ _ _ _ _ HL.out HS1.out).mono ?_
  rintro e w2 ⟨A2, c2, rfl, hs2, hb2⟩
  have HB2 := hid (bw_t HB1.out hb2)
  have HS2 := hid hs2
  clear hs2 hb2
  go_wp2_with fail
  refine (l14_all _ _ _ HS2.out).mono ?_
  rintro e w3 ⟨g, o, c3, rfl, hc3, hg3, t0, t1, hb3⟩
  have HB3 := hid (bw_t HB2.out hb3)
  have HS3 := hid (HS2.out.below hb3)
  clear hb3
  go_wp2_with fail
  refine (l14_all2 _ _ rfl).mono ?_
  rintro e w4 ⟨A4, c4, rfl, hb4⟩
  have t0 := (hb4.cell (p := ⟨g, o, none⟩) hg3).trans t0
  have t1 := (hb4.cell (p := ⟨g, o + 1, none⟩) hg3).trans t1
  have hg4 : g < w4.heap.size := Nat.lt_of_lt_of_le hg3 hb4.size
  have HB4 := hid (bw_t HB3.out hb4)
  have HS4 := hid (HS3.out.below hb4)
  clear hb4
  go_wp2_with fail
  refine (l14_passed _ _ _ HS4.out).mono ?_
  rintro e w5 ⟨rfl, hb5⟩
  have HB5 := hid (bw_t HB4.out hb5)
  have HS5 := hid (HS4.out.below hb5)
  clear hb5
  go_wp2_with fail
  refine (l14_could _ _ rfl).mono ?_
  rintro e w6 ⟨rfl, hb6⟩
  have HB6 := hid (bw_t HB5.out hb6)
  have HS6 := hid (HS5.out.below hb6)
  clear hb6
  go_wp2_with fail
  refine (l14_could2 _ _ rfl).mono ?_
  rintro e w7 ⟨rfl, hb7⟩
  have HB7 := hid (bw_t HB6.out hb7)
  have HS7 := hid (HS6.out.below hb7)
  clear hb7
  go_wp2_with fail
  refine (l14_ended _ _ rfl).mono ?_
  rintro e w8 ⟨A8, c8, rfl, hb8⟩
  have HB8 := hid (bw_t HB7.out hb8)
  have HS8 := hid (HS7.out.below hb8)
  clear hb8
  go_wp2_with fail
  refine (l14_whole _ _ _ HS8.out).mono ?_
  rintro e w9 ⟨A9, c9, rfl, hb9⟩
  have HB9 := hid (bw_t HB8.out hb9)
  clear hb9
  go_wp2_with fail
  go_ret
  exact ⟨by simp, HB9.out⟩
theorem l7_put (W : World) (A : Option Addr) (c : Nat) (h : Sl W A c (([1] : List UInt8).map bv)) : Calls Try.prog 15 #[.agg #[.int .u8 3, .slice A 1 c]] W fun e w' => ∃ A' c', e = .returned (.tuple #[.slice A' 10 c', .int .i64 0]) ∧ Sl w' A' c' ((Fr.put 3 [1]).map bv) ∧ Below W.heap.size W w' := by
  refine Calls.mono (fput_any 3 [1] 1 A c W rfl (by omega) h) ?_
  rintro e w1 ⟨v1, rfl, ho1, hb1⟩
  obtain ⟨A1, c1, rfl, -, hs⟩ := Sl.of_own ho1
  exact ⟨A1, c1, rfl, hs, hb1⟩
theorem l7_all (W : World) (A : Option Addr) (c : Nat) (h : Sl W A c (([0] ++ Fr.put 3 [1]).map bv)) : Calls Try.prog 24 #[.slice A 11 c] W fun e w' => ∃ g o c', e = .returned (.tuple #[.slice (some ⟨g, o, none⟩) 1 c', .int .i64 11]) ∧ 1 ≤ c' ∧ g < w'.heap.size ∧ w'.cell? ⟨g, o, none⟩ = some (.int .i64 1) ∧ Below W.heap.size W w' := by
  refine (sall_any _ 11 A c W (by rw [List.length_append, Fr.put_len]; rfl) (by omega) h).mono ?_
  intro e w' hr
  obtain ⟨A', c', rfl, hrow, hb⟩ := hr.go l14_wk4 rfl
  obtain ⟨b, off, Ap, cp, rfl, hbl, t0, t1, -, -, hc, -⟩ := hrow.get rfl 0 (by decide)
  exact ⟨b, off, c', rfl, hc, hbl, t0, hb⟩
set_option maxRecDepth 100000 in
set_option maxHeartbeats 4000000 in
theorem awake7_any (w : World) : Calls Try.prog 37 #[] w fun e w' => e = .returned (.bool true) ∧ Below w.heap.size w w' := by
  obtain ⟨i0, hi, hz0, hz1, hz2⟩ := info_parts Try.info5
  go_enter Try.func37, Try.ntmps37
  go_wp2_with fail
  refine (l7_put _ _ _ (lit_sl w 5 [1] #[.int .u8 1] 1 rfl (by omega) rfl)).mono ?_
  rintro e w1 ⟨A1, c1, rfl, hs1, hb1⟩
  have hrow : (w1.alloc (.cells #[.int .u8 0] 5)).ownsRow w1.heap.size 5 1 (.slice (some ⟨w1.heap.size, 0, none⟩) 1 1) 1 (([0] : List UInt8).map bv) := World.ownsRow_lit w1 #[.int .u8 0] 1 (Nat.le_refl _) (by simp only [maxLen]; omega) rfl
  have HROW := hid hrow
  have HS1 := hid (hs1.below (bw_a (Below.refl _ w1) (.cells #[.int .u8 0] 5)))
  have HB1 := hid (bw_a (bw_t (bw_a (Below.refl _ w) _) hb1) (.cells #[.int .u8 0] 5))
  have hsz : w.heap.size ≤ w1.heap.size := (bw_t (bw_a (Below.refl _ w) _) hb1).size
  clear hrow hs1 hb1
  go_wp2_with (at_builtin; refine wpList_append_rd rfl (.tmp 12) (.tmp 13) 22 rfl w1.heap.size 5 i0 (.int .u8 0) 1 1 Try.underlying22 hi hz0 hz1 hz2 rfl (by decide) _ _ _ rfl HROW.out A1 10 c1 ((Fr.put 3 [1]).map bv) rfl (by rw [List.length_map, Fr.put_len]; rfl) HS1.out.rd HS1.out.nil0 (bv_one _) (by simp only [maxLen]; omega) (by omega) (by simp) ?_; intro v2 w2 hown2 hgrow2; have HO2 := hid hown2; have HB2 := hid (bw_g HB1.out hgrow2 (fun k ek => by have := (HROW.out.lt k ek).1; omega)); clear hown2 hgrow2)
  have ho2 := HO2.out
  rw [← List.map_append] at ho2
  obtain ⟨A2, c2, rfl⟩ := row_slice_g ho2
  refine (l7_all _ _ _ (Sl.of_own'' ho2)).mono ?_
  rintro e w3 ⟨g, o, c3, rfl, hc3, hg3, t0, hb3⟩
  have HB3 := hid (bw_t HB2.out hb3)
  clear hb3 ho2
  go_wp2_with fail
  go_ret
  exact ⟨by simp, HB3.out⟩
end Go.Proofs.Ytgpkjlaplmdnaaa
