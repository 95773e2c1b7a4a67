/- The walks of ValueChecks and ValuePlaces. -/
import Derived.Test.YtdnjhknjffbkkaaLive9
import Derived.Test.YtdnjhknjffbkkaaVRef5
set_option linter.unusedVariables false
namespace Go.Proofs.Ytdnjhknjffbkkaa
open Go.RowKit
set_option maxRecDepth 100000 in
set_option maxHeartbeats 4000000 in
theorem valChecks_any (m : MV) (v : Int) (w : World) (hok : MvOk w m) (hv1 : -9223372036854775808 ≤ v) (hv2 : v ≤ 9223372036854775807) : Calls Try.prog 3 #[mvV m, .int .i64 v] w fun e w' => e = .returned (.bool true) ∧ Below w.heap.size w w' := by
  have hsm := fun W (hW : Below w.heap.size w W) => small9_any m W (hok.l.below hW)
  have hvc := fun W (hW : Below w.heap.size w W) => vcheck_any m v W (hok.below hW) hv1 hv2
  have hrc := fun W (hW : Below w.heap.size w W) => rcheck9_any m v W (hok.below hW) hv1 hv2
  generalize chkV m (ofL (m.k : Int) v) = R at *
  obtain ⟨x, y⟩ := R
  unfold FltOf at hvc hrc
  simp only at hvc hrc
  generalize smallB m = sb at *
  clear hok
  unfold mvV mvA at *
  generalize m.l.length = len at *
  obtain ⟨s, hws⟩ : ∃ s, w.heap.size = s := ⟨_, rfl⟩
  rw [hws] at hsm hvc hrc ⊢
  have hk := Blk.new w 27 #[.int .u8 (m.k : Int), .int .u64 (m.n0 : Int), .int .u64 (m.n1 : Int), .int .u64 (m.n2 : Int), .int .u64 (m.n3 : Int), .int .u64 (m.n4 : Int), .int .u64 (m.n5 : Int), .string m.s0, .string m.s1, .slice m.A len m.c]
  have hb := bw_a (Below.refl w.heap.size w) (.cells #[.int .u8 (m.k : Int), .int .u64 (m.n0 : Int), .int .u64 (m.n1 : Int), .int .u64 (m.n2 : Int), .int .u64 (m.n3 : Int), .int .u64 (m.n4 : Int), .int .u64 (m.n5 : Int), .string m.s0, .string m.s1, .slice m.A len m.c] 27)
  rw [hws] at hk hb
  have HSM := hid hsm
  have HVC := hid hvc
  have HRC := hid hrc
  clear hsm hvc hrc
  obtain ⟨W, hW⟩ : ∃ W, w.alloc (.cells #[.int .u8 (m.k : Int), .int .u64 (m.n0 : Int), .int .u64 (m.n1 : Int), .int .u64 (m.n2 : Int), .int .u64 (m.n3 : Int), .int .u64 (m.n4 : Int), .int .u64 (m.n5 : Int), .string m.s0, .string m.s1, .slice m.A len m.c] 27) = W := ⟨_, rfl⟩
  rw [hW] at hk hb
  have HK := hid hk
  have HB := hid hb
  have hlt := hk.lt
  clear hk hb
  go_enter Try.func3, Try.ntmps3
  go_wp2_with fail
  clear hW
  refine (live9_any W).mono ?_
  rintro e w1 ⟨rfl, hb1⟩
  have hk1 := HK.out.below hb1 hlt
  have hB1 := HB.out.trans (hb1.mono (by omega))
  have c0 := hk1.cell 0
  have c1 := hk1.cell 1
  have c2 := hk1.cell 2
  have c3 := hk1.cell 3
  have c4 := hk1.cell 4
  have c5 := hk1.cell 5
  have c6 := hk1.cell 6
  have c7 := hk1.cell 7
  have c8 := hk1.cell 8
  have c9 := hk1.cell 9
  simp only [List.getElem?_toArray, List.getElem?_cons_zero, List.getElem?_cons_succ] at c0 c1 c2 c3 c4 c5 c6 c7 c8 c9
  have HB1 := hid hB1
  have hl1 := hk1.lt
  have HK1 := hid hk1
  clear hk1 hb1 hB1
  go_wp2_with fail
  refine (HSM.out _ HB1.out).mono ?_
  rintro e w2 ⟨rfl, hb2⟩
  have hk2 := HK1.out.below hb2 hl1
  have HB2 := hid (HB1.out.trans (hb2.mono (by omega)))
  have hl2 := hk2.lt
  clear c0 c1 c2 c3 c4 c5 c6 c7 c8 c9
  have c0 := hk2.cell 0
  have c1 := hk2.cell 1
  have c2 := hk2.cell 2
  have c3 := hk2.cell 3
  have c4 := hk2.cell 4
  have c5 := hk2.cell 5
  have c6 := hk2.cell 6
  have c7 := hk2.cell 7
  have c8 := hk2.cell 8
  have c9 := hk2.cell 9
  simp only [List.getElem?_toArray, List.getElem?_cons_zero, List.getElem?_cons_succ] at c0 c1 c2 c3 c4 c5 c6 c7 c8 c9
  clear hk2 hb2
  cases sb with
  | false =>
    go_wp2_with fail
    go_ret
    exact ⟨rfl, HB2.out⟩
  | true =>
    have HC := hid (And.intro c0 (And.intro c1 (And.intro c2 (And.intro c3 (And.intro c4 (And.intro c5 (And.intro c6 (And.intro c7 (And.intro c8 c9)))))))))
    have HZ := hid (show s ≤ w2.heap.size by omega)
    go_wp2_with fail
    go_region_held3 (fun w' => w'.cell? ⟨s, 0, none⟩ = some (.int .u8 (m.k : Int)) ∧ w'.cell? ⟨s, 1, none⟩ = some (.int .u64 (m.n0 : Int)) ∧ w'.cell? ⟨s, 2, none⟩ = some (.int .u64 (m.n1 : Int)) ∧ w'.cell? ⟨s, 3, none⟩ = some (.int .u64 (m.n2 : Int)) ∧ w'.cell? ⟨s, 4, none⟩ = some (.int .u64 (m.n3 : Int)) ∧ w'.cell? ⟨s, 5, none⟩ = some (.int .u64 (m.n4 : Int)) ∧ w'.cell? ⟨s, 6, none⟩ = some (.int .u64 (m.n5 : Int)) ∧ w'.cell? ⟨s, 7, none⟩ = some (.string m.s0) ∧ w'.cell? ⟨s, 8, none⟩ = some (.string m.s1) ∧ w'.cell? ⟨s, 9, none⟩ = some (.slice m.A len m.c)) (first | exact HC.out | go_keep) (first | (go_at_call 15; refine (HVC.out _ (by first | exact HB2.out | exact drew_bel HB2.out)).mono ?_; rintro e w3 ⟨rfl, hb3⟩; have HC := hid (heldm hb3 (by first | exact HC.out)); have HB2 := hid (show Below s w w3 from (by first | exact HB2.out.trans (hb3.mono HZ.out) | exact (drew_bel HB2.out).trans (hb3.mono HZ.out))); have HZ := hid (Nat.le_trans HZ.out hb3.size)) | (go_at_call 16; refine (HRC.out _ (by first | exact HB2.out | exact drew_bel HB2.out)).mono ?_; rintro e w3 ⟨rfl, hb3⟩; have HC := hid (heldm hb3 (by first | exact HC.out)); have HB2 := hid (show Below s w w3 from (by first | exact HB2.out.trans (hb3.mono HZ.out) | exact (drew_bel HB2.out).trans (hb3.mono HZ.out))); have HZ := hid (Nat.le_trans HZ.out hb3.size)))
    go_wp2_with fail
    go_ret
    exact ⟨by simp, HB2.out⟩
set_option maxRecDepth 100000 in
set_option maxHeartbeats 4000000 in
theorem valPlaces_any (m : MV) (num t i sl : Int) (w : World) : Calls Try.prog 4 #[mvV m, .agg #[.int .i64 num, .int .i64 t, .int .i64 i], .int .i64 sl] w fun e w' => e = .returned (.bool true) ∧ Below w.heap.size w w' := by
  have hvi := fun W => vint_any m sl W
  have hvd := fun W => vdef_any m num t i W
  have hrd := fun W => rdef_any m num t i W
  have hout := num_out m sl
  generalize dflB m t i = db at *
  unfold mvV mvA at *
  generalize m.l.length = len at *
  obtain ⟨s, hws⟩ : ∃ s, w.heap.size = s := ⟨_, rfl⟩
  have hbx := bx2 w s len m num t i hws
  rw [hws]
  have HVD := hid hvd
  have HRD := hid hrd
  clear hvd hrd
  obtain ⟨W, hW⟩ : ∃ W, (w.alloc (.cells #[.int .u8 (m.k : Int), .int .u64 (m.n0 : Int), .int .u64 (m.n1 : Int), .int .u64 (m.n2 : Int), .int .u64 (m.n3 : Int), .int .u64 (m.n4 : Int), .int .u64 (m.n5 : Int), .string m.s0, .string m.s1, .slice m.A len m.c] 27)).alloc (.cells #[.int .i64 num, .int .i64 t, .int .i64 i] 36) = W := ⟨_, rfl⟩
  rw [hW] at hbx
  have HBX := hid hbx
  clear hbx
  have hcase : (sl < 0 ∨ 6 ≤ sl) ∨ sl = 0 ∨ sl = 1 ∨ sl = 2 ∨ sl = 3 ∨ sl = 4 ∨ sl = 5 := by omega
  rcases hcase with h | rfl | rfl | rfl | rfl | rfl | rfl
  case' inl =>
    have hz := hout h
    rw [hz, show wrap64 ((0 : Nat) : Int) = 0 by decide +kernel] at hvi
    have hvi2 : ∀ W, Calls Try.prog 17 #[.agg #[.int .u8 (m.k : Int), .int .u64 (m.n0 : Int), .int .u64 (m.n1 : Int), .int .u64 (m.n2 : Int), .int .u64 (m.n3 : Int), .int .u64 (m.n4 : Int), .int .u64 (m.n5 : Int), .string m.s0, .string m.s1, .slice m.A len m.c], .int .i64 sl] W fun e w' => e = .returned (.int .i64 0) ∧ Below W.heap.size W w' := hvi
    have HVI := hid hvi2
    clear hz hvi2
  case' inr.inl =>
    have hvi2 : ∀ W, Calls Try.prog 17 #[.agg #[.int .u8 (m.k : Int), .int .u64 (m.n0 : Int), .int .u64 (m.n1 : Int), .int .u64 (m.n2 : Int), .int .u64 (m.n3 : Int), .int .u64 (m.n4 : Int), .int .u64 (m.n5 : Int), .string m.s0, .string m.s1, .slice m.A len m.c], .int .i64 0] W fun e w' => e = .returned (.int .i64 (wrap64 (m.n0 : Nat))) ∧ Below W.heap.size W w' := hvi
    have HVI := hid hvi2
    clear hvi2
  case' inr.inr.inl =>
    have hvi2 : ∀ W, Calls Try.prog 17 #[.agg #[.int .u8 (m.k : Int), .int .u64 (m.n0 : Int), .int .u64 (m.n1 : Int), .int .u64 (m.n2 : Int), .int .u64 (m.n3 : Int), .int .u64 (m.n4 : Int), .int .u64 (m.n5 : Int), .string m.s0, .string m.s1, .slice m.A len m.c], .int .i64 1] W fun e w' => e = .returned (.int .i64 (wrap64 (m.n1 : Nat))) ∧ Below W.heap.size W w' := hvi
    have HVI := hid hvi2
    clear hvi2
  case' inr.inr.inr.inl =>
    have hvi2 : ∀ W, Calls Try.prog 17 #[.agg #[.int .u8 (m.k : Int), .int .u64 (m.n0 : Int), .int .u64 (m.n1 : Int), .int .u64 (m.n2 : Int), .int .u64 (m.n3 : Int), .int .u64 (m.n4 : Int), .int .u64 (m.n5 : Int), .string m.s0, .string m.s1, .slice m.A len m.c], .int .i64 2] W fun e w' => e = .returned (.int .i64 (wrap64 (m.n2 : Nat))) ∧ Below W.heap.size W w' := hvi
    have HVI := hid hvi2
    clear hvi2
  case' inr.inr.inr.inr.inl =>
    have hvi2 : ∀ W, Calls Try.prog 17 #[.agg #[.int .u8 (m.k : Int), .int .u64 (m.n0 : Int), .int .u64 (m.n1 : Int), .int .u64 (m.n2 : Int), .int .u64 (m.n3 : Int), .int .u64 (m.n4 : Int), .int .u64 (m.n5 : Int), .string m.s0, .string m.s1, .slice m.A len m.c], .int .i64 3] W fun e w' => e = .returned (.int .i64 (wrap64 (m.n3 : Nat))) ∧ Below W.heap.size W w' := hvi
    have HVI := hid hvi2
    clear hvi2
  case' inr.inr.inr.inr.inr.inl =>
    have hvi2 : ∀ W, Calls Try.prog 17 #[.agg #[.int .u8 (m.k : Int), .int .u64 (m.n0 : Int), .int .u64 (m.n1 : Int), .int .u64 (m.n2 : Int), .int .u64 (m.n3 : Int), .int .u64 (m.n4 : Int), .int .u64 (m.n5 : Int), .string m.s0, .string m.s1, .slice m.A len m.c], .int .i64 4] W fun e w' => e = .returned (.int .i64 (wrap64 (m.n4 : Nat))) ∧ Below W.heap.size W w' := hvi
    have HVI := hid hvi2
    clear hvi2
  case' inr.inr.inr.inr.inr.inr =>
    have hvi2 : ∀ W, Calls Try.prog 17 #[.agg #[.int .u8 (m.k : Int), .int .u64 (m.n0 : Int), .int .u64 (m.n1 : Int), .int .u64 (m.n2 : Int), .int .u64 (m.n3 : Int), .int .u64 (m.n4 : Int), .int .u64 (m.n5 : Int), .string m.s0, .string m.s1, .slice m.A len m.c], .int .i64 5] W fun e w' => e = .returned (.int .i64 (wrap64 (m.n5 : Nat))) ∧ Below W.heap.size W w' := hvi
    have HVI := hid hvi2
    clear hvi2
  case inl =>
    rcases h with h | h
    · clear hvi hout
      go_enter Try.func4, Try.ntmps4
      go_wp2_with fail
      clear hW
      refine (live9_any W).mono ?_
      rintro e w1 ⟨rfl, hb1⟩
      have hlt := HBX.out.b1.lt
      have hk1 := HBX.out.b0.below hb1 (by omega)
      have hj1 := HBX.out.b1.below hb1 (by omega)
      have hB1 := HBX.out.bel.trans (hb1.mono (by omega))
      have c0 := hk1.cell 0
      have c1 := hk1.cell 1
      have c2 := hk1.cell 2
      have c3 := hk1.cell 3
      have c4 := hk1.cell 4
      have c5 := hk1.cell 5
      have c6 := hk1.cell 6
      have c7 := hk1.cell 7
      have c8 := hk1.cell 8
      have c9 := hk1.cell 9
      simp only [List.getElem?_toArray, List.getElem?_cons_zero, List.getElem?_cons_succ] at c0 c1 c2 c3 c4 c5 c6 c7 c8 c9
      have HB1 := hid hB1
      have hl1 := hj1.lt
      have HK1 := hid hk1
      have HJ1 := hid hj1
      clear hk1 hj1 hb1 hB1
      go_wp2_with fail
      refine (HVI.out _).mono ?_
      rintro e w2 ⟨rfl, hb2⟩
      have hk2 := HK1.out.below hb2 (by omega)
      have hj2 := HJ1.out.below hb2 hl1
      have HB2 := hid (HB1.out.trans (hb2.mono (by omega)))
      have hl2 := hj2.lt
      clear c0 c1 c2 c3 c4 c5 c6 c7 c8 c9
      have c0 := hk2.cell 0
      have c1 := hk2.cell 1
      have c2 := hk2.cell 2
      have c3 := hk2.cell 3
      have c4 := hk2.cell 4
      have c5 := hk2.cell 5
      have c6 := hk2.cell 6
      have c7 := hk2.cell 7
      have c8 := hk2.cell 8
      have c9 := hk2.cell 9
      simp only [List.getElem?_toArray, List.getElem?_cons_zero, List.getElem?_cons_succ] at c0 c1 c2 c3 c4 c5 c6 c7 c8 c9
      have d0 := hj2.cell 0
      have d1 := hj2.cell 1
      have d2 := hj2.cell 2
      simp only [List.getElem?_toArray, List.getElem?_cons_zero, List.getElem?_cons_succ] at d0 d1 d2
      have HC := hid (And.intro c0 (And.intro c1 (And.intro c2 (And.intro c3 (And.intro c4 (And.intro c5 (And.intro c6 (And.intro c7 (And.intro c8 (And.intro c9 (And.intro d0 (And.intro d1 d2))))))))))))
      have HZ := hid (show s ≤ w2.heap.size by omega)
      clear hk2 hj2 hb2
      go_wp2_with fail
      go_region_held3 (fun w' => w'.cell? ⟨s, 0, none⟩ = some (.int .u8 (m.k : Int)) ∧ w'.cell? ⟨s, 1, none⟩ = some (.int .u64 (m.n0 : Int)) ∧ w'.cell? ⟨s, 2, none⟩ = some (.int .u64 (m.n1 : Int)) ∧ w'.cell? ⟨s, 3, none⟩ = some (.int .u64 (m.n2 : Int)) ∧ w'.cell? ⟨s, 4, none⟩ = some (.int .u64 (m.n3 : Int)) ∧ w'.cell? ⟨s, 5, none⟩ = some (.int .u64 (m.n4 : Int)) ∧ w'.cell? ⟨s, 6, none⟩ = some (.int .u64 (m.n5 : Int)) ∧ w'.cell? ⟨s, 7, none⟩ = some (.string m.s0) ∧ w'.cell? ⟨s, 8, none⟩ = some (.string m.s1) ∧ w'.cell? ⟨s, 9, none⟩ = some (.slice m.A len m.c) ∧ w'.cell? ⟨s + 1, 0, none⟩ = some (.int .i64 num) ∧ w'.cell? ⟨s + 1, 1, none⟩ = some (.int .i64 t) ∧ w'.cell? ⟨s + 1, 2, none⟩ = some (.int .i64 i)) (first | exact HC.out | go_keep) (first | (go_at_call 18; refine (HVD.out _).mono ?_; rintro e w4 ⟨rfl, hb4⟩; have HC := hid (held13 hb4 HC.out); have HB2 := hid (show Below s w w4 from (by first | exact HB2.out.trans (hb4.mono HZ.out) | exact (drew_bel HB2.out).trans (hb4.mono HZ.out))); have HZ := hid (Nat.le_trans HZ.out hb4.size)) | (go_at_call 19; refine (HRD.out _).mono ?_; rintro e w4 ⟨rfl, hb4⟩; have HC := hid (held13 hb4 HC.out); have HB2 := hid (show Below s w w4 from (by first | exact HB2.out.trans (hb4.mono HZ.out) | exact (drew_bel HB2.out).trans (hb4.mono HZ.out))); have HZ := hid (Nat.le_trans HZ.out hb4.size)))
      go_wp2_with fail
      go_ret
      exact ⟨by simp, HB2.out⟩
    · clear hvi hout
      go_enter Try.func4, Try.ntmps4
      go_wp2_with fail
      clear hW
      refine (live9_any W).mono ?_
      rintro e w1 ⟨rfl, hb1⟩
      have hlt := HBX.out.b1.lt
      have hk1 := HBX.out.b0.below hb1 (by omega)
      have hj1 := HBX.out.b1.below hb1 (by omega)
      have hB1 := HBX.out.bel.trans (hb1.mono (by omega))
      have c0 := hk1.cell 0
      have c1 := hk1.cell 1
      have c2 := hk1.cell 2
      have c3 := hk1.cell 3
      have c4 := hk1.cell 4
      have c5 := hk1.cell 5
      have c6 := hk1.cell 6
      have c7 := hk1.cell 7
      have c8 := hk1.cell 8
      have c9 := hk1.cell 9
      simp only [List.getElem?_toArray, List.getElem?_cons_zero, List.getElem?_cons_succ] at c0 c1 c2 c3 c4 c5 c6 c7 c8 c9
      have HB1 := hid hB1
      have hl1 := hj1.lt
      have HK1 := hid hk1
      have HJ1 := hid hj1
      clear hk1 hj1 hb1 hB1
      go_wp2_with fail
      refine (HVI.out _).mono ?_
      rintro e w2 ⟨rfl, hb2⟩
      have hk2 := HK1.out.below hb2 (by omega)
      have hj2 := HJ1.out.below hb2 hl1
      have HB2 := hid (HB1.out.trans (hb2.mono (by omega)))
      have hl2 := hj2.lt
      clear c0 c1 c2 c3 c4 c5 c6 c7 c8 c9
      have c0 := hk2.cell 0
      have c1 := hk2.cell 1
      have c2 := hk2.cell 2
      have c3 := hk2.cell 3
      have c4 := hk2.cell 4
      have c5 := hk2.cell 5
      have c6 := hk2.cell 6
      have c7 := hk2.cell 7
      have c8 := hk2.cell 8
      have c9 := hk2.cell 9
      simp only [List.getElem?_toArray, List.getElem?_cons_zero, List.getElem?_cons_succ] at c0 c1 c2 c3 c4 c5 c6 c7 c8 c9
      have d0 := hj2.cell 0
      have d1 := hj2.cell 1
      have d2 := hj2.cell 2
      simp only [List.getElem?_toArray, List.getElem?_cons_zero, List.getElem?_cons_succ] at d0 d1 d2
      have HC := hid (And.intro c0 (And.intro c1 (And.intro c2 (And.intro c3 (And.intro c4 (And.intro c5 (And.intro c6 (And.intro c7 (And.intro c8 (And.intro c9 (And.intro d0 (And.intro d1 d2))))))))))))
      have HZ := hid (show s ≤ w2.heap.size by omega)
      clear hk2 hj2 hb2
      go_wp2_with fail
      go_region_held3 (fun w' => w'.cell? ⟨s, 0, none⟩ = some (.int .u8 (m.k : Int)) ∧ w'.cell? ⟨s, 1, none⟩ = some (.int .u64 (m.n0 : Int)) ∧ w'.cell? ⟨s, 2, none⟩ = some (.int .u64 (m.n1 : Int)) ∧ w'.cell? ⟨s, 3, none⟩ = some (.int .u64 (m.n2 : Int)) ∧ w'.cell? ⟨s, 4, none⟩ = some (.int .u64 (m.n3 : Int)) ∧ w'.cell? ⟨s, 5, none⟩ = some (.int .u64 (m.n4 : Int)) ∧ w'.cell? ⟨s, 6, none⟩ = some (.int .u64 (m.n5 : Int)) ∧ w'.cell? ⟨s, 7, none⟩ = some (.string m.s0) ∧ w'.cell? ⟨s, 8, none⟩ = some (.string m.s1) ∧ w'.cell? ⟨s, 9, none⟩ = some (.slice m.A len m.c) ∧ w'.cell? ⟨s + 1, 0, none⟩ = some (.int .i64 num) ∧ w'.cell? ⟨s + 1, 1, none⟩ = some (.int .i64 t) ∧ w'.cell? ⟨s + 1, 2, none⟩ = some (.int .i64 i)) (first | exact HC.out | go_keep) (first | (go_at_call 18; refine (HVD.out _).mono ?_; rintro e w4 ⟨rfl, hb4⟩; have HC := hid (held13 hb4 HC.out); have HB2 := hid (show Below s w w4 from (by first | exact HB2.out.trans (hb4.mono HZ.out) | exact (drew_bel HB2.out).trans (hb4.mono HZ.out))); have HZ := hid (Nat.le_trans HZ.out hb4.size)) | (go_at_call 19; refine (HRD.out _).mono ?_; rintro e w4 ⟨rfl, hb4⟩; have HC := hid (held13 hb4 HC.out); have HB2 := hid (show Below s w w4 from (by first | exact HB2.out.trans (hb4.mono HZ.out) | exact (drew_bel HB2.out).trans (hb4.mono HZ.out))); have HZ := hid (Nat.le_trans HZ.out hb4.size)))
      go_wp2_with fail
      go_ret
      exact ⟨by simp, HB2.out⟩
  case inr.inl =>
    clear hvi hout
    go_enter Try.func4, Try.ntmps4
    go_wp2_with fail
    clear hW
    refine (live9_any W).mono ?_
    rintro e w1 ⟨rfl, hb1⟩
    have hlt := HBX.out.b1.lt
    have hk1 := HBX.out.b0.below hb1 (by omega)
    have hj1 := HBX.out.b1.below hb1 (by omega)
    have hB1 := HBX.out.bel.trans (hb1.mono (by omega))
    have c0 := hk1.cell 0
    have c1 := hk1.cell 1
    have c2 := hk1.cell 2
    have c3 := hk1.cell 3
    have c4 := hk1.cell 4
    have c5 := hk1.cell 5
    have c6 := hk1.cell 6
    have c7 := hk1.cell 7
    have c8 := hk1.cell 8
    have c9 := hk1.cell 9
    simp only [List.getElem?_toArray, List.getElem?_cons_zero, List.getElem?_cons_succ] at c0 c1 c2 c3 c4 c5 c6 c7 c8 c9
    have HB1 := hid hB1
    have hl1 := hj1.lt
    have HK1 := hid hk1
    have HJ1 := hid hj1
    clear hk1 hj1 hb1 hB1
    go_wp2_with fail
    refine (HVI.out _).mono ?_
    rintro e w2 ⟨rfl, hb2⟩
    have hk2 := HK1.out.below hb2 (by omega)
    have hj2 := HJ1.out.below hb2 hl1
    have HB2 := hid (HB1.out.trans (hb2.mono (by omega)))
    have hl2 := hj2.lt
    clear c0 c1 c2 c3 c4 c5 c6 c7 c8 c9
    have c0 := hk2.cell 0
    have c1 := hk2.cell 1
    have c2 := hk2.cell 2
    have c3 := hk2.cell 3
    have c4 := hk2.cell 4
    have c5 := hk2.cell 5
    have c6 := hk2.cell 6
    have c7 := hk2.cell 7
    have c8 := hk2.cell 8
    have c9 := hk2.cell 9
    simp only [List.getElem?_toArray, List.getElem?_cons_zero, List.getElem?_cons_succ] at c0 c1 c2 c3 c4 c5 c6 c7 c8 c9
    have d0 := hj2.cell 0
    have d1 := hj2.cell 1
    have d2 := hj2.cell 2
    simp only [List.getElem?_toArray, List.getElem?_cons_zero, List.getElem?_cons_succ] at d0 d1 d2
    have HC := hid (And.intro c0 (And.intro c1 (And.intro c2 (And.intro c3 (And.intro c4 (And.intro c5 (And.intro c6 (And.intro c7 (And.intro c8 (And.intro c9 (And.intro d0 (And.intro d1 d2))))))))))))
    have HZ := hid (show s ≤ w2.heap.size by omega)
    clear hk2 hj2 hb2
    go_wp2_with fail
    go_region_held3 (fun w' => w'.cell? ⟨s, 0, none⟩ = some (.int .u8 (m.k : Int)) ∧ w'.cell? ⟨s, 1, none⟩ = some (.int .u64 (m.n0 : Int)) ∧ w'.cell? ⟨s, 2, none⟩ = some (.int .u64 (m.n1 : Int)) ∧ w'.cell? ⟨s, 3, none⟩ = some (.int .u64 (m.n2 : Int)) ∧ w'.cell? ⟨s, 4, none⟩ = some (.int .u64 (m.n3 : Int)) ∧ w'.cell? ⟨s, 5, none⟩ = some (.int .u64 (m.n4 : Int)) ∧ w'.cell? ⟨s, 6, none⟩ = some (.int .u64 (m.n5 : Int)) ∧ w'.cell? ⟨s, 7, none⟩ = some (.string m.s0) ∧ w'.cell? ⟨s, 8, none⟩ = some (.string m.s1) ∧ w'.cell? ⟨s, 9, none⟩ = some (.slice m.A len m.c) ∧ w'.cell? ⟨s + 1, 0, none⟩ = some (.int .i64 num) ∧ w'.cell? ⟨s + 1, 1, none⟩ = some (.int .i64 t) ∧ w'.cell? ⟨s + 1, 2, none⟩ = some (.int .i64 i)) (first | exact HC.out | go_keep) (first | (go_at_call 18; refine (HVD.out _).mono ?_; rintro e w4 ⟨rfl, hb4⟩; have HC := hid (held13 hb4 HC.out); have HB2 := hid (show Below s w w4 from (by first | exact HB2.out.trans (hb4.mono HZ.out) | exact (drew_bel HB2.out).trans (hb4.mono HZ.out))); have HZ := hid (Nat.le_trans HZ.out hb4.size)) | (go_at_call 19; refine (HRD.out _).mono ?_; rintro e w4 ⟨rfl, hb4⟩; have HC := hid (held13 hb4 HC.out); have HB2 := hid (show Below s w w4 from (by first | exact HB2.out.trans (hb4.mono HZ.out) | exact (drew_bel HB2.out).trans (hb4.mono HZ.out))); have HZ := hid (Nat.le_trans HZ.out hb4.size)))
    go_wp2_with fail
    go_ret
    exact ⟨by simp, HB2.out⟩
  case inr.inr.inl =>
    clear hvi hout
    go_enter Try.func4, Try.ntmps4
    go_wp2_with fail
    clear hW
    refine (live9_any W).mono ?_
    rintro e w1 ⟨rfl, hb1⟩
    have hlt := HBX.out.b1.lt
    have hk1 := HBX.out.b0.below hb1 (by omega)
    have hj1 := HBX.out.b1.below hb1 (by omega)
    have hB1 := HBX.out.bel.trans (hb1.mono (by omega))
    have c0 := hk1.cell 0
    have c1 := hk1.cell 1
    have c2 := hk1.cell 2
    have c3 := hk1.cell 3
    have c4 := hk1.cell 4
    have c5 := hk1.cell 5
    have c6 := hk1.cell 6
    have c7 := hk1.cell 7
    have c8 := hk1.cell 8
    have c9 := hk1.cell 9
    simp only [List.getElem?_toArray, List.getElem?_cons_zero, List.getElem?_cons_succ] at c0 c1 c2 c3 c4 c5 c6 c7 c8 c9
    have HB1 := hid hB1
    have hl1 := hj1.lt
    have HK1 := hid hk1
    have HJ1 := hid hj1
    clear hk1 hj1 hb1 hB1
    go_wp2_with fail
    refine (HVI.out _).mono ?_
    rintro e w2 ⟨rfl, hb2⟩
    have hk2 := HK1.out.below hb2 (by omega)
    have hj2 := HJ1.out.below hb2 hl1
    have HB2 := hid (HB1.out.trans (hb2.mono (by omega)))
    have hl2 := hj2.lt
    clear c0 c1 c2 c3 c4 c5 c6 c7 c8 c9
    have c0 := hk2.cell 0
    have c1 := hk2.cell 1
    have c2 := hk2.cell 2
    have c3 := hk2.cell 3
    have c4 := hk2.cell 4
    have c5 := hk2.cell 5
    have c6 := hk2.cell 6
    have c7 := hk2.cell 7
    have c8 := hk2.cell 8
    have c9 := hk2.cell 9
    simp only [List.getElem?_toArray, List.getElem?_cons_zero, List.getElem?_cons_succ] at c0 c1 c2 c3 c4 c5 c6 c7 c8 c9
    have d0 := hj2.cell 0
    have d1 := hj2.cell 1
    have d2 := hj2.cell 2
    simp only [List.getElem?_toArray, List.getElem?_cons_zero, List.getElem?_cons_succ] at d0 d1 d2
    have HC := hid (And.intro c0 (And.intro c1 (And.intro c2 (And.intro c3 (And.intro c4 (And.intro c5 (And.intro c6 (And.intro c7 (And.intro c8 (And.intro c9 (And.intro d0 (And.intro d1 d2))))))))))))
    have HZ := hid (show s ≤ w2.heap.size by omega)
    clear hk2 hj2 hb2
    go_wp2_with fail
    go_region_held3 (fun w' => w'.cell? ⟨s, 0, none⟩ = some (.int .u8 (m.k : Int)) ∧ w'.cell? ⟨s, 1, none⟩ = some (.int .u64 (m.n0 : Int)) ∧ w'.cell? ⟨s, 2, none⟩ = some (.int .u64 (m.n1 : Int)) ∧ w'.cell? ⟨s, 3, none⟩ = some (.int .u64 (m.n2 : Int)) ∧ w'.cell? ⟨s, 4, none⟩ = some (.int .u64 (m.n3 : Int)) ∧ w'.cell? ⟨s, 5, none⟩ = some (.int .u64 (m.n4 : Int)) ∧ w'.cell? ⟨s, 6, none⟩ = some (.int .u64 (m.n5 : Int)) ∧ w'.cell? ⟨s, 7, none⟩ = some (.string m.s0) ∧ w'.cell? ⟨s, 8, none⟩ = some (.string m.s1) ∧ w'.cell? ⟨s, 9, none⟩ = some (.slice m.A len m.c) ∧ w'.cell? ⟨s + 1, 0, none⟩ = some (.int .i64 num) ∧ w'.cell? ⟨s + 1, 1, none⟩ = some (.int .i64 t) ∧ w'.cell? ⟨s + 1, 2, none⟩ = some (.int .i64 i)) (first | exact HC.out | go_keep) (first | (go_at_call 18; refine (HVD.out _).mono ?_; rintro e w4 ⟨rfl, hb4⟩; have HC := hid (held13 hb4 HC.out); have HB2 := hid (show Below s w w4 from (by first | exact HB2.out.trans (hb4.mono HZ.out) | exact (drew_bel HB2.out).trans (hb4.mono HZ.out))); have HZ := hid (Nat.le_trans HZ.out hb4.size)) | (go_at_call 19; refine (HRD.out _).mono ?_; rintro e w4 ⟨rfl, hb4⟩; have HC := hid (held13 hb4 HC.out); have HB2 := hid (show Below s w w4 from (by first | exact HB2.out.trans (hb4.mono HZ.out) | exact (drew_bel HB2.out).trans (hb4.mono HZ.out))); have HZ := hid (Nat.le_trans HZ.out hb4.size)))
    go_wp2_with fail
    go_ret
    exact ⟨by simp, HB2.out⟩
  case inr.inr.inr.inl =>
    clear hvi hout
    go_enter Try.func4, Try.ntmps4
    go_wp2_with fail
    clear hW
    refine (live9_any W).mono ?_
    rintro e w1 ⟨rfl, hb1⟩
    have hlt := HBX.out.b1.lt
    have hk1 := HBX.out.b0.below hb1 (by omega)
    have hj1 := HBX.out.b1.below hb1 (by omega)
    have hB1 := HBX.out.bel.trans (hb1.mono (by omega))
    have c0 := hk1.cell 0
    have c1 := hk1.cell 1
    have c2 := hk1.cell 2
    have c3 := hk1.cell 3
    have c4 := hk1.cell 4
    have c5 := hk1.cell 5
    have c6 := hk1.cell 6
    have c7 := hk1.cell 7
    have c8 := hk1.cell 8
    have c9 := hk1.cell 9
    simp only [List.getElem?_toArray, List.getElem?_cons_zero, List.getElem?_cons_succ] at c0 c1 c2 c3 c4 c5 c6 c7 c8 c9
    have HB1 := hid hB1
    have hl1 := hj1.lt
    have HK1 := hid hk1
    have HJ1 := hid hj1
    clear hk1 hj1 hb1 hB1
    go_wp2_with fail
    refine (HVI.out _).mono ?_
    rintro e w2 ⟨rfl, hb2⟩
    have hk2 := HK1.out.below hb2 (by omega)
    have hj2 := HJ1.out.below hb2 hl1
    have HB2 := hid (HB1.out.trans (hb2.mono (by omega)))
    have hl2 := hj2.lt
    clear c0 c1 c2 c3 c4 c5 c6 c7 c8 c9
    have c0 := hk2.cell 0
    have c1 := hk2.cell 1
    have c2 := hk2.cell 2
    have c3 := hk2.cell 3
    have c4 := hk2.cell 4
    have c5 := hk2.cell 5
    have c6 := hk2.cell 6
    have c7 := hk2.cell 7
    have c8 := hk2.cell 8
    have c9 := hk2.cell 9
    simp only [List.getElem?_toArray, List.getElem?_cons_zero, List.getElem?_cons_succ] at c0 c1 c2 c3 c4 c5 c6 c7 c8 c9
    have d0 := hj2.cell 0
    have d1 := hj2.cell 1
    have d2 := hj2.cell 2
    simp only [List.getElem?_toArray, List.getElem?_cons_zero, List.getElem?_cons_succ] at d0 d1 d2
    have HC := hid (And.intro c0 (And.intro c1 (And.intro c2 (And.intro c3 (And.intro c4 (And.intro c5 (And.intro c6 (And.intro c7 (And.intro c8 (And.intro c9 (And.intro d0 (And.intro d1 d2))))))))))))
    have HZ := hid (show s ≤ w2.heap.size by omega)
    clear hk2 hj2 hb2
    go_wp2_with fail
    go_region_held3 (fun w' => w'.cell? ⟨s, 0, none⟩ = some (.int .u8 (m.k : Int)) ∧ w'.cell? ⟨s, 1, none⟩ = some (.int .u64 (m.n0 : Int)) ∧ w'.cell? ⟨s, 2, none⟩ = some (.int .u64 (m.n1 : Int)) ∧ w'.cell? ⟨s, 3, none⟩ = some (.int .u64 (m.n2 : Int)) ∧ w'.cell? ⟨s, 4, none⟩ = some (.int .u64 (m.n3 : Int)) ∧ w'.cell? ⟨s, 5, none⟩ = some (.int .u64 (m.n4 : Int)) ∧ w'.cell? ⟨s, 6, none⟩ = some (.int .u64 (m.n5 : Int)) ∧ w'.cell? ⟨s, 7, none⟩ = some (.string m.s0) ∧ w'.cell? ⟨s, 8, none⟩ = some (.string m.s1) ∧ w'.cell? ⟨s, 9, none⟩ = some (.slice m.A len m.c) ∧ w'.cell? ⟨s + 1, 0, none⟩ = some (.int .i64 num) ∧ w'.cell? ⟨s + 1, 1, none⟩ = some (.int .i64 t) ∧ w'.cell? ⟨s + 1, 2, none⟩ = some (.int .i64 i)) (first | exact HC.out | go_keep) (first | (go_at_call 18; refine (HVD.out _).mono ?_; rintro e w4 ⟨rfl, hb4⟩; have HC := hid (held13 hb4 HC.out); have HB2 := hid (show Below s w w4 from (by first | exact HB2.out.trans (hb4.mono HZ.out) | exact (drew_bel HB2.out).trans (hb4.mono HZ.out))); have HZ := hid (Nat.le_trans HZ.out hb4.size)) | (go_at_call 19; refine (HRD.out _).mono ?_; rintro e w4 ⟨rfl, hb4⟩; have HC := hid (held13 hb4 HC.out); have HB2 := hid (show Below s w w4 from (by first | exact HB2.out.trans (hb4.mono HZ.out) | exact (drew_bel HB2.out).trans (hb4.mono HZ.out))); have HZ := hid (Nat.le_trans HZ.out hb4.size)))
    go_wp2_with fail
    go_ret
    exact ⟨by simp, HB2.out⟩
  case inr.inr.inr.inr.inl =>
    clear hvi hout
    go_enter Try.func4, Try.ntmps4
    go_wp2_with fail
    clear hW
    refine (live9_any W).mono ?_
    rintro e w1 ⟨rfl, hb1⟩
    have hlt := HBX.out.b1.lt
    have hk1 := HBX.out.b0.below hb1 (by omega)
    have hj1 := HBX.out.b1.below hb1 (by omega)
    have hB1 := HBX.out.bel.trans (hb1.mono (by omega))
    have c0 := hk1.cell 0
    have c1 := hk1.cell 1
    have c2 := hk1.cell 2
    have c3 := hk1.cell 3
    have c4 := hk1.cell 4
    have c5 := hk1.cell 5
    have c6 := hk1.cell 6
    have c7 := hk1.cell 7
    have c8 := hk1.cell 8
    have c9 := hk1.cell 9
    simp only [List.getElem?_toArray, List.getElem?_cons_zero, List.getElem?_cons_succ] at c0 c1 c2 c3 c4 c5 c6 c7 c8 c9
    have HB1 := hid hB1
    have hl1 := hj1.lt
    have HK1 := hid hk1
    have HJ1 := hid hj1
    clear hk1 hj1 hb1 hB1
    go_wp2_with fail
    refine (HVI.out _).mono ?_
    rintro e w2 ⟨rfl, hb2⟩
    have hk2 := HK1.out.below hb2 (by omega)
    have hj2 := HJ1.out.below hb2 hl1
    have HB2 := hid (HB1.out.trans (hb2.mono (by omega)))
    have hl2 := hj2.lt
    clear c0 c1 c2 c3 c4 c5 c6 c7 c8 c9
    have c0 := hk2.cell 0
    have c1 := hk2.cell 1
    have c2 := hk2.cell 2
    have c3 := hk2.cell 3
    have c4 := hk2.cell 4
    have c5 := hk2.cell 5
    have c6 := hk2.cell 6
    have c7 := hk2.cell 7
    have c8 := hk2.cell 8
    have c9 := hk2.cell 9
    simp only [List.getElem?_toArray, List.getElem?_cons_zero, List.getElem?_cons_succ] at c0 c1 c2 c3 c4 c5 c6 c7 c8 c9
    have d0 := hj2.cell 0
    have d1 := hj2.cell 1
    have d2 := hj2.cell 2
    simp only [List.getElem?_toArray, List.getElem?_cons_zero, List.getElem?_cons_succ] at d0 d1 d2
    have HC := hid (And.intro c0 (And.intro c1 (And.intro c2 (And.intro c3 (And.intro c4 (And.intro c5 (And.intro c6 (And.intro c7 (And.intro c8 (And.intro c9 (And.intro d0 (And.intro d1 d2))))))))))))
    have HZ := hid (show s ≤ w2.heap.size by omega)
    clear hk2 hj2 hb2
    go_wp2_with fail
    go_region_held3 (fun w' => w'.cell? ⟨s, 0, none⟩ = some (.int .u8 (m.k : Int)) ∧ w'.cell? ⟨s, 1, none⟩ = some (.int .u64 (m.n0 : Int)) ∧ w'.cell? ⟨s, 2, none⟩ = some (.int .u64 (m.n1 : Int)) ∧ w'.cell? ⟨s, 3, none⟩ = some (.int .u64 (m.n2 : Int)) ∧ w'.cell? ⟨s, 4, none⟩ = some (.int .u64 (m.n3 : Int)) ∧ w'.cell? ⟨s, 5, none⟩ = some (.int .u64 (m.n4 : Int)) ∧ w'.cell? ⟨s, 6, none⟩ = some (.int .u64 (m.n5 : Int)) ∧ w'.cell? ⟨s, 7, none⟩ = some (.string m.s0) ∧ w'.cell? ⟨s, 8, none⟩ = some (.string m.s1) ∧ w'.cell? ⟨s, 9, none⟩ = some (.slice m.A len m.c) ∧ w'.cell? ⟨s + 1, 0, none⟩ = some (.int .i64 num) ∧ w'.cell? ⟨s + 1, 1, none⟩ = some (.int .i64 t) ∧ w'.cell? ⟨s + 1, 2, none⟩ = some (.int .i64 i)) (first | exact HC.out | go_keep) (first | (go_at_call 18; refine (HVD.out _).mono ?_; rintro e w4 ⟨rfl, hb4⟩; have HC := hid (held13 hb4 HC.out); have HB2 := hid (show Below s w w4 from (by first | exact HB2.out.trans (hb4.mono HZ.out) | exact (drew_bel HB2.out).trans (hb4.mono HZ.out))); have HZ := hid (Nat.le_trans HZ.out hb4.size)) | (go_at_call 19; refine (HRD.out _).mono ?_; rintro e w4 ⟨rfl, hb4⟩; have HC := hid (held13 hb4 HC.out); have HB2 := hid (show Below s w w4 from (by first | exact HB2.out.trans (hb4.mono HZ.out) | exact (drew_bel HB2.out).trans (hb4.mono HZ.out))); have HZ := hid (Nat.le_trans HZ.out hb4.size)))
    go_wp2_with fail
    go_ret
    exact ⟨by simp, HB2.out⟩
  case inr.inr.inr.inr.inr.inl =>
    clear hvi hout
    go_enter Try.func4, Try.ntmps4
    go_wp2_with fail
    clear hW
    refine (live9_any W).mono ?_
    rintro e w1 ⟨rfl, hb1⟩
    have hlt := HBX.out.b1.lt
    have hk1 := HBX.out.b0.below hb1 (by omega)
    have hj1 := HBX.out.b1.below hb1 (by omega)
    have hB1 := HBX.out.bel.trans (hb1.mono (by omega))
    have c0 := hk1.cell 0
    have c1 := hk1.cell 1
    have c2 := hk1.cell 2
    have c3 := hk1.cell 3
    have c4 := hk1.cell 4
    have c5 := hk1.cell 5
    have c6 := hk1.cell 6
    have c7 := hk1.cell 7
    have c8 := hk1.cell 8
    have c9 := hk1.cell 9
    simp only [List.getElem?_toArray, List.getElem?_cons_zero, List.getElem?_cons_succ] at c0 c1 c2 c3 c4 c5 c6 c7 c8 c9
    have HB1 := hid hB1
    have hl1 := hj1.lt
    have HK1 := hid hk1
    have HJ1 := hid hj1
    clear hk1 hj1 hb1 hB1
    go_wp2_with fail
    refine (HVI.out _).mono ?_
    rintro e w2 ⟨rfl, hb2⟩
    have hk2 := HK1.out.below hb2 (by omega)
    have hj2 := HJ1.out.below hb2 hl1
    have HB2 := hid (HB1.out.trans (hb2.mono (by omega)))
    have hl2 := hj2.lt
    clear c0 c1 c2 c3 c4 c5 c6 c7 c8 c9
    have c0 := hk2.cell 0
    have c1 := hk2.cell 1
    have c2 := hk2.cell 2
    have c3 := hk2.cell 3
    have c4 := hk2.cell 4
    have c5 := hk2.cell 5
    have c6 := hk2.cell 6
    have c7 := hk2.cell 7
    have c8 := hk2.cell 8
    have c9 := hk2.cell 9
    simp only [List.getElem?_toArray, List.getElem?_cons_zero, List.getElem?_cons_succ] at c0 c1 c2 c3 c4 c5 c6 c7 c8 c9
    have d0 := hj2.cell 0
    have d1 := hj2.cell 1
    have d2 := hj2.cell 2
    simp only [List.getElem?_toArray, List.getElem?_cons_zero, List.getElem?_cons_succ] at d0 d1 d2
    have HC := hid (And.intro c0 (And.intro c1 (And.intro c2 (And.intro c3 (And.intro c4 (And.intro c5 (And.intro c6 (And.intro c7 (And.intro c8 (And.intro c9 (And.intro d0 (And.intro d1 d2))))))))))))
    have HZ := hid (show s ≤ w2.heap.size by omega)
    clear hk2 hj2 hb2
    go_wp2_with fail
    go_region_held3 (fun w' => w'.cell? ⟨s, 0, none⟩ = some (.int .u8 (m.k : Int)) ∧ w'.cell? ⟨s, 1, none⟩ = some (.int .u64 (m.n0 : Int)) ∧ w'.cell? ⟨s, 2, none⟩ = some (.int .u64 (m.n1 : Int)) ∧ w'.cell? ⟨s, 3, none⟩ = some (.int .u64 (m.n2 : Int)) ∧ w'.cell? ⟨s, 4, none⟩ = some (.int .u64 (m.n3 : Int)) ∧ w'.cell? ⟨s, 5, none⟩ = some (.int .u64 (m.n4 : Int)) ∧ w'.cell? ⟨s, 6, none⟩ = some (.int .u64 (m.n5 : Int)) ∧ w'.cell? ⟨s, 7, none⟩ = some (.string m.s0) ∧ w'.cell? ⟨s, 8, none⟩ = some (.string m.s1) ∧ w'.cell? ⟨s, 9, none⟩ = some (.slice m.A len m.c) ∧ w'.cell? ⟨s + 1, 0, none⟩ = some (.int .i64 num) ∧ w'.cell? ⟨s + 1, 1, none⟩ = some (.int .i64 t) ∧ w'.cell? ⟨s + 1, 2, none⟩ = some (.int .i64 i)) (first | exact HC.out | go_keep) (first | (go_at_call 18; refine (HVD.out _).mono ?_; rintro e w4 ⟨rfl, hb4⟩; have HC := hid (held13 hb4 HC.out); have HB2 := hid (show Below s w w4 from (by first | exact HB2.out.trans (hb4.mono HZ.out) | exact (drew_bel HB2.out).trans (hb4.mono HZ.out))); have HZ := hid (Nat.le_trans HZ.out hb4.size)) | (go_at_call 19; refine (HRD.out _).mono ?_; rintro e w4 ⟨rfl, hb4⟩; have HC := hid (held13 hb4 HC.out); have HB2 := hid (show Below s w w4 from (by first | exact HB2.out.trans (hb4.mono HZ.out) | exact (drew_bel HB2.out).trans (hb4.mono HZ.out))); have HZ := hid (Nat.le_trans HZ.out hb4.size)))
    go_wp2_with fail
    go_ret
    exact ⟨by simp, HB2.out⟩
  case inr.inr.inr.inr.inr.inr =>
    clear hvi hout
    go_enter Try.func4, Try.ntmps4
    go_wp2_with fail
    clear hW
    refine (live9_any W).mono ?_
    rintro e w1 ⟨rfl, hb1⟩
    have hlt := HBX.out.b1.lt
    have hk1 := HBX.out.b0.below hb1 (by omega)
    have hj1 := HBX.out.b1.below hb1 (by omega)
    have hB1 := HBX.out.bel.trans (hb1.mono (by omega))
    have c0 := hk1.cell 0
    have c1 := hk1.cell 1
    have c2 := hk1.cell 2
    have c3 := hk1.cell 3
    have c4 := hk1.cell 4
    have c5 := hk1.cell 5
    have c6 := hk1.cell 6
    have c7 := hk1.cell 7
    have c8 := hk1.cell 8
    have c9 := hk1.cell 9
    simp only [List.getElem?_toArray, List.getElem?_cons_zero, List.getElem?_cons_succ] at c0 c1 c2 c3 c4 c5 c6 c7 c8 c9
    have HB1 := hid hB1
    have hl1 := hj1.lt
    have HK1 := hid hk1
    have HJ1 := hid hj1
    clear hk1 hj1 hb1 hB1
    go_wp2_with fail
    refine (HVI.out _).mono ?_
    rintro e w2 ⟨rfl, hb2⟩
    have hk2 := HK1.out.below hb2 (by omega)
    have hj2 := HJ1.out.below hb2 hl1
    have HB2 := hid (HB1.out.trans (hb2.mono (by omega)))
    have hl2 := hj2.lt
    clear c0 c1 c2 c3 c4 c5 c6 c7 c8 c9
    have c0 := hk2.cell 0
    have c1 := hk2.cell 1
    have c2 := hk2.cell 2
    have c3 := hk2.cell 3
    have c4 := hk2.cell 4
    have c5 := hk2.cell 5
    have c6 := hk2.cell 6
    have c7 := hk2.cell 7
    have c8 := hk2.cell 8
    have c9 := hk2.cell 9
    simp only [List.getElem?_toArray, List.getElem?_cons_zero, List.getElem?_cons_succ] at c0 c1 c2 c3 c4 c5 c6 c7 c8 c9
    have d0 := hj2.cell 0
    have d1 := hj2.cell 1
    have d2 := hj2.cell 2
    simp only [List.getElem?_toArray, List.getElem?_cons_zero, List.getElem?_cons_succ] at d0 d1 d2
    have HC := hid (And.intro c0 (And.intro c1 (And.intro c2 (And.intro c3 (And.intro c4 (And.intro c5 (And.intro c6 (And.intro c7 (And.intro c8 (And.intro c9 (And.intro d0 (And.intro d1 d2))))))))))))
    have HZ := hid (show s ≤ w2.heap.size by omega)
    clear hk2 hj2 hb2
    go_wp2_with fail
    go_region_held3 (fun w' => w'.cell? ⟨s, 0, none⟩ = some (.int .u8 (m.k : Int)) ∧ w'.cell? ⟨s, 1, none⟩ = some (.int .u64 (m.n0 : Int)) ∧ w'.cell? ⟨s, 2, none⟩ = some (.int .u64 (m.n1 : Int)) ∧ w'.cell? ⟨s, 3, none⟩ = some (.int .u64 (m.n2 : Int)) ∧ w'.cell? ⟨s, 4, none⟩ = some (.int .u64 (m.n3 : Int)) ∧ w'.cell? ⟨s, 5, none⟩ = some (.int .u64 (m.n4 : Int)) ∧ w'.cell? ⟨s, 6, none⟩ = some (.int .u64 (m.n5 : Int)) ∧ w'.cell? ⟨s, 7, none⟩ = some (.string m.s0) ∧ w'.cell? ⟨s, 8, none⟩ = some (.string m.s1) ∧ w'.cell? ⟨s, 9, none⟩ = some (.slice m.A len m.c) ∧ w'.cell? ⟨s + 1, 0, none⟩ = some (.int .i64 num) ∧ w'.cell? ⟨s + 1, 1, none⟩ = some (.int .i64 t) ∧ w'.cell? ⟨s + 1, 2, none⟩ = some (.int .i64 i)) (first | exact HC.out | go_keep) (first | (go_at_call 18; refine (HVD.out _).mono ?_; rintro e w4 ⟨rfl, hb4⟩; have HC := hid (held13 hb4 HC.out); have HB2 := hid (show Below s w w4 from (by first | exact HB2.out.trans (hb4.mono HZ.out) | exact (drew_bel HB2.out).trans (hb4.mono HZ.out))); have HZ := hid (Nat.le_trans HZ.out hb4.size)) | (go_at_call 19; refine (HRD.out _).mono ?_; rintro e w4 ⟨rfl, hb4⟩; have HC := hid (held13 hb4 HC.out); have HB2 := hid (show Below s w w4 from (by first | exact HB2.out.trans (hb4.mono HZ.out) | exact (drew_bel HB2.out).trans (hb4.mono HZ.out))); have HZ := hid (Nat.le_trans HZ.out hb4.size)))
    go_wp2_with fail
    go_ret
    exact ⟨by simp, HB2.out⟩
end Go.Proofs.Ytdnjhknjffbkkaa
