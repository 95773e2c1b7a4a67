/- What is wrong with a field (value.wrong); what stands in a place, has it nothing, what is wrong (the document's Place, Default, one). -/
import Derived.Test.YtehjibbjkadoiaaVWrong
import Derived.Deep.RegionHeld3
set_option linter.unusedVariables false
namespace Go.Proofs.Ytehjibbjkadoiaa
open Go.RowKit
theorem held2 {w w' : World} (hc : Below w.heap.size w w') {p0 p1 : Addr} {x0 x1 : Value} (h : w.cell? p0 = some x0 ∧ w.cell? p1 = some x1) : w'.cell? p0 = some x0 ∧ w'.cell? p1 = some x1 := by
  obtain ⟨h0, h1⟩ := h
  have f : ∀ (p : Addr) (x : Value), w.cell? p = some x → w'.cell? p = some x := fun p x h => (hc.cell (World.block_lt_of_cell? w p h)).trans h
  exact ⟨f _ _ h0, f _ _ h1⟩
theorem held12 {w w' : World} (hc : Below w.heap.size w w') {p0 p1 p2 p3 p4 p5 p6 p7 p8 p9 p10 p11 : Addr} {x0 x1 x2 x3 x4 x5 x6 x7 x8 x9 x10 x11 : Value} (h : w.cell? p0 = some x0 ∧ w.cell? p1 = some x1 ∧ w.cell? p2 = some x2 ∧ w.cell? p3 = some x3 ∧ w.cell? p4 = some x4 ∧ w.cell? p5 = some x5 ∧ w.cell? p6 = some x6 ∧ w.cell? p7 = some x7 ∧ w.cell? p8 = some x8 ∧ w.cell? p9 = some x9 ∧ w.cell? p10 = some x10 ∧ w.cell? p11 = some x11) : w'.cell? p0 = some x0 ∧ w'.cell? p1 = some x1 ∧ w'.cell? p2 = some x2 ∧ w'.cell? p3 = some x3 ∧ w'.cell? p4 = some x4 ∧ w'.cell? p5 = some x5 ∧ w'.cell? p6 = some x6 ∧ w'.cell? p7 = some x7 ∧ w'.cell? p8 = some x8 ∧ w'.cell? p9 = some x9 ∧ w'.cell? p10 = some x10 ∧ w'.cell? p11 = some x11 := by
  obtain ⟨h0, h1, h2, h3, h4, h5, h6, h7, h8, h9, h10, h11⟩ := h
  have f : ∀ (p : Addr) (x : Value), w.cell? p = some x → w'.cell? p = some x := fun p x h => (hc.cell (World.block_lt_of_cell? w p h)).trans h
  exact ⟨f _ _ h0, f _ _ h1, f _ _ h2, f _ _ h3, f _ _ h4, f _ _ h5, f _ _ h6, f _ _ h7, f _ _ h8, f _ _ h9, f _ _ h10, f _ _ h11⟩
/-- A message and a field in boxes of their own. -/
structure Bx2 (w W : World) (s len : Nat) (m : MV) (num t i : Int) : Prop where
  z : W.heap.size = s + 2
  b0 : Blk W s 27 #[.int .u8 (m.k : Int), .int .u64 (m.n0 : Int), .int .u64 (m.n1 : Int), .int .u64 (m.n2 : Int), .int .u64 (m.n3 : Int), .int .u64 (m.n4 : Int), .int .u64 (m.n5 : Int), .string m.s0, .string m.s1, .slice m.A len m.c]
  b1 : Blk W (s + 1) 44 #[.int .i64 num, .int .i64 t, .int .i64 i]
  bel : Below s w W
theorem bx2 (w : World) (s len : Nat) (m : MV) (num t i : Int) (h : w.heap.size = s) : Bx2 w ((w.alloc (.cells #[.int .u8 (m.k : Int), .int .u64 (m.n0 : Int), .int .u64 (m.n1 : Int), .int .u64 (m.n2 : Int), .int .u64 (m.n3 : Int), .int .u64 (m.n4 : Int), .int .u64 (m.n5 : Int), .string m.s0, .string m.s1, .slice m.A len m.c] 27)).alloc (.cells #[.int .i64 num, .int .i64 t, .int .i64 i] 44)) s len m num t i := by
  refine ⟨by simp [h], ?_, ?_, ?_⟩
  · rw [← h]; exact (Blk.new w _ _).alloc _
  · have h1 := Blk.new (w.alloc (.cells #[.int .u8 (m.k : Int), .int .u64 (m.n0 : Int), .int .u64 (m.n1 : Int), .int .u64 (m.n2 : Int), .int .u64 (m.n3 : Int), .int .u64 (m.n4 : Int), .int .u64 (m.n5 : Int), .string m.s0, .string m.s1, .slice m.A len m.c] 27)) 44 #[.int .i64 num, .int .i64 t, .int .i64 i]
    rw [World.size_alloc, h] at h1; exact h1
  · rw [← h]; exact bw_a (bw_a (Below.refl _ w) _) _
theorem wr_num (m : MV) (t i : Int) (h : t = 1 ∨ t = 5) : wrongE m t i = if 4294967295 < m.num i then 1 else 0 := by unfold wrongE; rw [if_pos h]
theorem wr_bool (m : MV) (i : Int) : wrongE m 4 i = if 1 < m.num i then 1 else 0 := by unfold wrongE; rw [if_neg (by omega), if_pos rfl]
theorem wr_text (m : MV) (t i : Int) (h : 7 ≤ t ∧ t ≤ 9) : wrongE m t i = chk (m.text i) (mostN t : Nat) := by unfold wrongE; rw [if_neg (by omega), if_neg (by omega), if_pos h]
theorem wr_list (m : MV) (i : Int) : wrongE m 10 i = lstE m.l := by unfold wrongE; rw [if_neg (by omega), if_neg (by omega), if_neg (by omega), if_pos rfl]
theorem wr_out (m : MV) (t i : Int) (h : t = 2 ∨ t = 3 ∨ t = 6 ∨ t < 1 ∨ 10 < t) : wrongE m t i = 0 := by unfold wrongE; rw [if_neg (by omega), if_neg (by omega), if_neg (by omega), if_neg (by omega)]
theorem mostN_le (t : Int) : mostN t ≤ 7000 := by
  unfold mostN
  split
  · omega
  · split
    · omega
    · split <;> omega
set_option maxRecDepth 100000 in
set_option maxHeartbeats 2000000 in
theorem vwrong_any (m : MV) (num t i : Int) (w : World) (hok : MvOk w m) : Calls Try.prog 55 #[mvV m, .agg #[.int .i64 num, .int .i64 t, .int .i64 i]] w fun e w' => e = .returned (.int .i64 (wrongE m t i)) ∧ Below w.heap.size w w' := by
  have hn := fun W => vnum_any m i W
  have ht := fun W => vtext_any m i W
  have hck := fun W => uchk_any (m.text i) (mostN t : Nat) W (hok.s i) (by omega) (by have := mostN_le t; omega)
  have hli := fun W (hW : Below w.heap.size w W) => vlist_any m.l m.l.length m.A m.c W rfl (hok.l.below hW) hok.e
  have hmo := fun W => smost_any t W
  have hup := fun (a b : Nat) W => vupto_any a b W
  have h1 := wr_num m t i
  have h4 := wr_bool m i
  have h7 := wr_text m t i
  have h10 := wr_list m i
  have h0 := wr_out m t i
  have hmq := mostN_le t
  clear hok
  unfold mvV mvA at *
  generalize m.l.length = len at *
  generalize m.num i = x at *
  generalize m.text i = y at *
  generalize lstE m.l = le at *
  generalize chk y (mostN t : Nat) = ce at *
  obtain ⟨s, hws⟩ : ∃ s, w.heap.size = s := ⟨_, rfl⟩
  have hbx := bx2 w s len m num t i hws
  rw [hws] at hli ⊢
  have HN := hid hn
  have HT := hid ht
  have HCK := hid hck
  have HLI := hid hli
  have HMO := hid hmo
  have HUP := hid hup
  have HBX := hid hbx
  clear hn ht hck hli hmo hup hbx
  have hcase : (t = 1 ∨ t = 5) ∨ t = 4 ∨ (t = 7 ∨ t = 8 ∨ t = 9) ∨ t = 10 ∨ (t = 2 ∨ t = 3 ∨ t = 6 ∨ t < 1 ∨ 10 < t) := by omega
  rcases hcase with h | rfl | h | rfl | h
  · rw [h1 h]
    clear h1 h4 h7 h10 h0
    rcases h with rfl | rfl
    · have hup := fun W => HUP.out 4294967295 x W
      generalize (if 4294967295 < x then (1 : Int) else 0) = r at *
      have HU := hid hup
      clear hup
      go_enter Try.func55, Try.ntmps55
      go_wp2_with fail
      refine (HN.out _).mono ?_
      rintro e w1 ⟨rfl, hb1⟩
      have HB1 := hid (HBX.out.bel.trans (hb1.mono (by have := HBX.out.z; omega)))
      clear hb1
      go_wp2_with fail
      refine (HU.out _).mono ?_
      rintro e w2 ⟨rfl, rfl⟩
      go_wp2_with fail
      go_ret
      exact ⟨rfl, HB1.out⟩
    · have hup := fun W => HUP.out 4294967295 x W
      generalize (if 4294967295 < x then (1 : Int) else 0) = r at *
      have HU := hid hup
      clear hup
      go_enter Try.func55, Try.ntmps55
      go_wp2_with fail
      refine (HN.out _).mono ?_
      rintro e w1 ⟨rfl, hb1⟩
      have HB1 := hid (HBX.out.bel.trans (hb1.mono (by have := HBX.out.z; omega)))
      clear hb1
      go_wp2_with fail
      refine (HU.out _).mono ?_
      rintro e w2 ⟨rfl, rfl⟩
      go_wp2_with fail
      go_ret
      exact ⟨rfl, HB1.out⟩
  · rw [h4]
    clear h1 h4 h7 h10 h0
    have hup := fun W => HUP.out 1 x W
    generalize (if 1 < x then (1 : Int) else 0) = r at *
    have HU := hid hup
    clear hup
    go_enter Try.func55, Try.ntmps55
    go_wp2_with fail
    refine (HN.out _).mono ?_
    rintro e w1 ⟨rfl, hb1⟩
    have HB1 := hid (HBX.out.bel.trans (hb1.mono (by have := HBX.out.z; omega)))
    clear hb1
    go_wp2_with fail
    refine (HU.out _).mono ?_
    rintro e w2 ⟨rfl, rfl⟩
    go_wp2_with fail
    go_ret
    exact ⟨rfl, HB1.out⟩
  · rw [h7 (by omega)]
    clear h1 h4 h7 h10 h0
    generalize mostN t = mo at *
    rcases h with rfl | rfl | rfl
    · go_enter Try.func55, Try.ntmps55
      go_wp2_with fail
      obtain ⟨W, hW⟩ : ∃ W, (w.alloc (.cells #[.int .u8 (m.k : Int), .int .u64 (m.n0 : Int), .int .u64 (m.n1 : Int), .int .u64 (m.n2 : Int), .int .u64 (m.n3 : Int), .int .u64 (m.n4 : Int), .int .u64 (m.n5 : Int), .string m.s0, .string m.s1, .slice m.A len m.c] 27)).alloc (.cells #[.int .i64 num, .int .i64 7, .int .i64 i] 44) = W := ⟨_, rfl⟩
      have hbx : Bx2 w W s len m num 7 i := by rw [← hW]; exact HBX.out
      rw [hW]
      have HBW := hid hbx
      have c0 := hbx.b0.cell 0
      have c1 := hbx.b0.cell 1
      have c2 := hbx.b0.cell 2
      have c3 := hbx.b0.cell 3
      have c4 := hbx.b0.cell 4
      have c5 := hbx.b0.cell 5
      have c6 := hbx.b0.cell 6
      have c7 := hbx.b0.cell 7
      have c8 := hbx.b0.cell 8
      have c9 := hbx.b0.cell 9
      have d1 := hbx.b1.cell 1
      have d2 := hbx.b1.cell 2
      simp only [List.getElem?_toArray, List.getElem?_cons_zero, List.getElem?_cons_succ] at c0 c1 c2 c3 c4 c5 c6 c7 c8 c9 d1 d2
      have HD := hid (And.intro c0 (And.intro c1 (And.intro c2 (And.intro c3 (And.intro c4 (And.intro c5 (And.intro c6 (And.intro c7 (And.intro c8 (And.intro c9 (And.intro d1 d2)))))))))))
      have hz := hbx.z
      clear hW HBX hbx d1 d2
      go_region_held3 (fun w' => w'.cell? ⟨s, 0, none⟩ = some (.int .u8 (m.k : Int)) ∧ w'.cell? ⟨s, 1, none⟩ = some (.int .u64 (m.n0 : Int)) ∧ w'.cell? ⟨s, 2, none⟩ = some (.int .u64 (m.n1 : Int)) ∧ w'.cell? ⟨s, 3, none⟩ = some (.int .u64 (m.n2 : Int)) ∧ w'.cell? ⟨s, 4, none⟩ = some (.int .u64 (m.n3 : Int)) ∧ w'.cell? ⟨s, 5, none⟩ = some (.int .u64 (m.n4 : Int)) ∧ w'.cell? ⟨s, 6, none⟩ = some (.int .u64 (m.n5 : Int)) ∧ w'.cell? ⟨s, 7, none⟩ = some (.string m.s0) ∧ w'.cell? ⟨s, 8, none⟩ = some (.string m.s1) ∧ w'.cell? ⟨s, 9, none⟩ = some (.slice m.A len m.c) ∧ w'.cell? ⟨s + 1, 1, none⟩ = some (.int .i64 7) ∧ w'.cell? ⟨s + 1, 2, none⟩ = some (.int .i64 i)) (first | exact HD3.out | exact HD2.out | exact HD.out | go_keep) (first | (go_at_call 54; refine (HT.out _).mono ?_; rintro e w2 ⟨rfl, hb2⟩; have HD2 := hid (held12 (w := W.drewN 1) hb2 HD.out)) | (go_at_call 78; refine (HMO.out _).mono ?_; rintro e w3 ⟨rfl, rfl⟩) | (go_at_call 77; refine (HCK.out _).mono ?_; rintro e w4 ⟨rfl, hb4⟩; have HD3 := hid (held12 hb4 HD2.out)))
      have HB4 := hid (HBW.out.bel.trans ((bw_t (bw_t (bw_d (Below.refl _ W) 1) hb2) hb4).mono (by omega)))
      clear hb2 hb4
      go_wp2_with fail
      go_ret
      exact ⟨rfl, HB4.out⟩
    · go_enter Try.func55, Try.ntmps55
      go_wp2_with fail
      obtain ⟨W, hW⟩ : ∃ W, (w.alloc (.cells #[.int .u8 (m.k : Int), .int .u64 (m.n0 : Int), .int .u64 (m.n1 : Int), .int .u64 (m.n2 : Int), .int .u64 (m.n3 : Int), .int .u64 (m.n4 : Int), .int .u64 (m.n5 : Int), .string m.s0, .string m.s1, .slice m.A len m.c] 27)).alloc (.cells #[.int .i64 num, .int .i64 8, .int .i64 i] 44) = W := ⟨_, rfl⟩
      have hbx : Bx2 w W s len m num 8 i := by rw [← hW]; exact HBX.out
      rw [hW]
      have HBW := hid hbx
      have c0 := hbx.b0.cell 0
      have c1 := hbx.b0.cell 1
      have c2 := hbx.b0.cell 2
      have c3 := hbx.b0.cell 3
      have c4 := hbx.b0.cell 4
      have c5 := hbx.b0.cell 5
      have c6 := hbx.b0.cell 6
      have c7 := hbx.b0.cell 7
      have c8 := hbx.b0.cell 8
      have c9 := hbx.b0.cell 9
      have d1 := hbx.b1.cell 1
      have d2 := hbx.b1.cell 2
      simp only [List.getElem?_toArray, List.getElem?_cons_zero, List.getElem?_cons_succ] at c0 c1 c2 c3 c4 c5 c6 c7 c8 c9 d1 d2
      have HD := hid (And.intro c0 (And.intro c1 (And.intro c2 (And.intro c3 (And.intro c4 (And.intro c5 (And.intro c6 (And.intro c7 (And.intro c8 (And.intro c9 (And.intro d1 d2)))))))))))
      have hz := hbx.z
      clear hW HBX hbx d1 d2
      go_region_held3 (fun w' => w'.cell? ⟨s, 0, none⟩ = some (.int .u8 (m.k : Int)) ∧ w'.cell? ⟨s, 1, none⟩ = some (.int .u64 (m.n0 : Int)) ∧ w'.cell? ⟨s, 2, none⟩ = some (.int .u64 (m.n1 : Int)) ∧ w'.cell? ⟨s, 3, none⟩ = some (.int .u64 (m.n2 : Int)) ∧ w'.cell? ⟨s, 4, none⟩ = some (.int .u64 (m.n3 : Int)) ∧ w'.cell? ⟨s, 5, none⟩ = some (.int .u64 (m.n4 : Int)) ∧ w'.cell? ⟨s, 6, none⟩ = some (.int .u64 (m.n5 : Int)) ∧ w'.cell? ⟨s, 7, none⟩ = some (.string m.s0) ∧ w'.cell? ⟨s, 8, none⟩ = some (.string m.s1) ∧ w'.cell? ⟨s, 9, none⟩ = some (.slice m.A len m.c) ∧ w'.cell? ⟨s + 1, 1, none⟩ = some (.int .i64 8) ∧ w'.cell? ⟨s + 1, 2, none⟩ = some (.int .i64 i)) (first | exact HD3.out | exact HD2.out | exact HD.out | go_keep) (first | (go_at_call 54; refine (HT.out _).mono ?_; rintro e w2 ⟨rfl, hb2⟩; have HD2 := hid (held12 (w := W.drewN 1) hb2 HD.out)) | (go_at_call 78; refine (HMO.out _).mono ?_; rintro e w3 ⟨rfl, rfl⟩) | (go_at_call 77; refine (HCK.out _).mono ?_; rintro e w4 ⟨rfl, hb4⟩; have HD3 := hid (held12 hb4 HD2.out)))
      have HB4 := hid (HBW.out.bel.trans ((bw_t (bw_t (bw_d (Below.refl _ W) 1) hb2) hb4).mono (by omega)))
      clear hb2 hb4
      go_wp2_with fail
      go_ret
      exact ⟨rfl, HB4.out⟩
    · go_enter Try.func55, Try.ntmps55
      go_wp2_with fail
      obtain ⟨W, hW⟩ : ∃ W, (w.alloc (.cells #[.int .u8 (m.k : Int), .int .u64 (m.n0 : Int), .int .u64 (m.n1 : Int), .int .u64 (m.n2 : Int), .int .u64 (m.n3 : Int), .int .u64 (m.n4 : Int), .int .u64 (m.n5 : Int), .string m.s0, .string m.s1, .slice m.A len m.c] 27)).alloc (.cells #[.int .i64 num, .int .i64 9, .int .i64 i] 44) = W := ⟨_, rfl⟩
      have hbx : Bx2 w W s len m num 9 i := by rw [← hW]; exact HBX.out
      rw [hW]
      have HBW := hid hbx
      have c0 := hbx.b0.cell 0
      have c1 := hbx.b0.cell 1
      have c2 := hbx.b0.cell 2
      have c3 := hbx.b0.cell 3
      have c4 := hbx.b0.cell 4
      have c5 := hbx.b0.cell 5
      have c6 := hbx.b0.cell 6
      have c7 := hbx.b0.cell 7
      have c8 := hbx.b0.cell 8
      have c9 := hbx.b0.cell 9
      have d1 := hbx.b1.cell 1
      have d2 := hbx.b1.cell 2
      simp only [List.getElem?_toArray, List.getElem?_cons_zero, List.getElem?_cons_succ] at c0 c1 c2 c3 c4 c5 c6 c7 c8 c9 d1 d2
      have HD := hid (And.intro c0 (And.intro c1 (And.intro c2 (And.intro c3 (And.intro c4 (And.intro c5 (And.intro c6 (And.intro c7 (And.intro c8 (And.intro c9 (And.intro d1 d2)))))))))))
      have hz := hbx.z
      clear hW HBX hbx d1 d2
      go_region_held3 (fun w' => w'.cell? ⟨s, 0, none⟩ = some (.int .u8 (m.k : Int)) ∧ w'.cell? ⟨s, 1, none⟩ = some (.int .u64 (m.n0 : Int)) ∧ w'.cell? ⟨s, 2, none⟩ = some (.int .u64 (m.n1 : Int)) ∧ w'.cell? ⟨s, 3, none⟩ = some (.int .u64 (m.n2 : Int)) ∧ w'.cell? ⟨s, 4, none⟩ = some (.int .u64 (m.n3 : Int)) ∧ w'.cell? ⟨s, 5, none⟩ = some (.int .u64 (m.n4 : Int)) ∧ w'.cell? ⟨s, 6, none⟩ = some (.int .u64 (m.n5 : Int)) ∧ w'.cell? ⟨s, 7, none⟩ = some (.string m.s0) ∧ w'.cell? ⟨s, 8, none⟩ = some (.string m.s1) ∧ w'.cell? ⟨s, 9, none⟩ = some (.slice m.A len m.c) ∧ w'.cell? ⟨s + 1, 1, none⟩ = some (.int .i64 9) ∧ w'.cell? ⟨s + 1, 2, none⟩ = some (.int .i64 i)) (first | exact HD3.out | exact HD2.out | exact HD.out | go_keep) (first | (go_at_call 54; refine (HT.out _).mono ?_; rintro e w2 ⟨rfl, hb2⟩; have HD2 := hid (held12 (w := W.drewN 1) hb2 HD.out)) | (go_at_call 78; refine (HMO.out _).mono ?_; rintro e w3 ⟨rfl, rfl⟩) | (go_at_call 77; refine (HCK.out _).mono ?_; rintro e w4 ⟨rfl, hb4⟩; have HD3 := hid (held12 hb4 HD2.out)))
      have HB4 := hid (HBW.out.bel.trans ((bw_t (bw_t (bw_d (Below.refl _ W) 1) hb2) hb4).mono (by omega)))
      clear hb2 hb4
      go_wp2_with fail
      go_ret
      exact ⟨rfl, HB4.out⟩
  · rw [h10]
    clear h1 h4 h7 h10 h0
    go_enter Try.func55, Try.ntmps55
    go_wp2_with fail
    refine (HLI.out _ HBX.out.bel).mono ?_
    rintro e w1 ⟨rfl, hb1⟩
    have HB1 := hid (HBX.out.bel.trans (hb1.mono (by have := HBX.out.z; omega)))
    clear hb1
    go_wp2_with fail
    go_ret
    exact ⟨rfl, HB1.out⟩
  · rw [h0 h]
    clear h1 h4 h7 h10 h0
    have n1 : (t == 1) = false := by simp; omega
    have n4 : (t == 4) = false := by simp; omega
    have n5 : (t == 5) = false := by simp; omega
    have n7 : (t == 7) = false := by simp; omega
    have n8 : (t == 8) = false := by simp; omega
    have n9 : (t == 9) = false := by simp; omega
    have n10 : (t == 10) = false := by simp; omega
    go_enter Try.func55, Try.ntmps55
    go_wp2_with fail
    go_ret
    exact ⟨rfl, HBX.out.bel⟩
end Go.Proofs.Ytehjibbjkadoiaa
