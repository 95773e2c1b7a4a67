/- Layer 11's live. -/
import Derived.Test.YtnfodgjihdoncaaLenDec
set_option linter.unusedVariables false
namespace Go.Proofs.Ytnfodgjihdoncaa
open Go.RowKit
theorem l11_r1 : (readR 1 1 [8, 1, 8, 2, 120, 5]).1 = { ZM with k := 1, n0 := 2 } := by rfl
theorem l11_e1 : (readR 1 1 [8, 1, 8, 2, 120, 5]).2.2 = (0, 0) := by rfl
theorem l11_u1 : (readR 1 1 [8, 1, 8, 2, 120, 5]).2.1.map (fun f => f.1.num) = [15] := by rfl
theorem l11_chk : chk ⟨#[255]⟩ 64 = 9 := by
  unfold chk
  show checkI 1 (scan [255] 0).2 64 = 9
  rw [scan_bad (by decide)]
  rfl
theorem l11_dec : decF (ofL 1 1) { ZM with k := 1 } [(⟨1, 0, 1, [], 0, 0, 2⟩, 0), (⟨3, 2, 0, [255], 0, 0, 5⟩, 2)] = (ZM, [], 9, 2) := by
  rw [decF_ok (r := ⟨1, 1, 1, 1, 0⟩) (by rfl) (by rfl)]
  have he : setE (setM { ZM with k := 1 } 1 0 1 ⟨#[]⟩) 7 0 ⟨#[255]⟩ = 9 := l11_chk
  have h2 : ownR (ofL 1 1) 3 2 = some ⟨1, 1, 3, 7, 0⟩ := by rfl
  rw [decF, h2]
  simp only
  rw [if_neg]
  · exact congrArg (fun x => (ZM, ([] : List (RF × Nat)), x, 2)) he
  · intro h
    have h3 : setE (setM { ZM with k := 1 } 1 0 1 ⟨#[]⟩) 7 0 ⟨#[255]⟩ = 0 := h
    rw [he] at h3
    cases h3
theorem l11_r3 : readR 1 1 [8, 1, 26, 1, 255] = (ZM, [], 9, 2) := by
  unfold readR
  rw [if_neg (by decide), if_neg (by decide), if_neg (by decide)]
  have hd : decF (ofL 1 1) { ZM with k := 1 } [(⟨1, 0, 1, [], 0, 0, 2⟩, 0), (⟨3, 2, 0, [255], 0, 0, 5⟩, 2)] = (ZM, [], 9, 2) := l11_dec
  have hi : (if (decF (ofL 1 1) { ZM with k := 1 } [(⟨1, 0, 1, [], 0, 0, 2⟩, 0), (⟨3, 2, 0, [255], 0, 0, 5⟩, 2)]).2.2.1 ≠ 0 then (ZM, [], (decF (ofL 1 1) { ZM with k := 1 } [(⟨1, 0, 1, [], 0, 0, 2⟩, 0), (⟨3, 2, 0, [255], 0, 0, 5⟩, 2)]).2.2) else decF (ofL 1 1) { ZM with k := 1 } [(⟨1, 0, 1, [], 0, 0, 2⟩, 0), (⟨3, 2, 0, [255], 0, 0, 5⟩, 2)]) = (ZM, [], 9, 2) := by rw [hd, if_pos (by decide)]
  exact hi
theorem l11_r4 : (readR 8 1 []).1 = ZM := by rfl
theorem l11_e4 : (readR 8 1 []).2.2 = (7, 0) := by rfl
theorem l11_s : setM ZM 3 5 1 ⟨#[]⟩ = { ZM with n5 := 18446744073709551615 } := by rfl
theorem l11_se : setE ZM 3 5 ⟨#[]⟩ = 0 := by rfl
theorem l11_d1 (W : World) (N : Nat) (hN : W.heap.size = N) : Calls Try.prog 17 #[.int .u8 1, .int .i64 1, .slice (some ⟨N, 0, none⟩) 6 6] (W.alloc (.cells #[.int .u8 8, .int .u8 1, .int .u8 8, .int .u8 2, .int .u8 120, .int .u8 5] 5)) fun e w' => ∃ A' c', e = .returned (.tuple #[.agg #[.int .u8 1, .int .u64 2, .int .u64 0, .int .u64 0, .int .u64 0, .int .u64 0, .int .u64 0, .string ⟨#[]⟩, .string ⟨#[]⟩, .slice A' 0 c'], .agg #[.int .i64 0, .int .i64 0]]) ∧ Below N W w' := by
  subst hN
  refine (ldec_any 1 1 [8, 1, 8, 2, 120, 5] 6 _ 6 _ (by decide) (by decide) (by decide) rfl (sl_lit W 5 [8, 1, 8, 2, 120, 5] #[.int .u8 8, .int .u8 1, .int .u8 8, .int .u8 2, .int .u8 120, .int .u8 5] 6 rfl (by decide) rfl)).mono ?_
  rintro e w' ⟨A', c', rfl, -, hb⟩
  rw [l11_r1, l11_e1]
  exact ⟨A', c', rfl, (bw_a (Below.refl _ W) _).trans (hb.mono (by simp))⟩
theorem l11_unk (W : World) (N : Nat) (hN : W.heap.size = N) : Calls Try.prog 49 #[.int .u8 1, .int .i64 1, .slice (some ⟨N, 0, none⟩) 6 6] (W.alloc (.cells #[.int .u8 8, .int .u8 1, .int .u8 8, .int .u8 2, .int .u8 120, .int .u8 5] 5)) fun e w' => ∃ A' c', e = .returned (.tuple #[.slice (some A') 1 c', .agg #[.int .i64 0, .int .i64 0]]) ∧ A'.block < w'.heap.size ∧ (∃ b off, A' = ⟨b, off, none⟩) ∧ 1 ≤ c' ∧ c' ≤ 9223372036854775807 ∧ w'.cell? A' = some (.int .i64 15) ∧ Below N W w' := by
  subst hN
  refine (lunk_any 1 1 [8, 1, 8, 2, 120, 5] 6 _ 6 _ (by decide) (by decide) (by decide) rfl (sl_lit W 5 [8, 1, 8, 2, 120, 5] #[.int .u8 8, .int .u8 1, .int .u8 8, .int .u8 2, .int .u8 120, .int .u8 5] 6 rfl (by decide) rfl)).mono ?_
  rintro e w' ⟨pre, Ao, co, rfl, ho, hfa, -, hb⟩
  rw [l11_e1]
  have h1 := l11_u1
  generalize (readR 1 1 [8, 1, 8, 2, 120, 5]).2.1 = R at *
  obtain ⟨A2, c2, e2, hsn⟩ := sln_own (by decide) ho
  injection e2 with e3 e4 e5
  subst e3
  subst e5
  cases pre with
  | nil => cases R with
    | nil => simp at h1
    | cons r R => exact hfa.elim
  | cons f pre => cases R with
    | nil => exact hfa.elim
    | cons r R =>
      obtain ⟨hf, hfa⟩ := hfa
      simp only [List.map_cons, List.cons.injEq, List.map_eq_nil_iff] at h1
      obtain ⟨h15, rfl⟩ := h1
      cases pre with
      | cons g pre => exact hfa.elim
      | nil =>
        obtain ⟨b, off, rfl, hlt, hc⟩ := hsn.rd 0 (.int .i64 f.num) (by simp [fvC])
        have hcap := hsn.cap
        have hsm := hsn.small
        simp only [List.length_cons, List.length_nil] at hcap hsm ⊢
        exact ⟨_, co, rfl, hlt, ⟨b, off, rfl⟩, by omega, by omega, by rw [hf.1, h15] at hc; exact hc, (bw_a (Below.refl _ W) _).trans (hb.mono (by simp))⟩
theorem l11_d3 (W : World) (N : Nat) (hN : W.heap.size = N) : Calls Try.prog 17 #[.int .u8 1, .int .i64 1, .slice (some ⟨N, 0, none⟩) 5 5] (W.alloc (.cells #[.int .u8 8, .int .u8 1, .int .u8 26, .int .u8 1, .int .u8 255] 5)) fun e w' => ∃ A' c', e = .returned (.tuple #[.agg #[.int .u8 0, .int .u64 0, .int .u64 0, .int .u64 0, .int .u64 0, .int .u64 0, .int .u64 0, .string ⟨#[]⟩, .string ⟨#[]⟩, .slice A' 0 c'], .agg #[.int .i64 9, .int .i64 2]]) ∧ Below N W w' := by
  subst hN
  refine (ldec_any 1 1 [8, 1, 26, 1, 255] 5 _ 5 _ (by decide) (by decide) (by decide) rfl (sl_lit W 5 [8, 1, 26, 1, 255] #[.int .u8 8, .int .u8 1, .int .u8 26, .int .u8 1, .int .u8 255] 5 rfl (by decide) rfl)).mono ?_
  rintro e w' ⟨A', c', rfl, -, hb⟩
  rw [l11_r3]
  exact ⟨A', c', rfl, (bw_a (Below.refl _ W) _).trans (hb.mono (by simp))⟩
theorem l11_d4 (W : World) : Calls Try.prog 17 #[.int .u8 8, .int .i64 1, .slice none 0 0] W fun e w' => ∃ A' c', e = .returned (.tuple #[.agg #[.int .u8 0, .int .u64 0, .int .u64 0, .int .u64 0, .int .u64 0, .int .u64 0, .int .u64 0, .string ⟨#[]⟩, .string ⟨#[]⟩, .slice A' 0 c'], .agg #[.int .i64 7, .int .i64 0]]) ∧ Below W.heap.size W w' := by
  refine (ldec_any 8 1 [] 0 none 0 _ (by decide) (by decide) (by decide) rfl (Sl.nil_ W)).mono ?_
  rintro e w' ⟨A', c', rfl, -, hb⟩
  rw [l11_r4, l11_e4]
  exact ⟨A', c', rfl, hb⟩
theorem l11_set (W : World) : Calls Try.prog 50 #[.agg #[.int .u8 0, .int .u64 0, .int .u64 0, .int .u64 0, .int .u64 0, .int .u64 0, .int .u64 0, .string ⟨#[]⟩, .string ⟨#[]⟩, .slice none 0 0], .agg #[.int .i64 1, .int .i64 3, .int .i64 5], .agg #[.int .i64 0, .int .u8 0, .int .u64 1, .slice none 0 0, .int .i64 0]] W fun e w' => ∃ A' c', e = .returned (.tuple #[.agg #[.int .u8 0, .int .u64 0, .int .u64 0, .int .u64 0, .int .u64 0, .int .u64 0, .int .u64 18446744073709551615, .string ⟨#[]⟩, .string ⟨#[]⟩, .slice A' 0 c'], .int .i64 0]) ∧ Below W.heap.size W w' := by
  refine (lset_any ZM 1 3 5 ⟨0, 0, 1, ⟨none, 0, []⟩, 0⟩ W (by decide) (by decide) (Sl.nil_ W) (by decide) (Sl.nil_ W)).mono ?_
  rintro e w' ⟨A', c', rfl, -, hb⟩
  have h1 : setM ZM 3 5 1 (fvS ⟨0, 0, 1, ⟨none, 0, []⟩, 0⟩) = { ZM with n5 := 18446744073709551615 } := l11_s
  have h2 : setE ZM 3 5 (fvS ⟨0, 0, 1, ⟨none, 0, []⟩, 0⟩) = 0 := l11_se
  refine ⟨A', c', ?_, hb⟩
  simp only [h1, h2]
  rfl
set_option maxRecDepth 100000 in
set_option maxHeartbeats 4000000 in
theorem live11_any (w : World) : Calls Try.prog 14 #[] w fun e w' => e = .returned (.bool true) ∧ Below w.heap.size w w' := by
  have HD1 := hid l11_d1
  have HUN := hid l11_unk
  have HD3 := hid l11_d3
  have HD4 := hid l11_d4
  have HSE := hid l11_set
  obtain ⟨s, hws⟩ : ∃ s, w.heap.size = s := ⟨_, rfl⟩
  go_enter Try.func14, Try.ntmps14
  go_wp2_with fail
  refine (HD1.out w s hws).mono ?_
  rintro e w1 ⟨A1, c1, rfl, hb⟩
  have hB1 : Below s w w1 := hb
  obtain ⟨p1, hp1⟩ : ∃ p, w1.heap.size = p := ⟨_, rfl⟩
  have hk10 : Blk ((w1.alloc (.cells #[.int .u8 1, .int .u64 2, .int .u64 0, .int .u64 0, .int .u64 0, .int .u64 0, .int .u64 0, .string ⟨#[]⟩, .string ⟨#[]⟩, .slice A1 0 c1] 27)).alloc (.cells #[.int .i64 0, .int .i64 0] 33)) (p1) 27 #[.int .u8 1, .int .u64 2, .int .u64 0, .int .u64 0, .int .u64 0, .int .u64 0, .int .u64 0, .string ⟨#[]⟩, .string ⟨#[]⟩, .slice A1 0 c1] := by
    have h := ((Blk.new w1 27 #[.int .u8 1, .int .u64 2, .int .u64 0, .int .u64 0, .int .u64 0, .int .u64 0, .int .u64 0, .string ⟨#[]⟩, .string ⟨#[]⟩, .slice A1 0 c1]).alloc (.cells #[.int .i64 0, .int .i64 0] 33))
    rw [hp1] at h; exact h
  have hk11 : Blk ((w1.alloc (.cells #[.int .u8 1, .int .u64 2, .int .u64 0, .int .u64 0, .int .u64 0, .int .u64 0, .int .u64 0, .string ⟨#[]⟩, .string ⟨#[]⟩, .slice A1 0 c1] 27)).alloc (.cells #[.int .i64 0, .int .i64 0] 33)) (p1 + 1) 33 #[.int .i64 0, .int .i64 0] := by
    have h := (Blk.new (w1.alloc (.cells #[.int .u8 1, .int .u64 2, .int .u64 0, .int .u64 0, .int .u64 0, .int .u64 0, .int .u64 0, .string ⟨#[]⟩, .string ⟨#[]⟩, .slice A1 0 c1] 27)) 33 #[.int .i64 0, .int .i64 0])
    rw [World.size_alloc, hp1] at h; exact h
  have hz1 : (((w1.alloc (.cells #[.int .u8 1, .int .u64 2, .int .u64 0, .int .u64 0, .int .u64 0, .int .u64 0, .int .u64 0, .string ⟨#[]⟩, .string ⟨#[]⟩, .slice A1 0 c1] 27)).alloc (.cells #[.int .i64 0, .int .i64 0] 33))).heap.size = p1 + 1 + 1 := by simp [hp1]
  have HZ1 := hid hz1
  clear hz1
  have hBB1 : Below s w ((w1.alloc (.cells #[.int .u8 1, .int .u64 2, .int .u64 0, .int .u64 0, .int .u64 0, .int .u64 0, .int .u64 0, .string ⟨#[]⟩, .string ⟨#[]⟩, .slice A1 0 c1] 27)).alloc (.cells #[.int .i64 0, .int .i64 0] 33)) := by
    have h := bw_a (Below.refl _ w1) (.cells #[.int .u8 1, .int .u64 2, .int .u64 0, .int .u64 0, .int .u64 0, .int .u64 0, .int .u64 0, .string ⟨#[]⟩, .string ⟨#[]⟩, .slice A1 0 c1] 27)
    have h := bw_a h (.cells #[.int .i64 0, .int .i64 0] 33)
    exact hB1.trans (h.mono (by have := hB1.size; omega))
  have HB1 := hid hBB1
  have HK10 := hid hk10
  have HK11 := hid hk11
  clear hk10 hk11 hBB1 hB1 hb
  go_wp2_with fail
  try rw [hp1]
  generalize ((w1.alloc (.cells #[.int .u8 1, .int .u64 2, .int .u64 0, .int .u64 0, .int .u64 0, .int .u64 0, .int .u64 0, .string ⟨#[]⟩, .string ⟨#[]⟩, .slice A1 0 c1] 27)).alloc (.cells #[.int .i64 0, .int .i64 0] 33)) = W1 at *
  clear hp1
  refine (HUN.out W1 _ HZ1.out).mono ?_
  rintro e w2 ⟨A2, c2, rfl, hlt, ⟨ub, uo, rfl⟩, hc1, hc2, hu, hb⟩
  have hb : Below W1.heap.size W1 w2 := by rw [HZ1.out]; exact hb
  have hB2 : Below s w w2 := HB1.out.trans (hb.mono (by have := HB1.out.size; omega))
  have hk10 := HK10.out.below hb HK10.out.lt
  have hk11 := HK11.out.below hb HK11.out.lt
  obtain ⟨p2, hp2⟩ : ∃ p, w2.heap.size = p := ⟨_, rfl⟩
  have hk20 : Blk (w2.alloc (.cells #[.int .i64 0, .int .i64 0] 33)) (p2) 33 #[.int .i64 0, .int .i64 0] := by
    have h := (Blk.new w2 33 #[.int .i64 0, .int .i64 0])
    rw [hp2] at h; exact h
  have hz2 : ((w2.alloc (.cells #[.int .i64 0, .int .i64 0] 33))).heap.size = p2 + 1 := by simp [hp2]
  have HZ2 := hid hz2
  clear hz2
  have hBB2 : Below s w (w2.alloc (.cells #[.int .i64 0, .int .i64 0] 33)) := by
    have h := bw_a (Below.refl _ w2) (.cells #[.int .i64 0, .int .i64 0] 33)
    exact hB2.trans (h.mono (by have := hB2.size; omega))
  have hk10 := hk10
  have hk10 := (hk10.alloc (.cells #[.int .i64 0, .int .i64 0] 33))
  have hk11 := hk11
  have hk11 := (hk11.alloc (.cells #[.int .i64 0, .int .i64 0] 33))
  have hu := ((bw_a (Below.refl w2.heap.size w2) (.cells #[.int .i64 0, .int .i64 0] 33)).cell (p := ⟨ub, uo, none⟩) hlt).trans hu
  have hlt := Nat.lt_of_lt_of_le hlt ((bw_a (Below.refl w2.heap.size w2) (.cells #[.int .i64 0, .int .i64 0] 33))).size
  have HB2 := hid hBB2
  have HK10 := hid hk10
  have HK11 := hid hk11
  have HK20 := hid hk20
  clear hk10 hk11 hk20 hBB2 hB2 hb
  go_wp2_with fail
  try rw [hp2]
  generalize (w2.alloc (.cells #[.int .i64 0, .int .i64 0] 33)) = W2 at *
  clear hp2
  refine (HD3.out W2 _ HZ2.out).mono ?_
  rintro e w3 ⟨A3, c3, rfl, hb⟩
  have hb : Below W2.heap.size W2 w3 := by rw [HZ2.out]; exact hb
  have hB3 : Below s w w3 := HB2.out.trans (hb.mono (by have := HB2.out.size; omega))
  have hk10 := HK10.out.below hb HK10.out.lt
  have hk11 := HK11.out.below hb HK11.out.lt
  have hk20 := HK20.out.below hb HK20.out.lt
  have hu := (hb.cell (p := ⟨ub, uo, none⟩) hlt).trans hu
  have hlt := Nat.lt_of_lt_of_le hlt hb.size
  obtain ⟨p3, hp3⟩ : ∃ p, w3.heap.size = p := ⟨_, rfl⟩
  have hk30 : Blk ((w3.alloc (.cells #[.int .u8 0, .int .u64 0, .int .u64 0, .int .u64 0, .int .u64 0, .int .u64 0, .int .u64 0, .string ⟨#[]⟩, .string ⟨#[]⟩, .slice A3 0 c3] 27)).alloc (.cells #[.int .i64 9, .int .i64 2] 33)) (p3) 27 #[.int .u8 0, .int .u64 0, .int .u64 0, .int .u64 0, .int .u64 0, .int .u64 0, .int .u64 0, .string ⟨#[]⟩, .string ⟨#[]⟩, .slice A3 0 c3] := by
    have h := ((Blk.new w3 27 #[.int .u8 0, .int .u64 0, .int .u64 0, .int .u64 0, .int .u64 0, .int .u64 0, .int .u64 0, .string ⟨#[]⟩, .string ⟨#[]⟩, .slice A3 0 c3]).alloc (.cells #[.int .i64 9, .int .i64 2] 33))
    rw [hp3] at h; exact h
  have hk31 : Blk ((w3.alloc (.cells #[.int .u8 0, .int .u64 0, .int .u64 0, .int .u64 0, .int .u64 0, .int .u64 0, .int .u64 0, .string ⟨#[]⟩, .string ⟨#[]⟩, .slice A3 0 c3] 27)).alloc (.cells #[.int .i64 9, .int .i64 2] 33)) (p3 + 1) 33 #[.int .i64 9, .int .i64 2] := by
    have h := (Blk.new (w3.alloc (.cells #[.int .u8 0, .int .u64 0, .int .u64 0, .int .u64 0, .int .u64 0, .int .u64 0, .int .u64 0, .string ⟨#[]⟩, .string ⟨#[]⟩, .slice A3 0 c3] 27)) 33 #[.int .i64 9, .int .i64 2])
    rw [World.size_alloc, hp3] at h; exact h
  have hz3 : (((w3.alloc (.cells #[.int .u8 0, .int .u64 0, .int .u64 0, .int .u64 0, .int .u64 0, .int .u64 0, .int .u64 0, .string ⟨#[]⟩, .string ⟨#[]⟩, .slice A3 0 c3] 27)).alloc (.cells #[.int .i64 9, .int .i64 2] 33))).heap.size = p3 + 1 + 1 := by simp [hp3]
  have HZ3 := hid hz3
  clear hz3
  have hBB3 : Below s w ((w3.alloc (.cells #[.int .u8 0, .int .u64 0, .int .u64 0, .int .u64 0, .int .u64 0, .int .u64 0, .int .u64 0, .string ⟨#[]⟩, .string ⟨#[]⟩, .slice A3 0 c3] 27)).alloc (.cells #[.int .i64 9, .int .i64 2] 33)) := by
    have h := bw_a (Below.refl _ w3) (.cells #[.int .u8 0, .int .u64 0, .int .u64 0, .int .u64 0, .int .u64 0, .int .u64 0, .int .u64 0, .string ⟨#[]⟩, .string ⟨#[]⟩, .slice A3 0 c3] 27)
    have h := bw_a h (.cells #[.int .i64 9, .int .i64 2] 33)
    exact hB3.trans (h.mono (by have := hB3.size; omega))
  have hk10 := hk10
  have hk10 := ((hk10.alloc (.cells #[.int .u8 0, .int .u64 0, .int .u64 0, .int .u64 0, .int .u64 0, .int .u64 0, .int .u64 0, .string ⟨#[]⟩, .string ⟨#[]⟩, .slice A3 0 c3] 27)).alloc (.cells #[.int .i64 9, .int .i64 2] 33))
  have hk11 := hk11
  have hk11 := ((hk11.alloc (.cells #[.int .u8 0, .int .u64 0, .int .u64 0, .int .u64 0, .int .u64 0, .int .u64 0, .int .u64 0, .string ⟨#[]⟩, .string ⟨#[]⟩, .slice A3 0 c3] 27)).alloc (.cells #[.int .i64 9, .int .i64 2] 33))
  have hk20 := hk20
  have hk20 := ((hk20.alloc (.cells #[.int .u8 0, .int .u64 0, .int .u64 0, .int .u64 0, .int .u64 0, .int .u64 0, .int .u64 0, .string ⟨#[]⟩, .string ⟨#[]⟩, .slice A3 0 c3] 27)).alloc (.cells #[.int .i64 9, .int .i64 2] 33))
  have hu := ((bw_a (bw_a (Below.refl w3.heap.size w3) (.cells #[.int .u8 0, .int .u64 0, .int .u64 0, .int .u64 0, .int .u64 0, .int .u64 0, .int .u64 0, .string ⟨#[]⟩, .string ⟨#[]⟩, .slice A3 0 c3] 27)) (.cells #[.int .i64 9, .int .i64 2] 33)).cell (p := ⟨ub, uo, none⟩) hlt).trans hu
  have hlt := Nat.lt_of_lt_of_le hlt ((bw_a (bw_a (Below.refl w3.heap.size w3) (.cells #[.int .u8 0, .int .u64 0, .int .u64 0, .int .u64 0, .int .u64 0, .int .u64 0, .int .u64 0, .string ⟨#[]⟩, .string ⟨#[]⟩, .slice A3 0 c3] 27)) (.cells #[.int .i64 9, .int .i64 2] 33))).size
  have HB3 := hid hBB3
  have HK10 := hid hk10
  have HK11 := hid hk11
  have HK20 := hid hk20
  have HK30 := hid hk30
  have HK31 := hid hk31
  clear hk10 hk11 hk20 hk30 hk31 hBB3 hB3 hb
  go_wp2_with fail
  try rw [hp3]
  generalize ((w3.alloc (.cells #[.int .u8 0, .int .u64 0, .int .u64 0, .int .u64 0, .int .u64 0, .int .u64 0, .int .u64 0, .string ⟨#[]⟩, .string ⟨#[]⟩, .slice A3 0 c3] 27)).alloc (.cells #[.int .i64 9, .int .i64 2] 33)) = W3 at *
  clear hp3
  refine (HD4.out _).mono ?_
  rintro e w4 ⟨A4, c4, rfl, hb⟩
  have hB4 : Below s w w4 := HB3.out.trans (hb.mono (by have := HB3.out.size; omega))
  have hk10 := HK10.out.below hb HK10.out.lt
  have hk11 := HK11.out.below hb HK11.out.lt
  have hk20 := HK20.out.below hb HK20.out.lt
  have hk30 := HK30.out.below hb HK30.out.lt
  have hk31 := HK31.out.below hb HK31.out.lt
  have hu := (hb.cell (p := ⟨ub, uo, none⟩) hlt).trans hu
  have hlt := Nat.lt_of_lt_of_le hlt hb.size
  obtain ⟨p4, hp4⟩ : ∃ p, w4.heap.size = p := ⟨_, rfl⟩
  have hk40 : Blk ((w4.alloc (.cells #[.int .u8 0, .int .u64 0, .int .u64 0, .int .u64 0, .int .u64 0, .int .u64 0, .int .u64 0, .string ⟨#[]⟩, .string ⟨#[]⟩, .slice A4 0 c4] 27)).alloc (.cells #[.int .i64 7, .int .i64 0] 33)) (p4) 27 #[.int .u8 0, .int .u64 0, .int .u64 0, .int .u64 0, .int .u64 0, .int .u64 0, .int .u64 0, .string ⟨#[]⟩, .string ⟨#[]⟩, .slice A4 0 c4] := by
    have h := ((Blk.new w4 27 #[.int .u8 0, .int .u64 0, .int .u64 0, .int .u64 0, .int .u64 0, .int .u64 0, .int .u64 0, .string ⟨#[]⟩, .string ⟨#[]⟩, .slice A4 0 c4]).alloc (.cells #[.int .i64 7, .int .i64 0] 33))
    rw [hp4] at h; exact h
  have hk41 : Blk ((w4.alloc (.cells #[.int .u8 0, .int .u64 0, .int .u64 0, .int .u64 0, .int .u64 0, .int .u64 0, .int .u64 0, .string ⟨#[]⟩, .string ⟨#[]⟩, .slice A4 0 c4] 27)).alloc (.cells #[.int .i64 7, .int .i64 0] 33)) (p4 + 1) 33 #[.int .i64 7, .int .i64 0] := by
    have h := (Blk.new (w4.alloc (.cells #[.int .u8 0, .int .u64 0, .int .u64 0, .int .u64 0, .int .u64 0, .int .u64 0, .int .u64 0, .string ⟨#[]⟩, .string ⟨#[]⟩, .slice A4 0 c4] 27)) 33 #[.int .i64 7, .int .i64 0])
    rw [World.size_alloc, hp4] at h; exact h
  have hz4 : (((w4.alloc (.cells #[.int .u8 0, .int .u64 0, .int .u64 0, .int .u64 0, .int .u64 0, .int .u64 0, .int .u64 0, .string ⟨#[]⟩, .string ⟨#[]⟩, .slice A4 0 c4] 27)).alloc (.cells #[.int .i64 7, .int .i64 0] 33))).heap.size = p4 + 1 + 1 := by simp [hp4]
  have HZ4 := hid hz4
  clear hz4
  have hBB4 : Below s w ((w4.alloc (.cells #[.int .u8 0, .int .u64 0, .int .u64 0, .int .u64 0, .int .u64 0, .int .u64 0, .int .u64 0, .string ⟨#[]⟩, .string ⟨#[]⟩, .slice A4 0 c4] 27)).alloc (.cells #[.int .i64 7, .int .i64 0] 33)) := by
    have h := bw_a (Below.refl _ w4) (.cells #[.int .u8 0, .int .u64 0, .int .u64 0, .int .u64 0, .int .u64 0, .int .u64 0, .int .u64 0, .string ⟨#[]⟩, .string ⟨#[]⟩, .slice A4 0 c4] 27)
    have h := bw_a h (.cells #[.int .i64 7, .int .i64 0] 33)
    exact hB4.trans (h.mono (by have := hB4.size; omega))
  have hk10 := hk10
  have hk10 := ((hk10.alloc (.cells #[.int .u8 0, .int .u64 0, .int .u64 0, .int .u64 0, .int .u64 0, .int .u64 0, .int .u64 0, .string ⟨#[]⟩, .string ⟨#[]⟩, .slice A4 0 c4] 27)).alloc (.cells #[.int .i64 7, .int .i64 0] 33))
  have hk11 := hk11
  have hk11 := ((hk11.alloc (.cells #[.int .u8 0, .int .u64 0, .int .u64 0, .int .u64 0, .int .u64 0, .int .u64 0, .int .u64 0, .string ⟨#[]⟩, .string ⟨#[]⟩, .slice A4 0 c4] 27)).alloc (.cells #[.int .i64 7, .int .i64 0] 33))
  have hk20 := hk20
  have hk20 := ((hk20.alloc (.cells #[.int .u8 0, .int .u64 0, .int .u64 0, .int .u64 0, .int .u64 0, .int .u64 0, .int .u64 0, .string ⟨#[]⟩, .string ⟨#[]⟩, .slice A4 0 c4] 27)).alloc (.cells #[.int .i64 7, .int .i64 0] 33))
  have hk30 := hk30
  have hk30 := ((hk30.alloc (.cells #[.int .u8 0, .int .u64 0, .int .u64 0, .int .u64 0, .int .u64 0, .int .u64 0, .int .u64 0, .string ⟨#[]⟩, .string ⟨#[]⟩, .slice A4 0 c4] 27)).alloc (.cells #[.int .i64 7, .int .i64 0] 33))
  have hk31 := hk31
  have hk31 := ((hk31.alloc (.cells #[.int .u8 0, .int .u64 0, .int .u64 0, .int .u64 0, .int .u64 0, .int .u64 0, .int .u64 0, .string ⟨#[]⟩, .string ⟨#[]⟩, .slice A4 0 c4] 27)).alloc (.cells #[.int .i64 7, .int .i64 0] 33))
  have hu := ((bw_a (bw_a (Below.refl w4.heap.size w4) (.cells #[.int .u8 0, .int .u64 0, .int .u64 0, .int .u64 0, .int .u64 0, .int .u64 0, .int .u64 0, .string ⟨#[]⟩, .string ⟨#[]⟩, .slice A4 0 c4] 27)) (.cells #[.int .i64 7, .int .i64 0] 33)).cell (p := ⟨ub, uo, none⟩) hlt).trans hu
  have hlt := Nat.lt_of_lt_of_le hlt ((bw_a (bw_a (Below.refl w4.heap.size w4) (.cells #[.int .u8 0, .int .u64 0, .int .u64 0, .int .u64 0, .int .u64 0, .int .u64 0, .int .u64 0, .string ⟨#[]⟩, .string ⟨#[]⟩, .slice A4 0 c4] 27)) (.cells #[.int .i64 7, .int .i64 0] 33))).size
  have HB4 := hid hBB4
  have HK10 := hid hk10
  have HK11 := hid hk11
  have HK20 := hid hk20
  have HK30 := hid hk30
  have HK31 := hid hk31
  have HK40 := hid hk40
  have HK41 := hid hk41
  clear hk10 hk11 hk20 hk30 hk31 hk40 hk41 hBB4 hB4 hb
  go_wp2_with fail
  try rw [hp4]
  generalize ((w4.alloc (.cells #[.int .u8 0, .int .u64 0, .int .u64 0, .int .u64 0, .int .u64 0, .int .u64 0, .int .u64 0, .string ⟨#[]⟩, .string ⟨#[]⟩, .slice A4 0 c4] 27)).alloc (.cells #[.int .i64 7, .int .i64 0] 33)) = W4 at *
  clear hp4
  refine (HSE.out _).mono ?_
  rintro e w5 ⟨A5, c5, rfl, hb⟩
  have hB5 : Below s w w5 := HB4.out.trans (hb.mono (by have := HB4.out.size; omega))
  have hk10 := HK10.out.below hb HK10.out.lt
  have hk11 := HK11.out.below hb HK11.out.lt
  have hk20 := HK20.out.below hb HK20.out.lt
  have hk30 := HK30.out.below hb HK30.out.lt
  have hk31 := HK31.out.below hb HK31.out.lt
  have hk40 := HK40.out.below hb HK40.out.lt
  have hk41 := HK41.out.below hb HK41.out.lt
  have hu := (hb.cell (p := ⟨ub, uo, none⟩) hlt).trans hu
  have hlt := Nat.lt_of_lt_of_le hlt hb.size
  obtain ⟨p5, hp5⟩ : ∃ p, w5.heap.size = p := ⟨_, rfl⟩
  have zhk100 := hk10.cell 0
  have zhk101 := hk10.cell 1
  have lhk10 := hk10.lt
  rw [hp5] at lhk10
  have zhk110 := hk11.cell 0
  have zhk111 := hk11.cell 1
  have lhk11 := hk11.lt
  rw [hp5] at lhk11
  have zhk200 := hk20.cell 0
  have zhk201 := hk20.cell 1
  have lhk20 := hk20.lt
  rw [hp5] at lhk20
  have zhk310 := hk31.cell 0
  have zhk311 := hk31.cell 1
  have lhk31 := hk31.lt
  rw [hp5] at lhk31
  have zhk410 := hk41.cell 0
  have zhk411 := hk41.cell 1
  have lhk41 := hk41.lt
  rw [hp5] at lhk41
  simp only [List.getElem?_toArray, List.getElem?_cons_zero, List.getElem?_cons_succ] at zhk100 zhk101 zhk110 zhk111 zhk200 zhk201 zhk310 zhk311 zhk410 zhk411
  have hu5 := hu
  have hlt5 : ub < p5 := by rw [← hp5]; exact hlt
  have hk50 : Blk (w5.alloc (.cells #[.int .u8 0, .int .u64 0, .int .u64 0, .int .u64 0, .int .u64 0, .int .u64 0, .int .u64 18446744073709551615, .string ⟨#[]⟩, .string ⟨#[]⟩, .slice A5 0 c5] 27)) (p5) 27 #[.int .u8 0, .int .u64 0, .int .u64 0, .int .u64 0, .int .u64 0, .int .u64 0, .int .u64 18446744073709551615, .string ⟨#[]⟩, .string ⟨#[]⟩, .slice A5 0 c5] := by
    have h := (Blk.new w5 27 #[.int .u8 0, .int .u64 0, .int .u64 0, .int .u64 0, .int .u64 0, .int .u64 0, .int .u64 18446744073709551615, .string ⟨#[]⟩, .string ⟨#[]⟩, .slice A5 0 c5])
    rw [hp5] at h; exact h
  have hz5 : ((w5.alloc (.cells #[.int .u8 0, .int .u64 0, .int .u64 0, .int .u64 0, .int .u64 0, .int .u64 0, .int .u64 18446744073709551615, .string ⟨#[]⟩, .string ⟨#[]⟩, .slice A5 0 c5] 27))).heap.size = p5 + 1 := by simp [hp5]
  have HZ5 := hid hz5
  clear hz5
  have hBB5 : Below s w (w5.alloc (.cells #[.int .u8 0, .int .u64 0, .int .u64 0, .int .u64 0, .int .u64 0, .int .u64 0, .int .u64 18446744073709551615, .string ⟨#[]⟩, .string ⟨#[]⟩, .slice A5 0 c5] 27)) := by
    have h := bw_a (Below.refl _ w5) (.cells #[.int .u8 0, .int .u64 0, .int .u64 0, .int .u64 0, .int .u64 0, .int .u64 0, .int .u64 18446744073709551615, .string ⟨#[]⟩, .string ⟨#[]⟩, .slice A5 0 c5] 27)
    exact hB5.trans (h.mono (by have := hB5.size; omega))
  have hk10 := hk10
  have hk10 := (hk10.alloc (.cells #[.int .u8 0, .int .u64 0, .int .u64 0, .int .u64 0, .int .u64 0, .int .u64 0, .int .u64 18446744073709551615, .string ⟨#[]⟩, .string ⟨#[]⟩, .slice A5 0 c5] 27))
  have hk11 := hk11
  have hk11 := (hk11.alloc (.cells #[.int .u8 0, .int .u64 0, .int .u64 0, .int .u64 0, .int .u64 0, .int .u64 0, .int .u64 18446744073709551615, .string ⟨#[]⟩, .string ⟨#[]⟩, .slice A5 0 c5] 27))
  have hk20 := hk20
  have hk20 := (hk20.alloc (.cells #[.int .u8 0, .int .u64 0, .int .u64 0, .int .u64 0, .int .u64 0, .int .u64 0, .int .u64 18446744073709551615, .string ⟨#[]⟩, .string ⟨#[]⟩, .slice A5 0 c5] 27))
  have hk30 := hk30
  have hk30 := (hk30.alloc (.cells #[.int .u8 0, .int .u64 0, .int .u64 0, .int .u64 0, .int .u64 0, .int .u64 0, .int .u64 18446744073709551615, .string ⟨#[]⟩, .string ⟨#[]⟩, .slice A5 0 c5] 27))
  have hk31 := hk31
  have hk31 := (hk31.alloc (.cells #[.int .u8 0, .int .u64 0, .int .u64 0, .int .u64 0, .int .u64 0, .int .u64 0, .int .u64 18446744073709551615, .string ⟨#[]⟩, .string ⟨#[]⟩, .slice A5 0 c5] 27))
  have hk40 := hk40
  have hk40 := (hk40.alloc (.cells #[.int .u8 0, .int .u64 0, .int .u64 0, .int .u64 0, .int .u64 0, .int .u64 0, .int .u64 18446744073709551615, .string ⟨#[]⟩, .string ⟨#[]⟩, .slice A5 0 c5] 27))
  have hk41 := hk41
  have hk41 := (hk41.alloc (.cells #[.int .u8 0, .int .u64 0, .int .u64 0, .int .u64 0, .int .u64 0, .int .u64 0, .int .u64 18446744073709551615, .string ⟨#[]⟩, .string ⟨#[]⟩, .slice A5 0 c5] 27))
  have hu := ((bw_a (Below.refl w5.heap.size w5) (.cells #[.int .u8 0, .int .u64 0, .int .u64 0, .int .u64 0, .int .u64 0, .int .u64 0, .int .u64 18446744073709551615, .string ⟨#[]⟩, .string ⟨#[]⟩, .slice A5 0 c5] 27)).cell (p := ⟨ub, uo, none⟩) hlt).trans hu
  have hlt := Nat.lt_of_lt_of_le hlt ((bw_a (Below.refl w5.heap.size w5) (.cells #[.int .u8 0, .int .u64 0, .int .u64 0, .int .u64 0, .int .u64 0, .int .u64 0, .int .u64 18446744073709551615, .string ⟨#[]⟩, .string ⟨#[]⟩, .slice A5 0 c5] 27))).size
  have HB5 := hid hBB5
  have HK10 := hid hk10
  have HK11 := hid hk11
  have HK20 := hid hk20
  have HK30 := hid hk30
  have HK31 := hid hk31
  have HK40 := hid hk40
  have HK41 := hid hk41
  have HK50 := hid hk50
  clear hk10 hk11 hk20 hk30 hk31 hk40 hk41 hk50 hBB5 hB5 hb
  go_wp2_with fail
  try rw [hp5]
  rw [hws]
  go_ret
  exact ⟨rfl, HB5.out⟩
end Go.Proofs.Ytnfodgjihdoncaa
