/- lenient.text. -/
import Derived.Test.YtnfodgjihdoncaaLenSet
set_option linter.unusedVariables false
namespace Go.Proofs.Ytnfodgjihdoncaa
open Go.RowKit
set_option maxRecDepth 100000 in
set_option maxHeartbeats 4000000 in
theorem ltext_long (k n0 n1 n2 n3 n4 n5 : Nat) (s0 s1 : ByteArray) (A : Option Addr) (c : Nat) (len : Nat) (num i : Int) (q : ByteArray) (w : World) (h64 : 64 ≤ len) : Calls Try.prog 72 #[.agg #[.int .u8 (k : Int), .int .u64 (n0 : Int), .int .u64 (n1 : Int), .int .u64 (n2 : Int), .int .u64 (n3 : Int), .int .u64 (n4 : Int), .int .u64 (n5 : Int), .string s0, .string s1, .slice A len c], .agg #[.int .i64 num, .int .i64 10, .int .i64 i], .string q] w fun e w' => e = .returned (.tuple #[.agg #[.int .u8 0, .int .u64 0, .int .u64 0, .int .u64 0, .int .u64 0, .int .u64 0, .int .u64 0, .string ⟨#[]⟩, .string ⟨#[]⟩, .slice none 0 0], .int .i64 2]) ∧ Below w.heap.size w w' := by
  obtain ⟨s, hws⟩ : ∃ s, w.heap.size = s := ⟨_, rfl⟩
  rw [hws]
  have hli : (64 : Int) ≤ (len : Int) := by omega
  go_enter Try.func72, Try.ntmps72
  go_wp2_with fail
  obtain ⟨W, hW⟩ : ∃ W, ((w.alloc (.cells #[.int .u8 (k : Int), .int .u64 (n0 : Int), .int .u64 (n1 : Int), .int .u64 (n2 : Int), .int .u64 (n3 : Int), .int .u64 (n4 : Int), .int .u64 (n5 : Int), .string s0, .string s1, .slice A len c] 27)).alloc (.cells #[.int .i64 num, .int .i64 10, .int .i64 i] 93)).alloc (.cells #[.int .u8 0, .int .u64 0, .int .u64 0, .int .u64 0, .int .u64 0, .int .u64 0, .int .u64 0, .string ⟨#[]⟩, .string ⟨#[]⟩, .slice none 0 0] 27) = W := ⟨_, rfl⟩
  have hk0 : Blk W s 27 #[.int .u8 (k : Int), .int .u64 (n0 : Int), .int .u64 (n1 : Int), .int .u64 (n2 : Int), .int .u64 (n3 : Int), .int .u64 (n4 : Int), .int .u64 (n5 : Int), .string s0, .string s1, .slice A len c] := by rw [← hW, ← hws]; exact ((Blk.new w _ _).alloc _).alloc _
  have hk1 : Blk W (s + 1) 93 #[.int .i64 num, .int .i64 10, .int .i64 i] := by
    have h1 := (Blk.new (w.alloc (.cells #[.int .u8 (k : Int), .int .u64 (n0 : Int), .int .u64 (n1 : Int), .int .u64 (n2 : Int), .int .u64 (n3 : Int), .int .u64 (n4 : Int), .int .u64 (n5 : Int), .string s0, .string s1, .slice A len c] 27)) 93 #[.int .i64 num, .int .i64 10, .int .i64 i]).alloc (.cells #[.int .u8 0, .int .u64 0, .int .u64 0, .int .u64 0, .int .u64 0, .int .u64 0, .int .u64 0, .string ⟨#[]⟩, .string ⟨#[]⟩, .slice none 0 0] 27)
    rw [World.size_alloc, hws, hW] at h1; exact h1
  have hk2 : Blk W (s + 1 + 1) 27 #[.int .u8 0, .int .u64 0, .int .u64 0, .int .u64 0, .int .u64 0, .int .u64 0, .int .u64 0, .string ⟨#[]⟩, .string ⟨#[]⟩, .slice none 0 0] := by
    have h1 := Blk.new ((w.alloc (.cells #[.int .u8 (k : Int), .int .u64 (n0 : Int), .int .u64 (n1 : Int), .int .u64 (n2 : Int), .int .u64 (n3 : Int), .int .u64 (n4 : Int), .int .u64 (n5 : Int), .string s0, .string s1, .slice A len c] 27)).alloc (.cells #[.int .i64 num, .int .i64 10, .int .i64 i] 93)) 27 #[.int .u8 0, .int .u64 0, .int .u64 0, .int .u64 0, .int .u64 0, .int .u64 0, .int .u64 0, .string ⟨#[]⟩, .string ⟨#[]⟩, .slice none 0 0]
    rw [World.size_alloc, World.size_alloc, hws, hW] at h1; exact h1
  have hB : Below s w W := by rw [← hW, ← hws]; exact bw_a (bw_a (bw_a (Below.refl _ w) _) _) _
  have hl2 := hk2.lt
  rw [hW]
  clear hW
  have r0 := hk2.cell 0
  have r1 := hk2.cell 1
  have r2 := hk2.cell 2
  have r3 := hk2.cell 3
  have r4 := hk2.cell 4
  have r5 := hk2.cell 5
  have r6 := hk2.cell 6
  have r7 := hk2.cell 7
  have r8 := hk2.cell 8
  have r9 := hk2.cell 9
  simp only [List.getElem?_toArray, List.getElem?_cons_zero, List.getElem?_cons_succ] at r0 r1 r2 r3 r4 r5 r6 r7 r8 r9
  refine bodyPost_ret (v := .tuple #[.agg #[.int .u8 0, .int .u64 0, .int .u64 0, .int .u64 0, .int .u64 0, .int .u64 0, .int .u64 0, .string ⟨#[]⟩, .string ⟨#[]⟩, .slice none 0 0], .int .i64 2]) (by simp [results, Try.results72, go_sem, r0, r1, r2, r3, r4, r5, r6, r7, r8, r9]) rfl ?_
  exact ⟨rfl, hB⟩
set_option maxRecDepth 100000 in
set_option maxHeartbeats 4000000 in
theorem ltext_bad (k n0 n1 n2 n3 n4 n5 : Nat) (s0 s1 : ByteArray) (A : Option Addr) (c : Nat) (len : Nat) (num t i : Int) (q : ByteArray) (w : World) (h64 : t = 10 → len < 64) (hq : q.size ≤ 9223372036854775807) (hE : chk q (mostN t : Nat) ≠ 0) : Calls Try.prog 72 #[.agg #[.int .u8 (k : Int), .int .u64 (n0 : Int), .int .u64 (n1 : Int), .int .u64 (n2 : Int), .int .u64 (n3 : Int), .int .u64 (n4 : Int), .int .u64 (n5 : Int), .string s0, .string s1, .slice A len c], .agg #[.int .i64 num, .int .i64 t, .int .i64 i], .string q] w fun e w' => e = .returned (.tuple #[.agg #[.int .u8 0, .int .u64 0, .int .u64 0, .int .u64 0, .int .u64 0, .int .u64 0, .int .u64 0, .string ⟨#[]⟩, .string ⟨#[]⟩, .slice none 0 0], .int .i64 (chk q (mostN t : Nat))]) ∧ Below w.heap.size w w' := by
  have hmo := fun W => smost_any t W
  have hmb : mostN t ≤ 7000 := by unfold mostN; (repeat' split) <;> omega
  have hck := fun W => uchk_any q (mostN t : Nat) W hq (by omega) (by omega)
  generalize mostN t = mo at *
  generalize chk q (mo : Nat) = er at *
  have hne : (er != 0) = true := by simpa using hE
  obtain ⟨s, hws⟩ : ∃ s, w.heap.size = s := ⟨_, rfl⟩
  rw [hws]
  have HMO := hid hmo; have HCK := hid hck
  clear hmo hck
  go_enter Try.func72, Try.ntmps72
  have hli : ¬ t = 10 ∨ (t = 10 ∧ ¬ (64 : Int) ≤ (len : Int)) := by omega
  rcases hli with h10 | ⟨rfl, hli⟩
  · go_wp2_with fail
    obtain ⟨W, hW⟩ : ∃ W, ((w.alloc (.cells #[.int .u8 (k : Int), .int .u64 (n0 : Int), .int .u64 (n1 : Int), .int .u64 (n2 : Int), .int .u64 (n3 : Int), .int .u64 (n4 : Int), .int .u64 (n5 : Int), .string s0, .string s1, .slice A len c] 27)).alloc (.cells #[.int .i64 num, .int .i64 t, .int .i64 i] 93)).alloc (.cells #[.int .u8 0, .int .u64 0, .int .u64 0, .int .u64 0, .int .u64 0, .int .u64 0, .int .u64 0, .string ⟨#[]⟩, .string ⟨#[]⟩, .slice none 0 0] 27) = W := ⟨_, rfl⟩
    have hk0 : Blk W s 27 #[.int .u8 (k : Int), .int .u64 (n0 : Int), .int .u64 (n1 : Int), .int .u64 (n2 : Int), .int .u64 (n3 : Int), .int .u64 (n4 : Int), .int .u64 (n5 : Int), .string s0, .string s1, .slice A len c] := by rw [← hW, ← hws]; exact ((Blk.new w _ _).alloc _).alloc _
    have hk1 : Blk W (s + 1) 93 #[.int .i64 num, .int .i64 t, .int .i64 i] := by
      have h1 := (Blk.new (w.alloc (.cells #[.int .u8 (k : Int), .int .u64 (n0 : Int), .int .u64 (n1 : Int), .int .u64 (n2 : Int), .int .u64 (n3 : Int), .int .u64 (n4 : Int), .int .u64 (n5 : Int), .string s0, .string s1, .slice A len c] 27)) 93 #[.int .i64 num, .int .i64 t, .int .i64 i]).alloc (.cells #[.int .u8 0, .int .u64 0, .int .u64 0, .int .u64 0, .int .u64 0, .int .u64 0, .int .u64 0, .string ⟨#[]⟩, .string ⟨#[]⟩, .slice none 0 0] 27)
      rw [World.size_alloc, hws, hW] at h1; exact h1
    have hk2 : Blk W (s + 1 + 1) 27 #[.int .u8 0, .int .u64 0, .int .u64 0, .int .u64 0, .int .u64 0, .int .u64 0, .int .u64 0, .string ⟨#[]⟩, .string ⟨#[]⟩, .slice none 0 0] := by
      have h1 := Blk.new ((w.alloc (.cells #[.int .u8 (k : Int), .int .u64 (n0 : Int), .int .u64 (n1 : Int), .int .u64 (n2 : Int), .int .u64 (n3 : Int), .int .u64 (n4 : Int), .int .u64 (n5 : Int), .string s0, .string s1, .slice A len c] 27)).alloc (.cells #[.int .i64 num, .int .i64 t, .int .i64 i] 93)) 27 #[.int .u8 0, .int .u64 0, .int .u64 0, .int .u64 0, .int .u64 0, .int .u64 0, .int .u64 0, .string ⟨#[]⟩, .string ⟨#[]⟩, .slice none 0 0]
      rw [World.size_alloc, World.size_alloc, hws, hW] at h1; exact h1
    have hB : Below s w W := by rw [← hW, ← hws]; exact bw_a (bw_a (bw_a (Below.refl _ w) _) _) _
    have hl2 := hk2.lt
    rw [hW]
    clear hW
    have e0 := hk1.cell 0
    have e1 := hk1.cell 1
    have e2 := hk1.cell 2
    simp only [List.getElem?_toArray, List.getElem?_cons_zero, List.getElem?_cons_succ] at e0 e1 e2
    refine (HMO.out W).mono ?_
    rintro e w1 ⟨rfl, hww⟩
    subst hww
    go_wp2_with fail
    refine (HCK.out w1).mono ?_
    rintro e w2 ⟨rfl, hb2⟩
    have hk2 := hk2.below hb2 hl2
    have hB := hB.trans (hb2.mono (by omega))
    have hl3 := hk2.lt
    have r0 := hk2.cell 0
    have r1 := hk2.cell 1
    have r2 := hk2.cell 2
    have r3 := hk2.cell 3
    have r4 := hk2.cell 4
    have r5 := hk2.cell 5
    have r6 := hk2.cell 6
    have r7 := hk2.cell 7
    have r8 := hk2.cell 8
    have r9 := hk2.cell 9
    simp only [List.getElem?_toArray, List.getElem?_cons_zero, List.getElem?_cons_succ] at r0 r1 r2 r3 r4 r5 r6 r7 r8 r9
    have g0 := hk2.frozen 0
    have g1 := hk2.frozen 1
    have g2 := hk2.frozen 2
    have g3 := hk2.frozen 3
    have g4 := hk2.frozen 4
    have g5 := hk2.frozen 5
    have g6 := hk2.frozen 6
    have g7 := hk2.frozen 7
    have g8 := hk2.frozen 8
    have g9 := hk2.frozen 9
    have HK2 := hid hk2; have HB := hid hB
    clear hk0 hk1 hk2 hB hb2 e0 e1 e2
    go_wp2_with fail
    have HE := hid (mstore HK2.out (.int .u8 0) (.int .u64 0) (.int .u64 0) (.int .u64 0) (.int .u64 0) (.int .u64 0) (.int .u64 0) (.string ⟨#[]⟩) (.string ⟨#[]⟩) (.slice none 0 0))
    clear r0 r1 r2 r3 r4 r5 r6 r7 r8 r9 g0 g1 g2 g3 g4 g5 g6 g7 g8 g9
    generalize World.setCell (World.setCell _ _ _) _ _ = W9 at *
    have hz := HE.out.1
    have r0 := hz.cell 0
    have r1 := hz.cell 1
    have r2 := hz.cell 2
    have r3 := hz.cell 3
    have r4 := hz.cell 4
    have r5 := hz.cell 5
    have r6 := hz.cell 6
    have r7 := hz.cell 7
    have r8 := hz.cell 8
    have r9 := hz.cell 9
    simp only [List.getElem?_toArray, List.getElem?_cons_zero, List.getElem?_cons_succ] at r0 r1 r2 r3 r4 r5 r6 r7 r8 r9
    refine bodyPost_ret (v := .tuple #[.agg #[.int .u8 0, .int .u64 0, .int .u64 0, .int .u64 0, .int .u64 0, .int .u64 0, .int .u64 0, .string ⟨#[]⟩, .string ⟨#[]⟩, .slice none 0 0], .int .i64 er]) (by simp [results, Try.results72, go_sem, r0, r1, r2, r3, r4, r5, r6, r7, r8, r9]) rfl ?_
    exact ⟨rfl, HB.out.trans (HE.out.2.below (B := s) (fun k hk => by omega) (by omega))⟩
  · go_wp2_with fail
    obtain ⟨W, hW⟩ : ∃ W, ((w.alloc (.cells #[.int .u8 (k : Int), .int .u64 (n0 : Int), .int .u64 (n1 : Int), .int .u64 (n2 : Int), .int .u64 (n3 : Int), .int .u64 (n4 : Int), .int .u64 (n5 : Int), .string s0, .string s1, .slice A len c] 27)).alloc (.cells #[.int .i64 num, .int .i64 10, .int .i64 i] 93)).alloc (.cells #[.int .u8 0, .int .u64 0, .int .u64 0, .int .u64 0, .int .u64 0, .int .u64 0, .int .u64 0, .string ⟨#[]⟩, .string ⟨#[]⟩, .slice none 0 0] 27) = W := ⟨_, rfl⟩
    have hk0 : Blk W s 27 #[.int .u8 (k : Int), .int .u64 (n0 : Int), .int .u64 (n1 : Int), .int .u64 (n2 : Int), .int .u64 (n3 : Int), .int .u64 (n4 : Int), .int .u64 (n5 : Int), .string s0, .string s1, .slice A len c] := by rw [← hW, ← hws]; exact ((Blk.new w _ _).alloc _).alloc _
    have hk1 : Blk W (s + 1) 93 #[.int .i64 num, .int .i64 10, .int .i64 i] := by
      have h1 := (Blk.new (w.alloc (.cells #[.int .u8 (k : Int), .int .u64 (n0 : Int), .int .u64 (n1 : Int), .int .u64 (n2 : Int), .int .u64 (n3 : Int), .int .u64 (n4 : Int), .int .u64 (n5 : Int), .string s0, .string s1, .slice A len c] 27)) 93 #[.int .i64 num, .int .i64 10, .int .i64 i]).alloc (.cells #[.int .u8 0, .int .u64 0, .int .u64 0, .int .u64 0, .int .u64 0, .int .u64 0, .int .u64 0, .string ⟨#[]⟩, .string ⟨#[]⟩, .slice none 0 0] 27)
      rw [World.size_alloc, hws, hW] at h1; exact h1
    have hk2 : Blk W (s + 1 + 1) 27 #[.int .u8 0, .int .u64 0, .int .u64 0, .int .u64 0, .int .u64 0, .int .u64 0, .int .u64 0, .string ⟨#[]⟩, .string ⟨#[]⟩, .slice none 0 0] := by
      have h1 := Blk.new ((w.alloc (.cells #[.int .u8 (k : Int), .int .u64 (n0 : Int), .int .u64 (n1 : Int), .int .u64 (n2 : Int), .int .u64 (n3 : Int), .int .u64 (n4 : Int), .int .u64 (n5 : Int), .string s0, .string s1, .slice A len c] 27)).alloc (.cells #[.int .i64 num, .int .i64 10, .int .i64 i] 93)) 27 #[.int .u8 0, .int .u64 0, .int .u64 0, .int .u64 0, .int .u64 0, .int .u64 0, .int .u64 0, .string ⟨#[]⟩, .string ⟨#[]⟩, .slice none 0 0]
      rw [World.size_alloc, World.size_alloc, hws, hW] at h1; exact h1
    have hB : Below s w W := by rw [← hW, ← hws]; exact bw_a (bw_a (bw_a (Below.refl _ w) _) _) _
    have hl2 := hk2.lt
    rw [hW]
    clear hW
    have e0 := hk1.cell 0
    have e1 := hk1.cell 1
    have e2 := hk1.cell 2
    simp only [List.getElem?_toArray, List.getElem?_cons_zero, List.getElem?_cons_succ] at e0 e1 e2
    refine (HMO.out W).mono ?_
    rintro e w1 ⟨rfl, hww⟩
    subst hww
    go_wp2_with fail
    refine (HCK.out w1).mono ?_
    rintro e w2 ⟨rfl, hb2⟩
    have hk2 := hk2.below hb2 hl2
    have hB := hB.trans (hb2.mono (by omega))
    have hl3 := hk2.lt
    have r0 := hk2.cell 0
    have r1 := hk2.cell 1
    have r2 := hk2.cell 2
    have r3 := hk2.cell 3
    have r4 := hk2.cell 4
    have r5 := hk2.cell 5
    have r6 := hk2.cell 6
    have r7 := hk2.cell 7
    have r8 := hk2.cell 8
    have r9 := hk2.cell 9
    simp only [List.getElem?_toArray, List.getElem?_cons_zero, List.getElem?_cons_succ] at r0 r1 r2 r3 r4 r5 r6 r7 r8 r9
    have g0 := hk2.frozen 0
    have g1 := hk2.frozen 1
    have g2 := hk2.frozen 2
    have g3 := hk2.frozen 3
    have g4 := hk2.frozen 4
    have g5 := hk2.frozen 5
    have g6 := hk2.frozen 6
    have g7 := hk2.frozen 7
    have g8 := hk2.frozen 8
    have g9 := hk2.frozen 9
    have HK2 := hid hk2; have HB := hid hB
    clear hk0 hk1 hk2 hB hb2 e0 e1 e2
    go_wp2_with fail
    have HE := hid (mstore HK2.out (.int .u8 0) (.int .u64 0) (.int .u64 0) (.int .u64 0) (.int .u64 0) (.int .u64 0) (.int .u64 0) (.string ⟨#[]⟩) (.string ⟨#[]⟩) (.slice none 0 0))
    clear r0 r1 r2 r3 r4 r5 r6 r7 r8 r9 g0 g1 g2 g3 g4 g5 g6 g7 g8 g9
    generalize World.setCell (World.setCell _ _ _) _ _ = W9 at *
    have hz := HE.out.1
    have r0 := hz.cell 0
    have r1 := hz.cell 1
    have r2 := hz.cell 2
    have r3 := hz.cell 3
    have r4 := hz.cell 4
    have r5 := hz.cell 5
    have r6 := hz.cell 6
    have r7 := hz.cell 7
    have r8 := hz.cell 8
    have r9 := hz.cell 9
    simp only [List.getElem?_toArray, List.getElem?_cons_zero, List.getElem?_cons_succ] at r0 r1 r2 r3 r4 r5 r6 r7 r8 r9
    refine bodyPost_ret (v := .tuple #[.agg #[.int .u8 0, .int .u64 0, .int .u64 0, .int .u64 0, .int .u64 0, .int .u64 0, .int .u64 0, .string ⟨#[]⟩, .string ⟨#[]⟩, .slice none 0 0], .int .i64 er]) (by simp [results, Try.results72, go_sem, r0, r1, r2, r3, r4, r5, r6, r7, r8, r9]) rfl ?_
    exact ⟨rfl, HB.out.trans (HE.out.2.below (B := s) (fun k hk => by omega) (by omega))⟩
set_option maxRecDepth 100000 in
set_option maxHeartbeats 8000000 in
theorem ltext_text (k n0 n1 n2 n3 n4 n5 : Nat) (s0 s1 : ByteArray) (A : Option Addr) (c : Nat) (len : Nat) (num t i : Int) (q : ByteArray) (w : World) (ht : 7 ≤ t ∧ t ≤ 9) (hi : i = 0 ∨ i = 1) (hq : q.size ≤ 9223372036854775807) (hE : chk q (mostN t : Nat) = 0) : Calls Try.prog 72 #[.agg #[.int .u8 (k : Int), .int .u64 (n0 : Int), .int .u64 (n1 : Int), .int .u64 (n2 : Int), .int .u64 (n3 : Int), .int .u64 (n4 : Int), .int .u64 (n5 : Int), .string s0, .string s1, .slice A len c], .agg #[.int .i64 num, .int .i64 t, .int .i64 i], .string q] w fun e w' => e = .returned (.tuple #[.agg #[.int .u8 (k : Int), .int .u64 (n0 : Int), .int .u64 (n1 : Int), .int .u64 (n2 : Int), .int .u64 (n3 : Int), .int .u64 (n4 : Int), .int .u64 (n5 : Int), .string (if i = 0 then q else s0), .string (if i = 1 then q else s1), .slice A len c], .int .i64 0]) ∧ Below w.heap.size w w' := by
  have hmo := fun W => smost_any t W
  have hmb : mostN t ≤ 7000 := by unfold mostN; (repeat' split) <;> omega
  have hck := fun W => uchk_any q (mostN t : Nat) W hq (by omega) (by omega)
  rw [hE] at hck
  generalize mostN t = mo at *
  obtain ⟨s, hws⟩ : ∃ s, w.heap.size = s := ⟨_, rfl⟩
  rw [hws]
  have HMO := hid hmo; have HCK := hid hck
  clear hmo hck hE
  have h10 : ¬ t = 10 := by omega
  go_enter Try.func72, Try.ntmps72
  rcases hi with rfl | rfl
  · go_wp2_with fail
    obtain ⟨W, hW⟩ : ∃ W, ((w.alloc (.cells #[.int .u8 (k : Int), .int .u64 (n0 : Int), .int .u64 (n1 : Int), .int .u64 (n2 : Int), .int .u64 (n3 : Int), .int .u64 (n4 : Int), .int .u64 (n5 : Int), .string s0, .string s1, .slice A len c] 27)).alloc (.cells #[.int .i64 num, .int .i64 t, .int .i64 0] 93)).alloc (.cells #[.int .u8 0, .int .u64 0, .int .u64 0, .int .u64 0, .int .u64 0, .int .u64 0, .int .u64 0, .string ⟨#[]⟩, .string ⟨#[]⟩, .slice none 0 0] 27) = W := ⟨_, rfl⟩
    have hk0 : Blk W s 27 #[.int .u8 (k : Int), .int .u64 (n0 : Int), .int .u64 (n1 : Int), .int .u64 (n2 : Int), .int .u64 (n3 : Int), .int .u64 (n4 : Int), .int .u64 (n5 : Int), .string s0, .string s1, .slice A len c] := by rw [← hW, ← hws]; exact ((Blk.new w _ _).alloc _).alloc _
    have hk1 : Blk W (s + 1) 93 #[.int .i64 num, .int .i64 t, .int .i64 0] := by
      have h1 := (Blk.new (w.alloc (.cells #[.int .u8 (k : Int), .int .u64 (n0 : Int), .int .u64 (n1 : Int), .int .u64 (n2 : Int), .int .u64 (n3 : Int), .int .u64 (n4 : Int), .int .u64 (n5 : Int), .string s0, .string s1, .slice A len c] 27)) 93 #[.int .i64 num, .int .i64 t, .int .i64 0]).alloc (.cells #[.int .u8 0, .int .u64 0, .int .u64 0, .int .u64 0, .int .u64 0, .int .u64 0, .int .u64 0, .string ⟨#[]⟩, .string ⟨#[]⟩, .slice none 0 0] 27)
      rw [World.size_alloc, hws, hW] at h1; exact h1
    have hk2 : Blk W (s + 1 + 1) 27 #[.int .u8 0, .int .u64 0, .int .u64 0, .int .u64 0, .int .u64 0, .int .u64 0, .int .u64 0, .string ⟨#[]⟩, .string ⟨#[]⟩, .slice none 0 0] := by
      have h1 := Blk.new ((w.alloc (.cells #[.int .u8 (k : Int), .int .u64 (n0 : Int), .int .u64 (n1 : Int), .int .u64 (n2 : Int), .int .u64 (n3 : Int), .int .u64 (n4 : Int), .int .u64 (n5 : Int), .string s0, .string s1, .slice A len c] 27)).alloc (.cells #[.int .i64 num, .int .i64 t, .int .i64 0] 93)) 27 #[.int .u8 0, .int .u64 0, .int .u64 0, .int .u64 0, .int .u64 0, .int .u64 0, .int .u64 0, .string ⟨#[]⟩, .string ⟨#[]⟩, .slice none 0 0]
      rw [World.size_alloc, World.size_alloc, hws, hW] at h1; exact h1
    have hB : Below s w W := by rw [← hW, ← hws]; exact bw_a (bw_a (bw_a (Below.refl _ w) _) _) _
    have hl2 := hk2.lt
    rw [hW]
    clear hW
    have e0 := hk1.cell 0
    have e1 := hk1.cell 1
    have e2 := hk1.cell 2
    simp only [List.getElem?_toArray, List.getElem?_cons_zero, List.getElem?_cons_succ] at e0 e1 e2
    refine (HMO.out W).mono ?_
    rintro e w1 ⟨rfl, hww⟩
    subst hww
    go_wp2_with fail
    refine (HCK.out w1).mono ?_
    rintro e w2 ⟨rfl, hb2⟩
    have hk2 := hk2.below hb2 hl2
    have hk0 := hk0.below hb2 (by omega)
    have hk1 := hk1.below hb2 (by omega)
    have hB := hB.trans (hb2.mono (by omega))
    have hl3 := hk2.lt
    have r0 := hk2.cell 0
    have r1 := hk2.cell 1
    have r2 := hk2.cell 2
    have r3 := hk2.cell 3
    have r4 := hk2.cell 4
    have r5 := hk2.cell 5
    have r6 := hk2.cell 6
    have r7 := hk2.cell 7
    have r8 := hk2.cell 8
    have r9 := hk2.cell 9
    simp only [List.getElem?_toArray, List.getElem?_cons_zero, List.getElem?_cons_succ] at r0 r1 r2 r3 r4 r5 r6 r7 r8 r9
    have g0 := hk2.frozen 0
    have g1 := hk2.frozen 1
    have g2 := hk2.frozen 2
    have g3 := hk2.frozen 3
    have g4 := hk2.frozen 4
    have g5 := hk2.frozen 5
    have g6 := hk2.frozen 6
    have g7 := hk2.frozen 7
    have g8 := hk2.frozen 8
    have g9 := hk2.frozen 9
    clear e0 e1 e2
    have e0 := hk1.cell 0
    have e1 := hk1.cell 1
    have e2 := hk1.cell 2
    simp only [List.getElem?_toArray, List.getElem?_cons_zero, List.getElem?_cons_succ] at e0 e1 e2
    have c0 := hk0.cell 0
    have c1 := hk0.cell 1
    have c2 := hk0.cell 2
    have c3 := hk0.cell 3
    have c4 := hk0.cell 4
    have c5 := hk0.cell 5
    have c6 := hk0.cell 6
    have c7 := hk0.cell 7
    have c8 := hk0.cell 8
    have c9 := hk0.cell 9
    simp only [List.getElem?_toArray, List.getElem?_cons_zero, List.getElem?_cons_succ] at c0 c1 c2 c3 c4 c5 c6 c7 c8 c9
    have f0 := hk0.frozen 0
    have f1 := hk0.frozen 1
    have f2 := hk0.frozen 2
    have f3 := hk0.frozen 3
    have f4 := hk0.frozen 4
    have f5 := hk0.frozen 5
    have f6 := hk0.frozen 6
    have f7 := hk0.frozen 7
    have f8 := hk0.frozen 8
    have f9 := hk0.frozen 9
    have HK2 := hid hk2; have HB := hid hB; have HK0 := hid hk0
    clear hk0 hk1 hk2 hB hb2
    go_wp2_with fail
    have HE := hid (mstore (HK2.out.far (p := ⟨s, 7, none⟩) (by show s + 1 + 1 ≠ s; omega) (.string q)) (.int .u8 (k : Int)) (.int .u64 (n0 : Int)) (.int .u64 (n1 : Int)) (.int .u64 (n2 : Int)) (.int .u64 (n3 : Int)) (.int .u64 (n4 : Int)) (.int .u64 (n5 : Int)) (.string q) (.string s1) (.slice A len c))
    have HS := hid ((Chg.refl (fun k => k = s) w2).set_ (.inl rfl) 7 (.string q))
    generalize w2.setCell ⟨s, 7, none⟩ (.string q) = W8 at *
    clear c0 c1 c2 c3 c4 c5 c6 c7 c8 c9 f0 f1 f2 f3 f4 f5 f6 f7 f8 f9 e0 e1 e2
    clear r0 r1 r2 r3 r4 r5 r6 r7 r8 r9 g0 g1 g2 g3 g4 g5 g6 g7 g8 g9
    generalize World.setCell (World.setCell _ _ _) _ _ = W9 at *
    have hz := HE.out.1
    have r0 := hz.cell 0
    have r1 := hz.cell 1
    have r2 := hz.cell 2
    have r3 := hz.cell 3
    have r4 := hz.cell 4
    have r5 := hz.cell 5
    have r6 := hz.cell 6
    have r7 := hz.cell 7
    have r8 := hz.cell 8
    have r9 := hz.cell 9
    simp only [List.getElem?_toArray, List.getElem?_cons_zero, List.getElem?_cons_succ] at r0 r1 r2 r3 r4 r5 r6 r7 r8 r9
    refine bodyPost_ret (v := .tuple #[.agg #[.int .u8 (k : Int), .int .u64 (n0 : Int), .int .u64 (n1 : Int), .int .u64 (n2 : Int), .int .u64 (n3 : Int), .int .u64 (n4 : Int), .int .u64 (n5 : Int), .string q, .string s1, .slice A len c], .int .i64 0]) (by simp [results, Try.results72, go_sem, r0, r1, r2, r3, r4, r5, r6, r7, r8, r9]) rfl ?_
    exact ⟨by simp, HB.out.trans ((HS.out.below (B := s) (fun k hk => by omega) (by omega)).trans (HE.out.2.below (B := s) (fun k hk => by omega) (by have := HS.out.size; omega)))⟩
  · go_wp2_with fail
    obtain ⟨W, hW⟩ : ∃ W, ((w.alloc (.cells #[.int .u8 (k : Int), .int .u64 (n0 : Int), .int .u64 (n1 : Int), .int .u64 (n2 : Int), .int .u64 (n3 : Int), .int .u64 (n4 : Int), .int .u64 (n5 : Int), .string s0, .string s1, .slice A len c] 27)).alloc (.cells #[.int .i64 num, .int .i64 t, .int .i64 1] 93)).alloc (.cells #[.int .u8 0, .int .u64 0, .int .u64 0, .int .u64 0, .int .u64 0, .int .u64 0, .int .u64 0, .string ⟨#[]⟩, .string ⟨#[]⟩, .slice none 0 0] 27) = W := ⟨_, rfl⟩
    have hk0 : Blk W s 27 #[.int .u8 (k : Int), .int .u64 (n0 : Int), .int .u64 (n1 : Int), .int .u64 (n2 : Int), .int .u64 (n3 : Int), .int .u64 (n4 : Int), .int .u64 (n5 : Int), .string s0, .string s1, .slice A len c] := by rw [← hW, ← hws]; exact ((Blk.new w _ _).alloc _).alloc _
    have hk1 : Blk W (s + 1) 93 #[.int .i64 num, .int .i64 t, .int .i64 1] := by
      have h1 := (Blk.new (w.alloc (.cells #[.int .u8 (k : Int), .int .u64 (n0 : Int), .int .u64 (n1 : Int), .int .u64 (n2 : Int), .int .u64 (n3 : Int), .int .u64 (n4 : Int), .int .u64 (n5 : Int), .string s0, .string s1, .slice A len c] 27)) 93 #[.int .i64 num, .int .i64 t, .int .i64 1]).alloc (.cells #[.int .u8 0, .int .u64 0, .int .u64 0, .int .u64 0, .int .u64 0, .int .u64 0, .int .u64 0, .string ⟨#[]⟩, .string ⟨#[]⟩, .slice none 0 0] 27)
      rw [World.size_alloc, hws, hW] at h1; exact h1
    have hk2 : Blk W (s + 1 + 1) 27 #[.int .u8 0, .int .u64 0, .int .u64 0, .int .u64 0, .int .u64 0, .int .u64 0, .int .u64 0, .string ⟨#[]⟩, .string ⟨#[]⟩, .slice none 0 0] := by
      have h1 := Blk.new ((w.alloc (.cells #[.int .u8 (k : Int), .int .u64 (n0 : Int), .int .u64 (n1 : Int), .int .u64 (n2 : Int), .int .u64 (n3 : Int), .int .u64 (n4 : Int), .int .u64 (n5 : Int), .string s0, .string s1, .slice A len c] 27)).alloc (.cells #[.int .i64 num, .int .i64 t, .int .i64 1] 93)) 27 #[.int .u8 0, .int .u64 0, .int .u64 0, .int .u64 0, .int .u64 0, .int .u64 0, .int .u64 0, .string ⟨#[]⟩, .string ⟨#[]⟩, .slice none 0 0]
      rw [World.size_alloc, World.size_alloc, hws, hW] at h1; exact h1
    have hB : Below s w W := by rw [← hW, ← hws]; exact bw_a (bw_a (bw_a (Below.refl _ w) _) _) _
    have hl2 := hk2.lt
    rw [hW]
    clear hW
    have e0 := hk1.cell 0
    have e1 := hk1.cell 1
    have e2 := hk1.cell 2
    simp only [List.getElem?_toArray, List.getElem?_cons_zero, List.getElem?_cons_succ] at e0 e1 e2
    refine (HMO.out W).mono ?_
    rintro e w1 ⟨rfl, hww⟩
    subst hww
    go_wp2_with fail
    refine (HCK.out w1).mono ?_
    rintro e w2 ⟨rfl, hb2⟩
    have hk2 := hk2.below hb2 hl2
    have hk0 := hk0.below hb2 (by omega)
    have hk1 := hk1.below hb2 (by omega)
    have hB := hB.trans (hb2.mono (by omega))
    have hl3 := hk2.lt
    have r0 := hk2.cell 0
    have r1 := hk2.cell 1
    have r2 := hk2.cell 2
    have r3 := hk2.cell 3
    have r4 := hk2.cell 4
    have r5 := hk2.cell 5
    have r6 := hk2.cell 6
    have r7 := hk2.cell 7
    have r8 := hk2.cell 8
    have r9 := hk2.cell 9
    simp only [List.getElem?_toArray, List.getElem?_cons_zero, List.getElem?_cons_succ] at r0 r1 r2 r3 r4 r5 r6 r7 r8 r9
    have g0 := hk2.frozen 0
    have g1 := hk2.frozen 1
    have g2 := hk2.frozen 2
    have g3 := hk2.frozen 3
    have g4 := hk2.frozen 4
    have g5 := hk2.frozen 5
    have g6 := hk2.frozen 6
    have g7 := hk2.frozen 7
    have g8 := hk2.frozen 8
    have g9 := hk2.frozen 9
    clear e0 e1 e2
    have e0 := hk1.cell 0
    have e1 := hk1.cell 1
    have e2 := hk1.cell 2
    simp only [List.getElem?_toArray, List.getElem?_cons_zero, List.getElem?_cons_succ] at e0 e1 e2
    have c0 := hk0.cell 0
    have c1 := hk0.cell 1
    have c2 := hk0.cell 2
    have c3 := hk0.cell 3
    have c4 := hk0.cell 4
    have c5 := hk0.cell 5
    have c6 := hk0.cell 6
    have c7 := hk0.cell 7
    have c8 := hk0.cell 8
    have c9 := hk0.cell 9
    simp only [List.getElem?_toArray, List.getElem?_cons_zero, List.getElem?_cons_succ] at c0 c1 c2 c3 c4 c5 c6 c7 c8 c9
    have f0 := hk0.frozen 0
    have f1 := hk0.frozen 1
    have f2 := hk0.frozen 2
    have f3 := hk0.frozen 3
    have f4 := hk0.frozen 4
    have f5 := hk0.frozen 5
    have f6 := hk0.frozen 6
    have f7 := hk0.frozen 7
    have f8 := hk0.frozen 8
    have f9 := hk0.frozen 9
    have HK2 := hid hk2; have HB := hid hB; have HK0 := hid hk0
    clear hk0 hk1 hk2 hB hb2
    go_wp2_with fail
    have HE := hid (mstore (HK2.out.far (p := ⟨s, 8, none⟩) (by show s + 1 + 1 ≠ s; omega) (.string q)) (.int .u8 (k : Int)) (.int .u64 (n0 : Int)) (.int .u64 (n1 : Int)) (.int .u64 (n2 : Int)) (.int .u64 (n3 : Int)) (.int .u64 (n4 : Int)) (.int .u64 (n5 : Int)) (.string s0) (.string q) (.slice A len c))
    have HS := hid ((Chg.refl (fun k => k = s) w2).set_ (.inl rfl) 8 (.string q))
    generalize w2.setCell ⟨s, 8, none⟩ (.string q) = W8 at *
    clear c0 c1 c2 c3 c4 c5 c6 c7 c8 c9 f0 f1 f2 f3 f4 f5 f6 f7 f8 f9 e0 e1 e2
    clear r0 r1 r2 r3 r4 r5 r6 r7 r8 r9 g0 g1 g2 g3 g4 g5 g6 g7 g8 g9
    generalize World.setCell (World.setCell _ _ _) _ _ = W9 at *
    have hz := HE.out.1
    have r0 := hz.cell 0
    have r1 := hz.cell 1
    have r2 := hz.cell 2
    have r3 := hz.cell 3
    have r4 := hz.cell 4
    have r5 := hz.cell 5
    have r6 := hz.cell 6
    have r7 := hz.cell 7
    have r8 := hz.cell 8
    have r9 := hz.cell 9
    simp only [List.getElem?_toArray, List.getElem?_cons_zero, List.getElem?_cons_succ] at r0 r1 r2 r3 r4 r5 r6 r7 r8 r9
    refine bodyPost_ret (v := .tuple #[.agg #[.int .u8 (k : Int), .int .u64 (n0 : Int), .int .u64 (n1 : Int), .int .u64 (n2 : Int), .int .u64 (n3 : Int), .int .u64 (n4 : Int), .int .u64 (n5 : Int), .string s0, .string q, .slice A len c], .int .i64 0]) (by simp [results, Try.results72, go_sem, r0, r1, r2, r3, r4, r5, r6, r7, r8, r9]) rfl ?_
    exact ⟨by simp, HB.out.trans ((HS.out.below (B := s) (fun k hk => by omega) (by omega)).trans (HE.out.2.below (B := s) (fun k hk => by omega) (by have := HS.out.size; omega)))⟩
theorem blk_grown {w w' : World} {row : Option Nat} {g : Nat} {t : TypeId} {cs : Array Value} (h : Blk w g t cs) (hg : w.grownBy w' row) (hr : row ≠ some g) : Blk w' g t cs := (hg.block g h.lt (Ne.symm hr)).trans h
set_option maxRecDepth 100000 in
set_option maxHeartbeats 8000000 in
theorem ltext_list (k n0 n1 n2 n3 n4 n5 : Nat) (s0 s1 : ByteArray) (A : Option Addr) (c : Nat) (len : Nat) (l : List ByteArray) (num i : Int) (q : ByteArray) (B : Nat) (w : World) (h64 : len < 64) (hlen : l.length = len) (hq : q.size ≤ 9223372036854775807) (hE : chk q 64 = 0) (hB0 : B ≤ w.heap.size) (ho : w.ownsRow B 9 1 (.slice A len c) len (l.map sv)) : Calls Try.prog 72 #[.agg #[.int .u8 (k : Int), .int .u64 (n0 : Int), .int .u64 (n1 : Int), .int .u64 (n2 : Int), .int .u64 (n3 : Int), .int .u64 (n4 : Int), .int .u64 (n5 : Int), .string s0, .string s1, .slice A len c], .agg #[.int .i64 num, .int .i64 10, .int .i64 i], .string q] w fun e w' => ∃ A' c', e = .returned (.tuple #[.agg #[.int .u8 (k : Int), .int .u64 (n0 : Int), .int .u64 (n1 : Int), .int .u64 (n2 : Int), .int .u64 (n3 : Int), .int .u64 (n4 : Int), .int .u64 (n5 : Int), .string s0, .string s1, .slice A' (len + 1) c'], .int .i64 0]) ∧ w'.ownsRow B 9 1 (.slice A' (len + 1) c') (len + 1) ((l ++ [q]).map sv) ∧ Below B w w' := by
  obtain ⟨i0, hi, hz0, hz1, hz2⟩ := info_parts Try.infoStr
  have hmo := fun W => smost10 W
  have hck := fun W => uchk_any q 64 W hq (by omega) (by omega)
  rw [hE] at hck
  obtain ⟨s, hws⟩ : ∃ s, w.heap.size = s := ⟨_, rfl⟩
  have hltw := fun g e => ho.lt g e
  rw [hws] at hltw hB0
  have HMO := hid hmo; have HCK := hid hck; have HO := hid ho; have HLT := hid hltw; have HLEN := hid hlen
  clear hmo hck hE ho hltw
  have hli : ¬ (64 : Int) ≤ (len : Int) := by omega
  go_enter Try.func72, Try.ntmps72
  go_wp2_with fail
  obtain ⟨W, hW⟩ : ∃ W, ((w.alloc (.cells #[.int .u8 (k : Int), .int .u64 (n0 : Int), .int .u64 (n1 : Int), .int .u64 (n2 : Int), .int .u64 (n3 : Int), .int .u64 (n4 : Int), .int .u64 (n5 : Int), .string s0, .string s1, .slice A len c] 27)).alloc (.cells #[.int .i64 num, .int .i64 10, .int .i64 i] 93)).alloc (.cells #[.int .u8 0, .int .u64 0, .int .u64 0, .int .u64 0, .int .u64 0, .int .u64 0, .int .u64 0, .string ⟨#[]⟩, .string ⟨#[]⟩, .slice none 0 0] 27) = W := ⟨_, rfl⟩
  have hk0 : Blk W s 27 #[.int .u8 (k : Int), .int .u64 (n0 : Int), .int .u64 (n1 : Int), .int .u64 (n2 : Int), .int .u64 (n3 : Int), .int .u64 (n4 : Int), .int .u64 (n5 : Int), .string s0, .string s1, .slice A len c] := by rw [← hW, ← hws]; exact ((Blk.new w _ _).alloc _).alloc _
  have hk1 : Blk W (s + 1) 93 #[.int .i64 num, .int .i64 10, .int .i64 i] := by
    have h1 := (Blk.new (w.alloc (.cells #[.int .u8 (k : Int), .int .u64 (n0 : Int), .int .u64 (n1 : Int), .int .u64 (n2 : Int), .int .u64 (n3 : Int), .int .u64 (n4 : Int), .int .u64 (n5 : Int), .string s0, .string s1, .slice A len c] 27)) 93 #[.int .i64 num, .int .i64 10, .int .i64 i]).alloc (.cells #[.int .u8 0, .int .u64 0, .int .u64 0, .int .u64 0, .int .u64 0, .int .u64 0, .int .u64 0, .string ⟨#[]⟩, .string ⟨#[]⟩, .slice none 0 0] 27)
    rw [World.size_alloc, hws, hW] at h1; exact h1
  have hk2 : Blk W (s + 1 + 1) 27 #[.int .u8 0, .int .u64 0, .int .u64 0, .int .u64 0, .int .u64 0, .int .u64 0, .int .u64 0, .string ⟨#[]⟩, .string ⟨#[]⟩, .slice none 0 0] := by
    have h1 := Blk.new ((w.alloc (.cells #[.int .u8 (k : Int), .int .u64 (n0 : Int), .int .u64 (n1 : Int), .int .u64 (n2 : Int), .int .u64 (n3 : Int), .int .u64 (n4 : Int), .int .u64 (n5 : Int), .string s0, .string s1, .slice A len c] 27)).alloc (.cells #[.int .i64 num, .int .i64 10, .int .i64 i] 93)) 27 #[.int .u8 0, .int .u64 0, .int .u64 0, .int .u64 0, .int .u64 0, .int .u64 0, .int .u64 0, .string ⟨#[]⟩, .string ⟨#[]⟩, .slice none 0 0]
    rw [World.size_alloc, World.size_alloc, hws, hW] at h1; exact h1
  have hB : Below s w W := by rw [← hW, ← hws]; exact bw_a (bw_a (bw_a (Below.refl _ w) _) _) _
  have hl2 := hk2.lt
  rw [hW]
  clear hW
  have e0 := hk1.cell 0
  have e1 := hk1.cell 1
  have e2 := hk1.cell 2
  simp only [List.getElem?_toArray, List.getElem?_cons_zero, List.getElem?_cons_succ] at e0 e1 e2
  have hB' : Below w.heap.size w W := by rw [hws]; exact hB
  have HO1 := hid (own_below HO.out hB')
  clear hB'
  refine (HMO.out W).mono ?_
  rintro e w1 ⟨rfl, hww⟩
  subst hww
  go_wp2_with fail
  refine (HCK.out w1).mono ?_
  rintro e w2 ⟨rfl, hb2⟩
  have hk2 := hk2.below hb2 hl2
  have hk0 := hk0.below hb2 (by omega)
  have hk1 := hk1.below hb2 (by omega)
  have hB := hB.trans (hb2.mono (by omega))
  have HO2 := hid (own_below HO1.out hb2)
  have hl3 := hk2.lt
  clear e0 e1 e2
  have e0 := hk1.cell 0
  have e1 := hk1.cell 1
  have e2 := hk1.cell 2
  simp only [List.getElem?_toArray, List.getElem?_cons_zero, List.getElem?_cons_succ] at e0 e1 e2
  have c0 := hk0.cell 0
  have c1 := hk0.cell 1
  have c2 := hk0.cell 2
  have c3 := hk0.cell 3
  have c4 := hk0.cell 4
  have c5 := hk0.cell 5
  have c6 := hk0.cell 6
  have c7 := hk0.cell 7
  have c8 := hk0.cell 8
  have c9 := hk0.cell 9
  simp only [List.getElem?_toArray, List.getElem?_cons_zero, List.getElem?_cons_succ] at c0 c1 c2 c3 c4 c5 c6 c7 c8 c9
  have f0 := hk0.frozen 0
  have f1 := hk0.frozen 1
  have f2 := hk0.frozen 2
  have f3 := hk0.frozen 3
  have f4 := hk0.frozen 4
  have f5 := hk0.frozen 5
  have f6 := hk0.frozen 6
  have f7 := hk0.frozen 7
  have f8 := hk0.frozen 8
  have f9 := hk0.frozen 9
  have r0 := hk2.cell 0
  have r1 := hk2.cell 1
  have r2 := hk2.cell 2
  have r3 := hk2.cell 3
  have r4 := hk2.cell 4
  have r5 := hk2.cell 5
  have r6 := hk2.cell 6
  have r7 := hk2.cell 7
  have r8 := hk2.cell 8
  have r9 := hk2.cell 9
  simp only [List.getElem?_toArray, List.getElem?_cons_zero, List.getElem?_cons_succ] at r0 r1 r2 r3 r4 r5 r6 r7 r8 r9
  have g0 := hk2.frozen 0
  have g1 := hk2.frozen 1
  have g2 := hk2.frozen 2
  have g3 := hk2.frozen 3
  have g4 := hk2.frozen 4
  have g5 := hk2.frozen 5
  have g6 := hk2.frozen 6
  have g7 := hk2.frozen 7
  have g8 := hk2.frozen 8
  have g9 := hk2.frozen 9
  have HK2 := hid hk2; have HB := hid hB; have HK0 := hid hk0
  clear hk0 hk1 hk2 hB hb2
  go_wp2_with (at_builtin; refine wpList_append_rd rfl (.tmp 32) (.tmp 34) 25 rfl B 9 i0 (.string ⟨#[]⟩) 1 16 Try.underlying25 hi hz0 hz1 hz2 rfl (by decide) _ len (l.map sv) rfl (HO2.out.alloc _) (some ⟨w2.heap.size, 0, none⟩) 1 1 [.string q] rfl rfl (Rd.new w2 9 #[.string q]) (fun h => by cases h) (by simp [Value.oneCell']) (by simp only [maxLen]; omega) (by omega) (by simp; omega) ?_; intro v3 w3 hown3 hgrow3; obtain ⟨A9, q9, rfl⟩ := row_slice' hown3; have hk03 : Blk w3 s 27 #[.int .u8 (k : Int), .int .u64 (n0 : Int), .int .u64 (n1 : Int), .int .u64 (n2 : Int), .int .u64 (n3 : Int), .int .u64 (n4 : Int), .int .u64 (n5 : Int), .string s0, .string s1, .slice A len c] := blk_grown (HK0.out.alloc _) hgrow3 (fun e => by have := (HLT.out _ e).2; omega); have hk23 : Blk w3 (s + 1 + 1) 27 #[.int .u8 0, .int .u64 0, .int .u64 0, .int .u64 0, .int .u64 0, .int .u64 0, .int .u64 0, .string ⟨#[]⟩, .string ⟨#[]⟩, .slice none 0 0] := blk_grown (HK2.out.alloc _) hgrow3 (fun e => by have := (HLT.out _ e).2; omega); have HCH := hid (Chg.of_grown (S := fun k => B ≤ k) hgrow3 (fun g e => (HLT.out g e).1)); have hz3 : (w2.alloc (.cells #[.string q] 9)).heap.size ≤ w3.heap.size := hgrow3.size; have HK03 := hid hk03; have HK23 := hid hk23; have HO3 := hid hown3; clear hown3 hgrow3 c0 c1 c2 c3 c4 c5 c6 c7 c8 c9 f0 f1 f2 f3 f4 f5 f6 f7 f8 f9 r0 r1 r2 r3 r4 r5 r6 r7 r8 r9 g0 g1 g2 g3 g4 g5 g6 g7 g8 g9; have c0 := hk03.cell 0; have c1 := hk03.cell 1; have c2 := hk03.cell 2; have c3 := hk03.cell 3; have c4 := hk03.cell 4; have c5 := hk03.cell 5; have c6 := hk03.cell 6; have c7 := hk03.cell 7; have c8 := hk03.cell 8; have c9 := hk03.cell 9; have f0 := hk03.frozen 0; have f1 := hk03.frozen 1; have f2 := hk03.frozen 2; have f3 := hk03.frozen 3; have f4 := hk03.frozen 4; have f5 := hk03.frozen 5; have f6 := hk03.frozen 6; have f7 := hk03.frozen 7; have f8 := hk03.frozen 8; have f9 := hk03.frozen 9; simp only [List.getElem?_toArray, List.getElem?_cons_zero, List.getElem?_cons_succ] at c0 c1 c2 c3 c4 c5 c6 c7 c8 c9; have r0 := hk23.cell 0; have r1 := hk23.cell 1; have r2 := hk23.cell 2; have r3 := hk23.cell 3; have r4 := hk23.cell 4; have r5 := hk23.cell 5; have r6 := hk23.cell 6; have r7 := hk23.cell 7; have r8 := hk23.cell 8; have r9 := hk23.cell 9; have g0 := hk23.frozen 0; have g1 := hk23.frozen 1; have g2 := hk23.frozen 2; have g3 := hk23.frozen 3; have g4 := hk23.frozen 4; have g5 := hk23.frozen 5; have g6 := hk23.frozen 6; have g7 := hk23.frozen 7; have g8 := hk23.frozen 8; have g9 := hk23.frozen 9; simp only [List.getElem?_toArray, List.getElem?_cons_zero, List.getElem?_cons_succ] at r0 r1 r2 r3 r4 r5 r6 r7 r8 r9; clear hk03 hk23)
  rw [World.size_alloc] at hz3
  have HE := hid (mstore (HK23.out.far (p := ⟨s, 9, none⟩) (by show s + 1 + 1 ≠ s; omega) (.slice A9 (len + 1) q9)) (.int .u8 (k : Int)) (.int .u64 (n0 : Int)) (.int .u64 (n1 : Int)) (.int .u64 (n2 : Int)) (.int .u64 (n3 : Int)) (.int .u64 (n4 : Int)) (.int .u64 (n5 : Int)) (.string s0) (.string s1) (.slice A9 (len + 1) q9))
  have HS := hid ((Chg.refl (fun k => k = s) w3).set_ (.inl rfl) 9 (.slice A9 (len + 1) q9))
  have HOS := hid (own_chgS HO3.out HS.out (fun g e h => own_ne_blk HO3.out HK03.out (by decide) g e h))
  generalize w3.setCell ⟨s, 9, none⟩ (.slice A9 (len + 1) q9) = W8 at *
  clear c0 c1 c2 c3 c4 c5 c6 c7 c8 c9 f0 f1 f2 f3 f4 f5 f6 f7 f8 f9 e0 e1 e2
  clear r0 r1 r2 r3 r4 r5 r6 r7 r8 r9 g0 g1 g2 g3 g4 g5 g6 g7 g8 g9
  generalize World.setCell (World.setCell _ _ _) _ _ = W9 at *
  have hz := HE.out.1
  have r0 := hz.cell 0
  have r1 := hz.cell 1
  have r2 := hz.cell 2
  have r3 := hz.cell 3
  have r4 := hz.cell 4
  have r5 := hz.cell 5
  have r6 := hz.cell 6
  have r7 := hz.cell 7
  have r8 := hz.cell 8
  have r9 := hz.cell 9
  simp only [List.getElem?_toArray, List.getElem?_cons_zero, List.getElem?_cons_succ] at r0 r1 r2 r3 r4 r5 r6 r7 r8 r9
  refine bodyPost_ret (v := .tuple #[.agg #[.int .u8 (k : Int), .int .u64 (n0 : Int), .int .u64 (n1 : Int), .int .u64 (n2 : Int), .int .u64 (n3 : Int), .int .u64 (n4 : Int), .int .u64 (n5 : Int), .string s0, .string s1, .slice A9 (len + 1) q9], .int .i64 0]) (by simp [results, Try.results72, go_sem, r0, r1, r2, r3, r4, r5, r6, r7, r8, r9]) rfl ?_
  exact ⟨A9, q9, rfl, (by rw [List.map_append]; exact own_chgS HOS.out HE.out.2 (fun g e h => own_ne_blk HO3.out HK23.out (by decide) g e h)), ((HB.out.mono hB0).trans ((bw_a (Below.refl _ w2) _).mono (by omega))).trans ((HCH.out.below (B := B) (fun k hk => hk) (by rw [World.size_alloc]; omega)).trans ((HS.out.below (B := B) (fun k hk => by omega) (by omega)).trans (HE.out.2.below (B := B) (fun k hk => by omega) (by have := HS.out.size; omega))))⟩
end Go.Proofs.Ytnfodgjihdoncaa
