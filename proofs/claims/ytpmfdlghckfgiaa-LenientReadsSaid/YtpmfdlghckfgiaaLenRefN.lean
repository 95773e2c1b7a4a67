/- The document's Set: numbers. -/
import Derived.Test.YtpmfdlghckfgiaaG11
set_option linter.unusedVariables false
namespace Go.Proofs.Ytpmfdlghckfgiaa
open Go.RowKit
set_option maxRecDepth 100000 in
set_option maxHeartbeats 16000000 in
theorem rset_num1 (m : MV) (num t i : Int) (fnum fw : Int) (fn : Nat) (fA : Option Addr) (xl fc : Nat) (fat : Int) (w : World) (ht : t = 1 ∨ t = 3 ∨ t = 4 ∨ t = 2 ∨ t = 5 ∨ t = 6) (hi : i = 0 ∨ i = 1 ∨ i = 2 ∨ i = 3 ∨ i = 4 ∨ i = 5) (hfn : fn ≤ 18446744073709551615) :
    Calls Try.prog 19 #[mvV m, .agg #[.int .i64 num, .int .i64 t, .int .i64 i], .agg #[.int .i64 fnum, .int .u8 fw, .int .u64 (fn : Int), .slice fA xl fc, .int .i64 fat]] w fun e w' => e = .returned (.tuple #[mvV (m.setN i (numV t fn)), .int .i64 0]) ∧ Below w.heap.size w w' := by
  obtain ⟨U, hU⟩ : ∃ U, mvV (m.setN i (numV t fn)) = U := ⟨_, rfl⟩
  rw [hU]
  unfold mvV mvA
  obtain ⟨len, hlen⟩ : ∃ n, m.l.length = n := ⟨_, rfl⟩
  simp only [hlen]
  obtain ⟨s, hws⟩ : ∃ s, w.heap.size = s := ⟨_, rfl⟩
  rw [hws]
  have HU := hid hU
  have HLEN := hid hlen
  clear hU hlen
  obtain ⟨x, hx⟩ : ∃ x, numV t fn = x := ⟨_, rfl⟩
  rw [hx] at HU
  rcases (show t = 1 ∨ (t = 3 ∧ fn % 2 = 0) ∨ (t = 3 ∧ fn % 2 = 1) ∨ (t = 4 ∧ fn = 0) ∨ (t = 4 ∧ 0 < fn) ∨ (t = 2 ∨ t = 5 ∨ t = 6) by omega) with rfl | ⟨rfl, hm⟩ | ⟨rfl, hm⟩ | ⟨rfl, hm⟩ | ⟨rfl, hm⟩ | ht
  · have hxe : (fn : Int) % 4294967296 = (x : Int) := by rw [← hx]; unfold numV; rw [if_pos rfl]; omega
    clear hx ht
    rcases hi with rfl | rfl | rfl | rfl | rfl | rfl
    · go_enter Try.func19, Try.ntmps19
      go_wp2_with fail
      try rw [hxe]
      obtain ⟨W, hW⟩ : ∃ W, (((w.alloc (.cells #[.int .u8 (m.k : Int), .int .u64 (x : Int), .int .u64 (m.n1 : Int), .int .u64 (m.n2 : Int), .int .u64 (m.n3 : Int), .int .u64 (m.n4 : Int), .int .u64 (m.n5 : Int), .string m.s0, .string m.s1, .slice m.A len m.c] 29)).alloc (.cells #[.int .i64 num, .int .i64 1, .int .i64 0] 48)).alloc (.cells #[.int .i64 fnum, .int .u8 fw, .int .u64 (fn : Int), .slice fA xl fc, .int .i64 fat] 50)).alloc (.cells #[.int .u8 (m.k : Int), .int .u64 (x : Int), .int .u64 (m.n1 : Int), .int .u64 (m.n2 : Int), .int .u64 (m.n3 : Int), .int .u64 (m.n4 : Int), .int .u64 (m.n5 : Int), .string m.s0, .string m.s1, .slice m.A len m.c] 29) = W := ⟨_, rfl⟩
      rw [hW]
      have hk3 : Blk W (s + 1 + 1 + 1) 29 #[.int .u8 (m.k : Int), .int .u64 (x : Int), .int .u64 (m.n1 : Int), .int .u64 (m.n2 : Int), .int .u64 (m.n3 : Int), .int .u64 (m.n4 : Int), .int .u64 (m.n5 : Int), .string m.s0, .string m.s1, .slice m.A len m.c] := by
        have h1 := Blk.new (((w.alloc (.cells #[.int .u8 (m.k : Int), .int .u64 (x : Int), .int .u64 (m.n1 : Int), .int .u64 (m.n2 : Int), .int .u64 (m.n3 : Int), .int .u64 (m.n4 : Int), .int .u64 (m.n5 : Int), .string m.s0, .string m.s1, .slice m.A len m.c] 29)).alloc (.cells #[.int .i64 num, .int .i64 1, .int .i64 0] 48)).alloc (.cells #[.int .i64 fnum, .int .u8 fw, .int .u64 (fn : Int), .slice fA xl fc, .int .i64 fat] 50)) 29 #[.int .u8 (m.k : Int), .int .u64 (x : Int), .int .u64 (m.n1 : Int), .int .u64 (m.n2 : Int), .int .u64 (m.n3 : Int), .int .u64 (m.n4 : Int), .int .u64 (m.n5 : Int), .string m.s0, .string m.s1, .slice m.A len m.c]
        rw [World.size_alloc, World.size_alloc, World.size_alloc, hws, hW] at h1; exact h1
      have hB : Below s w W := by rw [← hW, ← hws]; exact bw_a (bw_a (bw_a (bw_a (Below.refl _ w) _) _) _) _
      clear hW
      have r0 := hk3.cell 0
      have r1 := hk3.cell 1
      have r2 := hk3.cell 2
      have r3 := hk3.cell 3
      have r4 := hk3.cell 4
      have r5 := hk3.cell 5
      have r6 := hk3.cell 6
      have r7 := hk3.cell 7
      have r8 := hk3.cell 8
      have r9 := hk3.cell 9
      simp only [List.getElem?_toArray, List.getElem?_cons_zero, List.getElem?_cons_succ] at r0 r1 r2 r3 r4 r5 r6 r7 r8 r9
      refine bodyPost_ret (v := .tuple #[.agg #[.int .u8 (m.k : Int), .int .u64 (x : Int), .int .u64 (m.n1 : Int), .int .u64 (m.n2 : Int), .int .u64 (m.n3 : Int), .int .u64 (m.n4 : Int), .int .u64 (m.n5 : Int), .string m.s0, .string m.s1, .slice m.A len m.c], .int .i64 0]) (by simp [results, Try.results19, go_sem, r0, r1, r2, r3, r4, r5, r6, r7, r8, r9]) rfl ⟨?_, hB⟩
      rw [← HU.out, ← HLEN.out]
      simp [mvV, mvA, MV.setN]
    · go_enter Try.func19, Try.ntmps19
      go_wp2_with fail
      try rw [hxe]
      obtain ⟨W, hW⟩ : ∃ W, (((w.alloc (.cells #[.int .u8 (m.k : Int), .int .u64 (m.n0 : Int), .int .u64 (x : Int), .int .u64 (m.n2 : Int), .int .u64 (m.n3 : Int), .int .u64 (m.n4 : Int), .int .u64 (m.n5 : Int), .string m.s0, .string m.s1, .slice m.A len m.c] 29)).alloc (.cells #[.int .i64 num, .int .i64 1, .int .i64 1] 48)).alloc (.cells #[.int .i64 fnum, .int .u8 fw, .int .u64 (fn : Int), .slice fA xl fc, .int .i64 fat] 50)).alloc (.cells #[.int .u8 (m.k : Int), .int .u64 (m.n0 : Int), .int .u64 (x : Int), .int .u64 (m.n2 : Int), .int .u64 (m.n3 : Int), .int .u64 (m.n4 : Int), .int .u64 (m.n5 : Int), .string m.s0, .string m.s1, .slice m.A len m.c] 29) = W := ⟨_, rfl⟩
      rw [hW]
      have hk3 : Blk W (s + 1 + 1 + 1) 29 #[.int .u8 (m.k : Int), .int .u64 (m.n0 : Int), .int .u64 (x : Int), .int .u64 (m.n2 : Int), .int .u64 (m.n3 : Int), .int .u64 (m.n4 : Int), .int .u64 (m.n5 : Int), .string m.s0, .string m.s1, .slice m.A len m.c] := by
        have h1 := Blk.new (((w.alloc (.cells #[.int .u8 (m.k : Int), .int .u64 (m.n0 : Int), .int .u64 (x : Int), .int .u64 (m.n2 : Int), .int .u64 (m.n3 : Int), .int .u64 (m.n4 : Int), .int .u64 (m.n5 : Int), .string m.s0, .string m.s1, .slice m.A len m.c] 29)).alloc (.cells #[.int .i64 num, .int .i64 1, .int .i64 1] 48)).alloc (.cells #[.int .i64 fnum, .int .u8 fw, .int .u64 (fn : Int), .slice fA xl fc, .int .i64 fat] 50)) 29 #[.int .u8 (m.k : Int), .int .u64 (m.n0 : Int), .int .u64 (x : Int), .int .u64 (m.n2 : Int), .int .u64 (m.n3 : Int), .int .u64 (m.n4 : Int), .int .u64 (m.n5 : Int), .string m.s0, .string m.s1, .slice m.A len m.c]
        rw [World.size_alloc, World.size_alloc, World.size_alloc, hws, hW] at h1; exact h1
      have hB : Below s w W := by rw [← hW, ← hws]; exact bw_a (bw_a (bw_a (bw_a (Below.refl _ w) _) _) _) _
      clear hW
      have r0 := hk3.cell 0
      have r1 := hk3.cell 1
      have r2 := hk3.cell 2
      have r3 := hk3.cell 3
      have r4 := hk3.cell 4
      have r5 := hk3.cell 5
      have r6 := hk3.cell 6
      have r7 := hk3.cell 7
      have r8 := hk3.cell 8
      have r9 := hk3.cell 9
      simp only [List.getElem?_toArray, List.getElem?_cons_zero, List.getElem?_cons_succ] at r0 r1 r2 r3 r4 r5 r6 r7 r8 r9
      refine bodyPost_ret (v := .tuple #[.agg #[.int .u8 (m.k : Int), .int .u64 (m.n0 : Int), .int .u64 (x : Int), .int .u64 (m.n2 : Int), .int .u64 (m.n3 : Int), .int .u64 (m.n4 : Int), .int .u64 (m.n5 : Int), .string m.s0, .string m.s1, .slice m.A len m.c], .int .i64 0]) (by simp [results, Try.results19, go_sem, r0, r1, r2, r3, r4, r5, r6, r7, r8, r9]) rfl ⟨?_, hB⟩
      rw [← HU.out, ← HLEN.out]
      simp [mvV, mvA, MV.setN]
    · go_enter Try.func19, Try.ntmps19
      go_wp2_with fail
      try rw [hxe]
      obtain ⟨W, hW⟩ : ∃ W, (((w.alloc (.cells #[.int .u8 (m.k : Int), .int .u64 (m.n0 : Int), .int .u64 (m.n1 : Int), .int .u64 (x : Int), .int .u64 (m.n3 : Int), .int .u64 (m.n4 : Int), .int .u64 (m.n5 : Int), .string m.s0, .string m.s1, .slice m.A len m.c] 29)).alloc (.cells #[.int .i64 num, .int .i64 1, .int .i64 2] 48)).alloc (.cells #[.int .i64 fnum, .int .u8 fw, .int .u64 (fn : Int), .slice fA xl fc, .int .i64 fat] 50)).alloc (.cells #[.int .u8 (m.k : Int), .int .u64 (m.n0 : Int), .int .u64 (m.n1 : Int), .int .u64 (x : Int), .int .u64 (m.n3 : Int), .int .u64 (m.n4 : Int), .int .u64 (m.n5 : Int), .string m.s0, .string m.s1, .slice m.A len m.c] 29) = W := ⟨_, rfl⟩
      rw [hW]
      have hk3 : Blk W (s + 1 + 1 + 1) 29 #[.int .u8 (m.k : Int), .int .u64 (m.n0 : Int), .int .u64 (m.n1 : Int), .int .u64 (x : Int), .int .u64 (m.n3 : Int), .int .u64 (m.n4 : Int), .int .u64 (m.n5 : Int), .string m.s0, .string m.s1, .slice m.A len m.c] := by
        have h1 := Blk.new (((w.alloc (.cells #[.int .u8 (m.k : Int), .int .u64 (m.n0 : Int), .int .u64 (m.n1 : Int), .int .u64 (x : Int), .int .u64 (m.n3 : Int), .int .u64 (m.n4 : Int), .int .u64 (m.n5 : Int), .string m.s0, .string m.s1, .slice m.A len m.c] 29)).alloc (.cells #[.int .i64 num, .int .i64 1, .int .i64 2] 48)).alloc (.cells #[.int .i64 fnum, .int .u8 fw, .int .u64 (fn : Int), .slice fA xl fc, .int .i64 fat] 50)) 29 #[.int .u8 (m.k : Int), .int .u64 (m.n0 : Int), .int .u64 (m.n1 : Int), .int .u64 (x : Int), .int .u64 (m.n3 : Int), .int .u64 (m.n4 : Int), .int .u64 (m.n5 : Int), .string m.s0, .string m.s1, .slice m.A len m.c]
        rw [World.size_alloc, World.size_alloc, World.size_alloc, hws, hW] at h1; exact h1
      have hB : Below s w W := by rw [← hW, ← hws]; exact bw_a (bw_a (bw_a (bw_a (Below.refl _ w) _) _) _) _
      clear hW
      have r0 := hk3.cell 0
      have r1 := hk3.cell 1
      have r2 := hk3.cell 2
      have r3 := hk3.cell 3
      have r4 := hk3.cell 4
      have r5 := hk3.cell 5
      have r6 := hk3.cell 6
      have r7 := hk3.cell 7
      have r8 := hk3.cell 8
      have r9 := hk3.cell 9
      simp only [List.getElem?_toArray, List.getElem?_cons_zero, List.getElem?_cons_succ] at r0 r1 r2 r3 r4 r5 r6 r7 r8 r9
      refine bodyPost_ret (v := .tuple #[.agg #[.int .u8 (m.k : Int), .int .u64 (m.n0 : Int), .int .u64 (m.n1 : Int), .int .u64 (x : Int), .int .u64 (m.n3 : Int), .int .u64 (m.n4 : Int), .int .u64 (m.n5 : Int), .string m.s0, .string m.s1, .slice m.A len m.c], .int .i64 0]) (by simp [results, Try.results19, go_sem, r0, r1, r2, r3, r4, r5, r6, r7, r8, r9]) rfl ⟨?_, hB⟩
      rw [← HU.out, ← HLEN.out]
      simp [mvV, mvA, MV.setN]
    · go_enter Try.func19, Try.ntmps19
      go_wp2_with fail
      try rw [hxe]
      obtain ⟨W, hW⟩ : ∃ W, (((w.alloc (.cells #[.int .u8 (m.k : Int), .int .u64 (m.n0 : Int), .int .u64 (m.n1 : Int), .int .u64 (m.n2 : Int), .int .u64 (x : Int), .int .u64 (m.n4 : Int), .int .u64 (m.n5 : Int), .string m.s0, .string m.s1, .slice m.A len m.c] 29)).alloc (.cells #[.int .i64 num, .int .i64 1, .int .i64 3] 48)).alloc (.cells #[.int .i64 fnum, .int .u8 fw, .int .u64 (fn : Int), .slice fA xl fc, .int .i64 fat] 50)).alloc (.cells #[.int .u8 (m.k : Int), .int .u64 (m.n0 : Int), .int .u64 (m.n1 : Int), .int .u64 (m.n2 : Int), .int .u64 (x : Int), .int .u64 (m.n4 : Int), .int .u64 (m.n5 : Int), .string m.s0, .string m.s1, .slice m.A len m.c] 29) = W := ⟨_, rfl⟩
      rw [hW]
      have hk3 : Blk W (s + 1 + 1 + 1) 29 #[.int .u8 (m.k : Int), .int .u64 (m.n0 : Int), .int .u64 (m.n1 : Int), .int .u64 (m.n2 : Int), .int .u64 (x : Int), .int .u64 (m.n4 : Int), .int .u64 (m.n5 : Int), .string m.s0, .string m.s1, .slice m.A len m.c] := by
        have h1 := Blk.new (((w.alloc (.cells #[.int .u8 (m.k : Int), .int .u64 (m.n0 : Int), .int .u64 (m.n1 : Int), .int .u64 (m.n2 : Int), .int .u64 (x : Int), .int .u64 (m.n4 : Int), .int .u64 (m.n5 : Int), .string m.s0, .string m.s1, .slice m.A len m.c] 29)).alloc (.cells #[.int .i64 num, .int .i64 1, .int .i64 3] 48)).alloc (.cells #[.int .i64 fnum, .int .u8 fw, .int .u64 (fn : Int), .slice fA xl fc, .int .i64 fat] 50)) 29 #[.int .u8 (m.k : Int), .int .u64 (m.n0 : Int), .int .u64 (m.n1 : Int), .int .u64 (m.n2 : Int), .int .u64 (x : Int), .int .u64 (m.n4 : Int), .int .u64 (m.n5 : Int), .string m.s0, .string m.s1, .slice m.A len m.c]
        rw [World.size_alloc, World.size_alloc, World.size_alloc, hws, hW] at h1; exact h1
      have hB : Below s w W := by rw [← hW, ← hws]; exact bw_a (bw_a (bw_a (bw_a (Below.refl _ w) _) _) _) _
      clear hW
      have r0 := hk3.cell 0
      have r1 := hk3.cell 1
      have r2 := hk3.cell 2
      have r3 := hk3.cell 3
      have r4 := hk3.cell 4
      have r5 := hk3.cell 5
      have r6 := hk3.cell 6
      have r7 := hk3.cell 7
      have r8 := hk3.cell 8
      have r9 := hk3.cell 9
      simp only [List.getElem?_toArray, List.getElem?_cons_zero, List.getElem?_cons_succ] at r0 r1 r2 r3 r4 r5 r6 r7 r8 r9
      refine bodyPost_ret (v := .tuple #[.agg #[.int .u8 (m.k : Int), .int .u64 (m.n0 : Int), .int .u64 (m.n1 : Int), .int .u64 (m.n2 : Int), .int .u64 (x : Int), .int .u64 (m.n4 : Int), .int .u64 (m.n5 : Int), .string m.s0, .string m.s1, .slice m.A len m.c], .int .i64 0]) (by simp [results, Try.results19, go_sem, r0, r1, r2, r3, r4, r5, r6, r7, r8, r9]) rfl ⟨?_, hB⟩
      rw [← HU.out, ← HLEN.out]
      simp [mvV, mvA, MV.setN]
    · go_enter Try.func19, Try.ntmps19
      go_wp2_with fail
      try rw [hxe]
      obtain ⟨W, hW⟩ : ∃ W, (((w.alloc (.cells #[.int .u8 (m.k : Int), .int .u64 (m.n0 : Int), .int .u64 (m.n1 : Int), .int .u64 (m.n2 : Int), .int .u64 (m.n3 : Int), .int .u64 (x : Int), .int .u64 (m.n5 : Int), .string m.s0, .string m.s1, .slice m.A len m.c] 29)).alloc (.cells #[.int .i64 num, .int .i64 1, .int .i64 4] 48)).alloc (.cells #[.int .i64 fnum, .int .u8 fw, .int .u64 (fn : Int), .slice fA xl fc, .int .i64 fat] 50)).alloc (.cells #[.int .u8 (m.k : Int), .int .u64 (m.n0 : Int), .int .u64 (m.n1 : Int), .int .u64 (m.n2 : Int), .int .u64 (m.n3 : Int), .int .u64 (x : Int), .int .u64 (m.n5 : Int), .string m.s0, .string m.s1, .slice m.A len m.c] 29) = W := ⟨_, rfl⟩
      rw [hW]
      have hk3 : Blk W (s + 1 + 1 + 1) 29 #[.int .u8 (m.k : Int), .int .u64 (m.n0 : Int), .int .u64 (m.n1 : Int), .int .u64 (m.n2 : Int), .int .u64 (m.n3 : Int), .int .u64 (x : Int), .int .u64 (m.n5 : Int), .string m.s0, .string m.s1, .slice m.A len m.c] := by
        have h1 := Blk.new (((w.alloc (.cells #[.int .u8 (m.k : Int), .int .u64 (m.n0 : Int), .int .u64 (m.n1 : Int), .int .u64 (m.n2 : Int), .int .u64 (m.n3 : Int), .int .u64 (x : Int), .int .u64 (m.n5 : Int), .string m.s0, .string m.s1, .slice m.A len m.c] 29)).alloc (.cells #[.int .i64 num, .int .i64 1, .int .i64 4] 48)).alloc (.cells #[.int .i64 fnum, .int .u8 fw, .int .u64 (fn : Int), .slice fA xl fc, .int .i64 fat] 50)) 29 #[.int .u8 (m.k : Int), .int .u64 (m.n0 : Int), .int .u64 (m.n1 : Int), .int .u64 (m.n2 : Int), .int .u64 (m.n3 : Int), .int .u64 (x : Int), .int .u64 (m.n5 : Int), .string m.s0, .string m.s1, .slice m.A len m.c]
        rw [World.size_alloc, World.size_alloc, World.size_alloc, hws, hW] at h1; exact h1
      have hB : Below s w W := by rw [← hW, ← hws]; exact bw_a (bw_a (bw_a (bw_a (Below.refl _ w) _) _) _) _
      clear hW
      have r0 := hk3.cell 0
      have r1 := hk3.cell 1
      have r2 := hk3.cell 2
      have r3 := hk3.cell 3
      have r4 := hk3.cell 4
      have r5 := hk3.cell 5
      have r6 := hk3.cell 6
      have r7 := hk3.cell 7
      have r8 := hk3.cell 8
      have r9 := hk3.cell 9
      simp only [List.getElem?_toArray, List.getElem?_cons_zero, List.getElem?_cons_succ] at r0 r1 r2 r3 r4 r5 r6 r7 r8 r9
      refine bodyPost_ret (v := .tuple #[.agg #[.int .u8 (m.k : Int), .int .u64 (m.n0 : Int), .int .u64 (m.n1 : Int), .int .u64 (m.n2 : Int), .int .u64 (m.n3 : Int), .int .u64 (x : Int), .int .u64 (m.n5 : Int), .string m.s0, .string m.s1, .slice m.A len m.c], .int .i64 0]) (by simp [results, Try.results19, go_sem, r0, r1, r2, r3, r4, r5, r6, r7, r8, r9]) rfl ⟨?_, hB⟩
      rw [← HU.out, ← HLEN.out]
      simp [mvV, mvA, MV.setN]
    · go_enter Try.func19, Try.ntmps19
      go_wp2_with fail
      try rw [hxe]
      obtain ⟨W, hW⟩ : ∃ W, (((w.alloc (.cells #[.int .u8 (m.k : Int), .int .u64 (m.n0 : Int), .int .u64 (m.n1 : Int), .int .u64 (m.n2 : Int), .int .u64 (m.n3 : Int), .int .u64 (m.n4 : Int), .int .u64 (x : Int), .string m.s0, .string m.s1, .slice m.A len m.c] 29)).alloc (.cells #[.int .i64 num, .int .i64 1, .int .i64 5] 48)).alloc (.cells #[.int .i64 fnum, .int .u8 fw, .int .u64 (fn : Int), .slice fA xl fc, .int .i64 fat] 50)).alloc (.cells #[.int .u8 (m.k : Int), .int .u64 (m.n0 : Int), .int .u64 (m.n1 : Int), .int .u64 (m.n2 : Int), .int .u64 (m.n3 : Int), .int .u64 (m.n4 : Int), .int .u64 (x : Int), .string m.s0, .string m.s1, .slice m.A len m.c] 29) = W := ⟨_, rfl⟩
      rw [hW]
      have hk3 : Blk W (s + 1 + 1 + 1) 29 #[.int .u8 (m.k : Int), .int .u64 (m.n0 : Int), .int .u64 (m.n1 : Int), .int .u64 (m.n2 : Int), .int .u64 (m.n3 : Int), .int .u64 (m.n4 : Int), .int .u64 (x : Int), .string m.s0, .string m.s1, .slice m.A len m.c] := by
        have h1 := Blk.new (((w.alloc (.cells #[.int .u8 (m.k : Int), .int .u64 (m.n0 : Int), .int .u64 (m.n1 : Int), .int .u64 (m.n2 : Int), .int .u64 (m.n3 : Int), .int .u64 (m.n4 : Int), .int .u64 (x : Int), .string m.s0, .string m.s1, .slice m.A len m.c] 29)).alloc (.cells #[.int .i64 num, .int .i64 1, .int .i64 5] 48)).alloc (.cells #[.int .i64 fnum, .int .u8 fw, .int .u64 (fn : Int), .slice fA xl fc, .int .i64 fat] 50)) 29 #[.int .u8 (m.k : Int), .int .u64 (m.n0 : Int), .int .u64 (m.n1 : Int), .int .u64 (m.n2 : Int), .int .u64 (m.n3 : Int), .int .u64 (m.n4 : Int), .int .u64 (x : Int), .string m.s0, .string m.s1, .slice m.A len m.c]
        rw [World.size_alloc, World.size_alloc, World.size_alloc, hws, hW] at h1; exact h1
      have hB : Below s w W := by rw [← hW, ← hws]; exact bw_a (bw_a (bw_a (bw_a (Below.refl _ w) _) _) _) _
      clear hW
      have r0 := hk3.cell 0
      have r1 := hk3.cell 1
      have r2 := hk3.cell 2
      have r3 := hk3.cell 3
      have r4 := hk3.cell 4
      have r5 := hk3.cell 5
      have r6 := hk3.cell 6
      have r7 := hk3.cell 7
      have r8 := hk3.cell 8
      have r9 := hk3.cell 9
      simp only [List.getElem?_toArray, List.getElem?_cons_zero, List.getElem?_cons_succ] at r0 r1 r2 r3 r4 r5 r6 r7 r8 r9
      refine bodyPost_ret (v := .tuple #[.agg #[.int .u8 (m.k : Int), .int .u64 (m.n0 : Int), .int .u64 (m.n1 : Int), .int .u64 (m.n2 : Int), .int .u64 (m.n3 : Int), .int .u64 (m.n4 : Int), .int .u64 (x : Int), .string m.s0, .string m.s1, .slice m.A len m.c], .int .i64 0]) (by simp [results, Try.results19, go_sem, r0, r1, r2, r3, r4, r5, r6, r7, r8, r9]) rfl ⟨?_, hB⟩
      rw [← HU.out, ← HLEN.out]
      simp [mvV, mvA, MV.setN]
  · have hxe : (fn : Int) / 2 = (x : Int) := by rw [← hx]; unfold numV; rw [if_neg (by decide), if_neg (by decide), if_pos rfl]; unfold zagU; rw [if_pos hm]; omega
    clear hx ht
    rcases hi with rfl | rfl | rfl | rfl | rfl | rfl
    · go_enter Try.func19, Try.ntmps19
      go_wp2_with fail
      try rw [hxe]
      obtain ⟨W, hW⟩ : ∃ W, (((w.alloc (.cells #[.int .u8 (m.k : Int), .int .u64 (x : Int), .int .u64 (m.n1 : Int), .int .u64 (m.n2 : Int), .int .u64 (m.n3 : Int), .int .u64 (m.n4 : Int), .int .u64 (m.n5 : Int), .string m.s0, .string m.s1, .slice m.A len m.c] 29)).alloc (.cells #[.int .i64 num, .int .i64 3, .int .i64 0] 48)).alloc (.cells #[.int .i64 fnum, .int .u8 fw, .int .u64 (fn : Int), .slice fA xl fc, .int .i64 fat] 50)).alloc (.cells #[.int .u8 (m.k : Int), .int .u64 (x : Int), .int .u64 (m.n1 : Int), .int .u64 (m.n2 : Int), .int .u64 (m.n3 : Int), .int .u64 (m.n4 : Int), .int .u64 (m.n5 : Int), .string m.s0, .string m.s1, .slice m.A len m.c] 29) = W := ⟨_, rfl⟩
      rw [hW]
      have hk3 : Blk W (s + 1 + 1 + 1) 29 #[.int .u8 (m.k : Int), .int .u64 (x : Int), .int .u64 (m.n1 : Int), .int .u64 (m.n2 : Int), .int .u64 (m.n3 : Int), .int .u64 (m.n4 : Int), .int .u64 (m.n5 : Int), .string m.s0, .string m.s1, .slice m.A len m.c] := by
        have h1 := Blk.new (((w.alloc (.cells #[.int .u8 (m.k : Int), .int .u64 (x : Int), .int .u64 (m.n1 : Int), .int .u64 (m.n2 : Int), .int .u64 (m.n3 : Int), .int .u64 (m.n4 : Int), .int .u64 (m.n5 : Int), .string m.s0, .string m.s1, .slice m.A len m.c] 29)).alloc (.cells #[.int .i64 num, .int .i64 3, .int .i64 0] 48)).alloc (.cells #[.int .i64 fnum, .int .u8 fw, .int .u64 (fn : Int), .slice fA xl fc, .int .i64 fat] 50)) 29 #[.int .u8 (m.k : Int), .int .u64 (x : Int), .int .u64 (m.n1 : Int), .int .u64 (m.n2 : Int), .int .u64 (m.n3 : Int), .int .u64 (m.n4 : Int), .int .u64 (m.n5 : Int), .string m.s0, .string m.s1, .slice m.A len m.c]
        rw [World.size_alloc, World.size_alloc, World.size_alloc, hws, hW] at h1; exact h1
      have hB : Below s w W := by rw [← hW, ← hws]; exact bw_a (bw_a (bw_a (bw_a (Below.refl _ w) _) _) _) _
      clear hW
      have r0 := hk3.cell 0
      have r1 := hk3.cell 1
      have r2 := hk3.cell 2
      have r3 := hk3.cell 3
      have r4 := hk3.cell 4
      have r5 := hk3.cell 5
      have r6 := hk3.cell 6
      have r7 := hk3.cell 7
      have r8 := hk3.cell 8
      have r9 := hk3.cell 9
      simp only [List.getElem?_toArray, List.getElem?_cons_zero, List.getElem?_cons_succ] at r0 r1 r2 r3 r4 r5 r6 r7 r8 r9
      refine bodyPost_ret (v := .tuple #[.agg #[.int .u8 (m.k : Int), .int .u64 (x : Int), .int .u64 (m.n1 : Int), .int .u64 (m.n2 : Int), .int .u64 (m.n3 : Int), .int .u64 (m.n4 : Int), .int .u64 (m.n5 : Int), .string m.s0, .string m.s1, .slice m.A len m.c], .int .i64 0]) (by simp [results, Try.results19, go_sem, r0, r1, r2, r3, r4, r5, r6, r7, r8, r9]) rfl ⟨?_, hB⟩
      rw [← HU.out, ← HLEN.out]
      simp [mvV, mvA, MV.setN]
    · go_enter Try.func19, Try.ntmps19
      go_wp2_with fail
      try rw [hxe]
      obtain ⟨W, hW⟩ : ∃ W, (((w.alloc (.cells #[.int .u8 (m.k : Int), .int .u64 (m.n0 : Int), .int .u64 (x : Int), .int .u64 (m.n2 : Int), .int .u64 (m.n3 : Int), .int .u64 (m.n4 : Int), .int .u64 (m.n5 : Int), .string m.s0, .string m.s1, .slice m.A len m.c] 29)).alloc (.cells #[.int .i64 num, .int .i64 3, .int .i64 1] 48)).alloc (.cells #[.int .i64 fnum, .int .u8 fw, .int .u64 (fn : Int), .slice fA xl fc, .int .i64 fat] 50)).alloc (.cells #[.int .u8 (m.k : Int), .int .u64 (m.n0 : Int), .int .u64 (x : Int), .int .u64 (m.n2 : Int), .int .u64 (m.n3 : Int), .int .u64 (m.n4 : Int), .int .u64 (m.n5 : Int), .string m.s0, .string m.s1, .slice m.A len m.c] 29) = W := ⟨_, rfl⟩
      rw [hW]
      have hk3 : Blk W (s + 1 + 1 + 1) 29 #[.int .u8 (m.k : Int), .int .u64 (m.n0 : Int), .int .u64 (x : Int), .int .u64 (m.n2 : Int), .int .u64 (m.n3 : Int), .int .u64 (m.n4 : Int), .int .u64 (m.n5 : Int), .string m.s0, .string m.s1, .slice m.A len m.c] := by
        have h1 := Blk.new (((w.alloc (.cells #[.int .u8 (m.k : Int), .int .u64 (m.n0 : Int), .int .u64 (x : Int), .int .u64 (m.n2 : Int), .int .u64 (m.n3 : Int), .int .u64 (m.n4 : Int), .int .u64 (m.n5 : Int), .string m.s0, .string m.s1, .slice m.A len m.c] 29)).alloc (.cells #[.int .i64 num, .int .i64 3, .int .i64 1] 48)).alloc (.cells #[.int .i64 fnum, .int .u8 fw, .int .u64 (fn : Int), .slice fA xl fc, .int .i64 fat] 50)) 29 #[.int .u8 (m.k : Int), .int .u64 (m.n0 : Int), .int .u64 (x : Int), .int .u64 (m.n2 : Int), .int .u64 (m.n3 : Int), .int .u64 (m.n4 : Int), .int .u64 (m.n5 : Int), .string m.s0, .string m.s1, .slice m.A len m.c]
        rw [World.size_alloc, World.size_alloc, World.size_alloc, hws, hW] at h1; exact h1
      have hB : Below s w W := by rw [← hW, ← hws]; exact bw_a (bw_a (bw_a (bw_a (Below.refl _ w) _) _) _) _
      clear hW
      have r0 := hk3.cell 0
      have r1 := hk3.cell 1
      have r2 := hk3.cell 2
      have r3 := hk3.cell 3
      have r4 := hk3.cell 4
      have r5 := hk3.cell 5
      have r6 := hk3.cell 6
      have r7 := hk3.cell 7
      have r8 := hk3.cell 8
      have r9 := hk3.cell 9
      simp only [List.getElem?_toArray, List.getElem?_cons_zero, List.getElem?_cons_succ] at r0 r1 r2 r3 r4 r5 r6 r7 r8 r9
      refine bodyPost_ret (v := .tuple #[.agg #[.int .u8 (m.k : Int), .int .u64 (m.n0 : Int), .int .u64 (x : Int), .int .u64 (m.n2 : Int), .int .u64 (m.n3 : Int), .int .u64 (m.n4 : Int), .int .u64 (m.n5 : Int), .string m.s0, .string m.s1, .slice m.A len m.c], .int .i64 0]) (by simp [results, Try.results19, go_sem, r0, r1, r2, r3, r4, r5, r6, r7, r8, r9]) rfl ⟨?_, hB⟩
      rw [← HU.out, ← HLEN.out]
      simp [mvV, mvA, MV.setN]
    · go_enter Try.func19, Try.ntmps19
      go_wp2_with fail
      try rw [hxe]
      obtain ⟨W, hW⟩ : ∃ W, (((w.alloc (.cells #[.int .u8 (m.k : Int), .int .u64 (m.n0 : Int), .int .u64 (m.n1 : Int), .int .u64 (x : Int), .int .u64 (m.n3 : Int), .int .u64 (m.n4 : Int), .int .u64 (m.n5 : Int), .string m.s0, .string m.s1, .slice m.A len m.c] 29)).alloc (.cells #[.int .i64 num, .int .i64 3, .int .i64 2] 48)).alloc (.cells #[.int .i64 fnum, .int .u8 fw, .int .u64 (fn : Int), .slice fA xl fc, .int .i64 fat] 50)).alloc (.cells #[.int .u8 (m.k : Int), .int .u64 (m.n0 : Int), .int .u64 (m.n1 : Int), .int .u64 (x : Int), .int .u64 (m.n3 : Int), .int .u64 (m.n4 : Int), .int .u64 (m.n5 : Int), .string m.s0, .string m.s1, .slice m.A len m.c] 29) = W := ⟨_, rfl⟩
      rw [hW]
      have hk3 : Blk W (s + 1 + 1 + 1) 29 #[.int .u8 (m.k : Int), .int .u64 (m.n0 : Int), .int .u64 (m.n1 : Int), .int .u64 (x : Int), .int .u64 (m.n3 : Int), .int .u64 (m.n4 : Int), .int .u64 (m.n5 : Int), .string m.s0, .string m.s1, .slice m.A len m.c] := by
        have h1 := Blk.new (((w.alloc (.cells #[.int .u8 (m.k : Int), .int .u64 (m.n0 : Int), .int .u64 (m.n1 : Int), .int .u64 (x : Int), .int .u64 (m.n3 : Int), .int .u64 (m.n4 : Int), .int .u64 (m.n5 : Int), .string m.s0, .string m.s1, .slice m.A len m.c] 29)).alloc (.cells #[.int .i64 num, .int .i64 3, .int .i64 2] 48)).alloc (.cells #[.int .i64 fnum, .int .u8 fw, .int .u64 (fn : Int), .slice fA xl fc, .int .i64 fat] 50)) 29 #[.int .u8 (m.k : Int), .int .u64 (m.n0 : Int), .int .u64 (m.n1 : Int), .int .u64 (x : Int), .int .u64 (m.n3 : Int), .int .u64 (m.n4 : Int), .int .u64 (m.n5 : Int), .string m.s0, .string m.s1, .slice m.A len m.c]
        rw [World.size_alloc, World.size_alloc, World.size_alloc, hws, hW] at h1; exact h1
      have hB : Below s w W := by rw [← hW, ← hws]; exact bw_a (bw_a (bw_a (bw_a (Below.refl _ w) _) _) _) _
      clear hW
      have r0 := hk3.cell 0
      have r1 := hk3.cell 1
      have r2 := hk3.cell 2
      have r3 := hk3.cell 3
      have r4 := hk3.cell 4
      have r5 := hk3.cell 5
      have r6 := hk3.cell 6
      have r7 := hk3.cell 7
      have r8 := hk3.cell 8
      have r9 := hk3.cell 9
      simp only [List.getElem?_toArray, List.getElem?_cons_zero, List.getElem?_cons_succ] at r0 r1 r2 r3 r4 r5 r6 r7 r8 r9
      refine bodyPost_ret (v := .tuple #[.agg #[.int .u8 (m.k : Int), .int .u64 (m.n0 : Int), .int .u64 (m.n1 : Int), .int .u64 (x : Int), .int .u64 (m.n3 : Int), .int .u64 (m.n4 : Int), .int .u64 (m.n5 : Int), .string m.s0, .string m.s1, .slice m.A len m.c], .int .i64 0]) (by simp [results, Try.results19, go_sem, r0, r1, r2, r3, r4, r5, r6, r7, r8, r9]) rfl ⟨?_, hB⟩
      rw [← HU.out, ← HLEN.out]
      simp [mvV, mvA, MV.setN]
    · go_enter Try.func19, Try.ntmps19
      go_wp2_with fail
      try rw [hxe]
      obtain ⟨W, hW⟩ : ∃ W, (((w.alloc (.cells #[.int .u8 (m.k : Int), .int .u64 (m.n0 : Int), .int .u64 (m.n1 : Int), .int .u64 (m.n2 : Int), .int .u64 (x : Int), .int .u64 (m.n4 : Int), .int .u64 (m.n5 : Int), .string m.s0, .string m.s1, .slice m.A len m.c] 29)).alloc (.cells #[.int .i64 num, .int .i64 3, .int .i64 3] 48)).alloc (.cells #[.int .i64 fnum, .int .u8 fw, .int .u64 (fn : Int), .slice fA xl fc, .int .i64 fat] 50)).alloc (.cells #[.int .u8 (m.k : Int), .int .u64 (m.n0 : Int), .int .u64 (m.n1 : Int), .int .u64 (m.n2 : Int), .int .u64 (x : Int), .int .u64 (m.n4 : Int), .int .u64 (m.n5 : Int), .string m.s0, .string m.s1, .slice m.A len m.c] 29) = W := ⟨_, rfl⟩
      rw [hW]
      have hk3 : Blk W (s + 1 + 1 + 1) 29 #[.int .u8 (m.k : Int), .int .u64 (m.n0 : Int), .int .u64 (m.n1 : Int), .int .u64 (m.n2 : Int), .int .u64 (x : Int), .int .u64 (m.n4 : Int), .int .u64 (m.n5 : Int), .string m.s0, .string m.s1, .slice m.A len m.c] := by
        have h1 := Blk.new (((w.alloc (.cells #[.int .u8 (m.k : Int), .int .u64 (m.n0 : Int), .int .u64 (m.n1 : Int), .int .u64 (m.n2 : Int), .int .u64 (x : Int), .int .u64 (m.n4 : Int), .int .u64 (m.n5 : Int), .string m.s0, .string m.s1, .slice m.A len m.c] 29)).alloc (.cells #[.int .i64 num, .int .i64 3, .int .i64 3] 48)).alloc (.cells #[.int .i64 fnum, .int .u8 fw, .int .u64 (fn : Int), .slice fA xl fc, .int .i64 fat] 50)) 29 #[.int .u8 (m.k : Int), .int .u64 (m.n0 : Int), .int .u64 (m.n1 : Int), .int .u64 (m.n2 : Int), .int .u64 (x : Int), .int .u64 (m.n4 : Int), .int .u64 (m.n5 : Int), .string m.s0, .string m.s1, .slice m.A len m.c]
        rw [World.size_alloc, World.size_alloc, World.size_alloc, hws, hW] at h1; exact h1
      have hB : Below s w W := by rw [← hW, ← hws]; exact bw_a (bw_a (bw_a (bw_a (Below.refl _ w) _) _) _) _
      clear hW
      have r0 := hk3.cell 0
      have r1 := hk3.cell 1
      have r2 := hk3.cell 2
      have r3 := hk3.cell 3
      have r4 := hk3.cell 4
      have r5 := hk3.cell 5
      have r6 := hk3.cell 6
      have r7 := hk3.cell 7
      have r8 := hk3.cell 8
      have r9 := hk3.cell 9
      simp only [List.getElem?_toArray, List.getElem?_cons_zero, List.getElem?_cons_succ] at r0 r1 r2 r3 r4 r5 r6 r7 r8 r9
      refine bodyPost_ret (v := .tuple #[.agg #[.int .u8 (m.k : Int), .int .u64 (m.n0 : Int), .int .u64 (m.n1 : Int), .int .u64 (m.n2 : Int), .int .u64 (x : Int), .int .u64 (m.n4 : Int), .int .u64 (m.n5 : Int), .string m.s0, .string m.s1, .slice m.A len m.c], .int .i64 0]) (by simp [results, Try.results19, go_sem, r0, r1, r2, r3, r4, r5, r6, r7, r8, r9]) rfl ⟨?_, hB⟩
      rw [← HU.out, ← HLEN.out]
      simp [mvV, mvA, MV.setN]
    · go_enter Try.func19, Try.ntmps19
      go_wp2_with fail
      try rw [hxe]
      obtain ⟨W, hW⟩ : ∃ W, (((w.alloc (.cells #[.int .u8 (m.k : Int), .int .u64 (m.n0 : Int), .int .u64 (m.n1 : Int), .int .u64 (m.n2 : Int), .int .u64 (m.n3 : Int), .int .u64 (x : Int), .int .u64 (m.n5 : Int), .string m.s0, .string m.s1, .slice m.A len m.c] 29)).alloc (.cells #[.int .i64 num, .int .i64 3, .int .i64 4] 48)).alloc (.cells #[.int .i64 fnum, .int .u8 fw, .int .u64 (fn : Int), .slice fA xl fc, .int .i64 fat] 50)).alloc (.cells #[.int .u8 (m.k : Int), .int .u64 (m.n0 : Int), .int .u64 (m.n1 : Int), .int .u64 (m.n2 : Int), .int .u64 (m.n3 : Int), .int .u64 (x : Int), .int .u64 (m.n5 : Int), .string m.s0, .string m.s1, .slice m.A len m.c] 29) = W := ⟨_, rfl⟩
      rw [hW]
      have hk3 : Blk W (s + 1 + 1 + 1) 29 #[.int .u8 (m.k : Int), .int .u64 (m.n0 : Int), .int .u64 (m.n1 : Int), .int .u64 (m.n2 : Int), .int .u64 (m.n3 : Int), .int .u64 (x : Int), .int .u64 (m.n5 : Int), .string m.s0, .string m.s1, .slice m.A len m.c] := by
        have h1 := Blk.new (((w.alloc (.cells #[.int .u8 (m.k : Int), .int .u64 (m.n0 : Int), .int .u64 (m.n1 : Int), .int .u64 (m.n2 : Int), .int .u64 (m.n3 : Int), .int .u64 (x : Int), .int .u64 (m.n5 : Int), .string m.s0, .string m.s1, .slice m.A len m.c] 29)).alloc (.cells #[.int .i64 num, .int .i64 3, .int .i64 4] 48)).alloc (.cells #[.int .i64 fnum, .int .u8 fw, .int .u64 (fn : Int), .slice fA xl fc, .int .i64 fat] 50)) 29 #[.int .u8 (m.k : Int), .int .u64 (m.n0 : Int), .int .u64 (m.n1 : Int), .int .u64 (m.n2 : Int), .int .u64 (m.n3 : Int), .int .u64 (x : Int), .int .u64 (m.n5 : Int), .string m.s0, .string m.s1, .slice m.A len m.c]
        rw [World.size_alloc, World.size_alloc, World.size_alloc, hws, hW] at h1; exact h1
      have hB : Below s w W := by rw [← hW, ← hws]; exact bw_a (bw_a (bw_a (bw_a (Below.refl _ w) _) _) _) _
      clear hW
      have r0 := hk3.cell 0
      have r1 := hk3.cell 1
      have r2 := hk3.cell 2
      have r3 := hk3.cell 3
      have r4 := hk3.cell 4
      have r5 := hk3.cell 5
      have r6 := hk3.cell 6
      have r7 := hk3.cell 7
      have r8 := hk3.cell 8
      have r9 := hk3.cell 9
      simp only [List.getElem?_toArray, List.getElem?_cons_zero, List.getElem?_cons_succ] at r0 r1 r2 r3 r4 r5 r6 r7 r8 r9
      refine bodyPost_ret (v := .tuple #[.agg #[.int .u8 (m.k : Int), .int .u64 (m.n0 : Int), .int .u64 (m.n1 : Int), .int .u64 (m.n2 : Int), .int .u64 (m.n3 : Int), .int .u64 (x : Int), .int .u64 (m.n5 : Int), .string m.s0, .string m.s1, .slice m.A len m.c], .int .i64 0]) (by simp [results, Try.results19, go_sem, r0, r1, r2, r3, r4, r5, r6, r7, r8, r9]) rfl ⟨?_, hB⟩
      rw [← HU.out, ← HLEN.out]
      simp [mvV, mvA, MV.setN]
    · go_enter Try.func19, Try.ntmps19
      go_wp2_with fail
      try rw [hxe]
      obtain ⟨W, hW⟩ : ∃ W, (((w.alloc (.cells #[.int .u8 (m.k : Int), .int .u64 (m.n0 : Int), .int .u64 (m.n1 : Int), .int .u64 (m.n2 : Int), .int .u64 (m.n3 : Int), .int .u64 (m.n4 : Int), .int .u64 (x : Int), .string m.s0, .string m.s1, .slice m.A len m.c] 29)).alloc (.cells #[.int .i64 num, .int .i64 3, .int .i64 5] 48)).alloc (.cells #[.int .i64 fnum, .int .u8 fw, .int .u64 (fn : Int), .slice fA xl fc, .int .i64 fat] 50)).alloc (.cells #[.int .u8 (m.k : Int), .int .u64 (m.n0 : Int), .int .u64 (m.n1 : Int), .int .u64 (m.n2 : Int), .int .u64 (m.n3 : Int), .int .u64 (m.n4 : Int), .int .u64 (x : Int), .string m.s0, .string m.s1, .slice m.A len m.c] 29) = W := ⟨_, rfl⟩
      rw [hW]
      have hk3 : Blk W (s + 1 + 1 + 1) 29 #[.int .u8 (m.k : Int), .int .u64 (m.n0 : Int), .int .u64 (m.n1 : Int), .int .u64 (m.n2 : Int), .int .u64 (m.n3 : Int), .int .u64 (m.n4 : Int), .int .u64 (x : Int), .string m.s0, .string m.s1, .slice m.A len m.c] := by
        have h1 := Blk.new (((w.alloc (.cells #[.int .u8 (m.k : Int), .int .u64 (m.n0 : Int), .int .u64 (m.n1 : Int), .int .u64 (m.n2 : Int), .int .u64 (m.n3 : Int), .int .u64 (m.n4 : Int), .int .u64 (x : Int), .string m.s0, .string m.s1, .slice m.A len m.c] 29)).alloc (.cells #[.int .i64 num, .int .i64 3, .int .i64 5] 48)).alloc (.cells #[.int .i64 fnum, .int .u8 fw, .int .u64 (fn : Int), .slice fA xl fc, .int .i64 fat] 50)) 29 #[.int .u8 (m.k : Int), .int .u64 (m.n0 : Int), .int .u64 (m.n1 : Int), .int .u64 (m.n2 : Int), .int .u64 (m.n3 : Int), .int .u64 (m.n4 : Int), .int .u64 (x : Int), .string m.s0, .string m.s1, .slice m.A len m.c]
        rw [World.size_alloc, World.size_alloc, World.size_alloc, hws, hW] at h1; exact h1
      have hB : Below s w W := by rw [← hW, ← hws]; exact bw_a (bw_a (bw_a (bw_a (Below.refl _ w) _) _) _) _
      clear hW
      have r0 := hk3.cell 0
      have r1 := hk3.cell 1
      have r2 := hk3.cell 2
      have r3 := hk3.cell 3
      have r4 := hk3.cell 4
      have r5 := hk3.cell 5
      have r6 := hk3.cell 6
      have r7 := hk3.cell 7
      have r8 := hk3.cell 8
      have r9 := hk3.cell 9
      simp only [List.getElem?_toArray, List.getElem?_cons_zero, List.getElem?_cons_succ] at r0 r1 r2 r3 r4 r5 r6 r7 r8 r9
      refine bodyPost_ret (v := .tuple #[.agg #[.int .u8 (m.k : Int), .int .u64 (m.n0 : Int), .int .u64 (m.n1 : Int), .int .u64 (m.n2 : Int), .int .u64 (m.n3 : Int), .int .u64 (m.n4 : Int), .int .u64 (x : Int), .string m.s0, .string m.s1, .slice m.A len m.c], .int .i64 0]) (by simp [results, Try.results19, go_sem, r0, r1, r2, r3, r4, r5, r6, r7, r8, r9]) rfl ⟨?_, hB⟩
      rw [← HU.out, ← HLEN.out]
      simp [mvV, mvA, MV.setN]
  · have hxe : IntKind.u64.wrap (IntKind.u64.wrap (-((fn : Int) / 2)) - 1) = (x : Int) := by rw [← hx]; unfold numV; rw [if_neg (by decide), if_neg (by decide), if_pos rfl]; unfold zagU; rw [if_neg (by omega)]; show ((-((fn : Int) / 2)) % 18446744073709551616 - 1) % 18446744073709551616 = _; omega
    clear hx ht
    rcases hi with rfl | rfl | rfl | rfl | rfl | rfl
    · go_enter Try.func19, Try.ntmps19
      go_wp2_with fail
      try rw [hxe]
      obtain ⟨W, hW⟩ : ∃ W, (((w.alloc (.cells #[.int .u8 (m.k : Int), .int .u64 (x : Int), .int .u64 (m.n1 : Int), .int .u64 (m.n2 : Int), .int .u64 (m.n3 : Int), .int .u64 (m.n4 : Int), .int .u64 (m.n5 : Int), .string m.s0, .string m.s1, .slice m.A len m.c] 29)).alloc (.cells #[.int .i64 num, .int .i64 3, .int .i64 0] 48)).alloc (.cells #[.int .i64 fnum, .int .u8 fw, .int .u64 (fn : Int), .slice fA xl fc, .int .i64 fat] 50)).alloc (.cells #[.int .u8 (m.k : Int), .int .u64 (x : Int), .int .u64 (m.n1 : Int), .int .u64 (m.n2 : Int), .int .u64 (m.n3 : Int), .int .u64 (m.n4 : Int), .int .u64 (m.n5 : Int), .string m.s0, .string m.s1, .slice m.A len m.c] 29) = W := ⟨_, rfl⟩
      rw [hW]
      have hk3 : Blk W (s + 1 + 1 + 1) 29 #[.int .u8 (m.k : Int), .int .u64 (x : Int), .int .u64 (m.n1 : Int), .int .u64 (m.n2 : Int), .int .u64 (m.n3 : Int), .int .u64 (m.n4 : Int), .int .u64 (m.n5 : Int), .string m.s0, .string m.s1, .slice m.A len m.c] := by
        have h1 := Blk.new (((w.alloc (.cells #[.int .u8 (m.k : Int), .int .u64 (x : Int), .int .u64 (m.n1 : Int), .int .u64 (m.n2 : Int), .int .u64 (m.n3 : Int), .int .u64 (m.n4 : Int), .int .u64 (m.n5 : Int), .string m.s0, .string m.s1, .slice m.A len m.c] 29)).alloc (.cells #[.int .i64 num, .int .i64 3, .int .i64 0] 48)).alloc (.cells #[.int .i64 fnum, .int .u8 fw, .int .u64 (fn : Int), .slice fA xl fc, .int .i64 fat] 50)) 29 #[.int .u8 (m.k : Int), .int .u64 (x : Int), .int .u64 (m.n1 : Int), .int .u64 (m.n2 : Int), .int .u64 (m.n3 : Int), .int .u64 (m.n4 : Int), .int .u64 (m.n5 : Int), .string m.s0, .string m.s1, .slice m.A len m.c]
        rw [World.size_alloc, World.size_alloc, World.size_alloc, hws, hW] at h1; exact h1
      have hB : Below s w W := by rw [← hW, ← hws]; exact bw_a (bw_a (bw_a (bw_a (Below.refl _ w) _) _) _) _
      clear hW
      have r0 := hk3.cell 0
      have r1 := hk3.cell 1
      have r2 := hk3.cell 2
      have r3 := hk3.cell 3
      have r4 := hk3.cell 4
      have r5 := hk3.cell 5
      have r6 := hk3.cell 6
      have r7 := hk3.cell 7
      have r8 := hk3.cell 8
      have r9 := hk3.cell 9
      simp only [List.getElem?_toArray, List.getElem?_cons_zero, List.getElem?_cons_succ] at r0 r1 r2 r3 r4 r5 r6 r7 r8 r9
      refine bodyPost_ret (v := .tuple #[.agg #[.int .u8 (m.k : Int), .int .u64 (x : Int), .int .u64 (m.n1 : Int), .int .u64 (m.n2 : Int), .int .u64 (m.n3 : Int), .int .u64 (m.n4 : Int), .int .u64 (m.n5 : Int), .string m.s0, .string m.s1, .slice m.A len m.c], .int .i64 0]) (by simp [results, Try.results19, go_sem, r0, r1, r2, r3, r4, r5, r6, r7, r8, r9]) rfl ⟨?_, hB⟩
      rw [← HU.out, ← HLEN.out]
      simp [mvV, mvA, MV.setN]
    · go_enter Try.func19, Try.ntmps19
      go_wp2_with fail
      try rw [hxe]
      obtain ⟨W, hW⟩ : ∃ W, (((w.alloc (.cells #[.int .u8 (m.k : Int), .int .u64 (m.n0 : Int), .int .u64 (x : Int), .int .u64 (m.n2 : Int), .int .u64 (m.n3 : Int), .int .u64 (m.n4 : Int), .int .u64 (m.n5 : Int), .string m.s0, .string m.s1, .slice m.A len m.c] 29)).alloc (.cells #[.int .i64 num, .int .i64 3, .int .i64 1] 48)).alloc (.cells #[.int .i64 fnum, .int .u8 fw, .int .u64 (fn : Int), .slice fA xl fc, .int .i64 fat] 50)).alloc (.cells #[.int .u8 (m.k : Int), .int .u64 (m.n0 : Int), .int .u64 (x : Int), .int .u64 (m.n2 : Int), .int .u64 (m.n3 : Int), .int .u64 (m.n4 : Int), .int .u64 (m.n5 : Int), .string m.s0, .string m.s1, .slice m.A len m.c] 29) = W := ⟨_, rfl⟩
      rw [hW]
      have hk3 : Blk W (s + 1 + 1 + 1) 29 #[.int .u8 (m.k : Int), .int .u64 (m.n0 : Int), .int .u64 (x : Int), .int .u64 (m.n2 : Int), .int .u64 (m.n3 : Int), .int .u64 (m.n4 : Int), .int .u64 (m.n5 : Int), .string m.s0, .string m.s1, .slice m.A len m.c] := by
        have h1 := Blk.new (((w.alloc (.cells #[.int .u8 (m.k : Int), .int .u64 (m.n0 : Int), .int .u64 (x : Int), .int .u64 (m.n2 : Int), .int .u64 (m.n3 : Int), .int .u64 (m.n4 : Int), .int .u64 (m.n5 : Int), .string m.s0, .string m.s1, .slice m.A len m.c] 29)).alloc (.cells #[.int .i64 num, .int .i64 3, .int .i64 1] 48)).alloc (.cells #[.int .i64 fnum, .int .u8 fw, .int .u64 (fn : Int), .slice fA xl fc, .int .i64 fat] 50)) 29 #[.int .u8 (m.k : Int), .int .u64 (m.n0 : Int), .int .u64 (x : Int), .int .u64 (m.n2 : Int), .int .u64 (m.n3 : Int), .int .u64 (m.n4 : Int), .int .u64 (m.n5 : Int), .string m.s0, .string m.s1, .slice m.A len m.c]
        rw [World.size_alloc, World.size_alloc, World.size_alloc, hws, hW] at h1; exact h1
      have hB : Below s w W := by rw [← hW, ← hws]; exact bw_a (bw_a (bw_a (bw_a (Below.refl _ w) _) _) _) _
      clear hW
      have r0 := hk3.cell 0
      have r1 := hk3.cell 1
      have r2 := hk3.cell 2
      have r3 := hk3.cell 3
      have r4 := hk3.cell 4
      have r5 := hk3.cell 5
      have r6 := hk3.cell 6
      have r7 := hk3.cell 7
      have r8 := hk3.cell 8
      have r9 := hk3.cell 9
      simp only [List.getElem?_toArray, List.getElem?_cons_zero, List.getElem?_cons_succ] at r0 r1 r2 r3 r4 r5 r6 r7 r8 r9
      refine bodyPost_ret (v := .tuple #[.agg #[.int .u8 (m.k : Int), .int .u64 (m.n0 : Int), .int .u64 (x : Int), .int .u64 (m.n2 : Int), .int .u64 (m.n3 : Int), .int .u64 (m.n4 : Int), .int .u64 (m.n5 : Int), .string m.s0, .string m.s1, .slice m.A len m.c], .int .i64 0]) (by simp [results, Try.results19, go_sem, r0, r1, r2, r3, r4, r5, r6, r7, r8, r9]) rfl ⟨?_, hB⟩
      rw [← HU.out, ← HLEN.out]
      simp [mvV, mvA, MV.setN]
    · go_enter Try.func19, Try.ntmps19
      go_wp2_with fail
      try rw [hxe]
      obtain ⟨W, hW⟩ : ∃ W, (((w.alloc (.cells #[.int .u8 (m.k : Int), .int .u64 (m.n0 : Int), .int .u64 (m.n1 : Int), .int .u64 (x : Int), .int .u64 (m.n3 : Int), .int .u64 (m.n4 : Int), .int .u64 (m.n5 : Int), .string m.s0, .string m.s1, .slice m.A len m.c] 29)).alloc (.cells #[.int .i64 num, .int .i64 3, .int .i64 2] 48)).alloc (.cells #[.int .i64 fnum, .int .u8 fw, .int .u64 (fn : Int), .slice fA xl fc, .int .i64 fat] 50)).alloc (.cells #[.int .u8 (m.k : Int), .int .u64 (m.n0 : Int), .int .u64 (m.n1 : Int), .int .u64 (x : Int), .int .u64 (m.n3 : Int), .int .u64 (m.n4 : Int), .int .u64 (m.n5 : Int), .string m.s0, .string m.s1, .slice m.A len m.c] 29) = W := ⟨_, rfl⟩
      rw [hW]
      have hk3 : Blk W (s + 1 + 1 + 1) 29 #[.int .u8 (m.k : Int), .int .u64 (m.n0 : Int), .int .u64 (m.n1 : Int), .int .u64 (x : Int), .int .u64 (m.n3 : Int), .int .u64 (m.n4 : Int), .int .u64 (m.n5 : Int), .string m.s0, .string m.s1, .slice m.A len m.c] := by
        have h1 := Blk.new (((w.alloc (.cells #[.int .u8 (m.k : Int), .int .u64 (m.n0 : Int), .int .u64 (m.n1 : Int), .int .u64 (x : Int), .int .u64 (m.n3 : Int), .int .u64 (m.n4 : Int), .int .u64 (m.n5 : Int), .string m.s0, .string m.s1, .slice m.A len m.c] 29)).alloc (.cells #[.int .i64 num, .int .i64 3, .int .i64 2] 48)).alloc (.cells #[.int .i64 fnum, .int .u8 fw, .int .u64 (fn : Int), .slice fA xl fc, .int .i64 fat] 50)) 29 #[.int .u8 (m.k : Int), .int .u64 (m.n0 : Int), .int .u64 (m.n1 : Int), .int .u64 (x : Int), .int .u64 (m.n3 : Int), .int .u64 (m.n4 : Int), .int .u64 (m.n5 : Int), .string m.s0, .string m.s1, .slice m.A len m.c]
        rw [World.size_alloc, World.size_alloc, World.size_alloc, hws, hW] at h1; exact h1
      have hB : Below s w W := by rw [← hW, ← hws]; exact bw_a (bw_a (bw_a (bw_a (Below.refl _ w) _) _) _) _
      clear hW
      have r0 := hk3.cell 0
      have r1 := hk3.cell 1
      have r2 := hk3.cell 2
      have r3 := hk3.cell 3
      have r4 := hk3.cell 4
      have r5 := hk3.cell 5
      have r6 := hk3.cell 6
      have r7 := hk3.cell 7
      have r8 := hk3.cell 8
      have r9 := hk3.cell 9
      simp only [List.getElem?_toArray, List.getElem?_cons_zero, List.getElem?_cons_succ] at r0 r1 r2 r3 r4 r5 r6 r7 r8 r9
      refine bodyPost_ret (v := .tuple #[.agg #[.int .u8 (m.k : Int), .int .u64 (m.n0 : Int), .int .u64 (m.n1 : Int), .int .u64 (x : Int), .int .u64 (m.n3 : Int), .int .u64 (m.n4 : Int), .int .u64 (m.n5 : Int), .string m.s0, .string m.s1, .slice m.A len m.c], .int .i64 0]) (by simp [results, Try.results19, go_sem, r0, r1, r2, r3, r4, r5, r6, r7, r8, r9]) rfl ⟨?_, hB⟩
      rw [← HU.out, ← HLEN.out]
      simp [mvV, mvA, MV.setN]
    · go_enter Try.func19, Try.ntmps19
      go_wp2_with fail
      try rw [hxe]
      obtain ⟨W, hW⟩ : ∃ W, (((w.alloc (.cells #[.int .u8 (m.k : Int), .int .u64 (m.n0 : Int), .int .u64 (m.n1 : Int), .int .u64 (m.n2 : Int), .int .u64 (x : Int), .int .u64 (m.n4 : Int), .int .u64 (m.n5 : Int), .string m.s0, .string m.s1, .slice m.A len m.c] 29)).alloc (.cells #[.int .i64 num, .int .i64 3, .int .i64 3] 48)).alloc (.cells #[.int .i64 fnum, .int .u8 fw, .int .u64 (fn : Int), .slice fA xl fc, .int .i64 fat] 50)).alloc (.cells #[.int .u8 (m.k : Int), .int .u64 (m.n0 : Int), .int .u64 (m.n1 : Int), .int .u64 (m.n2 : Int), .int .u64 (x : Int), .int .u64 (m.n4 : Int), .int .u64 (m.n5 : Int), .string m.s0, .string m.s1, .slice m.A len m.c] 29) = W := ⟨_, rfl⟩
      rw [hW]
      have hk3 : Blk W (s + 1 + 1 + 1) 29 #[.int .u8 (m.k : Int), .int .u64 (m.n0 : Int), .int .u64 (m.n1 : Int), .int .u64 (m.n2 : Int), .int .u64 (x : Int), .int .u64 (m.n4 : Int), .int .u64 (m.n5 : Int), .string m.s0, .string m.s1, .slice m.A len m.c] := by
        have h1 := Blk.new (((w.alloc (.cells #[.int .u8 (m.k : Int), .int .u64 (m.n0 : Int), .int .u64 (m.n1 : Int), .int .u64 (m.n2 : Int), .int .u64 (x : Int), .int .u64 (m.n4 : Int), .int .u64 (m.n5 : Int), .string m.s0, .string m.s1, .slice m.A len m.c] 29)).alloc (.cells #[.int .i64 num, .int .i64 3, .int .i64 3] 48)).alloc (.cells #[.int .i64 fnum, .int .u8 fw, .int .u64 (fn : Int), .slice fA xl fc, .int .i64 fat] 50)) 29 #[.int .u8 (m.k : Int), .int .u64 (m.n0 : Int), .int .u64 (m.n1 : Int), .int .u64 (m.n2 : Int), .int .u64 (x : Int), .int .u64 (m.n4 : Int), .int .u64 (m.n5 : Int), .string m.s0, .string m.s1, .slice m.A len m.c]
        rw [World.size_alloc, World.size_alloc, World.size_alloc, hws, hW] at h1; exact h1
      have hB : Below s w W := by rw [← hW, ← hws]; exact bw_a (bw_a (bw_a (bw_a (Below.refl _ w) _) _) _) _
      clear hW
      have r0 := hk3.cell 0
      have r1 := hk3.cell 1
      have r2 := hk3.cell 2
      have r3 := hk3.cell 3
      have r4 := hk3.cell 4
      have r5 := hk3.cell 5
      have r6 := hk3.cell 6
      have r7 := hk3.cell 7
      have r8 := hk3.cell 8
      have r9 := hk3.cell 9
      simp only [List.getElem?_toArray, List.getElem?_cons_zero, List.getElem?_cons_succ] at r0 r1 r2 r3 r4 r5 r6 r7 r8 r9
      refine bodyPost_ret (v := .tuple #[.agg #[.int .u8 (m.k : Int), .int .u64 (m.n0 : Int), .int .u64 (m.n1 : Int), .int .u64 (m.n2 : Int), .int .u64 (x : Int), .int .u64 (m.n4 : Int), .int .u64 (m.n5 : Int), .string m.s0, .string m.s1, .slice m.A len m.c], .int .i64 0]) (by simp [results, Try.results19, go_sem, r0, r1, r2, r3, r4, r5, r6, r7, r8, r9]) rfl ⟨?_, hB⟩
      rw [← HU.out, ← HLEN.out]
      simp [mvV, mvA, MV.setN]
    · go_enter Try.func19, Try.ntmps19
      go_wp2_with fail
      try rw [hxe]
      obtain ⟨W, hW⟩ : ∃ W, (((w.alloc (.cells #[.int .u8 (m.k : Int), .int .u64 (m.n0 : Int), .int .u64 (m.n1 : Int), .int .u64 (m.n2 : Int), .int .u64 (m.n3 : Int), .int .u64 (x : Int), .int .u64 (m.n5 : Int), .string m.s0, .string m.s1, .slice m.A len m.c] 29)).alloc (.cells #[.int .i64 num, .int .i64 3, .int .i64 4] 48)).alloc (.cells #[.int .i64 fnum, .int .u8 fw, .int .u64 (fn : Int), .slice fA xl fc, .int .i64 fat] 50)).alloc (.cells #[.int .u8 (m.k : Int), .int .u64 (m.n0 : Int), .int .u64 (m.n1 : Int), .int .u64 (m.n2 : Int), .int .u64 (m.n3 : Int), .int .u64 (x : Int), .int .u64 (m.n5 : Int), .string m.s0, .string m.s1, .slice m.A len m.c] 29) = W := ⟨_, rfl⟩
      rw [hW]
      have hk3 : Blk W (s + 1 + 1 + 1) 29 #[.int .u8 (m.k : Int), .int .u64 (m.n0 : Int), .int .u64 (m.n1 : Int), .int .u64 (m.n2 : Int), .int .u64 (m.n3 : Int), .int .u64 (x : Int), .int .u64 (m.n5 : Int), .string m.s0, .string m.s1, .slice m.A len m.c] := by
        have h1 := Blk.new (((w.alloc (.cells #[.int .u8 (m.k : Int), .int .u64 (m.n0 : Int), .int .u64 (m.n1 : Int), .int .u64 (m.n2 : Int), .int .u64 (m.n3 : Int), .int .u64 (x : Int), .int .u64 (m.n5 : Int), .string m.s0, .string m.s1, .slice m.A len m.c] 29)).alloc (.cells #[.int .i64 num, .int .i64 3, .int .i64 4] 48)).alloc (.cells #[.int .i64 fnum, .int .u8 fw, .int .u64 (fn : Int), .slice fA xl fc, .int .i64 fat] 50)) 29 #[.int .u8 (m.k : Int), .int .u64 (m.n0 : Int), .int .u64 (m.n1 : Int), .int .u64 (m.n2 : Int), .int .u64 (m.n3 : Int), .int .u64 (x : Int), .int .u64 (m.n5 : Int), .string m.s0, .string m.s1, .slice m.A len m.c]
        rw [World.size_alloc, World.size_alloc, World.size_alloc, hws, hW] at h1; exact h1
      have hB : Below s w W := by rw [← hW, ← hws]; exact bw_a (bw_a (bw_a (bw_a (Below.refl _ w) _) _) _) _
      clear hW
      have r0 := hk3.cell 0
      have r1 := hk3.cell 1
      have r2 := hk3.cell 2
      have r3 := hk3.cell 3
      have r4 := hk3.cell 4
      have r5 := hk3.cell 5
      have r6 := hk3.cell 6
      have r7 := hk3.cell 7
      have r8 := hk3.cell 8
      have r9 := hk3.cell 9
      simp only [List.getElem?_toArray, List.getElem?_cons_zero, List.getElem?_cons_succ] at r0 r1 r2 r3 r4 r5 r6 r7 r8 r9
      refine bodyPost_ret (v := .tuple #[.agg #[.int .u8 (m.k : Int), .int .u64 (m.n0 : Int), .int .u64 (m.n1 : Int), .int .u64 (m.n2 : Int), .int .u64 (m.n3 : Int), .int .u64 (x : Int), .int .u64 (m.n5 : Int), .string m.s0, .string m.s1, .slice m.A len m.c], .int .i64 0]) (by simp [results, Try.results19, go_sem, r0, r1, r2, r3, r4, r5, r6, r7, r8, r9]) rfl ⟨?_, hB⟩
      rw [← HU.out, ← HLEN.out]
      simp [mvV, mvA, MV.setN]
    · go_enter Try.func19, Try.ntmps19
      go_wp2_with fail
      try rw [hxe]
      obtain ⟨W, hW⟩ : ∃ W, (((w.alloc (.cells #[.int .u8 (m.k : Int), .int .u64 (m.n0 : Int), .int .u64 (m.n1 : Int), .int .u64 (m.n2 : Int), .int .u64 (m.n3 : Int), .int .u64 (m.n4 : Int), .int .u64 (x : Int), .string m.s0, .string m.s1, .slice m.A len m.c] 29)).alloc (.cells #[.int .i64 num, .int .i64 3, .int .i64 5] 48)).alloc (.cells #[.int .i64 fnum, .int .u8 fw, .int .u64 (fn : Int), .slice fA xl fc, .int .i64 fat] 50)).alloc (.cells #[.int .u8 (m.k : Int), .int .u64 (m.n0 : Int), .int .u64 (m.n1 : Int), .int .u64 (m.n2 : Int), .int .u64 (m.n3 : Int), .int .u64 (m.n4 : Int), .int .u64 (x : Int), .string m.s0, .string m.s1, .slice m.A len m.c] 29) = W := ⟨_, rfl⟩
      rw [hW]
      have hk3 : Blk W (s + 1 + 1 + 1) 29 #[.int .u8 (m.k : Int), .int .u64 (m.n0 : Int), .int .u64 (m.n1 : Int), .int .u64 (m.n2 : Int), .int .u64 (m.n3 : Int), .int .u64 (m.n4 : Int), .int .u64 (x : Int), .string m.s0, .string m.s1, .slice m.A len m.c] := by
        have h1 := Blk.new (((w.alloc (.cells #[.int .u8 (m.k : Int), .int .u64 (m.n0 : Int), .int .u64 (m.n1 : Int), .int .u64 (m.n2 : Int), .int .u64 (m.n3 : Int), .int .u64 (m.n4 : Int), .int .u64 (x : Int), .string m.s0, .string m.s1, .slice m.A len m.c] 29)).alloc (.cells #[.int .i64 num, .int .i64 3, .int .i64 5] 48)).alloc (.cells #[.int .i64 fnum, .int .u8 fw, .int .u64 (fn : Int), .slice fA xl fc, .int .i64 fat] 50)) 29 #[.int .u8 (m.k : Int), .int .u64 (m.n0 : Int), .int .u64 (m.n1 : Int), .int .u64 (m.n2 : Int), .int .u64 (m.n3 : Int), .int .u64 (m.n4 : Int), .int .u64 (x : Int), .string m.s0, .string m.s1, .slice m.A len m.c]
        rw [World.size_alloc, World.size_alloc, World.size_alloc, hws, hW] at h1; exact h1
      have hB : Below s w W := by rw [← hW, ← hws]; exact bw_a (bw_a (bw_a (bw_a (Below.refl _ w) _) _) _) _
      clear hW
      have r0 := hk3.cell 0
      have r1 := hk3.cell 1
      have r2 := hk3.cell 2
      have r3 := hk3.cell 3
      have r4 := hk3.cell 4
      have r5 := hk3.cell 5
      have r6 := hk3.cell 6
      have r7 := hk3.cell 7
      have r8 := hk3.cell 8
      have r9 := hk3.cell 9
      simp only [List.getElem?_toArray, List.getElem?_cons_zero, List.getElem?_cons_succ] at r0 r1 r2 r3 r4 r5 r6 r7 r8 r9
      refine bodyPost_ret (v := .tuple #[.agg #[.int .u8 (m.k : Int), .int .u64 (m.n0 : Int), .int .u64 (m.n1 : Int), .int .u64 (m.n2 : Int), .int .u64 (m.n3 : Int), .int .u64 (m.n4 : Int), .int .u64 (x : Int), .string m.s0, .string m.s1, .slice m.A len m.c], .int .i64 0]) (by simp [results, Try.results19, go_sem, r0, r1, r2, r3, r4, r5, r6, r7, r8, r9]) rfl ⟨?_, hB⟩
      rw [← HU.out, ← HLEN.out]
      simp [mvV, mvA, MV.setN]
  · have hxe : x = 0 := by rw [← hx]; unfold numV; rw [if_neg (by decide), if_pos rfl, if_pos hm]
    subst hxe
    have hm2 : ¬ (0 : Int) < (fn : Int) := by omega
    clear hx ht hm
    rcases hi with rfl | rfl | rfl | rfl | rfl | rfl
    · go_enter Try.func19, Try.ntmps19
      go_wp2_with fail
      obtain ⟨W, hW⟩ : ∃ W, (((w.alloc (.cells #[.int .u8 (m.k : Int), .int .u64 0, .int .u64 (m.n1 : Int), .int .u64 (m.n2 : Int), .int .u64 (m.n3 : Int), .int .u64 (m.n4 : Int), .int .u64 (m.n5 : Int), .string m.s0, .string m.s1, .slice m.A len m.c] 29)).alloc (.cells #[.int .i64 num, .int .i64 4, .int .i64 0] 48)).alloc (.cells #[.int .i64 fnum, .int .u8 fw, .int .u64 (fn : Int), .slice fA xl fc, .int .i64 fat] 50)).alloc (.cells #[.int .u8 (m.k : Int), .int .u64 0, .int .u64 (m.n1 : Int), .int .u64 (m.n2 : Int), .int .u64 (m.n3 : Int), .int .u64 (m.n4 : Int), .int .u64 (m.n5 : Int), .string m.s0, .string m.s1, .slice m.A len m.c] 29) = W := ⟨_, rfl⟩
      rw [hW]
      have hk3 : Blk W (s + 1 + 1 + 1) 29 #[.int .u8 (m.k : Int), .int .u64 0, .int .u64 (m.n1 : Int), .int .u64 (m.n2 : Int), .int .u64 (m.n3 : Int), .int .u64 (m.n4 : Int), .int .u64 (m.n5 : Int), .string m.s0, .string m.s1, .slice m.A len m.c] := by
        have h1 := Blk.new (((w.alloc (.cells #[.int .u8 (m.k : Int), .int .u64 0, .int .u64 (m.n1 : Int), .int .u64 (m.n2 : Int), .int .u64 (m.n3 : Int), .int .u64 (m.n4 : Int), .int .u64 (m.n5 : Int), .string m.s0, .string m.s1, .slice m.A len m.c] 29)).alloc (.cells #[.int .i64 num, .int .i64 4, .int .i64 0] 48)).alloc (.cells #[.int .i64 fnum, .int .u8 fw, .int .u64 (fn : Int), .slice fA xl fc, .int .i64 fat] 50)) 29 #[.int .u8 (m.k : Int), .int .u64 0, .int .u64 (m.n1 : Int), .int .u64 (m.n2 : Int), .int .u64 (m.n3 : Int), .int .u64 (m.n4 : Int), .int .u64 (m.n5 : Int), .string m.s0, .string m.s1, .slice m.A len m.c]
        rw [World.size_alloc, World.size_alloc, World.size_alloc, hws, hW] at h1; exact h1
      have hB : Below s w W := by rw [← hW, ← hws]; exact bw_a (bw_a (bw_a (bw_a (Below.refl _ w) _) _) _) _
      clear hW
      have r0 := hk3.cell 0
      have r1 := hk3.cell 1
      have r2 := hk3.cell 2
      have r3 := hk3.cell 3
      have r4 := hk3.cell 4
      have r5 := hk3.cell 5
      have r6 := hk3.cell 6
      have r7 := hk3.cell 7
      have r8 := hk3.cell 8
      have r9 := hk3.cell 9
      simp only [List.getElem?_toArray, List.getElem?_cons_zero, List.getElem?_cons_succ] at r0 r1 r2 r3 r4 r5 r6 r7 r8 r9
      refine bodyPost_ret (v := .tuple #[.agg #[.int .u8 (m.k : Int), .int .u64 0, .int .u64 (m.n1 : Int), .int .u64 (m.n2 : Int), .int .u64 (m.n3 : Int), .int .u64 (m.n4 : Int), .int .u64 (m.n5 : Int), .string m.s0, .string m.s1, .slice m.A len m.c], .int .i64 0]) (by simp [results, Try.results19, go_sem, r0, r1, r2, r3, r4, r5, r6, r7, r8, r9]) rfl ⟨?_, hB⟩
      rw [← HU.out, ← HLEN.out]
      simp [mvV, mvA, MV.setN]
    · go_enter Try.func19, Try.ntmps19
      go_wp2_with fail
      obtain ⟨W, hW⟩ : ∃ W, (((w.alloc (.cells #[.int .u8 (m.k : Int), .int .u64 (m.n0 : Int), .int .u64 0, .int .u64 (m.n2 : Int), .int .u64 (m.n3 : Int), .int .u64 (m.n4 : Int), .int .u64 (m.n5 : Int), .string m.s0, .string m.s1, .slice m.A len m.c] 29)).alloc (.cells #[.int .i64 num, .int .i64 4, .int .i64 1] 48)).alloc (.cells #[.int .i64 fnum, .int .u8 fw, .int .u64 (fn : Int), .slice fA xl fc, .int .i64 fat] 50)).alloc (.cells #[.int .u8 (m.k : Int), .int .u64 (m.n0 : Int), .int .u64 0, .int .u64 (m.n2 : Int), .int .u64 (m.n3 : Int), .int .u64 (m.n4 : Int), .int .u64 (m.n5 : Int), .string m.s0, .string m.s1, .slice m.A len m.c] 29) = W := ⟨_, rfl⟩
      rw [hW]
      have hk3 : Blk W (s + 1 + 1 + 1) 29 #[.int .u8 (m.k : Int), .int .u64 (m.n0 : Int), .int .u64 0, .int .u64 (m.n2 : Int), .int .u64 (m.n3 : Int), .int .u64 (m.n4 : Int), .int .u64 (m.n5 : Int), .string m.s0, .string m.s1, .slice m.A len m.c] := by
        have h1 := Blk.new (((w.alloc (.cells #[.int .u8 (m.k : Int), .int .u64 (m.n0 : Int), .int .u64 0, .int .u64 (m.n2 : Int), .int .u64 (m.n3 : Int), .int .u64 (m.n4 : Int), .int .u64 (m.n5 : Int), .string m.s0, .string m.s1, .slice m.A len m.c] 29)).alloc (.cells #[.int .i64 num, .int .i64 4, .int .i64 1] 48)).alloc (.cells #[.int .i64 fnum, .int .u8 fw, .int .u64 (fn : Int), .slice fA xl fc, .int .i64 fat] 50)) 29 #[.int .u8 (m.k : Int), .int .u64 (m.n0 : Int), .int .u64 0, .int .u64 (m.n2 : Int), .int .u64 (m.n3 : Int), .int .u64 (m.n4 : Int), .int .u64 (m.n5 : Int), .string m.s0, .string m.s1, .slice m.A len m.c]
        rw [World.size_alloc, World.size_alloc, World.size_alloc, hws, hW] at h1; exact h1
      have hB : Below s w W := by rw [← hW, ← hws]; exact bw_a (bw_a (bw_a (bw_a (Below.refl _ w) _) _) _) _
      clear hW
      have r0 := hk3.cell 0
      have r1 := hk3.cell 1
      have r2 := hk3.cell 2
      have r3 := hk3.cell 3
      have r4 := hk3.cell 4
      have r5 := hk3.cell 5
      have r6 := hk3.cell 6
      have r7 := hk3.cell 7
      have r8 := hk3.cell 8
      have r9 := hk3.cell 9
      simp only [List.getElem?_toArray, List.getElem?_cons_zero, List.getElem?_cons_succ] at r0 r1 r2 r3 r4 r5 r6 r7 r8 r9
      refine bodyPost_ret (v := .tuple #[.agg #[.int .u8 (m.k : Int), .int .u64 (m.n0 : Int), .int .u64 0, .int .u64 (m.n2 : Int), .int .u64 (m.n3 : Int), .int .u64 (m.n4 : Int), .int .u64 (m.n5 : Int), .string m.s0, .string m.s1, .slice m.A len m.c], .int .i64 0]) (by simp [results, Try.results19, go_sem, r0, r1, r2, r3, r4, r5, r6, r7, r8, r9]) rfl ⟨?_, hB⟩
      rw [← HU.out, ← HLEN.out]
      simp [mvV, mvA, MV.setN]
    · go_enter Try.func19, Try.ntmps19
      go_wp2_with fail
      obtain ⟨W, hW⟩ : ∃ W, (((w.alloc (.cells #[.int .u8 (m.k : Int), .int .u64 (m.n0 : Int), .int .u64 (m.n1 : Int), .int .u64 0, .int .u64 (m.n3 : Int), .int .u64 (m.n4 : Int), .int .u64 (m.n5 : Int), .string m.s0, .string m.s1, .slice m.A len m.c] 29)).alloc (.cells #[.int .i64 num, .int .i64 4, .int .i64 2] 48)).alloc (.cells #[.int .i64 fnum, .int .u8 fw, .int .u64 (fn : Int), .slice fA xl fc, .int .i64 fat] 50)).alloc (.cells #[.int .u8 (m.k : Int), .int .u64 (m.n0 : Int), .int .u64 (m.n1 : Int), .int .u64 0, .int .u64 (m.n3 : Int), .int .u64 (m.n4 : Int), .int .u64 (m.n5 : Int), .string m.s0, .string m.s1, .slice m.A len m.c] 29) = W := ⟨_, rfl⟩
      rw [hW]
      have hk3 : Blk W (s + 1 + 1 + 1) 29 #[.int .u8 (m.k : Int), .int .u64 (m.n0 : Int), .int .u64 (m.n1 : Int), .int .u64 0, .int .u64 (m.n3 : Int), .int .u64 (m.n4 : Int), .int .u64 (m.n5 : Int), .string m.s0, .string m.s1, .slice m.A len m.c] := by
        have h1 := Blk.new (((w.alloc (.cells #[.int .u8 (m.k : Int), .int .u64 (m.n0 : Int), .int .u64 (m.n1 : Int), .int .u64 0, .int .u64 (m.n3 : Int), .int .u64 (m.n4 : Int), .int .u64 (m.n5 : Int), .string m.s0, .string m.s1, .slice m.A len m.c] 29)).alloc (.cells #[.int .i64 num, .int .i64 4, .int .i64 2] 48)).alloc (.cells #[.int .i64 fnum, .int .u8 fw, .int .u64 (fn : Int), .slice fA xl fc, .int .i64 fat] 50)) 29 #[.int .u8 (m.k : Int), .int .u64 (m.n0 : Int), .int .u64 (m.n1 : Int), .int .u64 0, .int .u64 (m.n3 : Int), .int .u64 (m.n4 : Int), .int .u64 (m.n5 : Int), .string m.s0, .string m.s1, .slice m.A len m.c]
        rw [World.size_alloc, World.size_alloc, World.size_alloc, hws, hW] at h1; exact h1
      have hB : Below s w W := by rw [← hW, ← hws]; exact bw_a (bw_a (bw_a (bw_a (Below.refl _ w) _) _) _) _
      clear hW
      have r0 := hk3.cell 0
      have r1 := hk3.cell 1
      have r2 := hk3.cell 2
      have r3 := hk3.cell 3
      have r4 := hk3.cell 4
      have r5 := hk3.cell 5
      have r6 := hk3.cell 6
      have r7 := hk3.cell 7
      have r8 := hk3.cell 8
      have r9 := hk3.cell 9
      simp only [List.getElem?_toArray, List.getElem?_cons_zero, List.getElem?_cons_succ] at r0 r1 r2 r3 r4 r5 r6 r7 r8 r9
      refine bodyPost_ret (v := .tuple #[.agg #[.int .u8 (m.k : Int), .int .u64 (m.n0 : Int), .int .u64 (m.n1 : Int), .int .u64 0, .int .u64 (m.n3 : Int), .int .u64 (m.n4 : Int), .int .u64 (m.n5 : Int), .string m.s0, .string m.s1, .slice m.A len m.c], .int .i64 0]) (by simp [results, Try.results19, go_sem, r0, r1, r2, r3, r4, r5, r6, r7, r8, r9]) rfl ⟨?_, hB⟩
      rw [← HU.out, ← HLEN.out]
      simp [mvV, mvA, MV.setN]
    · go_enter Try.func19, Try.ntmps19
      go_wp2_with fail
      obtain ⟨W, hW⟩ : ∃ W, (((w.alloc (.cells #[.int .u8 (m.k : Int), .int .u64 (m.n0 : Int), .int .u64 (m.n1 : Int), .int .u64 (m.n2 : Int), .int .u64 0, .int .u64 (m.n4 : Int), .int .u64 (m.n5 : Int), .string m.s0, .string m.s1, .slice m.A len m.c] 29)).alloc (.cells #[.int .i64 num, .int .i64 4, .int .i64 3] 48)).alloc (.cells #[.int .i64 fnum, .int .u8 fw, .int .u64 (fn : Int), .slice fA xl fc, .int .i64 fat] 50)).alloc (.cells #[.int .u8 (m.k : Int), .int .u64 (m.n0 : Int), .int .u64 (m.n1 : Int), .int .u64 (m.n2 : Int), .int .u64 0, .int .u64 (m.n4 : Int), .int .u64 (m.n5 : Int), .string m.s0, .string m.s1, .slice m.A len m.c] 29) = W := ⟨_, rfl⟩
      rw [hW]
      have hk3 : Blk W (s + 1 + 1 + 1) 29 #[.int .u8 (m.k : Int), .int .u64 (m.n0 : Int), .int .u64 (m.n1 : Int), .int .u64 (m.n2 : Int), .int .u64 0, .int .u64 (m.n4 : Int), .int .u64 (m.n5 : Int), .string m.s0, .string m.s1, .slice m.A len m.c] := by
        have h1 := Blk.new (((w.alloc (.cells #[.int .u8 (m.k : Int), .int .u64 (m.n0 : Int), .int .u64 (m.n1 : Int), .int .u64 (m.n2 : Int), .int .u64 0, .int .u64 (m.n4 : Int), .int .u64 (m.n5 : Int), .string m.s0, .string m.s1, .slice m.A len m.c] 29)).alloc (.cells #[.int .i64 num, .int .i64 4, .int .i64 3] 48)).alloc (.cells #[.int .i64 fnum, .int .u8 fw, .int .u64 (fn : Int), .slice fA xl fc, .int .i64 fat] 50)) 29 #[.int .u8 (m.k : Int), .int .u64 (m.n0 : Int), .int .u64 (m.n1 : Int), .int .u64 (m.n2 : Int), .int .u64 0, .int .u64 (m.n4 : Int), .int .u64 (m.n5 : Int), .string m.s0, .string m.s1, .slice m.A len m.c]
        rw [World.size_alloc, World.size_alloc, World.size_alloc, hws, hW] at h1; exact h1
      have hB : Below s w W := by rw [← hW, ← hws]; exact bw_a (bw_a (bw_a (bw_a (Below.refl _ w) _) _) _) _
      clear hW
      have r0 := hk3.cell 0
      have r1 := hk3.cell 1
      have r2 := hk3.cell 2
      have r3 := hk3.cell 3
      have r4 := hk3.cell 4
      have r5 := hk3.cell 5
      have r6 := hk3.cell 6
      have r7 := hk3.cell 7
      have r8 := hk3.cell 8
      have r9 := hk3.cell 9
      simp only [List.getElem?_toArray, List.getElem?_cons_zero, List.getElem?_cons_succ] at r0 r1 r2 r3 r4 r5 r6 r7 r8 r9
      refine bodyPost_ret (v := .tuple #[.agg #[.int .u8 (m.k : Int), .int .u64 (m.n0 : Int), .int .u64 (m.n1 : Int), .int .u64 (m.n2 : Int), .int .u64 0, .int .u64 (m.n4 : Int), .int .u64 (m.n5 : Int), .string m.s0, .string m.s1, .slice m.A len m.c], .int .i64 0]) (by simp [results, Try.results19, go_sem, r0, r1, r2, r3, r4, r5, r6, r7, r8, r9]) rfl ⟨?_, hB⟩
      rw [← HU.out, ← HLEN.out]
      simp [mvV, mvA, MV.setN]
    · go_enter Try.func19, Try.ntmps19
      go_wp2_with fail
      obtain ⟨W, hW⟩ : ∃ W, (((w.alloc (.cells #[.int .u8 (m.k : Int), .int .u64 (m.n0 : Int), .int .u64 (m.n1 : Int), .int .u64 (m.n2 : Int), .int .u64 (m.n3 : Int), .int .u64 0, .int .u64 (m.n5 : Int), .string m.s0, .string m.s1, .slice m.A len m.c] 29)).alloc (.cells #[.int .i64 num, .int .i64 4, .int .i64 4] 48)).alloc (.cells #[.int .i64 fnum, .int .u8 fw, .int .u64 (fn : Int), .slice fA xl fc, .int .i64 fat] 50)).alloc (.cells #[.int .u8 (m.k : Int), .int .u64 (m.n0 : Int), .int .u64 (m.n1 : Int), .int .u64 (m.n2 : Int), .int .u64 (m.n3 : Int), .int .u64 0, .int .u64 (m.n5 : Int), .string m.s0, .string m.s1, .slice m.A len m.c] 29) = W := ⟨_, rfl⟩
      rw [hW]
      have hk3 : Blk W (s + 1 + 1 + 1) 29 #[.int .u8 (m.k : Int), .int .u64 (m.n0 : Int), .int .u64 (m.n1 : Int), .int .u64 (m.n2 : Int), .int .u64 (m.n3 : Int), .int .u64 0, .int .u64 (m.n5 : Int), .string m.s0, .string m.s1, .slice m.A len m.c] := by
        have h1 := Blk.new (((w.alloc (.cells #[.int .u8 (m.k : Int), .int .u64 (m.n0 : Int), .int .u64 (m.n1 : Int), .int .u64 (m.n2 : Int), .int .u64 (m.n3 : Int), .int .u64 0, .int .u64 (m.n5 : Int), .string m.s0, .string m.s1, .slice m.A len m.c] 29)).alloc (.cells #[.int .i64 num, .int .i64 4, .int .i64 4] 48)).alloc (.cells #[.int .i64 fnum, .int .u8 fw, .int .u64 (fn : Int), .slice fA xl fc, .int .i64 fat] 50)) 29 #[.int .u8 (m.k : Int), .int .u64 (m.n0 : Int), .int .u64 (m.n1 : Int), .int .u64 (m.n2 : Int), .int .u64 (m.n3 : Int), .int .u64 0, .int .u64 (m.n5 : Int), .string m.s0, .string m.s1, .slice m.A len m.c]
        rw [World.size_alloc, World.size_alloc, World.size_alloc, hws, hW] at h1; exact h1
      have hB : Below s w W := by rw [← hW, ← hws]; exact bw_a (bw_a (bw_a (bw_a (Below.refl _ w) _) _) _) _
      clear hW
      have r0 := hk3.cell 0
      have r1 := hk3.cell 1
      have r2 := hk3.cell 2
      have r3 := hk3.cell 3
      have r4 := hk3.cell 4
      have r5 := hk3.cell 5
      have r6 := hk3.cell 6
      have r7 := hk3.cell 7
      have r8 := hk3.cell 8
      have r9 := hk3.cell 9
      simp only [List.getElem?_toArray, List.getElem?_cons_zero, List.getElem?_cons_succ] at r0 r1 r2 r3 r4 r5 r6 r7 r8 r9
      refine bodyPost_ret (v := .tuple #[.agg #[.int .u8 (m.k : Int), .int .u64 (m.n0 : Int), .int .u64 (m.n1 : Int), .int .u64 (m.n2 : Int), .int .u64 (m.n3 : Int), .int .u64 0, .int .u64 (m.n5 : Int), .string m.s0, .string m.s1, .slice m.A len m.c], .int .i64 0]) (by simp [results, Try.results19, go_sem, r0, r1, r2, r3, r4, r5, r6, r7, r8, r9]) rfl ⟨?_, hB⟩
      rw [← HU.out, ← HLEN.out]
      simp [mvV, mvA, MV.setN]
    · go_enter Try.func19, Try.ntmps19
      go_wp2_with fail
      obtain ⟨W, hW⟩ : ∃ W, (((w.alloc (.cells #[.int .u8 (m.k : Int), .int .u64 (m.n0 : Int), .int .u64 (m.n1 : Int), .int .u64 (m.n2 : Int), .int .u64 (m.n3 : Int), .int .u64 (m.n4 : Int), .int .u64 0, .string m.s0, .string m.s1, .slice m.A len m.c] 29)).alloc (.cells #[.int .i64 num, .int .i64 4, .int .i64 5] 48)).alloc (.cells #[.int .i64 fnum, .int .u8 fw, .int .u64 (fn : Int), .slice fA xl fc, .int .i64 fat] 50)).alloc (.cells #[.int .u8 (m.k : Int), .int .u64 (m.n0 : Int), .int .u64 (m.n1 : Int), .int .u64 (m.n2 : Int), .int .u64 (m.n3 : Int), .int .u64 (m.n4 : Int), .int .u64 0, .string m.s0, .string m.s1, .slice m.A len m.c] 29) = W := ⟨_, rfl⟩
      rw [hW]
      have hk3 : Blk W (s + 1 + 1 + 1) 29 #[.int .u8 (m.k : Int), .int .u64 (m.n0 : Int), .int .u64 (m.n1 : Int), .int .u64 (m.n2 : Int), .int .u64 (m.n3 : Int), .int .u64 (m.n4 : Int), .int .u64 0, .string m.s0, .string m.s1, .slice m.A len m.c] := by
        have h1 := Blk.new (((w.alloc (.cells #[.int .u8 (m.k : Int), .int .u64 (m.n0 : Int), .int .u64 (m.n1 : Int), .int .u64 (m.n2 : Int), .int .u64 (m.n3 : Int), .int .u64 (m.n4 : Int), .int .u64 0, .string m.s0, .string m.s1, .slice m.A len m.c] 29)).alloc (.cells #[.int .i64 num, .int .i64 4, .int .i64 5] 48)).alloc (.cells #[.int .i64 fnum, .int .u8 fw, .int .u64 (fn : Int), .slice fA xl fc, .int .i64 fat] 50)) 29 #[.int .u8 (m.k : Int), .int .u64 (m.n0 : Int), .int .u64 (m.n1 : Int), .int .u64 (m.n2 : Int), .int .u64 (m.n3 : Int), .int .u64 (m.n4 : Int), .int .u64 0, .string m.s0, .string m.s1, .slice m.A len m.c]
        rw [World.size_alloc, World.size_alloc, World.size_alloc, hws, hW] at h1; exact h1
      have hB : Below s w W := by rw [← hW, ← hws]; exact bw_a (bw_a (bw_a (bw_a (Below.refl _ w) _) _) _) _
      clear hW
      have r0 := hk3.cell 0
      have r1 := hk3.cell 1
      have r2 := hk3.cell 2
      have r3 := hk3.cell 3
      have r4 := hk3.cell 4
      have r5 := hk3.cell 5
      have r6 := hk3.cell 6
      have r7 := hk3.cell 7
      have r8 := hk3.cell 8
      have r9 := hk3.cell 9
      simp only [List.getElem?_toArray, List.getElem?_cons_zero, List.getElem?_cons_succ] at r0 r1 r2 r3 r4 r5 r6 r7 r8 r9
      refine bodyPost_ret (v := .tuple #[.agg #[.int .u8 (m.k : Int), .int .u64 (m.n0 : Int), .int .u64 (m.n1 : Int), .int .u64 (m.n2 : Int), .int .u64 (m.n3 : Int), .int .u64 (m.n4 : Int), .int .u64 0, .string m.s0, .string m.s1, .slice m.A len m.c], .int .i64 0]) (by simp [results, Try.results19, go_sem, r0, r1, r2, r3, r4, r5, r6, r7, r8, r9]) rfl ⟨?_, hB⟩
      rw [← HU.out, ← HLEN.out]
      simp [mvV, mvA, MV.setN]
  · have hxe : x = 1 := by rw [← hx]; unfold numV; rw [if_neg (by decide), if_pos rfl, if_neg (by omega)]
    subst hxe
    have hm2 : (0 : Int) < (fn : Int) := by omega
    clear hx ht hm
    rcases hi with rfl | rfl | rfl | rfl | rfl | rfl
    · go_enter Try.func19, Try.ntmps19
      go_wp2_with fail
      obtain ⟨W, hW⟩ : ∃ W, (((w.alloc (.cells #[.int .u8 (m.k : Int), .int .u64 1, .int .u64 (m.n1 : Int), .int .u64 (m.n2 : Int), .int .u64 (m.n3 : Int), .int .u64 (m.n4 : Int), .int .u64 (m.n5 : Int), .string m.s0, .string m.s1, .slice m.A len m.c] 29)).alloc (.cells #[.int .i64 num, .int .i64 4, .int .i64 0] 48)).alloc (.cells #[.int .i64 fnum, .int .u8 fw, .int .u64 (fn : Int), .slice fA xl fc, .int .i64 fat] 50)).alloc (.cells #[.int .u8 (m.k : Int), .int .u64 1, .int .u64 (m.n1 : Int), .int .u64 (m.n2 : Int), .int .u64 (m.n3 : Int), .int .u64 (m.n4 : Int), .int .u64 (m.n5 : Int), .string m.s0, .string m.s1, .slice m.A len m.c] 29) = W := ⟨_, rfl⟩
      rw [hW]
      have hk3 : Blk W (s + 1 + 1 + 1) 29 #[.int .u8 (m.k : Int), .int .u64 1, .int .u64 (m.n1 : Int), .int .u64 (m.n2 : Int), .int .u64 (m.n3 : Int), .int .u64 (m.n4 : Int), .int .u64 (m.n5 : Int), .string m.s0, .string m.s1, .slice m.A len m.c] := by
        have h1 := Blk.new (((w.alloc (.cells #[.int .u8 (m.k : Int), .int .u64 1, .int .u64 (m.n1 : Int), .int .u64 (m.n2 : Int), .int .u64 (m.n3 : Int), .int .u64 (m.n4 : Int), .int .u64 (m.n5 : Int), .string m.s0, .string m.s1, .slice m.A len m.c] 29)).alloc (.cells #[.int .i64 num, .int .i64 4, .int .i64 0] 48)).alloc (.cells #[.int .i64 fnum, .int .u8 fw, .int .u64 (fn : Int), .slice fA xl fc, .int .i64 fat] 50)) 29 #[.int .u8 (m.k : Int), .int .u64 1, .int .u64 (m.n1 : Int), .int .u64 (m.n2 : Int), .int .u64 (m.n3 : Int), .int .u64 (m.n4 : Int), .int .u64 (m.n5 : Int), .string m.s0, .string m.s1, .slice m.A len m.c]
        rw [World.size_alloc, World.size_alloc, World.size_alloc, hws, hW] at h1; exact h1
      have hB : Below s w W := by rw [← hW, ← hws]; exact bw_a (bw_a (bw_a (bw_a (Below.refl _ w) _) _) _) _
      clear hW
      have r0 := hk3.cell 0
      have r1 := hk3.cell 1
      have r2 := hk3.cell 2
      have r3 := hk3.cell 3
      have r4 := hk3.cell 4
      have r5 := hk3.cell 5
      have r6 := hk3.cell 6
      have r7 := hk3.cell 7
      have r8 := hk3.cell 8
      have r9 := hk3.cell 9
      simp only [List.getElem?_toArray, List.getElem?_cons_zero, List.getElem?_cons_succ] at r0 r1 r2 r3 r4 r5 r6 r7 r8 r9
      refine bodyPost_ret (v := .tuple #[.agg #[.int .u8 (m.k : Int), .int .u64 1, .int .u64 (m.n1 : Int), .int .u64 (m.n2 : Int), .int .u64 (m.n3 : Int), .int .u64 (m.n4 : Int), .int .u64 (m.n5 : Int), .string m.s0, .string m.s1, .slice m.A len m.c], .int .i64 0]) (by simp [results, Try.results19, go_sem, r0, r1, r2, r3, r4, r5, r6, r7, r8, r9]) rfl ⟨?_, hB⟩
      rw [← HU.out, ← HLEN.out]
      simp [mvV, mvA, MV.setN]
    · go_enter Try.func19, Try.ntmps19
      go_wp2_with fail
      obtain ⟨W, hW⟩ : ∃ W, (((w.alloc (.cells #[.int .u8 (m.k : Int), .int .u64 (m.n0 : Int), .int .u64 1, .int .u64 (m.n2 : Int), .int .u64 (m.n3 : Int), .int .u64 (m.n4 : Int), .int .u64 (m.n5 : Int), .string m.s0, .string m.s1, .slice m.A len m.c] 29)).alloc (.cells #[.int .i64 num, .int .i64 4, .int .i64 1] 48)).alloc (.cells #[.int .i64 fnum, .int .u8 fw, .int .u64 (fn : Int), .slice fA xl fc, .int .i64 fat] 50)).alloc (.cells #[.int .u8 (m.k : Int), .int .u64 (m.n0 : Int), .int .u64 1, .int .u64 (m.n2 : Int), .int .u64 (m.n3 : Int), .int .u64 (m.n4 : Int), .int .u64 (m.n5 : Int), .string m.s0, .string m.s1, .slice m.A len m.c] 29) = W := ⟨_, rfl⟩
      rw [hW]
      have hk3 : Blk W (s + 1 + 1 + 1) 29 #[.int .u8 (m.k : Int), .int .u64 (m.n0 : Int), .int .u64 1, .int .u64 (m.n2 : Int), .int .u64 (m.n3 : Int), .int .u64 (m.n4 : Int), .int .u64 (m.n5 : Int), .string m.s0, .string m.s1, .slice m.A len m.c] := by
        have h1 := Blk.new (((w.alloc (.cells #[.int .u8 (m.k : Int), .int .u64 (m.n0 : Int), .int .u64 1, .int .u64 (m.n2 : Int), .int .u64 (m.n3 : Int), .int .u64 (m.n4 : Int), .int .u64 (m.n5 : Int), .string m.s0, .string m.s1, .slice m.A len m.c] 29)).alloc (.cells #[.int .i64 num, .int .i64 4, .int .i64 1] 48)).alloc (.cells #[.int .i64 fnum, .int .u8 fw, .int .u64 (fn : Int), .slice fA xl fc, .int .i64 fat] 50)) 29 #[.int .u8 (m.k : Int), .int .u64 (m.n0 : Int), .int .u64 1, .int .u64 (m.n2 : Int), .int .u64 (m.n3 : Int), .int .u64 (m.n4 : Int), .int .u64 (m.n5 : Int), .string m.s0, .string m.s1, .slice m.A len m.c]
        rw [World.size_alloc, World.size_alloc, World.size_alloc, hws, hW] at h1; exact h1
      have hB : Below s w W := by rw [← hW, ← hws]; exact bw_a (bw_a (bw_a (bw_a (Below.refl _ w) _) _) _) _
      clear hW
      have r0 := hk3.cell 0
      have r1 := hk3.cell 1
      have r2 := hk3.cell 2
      have r3 := hk3.cell 3
      have r4 := hk3.cell 4
      have r5 := hk3.cell 5
      have r6 := hk3.cell 6
      have r7 := hk3.cell 7
      have r8 := hk3.cell 8
      have r9 := hk3.cell 9
      simp only [List.getElem?_toArray, List.getElem?_cons_zero, List.getElem?_cons_succ] at r0 r1 r2 r3 r4 r5 r6 r7 r8 r9
      refine bodyPost_ret (v := .tuple #[.agg #[.int .u8 (m.k : Int), .int .u64 (m.n0 : Int), .int .u64 1, .int .u64 (m.n2 : Int), .int .u64 (m.n3 : Int), .int .u64 (m.n4 : Int), .int .u64 (m.n5 : Int), .string m.s0, .string m.s1, .slice m.A len m.c], .int .i64 0]) (by simp [results, Try.results19, go_sem, r0, r1, r2, r3, r4, r5, r6, r7, r8, r9]) rfl ⟨?_, hB⟩
      rw [← HU.out, ← HLEN.out]
      simp [mvV, mvA, MV.setN]
    · go_enter Try.func19, Try.ntmps19
      go_wp2_with fail
      obtain ⟨W, hW⟩ : ∃ W, (((w.alloc (.cells #[.int .u8 (m.k : Int), .int .u64 (m.n0 : Int), .int .u64 (m.n1 : Int), .int .u64 1, .int .u64 (m.n3 : Int), .int .u64 (m.n4 : Int), .int .u64 (m.n5 : Int), .string m.s0, .string m.s1, .slice m.A len m.c] 29)).alloc (.cells #[.int .i64 num, .int .i64 4, .int .i64 2] 48)).alloc (.cells #[.int .i64 fnum, .int .u8 fw, .int .u64 (fn : Int), .slice fA xl fc, .int .i64 fat] 50)).alloc (.cells #[.int .u8 (m.k : Int), .int .u64 (m.n0 : Int), .int .u64 (m.n1 : Int), .int .u64 1, .int .u64 (m.n3 : Int), .int .u64 (m.n4 : Int), .int .u64 (m.n5 : Int), .string m.s0, .string m.s1, .slice m.A len m.c] 29) = W := ⟨_, rfl⟩
      rw [hW]
      have hk3 : Blk W (s + 1 + 1 + 1) 29 #[.int .u8 (m.k : Int), .int .u64 (m.n0 : Int), .int .u64 (m.n1 : Int), .int .u64 1, .int .u64 (m.n3 : Int), .int .u64 (m.n4 : Int), .int .u64 (m.n5 : Int), .string m.s0, .string m.s1, .slice m.A len m.c] := by
        have h1 := Blk.new (((w.alloc (.cells #[.int .u8 (m.k : Int), .int .u64 (m.n0 : Int), .int .u64 (m.n1 : Int), .int .u64 1, .int .u64 (m.n3 : Int), .int .u64 (m.n4 : Int), .int .u64 (m.n5 : Int), .string m.s0, .string m.s1, .slice m.A len m.c] 29)).alloc (.cells #[.int .i64 num, .int .i64 4, .int .i64 2] 48)).alloc (.cells #[.int .i64 fnum, .int .u8 fw, .int .u64 (fn : Int), .slice fA xl fc, .int .i64 fat] 50)) 29 #[.int .u8 (m.k : Int), .int .u64 (m.n0 : Int), .int .u64 (m.n1 : Int), .int .u64 1, .int .u64 (m.n3 : Int), .int .u64 (m.n4 : Int), .int .u64 (m.n5 : Int), .string m.s0, .string m.s1, .slice m.A len m.c]
        rw [World.size_alloc, World.size_alloc, World.size_alloc, hws, hW] at h1; exact h1
      have hB : Below s w W := by rw [← hW, ← hws]; exact bw_a (bw_a (bw_a (bw_a (Below.refl _ w) _) _) _) _
      clear hW
      have r0 := hk3.cell 0
      have r1 := hk3.cell 1
      have r2 := hk3.cell 2
      have r3 := hk3.cell 3
      have r4 := hk3.cell 4
      have r5 := hk3.cell 5
      have r6 := hk3.cell 6
      have r7 := hk3.cell 7
      have r8 := hk3.cell 8
      have r9 := hk3.cell 9
      simp only [List.getElem?_toArray, List.getElem?_cons_zero, List.getElem?_cons_succ] at r0 r1 r2 r3 r4 r5 r6 r7 r8 r9
      refine bodyPost_ret (v := .tuple #[.agg #[.int .u8 (m.k : Int), .int .u64 (m.n0 : Int), .int .u64 (m.n1 : Int), .int .u64 1, .int .u64 (m.n3 : Int), .int .u64 (m.n4 : Int), .int .u64 (m.n5 : Int), .string m.s0, .string m.s1, .slice m.A len m.c], .int .i64 0]) (by simp [results, Try.results19, go_sem, r0, r1, r2, r3, r4, r5, r6, r7, r8, r9]) rfl ⟨?_, hB⟩
      rw [← HU.out, ← HLEN.out]
      simp [mvV, mvA, MV.setN]
    · go_enter Try.func19, Try.ntmps19
      go_wp2_with fail
      obtain ⟨W, hW⟩ : ∃ W, (((w.alloc (.cells #[.int .u8 (m.k : Int), .int .u64 (m.n0 : Int), .int .u64 (m.n1 : Int), .int .u64 (m.n2 : Int), .int .u64 1, .int .u64 (m.n4 : Int), .int .u64 (m.n5 : Int), .string m.s0, .string m.s1, .slice m.A len m.c] 29)).alloc (.cells #[.int .i64 num, .int .i64 4, .int .i64 3] 48)).alloc (.cells #[.int .i64 fnum, .int .u8 fw, .int .u64 (fn : Int), .slice fA xl fc, .int .i64 fat] 50)).alloc (.cells #[.int .u8 (m.k : Int), .int .u64 (m.n0 : Int), .int .u64 (m.n1 : Int), .int .u64 (m.n2 : Int), .int .u64 1, .int .u64 (m.n4 : Int), .int .u64 (m.n5 : Int), .string m.s0, .string m.s1, .slice m.A len m.c] 29) = W := ⟨_, rfl⟩
      rw [hW]
      have hk3 : Blk W (s + 1 + 1 + 1) 29 #[.int .u8 (m.k : Int), .int .u64 (m.n0 : Int), .int .u64 (m.n1 : Int), .int .u64 (m.n2 : Int), .int .u64 1, .int .u64 (m.n4 : Int), .int .u64 (m.n5 : Int), .string m.s0, .string m.s1, .slice m.A len m.c] := by
        have h1 := Blk.new (((w.alloc (.cells #[.int .u8 (m.k : Int), .int .u64 (m.n0 : Int), .int .u64 (m.n1 : Int), .int .u64 (m.n2 : Int), .int .u64 1, .int .u64 (m.n4 : Int), .int .u64 (m.n5 : Int), .string m.s0, .string m.s1, .slice m.A len m.c] 29)).alloc (.cells #[.int .i64 num, .int .i64 4, .int .i64 3] 48)).alloc (.cells #[.int .i64 fnum, .int .u8 fw, .int .u64 (fn : Int), .slice fA xl fc, .int .i64 fat] 50)) 29 #[.int .u8 (m.k : Int), .int .u64 (m.n0 : Int), .int .u64 (m.n1 : Int), .int .u64 (m.n2 : Int), .int .u64 1, .int .u64 (m.n4 : Int), .int .u64 (m.n5 : Int), .string m.s0, .string m.s1, .slice m.A len m.c]
        rw [World.size_alloc, World.size_alloc, World.size_alloc, hws, hW] at h1; exact h1
      have hB : Below s w W := by rw [← hW, ← hws]; exact bw_a (bw_a (bw_a (bw_a (Below.refl _ w) _) _) _) _
      clear hW
      have r0 := hk3.cell 0
      have r1 := hk3.cell 1
      have r2 := hk3.cell 2
      have r3 := hk3.cell 3
      have r4 := hk3.cell 4
      have r5 := hk3.cell 5
      have r6 := hk3.cell 6
      have r7 := hk3.cell 7
      have r8 := hk3.cell 8
      have r9 := hk3.cell 9
      simp only [List.getElem?_toArray, List.getElem?_cons_zero, List.getElem?_cons_succ] at r0 r1 r2 r3 r4 r5 r6 r7 r8 r9
      refine bodyPost_ret (v := .tuple #[.agg #[.int .u8 (m.k : Int), .int .u64 (m.n0 : Int), .int .u64 (m.n1 : Int), .int .u64 (m.n2 : Int), .int .u64 1, .int .u64 (m.n4 : Int), .int .u64 (m.n5 : Int), .string m.s0, .string m.s1, .slice m.A len m.c], .int .i64 0]) (by simp [results, Try.results19, go_sem, r0, r1, r2, r3, r4, r5, r6, r7, r8, r9]) rfl ⟨?_, hB⟩
      rw [← HU.out, ← HLEN.out]
      simp [mvV, mvA, MV.setN]
    · go_enter Try.func19, Try.ntmps19
      go_wp2_with fail
      obtain ⟨W, hW⟩ : ∃ W, (((w.alloc (.cells #[.int .u8 (m.k : Int), .int .u64 (m.n0 : Int), .int .u64 (m.n1 : Int), .int .u64 (m.n2 : Int), .int .u64 (m.n3 : Int), .int .u64 1, .int .u64 (m.n5 : Int), .string m.s0, .string m.s1, .slice m.A len m.c] 29)).alloc (.cells #[.int .i64 num, .int .i64 4, .int .i64 4] 48)).alloc (.cells #[.int .i64 fnum, .int .u8 fw, .int .u64 (fn : Int), .slice fA xl fc, .int .i64 fat] 50)).alloc (.cells #[.int .u8 (m.k : Int), .int .u64 (m.n0 : Int), .int .u64 (m.n1 : Int), .int .u64 (m.n2 : Int), .int .u64 (m.n3 : Int), .int .u64 1, .int .u64 (m.n5 : Int), .string m.s0, .string m.s1, .slice m.A len m.c] 29) = W := ⟨_, rfl⟩
      rw [hW]
      have hk3 : Blk W (s + 1 + 1 + 1) 29 #[.int .u8 (m.k : Int), .int .u64 (m.n0 : Int), .int .u64 (m.n1 : Int), .int .u64 (m.n2 : Int), .int .u64 (m.n3 : Int), .int .u64 1, .int .u64 (m.n5 : Int), .string m.s0, .string m.s1, .slice m.A len m.c] := by
        have h1 := Blk.new (((w.alloc (.cells #[.int .u8 (m.k : Int), .int .u64 (m.n0 : Int), .int .u64 (m.n1 : Int), .int .u64 (m.n2 : Int), .int .u64 (m.n3 : Int), .int .u64 1, .int .u64 (m.n5 : Int), .string m.s0, .string m.s1, .slice m.A len m.c] 29)).alloc (.cells #[.int .i64 num, .int .i64 4, .int .i64 4] 48)).alloc (.cells #[.int .i64 fnum, .int .u8 fw, .int .u64 (fn : Int), .slice fA xl fc, .int .i64 fat] 50)) 29 #[.int .u8 (m.k : Int), .int .u64 (m.n0 : Int), .int .u64 (m.n1 : Int), .int .u64 (m.n2 : Int), .int .u64 (m.n3 : Int), .int .u64 1, .int .u64 (m.n5 : Int), .string m.s0, .string m.s1, .slice m.A len m.c]
        rw [World.size_alloc, World.size_alloc, World.size_alloc, hws, hW] at h1; exact h1
      have hB : Below s w W := by rw [← hW, ← hws]; exact bw_a (bw_a (bw_a (bw_a (Below.refl _ w) _) _) _) _
      clear hW
      have r0 := hk3.cell 0
      have r1 := hk3.cell 1
      have r2 := hk3.cell 2
      have r3 := hk3.cell 3
      have r4 := hk3.cell 4
      have r5 := hk3.cell 5
      have r6 := hk3.cell 6
      have r7 := hk3.cell 7
      have r8 := hk3.cell 8
      have r9 := hk3.cell 9
      simp only [List.getElem?_toArray, List.getElem?_cons_zero, List.getElem?_cons_succ] at r0 r1 r2 r3 r4 r5 r6 r7 r8 r9
      refine bodyPost_ret (v := .tuple #[.agg #[.int .u8 (m.k : Int), .int .u64 (m.n0 : Int), .int .u64 (m.n1 : Int), .int .u64 (m.n2 : Int), .int .u64 (m.n3 : Int), .int .u64 1, .int .u64 (m.n5 : Int), .string m.s0, .string m.s1, .slice m.A len m.c], .int .i64 0]) (by simp [results, Try.results19, go_sem, r0, r1, r2, r3, r4, r5, r6, r7, r8, r9]) rfl ⟨?_, hB⟩
      rw [← HU.out, ← HLEN.out]
      simp [mvV, mvA, MV.setN]
    · go_enter Try.func19, Try.ntmps19
      go_wp2_with fail
      obtain ⟨W, hW⟩ : ∃ W, (((w.alloc (.cells #[.int .u8 (m.k : Int), .int .u64 (m.n0 : Int), .int .u64 (m.n1 : Int), .int .u64 (m.n2 : Int), .int .u64 (m.n3 : Int), .int .u64 (m.n4 : Int), .int .u64 1, .string m.s0, .string m.s1, .slice m.A len m.c] 29)).alloc (.cells #[.int .i64 num, .int .i64 4, .int .i64 5] 48)).alloc (.cells #[.int .i64 fnum, .int .u8 fw, .int .u64 (fn : Int), .slice fA xl fc, .int .i64 fat] 50)).alloc (.cells #[.int .u8 (m.k : Int), .int .u64 (m.n0 : Int), .int .u64 (m.n1 : Int), .int .u64 (m.n2 : Int), .int .u64 (m.n3 : Int), .int .u64 (m.n4 : Int), .int .u64 1, .string m.s0, .string m.s1, .slice m.A len m.c] 29) = W := ⟨_, rfl⟩
      rw [hW]
      have hk3 : Blk W (s + 1 + 1 + 1) 29 #[.int .u8 (m.k : Int), .int .u64 (m.n0 : Int), .int .u64 (m.n1 : Int), .int .u64 (m.n2 : Int), .int .u64 (m.n3 : Int), .int .u64 (m.n4 : Int), .int .u64 1, .string m.s0, .string m.s1, .slice m.A len m.c] := by
        have h1 := Blk.new (((w.alloc (.cells #[.int .u8 (m.k : Int), .int .u64 (m.n0 : Int), .int .u64 (m.n1 : Int), .int .u64 (m.n2 : Int), .int .u64 (m.n3 : Int), .int .u64 (m.n4 : Int), .int .u64 1, .string m.s0, .string m.s1, .slice m.A len m.c] 29)).alloc (.cells #[.int .i64 num, .int .i64 4, .int .i64 5] 48)).alloc (.cells #[.int .i64 fnum, .int .u8 fw, .int .u64 (fn : Int), .slice fA xl fc, .int .i64 fat] 50)) 29 #[.int .u8 (m.k : Int), .int .u64 (m.n0 : Int), .int .u64 (m.n1 : Int), .int .u64 (m.n2 : Int), .int .u64 (m.n3 : Int), .int .u64 (m.n4 : Int), .int .u64 1, .string m.s0, .string m.s1, .slice m.A len m.c]
        rw [World.size_alloc, World.size_alloc, World.size_alloc, hws, hW] at h1; exact h1
      have hB : Below s w W := by rw [← hW, ← hws]; exact bw_a (bw_a (bw_a (bw_a (Below.refl _ w) _) _) _) _
      clear hW
      have r0 := hk3.cell 0
      have r1 := hk3.cell 1
      have r2 := hk3.cell 2
      have r3 := hk3.cell 3
      have r4 := hk3.cell 4
      have r5 := hk3.cell 5
      have r6 := hk3.cell 6
      have r7 := hk3.cell 7
      have r8 := hk3.cell 8
      have r9 := hk3.cell 9
      simp only [List.getElem?_toArray, List.getElem?_cons_zero, List.getElem?_cons_succ] at r0 r1 r2 r3 r4 r5 r6 r7 r8 r9
      refine bodyPost_ret (v := .tuple #[.agg #[.int .u8 (m.k : Int), .int .u64 (m.n0 : Int), .int .u64 (m.n1 : Int), .int .u64 (m.n2 : Int), .int .u64 (m.n3 : Int), .int .u64 (m.n4 : Int), .int .u64 1, .string m.s0, .string m.s1, .slice m.A len m.c], .int .i64 0]) (by simp [results, Try.results19, go_sem, r0, r1, r2, r3, r4, r5, r6, r7, r8, r9]) rfl ⟨?_, hB⟩
      rw [← HU.out, ← HLEN.out]
      simp [mvV, mvA, MV.setN]
  · have hxe : fn = x := by rw [← hx]; unfold numV; rw [if_neg (by omega), if_neg (by omega), if_neg (by omega)]
    subst hxe
    clear hx
    have p1 : (t == 1) = false := by simp; omega
    have p3 : (t == 3) = false := by simp; omega
    have p4 : (t == 4) = false := by simp; omega
    have q1 : (1 : Int) ≤ t := by omega
    have q6 : t ≤ 6 := by omega
    have q7 : ¬ (7 : Int) ≤ t := by omega
    clear ht
    rcases hi with rfl | rfl | rfl | rfl | rfl | rfl
    · go_enter Try.func19, Try.ntmps19
      go_wp2_with fail
      obtain ⟨W, hW⟩ : ∃ W, (((w.alloc (.cells #[.int .u8 (m.k : Int), .int .u64 (fn : Int), .int .u64 (m.n1 : Int), .int .u64 (m.n2 : Int), .int .u64 (m.n3 : Int), .int .u64 (m.n4 : Int), .int .u64 (m.n5 : Int), .string m.s0, .string m.s1, .slice m.A len m.c] 29)).alloc (.cells #[.int .i64 num, .int .i64 t, .int .i64 0] 48)).alloc (.cells #[.int .i64 fnum, .int .u8 fw, .int .u64 (fn : Int), .slice fA xl fc, .int .i64 fat] 50)).alloc (.cells #[.int .u8 (m.k : Int), .int .u64 (fn : Int), .int .u64 (m.n1 : Int), .int .u64 (m.n2 : Int), .int .u64 (m.n3 : Int), .int .u64 (m.n4 : Int), .int .u64 (m.n5 : Int), .string m.s0, .string m.s1, .slice m.A len m.c] 29) = W := ⟨_, rfl⟩
      rw [hW]
      have hk3 : Blk W (s + 1 + 1 + 1) 29 #[.int .u8 (m.k : Int), .int .u64 (fn : Int), .int .u64 (m.n1 : Int), .int .u64 (m.n2 : Int), .int .u64 (m.n3 : Int), .int .u64 (m.n4 : Int), .int .u64 (m.n5 : Int), .string m.s0, .string m.s1, .slice m.A len m.c] := by
        have h1 := Blk.new (((w.alloc (.cells #[.int .u8 (m.k : Int), .int .u64 (fn : Int), .int .u64 (m.n1 : Int), .int .u64 (m.n2 : Int), .int .u64 (m.n3 : Int), .int .u64 (m.n4 : Int), .int .u64 (m.n5 : Int), .string m.s0, .string m.s1, .slice m.A len m.c] 29)).alloc (.cells #[.int .i64 num, .int .i64 t, .int .i64 0] 48)).alloc (.cells #[.int .i64 fnum, .int .u8 fw, .int .u64 (fn : Int), .slice fA xl fc, .int .i64 fat] 50)) 29 #[.int .u8 (m.k : Int), .int .u64 (fn : Int), .int .u64 (m.n1 : Int), .int .u64 (m.n2 : Int), .int .u64 (m.n3 : Int), .int .u64 (m.n4 : Int), .int .u64 (m.n5 : Int), .string m.s0, .string m.s1, .slice m.A len m.c]
        rw [World.size_alloc, World.size_alloc, World.size_alloc, hws, hW] at h1; exact h1
      have hB : Below s w W := by rw [← hW, ← hws]; exact bw_a (bw_a (bw_a (bw_a (Below.refl _ w) _) _) _) _
      clear hW
      have r0 := hk3.cell 0
      have r1 := hk3.cell 1
      have r2 := hk3.cell 2
      have r3 := hk3.cell 3
      have r4 := hk3.cell 4
      have r5 := hk3.cell 5
      have r6 := hk3.cell 6
      have r7 := hk3.cell 7
      have r8 := hk3.cell 8
      have r9 := hk3.cell 9
      simp only [List.getElem?_toArray, List.getElem?_cons_zero, List.getElem?_cons_succ] at r0 r1 r2 r3 r4 r5 r6 r7 r8 r9
      refine bodyPost_ret (v := .tuple #[.agg #[.int .u8 (m.k : Int), .int .u64 (fn : Int), .int .u64 (m.n1 : Int), .int .u64 (m.n2 : Int), .int .u64 (m.n3 : Int), .int .u64 (m.n4 : Int), .int .u64 (m.n5 : Int), .string m.s0, .string m.s1, .slice m.A len m.c], .int .i64 0]) (by simp [results, Try.results19, go_sem, r0, r1, r2, r3, r4, r5, r6, r7, r8, r9]) rfl ⟨?_, hB⟩
      rw [← HU.out, ← HLEN.out]
      simp [mvV, mvA, MV.setN]
    · go_enter Try.func19, Try.ntmps19
      go_wp2_with fail
      obtain ⟨W, hW⟩ : ∃ W, (((w.alloc (.cells #[.int .u8 (m.k : Int), .int .u64 (m.n0 : Int), .int .u64 (fn : Int), .int .u64 (m.n2 : Int), .int .u64 (m.n3 : Int), .int .u64 (m.n4 : Int), .int .u64 (m.n5 : Int), .string m.s0, .string m.s1, .slice m.A len m.c] 29)).alloc (.cells #[.int .i64 num, .int .i64 t, .int .i64 1] 48)).alloc (.cells #[.int .i64 fnum, .int .u8 fw, .int .u64 (fn : Int), .slice fA xl fc, .int .i64 fat] 50)).alloc (.cells #[.int .u8 (m.k : Int), .int .u64 (m.n0 : Int), .int .u64 (fn : Int), .int .u64 (m.n2 : Int), .int .u64 (m.n3 : Int), .int .u64 (m.n4 : Int), .int .u64 (m.n5 : Int), .string m.s0, .string m.s1, .slice m.A len m.c] 29) = W := ⟨_, rfl⟩
      rw [hW]
      have hk3 : Blk W (s + 1 + 1 + 1) 29 #[.int .u8 (m.k : Int), .int .u64 (m.n0 : Int), .int .u64 (fn : Int), .int .u64 (m.n2 : Int), .int .u64 (m.n3 : Int), .int .u64 (m.n4 : Int), .int .u64 (m.n5 : Int), .string m.s0, .string m.s1, .slice m.A len m.c] := by
        have h1 := Blk.new (((w.alloc (.cells #[.int .u8 (m.k : Int), .int .u64 (m.n0 : Int), .int .u64 (fn : Int), .int .u64 (m.n2 : Int), .int .u64 (m.n3 : Int), .int .u64 (m.n4 : Int), .int .u64 (m.n5 : Int), .string m.s0, .string m.s1, .slice m.A len m.c] 29)).alloc (.cells #[.int .i64 num, .int .i64 t, .int .i64 1] 48)).alloc (.cells #[.int .i64 fnum, .int .u8 fw, .int .u64 (fn : Int), .slice fA xl fc, .int .i64 fat] 50)) 29 #[.int .u8 (m.k : Int), .int .u64 (m.n0 : Int), .int .u64 (fn : Int), .int .u64 (m.n2 : Int), .int .u64 (m.n3 : Int), .int .u64 (m.n4 : Int), .int .u64 (m.n5 : Int), .string m.s0, .string m.s1, .slice m.A len m.c]
        rw [World.size_alloc, World.size_alloc, World.size_alloc, hws, hW] at h1; exact h1
      have hB : Below s w W := by rw [← hW, ← hws]; exact bw_a (bw_a (bw_a (bw_a (Below.refl _ w) _) _) _) _
      clear hW
      have r0 := hk3.cell 0
      have r1 := hk3.cell 1
      have r2 := hk3.cell 2
      have r3 := hk3.cell 3
      have r4 := hk3.cell 4
      have r5 := hk3.cell 5
      have r6 := hk3.cell 6
      have r7 := hk3.cell 7
      have r8 := hk3.cell 8
      have r9 := hk3.cell 9
      simp only [List.getElem?_toArray, List.getElem?_cons_zero, List.getElem?_cons_succ] at r0 r1 r2 r3 r4 r5 r6 r7 r8 r9
      refine bodyPost_ret (v := .tuple #[.agg #[.int .u8 (m.k : Int), .int .u64 (m.n0 : Int), .int .u64 (fn : Int), .int .u64 (m.n2 : Int), .int .u64 (m.n3 : Int), .int .u64 (m.n4 : Int), .int .u64 (m.n5 : Int), .string m.s0, .string m.s1, .slice m.A len m.c], .int .i64 0]) (by simp [results, Try.results19, go_sem, r0, r1, r2, r3, r4, r5, r6, r7, r8, r9]) rfl ⟨?_, hB⟩
      rw [← HU.out, ← HLEN.out]
      simp [mvV, mvA, MV.setN]
    · go_enter Try.func19, Try.ntmps19
      go_wp2_with fail
      obtain ⟨W, hW⟩ : ∃ W, (((w.alloc (.cells #[.int .u8 (m.k : Int), .int .u64 (m.n0 : Int), .int .u64 (m.n1 : Int), .int .u64 (fn : Int), .int .u64 (m.n3 : Int), .int .u64 (m.n4 : Int), .int .u64 (m.n5 : Int), .string m.s0, .string m.s1, .slice m.A len m.c] 29)).alloc (.cells #[.int .i64 num, .int .i64 t, .int .i64 2] 48)).alloc (.cells #[.int .i64 fnum, .int .u8 fw, .int .u64 (fn : Int), .slice fA xl fc, .int .i64 fat] 50)).alloc (.cells #[.int .u8 (m.k : Int), .int .u64 (m.n0 : Int), .int .u64 (m.n1 : Int), .int .u64 (fn : Int), .int .u64 (m.n3 : Int), .int .u64 (m.n4 : Int), .int .u64 (m.n5 : Int), .string m.s0, .string m.s1, .slice m.A len m.c] 29) = W := ⟨_, rfl⟩
      rw [hW]
      have hk3 : Blk W (s + 1 + 1 + 1) 29 #[.int .u8 (m.k : Int), .int .u64 (m.n0 : Int), .int .u64 (m.n1 : Int), .int .u64 (fn : Int), .int .u64 (m.n3 : Int), .int .u64 (m.n4 : Int), .int .u64 (m.n5 : Int), .string m.s0, .string m.s1, .slice m.A len m.c] := by
        have h1 := Blk.new (((w.alloc (.cells #[.int .u8 (m.k : Int), .int .u64 (m.n0 : Int), .int .u64 (m.n1 : Int), .int .u64 (fn : Int), .int .u64 (m.n3 : Int), .int .u64 (m.n4 : Int), .int .u64 (m.n5 : Int), .string m.s0, .string m.s1, .slice m.A len m.c] 29)).alloc (.cells #[.int .i64 num, .int .i64 t, .int .i64 2] 48)).alloc (.cells #[.int .i64 fnum, .int .u8 fw, .int .u64 (fn : Int), .slice fA xl fc, .int .i64 fat] 50)) 29 #[.int .u8 (m.k : Int), .int .u64 (m.n0 : Int), .int .u64 (m.n1 : Int), .int .u64 (fn : Int), .int .u64 (m.n3 : Int), .int .u64 (m.n4 : Int), .int .u64 (m.n5 : Int), .string m.s0, .string m.s1, .slice m.A len m.c]
        rw [World.size_alloc, World.size_alloc, World.size_alloc, hws, hW] at h1; exact h1
      have hB : Below s w W := by rw [← hW, ← hws]; exact bw_a (bw_a (bw_a (bw_a (Below.refl _ w) _) _) _) _
      clear hW
      have r0 := hk3.cell 0
      have r1 := hk3.cell 1
      have r2 := hk3.cell 2
      have r3 := hk3.cell 3
      have r4 := hk3.cell 4
      have r5 := hk3.cell 5
      have r6 := hk3.cell 6
      have r7 := hk3.cell 7
      have r8 := hk3.cell 8
      have r9 := hk3.cell 9
      simp only [List.getElem?_toArray, List.getElem?_cons_zero, List.getElem?_cons_succ] at r0 r1 r2 r3 r4 r5 r6 r7 r8 r9
      refine bodyPost_ret (v := .tuple #[.agg #[.int .u8 (m.k : Int), .int .u64 (m.n0 : Int), .int .u64 (m.n1 : Int), .int .u64 (fn : Int), .int .u64 (m.n3 : Int), .int .u64 (m.n4 : Int), .int .u64 (m.n5 : Int), .string m.s0, .string m.s1, .slice m.A len m.c], .int .i64 0]) (by simp [results, Try.results19, go_sem, r0, r1, r2, r3, r4, r5, r6, r7, r8, r9]) rfl ⟨?_, hB⟩
      rw [← HU.out, ← HLEN.out]
      simp [mvV, mvA, MV.setN]
    · go_enter Try.func19, Try.ntmps19
      go_wp2_with fail
      obtain ⟨W, hW⟩ : ∃ W, (((w.alloc (.cells #[.int .u8 (m.k : Int), .int .u64 (m.n0 : Int), .int .u64 (m.n1 : Int), .int .u64 (m.n2 : Int), .int .u64 (fn : Int), .int .u64 (m.n4 : Int), .int .u64 (m.n5 : Int), .string m.s0, .string m.s1, .slice m.A len m.c] 29)).alloc (.cells #[.int .i64 num, .int .i64 t, .int .i64 3] 48)).alloc (.cells #[.int .i64 fnum, .int .u8 fw, .int .u64 (fn : Int), .slice fA xl fc, .int .i64 fat] 50)).alloc (.cells #[.int .u8 (m.k : Int), .int .u64 (m.n0 : Int), .int .u64 (m.n1 : Int), .int .u64 (m.n2 : Int), .int .u64 (fn : Int), .int .u64 (m.n4 : Int), .int .u64 (m.n5 : Int), .string m.s0, .string m.s1, .slice m.A len m.c] 29) = W := ⟨_, rfl⟩
      rw [hW]
      have hk3 : Blk W (s + 1 + 1 + 1) 29 #[.int .u8 (m.k : Int), .int .u64 (m.n0 : Int), .int .u64 (m.n1 : Int), .int .u64 (m.n2 : Int), .int .u64 (fn : Int), .int .u64 (m.n4 : Int), .int .u64 (m.n5 : Int), .string m.s0, .string m.s1, .slice m.A len m.c] := by
        have h1 := Blk.new (((w.alloc (.cells #[.int .u8 (m.k : Int), .int .u64 (m.n0 : Int), .int .u64 (m.n1 : Int), .int .u64 (m.n2 : Int), .int .u64 (fn : Int), .int .u64 (m.n4 : Int), .int .u64 (m.n5 : Int), .string m.s0, .string m.s1, .slice m.A len m.c] 29)).alloc (.cells #[.int .i64 num, .int .i64 t, .int .i64 3] 48)).alloc (.cells #[.int .i64 fnum, .int .u8 fw, .int .u64 (fn : Int), .slice fA xl fc, .int .i64 fat] 50)) 29 #[.int .u8 (m.k : Int), .int .u64 (m.n0 : Int), .int .u64 (m.n1 : Int), .int .u64 (m.n2 : Int), .int .u64 (fn : Int), .int .u64 (m.n4 : Int), .int .u64 (m.n5 : Int), .string m.s0, .string m.s1, .slice m.A len m.c]
        rw [World.size_alloc, World.size_alloc, World.size_alloc, hws, hW] at h1; exact h1
      have hB : Below s w W := by rw [← hW, ← hws]; exact bw_a (bw_a (bw_a (bw_a (Below.refl _ w) _) _) _) _
      clear hW
      have r0 := hk3.cell 0
      have r1 := hk3.cell 1
      have r2 := hk3.cell 2
      have r3 := hk3.cell 3
      have r4 := hk3.cell 4
      have r5 := hk3.cell 5
      have r6 := hk3.cell 6
      have r7 := hk3.cell 7
      have r8 := hk3.cell 8
      have r9 := hk3.cell 9
      simp only [List.getElem?_toArray, List.getElem?_cons_zero, List.getElem?_cons_succ] at r0 r1 r2 r3 r4 r5 r6 r7 r8 r9
      refine bodyPost_ret (v := .tuple #[.agg #[.int .u8 (m.k : Int), .int .u64 (m.n0 : Int), .int .u64 (m.n1 : Int), .int .u64 (m.n2 : Int), .int .u64 (fn : Int), .int .u64 (m.n4 : Int), .int .u64 (m.n5 : Int), .string m.s0, .string m.s1, .slice m.A len m.c], .int .i64 0]) (by simp [results, Try.results19, go_sem, r0, r1, r2, r3, r4, r5, r6, r7, r8, r9]) rfl ⟨?_, hB⟩
      rw [← HU.out, ← HLEN.out]
      simp [mvV, mvA, MV.setN]
    · go_enter Try.func19, Try.ntmps19
      go_wp2_with fail
      obtain ⟨W, hW⟩ : ∃ W, (((w.alloc (.cells #[.int .u8 (m.k : Int), .int .u64 (m.n0 : Int), .int .u64 (m.n1 : Int), .int .u64 (m.n2 : Int), .int .u64 (m.n3 : Int), .int .u64 (fn : Int), .int .u64 (m.n5 : Int), .string m.s0, .string m.s1, .slice m.A len m.c] 29)).alloc (.cells #[.int .i64 num, .int .i64 t, .int .i64 4] 48)).alloc (.cells #[.int .i64 fnum, .int .u8 fw, .int .u64 (fn : Int), .slice fA xl fc, .int .i64 fat] 50)).alloc (.cells #[.int .u8 (m.k : Int), .int .u64 (m.n0 : Int), .int .u64 (m.n1 : Int), .int .u64 (m.n2 : Int), .int .u64 (m.n3 : Int), .int .u64 (fn : Int), .int .u64 (m.n5 : Int), .string m.s0, .string m.s1, .slice m.A len m.c] 29) = W := ⟨_, rfl⟩
      rw [hW]
      have hk3 : Blk W (s + 1 + 1 + 1) 29 #[.int .u8 (m.k : Int), .int .u64 (m.n0 : Int), .int .u64 (m.n1 : Int), .int .u64 (m.n2 : Int), .int .u64 (m.n3 : Int), .int .u64 (fn : Int), .int .u64 (m.n5 : Int), .string m.s0, .string m.s1, .slice m.A len m.c] := by
        have h1 := Blk.new (((w.alloc (.cells #[.int .u8 (m.k : Int), .int .u64 (m.n0 : Int), .int .u64 (m.n1 : Int), .int .u64 (m.n2 : Int), .int .u64 (m.n3 : Int), .int .u64 (fn : Int), .int .u64 (m.n5 : Int), .string m.s0, .string m.s1, .slice m.A len m.c] 29)).alloc (.cells #[.int .i64 num, .int .i64 t, .int .i64 4] 48)).alloc (.cells #[.int .i64 fnum, .int .u8 fw, .int .u64 (fn : Int), .slice fA xl fc, .int .i64 fat] 50)) 29 #[.int .u8 (m.k : Int), .int .u64 (m.n0 : Int), .int .u64 (m.n1 : Int), .int .u64 (m.n2 : Int), .int .u64 (m.n3 : Int), .int .u64 (fn : Int), .int .u64 (m.n5 : Int), .string m.s0, .string m.s1, .slice m.A len m.c]
        rw [World.size_alloc, World.size_alloc, World.size_alloc, hws, hW] at h1; exact h1
      have hB : Below s w W := by rw [← hW, ← hws]; exact bw_a (bw_a (bw_a (bw_a (Below.refl _ w) _) _) _) _
      clear hW
      have r0 := hk3.cell 0
      have r1 := hk3.cell 1
      have r2 := hk3.cell 2
      have r3 := hk3.cell 3
      have r4 := hk3.cell 4
      have r5 := hk3.cell 5
      have r6 := hk3.cell 6
      have r7 := hk3.cell 7
      have r8 := hk3.cell 8
      have r9 := hk3.cell 9
      simp only [List.getElem?_toArray, List.getElem?_cons_zero, List.getElem?_cons_succ] at r0 r1 r2 r3 r4 r5 r6 r7 r8 r9
      refine bodyPost_ret (v := .tuple #[.agg #[.int .u8 (m.k : Int), .int .u64 (m.n0 : Int), .int .u64 (m.n1 : Int), .int .u64 (m.n2 : Int), .int .u64 (m.n3 : Int), .int .u64 (fn : Int), .int .u64 (m.n5 : Int), .string m.s0, .string m.s1, .slice m.A len m.c], .int .i64 0]) (by simp [results, Try.results19, go_sem, r0, r1, r2, r3, r4, r5, r6, r7, r8, r9]) rfl ⟨?_, hB⟩
      rw [← HU.out, ← HLEN.out]
      simp [mvV, mvA, MV.setN]
    · go_enter Try.func19, Try.ntmps19
      go_wp2_with fail
      obtain ⟨W, hW⟩ : ∃ W, (((w.alloc (.cells #[.int .u8 (m.k : Int), .int .u64 (m.n0 : Int), .int .u64 (m.n1 : Int), .int .u64 (m.n2 : Int), .int .u64 (m.n3 : Int), .int .u64 (m.n4 : Int), .int .u64 (fn : Int), .string m.s0, .string m.s1, .slice m.A len m.c] 29)).alloc (.cells #[.int .i64 num, .int .i64 t, .int .i64 5] 48)).alloc (.cells #[.int .i64 fnum, .int .u8 fw, .int .u64 (fn : Int), .slice fA xl fc, .int .i64 fat] 50)).alloc (.cells #[.int .u8 (m.k : Int), .int .u64 (m.n0 : Int), .int .u64 (m.n1 : Int), .int .u64 (m.n2 : Int), .int .u64 (m.n3 : Int), .int .u64 (m.n4 : Int), .int .u64 (fn : Int), .string m.s0, .string m.s1, .slice m.A len m.c] 29) = W := ⟨_, rfl⟩
      rw [hW]
      have hk3 : Blk W (s + 1 + 1 + 1) 29 #[.int .u8 (m.k : Int), .int .u64 (m.n0 : Int), .int .u64 (m.n1 : Int), .int .u64 (m.n2 : Int), .int .u64 (m.n3 : Int), .int .u64 (m.n4 : Int), .int .u64 (fn : Int), .string m.s0, .string m.s1, .slice m.A len m.c] := by
        have h1 := Blk.new (((w.alloc (.cells #[.int .u8 (m.k : Int), .int .u64 (m.n0 : Int), .int .u64 (m.n1 : Int), .int .u64 (m.n2 : Int), .int .u64 (m.n3 : Int), .int .u64 (m.n4 : Int), .int .u64 (fn : Int), .string m.s0, .string m.s1, .slice m.A len m.c] 29)).alloc (.cells #[.int .i64 num, .int .i64 t, .int .i64 5] 48)).alloc (.cells #[.int .i64 fnum, .int .u8 fw, .int .u64 (fn : Int), .slice fA xl fc, .int .i64 fat] 50)) 29 #[.int .u8 (m.k : Int), .int .u64 (m.n0 : Int), .int .u64 (m.n1 : Int), .int .u64 (m.n2 : Int), .int .u64 (m.n3 : Int), .int .u64 (m.n4 : Int), .int .u64 (fn : Int), .string m.s0, .string m.s1, .slice m.A len m.c]
        rw [World.size_alloc, World.size_alloc, World.size_alloc, hws, hW] at h1; exact h1
      have hB : Below s w W := by rw [← hW, ← hws]; exact bw_a (bw_a (bw_a (bw_a (Below.refl _ w) _) _) _) _
      clear hW
      have r0 := hk3.cell 0
      have r1 := hk3.cell 1
      have r2 := hk3.cell 2
      have r3 := hk3.cell 3
      have r4 := hk3.cell 4
      have r5 := hk3.cell 5
      have r6 := hk3.cell 6
      have r7 := hk3.cell 7
      have r8 := hk3.cell 8
      have r9 := hk3.cell 9
      simp only [List.getElem?_toArray, List.getElem?_cons_zero, List.getElem?_cons_succ] at r0 r1 r2 r3 r4 r5 r6 r7 r8 r9
      refine bodyPost_ret (v := .tuple #[.agg #[.int .u8 (m.k : Int), .int .u64 (m.n0 : Int), .int .u64 (m.n1 : Int), .int .u64 (m.n2 : Int), .int .u64 (m.n3 : Int), .int .u64 (m.n4 : Int), .int .u64 (fn : Int), .string m.s0, .string m.s1, .slice m.A len m.c], .int .i64 0]) (by simp [results, Try.results19, go_sem, r0, r1, r2, r3, r4, r5, r6, r7, r8, r9]) rfl ⟨?_, hB⟩
      rw [← HU.out, ← HLEN.out]
      simp [mvV, mvA, MV.setN]
end Go.Proofs.Ytpmfdlghckfgiaa
