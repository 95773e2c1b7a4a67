/- lenient.Set. · The document's Set: what has no place. -/
import Derived.Test.YtpmfdlghckfgiaaLenSetN
import Derived.BigQuiet
import Derived.Deep.QuietTactic
set_option linter.unusedVariables false
namespace Go.Proofs.Ytpmfdlghckfgiaa
open Go.RowKit
/-- What a field's bytes are as a string. -/
def fvS (f : FV) : ByteArray := ⟨f.s.xs.toArray⟩
theorem lset_any (m : MV) (num t i : Int) (f : FV) (w : World) (hfn : f.n ≤ 18446744073709551615) (hlm : m.l.length ≤ 1000000) (hsm : Sl w m.A m.c (m.l.map sv)) (hx : f.s.xs.length ≤ 9223372036854775807) (hsf : Sl w f.s.A f.s.c (f.s.xs.map bv)) :
    Calls Try.prog 14 #[mvV m, .agg #[.int .i64 num, .int .i64 t, .int .i64 i], .agg (fvC f).toArray] w fun e w' => ∃ A' c', e = .returned (.tuple #[mvV { setM m t i f.n (fvS f) with A := A', c := c' }, .int .i64 (setE m t i (fvS f))]) ∧ w'.ownsRow w.heap.size 9 1 (.slice A' (setM m t i f.n (fvS f)).l.length c') (setM m t i f.n (fvS f)).l.length ((setM m t i f.n (fvS f)).l.map sv) ∧ Below w.heap.size w w' := by
  cases hp : plB t i with
  | false =>
    have hE : setE m t i (fvS f) = 7 := by unfold setE; rw [if_pos hp]
    have hM : setM m t i f.n (fvS f) = ZM := by unfold setM; rw [if_pos (by rw [hE]; decide)]
    rw [hE, hM]
    refine (lset_none m num t i f.num f.w f.n f.s.A f.s.xs.length f.s.c f.at_ w hp).mono ?_
    rintro e w' ⟨he, hb⟩
    exact ⟨none, 0, he, World.ownsRow_nil _ _ _ _, hb⟩
  | true =>
    have hpl : (1 ≤ t ∧ t ≤ 6 ∧ 0 ≤ i ∧ i < 6) ∨ 7 ≤ t := by
      have h := hp
      unfold plB at h
      simp only [Bool.or_eq_true, decide_eq_true_eq] at h
      omega
    rcases hpl with ⟨h1, h6, hi⟩ | h7
    · have hE : setE m t i (fvS f) = 0 := by unfold setE; rw [if_neg (by rw [hp]; simp), if_pos h6]
      have hM : setM m t i f.n (fvS f) = m.setN i (numV t f.n) := by unfold setM; rw [if_neg (by rw [hE]; decide), if_pos h6]
      rw [hE, hM]
      exact lset_num0 m num t i f.num f.w f.n f.s.A f.s.xs.length f.s.c f.at_ w ⟨h1, h6⟩ hi hfn hlm hsm
    · exact lset_text m num t i f.num f.w f.n f.s.A f.s.xs.length f.s.c f.at_ f.s.xs w hp h7 hlm hsm rfl hx hsf
end Go.Proofs.Ytpmfdlghckfgiaa
set_option linter.unusedVariables false
namespace Go.Proofs.Ytpmfdlghckfgiaa
open Go.RowKit
set_option maxRecDepth 100000 in
set_option maxHeartbeats 8000000 in
theorem rset_none (m : MV) (num t i : Int) (fnum fw : Int) (fn : Nat) (fA : Option Addr) (xl fc : Nat) (fat : Int) (w : World) (hp : plB t i = false) :
    Calls Try.prog 19 #[mvV m, .agg #[.int .i64 num, .int .i64 t, .int .i64 i], .agg #[.int .i64 fnum, .int .u8 fw, .int .u64 (fn : Int), .slice fA xl fc, .int .i64 fat]] w fun e w' => e = .returned (.tuple #[mvV ZM, .int .i64 7]) ∧ Below w.heap.size w w' := by
  have hp' : ¬ ((1 ≤ t ∧ t ≤ 6) ∧ 0 ≤ i ∧ i < 6) ∧ ¬ ((7 ≤ t ∧ t ≤ 9) ∧ 0 ≤ i ∧ i < 2) ∧ ¬ t = 10 := by
    unfold plB at hp
    simp only [Bool.or_eq_false_iff, decide_eq_false_iff_not] at hp
    exact ⟨hp.1.1, hp.1.2, hp.2⟩
  have h10 : (t == 10) = false := by simp; exact hp'.2.2
  have hZ : mvV ZM = .agg #[.int .u8 0, .int .u64 0, .int .u64 0, .int .u64 0, .int .u64 0, .int .u64 0, .int .u64 0, .string ⟨#[]⟩, .string ⟨#[]⟩, .slice none 0 0] := rfl
  rw [hZ]
  unfold mvV mvA
  obtain ⟨len, hlen⟩ : ∃ n, m.l.length = n := ⟨_, rfl⟩
  simp only [hlen]
  clear hlen
  obtain ⟨s, hws⟩ : ∃ s, w.heap.size = s := ⟨_, rfl⟩
  rw [hws]
  rcases (show t < 1 ∨ 10 < t ∨ ((1 ≤ t ∧ t ≤ 6) ∧ i < 0) ∨ ((1 ≤ t ∧ t ≤ 6) ∧ 6 ≤ i) ∨ ((7 ≤ t ∧ t ≤ 9) ∧ i < 0) ∨ ((7 ≤ t ∧ t ≤ 9) ∧ 2 ≤ i) by omega) with h | h | ⟨h, hi⟩ | ⟨h, hi⟩ | ⟨h, hi⟩ | ⟨h, hi⟩
  · have d0 : decide (1 ≤ t) = false := by simp; omega
    have d1 : decide (7 ≤ t) = false := by simp; omega
    clear hp hp' h
    go_enter Try.func19, Try.ntmps19
    go_wp2_with fail
    obtain ⟨W, hW⟩ : ∃ W, (((w.alloc (.cells #[.int .u8 (m.k : Int), .int .u64 (m.n0 : Int), .int .u64 (m.n1 : Int), .int .u64 (m.n2 : Int), .int .u64 (m.n3 : Int), .int .u64 (m.n4 : Int), .int .u64 (m.n5 : Int), .string m.s0, .string m.s1, .slice m.A len m.c] 29)).alloc (.cells #[.int .i64 num, .int .i64 t, .int .i64 i] 48)).alloc (.cells #[.int .i64 fnum, .int .u8 fw, .int .u64 (fn : Int), .slice fA xl fc, .int .i64 fat] 50)).alloc (.cells #[.int .u8 0, .int .u64 0, .int .u64 0, .int .u64 0, .int .u64 0, .int .u64 0, .int .u64 0, .string ⟨#[]⟩, .string ⟨#[]⟩, .slice none 0 0] 29) = W := ⟨_, rfl⟩
    rw [hW]
    have hk3 : Blk W (s + 1 + 1 + 1) 29 #[.int .u8 0, .int .u64 0, .int .u64 0, .int .u64 0, .int .u64 0, .int .u64 0, .int .u64 0, .string ⟨#[]⟩, .string ⟨#[]⟩, .slice none 0 0] := by
      have h1 := Blk.new ((((w.alloc (.cells #[.int .u8 (m.k : Int), .int .u64 (m.n0 : Int), .int .u64 (m.n1 : Int), .int .u64 (m.n2 : Int), .int .u64 (m.n3 : Int), .int .u64 (m.n4 : Int), .int .u64 (m.n5 : Int), .string m.s0, .string m.s1, .slice m.A len m.c] 29)).alloc (.cells #[.int .i64 num, .int .i64 t, .int .i64 i] 48)).alloc (.cells #[.int .i64 fnum, .int .u8 fw, .int .u64 (fn : Int), .slice fA xl fc, .int .i64 fat] 50))) 29 #[.int .u8 0, .int .u64 0, .int .u64 0, .int .u64 0, .int .u64 0, .int .u64 0, .int .u64 0, .string ⟨#[]⟩, .string ⟨#[]⟩, .slice none 0 0]
      rw [World.size_alloc, World.size_alloc, World.size_alloc, hws, hW] at h1; exact h1
    have hB : Below s w W := by rw [← hW, ← hws]; exact bw_a (bw_a (bw_a (bw_a (Below.refl _ w) _) _) _) _
    clear hW
    have r0 := hk3.cell 0
    have r1 := hk3.cell 1
    have r2 := hk3.cell 2
    have r3 := hk3.cell 3
    have r4 := hk3.cell 4
    have r5 := hk3.cell 5
    have r6 := hk3.cell 6
    have r7 := hk3.cell 7
    have r8 := hk3.cell 8
    have r9 := hk3.cell 9
    simp only [List.getElem?_toArray, List.getElem?_cons_zero, List.getElem?_cons_succ] at r0 r1 r2 r3 r4 r5 r6 r7 r8 r9
    refine bodyPost_ret (v := .tuple #[.agg #[.int .u8 0, .int .u64 0, .int .u64 0, .int .u64 0, .int .u64 0, .int .u64 0, .int .u64 0, .string ⟨#[]⟩, .string ⟨#[]⟩, .slice none 0 0], .int .i64 7]) (by simp [results, Try.results19, go_sem, r0, r1, r2, r3, r4, r5, r6, r7, r8, r9]) rfl ⟨?_, hB⟩
    rfl
  · have d0 : decide (1 ≤ t) = true := by simp; omega
    have d1 : decide (t ≤ 6) = false := by simp; omega
    have d2 : decide (7 ≤ t) = true := by simp; omega
    have d3 : decide (t ≤ 9) = false := by simp; omega
    clear hp hp' h
    go_enter Try.func19, Try.ntmps19
    go_wp2_with fail
    obtain ⟨W, hW⟩ : ∃ W, (((w.alloc (.cells #[.int .u8 (m.k : Int), .int .u64 (m.n0 : Int), .int .u64 (m.n1 : Int), .int .u64 (m.n2 : Int), .int .u64 (m.n3 : Int), .int .u64 (m.n4 : Int), .int .u64 (m.n5 : Int), .string m.s0, .string m.s1, .slice m.A len m.c] 29)).alloc (.cells #[.int .i64 num, .int .i64 t, .int .i64 i] 48)).alloc (.cells #[.int .i64 fnum, .int .u8 fw, .int .u64 (fn : Int), .slice fA xl fc, .int .i64 fat] 50)).alloc (.cells #[.int .u8 0, .int .u64 0, .int .u64 0, .int .u64 0, .int .u64 0, .int .u64 0, .int .u64 0, .string ⟨#[]⟩, .string ⟨#[]⟩, .slice none 0 0] 29) = W := ⟨_, rfl⟩
    rw [hW]
    have hk3 : Blk W (s + 1 + 1 + 1) 29 #[.int .u8 0, .int .u64 0, .int .u64 0, .int .u64 0, .int .u64 0, .int .u64 0, .int .u64 0, .string ⟨#[]⟩, .string ⟨#[]⟩, .slice none 0 0] := by
      have h1 := Blk.new ((((w.alloc (.cells #[.int .u8 (m.k : Int), .int .u64 (m.n0 : Int), .int .u64 (m.n1 : Int), .int .u64 (m.n2 : Int), .int .u64 (m.n3 : Int), .int .u64 (m.n4 : Int), .int .u64 (m.n5 : Int), .string m.s0, .string m.s1, .slice m.A len m.c] 29)).alloc (.cells #[.int .i64 num, .int .i64 t, .int .i64 i] 48)).alloc (.cells #[.int .i64 fnum, .int .u8 fw, .int .u64 (fn : Int), .slice fA xl fc, .int .i64 fat] 50))) 29 #[.int .u8 0, .int .u64 0, .int .u64 0, .int .u64 0, .int .u64 0, .int .u64 0, .int .u64 0, .string ⟨#[]⟩, .string ⟨#[]⟩, .slice none 0 0]
      rw [World.size_alloc, World.size_alloc, World.size_alloc, hws, hW] at h1; exact h1
    have hB : Below s w W := by rw [← hW, ← hws]; exact bw_a (bw_a (bw_a (bw_a (Below.refl _ w) _) _) _) _
    clear hW
    have r0 := hk3.cell 0
    have r1 := hk3.cell 1
    have r2 := hk3.cell 2
    have r3 := hk3.cell 3
    have r4 := hk3.cell 4
    have r5 := hk3.cell 5
    have r6 := hk3.cell 6
    have r7 := hk3.cell 7
    have r8 := hk3.cell 8
    have r9 := hk3.cell 9
    simp only [List.getElem?_toArray, List.getElem?_cons_zero, List.getElem?_cons_succ] at r0 r1 r2 r3 r4 r5 r6 r7 r8 r9
    refine bodyPost_ret (v := .tuple #[.agg #[.int .u8 0, .int .u64 0, .int .u64 0, .int .u64 0, .int .u64 0, .int .u64 0, .int .u64 0, .string ⟨#[]⟩, .string ⟨#[]⟩, .slice none 0 0], .int .i64 7]) (by simp [results, Try.results19, go_sem, r0, r1, r2, r3, r4, r5, r6, r7, r8, r9]) rfl ⟨?_, hB⟩
    rfl
  · have d0 : decide (1 ≤ t) = true := by simp; omega
    have d1 : decide (t ≤ 6) = true := by simp; omega
    have d2 : decide (0 ≤ i) = false := by simp; omega
    have d3 : decide (7 ≤ t) = false := by simp; omega
    clear hp hp' h hi
    go_enter Try.func19, Try.ntmps19
    go_wp2_with fail
    obtain ⟨W, hW⟩ : ∃ W, (((w.alloc (.cells #[.int .u8 (m.k : Int), .int .u64 (m.n0 : Int), .int .u64 (m.n1 : Int), .int .u64 (m.n2 : Int), .int .u64 (m.n3 : Int), .int .u64 (m.n4 : Int), .int .u64 (m.n5 : Int), .string m.s0, .string m.s1, .slice m.A len m.c] 29)).alloc (.cells #[.int .i64 num, .int .i64 t, .int .i64 i] 48)).alloc (.cells #[.int .i64 fnum, .int .u8 fw, .int .u64 (fn : Int), .slice fA xl fc, .int .i64 fat] 50)).alloc (.cells #[.int .u8 0, .int .u64 0, .int .u64 0, .int .u64 0, .int .u64 0, .int .u64 0, .int .u64 0, .string ⟨#[]⟩, .string ⟨#[]⟩, .slice none 0 0] 29) = W := ⟨_, rfl⟩
    rw [hW]
    have hk3 : Blk W (s + 1 + 1 + 1) 29 #[.int .u8 0, .int .u64 0, .int .u64 0, .int .u64 0, .int .u64 0, .int .u64 0, .int .u64 0, .string ⟨#[]⟩, .string ⟨#[]⟩, .slice none 0 0] := by
      have h1 := Blk.new ((((w.alloc (.cells #[.int .u8 (m.k : Int), .int .u64 (m.n0 : Int), .int .u64 (m.n1 : Int), .int .u64 (m.n2 : Int), .int .u64 (m.n3 : Int), .int .u64 (m.n4 : Int), .int .u64 (m.n5 : Int), .string m.s0, .string m.s1, .slice m.A len m.c] 29)).alloc (.cells #[.int .i64 num, .int .i64 t, .int .i64 i] 48)).alloc (.cells #[.int .i64 fnum, .int .u8 fw, .int .u64 (fn : Int), .slice fA xl fc, .int .i64 fat] 50))) 29 #[.int .u8 0, .int .u64 0, .int .u64 0, .int .u64 0, .int .u64 0, .int .u64 0, .int .u64 0, .string ⟨#[]⟩, .string ⟨#[]⟩, .slice none 0 0]
      rw [World.size_alloc, World.size_alloc, World.size_alloc, hws, hW] at h1; exact h1
    have hB : Below s w W := by rw [← hW, ← hws]; exact bw_a (bw_a (bw_a (bw_a (Below.refl _ w) _) _) _) _
    clear hW
    have r0 := hk3.cell 0
    have r1 := hk3.cell 1
    have r2 := hk3.cell 2
    have r3 := hk3.cell 3
    have r4 := hk3.cell 4
    have r5 := hk3.cell 5
    have r6 := hk3.cell 6
    have r7 := hk3.cell 7
    have r8 := hk3.cell 8
    have r9 := hk3.cell 9
    simp only [List.getElem?_toArray, List.getElem?_cons_zero, List.getElem?_cons_succ] at r0 r1 r2 r3 r4 r5 r6 r7 r8 r9
    refine bodyPost_ret (v := .tuple #[.agg #[.int .u8 0, .int .u64 0, .int .u64 0, .int .u64 0, .int .u64 0, .int .u64 0, .int .u64 0, .string ⟨#[]⟩, .string ⟨#[]⟩, .slice none 0 0], .int .i64 7]) (by simp [results, Try.results19, go_sem, r0, r1, r2, r3, r4, r5, r6, r7, r8, r9]) rfl ⟨?_, hB⟩
    rfl
  · have d0 : decide (1 ≤ t) = true := by simp; omega
    have d1 : decide (t ≤ 6) = true := by simp; omega
    have d2 : decide (0 ≤ i) = true := by simp; omega
    have d3 : decide (i < 6) = false := by simp; omega
    have d4 : decide (7 ≤ t) = false := by simp; omega
    clear hp hp' h hi
    go_enter Try.func19, Try.ntmps19
    go_wp2_with fail
    obtain ⟨W, hW⟩ : ∃ W, (((w.alloc (.cells #[.int .u8 (m.k : Int), .int .u64 (m.n0 : Int), .int .u64 (m.n1 : Int), .int .u64 (m.n2 : Int), .int .u64 (m.n3 : Int), .int .u64 (m.n4 : Int), .int .u64 (m.n5 : Int), .string m.s0, .string m.s1, .slice m.A len m.c] 29)).alloc (.cells #[.int .i64 num, .int .i64 t, .int .i64 i] 48)).alloc (.cells #[.int .i64 fnum, .int .u8 fw, .int .u64 (fn : Int), .slice fA xl fc, .int .i64 fat] 50)).alloc (.cells #[.int .u8 0, .int .u64 0, .int .u64 0, .int .u64 0, .int .u64 0, .int .u64 0, .int .u64 0, .string ⟨#[]⟩, .string ⟨#[]⟩, .slice none 0 0] 29) = W := ⟨_, rfl⟩
    rw [hW]
    have hk3 : Blk W (s + 1 + 1 + 1) 29 #[.int .u8 0, .int .u64 0, .int .u64 0, .int .u64 0, .int .u64 0, .int .u64 0, .int .u64 0, .string ⟨#[]⟩, .string ⟨#[]⟩, .slice none 0 0] := by
      have h1 := Blk.new ((((w.alloc (.cells #[.int .u8 (m.k : Int), .int .u64 (m.n0 : Int), .int .u64 (m.n1 : Int), .int .u64 (m.n2 : Int), .int .u64 (m.n3 : Int), .int .u64 (m.n4 : Int), .int .u64 (m.n5 : Int), .string m.s0, .string m.s1, .slice m.A len m.c] 29)).alloc (.cells #[.int .i64 num, .int .i64 t, .int .i64 i] 48)).alloc (.cells #[.int .i64 fnum, .int .u8 fw, .int .u64 (fn : Int), .slice fA xl fc, .int .i64 fat] 50))) 29 #[.int .u8 0, .int .u64 0, .int .u64 0, .int .u64 0, .int .u64 0, .int .u64 0, .int .u64 0, .string ⟨#[]⟩, .string ⟨#[]⟩, .slice none 0 0]
      rw [World.size_alloc, World.size_alloc, World.size_alloc, hws, hW] at h1; exact h1
    have hB : Below s w W := by rw [← hW, ← hws]; exact bw_a (bw_a (bw_a (bw_a (Below.refl _ w) _) _) _) _
    clear hW
    have r0 := hk3.cell 0
    have r1 := hk3.cell 1
    have r2 := hk3.cell 2
    have r3 := hk3.cell 3
    have r4 := hk3.cell 4
    have r5 := hk3.cell 5
    have r6 := hk3.cell 6
    have r7 := hk3.cell 7
    have r8 := hk3.cell 8
    have r9 := hk3.cell 9
    simp only [List.getElem?_toArray, List.getElem?_cons_zero, List.getElem?_cons_succ] at r0 r1 r2 r3 r4 r5 r6 r7 r8 r9
    refine bodyPost_ret (v := .tuple #[.agg #[.int .u8 0, .int .u64 0, .int .u64 0, .int .u64 0, .int .u64 0, .int .u64 0, .int .u64 0, .string ⟨#[]⟩, .string ⟨#[]⟩, .slice none 0 0], .int .i64 7]) (by simp [results, Try.results19, go_sem, r0, r1, r2, r3, r4, r5, r6, r7, r8, r9]) rfl ⟨?_, hB⟩
    rfl
  · have d0 : decide (1 ≤ t) = true := by simp; omega
    have d1 : decide (t ≤ 6) = false := by simp; omega
    have d2 : decide (7 ≤ t) = true := by simp; omega
    have d3 : decide (t ≤ 9) = true := by simp; omega
    have d4 : decide (0 ≤ i) = false := by simp; omega
    clear hp hp' h hi
    go_enter Try.func19, Try.ntmps19
    go_wp2_with fail
    obtain ⟨W, hW⟩ : ∃ W, (((w.alloc (.cells #[.int .u8 (m.k : Int), .int .u64 (m.n0 : Int), .int .u64 (m.n1 : Int), .int .u64 (m.n2 : Int), .int .u64 (m.n3 : Int), .int .u64 (m.n4 : Int), .int .u64 (m.n5 : Int), .string m.s0, .string m.s1, .slice m.A len m.c] 29)).alloc (.cells #[.int .i64 num, .int .i64 t, .int .i64 i] 48)).alloc (.cells #[.int .i64 fnum, .int .u8 fw, .int .u64 (fn : Int), .slice fA xl fc, .int .i64 fat] 50)).alloc (.cells #[.int .u8 0, .int .u64 0, .int .u64 0, .int .u64 0, .int .u64 0, .int .u64 0, .int .u64 0, .string ⟨#[]⟩, .string ⟨#[]⟩, .slice none 0 0] 29) = W := ⟨_, rfl⟩
    rw [hW]
    have hk3 : Blk W (s + 1 + 1 + 1) 29 #[.int .u8 0, .int .u64 0, .int .u64 0, .int .u64 0, .int .u64 0, .int .u64 0, .int .u64 0, .string ⟨#[]⟩, .string ⟨#[]⟩, .slice none 0 0] := by
      have h1 := Blk.new ((((w.alloc (.cells #[.int .u8 (m.k : Int), .int .u64 (m.n0 : Int), .int .u64 (m.n1 : Int), .int .u64 (m.n2 : Int), .int .u64 (m.n3 : Int), .int .u64 (m.n4 : Int), .int .u64 (m.n5 : Int), .string m.s0, .string m.s1, .slice m.A len m.c] 29)).alloc (.cells #[.int .i64 num, .int .i64 t, .int .i64 i] 48)).alloc (.cells #[.int .i64 fnum, .int .u8 fw, .int .u64 (fn : Int), .slice fA xl fc, .int .i64 fat] 50))) 29 #[.int .u8 0, .int .u64 0, .int .u64 0, .int .u64 0, .int .u64 0, .int .u64 0, .int .u64 0, .string ⟨#[]⟩, .string ⟨#[]⟩, .slice none 0 0]
      rw [World.size_alloc, World.size_alloc, World.size_alloc, hws, hW] at h1; exact h1
    have hB : Below s w W := by rw [← hW, ← hws]; exact bw_a (bw_a (bw_a (bw_a (Below.refl _ w) _) _) _) _
    clear hW
    have r0 := hk3.cell 0
    have r1 := hk3.cell 1
    have r2 := hk3.cell 2
    have r3 := hk3.cell 3
    have r4 := hk3.cell 4
    have r5 := hk3.cell 5
    have r6 := hk3.cell 6
    have r7 := hk3.cell 7
    have r8 := hk3.cell 8
    have r9 := hk3.cell 9
    simp only [List.getElem?_toArray, List.getElem?_cons_zero, List.getElem?_cons_succ] at r0 r1 r2 r3 r4 r5 r6 r7 r8 r9
    refine bodyPost_ret (v := .tuple #[.agg #[.int .u8 0, .int .u64 0, .int .u64 0, .int .u64 0, .int .u64 0, .int .u64 0, .int .u64 0, .string ⟨#[]⟩, .string ⟨#[]⟩, .slice none 0 0], .int .i64 7]) (by simp [results, Try.results19, go_sem, r0, r1, r2, r3, r4, r5, r6, r7, r8, r9]) rfl ⟨?_, hB⟩
    rfl
  · have d0 : decide (1 ≤ t) = true := by simp; omega
    have d1 : decide (t ≤ 6) = false := by simp; omega
    have d2 : decide (7 ≤ t) = true := by simp; omega
    have d3 : decide (t ≤ 9) = true := by simp; omega
    have d4 : decide (0 ≤ i) = true := by simp; omega
    have d5 : decide (i < 2) = false := by simp; omega
    clear hp hp' h hi
    go_enter Try.func19, Try.ntmps19
    go_wp2_with fail
    obtain ⟨W, hW⟩ : ∃ W, (((w.alloc (.cells #[.int .u8 (m.k : Int), .int .u64 (m.n0 : Int), .int .u64 (m.n1 : Int), .int .u64 (m.n2 : Int), .int .u64 (m.n3 : Int), .int .u64 (m.n4 : Int), .int .u64 (m.n5 : Int), .string m.s0, .string m.s1, .slice m.A len m.c] 29)).alloc (.cells #[.int .i64 num, .int .i64 t, .int .i64 i] 48)).alloc (.cells #[.int .i64 fnum, .int .u8 fw, .int .u64 (fn : Int), .slice fA xl fc, .int .i64 fat] 50)).alloc (.cells #[.int .u8 0, .int .u64 0, .int .u64 0, .int .u64 0, .int .u64 0, .int .u64 0, .int .u64 0, .string ⟨#[]⟩, .string ⟨#[]⟩, .slice none 0 0] 29) = W := ⟨_, rfl⟩
    rw [hW]
    have hk3 : Blk W (s + 1 + 1 + 1) 29 #[.int .u8 0, .int .u64 0, .int .u64 0, .int .u64 0, .int .u64 0, .int .u64 0, .int .u64 0, .string ⟨#[]⟩, .string ⟨#[]⟩, .slice none 0 0] := by
      have h1 := Blk.new ((((w.alloc (.cells #[.int .u8 (m.k : Int), .int .u64 (m.n0 : Int), .int .u64 (m.n1 : Int), .int .u64 (m.n2 : Int), .int .u64 (m.n3 : Int), .int .u64 (m.n4 : Int), .int .u64 (m.n5 : Int), .string m.s0, .string m.s1, .slice m.A len m.c] 29)).alloc (.cells #[.int .i64 num, .int .i64 t, .int .i64 i] 48)).alloc (.cells #[.int .i64 fnum, .int .u8 fw, .int .u64 (fn : Int), .slice fA xl fc, .int .i64 fat] 50))) 29 #[.int .u8 0, .int .u64 0, .int .u64 0, .int .u64 0, .int .u64 0, .int .u64 0, .int .u64 0, .string ⟨#[]⟩, .string ⟨#[]⟩, .slice none 0 0]
      rw [World.size_alloc, World.size_alloc, World.size_alloc, hws, hW] at h1; exact h1
    have hB : Below s w W := by rw [← hW, ← hws]; exact bw_a (bw_a (bw_a (bw_a (Below.refl _ w) _) _) _) _
    clear hW
    have r0 := hk3.cell 0
    have r1 := hk3.cell 1
    have r2 := hk3.cell 2
    have r3 := hk3.cell 3
    have r4 := hk3.cell 4
    have r5 := hk3.cell 5
    have r6 := hk3.cell 6
    have r7 := hk3.cell 7
    have r8 := hk3.cell 8
    have r9 := hk3.cell 9
    simp only [List.getElem?_toArray, List.getElem?_cons_zero, List.getElem?_cons_succ] at r0 r1 r2 r3 r4 r5 r6 r7 r8 r9
    refine bodyPost_ret (v := .tuple #[.agg #[.int .u8 0, .int .u64 0, .int .u64 0, .int .u64 0, .int .u64 0, .int .u64 0, .int .u64 0, .string ⟨#[]⟩, .string ⟨#[]⟩, .slice none 0 0], .int .i64 7]) (by simp [results, Try.results19, go_sem, r0, r1, r2, r3, r4, r5, r6, r7, r8, r9]) rfl ⟨?_, hB⟩
    rfl
end Go.Proofs.Ytpmfdlghckfgiaa
