/- The walks of layer 1's statements. -/
import Derived.Test.YtoakedonbjfgoaaLive
set_option linter.unusedVariables false
namespace Go.Proofs.Ytoakedonbjfgoaa
open Go.RowKit
theorem putN_size (n : Nat) : (putN n).length = sizeN n := by
  induction n using Nat.strongRecOn with
  | _ n ih =>
    rw [sizeN]
    by_cases h : n < 128
    · rw [if_pos h, putN_small h]; rfl
    · rw [if_neg h, putN_big h, List.length_cons, ih (n / 128) (by omega)]; omega
set_option maxRecDepth 100000 in
set_option maxHeartbeats 1000000 in
theorem writes_any (n : Nat) (w : World) (h64 : n ≤ 18446744073709551615) :
    Calls Try.prog 3 #[.int .u64 (n : Int)] w fun e w' => e = .returned (.bool true) ∧ Below w.heap.size w w' := by
  have hl := putN_length10 h64
  go_enter Try.func3, Try.ntmps3
  go_wp2_with fail
  refine (live1_any _).mono ?_
  rintro e w1 ⟨rfl, hb1⟩
  go_wp2_with fail
  refine (vput_any n _ h64).mono ?_
  rintro e w2 ⟨A, c, rfl, hs, hb2⟩
  go_wp2_with fail
  refine (rput_any n _ h64).mono ?_
  rintro e w3 ⟨B, d, rfl, hs3, hb3⟩
  go_wp2_with fail
  refine (same_any (putN n) (putN n) A B c d _ (by omega) (hs.rd.below hb3) hs3.rd).mono ?_
  rw [decide_eq_true (rfl : putN n = putN n)]
  rintro e w4 ⟨rfl, k, rfl⟩
  go_wp2_with fail
  refine (size_any n _ h64).mono ?_
  rw [← putN_size]
  rintro e w5 ⟨rfl, rfl⟩
  go_wp2_with fail
  go_ret
  exact ⟨rfl, bw_d (bw_t (bw_t hb1 hb2) hb3) _⟩

set_option maxRecDepth 100000 in
set_option maxHeartbeats 1000000 in
theorem reads_any (bs : List UInt8) (n : Nat) (A : Option Addr) (c : Nat) (w : World) (hn : bs.length = n) (hR : Sl w A c (bs.map bv)) :
    Calls Try.prog 4 #[.slice A n c] w fun e w' => e = .returned (.bool true) ∧ Below w.heap.size w w' := by
  have hl : n ≤ 9223372036854775807 := by have h1 := hR.cap; have h2 := hR.small; simp only [List.length_map] at h1; omega
  have hg1 := fun W h => get_at bs n A c W hn hl h
  have hg2 := fun W h => rget_at bs n A c W hn hl h
  have hg3 := fun W h => short_at bs n A c W hn hl h
  have hf := M.get_facts bs
  have hs : shortB bs = decide ((M.get bs).2.2 = 0 ∧ (M.get bs).2.1 = sizeN (M.get bs).1) := rfl
  rw [hs] at hg3
  clear hs
  generalize M.get bs = g at *
  obtain ⟨v, k, e⟩ := g
  simp only at hg1 hg2 hg3 hf
  have H1 := hid hg1
  have H2 := hid hg2
  clear hg1 hg2
  by_cases he : e = 0
  · have h64 := (hf.1 he).2.2.2
    by_cases hk : k = sizeN v
    · rw [decide_eq_true (⟨he, hk⟩ : e = 0 ∧ k = sizeN v)] at hg3
      have H3 := hid hg3
      have hkb : ((sizeN v : Int) == (k : Int)) = true := by simp [hk]
      have heb : ((e : Int) == 0) = true := by simp [he]
      clear hf hg3 he hk
      go_enter Try.func4, Try.ntmps4
      go_wp2_with fail
      refine (live1_any _).mono ?_
      rintro e' w1 ⟨rfl, hb1⟩
      have hr1 := hR.rd.below hb1
      go_wp2_with fail
      refine (H1.out _ hr1).mono ?_
      rintro e' w2 ⟨rfl, rfl⟩
      go_wp2_with fail
      refine (H2.out _ hr1).mono ?_
      rintro e' w2 ⟨rfl, rfl⟩
      go_wp2_with fail
      refine (H3.out _ hr1).mono ?_
      rintro e' w2 ⟨rfl, rfl⟩
      go_wp2_with fail
      refine (rput_any v _ h64).mono ?_
      rw [putN_size]
      rintro e' w3 ⟨B, d, rfl, hs3, hb3⟩
      go_wp2_with fail
      go_ret
      exact ⟨rfl, bw_t hb1 hb3⟩
    · rw [decide_eq_false (fun h => hk h.2 : ¬ (e = 0 ∧ k = sizeN v))] at hg3
      have H3 := hid hg3
      have hkb : ((sizeN v : Int) == (k : Int)) = false := by simp; omega
      have heb : ((e : Int) == 0) = true := by simp [he]
      clear hf hg3 he hk
      go_enter Try.func4, Try.ntmps4
      go_wp2_with fail
      refine (live1_any _).mono ?_
      rintro e' w1 ⟨rfl, hb1⟩
      have hr1 := hR.rd.below hb1
      go_wp2_with fail
      refine (H1.out _ hr1).mono ?_
      rintro e' w2 ⟨rfl, rfl⟩
      go_wp2_with fail
      refine (H2.out _ hr1).mono ?_
      rintro e' w2 ⟨rfl, rfl⟩
      go_wp2_with fail
      refine (H3.out _ hr1).mono ?_
      rintro e' w2 ⟨rfl, rfl⟩
      go_wp2_with fail
      refine (rput_any v _ h64).mono ?_
      rw [putN_size]
      rintro e' w3 ⟨B, d, rfl, hs3, hb3⟩
      go_wp2_with fail
      go_ret
      exact ⟨rfl, bw_t hb1 hb3⟩
  · rw [decide_eq_false (fun h => he h.1 : ¬ (e = 0 ∧ k = sizeN v))] at hg3
    have H3 := hid hg3
    have heb : ((e : Int) == 0) = false := by simp; omega
    clear hf hg3
    go_enter Try.func4, Try.ntmps4
    go_wp2_with fail
    refine (live1_any _).mono ?_
    rintro e' w1 ⟨rfl, hb1⟩
    have hr1 := hR.rd.below hb1
    go_wp2_with fail
    refine (H1.out _ hr1).mono ?_
    rintro e' w2 ⟨rfl, rfl⟩
    go_wp2_with fail
    refine (H2.out _ hr1).mono ?_
    rintro e' w2 ⟨rfl, rfl⟩
    go_wp2_with fail
    refine (H3.out _ hr1).mono ?_
    rintro e' w2 ⟨rfl, rfl⟩
    go_wp2_with fail
    go_ret
    exact ⟨rfl, hb1⟩
set_option maxRecDepth 100000 in
set_option maxHeartbeats 400000 in
theorem zigs_any (n u : Int) (w : World) (h1 : -9223372036854775808 ≤ n) (h2 : n ≤ 9223372036854775807) (h3 : 0 ≤ u) (h4 : u ≤ 18446744073709551615) :
    Calls Try.prog 6 #[.int .i64 n, .int .u64 u] w fun e w' => e = .returned (.bool true) ∧ Below w.heap.size w w' := by
  have hr := zig_range n h1 h2
  have hr2 := zag_range u h3 h4
  go_enter Try.func6, Try.ntmps6
  go_wp2_with fail
  refine (live1_any _).mono ?_
  rintro e w1 ⟨rfl, hb1⟩
  go_wp2_with fail
  refine (zig_any n _ h1 h2).mono ?_
  rintro e w2 ⟨rfl, rfl⟩
  go_wp2_with fail
  refine (rzig_any n _ h1 h2).mono ?_
  rintro e w2 ⟨rfl, rfl⟩
  go_wp2_with fail
  refine (zag_any (zig n) _ hr.1 hr.2).mono ?_
  rw [zag_zig]
  rintro e w2 ⟨rfl, rfl⟩
  go_wp2_with fail
  refine (zag_any u _ h3 h4).mono ?_
  rintro e w2 ⟨rfl, rfl⟩
  go_wp2_with fail
  refine (zig_any (zag u) _ hr2.1 hr2.2).mono ?_
  rw [zig_zag u h3]
  rintro e w2 ⟨rfl, rfl⟩
  go_wp2_with fail
  go_ret
  exact ⟨rfl, hb1⟩
end Go.Proofs.Ytoakedonbjfgoaa
