/- The walks of layer 2's statements. -/
import Derived.Test.YtoakedonbjfgoaaLawD
set_option linter.unusedVariables false
namespace Go.Proofs.Ytoakedonbjfgoaa
open Go.RowKit
theorem get32_at (bs : List UInt8) (n : Nat) (A : Option Addr) (c : Nat) (w : World) (u v : Int) (hn : bs.length = n) (hR : Sl w A c (bs.map bv)) (hu : u = if n < 4 then 0 else (unfixN (bs.take 4) : Int)) (hv : v = if n < 4 then 4 else 0) :
    Calls Try.prog 36 #[.slice A n c] w fun e w' => e = .returned (.tuple #[.int .u32 u, .int .i64 v]) ∧ w = w' := by
  subst hn; subst hu; subst hv; exact get32_any bs A c w hR
theorem get64_at (bs : List UInt8) (n : Nat) (A : Option Addr) (c : Nat) (w : World) (u v : Int) (hn : bs.length = n) (hR : Sl w A c (bs.map bv)) (hu : u = if n < 8 then 0 else (unfixN (bs.take 8) : Int)) (hv : v = if n < 8 then 4 else 0) :
    Calls Try.prog 37 #[.slice A n c] w fun e w' => e = .returned (.tuple #[.int .u64 u, .int .i64 v]) ∧ w = w' := by
  subst hn; subst hu; subst hv; exact get64_any bs A c w hR
theorem live_get32 (W : World) (N : Nat) (hN : W.heap.size = N) : Calls Try.prog 36 #[.slice (some ⟨N, 0, none⟩) 5 5] (W.alloc (.cells #[.int .u8 2, .int .u8 1, .int .u8 0, .int .u8 0, .int .u8 9] 5)) fun e w' => e = .returned (.tuple #[.int .u32 258, .int .i64 0]) ∧ W.alloc (.cells #[.int .u8 2, .int .u8 1, .int .u8 0, .int .u8 0, .int .u8 9] 5) = w' := by
  subst hN
  exact get32_at [2, 1, 0, 0, 9] 5 _ 5 _ _ _ rfl ⟨by simp, by omega, (fun h => by cases h), Rd.new W 5 #[.int .u8 2, .int .u8 1, .int .u8 0, .int .u8 0, .int .u8 9]⟩ (by decide) (by decide)
theorem live_get64 (W : World) (N : Nat) (hN : W.heap.size = N) : Calls Try.prog 37 #[.slice (some ⟨N, 0, none⟩) 8 8] (W.alloc (.cells #[.int .u8 2, .int .u8 1, .int .u8 0, .int .u8 0, .int .u8 0, .int .u8 0, .int .u8 0, .int .u8 0] 5)) fun e w' => e = .returned (.tuple #[.int .u64 258, .int .i64 0]) ∧ W.alloc (.cells #[.int .u8 2, .int .u8 1, .int .u8 0, .int .u8 0, .int .u8 0, .int .u8 0, .int .u8 0, .int .u8 0] 5) = w' := by
  subst hN
  exact get64_at [2, 1, 0, 0, 0, 0, 0, 0] 8 _ 8 _ _ _ rfl ⟨by simp, by omega, (fun h => by cases h), Rd.new W 5 #[.int .u8 2, .int .u8 1, .int .u8 0, .int .u8 0, .int .u8 0, .int .u8 0, .int .u8 0, .int .u8 0]⟩ (by decide) (by decide)
theorem head_at (n x : Int) (L : Nat) (w : World) (h1 : 0 ≤ x) (h2 : x ≤ 255) (hL : (headL n x).length = L) :
    Calls Try.prog 30 #[.int .i64 n, .int .u8 x] w fun e w' => ∃ A c, e = .returned (.slice A L c) ∧ Sl w' A c ((headL n x).map bv) ∧ Below w.heap.size w w' := by
  subst hL; exact head_any n x w h1 h2
theorem headL12 : headL 1 2 = [10] := by
  unfold headL
  rw [show mk 1 2 = (10, 0) from by decide]
  simp [putN_small (show 10 < 128 by omega)]; decide
theorem headL25 : headL 2 5 = [21] := by
  unfold headL
  rw [show mk 2 5 = (21, 0) from by decide]
  simp [putN_small (show 21 < 128 by omega)]; decide
set_option maxRecDepth 100000 in
set_option maxHeartbeats 1000000 in
theorem live2_any (w : World) : Calls Try.prog 27 #[] w fun e w' => e = .returned (.bool true) ∧ Below w.heap.size w w' := by
  go_enter Try.func27, Try.ntmps27
  go_wp2_with fail
  refine (make_any 1 2 _ (by omega) (by omega)).mono ?_
  rw [show mk 1 2 = (10, 0) from by decide]
  rintro e w1 ⟨rfl, rfl⟩
  go_wp2_with fail
  refine (split_any 10 _ (by omega) (by omega)).mono ?_
  rw [show spl 10 = (1, 2, 0) from by decide]
  rintro e w1 ⟨rfl, rfl⟩
  go_wp2_with fail
  refine (live_get32 _ _ (by simp)).mono ?_
  rintro e w1 ⟨rfl, rfl⟩
  go_wp2_with fail
  refine (live_get64 _ _ (by simp)).mono ?_
  rintro e w1 ⟨rfl, rfl⟩
  go_wp2_with fail
  refine (width_any 5 _ (by omega) (by omega)).mono ?_
  rw [show widthN 5 = 4 from by decide, show wireB 5 = true from by decide]
  rintro e w1 ⟨rfl, rfl⟩
  go_wp2_with fail
  refine (get32_at [] 0 none 0 _ 0 4 rfl (Sl.nil_ _) (by decide) (by decide)).mono ?_
  rintro e w1 ⟨rfl, rfl⟩
  go_wp2_with fail
  have hf32 : ∀ W : World, Calls Try.prog 33 #[.int .u32 1] W _ := fun W => fix32_any 1 (by omega) W
  have hf64 : ∀ W : World, Calls Try.prog 34 #[.int .u64 1] W _ := fun W => fix64_any 1 (by omega) W
  have HF32 := hid hf32
  have HF64 := hid hf64
  clear hf32 hf64
  refine (HF32.out _).mono ?_
  rintro e w1 ⟨A1, c1, rfl, _, hb1⟩
  have hB1 := bw_t (bw_a (bw_a (Below.refl w.heap.size w) _) _) hb1
  go_wp2_with fail
  refine (HF64.out _).mono ?_
  rintro e w2 ⟨A2, c2, rfl, _, hb2⟩
  have hB2 := bw_t hB1 hb2
  go_wp2_with fail
  refine (head_at 1 2 1 _ (by omega) (by omega) (by rw [headL12]; rfl)).mono ?_
  rintro e w3 ⟨A3, c3, rfl, _, hb3⟩
  have hB3 := bw_t hB2 hb3
  go_wp2_with fail
  go_ret
  exact ⟨rfl, hB3⟩
theorem mk_eq (n x : Int) : mk n x = mk n x := rfl
set_option maxRecDepth 100000 in
set_option maxHeartbeats 1000000 in
theorem tagMakes_any (n : Int) (x : Nat) (w : World) (h2 : x ≤ 255) :
    Calls Try.prog 8 #[.int .i64 n, .int .u8 (x : Int)] w fun e w' => e = .returned (.bool true) ∧ Below w.heap.size w w' := by
  have hf := mk_facts n x (by omega) (by omega)
  have h1 := fun W => make_any n x W (by omega) (by omega)
  have h1r := fun W => rmake_any n x W (by omega) (by omega)
  have hh : headL n x = if (mk n x).2 = 0 then putN (mk n x).1.toNat else [] := rfl
  generalize mk n x = g at *
  obtain ⟨v, e⟩ := g
  simp only at hf h1 h1r hh
  have H1 := hid h1
  have H2 := hid h1r
  clear h1 h1r
  have hx0 : (0 : Int) ≤ x := by omega
  have hx1 : (x : Int) ≤ 255 := by omega
  by_cases he : e = 0
  · subst he
    obtain ⟨m, rfl⟩ : ∃ m : Nat, v = (m : Int) := ⟨v.toNat, by omega⟩
    have hm : m ≤ 18446744073709551615 := by omega
    have hhl : headL n x = putN m := by simpa using hh
    have HL := hid hhl
    have hlen := putN_length10 hm
    clear hh hhl
    go_enter Try.func8, Try.ntmps8
    go_wp2_with fail
    refine (live2_any _).mono ?_
    rintro e' w1 ⟨rfl, hb1⟩
    go_wp2_with fail
    refine (H1.out _).mono ?_
    rintro e' w2 ⟨rfl, rfl⟩
    go_wp2_with fail
    refine (H2.out _).mono ?_
    rintro e' w2 ⟨rfl, rfl⟩
    go_wp2_with fail
    refine (head_any n x _ hx0 hx1).mono ?_
    rw [HL.out]
    rintro e' w3 ⟨A3, c3, rfl, hs3, hb3⟩
    go_wp2_with fail
    refine (rput_any m _ hm).mono ?_
    rintro e' w4 ⟨A4, c4, rfl, hs4, hb4⟩
    go_wp2_with fail
    refine (same_at (putN m) (putN m) _ _ _ _ _ _ _ rfl rfl (by omega) (hs3.rd.below hb4) hs4.rd).mono ?_
    rw [decide_eq_true (rfl : putN m = putN m)]
    rintro e' w5 ⟨rfl, k5, rfl⟩
    go_wp2_with fail
    go_ret
    exact ⟨rfl, bw_d (bw_t (bw_t hb1 hb3) hb4) _⟩
  · have heb : (e != 0) = true := by simpa using he
    have heb2 : (e == 0) = false := by simpa using he
    have hhl : headL n x = [] := by simpa [he] using hh
    have HL := hid hhl
    clear hh hhl
    go_enter Try.func8, Try.ntmps8
    go_wp2_with fail
    refine (live2_any _).mono ?_
    rintro e' w1 ⟨rfl, hb1⟩
    go_wp2_with fail
    refine (H1.out _).mono ?_
    rintro e' w2 ⟨rfl, rfl⟩
    go_wp2_with fail
    refine (H2.out _).mono ?_
    rintro e' w2 ⟨rfl, rfl⟩
    go_wp2_with fail
    refine (head_at n x 0 _ hx0 hx1 (by rw [HL.out]; rfl)).mono ?_
    rintro e' w3 ⟨A3, c3, rfl, hs3, hb3⟩
    go_wp2_with fail
    go_ret
    exact ⟨rfl, bw_t hb1 hb3⟩
set_option maxRecDepth 100000 in
set_option maxHeartbeats 1000000 in
theorem tagSplits_any (n : Nat) (w : World) (h2 : n ≤ 18446744073709551615) :
    Calls Try.prog 9 #[.int .u64 (n : Int)] w fun e w' => e = .returned (.bool true) ∧ Below w.heap.size w w' := by
  have h1 := fun W => split_any (n : Int) W (by omega) (by omega)
  have h1r := fun W => rsplit_any (n : Int) W (by omega) (by omega)
  generalize spl (n : Int) = g at *
  obtain ⟨u, v, e⟩ := g
  have H1 := hid h1
  have H2 := hid h1r
  clear h1 h1r
  go_enter Try.func9, Try.ntmps9
  go_wp2_with fail
  refine (live2_any _).mono ?_
  rintro e' w1 ⟨rfl, hb1⟩
  go_wp2_with fail
  refine (H1.out _).mono ?_
  rintro e' w2 ⟨rfl, rfl⟩
  go_wp2_with fail
  refine (H2.out _).mono ?_
  rintro e' w2 ⟨rfl, rfl⟩
  go_wp2_with fail
  go_ret
  exact ⟨rfl, hb1⟩
end Go.Proofs.Ytoakedonbjfgoaa
