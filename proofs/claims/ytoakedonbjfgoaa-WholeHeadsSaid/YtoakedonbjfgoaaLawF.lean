/- The walks of TagBack and TagFixed. -/
import Derived.Test.YtoakedonbjfgoaaLawE
set_option linter.unusedVariables false
namespace Go.Proofs.Ytoakedonbjfgoaa
open Go.RowKit
theorem mk_ok_inv {n x : Int} (h : (mk n x).2 = 0) : 1 ≤ n ∧ n ≤ 536870911 ∧ wireB x = true ∧ mk n x = (8 * n + x, 0) := by
  unfold mk at h ⊢
  split
  · rename_i h'; rw [if_pos h'] at h; simp at h
  · rename_i h'; rw [if_neg h'] at h
    split
    · rename_i h''; rw [if_pos h''] at h; simp at h
    · rename_i h''; exact ⟨by omega, by omega, by simpa using h'', rfl⟩
theorem spl_mk {n x : Int} (h : (mk n x).2 = 0) : spl (mk n x).1 = (n, x, 0) := by
  obtain ⟨h1, h2, hw, he⟩ := mk_ok_inv h
  have hl := wireB_lt hw
  rw [he]
  have e1 : (8 * n + x) / 8 = n := by omega
  have e2 : (8 * n + x) % 8 = x := by omega
  have := spl_ok (n := 8 * n + x) (by rw [e1]; exact h1) (by rw [e1]; exact h2) (by rw [e2]; exact hw)
  rw [this, e1, e2]
theorem spl_ok_inv {n : Int} (h : (spl n).2.2 = 0) : 1 ≤ n / 8 ∧ n / 8 ≤ 536870911 ∧ wireB (n % 8) = true ∧ spl n = (n / 8, n % 8, 0) := by
  unfold spl at h ⊢
  split
  · rename_i h'; rw [if_pos h'] at h; simp at h
  · rename_i h'; rw [if_neg h'] at h
    split
    · rename_i h''; rw [if_pos h''] at h; simp at h
    · rename_i h''; exact ⟨by omega, by omega, by simpa using h'', rfl⟩
theorem mk_spl {n : Int} (h : (spl n).2.2 = 0) : mk (spl n).1 (spl n).2.1 = (n, 0) := by
  obtain ⟨h1, h2, hw, he⟩ := spl_ok_inv h
  rw [he, mk_ok h1 h2 hw]
  congr 1; omega
theorem spl_range (n : Int) : 0 ≤ (spl n).2.1 ∧ (spl n).2.1 ≤ 255 := by
  unfold spl
  split
  · simp
  · split
    · simp
    · simp; omega
set_option maxRecDepth 100000 in
set_option maxHeartbeats 1000000 in
theorem tagBack_any (num : Int) (x n : Nat) (w : World) (h2 : x ≤ 255) (h3 : n ≤ 18446744073709551615) :
    Calls Try.prog 10 #[.int .i64 num, .int .u8 (x : Int), .int .u64 (n : Int)] w fun e w' => e = .returned (.bool true) ∧ Below w.heap.size w w' := by
  have hx0 : (0 : Int) ≤ x := by omega
  have hx1 : (x : Int) ≤ 255 := by omega
  have hf := mk_facts num x hx0 hx1
  have g1 := fun W => make_any num x W hx0 hx1
  have g2 := fun W => split_any (n : Int) W (by omega) (by omega)
  have g3 := fun W => split_any (mk num x).1 W (by omega) (by omega)
  have hsm := spl_mk (n := num) (x := x)
  have hms := mk_spl (n := (n : Int))
  have hr := spl_range (n : Int)
  have g4 := fun W => make_any (spl (n : Int)).1 (spl (n : Int)).2.1 W hr.1 hr.2
  generalize mk num x = g at *
  obtain ⟨v, e⟩ := g
  generalize spl (n : Int) = s at *
  obtain ⟨a, b, f⟩ := s
  simp only at hf g1 g2 g3 hsm hms hr g4
  have H1 := hid g1
  have H2 := hid g2
  clear g1 g2
  by_cases he : e = 0
  · rw [hsm he] at g3
    have H3 := hid g3
    have heb : (e == 0) = true := by simpa using he
    clear hsm g3
    by_cases hf0 : f = 0
    · rw [hms hf0] at g4
      have H4 := hid g4
      have hfb : (f == 0) = true := by simpa using hf0
      clear hms g4 he hf0
      go_enter Try.func10, Try.ntmps10
      go_wp2_with fail
      refine (live2_any _).mono ?_
      rintro e' w1 ⟨rfl, hb1⟩
      go_wp2_with fail
      refine (H1.out _).mono ?_
      rintro e' w2 ⟨rfl, rfl⟩
      go_wp2_with fail
      refine (H3.out _).mono ?_
      rintro e' w2 ⟨rfl, rfl⟩
      go_wp2_with fail
      refine (H2.out _).mono ?_
      rintro e' w2 ⟨rfl, rfl⟩
      go_wp2_with fail
      refine (H4.out _).mono ?_
      rintro e' w2 ⟨rfl, rfl⟩
      go_wp2_with fail
      go_ret
      exact ⟨rfl, hb1⟩
    · have hfb : (f == 0) = false := by simpa using hf0
      clear hms g4
      go_enter Try.func10, Try.ntmps10
      go_wp2_with fail
      refine (live2_any _).mono ?_
      rintro e' w1 ⟨rfl, hb1⟩
      go_wp2_with fail
      refine (H1.out _).mono ?_
      rintro e' w2 ⟨rfl, rfl⟩
      go_wp2_with fail
      refine (H3.out _).mono ?_
      rintro e' w2 ⟨rfl, rfl⟩
      go_wp2_with fail
      refine (H2.out _).mono ?_
      rintro e' w2 ⟨rfl, rfl⟩
      go_wp2_with fail
      go_ret
      exact ⟨rfl, hb1⟩
  · have heb : (e == 0) = false := by simpa using he
    clear hsm g3
    by_cases hf0 : f = 0
    · rw [hms hf0] at g4
      have H4 := hid g4
      have hfb : (f == 0) = true := by simpa using hf0
      clear hms g4 hf0
      go_enter Try.func10, Try.ntmps10
      go_wp2_with fail
      refine (live2_any _).mono ?_
      rintro e' w1 ⟨rfl, hb1⟩
      go_wp2_with fail
      refine (H1.out _).mono ?_
      rintro e' w2 ⟨rfl, rfl⟩
      go_wp2_with fail
      refine (H2.out _).mono ?_
      rintro e' w2 ⟨rfl, rfl⟩
      go_wp2_with fail
      refine (H4.out _).mono ?_
      rintro e' w2 ⟨rfl, rfl⟩
      go_wp2_with fail
      go_ret
      exact ⟨rfl, hb1⟩
    · have hfb : (f == 0) = false := by simpa using hf0
      clear hms g4
      go_enter Try.func10, Try.ntmps10
      go_wp2_with fail
      refine (live2_any _).mono ?_
      rintro e' w1 ⟨rfl, hb1⟩
      go_wp2_with fail
      refine (H1.out _).mono ?_
      rintro e' w2 ⟨rfl, rfl⟩
      go_wp2_with fail
      refine (H2.out _).mono ?_
      rintro e' w2 ⟨rfl, rfl⟩
      go_wp2_with fail
      go_ret
      exact ⟨rfl, hb1⟩
theorem unfix_at (bs : List UInt8) (n : Nat) (A : Option Addr) (c : Nat) (k : Nat) (kk : Int) (w : World) (hkk : kk = (k : Int)) (hn : bs.length = n) (hk1 : 1 ≤ k) (hk : k ≤ 8) (hle : k ≤ n) (hl : n ≤ 9223372036854775807) (hR : BRd w A bs) :
    Calls Try.prog 38 #[.slice A n c, .int .i64 kk] w fun e w' => e = .returned (.int .u64 (unfixN (bs.take k))) ∧ w = w' := by
  subst hn; subst hkk; exact unfix_any bs A c k w hk1 hk hle hl hR
theorem rfix_at (n : Nat) (k : Nat) (kk : Int) (w : World) (hkk : kk = (k : Int)) (h64 : n ≤ 18446744073709551615) (hk : k ≤ 1000) :
    Calls Try.prog 35 #[.int .u64 (n : Int), .int .i64 kk] w fun e W' => ∃ A c, e = .returned (.slice A k c) ∧ Sl W' A c ((fixN k n).map bv) ∧ Below w.heap.size w W' := by
  subst hkk
  have := rfix_any n k w h64 hk
  rwa [length_fixN] at this
theorem get32_back (n : Nat) (h : n ≤ 4294967295) : (unfixN ((fixN 4 n).take 4) : Int) = n := by
  rw [List.take_of_length_le (by rw [length_fixN]; omega), unfix_fix 4 n (by omega)]
theorem get64_back (n : Nat) (h : n ≤ 18446744073709551615) : (unfixN ((fixN 8 n).take 8) : Int) = n := by
  rw [List.take_of_length_le (by rw [length_fixN]; omega), unfix_fix 8 n (by omega)]
set_option maxRecDepth 100000 in
set_option maxHeartbeats 2000000 in
theorem tagFixed_any (m n : Nat) (bs : List UInt8) (nb : Nat) (A : Option Addr) (c : Nat) (x : Nat) (w : World) (hm : m ≤ 4294967295) (h64 : n ≤ 18446744073709551615) (hnb : bs.length = nb) (hb : Sl w A c (bs.map bv)) (hx : x ≤ 255) :
    Calls Try.prog 11 #[.int .u32 (m : Int), .int .u64 (n : Int), .slice A nb c, .int .u8 (x : Int)] w fun e w' => e = .returned (.bool true) ∧ Below w.heap.size w w' := by
  have hl : nb ≤ 9223372036854775807 := by have h1 := hb.cap; have h2 := hb.small; simp only [List.length_map] at h1; omega
  go_enter Try.func11, Try.ntmps11
  go_wp2_with fail
  refine (live2_any _).mono ?_
  rintro e' w1 ⟨rfl, hb1⟩
  go_wp2_with fail
  refine (fix32_any m hm _).mono ?_
  rintro e' w2 ⟨A2, c2, rfl, hs2, hb2⟩
  go_wp2_with fail
  refine (fix64_any n h64 _).mono ?_
  rintro e' w3 ⟨A3, c3, rfl, hs3, hb3⟩
  go_wp2_with fail
  refine (rfix_at m 4 _ _ rfl (by omega) (by omega)).mono ?_
  rintro e' w4 ⟨A4, c4, rfl, hs4, hb4⟩
  have hs24 := hs2.below (bw_t hb3 hb4)
  go_wp2_with fail
  refine (same_at (fixN 4 m) (fixN 4 m) _ _ _ _ _ _ _ (length_fixN _ _) (length_fixN _ _) (by omega) hs24.rd hs4.rd).mono ?_
  rw [decide_eq_true (rfl : fixN 4 m = fixN 4 m)]
  rintro e' w5 ⟨rfl, k5, rfl⟩
  have hB5 := bw_d (bw_t (bw_t (bw_t hb1 hb2) hb3) hb4) k5
  have hs25 := hs24.drewN k5
  have hs35 := (hs3.below hb4).drewN k5
  have hb35 := bw_d hb4 k5
  generalize w4.drewN k5 = w5 at *
  go_wp2_with fail
  refine (rfix_at n 8 _ _ rfl h64 (by omega)).mono ?_
  rintro e' w6 ⟨A6, c6, rfl, hs6, hb6⟩
  have hs36 := hs35.below hb6
  go_wp2_with fail
  refine (same_at (fixN 8 n) (fixN 8 n) _ _ _ _ _ _ _ (length_fixN _ _) (length_fixN _ _) (by omega) hs36.rd hs6.rd).mono ?_
  rw [decide_eq_true (rfl : fixN 8 n = fixN 8 n)]
  rintro e' w7 ⟨rfl, k7, rfl⟩
  have hB7 := bw_d (bw_t hB5 hb6) k7
  have hs27 := (hs25.below hb6).drewN k7
  have hs37 := hs36.drewN k7
  generalize w6.drewN k7 = w7 at *
  go_wp2_with fail
  refine (get32_at (fixN 4 m) 4 _ _ _ (m : Int) 0 (length_fixN _ _) hs27 (by rw [if_neg (by omega), get32_back m hm]) rfl).mono ?_
  rintro e' w8 ⟨rfl, rfl⟩
  go_wp2_with fail
  refine (get64_at (fixN 8 n) 8 _ _ _ (n : Int) 0 (length_fixN _ _) hs37 (by rw [if_neg (by omega), get64_back n h64]) rfl).mono ?_
  rintro e' w8 ⟨rfl, rfl⟩
  have hr7 := hb.below hB7
  go_wp2_with fail
  have hx0 : (0 : Int) ≤ x := by omega
  have hx1 : (x : Int) ≤ 255 := by omega
  have hU4 := fun (W : World) (h : 4 ≤ nb) hr => unfix_at bs nb A c 4 4 W rfl hnb (by omega) (by omega) h hl hr
  have hU8 := fun (W : World) (h : 8 ≤ nb) hr => unfix_at bs nb A c 8 8 W rfl hnb (by omega) (by omega) h hl hr
  have hv4 : 4 ≤ nb → unfixN (bs.take 4) ≤ 4294967295 := fun h => by have := unfixN_take_lt bs 4 (by omega); omega
  have hg4 : 4 ≤ nb → ∀ W : World, Sl W A c (bs.map bv) → Calls Try.prog 36 #[.slice A nb c] W fun e w' => e = .returned (.tuple #[.int .u32 (unfixN (bs.take 4) : Int), .int .i64 0]) ∧ W = w' := fun h W hr => get32_at bs nb A c W _ 0 hnb hr (by rw [if_neg (by omega)]) (by rw [if_neg (by omega)])
  have hg8 : 8 ≤ nb → ∀ W : World, Sl W A c (bs.map bv) → Calls Try.prog 37 #[.slice A nb c] W fun e w' => e = .returned (.tuple #[.int .u64 (unfixN (bs.take 8) : Int), .int .i64 0]) ∧ W = w' := fun h W hr => get64_at bs nb A c W _ 0 hnb hr (by rw [if_neg (by omega)]) (by rw [if_neg (by omega)])
  generalize unfixN (bs.take 4) = u4 at *
  generalize unfixN (bs.take 8) = u8 at *
  have HU4 := hid hU4
  have HU8 := hid hU8
  have HG4 := hid hg4
  have HG8 := hid hg8
  clear hU4 hU8 hg4 hg8
  rcases (show nb < 4 ∨ (4 ≤ nb ∧ nb < 8) ∨ 8 ≤ nb by omega) with c4 | c4 | c4
  · refine (get32_at bs nb _ _ _ 0 4 hnb hr7 (by rw [if_pos (by omega)]) (by rw [if_pos (by omega)])).mono ?_
    rintro e' w8 ⟨rfl, rfl⟩
    go_wp2_with fail
    refine (get64_at bs nb _ _ _ 0 4 hnb hr7 (by rw [if_pos (by omega)]) (by rw [if_pos (by omega)])).mono ?_
    rintro e' w8 ⟨rfl, rfl⟩
    go_wp2_with fail
    refine (width_any x _ hx0 hx1).mono ?_
    rintro e' w8 ⟨rfl, rfl⟩
    have hw := fun W => wire_any (x : Int) W
    have HW := hid hw
    clear hw
    generalize wireB (x : Int) = wb at *
    by_cases x1 : x = 1
    · subst x1
      rw [show widthN ((1 : Nat) : Int) = 8 from by decide]
      go_wp2_with fail
      refine (HW.out _).mono ?_
      rintro e' w9 ⟨rfl, rfl⟩
      go_wp2_with fail
      go_ret
      exact ⟨by cases wb <;> rfl, hB7⟩
    by_cases x5 : x = 5
    · subst x5
      rw [show widthN ((5 : Nat) : Int) = 4 from by decide]
      go_wp2_with fail
      refine (HW.out _).mono ?_
      rintro e' w9 ⟨rfl, rfl⟩
      go_wp2_with fail
      go_ret
      exact ⟨by cases wb <;> rfl, hB7⟩
    · have e1 : ((x : Int) == 1) = false := by simp; omega
      have e5 : ((x : Int) == 5) = false := by simp; omega
      rw [show widthN (x : Int) = 0 from by unfold widthN; rw [if_neg (by omega), if_neg (by omega)]]
      go_wp2_with fail
      refine (HW.out _).mono ?_
      rintro e' w9 ⟨rfl, rfl⟩
      go_wp2_with fail
      go_ret
      exact ⟨by cases wb <;> rfl, hB7⟩
  · have h4 := hv4 c4.1
    refine (HG4.out c4.1 _ hr7).mono ?_
    rintro e' w8 ⟨rfl, rfl⟩
    go_wp2_with fail
    refine (get64_at bs nb _ _ _ 0 4 hnb hr7 (by rw [if_pos (by omega)]) (by rw [if_pos (by omega)])).mono ?_
    rintro e' w8 ⟨rfl, rfl⟩
    obtain ⟨c41, c42⟩ := c4
    go_wp2_with fail
    refine (HU4.out _ c41 hr7.rd).mono ?_
    rintro e' w8 ⟨rfl, rfl⟩
    go_wp2_with fail
    refine (width_any x _ hx0 hx1).mono ?_
    rintro e' w8 ⟨rfl, rfl⟩
    have hw := fun W => wire_any (x : Int) W
    have HW := hid hw
    clear hw
    generalize wireB (x : Int) = wb at *
    by_cases x1 : x = 1
    · subst x1
      rw [show widthN ((1 : Nat) : Int) = 8 from by decide]
      go_wp2_with fail
      refine (HW.out _).mono ?_
      rintro e' w9 ⟨rfl, rfl⟩
      go_wp2_with fail
      go_ret
      exact ⟨by cases wb <;> rfl, hB7⟩
    by_cases x5 : x = 5
    · subst x5
      rw [show widthN ((5 : Nat) : Int) = 4 from by decide]
      go_wp2_with fail
      refine (HW.out _).mono ?_
      rintro e' w9 ⟨rfl, rfl⟩
      go_wp2_with fail
      go_ret
      exact ⟨by cases wb <;> rfl, hB7⟩
    · have e1 : ((x : Int) == 1) = false := by simp; omega
      have e5 : ((x : Int) == 5) = false := by simp; omega
      rw [show widthN (x : Int) = 0 from by unfold widthN; rw [if_neg (by omega), if_neg (by omega)]]
      go_wp2_with fail
      refine (HW.out _).mono ?_
      rintro e' w9 ⟨rfl, rfl⟩
      go_wp2_with fail
      go_ret
      exact ⟨by cases wb <;> rfl, hB7⟩
  · have h4 := hv4 (by omega)
    refine (HG4.out (by omega) _ hr7).mono ?_
    rintro e' w8 ⟨rfl, rfl⟩
    go_wp2_with fail
    refine (HG8.out c4 _ hr7).mono ?_
    rintro e' w8 ⟨rfl, rfl⟩
    go_wp2_with fail
    refine (HU4.out _ (by omega) hr7.rd).mono ?_
    rintro e' w8 ⟨rfl, rfl⟩
    go_wp2_with fail
    refine (HU8.out _ c4 hr7.rd).mono ?_
    rintro e' w8 ⟨rfl, rfl⟩
    go_wp2_with fail
    refine (width_any x _ hx0 hx1).mono ?_
    rintro e' w8 ⟨rfl, rfl⟩
    have hw := fun W => wire_any (x : Int) W
    have HW := hid hw
    clear hw
    generalize wireB (x : Int) = wb at *
    by_cases x1 : x = 1
    · subst x1
      rw [show widthN ((1 : Nat) : Int) = 8 from by decide]
      go_wp2_with fail
      refine (HW.out _).mono ?_
      rintro e' w9 ⟨rfl, rfl⟩
      go_wp2_with fail
      go_ret
      exact ⟨by cases wb <;> rfl, hB7⟩
    by_cases x5 : x = 5
    · subst x5
      rw [show widthN ((5 : Nat) : Int) = 4 from by decide]
      go_wp2_with fail
      refine (HW.out _).mono ?_
      rintro e' w9 ⟨rfl, rfl⟩
      go_wp2_with fail
      go_ret
      exact ⟨by cases wb <;> rfl, hB7⟩
    · have e1 : ((x : Int) == 1) = false := by simp; omega
      have e5 : ((x : Int) == 5) = false := by simp; omega
      rw [show widthN (x : Int) = 0 from by unfold widthN; rw [if_neg (by omega), if_neg (by omega)]]
      go_wp2_with fail
      refine (HW.out _).mono ?_
      rintro e' w9 ⟨rfl, rfl⟩
      go_wp2_with fail
      go_ret
      exact ⟨by cases wb <;> rfl, hB7⟩
end Go.Proofs.Ytoakedonbjfgoaa
