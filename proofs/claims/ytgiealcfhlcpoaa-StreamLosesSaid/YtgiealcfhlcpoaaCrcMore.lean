/- crc.More, crc.Of; the document's From and Of. -/
import Derived.Test.YtgiealcfhlcpoaaCrcTable
import Derived.WalkLawsBesides
set_option linter.unusedVariables false
namespace Go.Proofs.Ytgiealcfhlcpoaa
open Go.RowKit
def C.more (s : Nat) (bs : List UInt8) : Nat := 4294967295 ^^^ C.feed (4294967295 ^^^ s) bs
theorem feed_take (s : Nat) (bs : List UInt8) (k : Nat) (h : k < bs.length) : C.feed s (bs.take (k + 1)) = C.it 8 (C.feed s (bs.take k) ^^^ bs[k].toNat) := by
  rw [List.take_succ_eq_append_getElem h, C.feed_snoc]
theorem TAB_get (j : Nat) (hj : j < 16) : TAB.toArray[j]? = some (.int .u32 (C.it 4 j : Nat)) := by simp [TAB, hj]
set_option maxRecDepth 100000 in
set_option maxHeartbeats 2000000 in
theorem cmore_any (s : Nat) (bs : List UInt8) (n : Nat) (A : Option Addr) (c : Nat) (w : World) (hs : s ≤ 4294967295) (hn : bs.length = n) (hl : n ≤ 1000000) (hS : Sl w A c (bs.map bv)) :
    Calls Try.prog 42 #[.int .u32 (s : Int), .slice A n c] w fun e w' => e = .returned (.int .u32 (C.more s bs : Nat)) ∧ Below w.heap.size w w' := by
  have ht := fun W => (callsIn_wide (n := 3)).1 (ctable_in 3 (by omega) W)
  have hg : ∀ x, x < 16 → TAB.toArray[x]? = some (.int .u32 (C.it 4 x : Nat)) := TAB_get
  obtain ⟨t0, t1, t2, t3, t4, t5, t6, t7, t8, t9, t10, t11, t12, t13, t14, t15, hT⟩ : ∃ t0 t1 t2 t3 t4 t5 t6 t7 t8 t9 t10 t11 t12 t13 t14 t15 : Nat, TAB.toArray = #[.int .u32 (t0 : Nat), .int .u32 (t1 : Nat), .int .u32 (t2 : Nat), .int .u32 (t3 : Nat), .int .u32 (t4 : Nat), .int .u32 (t5 : Nat), .int .u32 (t6 : Nat), .int .u32 (t7 : Nat), .int .u32 (t8 : Nat), .int .u32 (t9 : Nat), .int .u32 (t10 : Nat), .int .u32 (t11 : Nat), .int .u32 (t12 : Nat), .int .u32 (t13 : Nat), .int .u32 (t14 : Nat), .int .u32 (t15 : Nat)] := ⟨_, _, _, _, _, _, _, _, _, _, _, _, _, _, _, _, rfl⟩
  rw [hT] at hg
  simp only [hT] at ht
  have HG := hid hg
  clear hg hT
  have HT := hid ht
  have HS := hid hS
  have HN := hid hn
  clear ht hS hn
  go_enter Try.func42, Try.ntmps42
  go_wp2_with fail
  refine (HT.out _).mono ?_
  rintro e w1 ⟨rfl, hb1⟩
  go_wp2_with fail
  obtain ⟨B, hB⟩ : ∃ B, w1.heap.size = B := ⟨_, rfl⟩
  obtain ⟨W, hW⟩ : ∃ W, w1.alloc (.cells #[.int .u32 (t0 : Nat), .int .u32 (t1 : Nat), .int .u32 (t2 : Nat), .int .u32 (t3 : Nat), .int .u32 (t4 : Nat), .int .u32 (t5 : Nat), .int .u32 (t6 : Nat), .int .u32 (t7 : Nat), .int .u32 (t8 : Nat), .int .u32 (t9 : Nat), .int .u32 (t10 : Nat), .int .u32 (t11 : Nat), .int .u32 (t12 : Nat), .int .u32 (t13 : Nat), .int .u32 (t14 : Nat), .int .u32 (t15 : Nat)] 93) = W := ⟨_, rfl⟩
  have hk : Blk W B 93 #[.int .u32 (t0 : Nat), .int .u32 (t1 : Nat), .int .u32 (t2 : Nat), .int .u32 (t3 : Nat), .int .u32 (t4 : Nat), .int .u32 (t5 : Nat), .int .u32 (t6 : Nat), .int .u32 (t7 : Nat), .int .u32 (t8 : Nat), .int .u32 (t9 : Nat), .int .u32 (t10 : Nat), .int .u32 (t11 : Nat), .int .u32 (t12 : Nat), .int .u32 (t13 : Nat), .int .u32 (t14 : Nat), .int .u32 (t15 : Nat)] := by rw [← hW, ← hB]; exact Blk.new w1 _ _
  have hbW : Below w.heap.size w W := by rw [← hW]; exact bw_a hb1 _
  rw [hW, hB]
  have hcell : ∀ x, x < 16 → W.cell? ⟨B, x, none⟩ = some (.int .u32 (C.it 4 x : Nat)) := fun x hx => (hk.cell x).trans (HG.out x hx)
  have HC := hid hcell
  have HW := hid hbW
  have HSW := hid (HS.out.below hbW)
  have hBl := hk.lt
  clear hW hcell hbW hk hb1 hB HS
  go_loop [6, 14] (fun v i => ∃ (k s1 : Nat), k ≤ n ∧ i = .int .i64 (k : Int) ∧ v = .int .u32 (s1 : Int) ∧ s1 = C.feed (4294967295 ^^^ s) (bs.take k)) (fun _ i => n - (intOf i).toNat)
  case atStart =>
    exact ⟨0, 4294967295 ^^^ s, by omega, rfl, by rw [show IntKind.u32.max = ((4294967295 : Nat) : Int) from rfl, u32_xor_nat _ _ (by omega) (by omega)], rfl⟩
  case round =>
    obtain ⟨k, s1, hk, rfl, rfl, hs1⟩ := hrel
    have hlt1 : s1 ≤ 4294967295 := by
      have h1 := C.feed_lt (s := 4294967295 ^^^ s) (Nat.xor_lt_two_pow (n := 32) (by omega) (by omega)) (bs.take k)
      omega
    by_cases hlt : k < n
    · have hkl : k < bs.length := by have := HN.out; omega
      obtain ⟨b, off, rfl, hbl, hc⟩ := BRd.at_ HSW.out.rd hkl
      have hft := feed_take (4294967295 ^^^ s) bs k hkl
      rw [← hs1] at hft
      have hx := bs[k].toNat_lt
      generalize bs[k].toNat = x at *
      have e1 := u32_xor_nat s1 x (by omega) (by omega)
      have hl2 : s1 ^^^ x ≤ 4294967295 := by
        have := Nat.xor_lt_two_pow (n := 32) (x := s1) (y := x) (by omega) (by omega); omega
      have HFT := hid hft
      have HS1 := hid hs1
      clear hft hs1
      generalize hs2 : s1 ^^^ x = s2 at *
      have c1 := HC.out (s2 % 16) (by omega)
      have hji : (k : Int) < (n : Int) := by omega
      have HS2 := hid hs2
      have hi1 := C.it_lt (s := s2 % 16) (by omega) 4
      have hq3 := C.it4 s2
      have hi3 := C.it_lt (s := s2) (by omega) 4
      have e2 := u32_xor_nat (s2 / 16) (C.it 4 (s2 % 16)) (by omega) (by omega)
      rw [← hq3, show ((s2 / 16 : Nat) : Int) = (s2 : Int) / 16 from by omega] at e2
      generalize C.it 4 (s2 % 16) = a at *
      generalize hs3 : C.it 4 s2 = s3 at *
      have c2 := HC.out (s3 % 16) (by omega)
      have hi2 := C.it_lt (s := s3 % 16) (by omega) 4
      have hq4 := C.it4 s3
      have hi4 := C.it_lt (s := s3) (by omega) 4
      have e3 := u32_xor_nat (s3 / 16) (C.it 4 (s3 % 16)) (by omega) (by omega)
      rw [← hq4, show ((s3 / 16 : Nat) : Int) = (s3 : Int) / 16 from by omega] at e3
      generalize C.it 4 (s3 % 16) = a2 at *
      generalize hs4 : C.it 4 s3 = s4 at *
      have HS3 := hid hs3
      have HS4 := hid hs4
      clear hs2 hq3 hq4 hs3 hs4
      go_wp2_with fail
      go_round
      case rel =>
        refine ⟨k + 1, s4, by omega, by go_num, rfl, ?_⟩
        have h8 := C.it_add 4 4 s2
        rw [HS3.out, HS4.out] at h8
        rw [HFT.out]
        exact h8.symm
      case measure => simp [intOf]; omega
    · obtain rfl : k = n := by omega
      have HS1 := hid hs1
      clear hs1
      go_wp2_with fail
      go_ret
      refine ⟨?_, HW.out⟩
      rw [show IntKind.u32.max = ((4294967295 : Nat) : Int) from rfl, u32_xor_nat _ _ (by omega) (by omega), HS1.out, List.take_of_length_le (by have := HN.out; omega)]
      rfl
theorem C.more_zero (bs : List UInt8) : C.more 0 bs = C.sum bs := by unfold C.more C.sum; rw [Nat.xor_zero]
theorem C.more_sum (a b : List UInt8) : C.more (C.sum a) b = C.sum (a ++ b) := by unfold C.more C.sum; rw [C.not_not, C.feed_app]
theorem cof_any (bs : List UInt8) (n : Nat) (A : Option Addr) (c : Nat) (w : World) (hn : bs.length = n) (hl : n ≤ 1000000) (hS : Sl w A c (bs.map bv)) :
    Calls Try.prog 37 #[.slice A n c] w fun e w' => e = .returned (.int .u32 (C.sum bs : Nat)) ∧ Below w.heap.size w w' := by
  have hm := cmore_any 0 bs n A c w (by omega) hn hl hS
  rw [C.more_zero] at hm
  have HM := hid hm
  clear hm hn hS
  go_enter Try.func37, Try.ntmps37
  go_wp2_with fail
  refine HM.out.mono ?_
  rintro e w1 ⟨rfl, hb⟩
  go_wp2_with fail
  go_ret
  exact ⟨rfl, hb⟩
/-- Eight steps by a byte's bits. -/
theorem stp8 (s x k : Nat) : C.stp (C.it k (s ^^^ x % 2 ^ k)) (decide (x / 2 ^ k % 2 = 1)) = C.it (k + 1) (s ^^^ x % 2 ^ (k + 1)) := C.stp_bits s x k
set_option maxRecDepth 100000 in
set_option maxHeartbeats 2000000 in
theorem rfrom_any (s : Nat) (bs : List UInt8) (n : Nat) (A : Option Addr) (c : Nat) (w : World) (hs : s ≤ 4294967295) (hn : bs.length = n) (hl : n ≤ 1000000) (hS : Sl w A c (bs.map bv)) :
    Calls Try.prog 32 #[.int .u32 (s : Int), .slice A n c] w fun e w' => e = .returned (.int .u32 (C.feed s bs : Nat)) ∧ w' = w := by
  have HS := hid hS
  have HN := hid hn
  clear hS hn
  go_enter Try.func32, Try.ntmps32
  go_wp2_with fail
  go_loop [0, 5, 6, 7] (fun v i _ _ => ∃ (k s1 : Nat), k ≤ n ∧ i = .int .i64 (k : Int) ∧ v = .int .u32 (s1 : Int) ∧ s1 = C.feed s (bs.take k)) (fun _ i _ _ => n - (intOf i).toNat)
  case atStart => exact ⟨0, s, by omega, rfl, rfl, rfl⟩
  case round =>
    obtain ⟨k, s1, hk, rfl, rfl, hs1⟩ := hrel
    have hlt1 : s1 ≤ 4294967295 := by
      have h1 := C.feed_lt (s := s) (by omega) (bs.take k)
      omega
    by_cases hlt : k < n
    · have hkl : k < bs.length := by have := HN.out; omega
      obtain ⟨b, off, rfl, hbl, hc⟩ := BRd.at_ HS.out.rd hkl
      have hft := feed_take s bs k hkl
      rw [← hs1] at hft
      have hx := bs[k].toNat_lt
      generalize bs[k].toNat = x at *
      have HFT := hid hft
      have HS1 := hid hs1
      have hji : (k : Int) < (n : Int) := by omega
      clear hft hs1
      go_wp2_with fail
      go_loop [0, 6, 7] (fun v y i => ∃ (j s2 y2 : Nat), j ≤ 8 ∧ i = .int .i64 (j : Int) ∧ v = .int .u32 (s2 : Int) ∧ y = .int .u8 (y2 : Int) ∧ s2 = C.it j (s1 ^^^ x % 2 ^ j) ∧ y2 = x / 2 ^ j) (fun _ _ i => 8 - (intOf i).toNat)
      case atStart => exact ⟨0, s1, x, by omega, rfl, rfl, rfl, by simp [C.it, Nat.mod_one], by simp⟩
      case round =>
        obtain ⟨j, s2, y2, hj, rfl, rfl, rfl, hs2, hy2⟩ := hrel
        by_cases hj8 : j < 8
        · have hst := stp8 s1 x j
          rw [← hs2, ← hy2] at hst
          have hl2 : s2 ≤ 4294967295 := by
            have h1 := C.it_lt (s := s1 ^^^ x % 2 ^ j) (Nat.xor_lt_two_pow (n := 32) (by omega) (by have := Nat.mod_le x (2 ^ j); omega)) j
            omega
          have hy3 : y2 ≤ 255 := by rw [hy2]; have := Nat.div_le_self x (2 ^ j); omega
          have hy4 : y2 / 2 = x / 2 ^ (j + 1) := by rw [hy2, Nat.div_div_eq_div_mul, Nat.pow_succ]
          have hbit : ((y2 : Int) % 2 == 1) = decide (y2 % 2 = 1) := by rw [Bool.eq_iff_iff]; simp; omega
          have hstep := rstep_any s2 (decide (y2 % 2 = 1)) w hl2
          have HSTEP := hid hstep
          have HST := hid hst
          have HY4 := hid hy4
          clear hstep hst hy4 hs2 hy2
          generalize decide (y2 % 2 = 1) = bit at *
          go_wp2_with (go_at_call 38; refine HSTEP.out.mono ?_; rintro e w' ⟨rfl, rfl⟩)
          go_round
          case rel => exact ⟨j + 1, C.stp s2 bit, y2 / 2, by omega, by go_num, rfl, by go_num, HST.out, HY4.out⟩
          case measure => simp [intOf]; omega
        · obtain rfl : j = 8 := by omega
          have HS2 := hid hs2
          clear hs2 hy2
          go_wp2_with fail
          go_round
          case rel =>
            refine ⟨k + 1, s2, by omega, by go_num, rfl, ?_⟩
            rw [HFT.out, HS2.out, show x % 2 ^ 8 = x from by omega]
          case measure => simp [intOf]; omega
    · obtain rfl : k = n := by omega
      have HS1 := hid hs1
      clear hs1
      go_wp2_with fail
      go_ret
      exact ⟨ret_int (by rw [HS1.out, List.take_of_length_le (by have := HN.out; omega)]), rfl⟩
theorem rof_any (bs : List UInt8) (n : Nat) (A : Option Addr) (c : Nat) (w : World) (hn : bs.length = n) (hl : n ≤ 1000000) (hS : Sl w A c (bs.map bv)) :
    Calls Try.prog 24 #[.slice A n c] w fun e w' => e = .returned (.int .u32 (C.sum bs : Nat)) ∧ w' = w := by
  have hm := rfrom_any 4294967295 bs n A c w (by omega) hn hl hS
  have hf := C.feed_lt (s := 4294967295) (by omega) bs
  have hx := u32_xor_nat (C.feed 4294967295 bs) 4294967295 hf (by omega)
  rw [Nat.xor_comm] at hx
  have hsum : C.sum bs = 4294967295 ^^^ C.feed 4294967295 bs := rfl
  rw [← hsum] at hx
  generalize C.sum bs = r at *
  generalize C.feed 4294967295 bs = f at *
  have HM := hid hm
  have HX := hid hx
  clear hm hn hS hsum hx
  go_enter Try.func24, Try.ntmps24
  go_wp2_with fail
  refine HM.out.mono ?_
  rintro e w1 ⟨rfl, rfl⟩
  go_wp2_with fail
  go_ret
  exact ⟨ret_int HX.out, rfl⟩
end Go.Proofs.Ytgiealcfhlcpoaa
