/- The walk of CrcBurst. -/
import Derived.Test.YtolafcmaikjioaaLaw7A
import Derived.RegionTactic
import Derived.ChangeAlike
set_option linter.unusedVariables false
namespace Go.Proofs.Ytolafcmaikjioaa
open Go.RowKit
/-- A row of bytes in a block that may be written. -/
structure RowB (W : World) (g : Nat) (cur : Array Value) (bs : List UInt8) : Prop where
  blk : Blk W g 5 cur
  len : bs.length ≤ cur.size
  get : ∀ k (h : k < bs.length), cur[k]? = some (bv bs[k])
theorem RowB.of_own {W : World} {B n : Nat} {v : Value} {bs : List UInt8} (h : W.ownsRow B 5 1 v n (bs.map bv)) (h0 : 0 < n) : ∃ g c cur, v = .slice (some ⟨g, 0, none⟩) n c ∧ B ≤ g ∧ n ≤ c ∧ c ≤ 9223372036854775807 ∧ bs.length = n ∧ RowB W g cur bs := by
  have hn : bs.length = n := by simpa using h.1
  rcases h.2 with ⟨rfl, hx⟩ | ⟨g, cap, cur, rfl, hb, hg, hnc, hcm, hcs, htake⟩
  · omega
  · refine ⟨g, cap, cur, rfl, hb, hnc, hcm, hn, hg, by omega, fun k hk => ?_⟩
    have h1 := h.cells (g := g) rfl k (bv bs[k]) (by simp [hk])
    rw [addr_add] at h1
    have h2 : W.cell? ⟨g, k, none⟩ = cur[k]? := Blk.cell hg k
    rw [← h2]
    simpa using h1
theorem RowB.sl {W : World} {g c : Nat} {cur : Array Value} {bs : List UInt8} (h : RowB W g cur bs) (hc : bs.length ≤ c) (hm : c ≤ 9223372036854775807) : Sl W (some ⟨g, 0, none⟩) c (bs.map bv) := by
  refine ⟨by simpa using hc, hm, (fun h => by cases h), fun k u hk => ⟨g, 0, rfl, h.blk.lt, ?_⟩⟩
  have hk2 : k < bs.length := by have := (List.getElem?_eq_some_iff.1 hk).1; simpa using this
  rw [Nat.zero_add, h.blk.cell, h.get k hk2]
  rw [List.getElem?_map, List.getElem?_eq_getElem hk2] at hk
  exact hk
theorem RowB.set_ {W : World} {g : Nat} {cur : Array Value} {bs : List UInt8} (h : RowB W g cur bs) (j : Nat) (x : UInt8) : RowB (W.setCell ⟨g, j, none⟩ (bv x)) g (cur.setIfInBounds j (bv x)) (bs.set j x) := by
  refine ⟨h.blk.set_ j _, by simpa using h.len, fun k hk => ?_⟩
  rw [List.length_set] at hk
  have hl := h.len
  by_cases e : j = k
  · subst e
    rw [Array.getElem?_setIfInBounds_self_of_lt (by omega)]
    simp
  · rw [Array.getElem?_setIfInBounds_ne e, h.get k hk, List.getElem_set_ne e]
theorem bits_flip (x : UInt8) (m : Nat) (hm : m < 8) : Value.int .u8 (Go.bits .xor .u8 (x.toNat : Int) (2 ^ m % 256)) = bv (UInt8.ofNat (x.toNat ^^^ 2 ^ m)) := by
  have hp : 2 ^ m < 256 := by
    have := Nat.pow_lt_pow_right (a := 2) (by omega) (show m < 8 from hm)
    omega
  have hx := x.toNat_lt
  have hl := Nat.xor_lt_two_pow (n := 8) (x := x.toNat) (y := 2 ^ m) hx hp
  have e : ((2 : Int) ^ m % 256) = ((2 ^ m : Nat) : Int) := by
    have h1 : ((2 ^ m : Nat) : Int) = (2 : Int) ^ m := by simp
    rw [← h1]
    generalize 2 ^ m = q at *
    omega
  rw [e, u8_xor_nat _ _ (by omega) hp]
  simp only [bv]
  rw [UInt8.toNat_ofNat', Nat.mod_eq_of_lt hl]
theorem below_drew' {B : Nat} {a b : World} (h : Below B a b) : Below B a b.drew := ⟨h.os, h.tape, h.output, h.size, h.block⟩
set_option maxRecDepth 100000 in
set_option maxHeartbeats 4000000 in
theorem crcBurst_any (bs : List UInt8) (n : Nat) (A : Option Addr) (c : Nat) (at_ : Int) (bits : Nat) (w : World) (hn : bs.length = n) (ha1 : -9223372036854775808 ≤ at_) (ha2 : at_ ≤ 9223372036854775807) (hbits : bits ≤ 4294967295) (hS : Sl w A c (bs.map bv)) :
    Calls Try.prog 6 #[.slice A n c, .int .i64 at_, .int .u32 (bits : Int)] w fun e w' => e = .returned (.bool true) ∧ Below w.heap.size w w' := by
  have hcap : n ≤ 9223372036854775807 := by have h1 := hS.cap; have h2 := hS.small; rw [List.length_map] at h1; omega
  have hlive := live7_any w
  by_cases hbig : 2000 < n
  · have HL := hid hlive
    clear hlive hn hS
    go_enter Try.func6, Try.ntmps6
    go_wp2_with fail
    refine HL.out.mono ?_
    rintro e w1 ⟨rfl, hb1⟩
    go_wp2_with fail
    go_ret
    exact ⟨rfl, hb1⟩
  by_cases hz : bits = 0
  · have hzb : ((bits : Int) == 0) = true := by simp [hz]
    have HL := hid hlive
    clear hlive hn hS hz
    go_enter Try.func6, Try.ntmps6
    go_wp2_with fail
    refine HL.out.mono ?_
    rintro e w1 ⟨rfl, hb1⟩
    go_wp2_with fail
    go_ret
    exact ⟨rfl, hb1⟩
  have hzb : ((bits : Int) == 0) = false := by simp; omega
  have hrs := fun W (hW : Below w.heap.size w W) => rseal_any bs n A c W hn (by omega) (hS.below hW)
  by_cases hout : at_ < 0 ∨ 8 * ((n : Int) + 4) - 32 < at_
  · have HL := hid hlive
    have HRS := hid hrs
    have hor : (decide (at_ < 0) || decide (8 * ((n : Int) + 4) - 32 < at_)) = true := by simpa using hout
    clear hlive hn hS hz hrs
    by_cases hneg : at_ < 0
    · clear hor hout
      go_enter Try.func6, Try.ntmps6
      go_wp2_with fail
      refine HL.out.mono ?_
      rintro e w1 ⟨rfl, hb1⟩
      go_wp2_with fail
      refine (HRS.out _ hb1).mono ?_
      rintro e w2 ⟨v, rfl, ho, hb2⟩
      obtain ⟨A2, c2, rfl, -, -⟩ := Sl.of_own ho
      have b2 := bw_t hb1 hb2
      clear ho hb1 hb2
      go_wp2_with fail
      go_ret
      exact ⟨rfl, b2⟩
    · have hgt : 8 * ((n : Int) + 4) - 32 < at_ := by omega
      clear hor hout
      go_enter Try.func6, Try.ntmps6
      go_wp2_with fail
      refine HL.out.mono ?_
      rintro e w1 ⟨rfl, hb1⟩
      go_wp2_with fail
      refine (HRS.out _ hb1).mono ?_
      rintro e w2 ⟨v, rfl, ho, hb2⟩
      obtain ⟨A2, c2, rfl, -, -⟩ := Sl.of_own ho
      have b2 := bw_t hb1 hb2
      clear ho hb1 hb2
      go_wp2_with fail
      go_ret
      exact ⟨rfl, b2⟩
  obtain ⟨a, rfl⟩ : ∃ a : Nat, at_ = (a : Int) := ⟨at_.toNat, by omega⟩
  have hale : ¬ 8 * ((n : Int) + 4) - 32 < (a : Int) := by omega
  have ha8 : a + 32 ≤ 8 * (n + 4) := by omega
  have ha0 : (0 : Int) ≤ (a : Int) := by omega
  have HL := hid hlive
  have HRS := hid hrs
  have HN := hid hn
  clear hlive hn hS hrs hout
  go_enter Try.func6, Try.ntmps6
  go_wp2_with fail
  refine HL.out.mono ?_
  rintro e w1 ⟨rfl, hb1⟩
  go_wp2_with fail
  refine (HRS.out _ hb1).mono ?_
  rintro e w2 ⟨v, rfl, ho, hb2⟩
  obtain ⟨g, c2, cur, rfl, hgB, hc2, hcm, hsl, hrow⟩ := RowB.of_own ho (by omega)
  replace hgB : w.heap.size ≤ g := Nat.le_trans hb1.size hgB
  have b2 := bw_t hb1 hb2
  clear ho hb1 hb2
  go_wp2_with fail
  go_loopw [8, 9] (fun i _ wr => ∃ (j : Nat) (cur : Array Value), j ≤ 32 ∧ i = .int .i64 (j : Int) ∧ RowB wr g cur (C.burst (C.sealB bs) a bits j) ∧ Below w.heap.size w wr) (fun i _ _ => 32 - (intOf i).toNat)
  case atStart => exact ⟨0, cur, by omega, rfl, hrow, b2⟩
  case round =>
    obtain ⟨j, cur, hj, rfl, hr, hB⟩ := hrel
    by_cases hlt : j < 32
    · have hbl : (C.burst (C.sealB bs) a bits j).length = n + 4 := by rw [C.burst_length, hsl]
      have hnext : C.burst (C.sealB bs) a bits (j + 1) = if bits / 2 ^ j % 2 = 1 then C.flip1 (C.burst (C.sealB bs) a bits j) (a + j) else C.burst (C.sealB bs) a bits j := rfl
      generalize C.burst (C.sealB bs) a bits j = L at *
      by_cases hb : bits / 2 ^ j % 2 = 1
      · rw [if_pos hb] at hnext
        have hbb := bit_tmod bits j
        rw [decide_eq_true hb] at hbb
        have hk8 : (a + j) / 8 < L.length := by omega
        have hcell := hr.blk.cell ((a + j) / 8)
        rw [hr.get _ hk8] at hcell
        have hfr := hr.blk.frozen ((a + j) / 8)
        have hgd : L.getD ((a + j) / 8) 0 = L[(a + j) / 8] := by simp [List.getD, hk8]
        unfold C.flip1 at hnext
        rw [hgd] at hnext
        have hx := L[(a + j) / 8].toNat_lt
        generalize L[(a + j) / 8] = x0 at *
        simp only [bv] at hcell
        have hgl := hr.blk.lt
        have HR := hid hr
        have HB := hid hB
        have HNX := hid hnext
        have HGD := hid hgd
        clear hr hB hnext hgd hb
        have hj0 : (0 : Int) ≤ (j : Int) := by omega
        have hj32 : (j : Int) < 32 := by omega
        have haj : (a : Int) + (j : Int) < 8 * ((n : Int) + 4) := by omega
        have hmx : Try.prog.follows .mixedOrders = true := by kernel_rfl
        go_wp2_with fail
        go_region
        all_goals go_wp2_with fail
        all_goals
          have hv : Value.int .u8 (Go.bits .xor .u8 (x0.toNat : Int) (2 ^ ((a + j) % 8) % 256)) = bv (UInt8.ofNat (x0.toNat ^^^ 2 ^ ((a + j) % 8))) := bits_flip x0 ((a + j) % 8) (by omega)
          rw [hv]
          have hrow2 := HR.out.set_ ((a + j) / 8) (UInt8.ofNat (x0.toNat ^^^ 2 ^ ((a + j) % 8)))
          have hrow3 : RowB (wr.setCell ⟨g, (a + j) / 8, none⟩ (bv (UInt8.ofNat (x0.toNat ^^^ 2 ^ ((a + j) % 8))))).drew g (cur.setIfInBounds ((a + j) / 8) (bv (UInt8.ofNat (x0.toNat ^^^ 2 ^ ((a + j) % 8))))) (C.burst (C.sealB bs) a bits (j + 1)) := by
            rw [HNX.out]
            exact ⟨hrow2.blk, hrow2.len, hrow2.get⟩
          exact ⟨⟨j + 1, _, by omega, by go_num, hrow3, below_drew' (HB.out.setCell (p := ⟨g, (a + j) / 8, none⟩) hgB _)⟩, by simp [intOf]; omega⟩
      · have hbb := bit_tmod bits j
        rw [decide_eq_false hb] at hbb
        rw [if_neg hb] at hnext
        have HR := hid hr
        have HB := hid hB
        have HNX := hid hnext
        clear hr hB hnext hb
        have hj0 : (0 : Int) ≤ (j : Int) := by omega
        have hj32 : (j : Int) < 32 := by omega
        go_wp2_with fail
        exact ⟨⟨j + 1, cur, by omega, by go_num, by rw [HNX.out]; exact HR.out, HB.out⟩, by simp [intOf]; omega⟩
    · obtain rfl : j = 32 := by omega
      have hbl : (C.burst (C.sealB bs) a bits 32).length = n + 4 := by rw [C.burst_length, hsl]
      have hsl2 := hr.sl (c := c2) (by omega) hcm
      have hE : C.openE (C.burst (C.sealB bs) a bits 32) = 12 := by
        have h4 : ((C.burst (C.sealB bs) a bits 32).drop n).length = 4 := by rw [List.length_drop]; omega
        obtain ⟨v, hv, he⟩ := C.le4_of _ h4
        have hsp : C.burst (C.sealB bs) a bits 32 = (C.burst (C.sealB bs) a bits 32).take n ++ C.le4 v := by rw [← he, List.take_append_drop]
        have hne := C.burst_sum bs a bits hz (by omega) (by rw [HN.out]; exact ha8) _ v hv hsp
        unfold C.openE
        rw [if_neg (by omega), hbl, Nat.add_sub_cancel, if_neg]
        intro h5
        apply hne
        have h6 : C.sealB ((C.burst (C.sealB bs) a bits 32).take n) = (C.burst (C.sealB bs) a bits 32).take n ++ C.le4 v := by rw [h5]; exact hsp
        have h7 : C.le4 (C.sum ((C.burst (C.sealB bs) a bits 32).take n)) = C.le4 v := List.append_cancel_left h6
        have h8 := congrArg unfixN h7
        rw [← C.le4_fix, ← C.le4_fix, unfix_fix 4 _ (by have := C.sum_lt ((C.burst (C.sealB bs) a bits 32).take n); omega), unfix_fix 4 v (by omega)] at h8
        exact h8.symm
      have hop := copen_no (C.burst (C.sealB bs) a bits 32) 12 (n + 4) (some ⟨g, 0, none⟩) c2 wr hE (by omega) hbl (by omega) hsl2
      have HOP := hid hop
      have HB := hid hB
      clear hop hE hsl2 hbl hB hr
      go_wp2_with fail
      refine HOP.out.mono ?_
      rintro e w9 ⟨rfl, hb9⟩
      go_wp2_with fail
      go_ret
      exact ⟨rfl, bw_t HB.out hb9⟩
end Go.Proofs.Ytolafcmaikjioaa
