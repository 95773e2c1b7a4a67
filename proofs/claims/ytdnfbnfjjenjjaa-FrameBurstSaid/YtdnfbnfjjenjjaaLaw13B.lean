/- The walk of FrameBurst. -/
import Derived.Test.YtdnfbnfjjenjjaaLaw13A
import Derived.RegionTactic
import Derived.ChangeAlike
set_option linter.unusedVariables false
namespace Go.Proofs.Ytdnfbnfjjenjjaa
open Go.RowKit
theorem C.flip1_cons (x : UInt8) (S : List UInt8) (k : Nat) (h : 8 ≤ k) : C.flip1 (x :: S) k = x :: C.flip1 S (k - 8) := by
  unfold C.flip1
  have e1 : k / 8 = (k - 8) / 8 + 1 := by omega
  have e2 : k % 8 = (k - 8) % 8 := by omega
  rw [e1, e2, List.set_cons_succ, List.getD_cons_succ]
theorem C.burst_cons (x : UInt8) (S : List UInt8) (a bits : Nat) (h : 8 ≤ a) : ∀ j, C.burst (x :: S) a bits j = x :: C.burst S (a - 8) bits j
  | 0 => rfl
  | j + 1 => by
    have ih := C.burst_cons x S a bits h j
    show (if bits / 2 ^ j % 2 = 1 then C.flip1 (C.burst (x :: S) a bits j) (a + j) else C.burst (x :: S) a bits j) = x :: (if bits / 2 ^ j % 2 = 1 then C.flip1 (C.burst S (a - 8) bits j) (a - 8 + j) else C.burst S (a - 8) bits j)
    rw [ih]
    split
    · rw [C.flip1_cons _ _ _ (by omega), show a + j - 8 = a - 8 + j from by omega]
    · rfl
theorem C.open_burst (bs : List UInt8) (a bits : Nat) (hz : bits ≠ 0) (hb : bits ≤ 4294967295) (ha8 : a + 32 ≤ 8 * (bs.length + 4)) : C.openE (C.burst (C.sealB bs) a bits 32) = 12 := by
  have hsl := C.sealB_len bs
  have hbl : (C.burst (C.sealB bs) a bits 32).length = bs.length + 4 := by rw [C.burst_length, hsl]
  have h4 : ((C.burst (C.sealB bs) a bits 32).drop bs.length).length = 4 := by rw [List.length_drop]; omega
  obtain ⟨v, hv, he⟩ := C.le4_of _ h4
  have hsp : C.burst (C.sealB bs) a bits 32 = (C.burst (C.sealB bs) a bits 32).take bs.length ++ C.le4 v := by rw [← he, List.take_append_drop]
  have hne := C.burst_sum bs a bits hz (by omega) ha8 _ v hv hsp
  unfold C.openE
  rw [if_neg (by omega), hbl, Nat.add_sub_cancel, if_neg]
  intro h5
  apply hne
  have h6 : C.sealB ((C.burst (C.sealB bs) a bits 32).take bs.length) = (C.burst (C.sealB bs) a bits 32).take bs.length ++ C.le4 v := by rw [h5]; exact hsp
  have h7 : C.le4 (C.sum ((C.burst (C.sealB bs) a bits 32).take bs.length)) = C.le4 v := List.append_cancel_left h6
  have h8 := congrArg unfixN h7
  rw [← C.le4_fix, ← C.le4_fix, unfix_fix 4 _ (by have := C.sum_lt ((C.burst (C.sealB bs) a bits 32).take bs.length); omega), unfix_fix 4 v (by omega)] at h8
  exact h8.symm
theorem Fr.burst_rE (t : UInt8) (p : List UInt8) (a bits : Nat) (hp : p.length ≤ 8192) (hz : bits ≠ 0) (hb : bits ≤ 4294967295) (h40 : 40 ≤ a) (ha8 : a + 32 ≤ 8 * (p.length + 9)) : Fr.rE (C.burst (Fr.put t p) a bits 32) = 12 := by
  have h1 : C.burst (Fr.put t p) a bits 32 = 197 :: 154 :: C.burst (C.sealB (Fr.inner t p)) (a - 16) bits 32 := by
    unfold Fr.put
    rw [C.burst_cons _ _ _ _ (by omega), C.burst_cons _ _ _ _ (by omega), show a - 8 - 8 = a - 16 from by omega]
  have h2 : C.burst (Fr.put t p) a bits 32 = 197 :: 154 :: t :: b8 (p.length % 256) :: b8 (p.length / 256) :: C.burst (p ++ C.le4 (C.sum (Fr.inner t p))) (a - 40) bits 32 := by
    rw [Fr.put_cons, C.burst_cons _ _ _ _ (by omega), C.burst_cons _ _ _ _ (by omega), C.burst_cons _ _ _ _ (by omega), C.burst_cons _ _ _ _ (by omega), C.burst_cons _ _ _ _ (by omega), show a - 8 - 8 - 8 - 8 - 8 = a - 40 from by omega]
  have hlen : (C.burst (Fr.put t p) a bits 32).length = p.length + 9 := by rw [C.burst_length, Fr.put_len]
  have h0 : Fr.hE (C.burst (Fr.put t p) a bits 32) = 0 := by rw [h2]; exact Fr.hE_ok _ _ _ _ (by rw [Fr.len8 hp]; exact hp)
  have hln : Fr.ln (C.burst (Fr.put t p) a bits 32) = p.length := by rw [h2]; exact Fr.len8 hp
  have ho := (Fr.open_ h0 (by rw [hln, hlen]; omega)).2.1
  rw [hln, List.take_of_length_le (by omega)] at ho
  rw [← ho, h1]
  simp only [List.drop_succ_cons, List.drop_zero]
  exact C.open_burst _ _ _ hz hb (by rw [Fr.inner_len]; omega)
theorem fsame_zero (w : World) : Calls Try.prog 12 #[.agg #[.int .u8 0, .slice none 0 0], .agg #[.int .u8 0, .slice none 0 0]] w fun e w' => e = .returned (.bool true) ∧ Below w.heap.size w w' := by
  have h := fsame_any 0 0 [] [] 0 0 none none 0 0 w rfl rfl (Sl.nil_ w) (Sl.nil_ w)
  exact h
set_option maxRecDepth 100000 in
set_option maxHeartbeats 4000000 in
theorem frameBurst_any (t : Nat) (bs : List UInt8) (n : Nat) (A : Option Addr) (c : Nat) (at_ : Int) (bits : Nat) (w : World) (ht : t ≤ 255) (hn : bs.length = n) (hS : Sl w A c (bs.map bv)) (ha1 : -9223372036854775808 ≤ at_) (ha2 : at_ ≤ 9223372036854775807) (hbits : bits ≤ 4294967295) :
    Calls Try.prog 5 #[.agg #[.int .u8 (t : Int), .slice A n c], .int .i64 at_, .int .u32 (bits : Int)] w fun e w' => e = .returned (.bool true) ∧ Below w.heap.size w w' := by
  have hcap : n ≤ 9223372036854775807 := by have h1 := hS.cap; have h2 := hS.small; rw [List.length_map] at h1; omega
  have HL := hid (live13_any (w.alloc (.cells #[.int .u8 (t : Int), .slice A n c] 24)))
  have hk0 := hk_box w t A n c
  have hb0 := bw_a (Below.refl _ w) (.cells #[.int .u8 (t : Int), .slice A n c] 24)
  have hw1 : ∀ w1, Below (w.alloc (.cells #[.int .u8 (t : Int), .slice A n c] 24)).heap.size (w.alloc (.cells #[.int .u8 (t : Int), .slice A n c] 24)) w1 → Below w.heap.size w w1 ∧ Blk w1 w.heap.size 24 #[.int .u8 (t : Int), .slice A n c] := fun w1 h => ⟨bw_t hb0 h, hk0.below h hk0.lt⟩
  have HW1 := hid hw1
  clear hw1 hk0 hb0
  by_cases hbig : 2000 < n
  · clear hn hS
    go_enter Try.func5, Try.ntmps5
    go_wp2_with fail
    refine HL.out.mono ?_
    rintro e w1 ⟨rfl, hb1⟩
    obtain ⟨B1, K1⟩ := HW1.out w1 hb1
    have c0 := K1.cell 0
    have c1 := K1.cell 1
    simp only [List.getElem?_toArray, List.getElem?_cons_zero, List.getElem?_cons_succ] at c0 c1
    clear hb1 K1
    go_wp2_with fail
    go_ret
    exact ⟨rfl, B1⟩
  by_cases hz : bits = 0
  · have hzb : ((bits : Int) == 0) = true := by simp [hz]
    clear hn hS hz
    go_enter Try.func5, Try.ntmps5
    go_wp2_with fail
    refine HL.out.mono ?_
    rintro e w1 ⟨rfl, hb1⟩
    obtain ⟨B1, K1⟩ := HW1.out w1 hb1
    have c0 := K1.cell 0
    have c1 := K1.cell 1
    simp only [List.getElem?_toArray, List.getElem?_cons_zero, List.getElem?_cons_succ] at c0 c1
    clear hb1 K1
    go_wp2_with fail
    go_ret
    exact ⟨rfl, B1⟩
  have hzb : ((bits : Int) == 0) = false := by simp; omega
  obtain ⟨T, hT⟩ : ∃ T : UInt8, (T.toNat : Int) = (t : Int) := ⟨b8 t, by rw [b8_toNat (by omega)]⟩
  have hrs := fun W (hW : Below w.heap.size w W) => rfput_any T bs n A c W hn (by omega) (hS.below hW)
  rw [hT] at hrs
  have hpl := Fr.put_len T bs
  rw [hn] at hpl
  have hburst := fun a (h40 : 40 ≤ a) (ha8 : a + 32 ≤ 8 * (n + 9)) => Fr.burst_rE T bs a bits (by omega) hz hbits h40 (by rw [hn]; exact ha8)
  generalize Fr.put T bs = P at *
  have HRS := hid hrs
  have HPL := hid hpl
  have HBU := hid hburst
  clear hrs hpl hburst hn hS hT
  go_enter Try.func5, Try.ntmps5
  go_wp2_with fail
  refine HL.out.mono ?_
  rintro e w1 ⟨rfl, hb1⟩
  obtain ⟨B1, K1⟩ := HW1.out w1 hb1
  have c0 := K1.cell 0
  have c1 := K1.cell 1
  simp only [List.getElem?_toArray, List.getElem?_cons_zero, List.getElem?_cons_succ] at c0 c1
  clear hb1 K1
  go_wp2_with fail
  refine (HRS.out _ B1).mono ?_
  rintro e w2 ⟨v, rfl, ho, hb2⟩
  obtain ⟨g, c2, cur, rfl, hgB, hc2, hcm, hsl, hrow⟩ := RowB.of_own ho (by omega)
  replace hgB : w.heap.size ≤ g := Nat.le_trans B1.size hgB
  have b2 := bw_t B1 hb2
  clear ho hb2 c0 c1 B1
  by_cases hneg : at_ < 40
  · go_wp2_with fail
    go_ret
    exact ⟨rfl, b2⟩
  by_cases hgt : 8 * ((n : Int) + 9) - 32 < at_
  · go_wp2_with fail
    go_ret
    exact ⟨rfl, b2⟩
  obtain ⟨a, rfl⟩ : ∃ a : Nat, at_ = (a : Int) := ⟨at_.toNat, by omega⟩
  have ha8 : a + 32 ≤ 8 * (n + 9) := by omega
  have ha0 : (0 : Int) ≤ (a : Int) := by omega
  have ha40 : 40 ≤ a := by omega
  go_wp2_with fail
  go_loopw [8, 9] (fun i _ wr => ∃ (j : Nat) (cur : Array Value), j ≤ 32 ∧ i = .int .i64 (j : Int) ∧ RowB wr g cur (C.burst P a bits j) ∧ Below w.heap.size w wr) (fun i _ _ => 32 - (intOf i).toNat)
  case atStart => exact ⟨0, cur, by omega, rfl, hrow, b2⟩
  case round =>
    obtain ⟨j, cur, hj, rfl, hr, hB⟩ := hrel
    by_cases hlt : j < 32
    · have hbl : (C.burst P a bits j).length = n + 9 := by rw [C.burst_length, HPL.out]
      have hnext : C.burst P a bits (j + 1) = if bits / 2 ^ j % 2 = 1 then C.flip1 (C.burst P a bits j) (a + j) else C.burst P a bits j := rfl
      generalize C.burst P a bits j = L at *
      by_cases hb : bits / 2 ^ j % 2 = 1
      · rw [if_pos hb] at hnext
        have hbb := bit_tmod bits j
        rw [decide_eq_true hb] at hbb
        have hk8 : (a + j) / 8 < L.length := by omega
        have hcell := hr.blk.cell ((a + j) / 8)
        rw [hr.get _ hk8] at hcell
        have hfr := hr.blk.frozen ((a + j) / 8)
        have hgd : L.getD ((a + j) / 8) 0 = L[(a + j) / 8] := by simp [List.getD, hk8]
        unfold C.flip1 at hnext
        rw [hgd] at hnext
        have hx := L[(a + j) / 8].toNat_lt
        generalize L[(a + j) / 8] = x0 at *
        simp only [bv] at hcell
        have hgl := hr.blk.lt
        have HR := hid hr
        have HB := hid hB
        have HNX := hid hnext
        have HGD := hid hgd
        clear hr hB hnext hgd hb
        have hj0 : (0 : Int) ≤ (j : Int) := by omega
        have hj32 : (j : Int) < 32 := by omega
        have haj : (a : Int) + (j : Int) < 8 * ((n : Int) + 9) := by omega
        have hmx : Try.prog.follows .mixedOrders = true := by kernel_rfl
        go_wp2_with fail
        go_region
        all_goals go_wp2_with fail
        all_goals
          have hv : Value.int .u8 (Go.bits .xor .u8 (x0.toNat : Int) (2 ^ ((a + j) % 8) % 256)) = bv (UInt8.ofNat (x0.toNat ^^^ 2 ^ ((a + j) % 8))) := bits_flip x0 ((a + j) % 8) (by omega)
          rw [hv]
          have hrow2 := HR.out.set_ ((a + j) / 8) (UInt8.ofNat (x0.toNat ^^^ 2 ^ ((a + j) % 8)))
          have hrow3 : RowB (wr.setCell ⟨g, (a + j) / 8, none⟩ (bv (UInt8.ofNat (x0.toNat ^^^ 2 ^ ((a + j) % 8))))).drew g (cur.setIfInBounds ((a + j) / 8) (bv (UInt8.ofNat (x0.toNat ^^^ 2 ^ ((a + j) % 8))))) (C.burst P a bits (j + 1)) := by
            rw [HNX.out]
            exact ⟨hrow2.blk, hrow2.len, hrow2.get⟩
          exact ⟨⟨j + 1, _, by omega, by go_num, hrow3, below_drew' (HB.out.setCell (p := ⟨g, (a + j) / 8, none⟩) hgB _)⟩, by simp [intOf]; omega⟩
      · have hbb := bit_tmod bits j
        rw [decide_eq_false hb] at hbb
        rw [if_neg hb] at hnext
        have HR := hid hr
        have HB := hid hB
        have HNX := hid hnext
        clear hr hB hnext hb
        have hj0 : (0 : Int) ≤ (j : Int) := by omega
        have hj32 : (j : Int) < 32 := by omega
        go_wp2_with fail
        exact ⟨⟨j + 1, cur, by omega, by go_num, by rw [HNX.out]; exact HR.out, HB.out⟩, by simp [intOf]; omega⟩
    · obtain rfl : j = 32 := by omega
      have hbl : (C.burst P a bits 32).length = n + 9 := by rw [C.burst_length, HPL.out]
      have hsl2 := hr.sl (c := c2) (by omega) hcm
      have hop := fread_no (C.burst P a bits 32) (n + 9) 12 (some ⟨g, 0, none⟩) c2 wr (HBU.out a ha40 ha8) (by omega) hbl hsl2
      have HOP := hid hop
      have HB := hid hB
      clear hop hsl2 hbl hB hr
      go_wp2_with fail
      refine HOP.out.mono ?_
      rintro e w9 ⟨rfl, hb9⟩
      have HB9 := hid (bw_a (bw_t HB.out hb9) (.cells #[.int .u8 0, .slice none 0 0] 24))
      clear hb9
      go_wp2_with (go_at_call 12; refine (fsame_zero _).mono ?_; rintro e w5 ⟨rfl, hb5⟩)
      go_ret
      exact ⟨rfl, bw_t HB9.out hb5⟩
end Go.Proofs.Ytdnfbnfjjenjjaa
