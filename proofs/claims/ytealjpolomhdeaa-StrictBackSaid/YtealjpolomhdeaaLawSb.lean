/- The walk of StrictBack. -/
import Derived.Test.YtealjpolomhdeaaG18
set_option linter.unusedVariables false
namespace Go.Proofs.Ytealjpolomhdeaa
open Go.RowKit
set_option maxRecDepth 100000 in
set_option maxHeartbeats 8000000 in
theorem strictBack_any (M : MV) (v : Int) (bs : List UInt8) (n : Nat) (A : Option Addr) (c : Nat) (w : World) (hok : MvOk w M) (hv1 : -9223372036854775808 ≤ v) (hv2 : v ≤ 9223372036854775807) (hn : bs.length = n) (hs : Sl w A c (bs.map bv)) :
    Calls Try.prog 5 #[mvV M, .int .i64 v, .slice A n c] w fun e w' => e = .returned (.bool true) ∧ Below w.heap.size w w' := by
  have hlv := fun W => live12_any W
  have hsm := fun W (hW : Below w.heap.size w W) => small9_any M W (hok.l.below hW)
  have hebx := fun (hb : smallB M = true) W (hW : Below w.heap.size w W) => (ebytes_any M v W (hok.below hW) (small_sm hb) hv1 hv2).mono (fun e w' h => bytesR_sl h)
  have hbk := fun (hb : smallB M = true) (he : (chkV M (ofL (M.k : Int) v)).1 = 0) => str_back v hok.n (small_sm hb) he
  have hk255 := hok.k
  have hml := fun W (hW : Below w.heap.size w W) => hok.l.below hW
  obtain ⟨R, E, P, hR⟩ : ∃ R E P, strD M.k v bs = (R, E, P) := ⟨_, _, _, rfl⟩
  have hgd := strD_ways hR
  have hd2 := fun W A' c' (hW : Sl W A' c' (bs.map bv)) => dec_st hk255 hv1 hv2 hn hW hR
  have heb2 := fun (hg : Good M.k v R) (hc : chkV R (ofL (M.k : Int) v) = (0, 0)) W A' c' h => enc_good hk255 hv1 hv2 hg hc W A' c' h
  obtain ⟨eb, heb⟩ : ∃ eb, encB M (ofL (M.k : Int) v) = eb := ⟨_, rfl⟩
  obtain ⟨E1, hE1⟩ : ∃ E1, (chkV M (ofL (M.k : Int) v)).1 = E1 := ⟨_, rfl⟩
  obtain ⟨E2, hE2⟩ : ∃ E2, (chkV M (ofL (M.k : Int) v)).2 = E2 := ⟨_, rfl⟩
  rw [heb, hE1, hE2] at hebx
  rw [heb, hE1] at hbk
  obtain ⟨el, hel⟩ : ∃ n, eb.length = n := ⟨_, rfl⟩
  rw [hel] at hebx
  generalize smallB M = sb at *
  have hmv : mvV M = .agg #[.int .u8 (M.k : Int), .int .u64 (M.n0 : Int), .int .u64 (M.n1 : Int), .int .u64 (M.n2 : Int), .int .u64 (M.n3 : Int), .int .u64 (M.n4 : Int), .int .u64 (M.n5 : Int), .string M.s0, .string M.s1, .slice M.A M.l.length M.c] := rfl
  rw [hmv] at hebx hsm ⊢
  obtain ⟨len, hlen⟩ : ∃ n, M.l.length = n := ⟨_, rfl⟩
  have hsa := fun W (R2 : MV) A' c' h1 h2 => msame R2 M A' c' M.A M.c len W hlen h1 h2
  rw [hlen] at hebx hsm ⊢
  obtain ⟨s, hws⟩ : ∃ s, w.heap.size = s := ⟨_, rfl⟩
  rw [hws] at hsm hebx hml ⊢
  have hsl : ∀ W, Below s w W → Sl W A c (bs.map bv) := fun W hW => hs.below (by rw [hws]; exact hW)
  have hz := hws
  have HLV := hid hlv
  have HSM := hid hsm
  have HEB := hid hebx
  have HEB2 := hid heb2
  have HBK := hid hbk
  have HGD := hid hgd
  have HML := hid hml
  have HD2 := hid hd2
  have HSA := hid hsa
  have HSL := hid hsl
  have HEL := hid hel
  have HNN := hid hn
  clear hlv hsm hebx heb2 hbk hgd hml hd2 hsa hsl hs hel hlen hE1 hE2 heb hok hn hR
  go_enter Try.func5, Try.ntmps5
  go_wp2_with fail
  have hkm : Blk (w.alloc (.cells #[.int .u8 (M.k : Int), .int .u64 (M.n0 : Int), .int .u64 (M.n1 : Int), .int .u64 (M.n2 : Int), .int .u64 (M.n3 : Int), .int .u64 (M.n4 : Int), .int .u64 (M.n5 : Int), .string M.s0, .string M.s1, .slice M.A len M.c] 29)) (s) 29 #[.int .u8 (M.k : Int), .int .u64 (M.n0 : Int), .int .u64 (M.n1 : Int), .int .u64 (M.n2 : Int), .int .u64 (M.n3 : Int), .int .u64 (M.n4 : Int), .int .u64 (M.n5 : Int), .string M.s0, .string M.s1, .slice M.A len M.c] := by
    have h := (Blk.new w 29 #[.int .u8 (M.k : Int), .int .u64 (M.n0 : Int), .int .u64 (M.n1 : Int), .int .u64 (M.n2 : Int), .int .u64 (M.n3 : Int), .int .u64 (M.n4 : Int), .int .u64 (M.n5 : Int), .string M.s0, .string M.s1, .slice M.A len M.c])
    rw [hz] at h; exact h
  have hb0 : Below s w (w.alloc (.cells #[.int .u8 (M.k : Int), .int .u64 (M.n0 : Int), .int .u64 (M.n1 : Int), .int .u64 (M.n2 : Int), .int .u64 (M.n3 : Int), .int .u64 (M.n4 : Int), .int .u64 (M.n5 : Int), .string M.s0, .string M.s1, .slice M.A len M.c] 29)) := by
    have h := (bw_a (Below.refl w.heap.size w) (.cells #[.int .u8 (M.k : Int), .int .u64 (M.n0 : Int), .int .u64 (M.n1 : Int), .int .u64 (M.n2 : Int), .int .u64 (M.n3 : Int), .int .u64 (M.n4 : Int), .int .u64 (M.n5 : Int), .string M.s0, .string M.s1, .slice M.A len M.c] 29))
    rw [hz] at h; exact h
  have hsz : ((w.alloc (.cells #[.int .u8 (M.k : Int), .int .u64 (M.n0 : Int), .int .u64 (M.n1 : Int), .int .u64 (M.n2 : Int), .int .u64 (M.n3 : Int), .int .u64 (M.n4 : Int), .int .u64 (M.n5 : Int), .string M.s0, .string M.s1, .slice M.A len M.c] 29))).heap.size = s + 1 := by simp [hz]
  generalize hW1 : (w.alloc (.cells #[.int .u8 (M.k : Int), .int .u64 (M.n0 : Int), .int .u64 (M.n1 : Int), .int .u64 (M.n2 : Int), .int .u64 (M.n3 : Int), .int .u64 (M.n4 : Int), .int .u64 (M.n5 : Int), .string M.s0, .string M.s1, .slice M.A len M.c] 29)) = W1 at *
  have HKM := hid hkm
  have HBB1 := hid hb0
  have HSZ1 := hid hsz
  clear hb0 hsz hz hW1 hkm
  refine (HLV.out W1).mono ?_
  rintro e w2 ⟨rfl, hb⟩
  have hkm := HKM.out.below hb HKM.out.lt
  have hb0 : Below s w w2 := HBB1.out.trans (hb.mono (by have := HBB1.out.size; omega))
  have HKM := hid hkm
  have HBB2 := hid hb0
  clear hb0 hb hkm
  have zhkm0 := HKM.out.cell 0
  have zhkm1 := HKM.out.cell 1
  have zhkm2 := HKM.out.cell 2
  have zhkm3 := HKM.out.cell 3
  have zhkm4 := HKM.out.cell 4
  have zhkm5 := HKM.out.cell 5
  have zhkm6 := HKM.out.cell 6
  have zhkm7 := HKM.out.cell 7
  have zhkm8 := HKM.out.cell 8
  have zhkm9 := HKM.out.cell 9
  have lhkm := HKM.out.lt
  simp only [List.getElem?_toArray, List.getElem?_cons_zero, List.getElem?_cons_succ] at zhkm0 zhkm1 zhkm2 zhkm3 zhkm4 zhkm5 zhkm6 zhkm7 zhkm8 zhkm9
  go_wp2_with fail
  refine (HSM.out _ HBB2.out).mono ?_
  rintro e w3 ⟨rfl, hb⟩
  clear lhkm zhkm0 zhkm1 zhkm2 zhkm3 zhkm4 zhkm5 zhkm6 zhkm7 zhkm8 zhkm9
  have hkm := HKM.out.below hb HKM.out.lt
  have hb0 : Below s w w3 := HBB2.out.trans (hb.mono (by have := HBB2.out.size; omega))
  have HKM := hid hkm
  have HBB3 := hid hb0
  clear hb0 hb hkm
  cases sb with
  | false =>
    go_wp2_with fail
    go_ret
    exact ⟨rfl, HBB3.out⟩
  | true =>
    have hx1 := HEB.out rfl
    have hx2 := HBK.out rfl
    have HEB1 := hid hx1
    have HBK1 := hid hx2
    clear hx1 hx2 HEB HBK
    by_cases hn1 : 10000 < n
    · have hn2 : (10000 : Int) < (n : Int) := by omega
      go_wp2_with fail
      go_ret
      exact ⟨rfl, HBB3.out⟩
    · have hn2 : ¬ (10000 : Int) < (n : Int) := by omega
      have hn3 : decide ((10000 : Int) < (n : Int)) = false := by simpa using hn2
      have zhkm0 := HKM.out.cell 0
      have zhkm1 := HKM.out.cell 1
      have zhkm2 := HKM.out.cell 2
      have zhkm3 := HKM.out.cell 3
      have zhkm4 := HKM.out.cell 4
      have zhkm5 := HKM.out.cell 5
      have zhkm6 := HKM.out.cell 6
      have zhkm7 := HKM.out.cell 7
      have zhkm8 := HKM.out.cell 8
      have zhkm9 := HKM.out.cell 9
      have lhkm := HKM.out.lt
      simp only [List.getElem?_toArray, List.getElem?_cons_zero, List.getElem?_cons_succ] at zhkm0 zhkm1 zhkm2 zhkm3 zhkm4 zhkm5 zhkm6 zhkm7 zhkm8 zhkm9
      go_wp2_with fail
      refine (HEB1.out _ HBB3.out).mono ?_
      rintro e w4 ⟨A1, c1, rfl, hse, -, hb⟩
      clear lhkm zhkm0 zhkm1 zhkm2 zhkm3 zhkm4 zhkm5 zhkm6 zhkm7 zhkm8 zhkm9
      have hkm := HKM.out.below hb HKM.out.lt
      have hb0 : Below s w w4 := HBB3.out.trans (hb.mono (by have := HBB3.out.size; omega))
      have HKM := hid hkm
      have HSE := hid hse
      have HBB4 := hid hb0
      clear hb0 hb hkm hse
      by_cases he : E1 = 0
      · obtain ⟨M2, hr2, hs2⟩ := HBK1.out he
        have HR2 := hid hr2
        have HS2 := hid hs2
        clear hr2 hs2
        subst he
        have zhkm0 := HKM.out.cell 0
        have lhkm := HKM.out.lt
        simp only [List.getElem?_toArray, List.getElem?_cons_zero] at zhkm0
        obtain ⟨p3, hz⟩ : ∃ p, w4.heap.size = p := ⟨_, rfl⟩
        rw [hz] at lhkm
        have mhkm := Nat.lt_add_one_of_lt lhkm
        go_wp2_with fail
        have hkf : Blk (w4.alloc (.cells #[.int .i64 0, .int .i64 E2] 32)) (p3) 32 #[.int .i64 0, .int .i64 E2] := by
          have h := (Blk.new w4 32 #[.int .i64 0, .int .i64 E2])
          rw [hz] at h; exact h
        have hkm := (HKM.out.alloc (.cells #[.int .i64 0, .int .i64 E2] 32))
        have hse := HSE.out.below (bw_a (Below.refl w4.heap.size w4) (.cells #[.int .i64 0, .int .i64 E2] 32))
        have hb0 : Below s w (w4.alloc (.cells #[.int .i64 0, .int .i64 E2] 32)) := HBB4.out.trans ((bw_a (Below.refl w4.heap.size w4) (.cells #[.int .i64 0, .int .i64 E2] 32)).mono (by have := HBB4.out.size; omega))
        have hsz : ((w4.alloc (.cells #[.int .i64 0, .int .i64 E2] 32))).heap.size = p3 + 1 := by simp [hz]
        generalize hW5 : (w4.alloc (.cells #[.int .i64 0, .int .i64 E2] 32)) = W5 at *
        have HKM := hid hkm
        have HKF := hid hkf
        have HSE := hid hse
        have HBB5 := hid hb0
        have HSZ5 := hid hsz
        clear hb0 hsz hz hW5 hkm hkf hse
        refine (dec_st hk255 hv1 hv2 HEL.out HSE.out HR2.out).mono ?_
        rintro e w6 ⟨A4, c4, rfl, hs4, hb⟩
        clear lhkm zhkm0 mhkm
        have hkm := HKM.out.below hb HKM.out.lt
        have hkf := HKF.out.below hb HKF.out.lt
        have hse := HSE.out.below hb
        have hb0 : Below s w w6 := HBB5.out.trans (hb.mono (by have := HBB5.out.size; omega))
        have HKM := hid hkm
        have HKF := hid hkf
        have HSE := hid hse
        have HS4 := hid hs4
        have HBB6 := hid hb0
        clear hb0 hb hkm hkf hse hs4
        have zhkm0 := HKM.out.cell 0
        have zhkm1 := HKM.out.cell 1
        have zhkm2 := HKM.out.cell 2
        have zhkm3 := HKM.out.cell 3
        have zhkm4 := HKM.out.cell 4
        have zhkm5 := HKM.out.cell 5
        have zhkm6 := HKM.out.cell 6
        have zhkm7 := HKM.out.cell 7
        have zhkm8 := HKM.out.cell 8
        have zhkm9 := HKM.out.cell 9
        have lhkm := HKM.out.lt
        simp only [List.getElem?_toArray, List.getElem?_cons_zero, List.getElem?_cons_succ] at zhkm0 zhkm1 zhkm2 zhkm3 zhkm4 zhkm5 zhkm6 zhkm7 zhkm8 zhkm9
        obtain ⟨p4, hz⟩ : ∃ p, w6.heap.size = p := ⟨_, rfl⟩
        rw [hz] at lhkm
        have mhkm := Nat.lt_add_one_of_lt lhkm
        go_wp2_with fail
        have hk4 : Blk ((w6.alloc (.cells #[.int .u8 (M2.k : Int), .int .u64 (M2.n0 : Int), .int .u64 (M2.n1 : Int), .int .u64 (M2.n2 : Int), .int .u64 (M2.n3 : Int), .int .u64 (M2.n4 : Int), .int .u64 (M2.n5 : Int), .string M2.s0, .string M2.s1, .slice A4 M2.l.length c4] 29)).alloc (.cells #[.int .i64 0, .int .i64 ((0 : Nat) : Int)] 32)) (p4) 29 #[.int .u8 (M2.k : Int), .int .u64 (M2.n0 : Int), .int .u64 (M2.n1 : Int), .int .u64 (M2.n2 : Int), .int .u64 (M2.n3 : Int), .int .u64 (M2.n4 : Int), .int .u64 (M2.n5 : Int), .string M2.s0, .string M2.s1, .slice A4 M2.l.length c4] := by
          have h := ((Blk.new w6 29 #[.int .u8 (M2.k : Int), .int .u64 (M2.n0 : Int), .int .u64 (M2.n1 : Int), .int .u64 (M2.n2 : Int), .int .u64 (M2.n3 : Int), .int .u64 (M2.n4 : Int), .int .u64 (M2.n5 : Int), .string M2.s0, .string M2.s1, .slice A4 M2.l.length c4]).alloc (.cells #[.int .i64 0, .int .i64 ((0 : Nat) : Int)] 32))
          rw [hz] at h; exact h
        have hkf4 : Blk ((w6.alloc (.cells #[.int .u8 (M2.k : Int), .int .u64 (M2.n0 : Int), .int .u64 (M2.n1 : Int), .int .u64 (M2.n2 : Int), .int .u64 (M2.n3 : Int), .int .u64 (M2.n4 : Int), .int .u64 (M2.n5 : Int), .string M2.s0, .string M2.s1, .slice A4 M2.l.length c4] 29)).alloc (.cells #[.int .i64 0, .int .i64 ((0 : Nat) : Int)] 32)) (p4 + 1) 32 #[.int .i64 0, .int .i64 ((0 : Nat) : Int)] := by
          have h := (Blk.new (w6.alloc (.cells #[.int .u8 (M2.k : Int), .int .u64 (M2.n0 : Int), .int .u64 (M2.n1 : Int), .int .u64 (M2.n2 : Int), .int .u64 (M2.n3 : Int), .int .u64 (M2.n4 : Int), .int .u64 (M2.n5 : Int), .string M2.s0, .string M2.s1, .slice A4 M2.l.length c4] 29)) 32 #[.int .i64 0, .int .i64 ((0 : Nat) : Int)])
          rw [World.size_alloc, hz] at h; exact h
        have hkm := ((HKM.out.alloc (.cells #[.int .u8 (M2.k : Int), .int .u64 (M2.n0 : Int), .int .u64 (M2.n1 : Int), .int .u64 (M2.n2 : Int), .int .u64 (M2.n3 : Int), .int .u64 (M2.n4 : Int), .int .u64 (M2.n5 : Int), .string M2.s0, .string M2.s1, .slice A4 M2.l.length c4] 29)).alloc (.cells #[.int .i64 0, .int .i64 ((0 : Nat) : Int)] 32))
        have hkf := ((HKF.out.alloc (.cells #[.int .u8 (M2.k : Int), .int .u64 (M2.n0 : Int), .int .u64 (M2.n1 : Int), .int .u64 (M2.n2 : Int), .int .u64 (M2.n3 : Int), .int .u64 (M2.n4 : Int), .int .u64 (M2.n5 : Int), .string M2.s0, .string M2.s1, .slice A4 M2.l.length c4] 29)).alloc (.cells #[.int .i64 0, .int .i64 ((0 : Nat) : Int)] 32))
        have hse := HSE.out.below (bw_a (bw_a (Below.refl w6.heap.size w6) (.cells #[.int .u8 (M2.k : Int), .int .u64 (M2.n0 : Int), .int .u64 (M2.n1 : Int), .int .u64 (M2.n2 : Int), .int .u64 (M2.n3 : Int), .int .u64 (M2.n4 : Int), .int .u64 (M2.n5 : Int), .string M2.s0, .string M2.s1, .slice A4 M2.l.length c4] 29)) (.cells #[.int .i64 0, .int .i64 ((0 : Nat) : Int)] 32))
        have hs4 := HS4.out.below (bw_a (bw_a (Below.refl w6.heap.size w6) (.cells #[.int .u8 (M2.k : Int), .int .u64 (M2.n0 : Int), .int .u64 (M2.n1 : Int), .int .u64 (M2.n2 : Int), .int .u64 (M2.n3 : Int), .int .u64 (M2.n4 : Int), .int .u64 (M2.n5 : Int), .string M2.s0, .string M2.s1, .slice A4 M2.l.length c4] 29)) (.cells #[.int .i64 0, .int .i64 ((0 : Nat) : Int)] 32))
        have hb0 : Below s w ((w6.alloc (.cells #[.int .u8 (M2.k : Int), .int .u64 (M2.n0 : Int), .int .u64 (M2.n1 : Int), .int .u64 (M2.n2 : Int), .int .u64 (M2.n3 : Int), .int .u64 (M2.n4 : Int), .int .u64 (M2.n5 : Int), .string M2.s0, .string M2.s1, .slice A4 M2.l.length c4] 29)).alloc (.cells #[.int .i64 0, .int .i64 ((0 : Nat) : Int)] 32)) := HBB6.out.trans ((bw_a (bw_a (Below.refl w6.heap.size w6) (.cells #[.int .u8 (M2.k : Int), .int .u64 (M2.n0 : Int), .int .u64 (M2.n1 : Int), .int .u64 (M2.n2 : Int), .int .u64 (M2.n3 : Int), .int .u64 (M2.n4 : Int), .int .u64 (M2.n5 : Int), .string M2.s0, .string M2.s1, .slice A4 M2.l.length c4] 29)) (.cells #[.int .i64 0, .int .i64 ((0 : Nat) : Int)] 32)).mono (by have := HBB6.out.size; omega))
        have hsz : (((w6.alloc (.cells #[.int .u8 (M2.k : Int), .int .u64 (M2.n0 : Int), .int .u64 (M2.n1 : Int), .int .u64 (M2.n2 : Int), .int .u64 (M2.n3 : Int), .int .u64 (M2.n4 : Int), .int .u64 (M2.n5 : Int), .string M2.s0, .string M2.s1, .slice A4 M2.l.length c4] 29)).alloc (.cells #[.int .i64 0, .int .i64 ((0 : Nat) : Int)] 32))).heap.size = p4 + 1 + 1 := by simp [hz]
        generalize hW7 : ((w6.alloc (.cells #[.int .u8 (M2.k : Int), .int .u64 (M2.n0 : Int), .int .u64 (M2.n1 : Int), .int .u64 (M2.n2 : Int), .int .u64 (M2.n3 : Int), .int .u64 (M2.n4 : Int), .int .u64 (M2.n5 : Int), .string M2.s0, .string M2.s1, .slice A4 M2.l.length c4] 29)).alloc (.cells #[.int .i64 0, .int .i64 ((0 : Nat) : Int)] 32)) = W7 at *
        have HKM := hid hkm
        have HKF := hid hkf
        have HK4 := hid hk4
        have HKF4 := hid hkf4
        have HSE := hid hse
        have HS4 := hid hs4
        have HBB7 := hid hb0
        have HSZ7 := hid hsz
        clear hb0 hsz hz hW7 hkm hkf hk4 hkf4 hse hs4
        have hsx := HSA.out _ M2 A4 c4 HS4.out (HML.out _ HBB7.out)
        rw [HS2.out] at hsx
        have HSX := hid hsx
        clear hsx
        refine (HSX.out).mono ?_
        rintro e w8 ⟨rfl, hb⟩
        clear lhkm zhkm0 zhkm1 zhkm2 zhkm3 zhkm4 zhkm5 zhkm6 zhkm7 zhkm8 zhkm9 mhkm
        have hkm := HKM.out.below hb HKM.out.lt
        have hkf := HKF.out.below hb HKF.out.lt
        have hk4 := HK4.out.below hb HK4.out.lt
        have hkf4 := HKF4.out.below hb HKF4.out.lt
        have hse := HSE.out.below hb
        have hs4 := HS4.out.below hb
        have hb0 : Below s w w8 := HBB7.out.trans (hb.mono (by have := HBB7.out.size; omega))
        have HKM := hid hkm
        have HKF := hid hkf
        have HK4 := hid hk4
        have HKF4 := hid hkf4
        have HSE := hid hse
        have HS4 := hid hs4
        have HBB8 := hid hb0
        clear hb0 hb hkm hkf hk4 hkf4 hse hs4
        have zhkm0 := HKM.out.cell 0
        have lhkm := HKM.out.lt
        simp only [List.getElem?_toArray, List.getElem?_cons_zero] at zhkm0
        obtain ⟨p8, hz⟩ : ∃ p, w8.heap.size = p := ⟨_, rfl⟩
        rw [hz] at lhkm
        have mhkm := Nat.lt_add_one_of_lt lhkm
        go_wp2_with fail
        clear hz
        refine (HD2.out _ _ _ (HSL.out _ HBB8.out)).mono ?_
        rintro e w9 ⟨A9, c9, rfl, hs9, hb⟩
        clear lhkm zhkm0 mhkm
        have hkm := HKM.out.below hb HKM.out.lt
        have hkf := HKF.out.below hb HKF.out.lt
        have hk4 := HK4.out.below hb HK4.out.lt
        have hkf4 := HKF4.out.below hb HKF4.out.lt
        have hse := HSE.out.below hb
        have hs4 := HS4.out.below hb
        have hb0 : Below s w w9 := HBB8.out.trans (hb.mono (by have := HBB8.out.size; omega))
        have HKM := hid hkm
        have HKF := hid hkf
        have HK4 := hid hk4
        have HKF4 := hid hkf4
        have HSE := hid hse
        have HS4 := hid hs4
        have HS9 := hid hs9
        have HBB9 := hid hb0
        clear hb0 hb hkm hkf hk4 hkf4 hse hs4 hs9
        obtain ⟨p9, hz⟩ : ∃ p, w9.heap.size = p := ⟨_, rfl⟩
        rcases HGD.out with ⟨g1, g2⟩ | ⟨g1, g2, g3, g4, g5⟩
        · have gb : (E != 0) = true := by simpa using g1
          have G1 := hid g1
          clear g1
          subst g2
          go_wp2_with fail
          have hk9 : Blk ((w9.alloc (.cells #[.int .u8 (ZM.k : Int), .int .u64 (ZM.n0 : Int), .int .u64 (ZM.n1 : Int), .int .u64 (ZM.n2 : Int), .int .u64 (ZM.n3 : Int), .int .u64 (ZM.n4 : Int), .int .u64 (ZM.n5 : Int), .string ZM.s0, .string ZM.s1, .slice A9 ZM.l.length c9] 29)).alloc (.cells #[.int .i64 E, .int .i64 (P : Int)] 32)) (p9) 29 #[.int .u8 (ZM.k : Int), .int .u64 (ZM.n0 : Int), .int .u64 (ZM.n1 : Int), .int .u64 (ZM.n2 : Int), .int .u64 (ZM.n3 : Int), .int .u64 (ZM.n4 : Int), .int .u64 (ZM.n5 : Int), .string ZM.s0, .string ZM.s1, .slice A9 ZM.l.length c9] := by
            have h := ((Blk.new w9 29 #[.int .u8 (ZM.k : Int), .int .u64 (ZM.n0 : Int), .int .u64 (ZM.n1 : Int), .int .u64 (ZM.n2 : Int), .int .u64 (ZM.n3 : Int), .int .u64 (ZM.n4 : Int), .int .u64 (ZM.n5 : Int), .string ZM.s0, .string ZM.s1, .slice A9 ZM.l.length c9]).alloc (.cells #[.int .i64 E, .int .i64 (P : Int)] 32))
            rw [hz] at h; exact h
          have hk8 : Blk ((w9.alloc (.cells #[.int .u8 (ZM.k : Int), .int .u64 (ZM.n0 : Int), .int .u64 (ZM.n1 : Int), .int .u64 (ZM.n2 : Int), .int .u64 (ZM.n3 : Int), .int .u64 (ZM.n4 : Int), .int .u64 (ZM.n5 : Int), .string ZM.s0, .string ZM.s1, .slice A9 ZM.l.length c9] 29)).alloc (.cells #[.int .i64 E, .int .i64 (P : Int)] 32)) (p9 + 1) 32 #[.int .i64 E, .int .i64 (P : Int)] := by
            have h := (Blk.new (w9.alloc (.cells #[.int .u8 (ZM.k : Int), .int .u64 (ZM.n0 : Int), .int .u64 (ZM.n1 : Int), .int .u64 (ZM.n2 : Int), .int .u64 (ZM.n3 : Int), .int .u64 (ZM.n4 : Int), .int .u64 (ZM.n5 : Int), .string ZM.s0, .string ZM.s1, .slice A9 ZM.l.length c9] 29)) 32 #[.int .i64 E, .int .i64 (P : Int)])
            rw [World.size_alloc, hz] at h; exact h
          have hkm := ((HKM.out.alloc (.cells #[.int .u8 (ZM.k : Int), .int .u64 (ZM.n0 : Int), .int .u64 (ZM.n1 : Int), .int .u64 (ZM.n2 : Int), .int .u64 (ZM.n3 : Int), .int .u64 (ZM.n4 : Int), .int .u64 (ZM.n5 : Int), .string ZM.s0, .string ZM.s1, .slice A9 ZM.l.length c9] 29)).alloc (.cells #[.int .i64 E, .int .i64 (P : Int)] 32))
          have hkf := ((HKF.out.alloc (.cells #[.int .u8 (ZM.k : Int), .int .u64 (ZM.n0 : Int), .int .u64 (ZM.n1 : Int), .int .u64 (ZM.n2 : Int), .int .u64 (ZM.n3 : Int), .int .u64 (ZM.n4 : Int), .int .u64 (ZM.n5 : Int), .string ZM.s0, .string ZM.s1, .slice A9 ZM.l.length c9] 29)).alloc (.cells #[.int .i64 E, .int .i64 (P : Int)] 32))
          have hk4 := ((HK4.out.alloc (.cells #[.int .u8 (ZM.k : Int), .int .u64 (ZM.n0 : Int), .int .u64 (ZM.n1 : Int), .int .u64 (ZM.n2 : Int), .int .u64 (ZM.n3 : Int), .int .u64 (ZM.n4 : Int), .int .u64 (ZM.n5 : Int), .string ZM.s0, .string ZM.s1, .slice A9 ZM.l.length c9] 29)).alloc (.cells #[.int .i64 E, .int .i64 (P : Int)] 32))
          have hkf4 := ((HKF4.out.alloc (.cells #[.int .u8 (ZM.k : Int), .int .u64 (ZM.n0 : Int), .int .u64 (ZM.n1 : Int), .int .u64 (ZM.n2 : Int), .int .u64 (ZM.n3 : Int), .int .u64 (ZM.n4 : Int), .int .u64 (ZM.n5 : Int), .string ZM.s0, .string ZM.s1, .slice A9 ZM.l.length c9] 29)).alloc (.cells #[.int .i64 E, .int .i64 (P : Int)] 32))
          have hse := HSE.out.below (bw_a (bw_a (Below.refl w9.heap.size w9) (.cells #[.int .u8 (ZM.k : Int), .int .u64 (ZM.n0 : Int), .int .u64 (ZM.n1 : Int), .int .u64 (ZM.n2 : Int), .int .u64 (ZM.n3 : Int), .int .u64 (ZM.n4 : Int), .int .u64 (ZM.n5 : Int), .string ZM.s0, .string ZM.s1, .slice A9 ZM.l.length c9] 29)) (.cells #[.int .i64 E, .int .i64 (P : Int)] 32))
          have hs4 := HS4.out.below (bw_a (bw_a (Below.refl w9.heap.size w9) (.cells #[.int .u8 (ZM.k : Int), .int .u64 (ZM.n0 : Int), .int .u64 (ZM.n1 : Int), .int .u64 (ZM.n2 : Int), .int .u64 (ZM.n3 : Int), .int .u64 (ZM.n4 : Int), .int .u64 (ZM.n5 : Int), .string ZM.s0, .string ZM.s1, .slice A9 ZM.l.length c9] 29)) (.cells #[.int .i64 E, .int .i64 (P : Int)] 32))
          have hs9 := HS9.out.below (bw_a (bw_a (Below.refl w9.heap.size w9) (.cells #[.int .u8 (ZM.k : Int), .int .u64 (ZM.n0 : Int), .int .u64 (ZM.n1 : Int), .int .u64 (ZM.n2 : Int), .int .u64 (ZM.n3 : Int), .int .u64 (ZM.n4 : Int), .int .u64 (ZM.n5 : Int), .string ZM.s0, .string ZM.s1, .slice A9 ZM.l.length c9] 29)) (.cells #[.int .i64 E, .int .i64 (P : Int)] 32))
          have hb0 : Below s w ((w9.alloc (.cells #[.int .u8 (ZM.k : Int), .int .u64 (ZM.n0 : Int), .int .u64 (ZM.n1 : Int), .int .u64 (ZM.n2 : Int), .int .u64 (ZM.n3 : Int), .int .u64 (ZM.n4 : Int), .int .u64 (ZM.n5 : Int), .string ZM.s0, .string ZM.s1, .slice A9 ZM.l.length c9] 29)).alloc (.cells #[.int .i64 E, .int .i64 (P : Int)] 32)) := HBB9.out.trans ((bw_a (bw_a (Below.refl w9.heap.size w9) (.cells #[.int .u8 (ZM.k : Int), .int .u64 (ZM.n0 : Int), .int .u64 (ZM.n1 : Int), .int .u64 (ZM.n2 : Int), .int .u64 (ZM.n3 : Int), .int .u64 (ZM.n4 : Int), .int .u64 (ZM.n5 : Int), .string ZM.s0, .string ZM.s1, .slice A9 ZM.l.length c9] 29)) (.cells #[.int .i64 E, .int .i64 (P : Int)] 32)).mono (by have := HBB9.out.size; omega))
          have hsz : (((w9.alloc (.cells #[.int .u8 (ZM.k : Int), .int .u64 (ZM.n0 : Int), .int .u64 (ZM.n1 : Int), .int .u64 (ZM.n2 : Int), .int .u64 (ZM.n3 : Int), .int .u64 (ZM.n4 : Int), .int .u64 (ZM.n5 : Int), .string ZM.s0, .string ZM.s1, .slice A9 ZM.l.length c9] 29)).alloc (.cells #[.int .i64 E, .int .i64 (P : Int)] 32))).heap.size = p9 + 1 + 1 := by simp [hz]
          generalize hW10 : ((w9.alloc (.cells #[.int .u8 (ZM.k : Int), .int .u64 (ZM.n0 : Int), .int .u64 (ZM.n1 : Int), .int .u64 (ZM.n2 : Int), .int .u64 (ZM.n3 : Int), .int .u64 (ZM.n4 : Int), .int .u64 (ZM.n5 : Int), .string ZM.s0, .string ZM.s1, .slice A9 ZM.l.length c9] 29)).alloc (.cells #[.int .i64 E, .int .i64 (P : Int)] 32)) = W10 at *
          have HKM := hid hkm
          have HKF := hid hkf
          have HK4 := hid hk4
          have HKF4 := hid hkf4
          have HK9 := hid hk9
          have HK8 := hid hk8
          have HSE := hid hse
          have HS4 := hid hs4
          have HS9 := hid hs9
          have HBB10 := hid hb0
          have HSZ10 := hid hsz
          clear hb0 hsz hz hW10 hkm hkf hk4 hkf4 hk9 hk8 hse hs4 hs9
          refine (zero_sameS HS9.out).mono ?_
          rintro e w11 ⟨rfl, hb⟩
          have hkm := HKM.out.below hb HKM.out.lt
          have hkf := HKF.out.below hb HKF.out.lt
          have hk4 := HK4.out.below hb HK4.out.lt
          have hkf4 := HKF4.out.below hb HKF4.out.lt
          have hk9 := HK9.out.below hb HK9.out.lt
          have hk8 := HK8.out.below hb HK8.out.lt
          have hse := HSE.out.below hb
          have hs4 := HS4.out.below hb
          have hs9 := HS9.out.below hb
          have hb0 : Below s w w11 := HBB10.out.trans (hb.mono (by have := HBB10.out.size; omega))
          have HKM := hid hkm
          have HKF := hid hkf
          have HK4 := hid hk4
          have HKF4 := hid hkf4
          have HK9 := hid hk9
          have HK8 := hid hk8
          have HSE := hid hse
          have HS4 := hid hs4
          have HS9 := hid hs9
          have HBB11 := hid hb0
          clear hb0 hb hkm hkf hk4 hkf4 hk9 hk8 hse hs4 hs9
          go_wp2_with fail
          go_ret
          exact ⟨rfl, HBB11.out⟩
        · subst g1
          subst g2
          have hck := HEB2.out g3 g4
          rw [g5, HNN.out] at hck
          have HCK2 := hid hck
          clear hck HEB2 g3 g4 g5
          go_wp2_with fail
          have hk9 : Blk ((w9.alloc (.cells #[.int .u8 (R.k : Int), .int .u64 (R.n0 : Int), .int .u64 (R.n1 : Int), .int .u64 (R.n2 : Int), .int .u64 (R.n3 : Int), .int .u64 (R.n4 : Int), .int .u64 (R.n5 : Int), .string R.s0, .string R.s1, .slice A9 R.l.length c9] 29)).alloc (.cells #[.int .i64 0, .int .i64 ((0 : Nat) : Int)] 32)) (p9) 29 #[.int .u8 (R.k : Int), .int .u64 (R.n0 : Int), .int .u64 (R.n1 : Int), .int .u64 (R.n2 : Int), .int .u64 (R.n3 : Int), .int .u64 (R.n4 : Int), .int .u64 (R.n5 : Int), .string R.s0, .string R.s1, .slice A9 R.l.length c9] := by
            have h := ((Blk.new w9 29 #[.int .u8 (R.k : Int), .int .u64 (R.n0 : Int), .int .u64 (R.n1 : Int), .int .u64 (R.n2 : Int), .int .u64 (R.n3 : Int), .int .u64 (R.n4 : Int), .int .u64 (R.n5 : Int), .string R.s0, .string R.s1, .slice A9 R.l.length c9]).alloc (.cells #[.int .i64 0, .int .i64 ((0 : Nat) : Int)] 32))
            rw [hz] at h; exact h
          have hk8 : Blk ((w9.alloc (.cells #[.int .u8 (R.k : Int), .int .u64 (R.n0 : Int), .int .u64 (R.n1 : Int), .int .u64 (R.n2 : Int), .int .u64 (R.n3 : Int), .int .u64 (R.n4 : Int), .int .u64 (R.n5 : Int), .string R.s0, .string R.s1, .slice A9 R.l.length c9] 29)).alloc (.cells #[.int .i64 0, .int .i64 ((0 : Nat) : Int)] 32)) (p9 + 1) 32 #[.int .i64 0, .int .i64 ((0 : Nat) : Int)] := by
            have h := (Blk.new (w9.alloc (.cells #[.int .u8 (R.k : Int), .int .u64 (R.n0 : Int), .int .u64 (R.n1 : Int), .int .u64 (R.n2 : Int), .int .u64 (R.n3 : Int), .int .u64 (R.n4 : Int), .int .u64 (R.n5 : Int), .string R.s0, .string R.s1, .slice A9 R.l.length c9] 29)) 32 #[.int .i64 0, .int .i64 ((0 : Nat) : Int)])
            rw [World.size_alloc, hz] at h; exact h
          have hkm := ((HKM.out.alloc (.cells #[.int .u8 (R.k : Int), .int .u64 (R.n0 : Int), .int .u64 (R.n1 : Int), .int .u64 (R.n2 : Int), .int .u64 (R.n3 : Int), .int .u64 (R.n4 : Int), .int .u64 (R.n5 : Int), .string R.s0, .string R.s1, .slice A9 R.l.length c9] 29)).alloc (.cells #[.int .i64 0, .int .i64 ((0 : Nat) : Int)] 32))
          have hkf := ((HKF.out.alloc (.cells #[.int .u8 (R.k : Int), .int .u64 (R.n0 : Int), .int .u64 (R.n1 : Int), .int .u64 (R.n2 : Int), .int .u64 (R.n3 : Int), .int .u64 (R.n4 : Int), .int .u64 (R.n5 : Int), .string R.s0, .string R.s1, .slice A9 R.l.length c9] 29)).alloc (.cells #[.int .i64 0, .int .i64 ((0 : Nat) : Int)] 32))
          have hk4 := ((HK4.out.alloc (.cells #[.int .u8 (R.k : Int), .int .u64 (R.n0 : Int), .int .u64 (R.n1 : Int), .int .u64 (R.n2 : Int), .int .u64 (R.n3 : Int), .int .u64 (R.n4 : Int), .int .u64 (R.n5 : Int), .string R.s0, .string R.s1, .slice A9 R.l.length c9] 29)).alloc (.cells #[.int .i64 0, .int .i64 ((0 : Nat) : Int)] 32))
          have hkf4 := ((HKF4.out.alloc (.cells #[.int .u8 (R.k : Int), .int .u64 (R.n0 : Int), .int .u64 (R.n1 : Int), .int .u64 (R.n2 : Int), .int .u64 (R.n3 : Int), .int .u64 (R.n4 : Int), .int .u64 (R.n5 : Int), .string R.s0, .string R.s1, .slice A9 R.l.length c9] 29)).alloc (.cells #[.int .i64 0, .int .i64 ((0 : Nat) : Int)] 32))
          have hse := HSE.out.below (bw_a (bw_a (Below.refl w9.heap.size w9) (.cells #[.int .u8 (R.k : Int), .int .u64 (R.n0 : Int), .int .u64 (R.n1 : Int), .int .u64 (R.n2 : Int), .int .u64 (R.n3 : Int), .int .u64 (R.n4 : Int), .int .u64 (R.n5 : Int), .string R.s0, .string R.s1, .slice A9 R.l.length c9] 29)) (.cells #[.int .i64 0, .int .i64 ((0 : Nat) : Int)] 32))
          have hs4 := HS4.out.below (bw_a (bw_a (Below.refl w9.heap.size w9) (.cells #[.int .u8 (R.k : Int), .int .u64 (R.n0 : Int), .int .u64 (R.n1 : Int), .int .u64 (R.n2 : Int), .int .u64 (R.n3 : Int), .int .u64 (R.n4 : Int), .int .u64 (R.n5 : Int), .string R.s0, .string R.s1, .slice A9 R.l.length c9] 29)) (.cells #[.int .i64 0, .int .i64 ((0 : Nat) : Int)] 32))
          have hs9 := HS9.out.below (bw_a (bw_a (Below.refl w9.heap.size w9) (.cells #[.int .u8 (R.k : Int), .int .u64 (R.n0 : Int), .int .u64 (R.n1 : Int), .int .u64 (R.n2 : Int), .int .u64 (R.n3 : Int), .int .u64 (R.n4 : Int), .int .u64 (R.n5 : Int), .string R.s0, .string R.s1, .slice A9 R.l.length c9] 29)) (.cells #[.int .i64 0, .int .i64 ((0 : Nat) : Int)] 32))
          have hb0 : Below s w ((w9.alloc (.cells #[.int .u8 (R.k : Int), .int .u64 (R.n0 : Int), .int .u64 (R.n1 : Int), .int .u64 (R.n2 : Int), .int .u64 (R.n3 : Int), .int .u64 (R.n4 : Int), .int .u64 (R.n5 : Int), .string R.s0, .string R.s1, .slice A9 R.l.length c9] 29)).alloc (.cells #[.int .i64 0, .int .i64 ((0 : Nat) : Int)] 32)) := HBB9.out.trans ((bw_a (bw_a (Below.refl w9.heap.size w9) (.cells #[.int .u8 (R.k : Int), .int .u64 (R.n0 : Int), .int .u64 (R.n1 : Int), .int .u64 (R.n2 : Int), .int .u64 (R.n3 : Int), .int .u64 (R.n4 : Int), .int .u64 (R.n5 : Int), .string R.s0, .string R.s1, .slice A9 R.l.length c9] 29)) (.cells #[.int .i64 0, .int .i64 ((0 : Nat) : Int)] 32)).mono (by have := HBB9.out.size; omega))
          have hsz : (((w9.alloc (.cells #[.int .u8 (R.k : Int), .int .u64 (R.n0 : Int), .int .u64 (R.n1 : Int), .int .u64 (R.n2 : Int), .int .u64 (R.n3 : Int), .int .u64 (R.n4 : Int), .int .u64 (R.n5 : Int), .string R.s0, .string R.s1, .slice A9 R.l.length c9] 29)).alloc (.cells #[.int .i64 0, .int .i64 ((0 : Nat) : Int)] 32))).heap.size = p9 + 1 + 1 := by simp [hz]
          generalize hW10 : ((w9.alloc (.cells #[.int .u8 (R.k : Int), .int .u64 (R.n0 : Int), .int .u64 (R.n1 : Int), .int .u64 (R.n2 : Int), .int .u64 (R.n3 : Int), .int .u64 (R.n4 : Int), .int .u64 (R.n5 : Int), .string R.s0, .string R.s1, .slice A9 R.l.length c9] 29)).alloc (.cells #[.int .i64 0, .int .i64 ((0 : Nat) : Int)] 32)) = W10 at *
          have HKM := hid hkm
          have HKF := hid hkf
          have HK4 := hid hk4
          have HKF4 := hid hkf4
          have HK9 := hid hk9
          have HK8 := hid hk8
          have HSE := hid hse
          have HS4 := hid hs4
          have HS9 := hid hs9
          have HBB10 := hid hb0
          have HSZ10 := hid hsz
          clear hb0 hsz hz hW10 hkm hkf hk4 hkf4 hk9 hk8 hse hs4 hs9
          refine (HCK2.out _ _ _ HS9.out).mono ?_
          rintro e w11 ⟨A10, c10, rfl, hs10, hb⟩
          have hkm := HKM.out.below hb HKM.out.lt
          have hkf := HKF.out.below hb HKF.out.lt
          have hk4 := HK4.out.below hb HK4.out.lt
          have hkf4 := HKF4.out.below hb HKF4.out.lt
          have hk9 := HK9.out.below hb HK9.out.lt
          have hk8 := HK8.out.below hb HK8.out.lt
          have hse := HSE.out.below hb
          have hs4 := HS4.out.below hb
          have hs9 := HS9.out.below hb
          have hb0 : Below s w w11 := HBB10.out.trans (hb.mono (by have := HBB10.out.size; omega))
          have HKM := hid hkm
          have HKF := hid hkf
          have HK4 := hid hk4
          have HKF4 := hid hkf4
          have HK9 := hid hk9
          have HK8 := hid hk8
          have HSE := hid hse
          have HS4 := hid hs4
          have HS9 := hid hs9
          have HS10 := hid hs10
          have HBB11 := hid hb0
          clear hb0 hb hkm hkf hk4 hkf4 hk9 hk8 hse hs4 hs9 hs10
          have hs10 := HS10.out.sl
          obtain ⟨p10, hz⟩ : ∃ p, w11.heap.size = p := ⟨_, rfl⟩
          go_wp2_with fail
          have HS11 := hid hs10
          clear hs10
          have hk10 : Blk (w11.alloc (.cells #[.int .i64 0, .int .i64 0] 32)) (p10) 32 #[.int .i64 0, .int .i64 0] := by
            have h := (Blk.new w11 32 #[.int .i64 0, .int .i64 0])
            rw [hz] at h; exact h
          have hkm := (HKM.out.alloc (.cells #[.int .i64 0, .int .i64 0] 32))
          have hkf := (HKF.out.alloc (.cells #[.int .i64 0, .int .i64 0] 32))
          have hk4 := (HK4.out.alloc (.cells #[.int .i64 0, .int .i64 0] 32))
          have hkf4 := (HKF4.out.alloc (.cells #[.int .i64 0, .int .i64 0] 32))
          have hk9 := (HK9.out.alloc (.cells #[.int .i64 0, .int .i64 0] 32))
          have hk8 := (HK8.out.alloc (.cells #[.int .i64 0, .int .i64 0] 32))
          have hse := HSE.out.below (bw_a (Below.refl w11.heap.size w11) (.cells #[.int .i64 0, .int .i64 0] 32))
          have hs4 := HS4.out.below (bw_a (Below.refl w11.heap.size w11) (.cells #[.int .i64 0, .int .i64 0] 32))
          have hs9 := HS9.out.below (bw_a (Below.refl w11.heap.size w11) (.cells #[.int .i64 0, .int .i64 0] 32))
          have hs11 := HS11.out.below (bw_a (Below.refl w11.heap.size w11) (.cells #[.int .i64 0, .int .i64 0] 32))
          have hb0 : Below s w (w11.alloc (.cells #[.int .i64 0, .int .i64 0] 32)) := HBB11.out.trans ((bw_a (Below.refl w11.heap.size w11) (.cells #[.int .i64 0, .int .i64 0] 32)).mono (by have := HBB11.out.size; omega))
          have hsz : ((w11.alloc (.cells #[.int .i64 0, .int .i64 0] 32))).heap.size = p10 + 1 := by simp [hz]
          generalize hW12 : (w11.alloc (.cells #[.int .i64 0, .int .i64 0] 32)) = W12 at *
          have HKM := hid hkm
          have HKF := hid hkf
          have HK4 := hid hk4
          have HKF4 := hid hkf4
          have HK9 := hid hk9
          have HK8 := hid hk8
          have HK10 := hid hk10
          have HSE := hid hse
          have HS4 := hid hs4
          have HS9 := hid hs9
          have HS11 := hid hs11
          have HBB12 := hid hb0
          have HSZ12 := hid hsz
          clear hb0 hsz hz hW12 hkm hkf hk4 hkf4 hk9 hk8 hk10 hse hs4 hs9 hs11
          have hbs := bsame bs bs n n A10 A c10 c _ HNN.out HNN.out HS11.out (HSL.out _ HBB12.out)
          rw [decide_eq_true rfl] at hbs
          have HBS := hid hbs
          clear hbs
          refine (HBS.out).mono ?_
          rintro e w13 ⟨rfl, hb⟩
          have hkm := HKM.out.below hb HKM.out.lt
          have hkf := HKF.out.below hb HKF.out.lt
          have hk4 := HK4.out.below hb HK4.out.lt
          have hkf4 := HKF4.out.below hb HKF4.out.lt
          have hk9 := HK9.out.below hb HK9.out.lt
          have hk8 := HK8.out.below hb HK8.out.lt
          have hk10 := HK10.out.below hb HK10.out.lt
          have hse := HSE.out.below hb
          have hs4 := HS4.out.below hb
          have hs9 := HS9.out.below hb
          have hs11 := HS11.out.below hb
          have hb0 : Below s w w13 := HBB12.out.trans (hb.mono (by have := HBB12.out.size; omega))
          have HKM := hid hkm
          have HKF := hid hkf
          have HK4 := hid hk4
          have HKF4 := hid hkf4
          have HK9 := hid hk9
          have HK8 := hid hk8
          have HK10 := hid hk10
          have HSE := hid hse
          have HS4 := hid hs4
          have HS9 := hid hs9
          have HS11 := hid hs11
          have HBB13 := hid hb0
          clear hb0 hb hkm hkf hk4 hkf4 hk9 hk8 hk10 hse hs4 hs9 hs11
          go_wp2_with fail
          go_ret
          exact ⟨rfl, HBB13.out⟩
      · have heb : (E1 == 0) = false := by simpa using he
        clear he
        have zhkm0 := HKM.out.cell 0
        have lhkm := HKM.out.lt
        simp only [List.getElem?_toArray, List.getElem?_cons_zero] at zhkm0
        obtain ⟨p8, hz⟩ : ∃ p, w4.heap.size = p := ⟨_, rfl⟩
        rw [hz] at lhkm
        have mhkm := Nat.lt_add_one_of_lt lhkm
        go_wp2_with fail
        have hkf : Blk (w4.alloc (.cells #[.int .i64 E1, .int .i64 E2] 32)) (p8) 32 #[.int .i64 E1, .int .i64 E2] := by
          have h := (Blk.new w4 32 #[.int .i64 E1, .int .i64 E2])
          rw [hz] at h; exact h
        have hkm := (HKM.out.alloc (.cells #[.int .i64 E1, .int .i64 E2] 32))
        have hse := HSE.out.below (bw_a (Below.refl w4.heap.size w4) (.cells #[.int .i64 E1, .int .i64 E2] 32))
        have hb0 : Below s w (w4.alloc (.cells #[.int .i64 E1, .int .i64 E2] 32)) := HBB4.out.trans ((bw_a (Below.refl w4.heap.size w4) (.cells #[.int .i64 E1, .int .i64 E2] 32)).mono (by have := HBB4.out.size; omega))
        have hsz : ((w4.alloc (.cells #[.int .i64 E1, .int .i64 E2] 32))).heap.size = p8 + 1 := by simp [hz]
        generalize hW5 : (w4.alloc (.cells #[.int .i64 E1, .int .i64 E2] 32)) = W5 at *
        have HKM := hid hkm
        have HKF := hid hkf
        have HSE := hid hse
        have HBB5 := hid hb0
        have HSZ5 := hid hsz
        clear hb0 hsz hz hW5 hkm hkf hse
        refine (HD2.out _ _ _ (HSL.out _ HBB5.out)).mono ?_
        rintro e w6 ⟨A9, c9, rfl, hs9, hb⟩
        clear lhkm zhkm0 mhkm
        have hkm := HKM.out.below hb HKM.out.lt
        have hkf := HKF.out.below hb HKF.out.lt
        have hse := HSE.out.below hb
        have hb0 : Below s w w6 := HBB5.out.trans (hb.mono (by have := HBB5.out.size; omega))
        have HKM := hid hkm
        have HKF := hid hkf
        have HSE := hid hse
        have HS9 := hid hs9
        have HBB6 := hid hb0
        clear hb0 hb hkm hkf hse hs9
        obtain ⟨p9, hz⟩ : ∃ p, w6.heap.size = p := ⟨_, rfl⟩
        rcases HGD.out with ⟨g1, g2⟩ | ⟨g1, g2, g3, g4, g5⟩
        · have gb : (E != 0) = true := by simpa using g1
          have G1 := hid g1
          clear g1
          subst g2
          go_wp2_with fail
          have hk9 : Blk ((w6.alloc (.cells #[.int .u8 (ZM.k : Int), .int .u64 (ZM.n0 : Int), .int .u64 (ZM.n1 : Int), .int .u64 (ZM.n2 : Int), .int .u64 (ZM.n3 : Int), .int .u64 (ZM.n4 : Int), .int .u64 (ZM.n5 : Int), .string ZM.s0, .string ZM.s1, .slice A9 ZM.l.length c9] 29)).alloc (.cells #[.int .i64 E, .int .i64 (P : Int)] 32)) (p9) 29 #[.int .u8 (ZM.k : Int), .int .u64 (ZM.n0 : Int), .int .u64 (ZM.n1 : Int), .int .u64 (ZM.n2 : Int), .int .u64 (ZM.n3 : Int), .int .u64 (ZM.n4 : Int), .int .u64 (ZM.n5 : Int), .string ZM.s0, .string ZM.s1, .slice A9 ZM.l.length c9] := by
            have h := ((Blk.new w6 29 #[.int .u8 (ZM.k : Int), .int .u64 (ZM.n0 : Int), .int .u64 (ZM.n1 : Int), .int .u64 (ZM.n2 : Int), .int .u64 (ZM.n3 : Int), .int .u64 (ZM.n4 : Int), .int .u64 (ZM.n5 : Int), .string ZM.s0, .string ZM.s1, .slice A9 ZM.l.length c9]).alloc (.cells #[.int .i64 E, .int .i64 (P : Int)] 32))
            rw [hz] at h; exact h
          have hk8 : Blk ((w6.alloc (.cells #[.int .u8 (ZM.k : Int), .int .u64 (ZM.n0 : Int), .int .u64 (ZM.n1 : Int), .int .u64 (ZM.n2 : Int), .int .u64 (ZM.n3 : Int), .int .u64 (ZM.n4 : Int), .int .u64 (ZM.n5 : Int), .string ZM.s0, .string ZM.s1, .slice A9 ZM.l.length c9] 29)).alloc (.cells #[.int .i64 E, .int .i64 (P : Int)] 32)) (p9 + 1) 32 #[.int .i64 E, .int .i64 (P : Int)] := by
            have h := (Blk.new (w6.alloc (.cells #[.int .u8 (ZM.k : Int), .int .u64 (ZM.n0 : Int), .int .u64 (ZM.n1 : Int), .int .u64 (ZM.n2 : Int), .int .u64 (ZM.n3 : Int), .int .u64 (ZM.n4 : Int), .int .u64 (ZM.n5 : Int), .string ZM.s0, .string ZM.s1, .slice A9 ZM.l.length c9] 29)) 32 #[.int .i64 E, .int .i64 (P : Int)])
            rw [World.size_alloc, hz] at h; exact h
          have hkm := ((HKM.out.alloc (.cells #[.int .u8 (ZM.k : Int), .int .u64 (ZM.n0 : Int), .int .u64 (ZM.n1 : Int), .int .u64 (ZM.n2 : Int), .int .u64 (ZM.n3 : Int), .int .u64 (ZM.n4 : Int), .int .u64 (ZM.n5 : Int), .string ZM.s0, .string ZM.s1, .slice A9 ZM.l.length c9] 29)).alloc (.cells #[.int .i64 E, .int .i64 (P : Int)] 32))
          have hkf := ((HKF.out.alloc (.cells #[.int .u8 (ZM.k : Int), .int .u64 (ZM.n0 : Int), .int .u64 (ZM.n1 : Int), .int .u64 (ZM.n2 : Int), .int .u64 (ZM.n3 : Int), .int .u64 (ZM.n4 : Int), .int .u64 (ZM.n5 : Int), .string ZM.s0, .string ZM.s1, .slice A9 ZM.l.length c9] 29)).alloc (.cells #[.int .i64 E, .int .i64 (P : Int)] 32))
          have hse := HSE.out.below (bw_a (bw_a (Below.refl w6.heap.size w6) (.cells #[.int .u8 (ZM.k : Int), .int .u64 (ZM.n0 : Int), .int .u64 (ZM.n1 : Int), .int .u64 (ZM.n2 : Int), .int .u64 (ZM.n3 : Int), .int .u64 (ZM.n4 : Int), .int .u64 (ZM.n5 : Int), .string ZM.s0, .string ZM.s1, .slice A9 ZM.l.length c9] 29)) (.cells #[.int .i64 E, .int .i64 (P : Int)] 32))
          have hs9 := HS9.out.below (bw_a (bw_a (Below.refl w6.heap.size w6) (.cells #[.int .u8 (ZM.k : Int), .int .u64 (ZM.n0 : Int), .int .u64 (ZM.n1 : Int), .int .u64 (ZM.n2 : Int), .int .u64 (ZM.n3 : Int), .int .u64 (ZM.n4 : Int), .int .u64 (ZM.n5 : Int), .string ZM.s0, .string ZM.s1, .slice A9 ZM.l.length c9] 29)) (.cells #[.int .i64 E, .int .i64 (P : Int)] 32))
          have hb0 : Below s w ((w6.alloc (.cells #[.int .u8 (ZM.k : Int), .int .u64 (ZM.n0 : Int), .int .u64 (ZM.n1 : Int), .int .u64 (ZM.n2 : Int), .int .u64 (ZM.n3 : Int), .int .u64 (ZM.n4 : Int), .int .u64 (ZM.n5 : Int), .string ZM.s0, .string ZM.s1, .slice A9 ZM.l.length c9] 29)).alloc (.cells #[.int .i64 E, .int .i64 (P : Int)] 32)) := HBB6.out.trans ((bw_a (bw_a (Below.refl w6.heap.size w6) (.cells #[.int .u8 (ZM.k : Int), .int .u64 (ZM.n0 : Int), .int .u64 (ZM.n1 : Int), .int .u64 (ZM.n2 : Int), .int .u64 (ZM.n3 : Int), .int .u64 (ZM.n4 : Int), .int .u64 (ZM.n5 : Int), .string ZM.s0, .string ZM.s1, .slice A9 ZM.l.length c9] 29)) (.cells #[.int .i64 E, .int .i64 (P : Int)] 32)).mono (by have := HBB6.out.size; omega))
          have hsz : (((w6.alloc (.cells #[.int .u8 (ZM.k : Int), .int .u64 (ZM.n0 : Int), .int .u64 (ZM.n1 : Int), .int .u64 (ZM.n2 : Int), .int .u64 (ZM.n3 : Int), .int .u64 (ZM.n4 : Int), .int .u64 (ZM.n5 : Int), .string ZM.s0, .string ZM.s1, .slice A9 ZM.l.length c9] 29)).alloc (.cells #[.int .i64 E, .int .i64 (P : Int)] 32))).heap.size = p9 + 1 + 1 := by simp [hz]
          generalize hW7 : ((w6.alloc (.cells #[.int .u8 (ZM.k : Int), .int .u64 (ZM.n0 : Int), .int .u64 (ZM.n1 : Int), .int .u64 (ZM.n2 : Int), .int .u64 (ZM.n3 : Int), .int .u64 (ZM.n4 : Int), .int .u64 (ZM.n5 : Int), .string ZM.s0, .string ZM.s1, .slice A9 ZM.l.length c9] 29)).alloc (.cells #[.int .i64 E, .int .i64 (P : Int)] 32)) = W7 at *
          have HKM := hid hkm
          have HKF := hid hkf
          have HK9 := hid hk9
          have HK8 := hid hk8
          have HSE := hid hse
          have HS9 := hid hs9
          have HBB7 := hid hb0
          have HSZ7 := hid hsz
          clear hb0 hsz hz hW7 hkm hkf hk9 hk8 hse hs9
          refine (zero_sameS HS9.out).mono ?_
          rintro e w8 ⟨rfl, hb⟩
          have hkm := HKM.out.below hb HKM.out.lt
          have hkf := HKF.out.below hb HKF.out.lt
          have hk9 := HK9.out.below hb HK9.out.lt
          have hk8 := HK8.out.below hb HK8.out.lt
          have hse := HSE.out.below hb
          have hs9 := HS9.out.below hb
          have hb0 : Below s w w8 := HBB7.out.trans (hb.mono (by have := HBB7.out.size; omega))
          have HKM := hid hkm
          have HKF := hid hkf
          have HK9 := hid hk9
          have HK8 := hid hk8
          have HSE := hid hse
          have HS9 := hid hs9
          have HBB8 := hid hb0
          clear hb0 hb hkm hkf hk9 hk8 hse hs9
          go_wp2_with fail
          go_ret
          exact ⟨rfl, HBB8.out⟩
        · subst g1
          subst g2
          have hck := HEB2.out g3 g4
          rw [g5, HNN.out] at hck
          have HCK2 := hid hck
          clear hck HEB2 g3 g4 g5
          go_wp2_with fail
          have hk9 : Blk ((w6.alloc (.cells #[.int .u8 (R.k : Int), .int .u64 (R.n0 : Int), .int .u64 (R.n1 : Int), .int .u64 (R.n2 : Int), .int .u64 (R.n3 : Int), .int .u64 (R.n4 : Int), .int .u64 (R.n5 : Int), .string R.s0, .string R.s1, .slice A9 R.l.length c9] 29)).alloc (.cells #[.int .i64 0, .int .i64 ((0 : Nat) : Int)] 32)) (p9) 29 #[.int .u8 (R.k : Int), .int .u64 (R.n0 : Int), .int .u64 (R.n1 : Int), .int .u64 (R.n2 : Int), .int .u64 (R.n3 : Int), .int .u64 (R.n4 : Int), .int .u64 (R.n5 : Int), .string R.s0, .string R.s1, .slice A9 R.l.length c9] := by
            have h := ((Blk.new w6 29 #[.int .u8 (R.k : Int), .int .u64 (R.n0 : Int), .int .u64 (R.n1 : Int), .int .u64 (R.n2 : Int), .int .u64 (R.n3 : Int), .int .u64 (R.n4 : Int), .int .u64 (R.n5 : Int), .string R.s0, .string R.s1, .slice A9 R.l.length c9]).alloc (.cells #[.int .i64 0, .int .i64 ((0 : Nat) : Int)] 32))
            rw [hz] at h; exact h
          have hk8 : Blk ((w6.alloc (.cells #[.int .u8 (R.k : Int), .int .u64 (R.n0 : Int), .int .u64 (R.n1 : Int), .int .u64 (R.n2 : Int), .int .u64 (R.n3 : Int), .int .u64 (R.n4 : Int), .int .u64 (R.n5 : Int), .string R.s0, .string R.s1, .slice A9 R.l.length c9] 29)).alloc (.cells #[.int .i64 0, .int .i64 ((0 : Nat) : Int)] 32)) (p9 + 1) 32 #[.int .i64 0, .int .i64 ((0 : Nat) : Int)] := by
            have h := (Blk.new (w6.alloc (.cells #[.int .u8 (R.k : Int), .int .u64 (R.n0 : Int), .int .u64 (R.n1 : Int), .int .u64 (R.n2 : Int), .int .u64 (R.n3 : Int), .int .u64 (R.n4 : Int), .int .u64 (R.n5 : Int), .string R.s0, .string R.s1, .slice A9 R.l.length c9] 29)) 32 #[.int .i64 0, .int .i64 ((0 : Nat) : Int)])
            rw [World.size_alloc, hz] at h; exact h
          have hkm := ((HKM.out.alloc (.cells #[.int .u8 (R.k : Int), .int .u64 (R.n0 : Int), .int .u64 (R.n1 : Int), .int .u64 (R.n2 : Int), .int .u64 (R.n3 : Int), .int .u64 (R.n4 : Int), .int .u64 (R.n5 : Int), .string R.s0, .string R.s1, .slice A9 R.l.length c9] 29)).alloc (.cells #[.int .i64 0, .int .i64 ((0 : Nat) : Int)] 32))
          have hkf := ((HKF.out.alloc (.cells #[.int .u8 (R.k : Int), .int .u64 (R.n0 : Int), .int .u64 (R.n1 : Int), .int .u64 (R.n2 : Int), .int .u64 (R.n3 : Int), .int .u64 (R.n4 : Int), .int .u64 (R.n5 : Int), .string R.s0, .string R.s1, .slice A9 R.l.length c9] 29)).alloc (.cells #[.int .i64 0, .int .i64 ((0 : Nat) : Int)] 32))
          have hse := HSE.out.below (bw_a (bw_a (Below.refl w6.heap.size w6) (.cells #[.int .u8 (R.k : Int), .int .u64 (R.n0 : Int), .int .u64 (R.n1 : Int), .int .u64 (R.n2 : Int), .int .u64 (R.n3 : Int), .int .u64 (R.n4 : Int), .int .u64 (R.n5 : Int), .string R.s0, .string R.s1, .slice A9 R.l.length c9] 29)) (.cells #[.int .i64 0, .int .i64 ((0 : Nat) : Int)] 32))
          have hs9 := HS9.out.below (bw_a (bw_a (Below.refl w6.heap.size w6) (.cells #[.int .u8 (R.k : Int), .int .u64 (R.n0 : Int), .int .u64 (R.n1 : Int), .int .u64 (R.n2 : Int), .int .u64 (R.n3 : Int), .int .u64 (R.n4 : Int), .int .u64 (R.n5 : Int), .string R.s0, .string R.s1, .slice A9 R.l.length c9] 29)) (.cells #[.int .i64 0, .int .i64 ((0 : Nat) : Int)] 32))
          have hb0 : Below s w ((w6.alloc (.cells #[.int .u8 (R.k : Int), .int .u64 (R.n0 : Int), .int .u64 (R.n1 : Int), .int .u64 (R.n2 : Int), .int .u64 (R.n3 : Int), .int .u64 (R.n4 : Int), .int .u64 (R.n5 : Int), .string R.s0, .string R.s1, .slice A9 R.l.length c9] 29)).alloc (.cells #[.int .i64 0, .int .i64 ((0 : Nat) : Int)] 32)) := HBB6.out.trans ((bw_a (bw_a (Below.refl w6.heap.size w6) (.cells #[.int .u8 (R.k : Int), .int .u64 (R.n0 : Int), .int .u64 (R.n1 : Int), .int .u64 (R.n2 : Int), .int .u64 (R.n3 : Int), .int .u64 (R.n4 : Int), .int .u64 (R.n5 : Int), .string R.s0, .string R.s1, .slice A9 R.l.length c9] 29)) (.cells #[.int .i64 0, .int .i64 ((0 : Nat) : Int)] 32)).mono (by have := HBB6.out.size; omega))
          have hsz : (((w6.alloc (.cells #[.int .u8 (R.k : Int), .int .u64 (R.n0 : Int), .int .u64 (R.n1 : Int), .int .u64 (R.n2 : Int), .int .u64 (R.n3 : Int), .int .u64 (R.n4 : Int), .int .u64 (R.n5 : Int), .string R.s0, .string R.s1, .slice A9 R.l.length c9] 29)).alloc (.cells #[.int .i64 0, .int .i64 ((0 : Nat) : Int)] 32))).heap.size = p9 + 1 + 1 := by simp [hz]
          generalize hW7 : ((w6.alloc (.cells #[.int .u8 (R.k : Int), .int .u64 (R.n0 : Int), .int .u64 (R.n1 : Int), .int .u64 (R.n2 : Int), .int .u64 (R.n3 : Int), .int .u64 (R.n4 : Int), .int .u64 (R.n5 : Int), .string R.s0, .string R.s1, .slice A9 R.l.length c9] 29)).alloc (.cells #[.int .i64 0, .int .i64 ((0 : Nat) : Int)] 32)) = W7 at *
          have HKM := hid hkm
          have HKF := hid hkf
          have HK9 := hid hk9
          have HK8 := hid hk8
          have HSE := hid hse
          have HS9 := hid hs9
          have HBB7 := hid hb0
          have HSZ7 := hid hsz
          clear hb0 hsz hz hW7 hkm hkf hk9 hk8 hse hs9
          refine (HCK2.out _ _ _ HS9.out).mono ?_
          rintro e w8 ⟨A10, c10, rfl, hs10, hb⟩
          have hkm := HKM.out.below hb HKM.out.lt
          have hkf := HKF.out.below hb HKF.out.lt
          have hk9 := HK9.out.below hb HK9.out.lt
          have hk8 := HK8.out.below hb HK8.out.lt
          have hse := HSE.out.below hb
          have hs9 := HS9.out.below hb
          have hb0 : Below s w w8 := HBB7.out.trans (hb.mono (by have := HBB7.out.size; omega))
          have HKM := hid hkm
          have HKF := hid hkf
          have HK9 := hid hk9
          have HK8 := hid hk8
          have HSE := hid hse
          have HS9 := hid hs9
          have HS10 := hid hs10
          have HBB8 := hid hb0
          clear hb0 hb hkm hkf hk9 hk8 hse hs9 hs10
          have hs10 := HS10.out.sl
          obtain ⟨p10, hz⟩ : ∃ p, w8.heap.size = p := ⟨_, rfl⟩
          go_wp2_with fail
          have HS11 := hid hs10
          clear hs10
          have hk10 : Blk (w8.alloc (.cells #[.int .i64 0, .int .i64 0] 32)) (p10) 32 #[.int .i64 0, .int .i64 0] := by
            have h := (Blk.new w8 32 #[.int .i64 0, .int .i64 0])
            rw [hz] at h; exact h
          have hkm := (HKM.out.alloc (.cells #[.int .i64 0, .int .i64 0] 32))
          have hkf := (HKF.out.alloc (.cells #[.int .i64 0, .int .i64 0] 32))
          have hk9 := (HK9.out.alloc (.cells #[.int .i64 0, .int .i64 0] 32))
          have hk8 := (HK8.out.alloc (.cells #[.int .i64 0, .int .i64 0] 32))
          have hse := HSE.out.below (bw_a (Below.refl w8.heap.size w8) (.cells #[.int .i64 0, .int .i64 0] 32))
          have hs9 := HS9.out.below (bw_a (Below.refl w8.heap.size w8) (.cells #[.int .i64 0, .int .i64 0] 32))
          have hs11 := HS11.out.below (bw_a (Below.refl w8.heap.size w8) (.cells #[.int .i64 0, .int .i64 0] 32))
          have hb0 : Below s w (w8.alloc (.cells #[.int .i64 0, .int .i64 0] 32)) := HBB8.out.trans ((bw_a (Below.refl w8.heap.size w8) (.cells #[.int .i64 0, .int .i64 0] 32)).mono (by have := HBB8.out.size; omega))
          have hsz : ((w8.alloc (.cells #[.int .i64 0, .int .i64 0] 32))).heap.size = p10 + 1 := by simp [hz]
          generalize hW9 : (w8.alloc (.cells #[.int .i64 0, .int .i64 0] 32)) = W9 at *
          have HKM := hid hkm
          have HKF := hid hkf
          have HK9 := hid hk9
          have HK8 := hid hk8
          have HK10 := hid hk10
          have HSE := hid hse
          have HS9 := hid hs9
          have HS11 := hid hs11
          have HBB9 := hid hb0
          have HSZ9 := hid hsz
          clear hb0 hsz hz hW9 hkm hkf hk9 hk8 hk10 hse hs9 hs11
          have hbs := bsame bs bs n n A10 A c10 c _ HNN.out HNN.out HS11.out (HSL.out _ HBB9.out)
          rw [decide_eq_true rfl] at hbs
          have HBS := hid hbs
          clear hbs
          refine (HBS.out).mono ?_
          rintro e w10 ⟨rfl, hb⟩
          have hkm := HKM.out.below hb HKM.out.lt
          have hkf := HKF.out.below hb HKF.out.lt
          have hk9 := HK9.out.below hb HK9.out.lt
          have hk8 := HK8.out.below hb HK8.out.lt
          have hk10 := HK10.out.below hb HK10.out.lt
          have hse := HSE.out.below hb
          have hs9 := HS9.out.below hb
          have hs11 := HS11.out.below hb
          have hb0 : Below s w w10 := HBB9.out.trans (hb.mono (by have := HBB9.out.size; omega))
          have HKM := hid hkm
          have HKF := hid hkf
          have HK9 := hid hk9
          have HK8 := hid hk8
          have HK10 := hid hk10
          have HSE := hid hse
          have HS9 := hid hs9
          have HS11 := hid hs11
          have HBB10 := hid hb0
          clear hb0 hb hkm hkf hk9 hk8 hk10 hse hs9 hs11
          go_wp2_with fail
          go_ret
          exact ⟨rfl, HBB10.out⟩
end Go.Proofs.Ytealjpolomhdeaa
