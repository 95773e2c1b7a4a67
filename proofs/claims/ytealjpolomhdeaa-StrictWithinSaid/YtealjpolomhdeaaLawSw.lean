/- The walk of StrictWithin. -/
import Derived.Test.YtealjpolomhdeaaG18
set_option linter.unusedVariables false
namespace Go.Proofs.Ytealjpolomhdeaa
open Go.RowKit
set_option maxRecDepth 100000 in
set_option maxHeartbeats 8000000 in
theorem strictWithin_bad (k : Nat) (v : Int) (bs : List UInt8) (n : Nat) (A : Option Addr) (c : Nat) (w : World) (hk : k ≤ 255) (hv1 : -9223372036854775808 ≤ v) (hv2 : v ≤ 9223372036854775807) (hn : bs.length = n) (hs : Sl w A c (bs.map bv)) {E : Int} {P : Nat} (hE : E ≠ 0) (hr : readR k v bs = (ZM, [], E, P)) (hR : strR k v bs = (ZM, [], E, P)) (hD : strD k v bs = (ZM, E, P)) :
    Calls Try.prog 6 #[.int .u8 (k : Int), .int .i64 v, .slice A n c] w fun e w' => e = .returned (.bool true) ∧ Below w.heap.size w w' := by
  have hlv := fun W => live12_any W
  obtain ⟨s, hws⟩ : ∃ s, w.heap.size = s := ⟨_, rfl⟩
  have hsl : ∀ W, Below s w W → Sl W A c (bs.map bv) := fun W hW => hs.below (by rw [hws]; exact hW)
  have hd1 : ∀ W, Below s w W → Calls Try.prog 11 #[.int .u8 (k : Int), .int .i64 v, .slice A n c] W fun e w' => ∃ A' c', e = .returned (.tuple #[.agg #[.int .u8 (ZM.k : Int), .int .u64 (ZM.n0 : Int), .int .u64 (ZM.n1 : Int), .int .u64 (ZM.n2 : Int), .int .u64 (ZM.n3 : Int), .int .u64 (ZM.n4 : Int), .int .u64 (ZM.n5 : Int), .string ZM.s0, .string ZM.s1, .slice A' ZM.l.length c'], .agg #[.int .i64 E, .int .i64 (P : Int)]]) ∧ Sl w' A' c' (ZM.l.map sv) ∧ Below W.heap.size W w' := fun W hW => (dec_p hk hv1 hv2 hn (hsl W hW) hr).mono (by rintro e w' ⟨A', c', he, ho, hb⟩; exact ⟨A', c', he, ho.sl, hb⟩)
  have hd2 : ∀ W, Below s w W → Calls Try.prog 23 #[.int .u8 (k : Int), .int .i64 v, .slice A n c] W fun e w' => ∃ A' c', e = .returned (.tuple #[.slice A' 0 c', .agg #[.int .i64 E, .int .i64 (P : Int)]]) ∧ Sl w' A' c' [] ∧ Below W.heap.size W w' := fun W hW => (tfix_any k v bs n A c W hk hv1 hv2 hn (hsl W hW)).mono (by rw [hR]; rintro e w' ⟨A', c', he, ho, hb⟩; exact ⟨A', c', he, ho.sl, hb⟩)
  have hd3 : ∀ W, Below s w W → _ := fun W hW => dec_st (w := W) hk hv1 hv2 hn (hsl W hW) hD
  have gb : (E != 0) = true := by simpa using hE
  rw [hws]
  have HLV := hid hlv
  have HD1 := hid hd1
  have HD2 := hid hd2
  have HD3 := hid hd3
  have HE := hid hE
  clear hlv hd1 hd2 hd3 hsl hs hn hr hR hD hE
  generalize ((P : Nat) : Int) = P at *
  go_enter Try.func6, Try.ntmps6
  go_wp2_with fail
  refine (HLV.out w).mono ?_
  rintro e w1 ⟨rfl, hb⟩
  have hb0 : Below s w w1 := by rw [← hws]; exact hb
  have HBB1 := hid hb0
  clear hb0 hb 
  by_cases hn1 : 10000 < n
  · have hn2 : (10000 : Int) < (n : Int) := by omega
    go_wp2_with fail
    go_ret
    exact ⟨rfl, HBB1.out⟩
  · have hn2 : ¬ (10000 : Int) < (n : Int) := by omega
    have hn3 : decide ((10000 : Int) < (n : Int)) = false := by simpa using hn2
    go_wp2_with fail
    refine (HD1.out _ HBB1.out).mono ?_
    rintro e w2 ⟨A1, c1, rfl, hs1, hb⟩
    have hb0 : Below s w w2 := HBB1.out.trans (hb.mono (by have := HBB1.out.size; omega))
    have HS1 := hid hs1
    have HBB2 := hid hb0
    clear hb0 hb hs1
    obtain ⟨p2, hz⟩ : ∃ p, w2.heap.size = p := ⟨_, rfl⟩
    go_wp2_with fail
    have hk7 : Blk ((w2.alloc (.cells #[.int .u8 (ZM.k : Int), .int .u64 (ZM.n0 : Int), .int .u64 (ZM.n1 : Int), .int .u64 (ZM.n2 : Int), .int .u64 (ZM.n3 : Int), .int .u64 (ZM.n4 : Int), .int .u64 (ZM.n5 : Int), .string ZM.s0, .string ZM.s1, .slice A1 ZM.l.length c1] 29)).alloc (.cells #[.int .i64 E, .int .i64 P] 32)) (p2) 29 #[.int .u8 (ZM.k : Int), .int .u64 (ZM.n0 : Int), .int .u64 (ZM.n1 : Int), .int .u64 (ZM.n2 : Int), .int .u64 (ZM.n3 : Int), .int .u64 (ZM.n4 : Int), .int .u64 (ZM.n5 : Int), .string ZM.s0, .string ZM.s1, .slice A1 ZM.l.length c1] := by
      have h := ((Blk.new w2 29 #[.int .u8 (ZM.k : Int), .int .u64 (ZM.n0 : Int), .int .u64 (ZM.n1 : Int), .int .u64 (ZM.n2 : Int), .int .u64 (ZM.n3 : Int), .int .u64 (ZM.n4 : Int), .int .u64 (ZM.n5 : Int), .string ZM.s0, .string ZM.s1, .slice A1 ZM.l.length c1]).alloc (.cells #[.int .i64 E, .int .i64 P] 32))
      rw [hz] at h; exact h
    have hk8 : Blk ((w2.alloc (.cells #[.int .u8 (ZM.k : Int), .int .u64 (ZM.n0 : Int), .int .u64 (ZM.n1 : Int), .int .u64 (ZM.n2 : Int), .int .u64 (ZM.n3 : Int), .int .u64 (ZM.n4 : Int), .int .u64 (ZM.n5 : Int), .string ZM.s0, .string ZM.s1, .slice A1 ZM.l.length c1] 29)).alloc (.cells #[.int .i64 E, .int .i64 P] 32)) (p2 + 1) 32 #[.int .i64 E, .int .i64 P] := by
      have h := (Blk.new (w2.alloc (.cells #[.int .u8 (ZM.k : Int), .int .u64 (ZM.n0 : Int), .int .u64 (ZM.n1 : Int), .int .u64 (ZM.n2 : Int), .int .u64 (ZM.n3 : Int), .int .u64 (ZM.n4 : Int), .int .u64 (ZM.n5 : Int), .string ZM.s0, .string ZM.s1, .slice A1 ZM.l.length c1] 29)) 32 #[.int .i64 E, .int .i64 P])
      rw [World.size_alloc, hz] at h; exact h
    have hs1 := HS1.out.below (bw_a (bw_a (Below.refl w2.heap.size w2) (.cells #[.int .u8 (ZM.k : Int), .int .u64 (ZM.n0 : Int), .int .u64 (ZM.n1 : Int), .int .u64 (ZM.n2 : Int), .int .u64 (ZM.n3 : Int), .int .u64 (ZM.n4 : Int), .int .u64 (ZM.n5 : Int), .string ZM.s0, .string ZM.s1, .slice A1 ZM.l.length c1] 29)) (.cells #[.int .i64 E, .int .i64 P] 32))
    have hb0 : Below s w ((w2.alloc (.cells #[.int .u8 (ZM.k : Int), .int .u64 (ZM.n0 : Int), .int .u64 (ZM.n1 : Int), .int .u64 (ZM.n2 : Int), .int .u64 (ZM.n3 : Int), .int .u64 (ZM.n4 : Int), .int .u64 (ZM.n5 : Int), .string ZM.s0, .string ZM.s1, .slice A1 ZM.l.length c1] 29)).alloc (.cells #[.int .i64 E, .int .i64 P] 32)) := HBB2.out.trans ((bw_a (bw_a (Below.refl w2.heap.size w2) (.cells #[.int .u8 (ZM.k : Int), .int .u64 (ZM.n0 : Int), .int .u64 (ZM.n1 : Int), .int .u64 (ZM.n2 : Int), .int .u64 (ZM.n3 : Int), .int .u64 (ZM.n4 : Int), .int .u64 (ZM.n5 : Int), .string ZM.s0, .string ZM.s1, .slice A1 ZM.l.length c1] 29)) (.cells #[.int .i64 E, .int .i64 P] 32)).mono (by have := HBB2.out.size; omega))
    have hsz : (((w2.alloc (.cells #[.int .u8 (ZM.k : Int), .int .u64 (ZM.n0 : Int), .int .u64 (ZM.n1 : Int), .int .u64 (ZM.n2 : Int), .int .u64 (ZM.n3 : Int), .int .u64 (ZM.n4 : Int), .int .u64 (ZM.n5 : Int), .string ZM.s0, .string ZM.s1, .slice A1 ZM.l.length c1] 29)).alloc (.cells #[.int .i64 E, .int .i64 P] 32))).heap.size = p2 + 1 + 1 := by simp [hz]
    generalize hW3 : ((w2.alloc (.cells #[.int .u8 (ZM.k : Int), .int .u64 (ZM.n0 : Int), .int .u64 (ZM.n1 : Int), .int .u64 (ZM.n2 : Int), .int .u64 (ZM.n3 : Int), .int .u64 (ZM.n4 : Int), .int .u64 (ZM.n5 : Int), .string ZM.s0, .string ZM.s1, .slice A1 ZM.l.length c1] 29)).alloc (.cells #[.int .i64 E, .int .i64 P] 32)) = W3 at *
    have HK7 := hid hk7
    have HK8 := hid hk8
    have HS1 := hid hs1
    have HBB3 := hid hb0
    have HSZ3 := hid hsz
    clear hb0 hsz hz hW3 hk7 hk8 hs1
    refine (HD2.out _ HBB3.out).mono ?_
    rintro e w4 ⟨A2, c2, rfl, hs2, hb⟩
    have hk7 := HK7.out.below hb HK7.out.lt
    have hk8 := HK8.out.below hb HK8.out.lt
    have hs1 := HS1.out.below hb
    have hb0 : Below s w w4 := HBB3.out.trans (hb.mono (by have := HBB3.out.size; omega))
    have HK7 := hid hk7
    have HK8 := hid hk8
    have HS1 := hid hs1
    have HS2 := hid hs2
    have HBB4 := hid hb0
    clear hb0 hb hk7 hk8 hs1 hs2
    obtain ⟨p3, hz⟩ : ∃ p, w4.heap.size = p := ⟨_, rfl⟩
    go_wp2_with fail
    have hk10 : Blk (w4.alloc (.cells #[.int .i64 E, .int .i64 P] 32)) (p3) 32 #[.int .i64 E, .int .i64 P] := by
      have h := (Blk.new w4 32 #[.int .i64 E, .int .i64 P])
      rw [hz] at h; exact h
    have hk7 := (HK7.out.alloc (.cells #[.int .i64 E, .int .i64 P] 32))
    have hk8 := (HK8.out.alloc (.cells #[.int .i64 E, .int .i64 P] 32))
    have hs1 := HS1.out.below (bw_a (Below.refl w4.heap.size w4) (.cells #[.int .i64 E, .int .i64 P] 32))
    have hs2 := HS2.out.below (bw_a (Below.refl w4.heap.size w4) (.cells #[.int .i64 E, .int .i64 P] 32))
    have hb0 : Below s w (w4.alloc (.cells #[.int .i64 E, .int .i64 P] 32)) := HBB4.out.trans ((bw_a (Below.refl w4.heap.size w4) (.cells #[.int .i64 E, .int .i64 P] 32)).mono (by have := HBB4.out.size; omega))
    have hsz : ((w4.alloc (.cells #[.int .i64 E, .int .i64 P] 32))).heap.size = p3 + 1 := by simp [hz]
    generalize hW5 : (w4.alloc (.cells #[.int .i64 E, .int .i64 P] 32)) = W5 at *
    have HK7 := hid hk7
    have HK8 := hid hk8
    have HK10 := hid hk10
    have HS1 := hid hs1
    have HS2 := hid hs2
    have HBB5 := hid hb0
    have HSZ5 := hid hsz
    clear hb0 hsz hz hW5 hk7 hk8 hk10 hs1 hs2
    refine (HD3.out _ HBB5.out).mono ?_
    rintro e w6 ⟨A3, c3, rfl, hs3, hb⟩
    have hk7 := HK7.out.below hb HK7.out.lt
    have hk8 := HK8.out.below hb HK8.out.lt
    have hk10 := HK10.out.below hb HK10.out.lt
    have hs1 := HS1.out.below hb
    have hs2 := HS2.out.below hb
    have hb0 : Below s w w6 := HBB5.out.trans (hb.mono (by have := HBB5.out.size; omega))
    have HK7 := hid hk7
    have HK8 := hid hk8
    have HK10 := hid hk10
    have HS1 := hid hs1
    have HS2 := hid hs2
    have HS3 := hid hs3
    have HBB6 := hid hb0
    clear hb0 hb hk7 hk8 hk10 hs1 hs2 hs3
    have zhk80 := HK8.out.cell 0
    have zhk81 := HK8.out.cell 1
    have lhk8 := HK8.out.lt
    have zhk100 := HK10.out.cell 0
    have zhk101 := HK10.out.cell 1
    have lhk10 := HK10.out.lt
    simp only [List.getElem?_toArray, List.getElem?_cons_zero, List.getElem?_cons_succ] at zhk80 zhk81 zhk100 zhk101
    obtain ⟨p4, hz⟩ : ∃ p, w6.heap.size = p := ⟨_, rfl⟩
    rw [hz] at lhk8
    have mhk8 := Nat.lt_add_one_of_lt lhk8
    rw [hz] at lhk10
    have mhk10 := Nat.lt_add_one_of_lt lhk10
    go_wp2_with fail
    go_ret
    refine ⟨rfl, HBB6.out.trans (((bw_a (bw_a (Below.refl w6.heap.size w6) (.cells #[.int .u8 (ZM.k : Int), .int .u64 (ZM.n0 : Int), .int .u64 (ZM.n1 : Int), .int .u64 (ZM.n2 : Int), .int .u64 (ZM.n3 : Int), .int .u64 (ZM.n4 : Int), .int .u64 (ZM.n5 : Int), .string ZM.s0, .string ZM.s1, .slice A3 ZM.l.length c3] 29)) (.cells #[.int .i64 E, .int .i64 P] 32))).mono (by have := HBB6.out.size; omega))⟩
set_option maxRecDepth 100000 in
set_option maxHeartbeats 8000000 in
theorem strictWithin_good (v : Int) (bs : List UInt8) (n : Nat) (A : Option Addr) (c : Nat) (w : World) {M : MV} {O : List (RF × Nat)} (hk : M.k ≤ 255) (hv1 : -9223372036854775808 ≤ v) (hv2 : v ≤ 9223372036854775807) (hn : bs.length = n) (hs : Sl w A c (bs.map bv)) (hr : readR M.k v bs = (M, O, 0, 0)) (hg : Good M.k v M) (hc : chkV M (ofL (M.k : Int) v) = (0, 0)) (hR : strR M.k v bs = (M, encB M (ofL (M.k : Int) v), 0, 0)) (hD : strD M.k v bs = if encB M (ofL (M.k : Int) v) = bs then (M, 0, 0) else (ZM, 3, unl bs (encB M (ofL (M.k : Int) v)))) :
    Calls Try.prog 6 #[.int .u8 (M.k : Int), .int .i64 v, .slice A n c] w fun e w' => e = .returned (.bool true) ∧ Below w.heap.size w w' := by
  have hlv := fun W => live12_any W
  obtain ⟨s, hws⟩ : ∃ s, w.heap.size = s := ⟨_, rfl⟩
  have hsl : ∀ W, Below s w W → Sl W A c (bs.map bv) := fun W hW => hs.below (by rw [hws]; exact hW)
  obtain ⟨M2, hb1, hb2⟩ := str_back v hg.hn (good_sm hg) (by rw [hc])
  obtain ⟨eb, heb⟩ : ∃ eb, encB M (ofL (M.k : Int) v) = eb := ⟨_, rfl⟩
  rw [heb] at hb1 hR hD
  obtain ⟨el, hel⟩ : ∃ el, eb.length = el := ⟨_, rfl⟩
  have hd1 : ∀ W, Below s w W → Calls Try.prog 11 #[.int .u8 (M.k : Int), .int .i64 v, .slice A n c] W fun e w' => ∃ A' c', e = .returned (.tuple #[.agg #[.int .u8 (M.k : Int), .int .u64 (M.n0 : Int), .int .u64 (M.n1 : Int), .int .u64 (M.n2 : Int), .int .u64 (M.n3 : Int), .int .u64 (M.n4 : Int), .int .u64 (M.n5 : Int), .string M.s0, .string M.s1, .slice A' M.l.length c'], .agg #[.int .i64 0, .int .i64 ((0 : Nat) : Int)]]) ∧ Sl w' A' c' (M.l.map sv) ∧ Below W.heap.size W w' := fun W hW => (dec_p hk hv1 hv2 hn (hsl W hW) hr).mono (by rintro e w' ⟨A', c', he, ho, hb⟩; exact ⟨A', c', he, ho.sl, hb⟩)
  have hd2 : ∀ W, Below s w W → Calls Try.prog 23 #[.int .u8 (M.k : Int), .int .i64 v, .slice A n c] W fun e w' => ∃ A' c', e = .returned (.tuple #[.slice A' el c', .agg #[.int .i64 0, .int .i64 ((0 : Nat) : Int)]]) ∧ Sl w' A' c' (eb.map bv) ∧ Below W.heap.size W w' := fun W hW => (tfix_any M.k v bs n A c W hk hv1 hv2 hn (hsl W hW)).mono (by rw [hR]; rintro e w' ⟨A', c', he, ho, hb⟩; simp only [hel] at he; exact ⟨A', c', he, ho.sl, hb⟩)
  have hd4 : ∀ W A' c', Sl W A' c' (eb.map bv) → _ := fun W A' c' h => dec_st (w := W) hk hv1 hv2 hel h hb1
  have hsa := fun W (R : MV) A' c' B d h1 h2 => msame R M A' c' B d M.l.length W rfl h1 h2
  have hbse := fun W A' c' (h1 : Sl W A c (bs.map bv)) (h2 : Sl W A' c' (eb.map bv)) => bsame bs eb n el A A' c c' W hn hel h1 h2
  rw [hws]
  have HLV := hid hlv
  have HD1 := hid hd1
  have HD2 := hid hd2
  have HD4 := hid hd4
  have HSA := hid hsa
  have HS2M := hid hb2
  have HBE := hid hbse
  have HSL := hid hsl
  have hMM : sameB M M = true := (sameB_iff _ _).2 ⟨rfl, ⟨rfl, rfl, rfl, rfl, rfl, rfl⟩, ⟨rfl, rfl⟩, rfl⟩
  have HMM := hid hMM
  have hdd := fun (e : eb = bs) => (show strD M.k v bs = (M, 0, 0) by rw [hD, if_pos e])
  have hde := fun (e : eb ≠ bs) => (show strD M.k v bs = (ZM, 3, unl bs eb) by rw [hD, if_neg e])
  have hd3a : eb = bs → ∀ W, Below s w W → _ := fun e W hW => dec_st (w := W) hk hv1 hv2 hn (hsl W hW) (hdd e)
  have hd3b : eb ≠ bs → ∀ W, Below s w W → _ := fun e W hW => dec_st (w := W) hk hv1 hv2 hn (hsl W hW) (hde e)
  have HD3A := hid hd3a
  have HD3B := hid hd3b
  clear hlv hd1 hd2 hd4 hsa hbse hsl hs hn hr hR hD hdd hde hd3a hd3b hMM hb1 hb2 hel hg hc heb
  by_cases he : eb = bs
  · have hd3 := HD3A.out he
    have HD3 := hid hd3
    clear hd3 HD3A HD3B
    subst he
    go_enter Try.func6, Try.ntmps6
    go_wp2_with fail
    refine (HLV.out w).mono ?_
    rintro e w1 ⟨rfl, hb⟩
    have hb0 : Below s w w1 := by rw [← hws]; exact hb
    have HBB1 := hid hb0
    clear hb0 hb 
    by_cases hn1 : 10000 < n
    · have hn2 : (10000 : Int) < (n : Int) := by omega
      go_wp2_with fail
      go_ret
      exact ⟨rfl, HBB1.out⟩
    · have hn2 : ¬ (10000 : Int) < (n : Int) := by omega
      have hn3 : decide ((10000 : Int) < (n : Int)) = false := by simpa using hn2
      go_wp2_with fail
      refine (HD1.out _ HBB1.out).mono ?_
      rintro e w2 ⟨A1, c1, rfl, hs1, hb⟩
      have hb0 : Below s w w2 := HBB1.out.trans (hb.mono (by have := HBB1.out.size; omega))
      have HS1 := hid hs1
      have HBB2 := hid hb0
      clear hb0 hb hs1
      obtain ⟨p2, hz⟩ : ∃ p, w2.heap.size = p := ⟨_, rfl⟩
      go_wp2_with fail
      have hk7 : Blk ((w2.alloc (.cells #[.int .u8 (M.k : Int), .int .u64 (M.n0 : Int), .int .u64 (M.n1 : Int), .int .u64 (M.n2 : Int), .int .u64 (M.n3 : Int), .int .u64 (M.n4 : Int), .int .u64 (M.n5 : Int), .string M.s0, .string M.s1, .slice A1 M.l.length c1] 29)).alloc (.cells #[.int .i64 0, .int .i64 ((0 : Nat) : Int)] 32)) (p2) 29 #[.int .u8 (M.k : Int), .int .u64 (M.n0 : Int), .int .u64 (M.n1 : Int), .int .u64 (M.n2 : Int), .int .u64 (M.n3 : Int), .int .u64 (M.n4 : Int), .int .u64 (M.n5 : Int), .string M.s0, .string M.s1, .slice A1 M.l.length c1] := by
        have h := ((Blk.new w2 29 #[.int .u8 (M.k : Int), .int .u64 (M.n0 : Int), .int .u64 (M.n1 : Int), .int .u64 (M.n2 : Int), .int .u64 (M.n3 : Int), .int .u64 (M.n4 : Int), .int .u64 (M.n5 : Int), .string M.s0, .string M.s1, .slice A1 M.l.length c1]).alloc (.cells #[.int .i64 0, .int .i64 ((0 : Nat) : Int)] 32))
        rw [hz] at h; exact h
      have hk8 : Blk ((w2.alloc (.cells #[.int .u8 (M.k : Int), .int .u64 (M.n0 : Int), .int .u64 (M.n1 : Int), .int .u64 (M.n2 : Int), .int .u64 (M.n3 : Int), .int .u64 (M.n4 : Int), .int .u64 (M.n5 : Int), .string M.s0, .string M.s1, .slice A1 M.l.length c1] 29)).alloc (.cells #[.int .i64 0, .int .i64 ((0 : Nat) : Int)] 32)) (p2 + 1) 32 #[.int .i64 0, .int .i64 ((0 : Nat) : Int)] := by
        have h := (Blk.new (w2.alloc (.cells #[.int .u8 (M.k : Int), .int .u64 (M.n0 : Int), .int .u64 (M.n1 : Int), .int .u64 (M.n2 : Int), .int .u64 (M.n3 : Int), .int .u64 (M.n4 : Int), .int .u64 (M.n5 : Int), .string M.s0, .string M.s1, .slice A1 M.l.length c1] 29)) 32 #[.int .i64 0, .int .i64 ((0 : Nat) : Int)])
        rw [World.size_alloc, hz] at h; exact h
      have hs1 := HS1.out.below (bw_a (bw_a (Below.refl w2.heap.size w2) (.cells #[.int .u8 (M.k : Int), .int .u64 (M.n0 : Int), .int .u64 (M.n1 : Int), .int .u64 (M.n2 : Int), .int .u64 (M.n3 : Int), .int .u64 (M.n4 : Int), .int .u64 (M.n5 : Int), .string M.s0, .string M.s1, .slice A1 M.l.length c1] 29)) (.cells #[.int .i64 0, .int .i64 ((0 : Nat) : Int)] 32))
      have hb0 : Below s w ((w2.alloc (.cells #[.int .u8 (M.k : Int), .int .u64 (M.n0 : Int), .int .u64 (M.n1 : Int), .int .u64 (M.n2 : Int), .int .u64 (M.n3 : Int), .int .u64 (M.n4 : Int), .int .u64 (M.n5 : Int), .string M.s0, .string M.s1, .slice A1 M.l.length c1] 29)).alloc (.cells #[.int .i64 0, .int .i64 ((0 : Nat) : Int)] 32)) := HBB2.out.trans ((bw_a (bw_a (Below.refl w2.heap.size w2) (.cells #[.int .u8 (M.k : Int), .int .u64 (M.n0 : Int), .int .u64 (M.n1 : Int), .int .u64 (M.n2 : Int), .int .u64 (M.n3 : Int), .int .u64 (M.n4 : Int), .int .u64 (M.n5 : Int), .string M.s0, .string M.s1, .slice A1 M.l.length c1] 29)) (.cells #[.int .i64 0, .int .i64 ((0 : Nat) : Int)] 32)).mono (by have := HBB2.out.size; omega))
      have hsz : (((w2.alloc (.cells #[.int .u8 (M.k : Int), .int .u64 (M.n0 : Int), .int .u64 (M.n1 : Int), .int .u64 (M.n2 : Int), .int .u64 (M.n3 : Int), .int .u64 (M.n4 : Int), .int .u64 (M.n5 : Int), .string M.s0, .string M.s1, .slice A1 M.l.length c1] 29)).alloc (.cells #[.int .i64 0, .int .i64 ((0 : Nat) : Int)] 32))).heap.size = p2 + 1 + 1 := by simp [hz]
      generalize hW3 : ((w2.alloc (.cells #[.int .u8 (M.k : Int), .int .u64 (M.n0 : Int), .int .u64 (M.n1 : Int), .int .u64 (M.n2 : Int), .int .u64 (M.n3 : Int), .int .u64 (M.n4 : Int), .int .u64 (M.n5 : Int), .string M.s0, .string M.s1, .slice A1 M.l.length c1] 29)).alloc (.cells #[.int .i64 0, .int .i64 ((0 : Nat) : Int)] 32)) = W3 at *
      have HK7 := hid hk7
      have HK8 := hid hk8
      have HS1 := hid hs1
      have HBB3 := hid hb0
      have HSZ3 := hid hsz
      clear hb0 hsz hz hW3 hk7 hk8 hs1
      refine (HD2.out _ HBB3.out).mono ?_
      rintro e w4 ⟨A2, c2, rfl, hs2, hb⟩
      have hk7 := HK7.out.below hb HK7.out.lt
      have hk8 := HK8.out.below hb HK8.out.lt
      have hs1 := HS1.out.below hb
      have hb0 : Below s w w4 := HBB3.out.trans (hb.mono (by have := HBB3.out.size; omega))
      have HK7 := hid hk7
      have HK8 := hid hk8
      have HS1 := hid hs1
      have HS2 := hid hs2
      have HBB4 := hid hb0
      clear hb0 hb hk7 hk8 hs1 hs2
      obtain ⟨p3, hz⟩ : ∃ p, w4.heap.size = p := ⟨_, rfl⟩
      go_wp2_with fail
      have hk10 : Blk (w4.alloc (.cells #[.int .i64 0, .int .i64 ((0 : Nat) : Int)] 32)) (p3) 32 #[.int .i64 0, .int .i64 ((0 : Nat) : Int)] := by
        have h := (Blk.new w4 32 #[.int .i64 0, .int .i64 ((0 : Nat) : Int)])
        rw [hz] at h; exact h
      have hk7 := (HK7.out.alloc (.cells #[.int .i64 0, .int .i64 ((0 : Nat) : Int)] 32))
      have hk8 := (HK8.out.alloc (.cells #[.int .i64 0, .int .i64 ((0 : Nat) : Int)] 32))
      have hs1 := HS1.out.below (bw_a (Below.refl w4.heap.size w4) (.cells #[.int .i64 0, .int .i64 ((0 : Nat) : Int)] 32))
      have hs2 := HS2.out.below (bw_a (Below.refl w4.heap.size w4) (.cells #[.int .i64 0, .int .i64 ((0 : Nat) : Int)] 32))
      have hb0 : Below s w (w4.alloc (.cells #[.int .i64 0, .int .i64 ((0 : Nat) : Int)] 32)) := HBB4.out.trans ((bw_a (Below.refl w4.heap.size w4) (.cells #[.int .i64 0, .int .i64 ((0 : Nat) : Int)] 32)).mono (by have := HBB4.out.size; omega))
      have hsz : ((w4.alloc (.cells #[.int .i64 0, .int .i64 ((0 : Nat) : Int)] 32))).heap.size = p3 + 1 := by simp [hz]
      generalize hW5 : (w4.alloc (.cells #[.int .i64 0, .int .i64 ((0 : Nat) : Int)] 32)) = W5 at *
      have HK7 := hid hk7
      have HK8 := hid hk8
      have HK10 := hid hk10
      have HS1 := hid hs1
      have HS2 := hid hs2
      have HBB5 := hid hb0
      have HSZ5 := hid hsz
      clear hb0 hsz hz hW5 hk7 hk8 hk10 hs1 hs2
      refine (HD3.out _ HBB5.out).mono ?_
      rintro e w6 ⟨A3, c3, rfl, hs3, hb⟩
      have hk7 := HK7.out.below hb HK7.out.lt
      have hk8 := HK8.out.below hb HK8.out.lt
      have hk10 := HK10.out.below hb HK10.out.lt
      have hs1 := HS1.out.below hb
      have hs2 := HS2.out.below hb
      have hb0 : Below s w w6 := HBB5.out.trans (hb.mono (by have := HBB5.out.size; omega))
      have HK7 := hid hk7
      have HK8 := hid hk8
      have HK10 := hid hk10
      have HS1 := hid hs1
      have HS2 := hid hs2
      have HS3 := hid hs3
      have HBB6 := hid hb0
      clear hb0 hb hk7 hk8 hk10 hs1 hs2 hs3
      have zhk80 := HK8.out.cell 0
      have zhk81 := HK8.out.cell 1
      have lhk8 := HK8.out.lt
      simp only [List.getElem?_toArray, List.getElem?_cons_zero, List.getElem?_cons_succ] at zhk80 zhk81
      obtain ⟨p4, hz⟩ : ∃ p, w6.heap.size = p := ⟨_, rfl⟩
      rw [hz] at lhk8
      have mhk8 := Nat.lt_add_one_of_lt lhk8
      go_wp2_with fail
      have hk11 : Blk ((w6.alloc (.cells #[.int .u8 (M.k : Int), .int .u64 (M.n0 : Int), .int .u64 (M.n1 : Int), .int .u64 (M.n2 : Int), .int .u64 (M.n3 : Int), .int .u64 (M.n4 : Int), .int .u64 (M.n5 : Int), .string M.s0, .string M.s1, .slice A3 M.l.length c3] 29)).alloc (.cells #[.int .i64 0, .int .i64 ((0 : Nat) : Int)] 32)) (p4) 29 #[.int .u8 (M.k : Int), .int .u64 (M.n0 : Int), .int .u64 (M.n1 : Int), .int .u64 (M.n2 : Int), .int .u64 (M.n3 : Int), .int .u64 (M.n4 : Int), .int .u64 (M.n5 : Int), .string M.s0, .string M.s1, .slice A3 M.l.length c3] := by
        have h := ((Blk.new w6 29 #[.int .u8 (M.k : Int), .int .u64 (M.n0 : Int), .int .u64 (M.n1 : Int), .int .u64 (M.n2 : Int), .int .u64 (M.n3 : Int), .int .u64 (M.n4 : Int), .int .u64 (M.n5 : Int), .string M.s0, .string M.s1, .slice A3 M.l.length c3]).alloc (.cells #[.int .i64 0, .int .i64 ((0 : Nat) : Int)] 32))
        rw [hz] at h; exact h
      have hk12 : Blk ((w6.alloc (.cells #[.int .u8 (M.k : Int), .int .u64 (M.n0 : Int), .int .u64 (M.n1 : Int), .int .u64 (M.n2 : Int), .int .u64 (M.n3 : Int), .int .u64 (M.n4 : Int), .int .u64 (M.n5 : Int), .string M.s0, .string M.s1, .slice A3 M.l.length c3] 29)).alloc (.cells #[.int .i64 0, .int .i64 ((0 : Nat) : Int)] 32)) (p4 + 1) 32 #[.int .i64 0, .int .i64 ((0 : Nat) : Int)] := by
        have h := (Blk.new (w6.alloc (.cells #[.int .u8 (M.k : Int), .int .u64 (M.n0 : Int), .int .u64 (M.n1 : Int), .int .u64 (M.n2 : Int), .int .u64 (M.n3 : Int), .int .u64 (M.n4 : Int), .int .u64 (M.n5 : Int), .string M.s0, .string M.s1, .slice A3 M.l.length c3] 29)) 32 #[.int .i64 0, .int .i64 ((0 : Nat) : Int)])
        rw [World.size_alloc, hz] at h; exact h
      have hk7 := ((HK7.out.alloc (.cells #[.int .u8 (M.k : Int), .int .u64 (M.n0 : Int), .int .u64 (M.n1 : Int), .int .u64 (M.n2 : Int), .int .u64 (M.n3 : Int), .int .u64 (M.n4 : Int), .int .u64 (M.n5 : Int), .string M.s0, .string M.s1, .slice A3 M.l.length c3] 29)).alloc (.cells #[.int .i64 0, .int .i64 ((0 : Nat) : Int)] 32))
      have hk8 := ((HK8.out.alloc (.cells #[.int .u8 (M.k : Int), .int .u64 (M.n0 : Int), .int .u64 (M.n1 : Int), .int .u64 (M.n2 : Int), .int .u64 (M.n3 : Int), .int .u64 (M.n4 : Int), .int .u64 (M.n5 : Int), .string M.s0, .string M.s1, .slice A3 M.l.length c3] 29)).alloc (.cells #[.int .i64 0, .int .i64 ((0 : Nat) : Int)] 32))
      have hk10 := ((HK10.out.alloc (.cells #[.int .u8 (M.k : Int), .int .u64 (M.n0 : Int), .int .u64 (M.n1 : Int), .int .u64 (M.n2 : Int), .int .u64 (M.n3 : Int), .int .u64 (M.n4 : Int), .int .u64 (M.n5 : Int), .string M.s0, .string M.s1, .slice A3 M.l.length c3] 29)).alloc (.cells #[.int .i64 0, .int .i64 ((0 : Nat) : Int)] 32))
      have hs1 := HS1.out.below (bw_a (bw_a (Below.refl w6.heap.size w6) (.cells #[.int .u8 (M.k : Int), .int .u64 (M.n0 : Int), .int .u64 (M.n1 : Int), .int .u64 (M.n2 : Int), .int .u64 (M.n3 : Int), .int .u64 (M.n4 : Int), .int .u64 (M.n5 : Int), .string M.s0, .string M.s1, .slice A3 M.l.length c3] 29)) (.cells #[.int .i64 0, .int .i64 ((0 : Nat) : Int)] 32))
      have hs2 := HS2.out.below (bw_a (bw_a (Below.refl w6.heap.size w6) (.cells #[.int .u8 (M.k : Int), .int .u64 (M.n0 : Int), .int .u64 (M.n1 : Int), .int .u64 (M.n2 : Int), .int .u64 (M.n3 : Int), .int .u64 (M.n4 : Int), .int .u64 (M.n5 : Int), .string M.s0, .string M.s1, .slice A3 M.l.length c3] 29)) (.cells #[.int .i64 0, .int .i64 ((0 : Nat) : Int)] 32))
      have hs3 := HS3.out.below (bw_a (bw_a (Below.refl w6.heap.size w6) (.cells #[.int .u8 (M.k : Int), .int .u64 (M.n0 : Int), .int .u64 (M.n1 : Int), .int .u64 (M.n2 : Int), .int .u64 (M.n3 : Int), .int .u64 (M.n4 : Int), .int .u64 (M.n5 : Int), .string M.s0, .string M.s1, .slice A3 M.l.length c3] 29)) (.cells #[.int .i64 0, .int .i64 ((0 : Nat) : Int)] 32))
      have hb0 : Below s w ((w6.alloc (.cells #[.int .u8 (M.k : Int), .int .u64 (M.n0 : Int), .int .u64 (M.n1 : Int), .int .u64 (M.n2 : Int), .int .u64 (M.n3 : Int), .int .u64 (M.n4 : Int), .int .u64 (M.n5 : Int), .string M.s0, .string M.s1, .slice A3 M.l.length c3] 29)).alloc (.cells #[.int .i64 0, .int .i64 ((0 : Nat) : Int)] 32)) := HBB6.out.trans ((bw_a (bw_a (Below.refl w6.heap.size w6) (.cells #[.int .u8 (M.k : Int), .int .u64 (M.n0 : Int), .int .u64 (M.n1 : Int), .int .u64 (M.n2 : Int), .int .u64 (M.n3 : Int), .int .u64 (M.n4 : Int), .int .u64 (M.n5 : Int), .string M.s0, .string M.s1, .slice A3 M.l.length c3] 29)) (.cells #[.int .i64 0, .int .i64 ((0 : Nat) : Int)] 32)).mono (by have := HBB6.out.size; omega))
      have hsz : (((w6.alloc (.cells #[.int .u8 (M.k : Int), .int .u64 (M.n0 : Int), .int .u64 (M.n1 : Int), .int .u64 (M.n2 : Int), .int .u64 (M.n3 : Int), .int .u64 (M.n4 : Int), .int .u64 (M.n5 : Int), .string M.s0, .string M.s1, .slice A3 M.l.length c3] 29)).alloc (.cells #[.int .i64 0, .int .i64 ((0 : Nat) : Int)] 32))).heap.size = p4 + 1 + 1 := by simp [hz]
      generalize hW7 : ((w6.alloc (.cells #[.int .u8 (M.k : Int), .int .u64 (M.n0 : Int), .int .u64 (M.n1 : Int), .int .u64 (M.n2 : Int), .int .u64 (M.n3 : Int), .int .u64 (M.n4 : Int), .int .u64 (M.n5 : Int), .string M.s0, .string M.s1, .slice A3 M.l.length c3] 29)).alloc (.cells #[.int .i64 0, .int .i64 ((0 : Nat) : Int)] 32)) = W7 at *
      have HK7 := hid hk7
      have HK8 := hid hk8
      have HK10 := hid hk10
      have HK11 := hid hk11
      have HK12 := hid hk12
      have HS1 := hid hs1
      have HS2 := hid hs2
      have HS3 := hid hs3
      have HBB7 := hid hb0
      have HSZ7 := hid hsz
      clear hb0 hsz hz hW7 hk7 hk8 hk10 hk11 hk12 hs1 hs2 hs3
      refine (HD4.out _ A2 c2 HS2.out).mono ?_
      rintro e w8 ⟨A5, c5, rfl, hs5, hb⟩
      clear lhk8 zhk80 zhk81 mhk8
      have hk7 := HK7.out.below hb HK7.out.lt
      have hk8 := HK8.out.below hb HK8.out.lt
      have hk10 := HK10.out.below hb HK10.out.lt
      have hk11 := HK11.out.below hb HK11.out.lt
      have hk12 := HK12.out.below hb HK12.out.lt
      have hs1 := HS1.out.below hb
      have hs2 := HS2.out.below hb
      have hs3 := HS3.out.below hb
      have hb0 : Below s w w8 := HBB7.out.trans (hb.mono (by have := HBB7.out.size; omega))
      have HK7 := hid hk7
      have HK8 := hid hk8
      have HK10 := hid hk10
      have HK11 := hid hk11
      have HK12 := hid hk12
      have HS1 := hid hs1
      have HS2 := hid hs2
      have HS3 := hid hs3
      have HS5 := hid hs5
      have HBB8 := hid hb0
      clear hb0 hb hk7 hk8 hk10 hk11 hk12 hs1 hs2 hs3 hs5
      have zhk100 := HK10.out.cell 0
      have zhk101 := HK10.out.cell 1
      have lhk10 := HK10.out.lt
      have zhk70 := HK7.out.cell 0
      have zhk71 := HK7.out.cell 1
      have zhk72 := HK7.out.cell 2
      have zhk73 := HK7.out.cell 3
      have zhk74 := HK7.out.cell 4
      have zhk75 := HK7.out.cell 5
      have zhk76 := HK7.out.cell 6
      have zhk77 := HK7.out.cell 7
      have zhk78 := HK7.out.cell 8
      have zhk79 := HK7.out.cell 9
      have lhk7 := HK7.out.lt
      simp only [List.getElem?_toArray, List.getElem?_cons_zero, List.getElem?_cons_succ] at zhk100 zhk101 zhk70 zhk71 zhk72 zhk73 zhk74 zhk75 zhk76 zhk77 zhk78 zhk79
      obtain ⟨p5, hz⟩ : ∃ p, w8.heap.size = p := ⟨_, rfl⟩
      rw [hz] at lhk10
      have mhk10 := Nat.lt_add_one_of_lt lhk10
      rw [hz] at lhk7
      have mhk7 := Nat.lt_add_one_of_lt lhk7
      go_wp2_with fail
      have hk13 : Blk ((w8.alloc (.cells #[.int .u8 (M2.k : Int), .int .u64 (M2.n0 : Int), .int .u64 (M2.n1 : Int), .int .u64 (M2.n2 : Int), .int .u64 (M2.n3 : Int), .int .u64 (M2.n4 : Int), .int .u64 (M2.n5 : Int), .string M2.s0, .string M2.s1, .slice A5 M2.l.length c5] 29)).alloc (.cells #[.int .i64 0, .int .i64 ((0 : Nat) : Int)] 32)) (p5) 29 #[.int .u8 (M2.k : Int), .int .u64 (M2.n0 : Int), .int .u64 (M2.n1 : Int), .int .u64 (M2.n2 : Int), .int .u64 (M2.n3 : Int), .int .u64 (M2.n4 : Int), .int .u64 (M2.n5 : Int), .string M2.s0, .string M2.s1, .slice A5 M2.l.length c5] := by
        have h := ((Blk.new w8 29 #[.int .u8 (M2.k : Int), .int .u64 (M2.n0 : Int), .int .u64 (M2.n1 : Int), .int .u64 (M2.n2 : Int), .int .u64 (M2.n3 : Int), .int .u64 (M2.n4 : Int), .int .u64 (M2.n5 : Int), .string M2.s0, .string M2.s1, .slice A5 M2.l.length c5]).alloc (.cells #[.int .i64 0, .int .i64 ((0 : Nat) : Int)] 32))
        rw [hz] at h; exact h
      have hk14 : Blk ((w8.alloc (.cells #[.int .u8 (M2.k : Int), .int .u64 (M2.n0 : Int), .int .u64 (M2.n1 : Int), .int .u64 (M2.n2 : Int), .int .u64 (M2.n3 : Int), .int .u64 (M2.n4 : Int), .int .u64 (M2.n5 : Int), .string M2.s0, .string M2.s1, .slice A5 M2.l.length c5] 29)).alloc (.cells #[.int .i64 0, .int .i64 ((0 : Nat) : Int)] 32)) (p5 + 1) 32 #[.int .i64 0, .int .i64 ((0 : Nat) : Int)] := by
        have h := (Blk.new (w8.alloc (.cells #[.int .u8 (M2.k : Int), .int .u64 (M2.n0 : Int), .int .u64 (M2.n1 : Int), .int .u64 (M2.n2 : Int), .int .u64 (M2.n3 : Int), .int .u64 (M2.n4 : Int), .int .u64 (M2.n5 : Int), .string M2.s0, .string M2.s1, .slice A5 M2.l.length c5] 29)) 32 #[.int .i64 0, .int .i64 ((0 : Nat) : Int)])
        rw [World.size_alloc, hz] at h; exact h
      have hk7 := ((HK7.out.alloc (.cells #[.int .u8 (M2.k : Int), .int .u64 (M2.n0 : Int), .int .u64 (M2.n1 : Int), .int .u64 (M2.n2 : Int), .int .u64 (M2.n3 : Int), .int .u64 (M2.n4 : Int), .int .u64 (M2.n5 : Int), .string M2.s0, .string M2.s1, .slice A5 M2.l.length c5] 29)).alloc (.cells #[.int .i64 0, .int .i64 ((0 : Nat) : Int)] 32))
      have hk8 := ((HK8.out.alloc (.cells #[.int .u8 (M2.k : Int), .int .u64 (M2.n0 : Int), .int .u64 (M2.n1 : Int), .int .u64 (M2.n2 : Int), .int .u64 (M2.n3 : Int), .int .u64 (M2.n4 : Int), .int .u64 (M2.n5 : Int), .string M2.s0, .string M2.s1, .slice A5 M2.l.length c5] 29)).alloc (.cells #[.int .i64 0, .int .i64 ((0 : Nat) : Int)] 32))
      have hk10 := ((HK10.out.alloc (.cells #[.int .u8 (M2.k : Int), .int .u64 (M2.n0 : Int), .int .u64 (M2.n1 : Int), .int .u64 (M2.n2 : Int), .int .u64 (M2.n3 : Int), .int .u64 (M2.n4 : Int), .int .u64 (M2.n5 : Int), .string M2.s0, .string M2.s1, .slice A5 M2.l.length c5] 29)).alloc (.cells #[.int .i64 0, .int .i64 ((0 : Nat) : Int)] 32))
      have hk11 := ((HK11.out.alloc (.cells #[.int .u8 (M2.k : Int), .int .u64 (M2.n0 : Int), .int .u64 (M2.n1 : Int), .int .u64 (M2.n2 : Int), .int .u64 (M2.n3 : Int), .int .u64 (M2.n4 : Int), .int .u64 (M2.n5 : Int), .string M2.s0, .string M2.s1, .slice A5 M2.l.length c5] 29)).alloc (.cells #[.int .i64 0, .int .i64 ((0 : Nat) : Int)] 32))
      have hk12 := ((HK12.out.alloc (.cells #[.int .u8 (M2.k : Int), .int .u64 (M2.n0 : Int), .int .u64 (M2.n1 : Int), .int .u64 (M2.n2 : Int), .int .u64 (M2.n3 : Int), .int .u64 (M2.n4 : Int), .int .u64 (M2.n5 : Int), .string M2.s0, .string M2.s1, .slice A5 M2.l.length c5] 29)).alloc (.cells #[.int .i64 0, .int .i64 ((0 : Nat) : Int)] 32))
      have hs1 := HS1.out.below (bw_a (bw_a (Below.refl w8.heap.size w8) (.cells #[.int .u8 (M2.k : Int), .int .u64 (M2.n0 : Int), .int .u64 (M2.n1 : Int), .int .u64 (M2.n2 : Int), .int .u64 (M2.n3 : Int), .int .u64 (M2.n4 : Int), .int .u64 (M2.n5 : Int), .string M2.s0, .string M2.s1, .slice A5 M2.l.length c5] 29)) (.cells #[.int .i64 0, .int .i64 ((0 : Nat) : Int)] 32))
      have hs2 := HS2.out.below (bw_a (bw_a (Below.refl w8.heap.size w8) (.cells #[.int .u8 (M2.k : Int), .int .u64 (M2.n0 : Int), .int .u64 (M2.n1 : Int), .int .u64 (M2.n2 : Int), .int .u64 (M2.n3 : Int), .int .u64 (M2.n4 : Int), .int .u64 (M2.n5 : Int), .string M2.s0, .string M2.s1, .slice A5 M2.l.length c5] 29)) (.cells #[.int .i64 0, .int .i64 ((0 : Nat) : Int)] 32))
      have hs3 := HS3.out.below (bw_a (bw_a (Below.refl w8.heap.size w8) (.cells #[.int .u8 (M2.k : Int), .int .u64 (M2.n0 : Int), .int .u64 (M2.n1 : Int), .int .u64 (M2.n2 : Int), .int .u64 (M2.n3 : Int), .int .u64 (M2.n4 : Int), .int .u64 (M2.n5 : Int), .string M2.s0, .string M2.s1, .slice A5 M2.l.length c5] 29)) (.cells #[.int .i64 0, .int .i64 ((0 : Nat) : Int)] 32))
      have hs5 := HS5.out.below (bw_a (bw_a (Below.refl w8.heap.size w8) (.cells #[.int .u8 (M2.k : Int), .int .u64 (M2.n0 : Int), .int .u64 (M2.n1 : Int), .int .u64 (M2.n2 : Int), .int .u64 (M2.n3 : Int), .int .u64 (M2.n4 : Int), .int .u64 (M2.n5 : Int), .string M2.s0, .string M2.s1, .slice A5 M2.l.length c5] 29)) (.cells #[.int .i64 0, .int .i64 ((0 : Nat) : Int)] 32))
      have hb0 : Below s w ((w8.alloc (.cells #[.int .u8 (M2.k : Int), .int .u64 (M2.n0 : Int), .int .u64 (M2.n1 : Int), .int .u64 (M2.n2 : Int), .int .u64 (M2.n3 : Int), .int .u64 (M2.n4 : Int), .int .u64 (M2.n5 : Int), .string M2.s0, .string M2.s1, .slice A5 M2.l.length c5] 29)).alloc (.cells #[.int .i64 0, .int .i64 ((0 : Nat) : Int)] 32)) := HBB8.out.trans ((bw_a (bw_a (Below.refl w8.heap.size w8) (.cells #[.int .u8 (M2.k : Int), .int .u64 (M2.n0 : Int), .int .u64 (M2.n1 : Int), .int .u64 (M2.n2 : Int), .int .u64 (M2.n3 : Int), .int .u64 (M2.n4 : Int), .int .u64 (M2.n5 : Int), .string M2.s0, .string M2.s1, .slice A5 M2.l.length c5] 29)) (.cells #[.int .i64 0, .int .i64 ((0 : Nat) : Int)] 32)).mono (by have := HBB8.out.size; omega))
      have hsz : (((w8.alloc (.cells #[.int .u8 (M2.k : Int), .int .u64 (M2.n0 : Int), .int .u64 (M2.n1 : Int), .int .u64 (M2.n2 : Int), .int .u64 (M2.n3 : Int), .int .u64 (M2.n4 : Int), .int .u64 (M2.n5 : Int), .string M2.s0, .string M2.s1, .slice A5 M2.l.length c5] 29)).alloc (.cells #[.int .i64 0, .int .i64 ((0 : Nat) : Int)] 32))).heap.size = p5 + 1 + 1 := by simp [hz]
      generalize hW9 : ((w8.alloc (.cells #[.int .u8 (M2.k : Int), .int .u64 (M2.n0 : Int), .int .u64 (M2.n1 : Int), .int .u64 (M2.n2 : Int), .int .u64 (M2.n3 : Int), .int .u64 (M2.n4 : Int), .int .u64 (M2.n5 : Int), .string M2.s0, .string M2.s1, .slice A5 M2.l.length c5] 29)).alloc (.cells #[.int .i64 0, .int .i64 ((0 : Nat) : Int)] 32)) = W9 at *
      have HK7 := hid hk7
      have HK8 := hid hk8
      have HK10 := hid hk10
      have HK11 := hid hk11
      have HK12 := hid hk12
      have HK13 := hid hk13
      have HK14 := hid hk14
      have HS1 := hid hs1
      have HS2 := hid hs2
      have HS3 := hid hs3
      have HS5 := hid hs5
      have HBB9 := hid hb0
      have HSZ9 := hid hsz
      clear hb0 hsz hz hW9 hk7 hk8 hk10 hk11 hk12 hk13 hk14 hs1 hs2 hs3 hs5
      have hsx := HSA.out _ M2 A5 c5 A1 c1 HS5.out HS1.out
      rw [HS2M.out] at hsx
      have HSX := hid hsx
      clear hsx
      refine (HSX.out).mono ?_
      rintro e w10 ⟨rfl, hb⟩
      clear lhk10 lhk7 zhk100 zhk101 zhk70 zhk71 zhk72 zhk73 zhk74 zhk75 zhk76 zhk77 zhk78 zhk79 mhk10 mhk7
      have hk7 := HK7.out.below hb HK7.out.lt
      have hk8 := HK8.out.below hb HK8.out.lt
      have hk10 := HK10.out.below hb HK10.out.lt
      have hk11 := HK11.out.below hb HK11.out.lt
      have hk12 := HK12.out.below hb HK12.out.lt
      have hk13 := HK13.out.below hb HK13.out.lt
      have hk14 := HK14.out.below hb HK14.out.lt
      have hs1 := HS1.out.below hb
      have hs2 := HS2.out.below hb
      have hs3 := HS3.out.below hb
      have hs5 := HS5.out.below hb
      have hb0 : Below s w w10 := HBB9.out.trans (hb.mono (by have := HBB9.out.size; omega))
      have HK7 := hid hk7
      have HK8 := hid hk8
      have HK10 := hid hk10
      have HK11 := hid hk11
      have HK12 := hid hk12
      have HK13 := hid hk13
      have HK14 := hid hk14
      have HS1 := hid hs1
      have HS2 := hid hs2
      have HS3 := hid hs3
      have HS5 := hid hs5
      have HBB10 := hid hb0
      clear hb0 hb hk7 hk8 hk10 hk11 hk12 hk13 hk14 hs1 hs2 hs3 hs5
      have zhk120 := HK12.out.cell 0
      have zhk121 := HK12.out.cell 1
      have lhk12 := HK12.out.lt
      have zhk110 := HK11.out.cell 0
      have zhk111 := HK11.out.cell 1
      have zhk112 := HK11.out.cell 2
      have zhk113 := HK11.out.cell 3
      have zhk114 := HK11.out.cell 4
      have zhk115 := HK11.out.cell 5
      have zhk116 := HK11.out.cell 6
      have zhk117 := HK11.out.cell 7
      have zhk118 := HK11.out.cell 8
      have zhk119 := HK11.out.cell 9
      have lhk11 := HK11.out.lt
      have zhk70 := HK7.out.cell 0
      have zhk71 := HK7.out.cell 1
      have zhk72 := HK7.out.cell 2
      have zhk73 := HK7.out.cell 3
      have zhk74 := HK7.out.cell 4
      have zhk75 := HK7.out.cell 5
      have zhk76 := HK7.out.cell 6
      have zhk77 := HK7.out.cell 7
      have zhk78 := HK7.out.cell 8
      have zhk79 := HK7.out.cell 9
      have lhk7 := HK7.out.lt
      simp only [List.getElem?_toArray, List.getElem?_cons_zero, List.getElem?_cons_succ] at zhk120 zhk121 zhk110 zhk111 zhk112 zhk113 zhk114 zhk115 zhk116 zhk117 zhk118 zhk119 zhk70 zhk71 zhk72 zhk73 zhk74 zhk75 zhk76 zhk77 zhk78 zhk79
      go_wp2_with fail
      have hsy := HSA.out _ M A3 c3 A1 c1 HS3.out HS1.out
      rw [HMM.out] at hsy
      have HSY := hid hsy
      clear hsy
      refine (HSY.out).mono ?_
      rintro e w11 ⟨rfl, hb⟩
      clear lhk12 lhk11 lhk7 zhk120 zhk121 zhk110 zhk111 zhk112 zhk113 zhk114 zhk115 zhk116 zhk117 zhk118 zhk119 zhk70 zhk71 zhk72 zhk73 zhk74 zhk75 zhk76 zhk77 zhk78 zhk79
      have hk7 := HK7.out.below hb HK7.out.lt
      have hk8 := HK8.out.below hb HK8.out.lt
      have hk10 := HK10.out.below hb HK10.out.lt
      have hk11 := HK11.out.below hb HK11.out.lt
      have hk12 := HK12.out.below hb HK12.out.lt
      have hk13 := HK13.out.below hb HK13.out.lt
      have hk14 := HK14.out.below hb HK14.out.lt
      have hs1 := HS1.out.below hb
      have hs2 := HS2.out.below hb
      have hs3 := HS3.out.below hb
      have hs5 := HS5.out.below hb
      have hb0 : Below s w w11 := HBB10.out.trans (hb.mono (by have := HBB10.out.size; omega))
      have HK7 := hid hk7
      have HK8 := hid hk8
      have HK10 := hid hk10
      have HK11 := hid hk11
      have HK12 := hid hk12
      have HK13 := hid hk13
      have HK14 := hid hk14
      have HS1 := hid hs1
      have HS2 := hid hs2
      have HS3 := hid hs3
      have HS5 := hid hs5
      have HBB11 := hid hb0
      clear hb0 hb hk7 hk8 hk10 hk11 hk12 hk13 hk14 hs1 hs2 hs3 hs5
      go_wp2_with fail
      have hsz := HBE.out _ A2 c2 (HSL.out _ HBB11.out) HS2.out
      first | rw [decide_eq_true rfl] at hsz | simp only [decide_true] at hsz
      have HSZZ := hid hsz
      clear hsz
      refine (HSZZ.out).mono ?_
      rintro e w12 ⟨rfl, hb⟩
      have hk7 := HK7.out.below hb HK7.out.lt
      have hk8 := HK8.out.below hb HK8.out.lt
      have hk10 := HK10.out.below hb HK10.out.lt
      have hk11 := HK11.out.below hb HK11.out.lt
      have hk12 := HK12.out.below hb HK12.out.lt
      have hk13 := HK13.out.below hb HK13.out.lt
      have hk14 := HK14.out.below hb HK14.out.lt
      have hs1 := HS1.out.below hb
      have hs2 := HS2.out.below hb
      have hs3 := HS3.out.below hb
      have hs5 := HS5.out.below hb
      have hb0 : Below s w w12 := HBB11.out.trans (hb.mono (by have := HBB11.out.size; omega))
      have HK7 := hid hk7
      have HK8 := hid hk8
      have HK10 := hid hk10
      have HK11 := hid hk11
      have HK12 := hid hk12
      have HK13 := hid hk13
      have HK14 := hid hk14
      have HS1 := hid hs1
      have HS2 := hid hs2
      have HS3 := hid hs3
      have HS5 := hid hs5
      have HBB12 := hid hb0
      clear hb0 hb hk7 hk8 hk10 hk11 hk12 hk13 hk14 hs1 hs2 hs3 hs5
      go_wp2_with fail
      go_ret
      exact ⟨rfl, HBB12.out⟩
  · have hd3 := HD3B.out he
    have HD3 := hid hd3
    clear hd3 HD3A HD3B
    have HEN := hid he
    clear he
    generalize ((unl bs eb : Nat) : Int) = U at *
    go_enter Try.func6, Try.ntmps6
    go_wp2_with fail
    refine (HLV.out w).mono ?_
    rintro e w1 ⟨rfl, hb⟩
    have hb0 : Below s w w1 := by rw [← hws]; exact hb
    have HBB1 := hid hb0
    clear hb0 hb 
    by_cases hn1 : 10000 < n
    · have hn2 : (10000 : Int) < (n : Int) := by omega
      go_wp2_with fail
      go_ret
      exact ⟨rfl, HBB1.out⟩
    · have hn2 : ¬ (10000 : Int) < (n : Int) := by omega
      have hn3 : decide ((10000 : Int) < (n : Int)) = false := by simpa using hn2
      go_wp2_with fail
      refine (HD1.out _ HBB1.out).mono ?_
      rintro e w2 ⟨A1, c1, rfl, hs1, hb⟩
      have hb0 : Below s w w2 := HBB1.out.trans (hb.mono (by have := HBB1.out.size; omega))
      have HS1 := hid hs1
      have HBB2 := hid hb0
      clear hb0 hb hs1
      obtain ⟨p2, hz⟩ : ∃ p, w2.heap.size = p := ⟨_, rfl⟩
      go_wp2_with fail
      have hk7 : Blk ((w2.alloc (.cells #[.int .u8 (M.k : Int), .int .u64 (M.n0 : Int), .int .u64 (M.n1 : Int), .int .u64 (M.n2 : Int), .int .u64 (M.n3 : Int), .int .u64 (M.n4 : Int), .int .u64 (M.n5 : Int), .string M.s0, .string M.s1, .slice A1 M.l.length c1] 29)).alloc (.cells #[.int .i64 0, .int .i64 ((0 : Nat) : Int)] 32)) (p2) 29 #[.int .u8 (M.k : Int), .int .u64 (M.n0 : Int), .int .u64 (M.n1 : Int), .int .u64 (M.n2 : Int), .int .u64 (M.n3 : Int), .int .u64 (M.n4 : Int), .int .u64 (M.n5 : Int), .string M.s0, .string M.s1, .slice A1 M.l.length c1] := by
        have h := ((Blk.new w2 29 #[.int .u8 (M.k : Int), .int .u64 (M.n0 : Int), .int .u64 (M.n1 : Int), .int .u64 (M.n2 : Int), .int .u64 (M.n3 : Int), .int .u64 (M.n4 : Int), .int .u64 (M.n5 : Int), .string M.s0, .string M.s1, .slice A1 M.l.length c1]).alloc (.cells #[.int .i64 0, .int .i64 ((0 : Nat) : Int)] 32))
        rw [hz] at h; exact h
      have hk8 : Blk ((w2.alloc (.cells #[.int .u8 (M.k : Int), .int .u64 (M.n0 : Int), .int .u64 (M.n1 : Int), .int .u64 (M.n2 : Int), .int .u64 (M.n3 : Int), .int .u64 (M.n4 : Int), .int .u64 (M.n5 : Int), .string M.s0, .string M.s1, .slice A1 M.l.length c1] 29)).alloc (.cells #[.int .i64 0, .int .i64 ((0 : Nat) : Int)] 32)) (p2 + 1) 32 #[.int .i64 0, .int .i64 ((0 : Nat) : Int)] := by
        have h := (Blk.new (w2.alloc (.cells #[.int .u8 (M.k : Int), .int .u64 (M.n0 : Int), .int .u64 (M.n1 : Int), .int .u64 (M.n2 : Int), .int .u64 (M.n3 : Int), .int .u64 (M.n4 : Int), .int .u64 (M.n5 : Int), .string M.s0, .string M.s1, .slice A1 M.l.length c1] 29)) 32 #[.int .i64 0, .int .i64 ((0 : Nat) : Int)])
        rw [World.size_alloc, hz] at h; exact h
      have hs1 := HS1.out.below (bw_a (bw_a (Below.refl w2.heap.size w2) (.cells #[.int .u8 (M.k : Int), .int .u64 (M.n0 : Int), .int .u64 (M.n1 : Int), .int .u64 (M.n2 : Int), .int .u64 (M.n3 : Int), .int .u64 (M.n4 : Int), .int .u64 (M.n5 : Int), .string M.s0, .string M.s1, .slice A1 M.l.length c1] 29)) (.cells #[.int .i64 0, .int .i64 ((0 : Nat) : Int)] 32))
      have hb0 : Below s w ((w2.alloc (.cells #[.int .u8 (M.k : Int), .int .u64 (M.n0 : Int), .int .u64 (M.n1 : Int), .int .u64 (M.n2 : Int), .int .u64 (M.n3 : Int), .int .u64 (M.n4 : Int), .int .u64 (M.n5 : Int), .string M.s0, .string M.s1, .slice A1 M.l.length c1] 29)).alloc (.cells #[.int .i64 0, .int .i64 ((0 : Nat) : Int)] 32)) := HBB2.out.trans ((bw_a (bw_a (Below.refl w2.heap.size w2) (.cells #[.int .u8 (M.k : Int), .int .u64 (M.n0 : Int), .int .u64 (M.n1 : Int), .int .u64 (M.n2 : Int), .int .u64 (M.n3 : Int), .int .u64 (M.n4 : Int), .int .u64 (M.n5 : Int), .string M.s0, .string M.s1, .slice A1 M.l.length c1] 29)) (.cells #[.int .i64 0, .int .i64 ((0 : Nat) : Int)] 32)).mono (by have := HBB2.out.size; omega))
      have hsz : (((w2.alloc (.cells #[.int .u8 (M.k : Int), .int .u64 (M.n0 : Int), .int .u64 (M.n1 : Int), .int .u64 (M.n2 : Int), .int .u64 (M.n3 : Int), .int .u64 (M.n4 : Int), .int .u64 (M.n5 : Int), .string M.s0, .string M.s1, .slice A1 M.l.length c1] 29)).alloc (.cells #[.int .i64 0, .int .i64 ((0 : Nat) : Int)] 32))).heap.size = p2 + 1 + 1 := by simp [hz]
      generalize hW3 : ((w2.alloc (.cells #[.int .u8 (M.k : Int), .int .u64 (M.n0 : Int), .int .u64 (M.n1 : Int), .int .u64 (M.n2 : Int), .int .u64 (M.n3 : Int), .int .u64 (M.n4 : Int), .int .u64 (M.n5 : Int), .string M.s0, .string M.s1, .slice A1 M.l.length c1] 29)).alloc (.cells #[.int .i64 0, .int .i64 ((0 : Nat) : Int)] 32)) = W3 at *
      have HK7 := hid hk7
      have HK8 := hid hk8
      have HS1 := hid hs1
      have HBB3 := hid hb0
      have HSZ3 := hid hsz
      clear hb0 hsz hz hW3 hk7 hk8 hs1
      refine (HD2.out _ HBB3.out).mono ?_
      rintro e w4 ⟨A2, c2, rfl, hs2, hb⟩
      have hk7 := HK7.out.below hb HK7.out.lt
      have hk8 := HK8.out.below hb HK8.out.lt
      have hs1 := HS1.out.below hb
      have hb0 : Below s w w4 := HBB3.out.trans (hb.mono (by have := HBB3.out.size; omega))
      have HK7 := hid hk7
      have HK8 := hid hk8
      have HS1 := hid hs1
      have HS2 := hid hs2
      have HBB4 := hid hb0
      clear hb0 hb hk7 hk8 hs1 hs2
      obtain ⟨p3, hz⟩ : ∃ p, w4.heap.size = p := ⟨_, rfl⟩
      go_wp2_with fail
      have hk10 : Blk (w4.alloc (.cells #[.int .i64 0, .int .i64 ((0 : Nat) : Int)] 32)) (p3) 32 #[.int .i64 0, .int .i64 ((0 : Nat) : Int)] := by
        have h := (Blk.new w4 32 #[.int .i64 0, .int .i64 ((0 : Nat) : Int)])
        rw [hz] at h; exact h
      have hk7 := (HK7.out.alloc (.cells #[.int .i64 0, .int .i64 ((0 : Nat) : Int)] 32))
      have hk8 := (HK8.out.alloc (.cells #[.int .i64 0, .int .i64 ((0 : Nat) : Int)] 32))
      have hs1 := HS1.out.below (bw_a (Below.refl w4.heap.size w4) (.cells #[.int .i64 0, .int .i64 ((0 : Nat) : Int)] 32))
      have hs2 := HS2.out.below (bw_a (Below.refl w4.heap.size w4) (.cells #[.int .i64 0, .int .i64 ((0 : Nat) : Int)] 32))
      have hb0 : Below s w (w4.alloc (.cells #[.int .i64 0, .int .i64 ((0 : Nat) : Int)] 32)) := HBB4.out.trans ((bw_a (Below.refl w4.heap.size w4) (.cells #[.int .i64 0, .int .i64 ((0 : Nat) : Int)] 32)).mono (by have := HBB4.out.size; omega))
      have hsz : ((w4.alloc (.cells #[.int .i64 0, .int .i64 ((0 : Nat) : Int)] 32))).heap.size = p3 + 1 := by simp [hz]
      generalize hW5 : (w4.alloc (.cells #[.int .i64 0, .int .i64 ((0 : Nat) : Int)] 32)) = W5 at *
      have HK7 := hid hk7
      have HK8 := hid hk8
      have HK10 := hid hk10
      have HS1 := hid hs1
      have HS2 := hid hs2
      have HBB5 := hid hb0
      have HSZ5 := hid hsz
      clear hb0 hsz hz hW5 hk7 hk8 hk10 hs1 hs2
      refine (HD3.out _ HBB5.out).mono ?_
      rintro e w6 ⟨A3, c3, rfl, hs3, hb⟩
      have hk7 := HK7.out.below hb HK7.out.lt
      have hk8 := HK8.out.below hb HK8.out.lt
      have hk10 := HK10.out.below hb HK10.out.lt
      have hs1 := HS1.out.below hb
      have hs2 := HS2.out.below hb
      have hb0 : Below s w w6 := HBB5.out.trans (hb.mono (by have := HBB5.out.size; omega))
      have HK7 := hid hk7
      have HK8 := hid hk8
      have HK10 := hid hk10
      have HS1 := hid hs1
      have HS2 := hid hs2
      have HS3 := hid hs3
      have HBB6 := hid hb0
      clear hb0 hb hk7 hk8 hk10 hs1 hs2 hs3
      have zhk80 := HK8.out.cell 0
      have zhk81 := HK8.out.cell 1
      have lhk8 := HK8.out.lt
      simp only [List.getElem?_toArray, List.getElem?_cons_zero, List.getElem?_cons_succ] at zhk80 zhk81
      obtain ⟨p4, hz⟩ : ∃ p, w6.heap.size = p := ⟨_, rfl⟩
      rw [hz] at lhk8
      have mhk8 := Nat.lt_add_one_of_lt lhk8
      go_wp2_with fail
      have hk11 : Blk ((w6.alloc (.cells #[.int .u8 (ZM.k : Int), .int .u64 (ZM.n0 : Int), .int .u64 (ZM.n1 : Int), .int .u64 (ZM.n2 : Int), .int .u64 (ZM.n3 : Int), .int .u64 (ZM.n4 : Int), .int .u64 (ZM.n5 : Int), .string ZM.s0, .string ZM.s1, .slice A3 ZM.l.length c3] 29)).alloc (.cells #[.int .i64 3, .int .i64 U] 32)) (p4) 29 #[.int .u8 (ZM.k : Int), .int .u64 (ZM.n0 : Int), .int .u64 (ZM.n1 : Int), .int .u64 (ZM.n2 : Int), .int .u64 (ZM.n3 : Int), .int .u64 (ZM.n4 : Int), .int .u64 (ZM.n5 : Int), .string ZM.s0, .string ZM.s1, .slice A3 ZM.l.length c3] := by
        have h := ((Blk.new w6 29 #[.int .u8 (ZM.k : Int), .int .u64 (ZM.n0 : Int), .int .u64 (ZM.n1 : Int), .int .u64 (ZM.n2 : Int), .int .u64 (ZM.n3 : Int), .int .u64 (ZM.n4 : Int), .int .u64 (ZM.n5 : Int), .string ZM.s0, .string ZM.s1, .slice A3 ZM.l.length c3]).alloc (.cells #[.int .i64 3, .int .i64 U] 32))
        rw [hz] at h; exact h
      have hk12 : Blk ((w6.alloc (.cells #[.int .u8 (ZM.k : Int), .int .u64 (ZM.n0 : Int), .int .u64 (ZM.n1 : Int), .int .u64 (ZM.n2 : Int), .int .u64 (ZM.n3 : Int), .int .u64 (ZM.n4 : Int), .int .u64 (ZM.n5 : Int), .string ZM.s0, .string ZM.s1, .slice A3 ZM.l.length c3] 29)).alloc (.cells #[.int .i64 3, .int .i64 U] 32)) (p4 + 1) 32 #[.int .i64 3, .int .i64 U] := by
        have h := (Blk.new (w6.alloc (.cells #[.int .u8 (ZM.k : Int), .int .u64 (ZM.n0 : Int), .int .u64 (ZM.n1 : Int), .int .u64 (ZM.n2 : Int), .int .u64 (ZM.n3 : Int), .int .u64 (ZM.n4 : Int), .int .u64 (ZM.n5 : Int), .string ZM.s0, .string ZM.s1, .slice A3 ZM.l.length c3] 29)) 32 #[.int .i64 3, .int .i64 U])
        rw [World.size_alloc, hz] at h; exact h
      have hk7 := ((HK7.out.alloc (.cells #[.int .u8 (ZM.k : Int), .int .u64 (ZM.n0 : Int), .int .u64 (ZM.n1 : Int), .int .u64 (ZM.n2 : Int), .int .u64 (ZM.n3 : Int), .int .u64 (ZM.n4 : Int), .int .u64 (ZM.n5 : Int), .string ZM.s0, .string ZM.s1, .slice A3 ZM.l.length c3] 29)).alloc (.cells #[.int .i64 3, .int .i64 U] 32))
      have hk8 := ((HK8.out.alloc (.cells #[.int .u8 (ZM.k : Int), .int .u64 (ZM.n0 : Int), .int .u64 (ZM.n1 : Int), .int .u64 (ZM.n2 : Int), .int .u64 (ZM.n3 : Int), .int .u64 (ZM.n4 : Int), .int .u64 (ZM.n5 : Int), .string ZM.s0, .string ZM.s1, .slice A3 ZM.l.length c3] 29)).alloc (.cells #[.int .i64 3, .int .i64 U] 32))
      have hk10 := ((HK10.out.alloc (.cells #[.int .u8 (ZM.k : Int), .int .u64 (ZM.n0 : Int), .int .u64 (ZM.n1 : Int), .int .u64 (ZM.n2 : Int), .int .u64 (ZM.n3 : Int), .int .u64 (ZM.n4 : Int), .int .u64 (ZM.n5 : Int), .string ZM.s0, .string ZM.s1, .slice A3 ZM.l.length c3] 29)).alloc (.cells #[.int .i64 3, .int .i64 U] 32))
      have hs1 := HS1.out.below (bw_a (bw_a (Below.refl w6.heap.size w6) (.cells #[.int .u8 (ZM.k : Int), .int .u64 (ZM.n0 : Int), .int .u64 (ZM.n1 : Int), .int .u64 (ZM.n2 : Int), .int .u64 (ZM.n3 : Int), .int .u64 (ZM.n4 : Int), .int .u64 (ZM.n5 : Int), .string ZM.s0, .string ZM.s1, .slice A3 ZM.l.length c3] 29)) (.cells #[.int .i64 3, .int .i64 U] 32))
      have hs2 := HS2.out.below (bw_a (bw_a (Below.refl w6.heap.size w6) (.cells #[.int .u8 (ZM.k : Int), .int .u64 (ZM.n0 : Int), .int .u64 (ZM.n1 : Int), .int .u64 (ZM.n2 : Int), .int .u64 (ZM.n3 : Int), .int .u64 (ZM.n4 : Int), .int .u64 (ZM.n5 : Int), .string ZM.s0, .string ZM.s1, .slice A3 ZM.l.length c3] 29)) (.cells #[.int .i64 3, .int .i64 U] 32))
      have hs3 := HS3.out.below (bw_a (bw_a (Below.refl w6.heap.size w6) (.cells #[.int .u8 (ZM.k : Int), .int .u64 (ZM.n0 : Int), .int .u64 (ZM.n1 : Int), .int .u64 (ZM.n2 : Int), .int .u64 (ZM.n3 : Int), .int .u64 (ZM.n4 : Int), .int .u64 (ZM.n5 : Int), .string ZM.s0, .string ZM.s1, .slice A3 ZM.l.length c3] 29)) (.cells #[.int .i64 3, .int .i64 U] 32))
      have hb0 : Below s w ((w6.alloc (.cells #[.int .u8 (ZM.k : Int), .int .u64 (ZM.n0 : Int), .int .u64 (ZM.n1 : Int), .int .u64 (ZM.n2 : Int), .int .u64 (ZM.n3 : Int), .int .u64 (ZM.n4 : Int), .int .u64 (ZM.n5 : Int), .string ZM.s0, .string ZM.s1, .slice A3 ZM.l.length c3] 29)).alloc (.cells #[.int .i64 3, .int .i64 U] 32)) := HBB6.out.trans ((bw_a (bw_a (Below.refl w6.heap.size w6) (.cells #[.int .u8 (ZM.k : Int), .int .u64 (ZM.n0 : Int), .int .u64 (ZM.n1 : Int), .int .u64 (ZM.n2 : Int), .int .u64 (ZM.n3 : Int), .int .u64 (ZM.n4 : Int), .int .u64 (ZM.n5 : Int), .string ZM.s0, .string ZM.s1, .slice A3 ZM.l.length c3] 29)) (.cells #[.int .i64 3, .int .i64 U] 32)).mono (by have := HBB6.out.size; omega))
      have hsz : (((w6.alloc (.cells #[.int .u8 (ZM.k : Int), .int .u64 (ZM.n0 : Int), .int .u64 (ZM.n1 : Int), .int .u64 (ZM.n2 : Int), .int .u64 (ZM.n3 : Int), .int .u64 (ZM.n4 : Int), .int .u64 (ZM.n5 : Int), .string ZM.s0, .string ZM.s1, .slice A3 ZM.l.length c3] 29)).alloc (.cells #[.int .i64 3, .int .i64 U] 32))).heap.size = p4 + 1 + 1 := by simp [hz]
      generalize hW7 : ((w6.alloc (.cells #[.int .u8 (ZM.k : Int), .int .u64 (ZM.n0 : Int), .int .u64 (ZM.n1 : Int), .int .u64 (ZM.n2 : Int), .int .u64 (ZM.n3 : Int), .int .u64 (ZM.n4 : Int), .int .u64 (ZM.n5 : Int), .string ZM.s0, .string ZM.s1, .slice A3 ZM.l.length c3] 29)).alloc (.cells #[.int .i64 3, .int .i64 U] 32)) = W7 at *
      have HK7 := hid hk7
      have HK8 := hid hk8
      have HK10 := hid hk10
      have HK11 := hid hk11
      have HK12 := hid hk12
      have HS1 := hid hs1
      have HS2 := hid hs2
      have HS3 := hid hs3
      have HBB7 := hid hb0
      have HSZ7 := hid hsz
      clear hb0 hsz hz hW7 hk7 hk8 hk10 hk11 hk12 hs1 hs2 hs3
      refine (HD4.out _ A2 c2 HS2.out).mono ?_
      rintro e w8 ⟨A5, c5, rfl, hs5, hb⟩
      clear lhk8 zhk80 zhk81 mhk8
      have hk7 := HK7.out.below hb HK7.out.lt
      have hk8 := HK8.out.below hb HK8.out.lt
      have hk10 := HK10.out.below hb HK10.out.lt
      have hk11 := HK11.out.below hb HK11.out.lt
      have hk12 := HK12.out.below hb HK12.out.lt
      have hs1 := HS1.out.below hb
      have hs2 := HS2.out.below hb
      have hs3 := HS3.out.below hb
      have hb0 : Below s w w8 := HBB7.out.trans (hb.mono (by have := HBB7.out.size; omega))
      have HK7 := hid hk7
      have HK8 := hid hk8
      have HK10 := hid hk10
      have HK11 := hid hk11
      have HK12 := hid hk12
      have HS1 := hid hs1
      have HS2 := hid hs2
      have HS3 := hid hs3
      have HS5 := hid hs5
      have HBB8 := hid hb0
      clear hb0 hb hk7 hk8 hk10 hk11 hk12 hs1 hs2 hs3 hs5
      have zhk100 := HK10.out.cell 0
      have zhk101 := HK10.out.cell 1
      have lhk10 := HK10.out.lt
      have zhk70 := HK7.out.cell 0
      have zhk71 := HK7.out.cell 1
      have zhk72 := HK7.out.cell 2
      have zhk73 := HK7.out.cell 3
      have zhk74 := HK7.out.cell 4
      have zhk75 := HK7.out.cell 5
      have zhk76 := HK7.out.cell 6
      have zhk77 := HK7.out.cell 7
      have zhk78 := HK7.out.cell 8
      have zhk79 := HK7.out.cell 9
      have lhk7 := HK7.out.lt
      simp only [List.getElem?_toArray, List.getElem?_cons_zero, List.getElem?_cons_succ] at zhk100 zhk101 zhk70 zhk71 zhk72 zhk73 zhk74 zhk75 zhk76 zhk77 zhk78 zhk79
      obtain ⟨p5, hz⟩ : ∃ p, w8.heap.size = p := ⟨_, rfl⟩
      rw [hz] at lhk10
      have mhk10 := Nat.lt_add_one_of_lt lhk10
      rw [hz] at lhk7
      have mhk7 := Nat.lt_add_one_of_lt lhk7
      go_wp2_with fail
      have hk13 : Blk ((w8.alloc (.cells #[.int .u8 (M2.k : Int), .int .u64 (M2.n0 : Int), .int .u64 (M2.n1 : Int), .int .u64 (M2.n2 : Int), .int .u64 (M2.n3 : Int), .int .u64 (M2.n4 : Int), .int .u64 (M2.n5 : Int), .string M2.s0, .string M2.s1, .slice A5 M2.l.length c5] 29)).alloc (.cells #[.int .i64 0, .int .i64 ((0 : Nat) : Int)] 32)) (p5) 29 #[.int .u8 (M2.k : Int), .int .u64 (M2.n0 : Int), .int .u64 (M2.n1 : Int), .int .u64 (M2.n2 : Int), .int .u64 (M2.n3 : Int), .int .u64 (M2.n4 : Int), .int .u64 (M2.n5 : Int), .string M2.s0, .string M2.s1, .slice A5 M2.l.length c5] := by
        have h := ((Blk.new w8 29 #[.int .u8 (M2.k : Int), .int .u64 (M2.n0 : Int), .int .u64 (M2.n1 : Int), .int .u64 (M2.n2 : Int), .int .u64 (M2.n3 : Int), .int .u64 (M2.n4 : Int), .int .u64 (M2.n5 : Int), .string M2.s0, .string M2.s1, .slice A5 M2.l.length c5]).alloc (.cells #[.int .i64 0, .int .i64 ((0 : Nat) : Int)] 32))
        rw [hz] at h; exact h
      have hk14 : Blk ((w8.alloc (.cells #[.int .u8 (M2.k : Int), .int .u64 (M2.n0 : Int), .int .u64 (M2.n1 : Int), .int .u64 (M2.n2 : Int), .int .u64 (M2.n3 : Int), .int .u64 (M2.n4 : Int), .int .u64 (M2.n5 : Int), .string M2.s0, .string M2.s1, .slice A5 M2.l.length c5] 29)).alloc (.cells #[.int .i64 0, .int .i64 ((0 : Nat) : Int)] 32)) (p5 + 1) 32 #[.int .i64 0, .int .i64 ((0 : Nat) : Int)] := by
        have h := (Blk.new (w8.alloc (.cells #[.int .u8 (M2.k : Int), .int .u64 (M2.n0 : Int), .int .u64 (M2.n1 : Int), .int .u64 (M2.n2 : Int), .int .u64 (M2.n3 : Int), .int .u64 (M2.n4 : Int), .int .u64 (M2.n5 : Int), .string M2.s0, .string M2.s1, .slice A5 M2.l.length c5] 29)) 32 #[.int .i64 0, .int .i64 ((0 : Nat) : Int)])
        rw [World.size_alloc, hz] at h; exact h
      have hk7 := ((HK7.out.alloc (.cells #[.int .u8 (M2.k : Int), .int .u64 (M2.n0 : Int), .int .u64 (M2.n1 : Int), .int .u64 (M2.n2 : Int), .int .u64 (M2.n3 : Int), .int .u64 (M2.n4 : Int), .int .u64 (M2.n5 : Int), .string M2.s0, .string M2.s1, .slice A5 M2.l.length c5] 29)).alloc (.cells #[.int .i64 0, .int .i64 ((0 : Nat) : Int)] 32))
      have hk8 := ((HK8.out.alloc (.cells #[.int .u8 (M2.k : Int), .int .u64 (M2.n0 : Int), .int .u64 (M2.n1 : Int), .int .u64 (M2.n2 : Int), .int .u64 (M2.n3 : Int), .int .u64 (M2.n4 : Int), .int .u64 (M2.n5 : Int), .string M2.s0, .string M2.s1, .slice A5 M2.l.length c5] 29)).alloc (.cells #[.int .i64 0, .int .i64 ((0 : Nat) : Int)] 32))
      have hk10 := ((HK10.out.alloc (.cells #[.int .u8 (M2.k : Int), .int .u64 (M2.n0 : Int), .int .u64 (M2.n1 : Int), .int .u64 (M2.n2 : Int), .int .u64 (M2.n3 : Int), .int .u64 (M2.n4 : Int), .int .u64 (M2.n5 : Int), .string M2.s0, .string M2.s1, .slice A5 M2.l.length c5] 29)).alloc (.cells #[.int .i64 0, .int .i64 ((0 : Nat) : Int)] 32))
      have hk11 := ((HK11.out.alloc (.cells #[.int .u8 (M2.k : Int), .int .u64 (M2.n0 : Int), .int .u64 (M2.n1 : Int), .int .u64 (M2.n2 : Int), .int .u64 (M2.n3 : Int), .int .u64 (M2.n4 : Int), .int .u64 (M2.n5 : Int), .string M2.s0, .string M2.s1, .slice A5 M2.l.length c5] 29)).alloc (.cells #[.int .i64 0, .int .i64 ((0 : Nat) : Int)] 32))
      have hk12 := ((HK12.out.alloc (.cells #[.int .u8 (M2.k : Int), .int .u64 (M2.n0 : Int), .int .u64 (M2.n1 : Int), .int .u64 (M2.n2 : Int), .int .u64 (M2.n3 : Int), .int .u64 (M2.n4 : Int), .int .u64 (M2.n5 : Int), .string M2.s0, .string M2.s1, .slice A5 M2.l.length c5] 29)).alloc (.cells #[.int .i64 0, .int .i64 ((0 : Nat) : Int)] 32))
      have hs1 := HS1.out.below (bw_a (bw_a (Below.refl w8.heap.size w8) (.cells #[.int .u8 (M2.k : Int), .int .u64 (M2.n0 : Int), .int .u64 (M2.n1 : Int), .int .u64 (M2.n2 : Int), .int .u64 (M2.n3 : Int), .int .u64 (M2.n4 : Int), .int .u64 (M2.n5 : Int), .string M2.s0, .string M2.s1, .slice A5 M2.l.length c5] 29)) (.cells #[.int .i64 0, .int .i64 ((0 : Nat) : Int)] 32))
      have hs2 := HS2.out.below (bw_a (bw_a (Below.refl w8.heap.size w8) (.cells #[.int .u8 (M2.k : Int), .int .u64 (M2.n0 : Int), .int .u64 (M2.n1 : Int), .int .u64 (M2.n2 : Int), .int .u64 (M2.n3 : Int), .int .u64 (M2.n4 : Int), .int .u64 (M2.n5 : Int), .string M2.s0, .string M2.s1, .slice A5 M2.l.length c5] 29)) (.cells #[.int .i64 0, .int .i64 ((0 : Nat) : Int)] 32))
      have hs3 := HS3.out.below (bw_a (bw_a (Below.refl w8.heap.size w8) (.cells #[.int .u8 (M2.k : Int), .int .u64 (M2.n0 : Int), .int .u64 (M2.n1 : Int), .int .u64 (M2.n2 : Int), .int .u64 (M2.n3 : Int), .int .u64 (M2.n4 : Int), .int .u64 (M2.n5 : Int), .string M2.s0, .string M2.s1, .slice A5 M2.l.length c5] 29)) (.cells #[.int .i64 0, .int .i64 ((0 : Nat) : Int)] 32))
      have hs5 := HS5.out.below (bw_a (bw_a (Below.refl w8.heap.size w8) (.cells #[.int .u8 (M2.k : Int), .int .u64 (M2.n0 : Int), .int .u64 (M2.n1 : Int), .int .u64 (M2.n2 : Int), .int .u64 (M2.n3 : Int), .int .u64 (M2.n4 : Int), .int .u64 (M2.n5 : Int), .string M2.s0, .string M2.s1, .slice A5 M2.l.length c5] 29)) (.cells #[.int .i64 0, .int .i64 ((0 : Nat) : Int)] 32))
      have hb0 : Below s w ((w8.alloc (.cells #[.int .u8 (M2.k : Int), .int .u64 (M2.n0 : Int), .int .u64 (M2.n1 : Int), .int .u64 (M2.n2 : Int), .int .u64 (M2.n3 : Int), .int .u64 (M2.n4 : Int), .int .u64 (M2.n5 : Int), .string M2.s0, .string M2.s1, .slice A5 M2.l.length c5] 29)).alloc (.cells #[.int .i64 0, .int .i64 ((0 : Nat) : Int)] 32)) := HBB8.out.trans ((bw_a (bw_a (Below.refl w8.heap.size w8) (.cells #[.int .u8 (M2.k : Int), .int .u64 (M2.n0 : Int), .int .u64 (M2.n1 : Int), .int .u64 (M2.n2 : Int), .int .u64 (M2.n3 : Int), .int .u64 (M2.n4 : Int), .int .u64 (M2.n5 : Int), .string M2.s0, .string M2.s1, .slice A5 M2.l.length c5] 29)) (.cells #[.int .i64 0, .int .i64 ((0 : Nat) : Int)] 32)).mono (by have := HBB8.out.size; omega))
      have hsz : (((w8.alloc (.cells #[.int .u8 (M2.k : Int), .int .u64 (M2.n0 : Int), .int .u64 (M2.n1 : Int), .int .u64 (M2.n2 : Int), .int .u64 (M2.n3 : Int), .int .u64 (M2.n4 : Int), .int .u64 (M2.n5 : Int), .string M2.s0, .string M2.s1, .slice A5 M2.l.length c5] 29)).alloc (.cells #[.int .i64 0, .int .i64 ((0 : Nat) : Int)] 32))).heap.size = p5 + 1 + 1 := by simp [hz]
      generalize hW9 : ((w8.alloc (.cells #[.int .u8 (M2.k : Int), .int .u64 (M2.n0 : Int), .int .u64 (M2.n1 : Int), .int .u64 (M2.n2 : Int), .int .u64 (M2.n3 : Int), .int .u64 (M2.n4 : Int), .int .u64 (M2.n5 : Int), .string M2.s0, .string M2.s1, .slice A5 M2.l.length c5] 29)).alloc (.cells #[.int .i64 0, .int .i64 ((0 : Nat) : Int)] 32)) = W9 at *
      have HK7 := hid hk7
      have HK8 := hid hk8
      have HK10 := hid hk10
      have HK11 := hid hk11
      have HK12 := hid hk12
      have HK13 := hid hk13
      have HK14 := hid hk14
      have HS1 := hid hs1
      have HS2 := hid hs2
      have HS3 := hid hs3
      have HS5 := hid hs5
      have HBB9 := hid hb0
      have HSZ9 := hid hsz
      clear hb0 hsz hz hW9 hk7 hk8 hk10 hk11 hk12 hk13 hk14 hs1 hs2 hs3 hs5
      have hsx := HSA.out _ M2 A5 c5 A1 c1 HS5.out HS1.out
      rw [HS2M.out] at hsx
      have HSX := hid hsx
      clear hsx
      refine (HSX.out).mono ?_
      rintro e w10 ⟨rfl, hb⟩
      clear lhk10 lhk7 zhk100 zhk101 zhk70 zhk71 zhk72 zhk73 zhk74 zhk75 zhk76 zhk77 zhk78 zhk79 mhk10 mhk7
      have hk7 := HK7.out.below hb HK7.out.lt
      have hk8 := HK8.out.below hb HK8.out.lt
      have hk10 := HK10.out.below hb HK10.out.lt
      have hk11 := HK11.out.below hb HK11.out.lt
      have hk12 := HK12.out.below hb HK12.out.lt
      have hk13 := HK13.out.below hb HK13.out.lt
      have hk14 := HK14.out.below hb HK14.out.lt
      have hs1 := HS1.out.below hb
      have hs2 := HS2.out.below hb
      have hs3 := HS3.out.below hb
      have hs5 := HS5.out.below hb
      have hb0 : Below s w w10 := HBB9.out.trans (hb.mono (by have := HBB9.out.size; omega))
      have HK7 := hid hk7
      have HK8 := hid hk8
      have HK10 := hid hk10
      have HK11 := hid hk11
      have HK12 := hid hk12
      have HK13 := hid hk13
      have HK14 := hid hk14
      have HS1 := hid hs1
      have HS2 := hid hs2
      have HS3 := hid hs3
      have HS5 := hid hs5
      have HBB10 := hid hb0
      clear hb0 hb hk7 hk8 hk10 hk11 hk12 hk13 hk14 hs1 hs2 hs3 hs5
      have zhk120 := HK12.out.cell 0
      have zhk121 := HK12.out.cell 1
      have lhk12 := HK12.out.lt
      have zhk110 := HK11.out.cell 0
      have zhk111 := HK11.out.cell 1
      have zhk112 := HK11.out.cell 2
      have zhk113 := HK11.out.cell 3
      have zhk114 := HK11.out.cell 4
      have zhk115 := HK11.out.cell 5
      have zhk116 := HK11.out.cell 6
      have zhk117 := HK11.out.cell 7
      have zhk118 := HK11.out.cell 8
      have zhk119 := HK11.out.cell 9
      have lhk11 := HK11.out.lt
      have zhk70 := HK7.out.cell 0
      have zhk71 := HK7.out.cell 1
      have zhk72 := HK7.out.cell 2
      have zhk73 := HK7.out.cell 3
      have zhk74 := HK7.out.cell 4
      have zhk75 := HK7.out.cell 5
      have zhk76 := HK7.out.cell 6
      have zhk77 := HK7.out.cell 7
      have zhk78 := HK7.out.cell 8
      have zhk79 := HK7.out.cell 9
      have lhk7 := HK7.out.lt
      simp only [List.getElem?_toArray, List.getElem?_cons_zero, List.getElem?_cons_succ] at zhk120 zhk121 zhk110 zhk111 zhk112 zhk113 zhk114 zhk115 zhk116 zhk117 zhk118 zhk119 zhk70 zhk71 zhk72 zhk73 zhk74 zhk75 zhk76 zhk77 zhk78 zhk79
      go_wp2_with fail
      go_ret
      exact ⟨rfl, HBB10.out⟩
theorem strictWithin_any (k : Nat) (v : Int) (bs : List UInt8) (n : Nat) (A : Option Addr) (c : Nat) (w : World) (hk : k ≤ 255) (hv1 : -9223372036854775808 ≤ v) (hv2 : v ≤ 9223372036854775807) (hn : bs.length = n) (hs : Sl w A c (bs.map bv)) : Calls Try.prog 6 #[.int .u8 (k : Int), .int .i64 v, .slice A n c] w fun e w' => e = .returned (.bool true) ∧ Below w.heap.size w w' := by
  rcases str_ways k v bs with ⟨E, P, hE, hr, h1, h2⟩ | ⟨M, O, hr, hg, hL, hc, h1, h2⟩
  · exact strictWithin_bad k v bs n A c w hk hv1 hv2 hn hs hE hr h1 h2
  · obtain rfl := hg.hk
    exact strictWithin_good v bs n A c w hk hv1 hv2 hn hs hr hg hc h1 h2
end Go.Proofs.Ytealjpolomhdeaa
