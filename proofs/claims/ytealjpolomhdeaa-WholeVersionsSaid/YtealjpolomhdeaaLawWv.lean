/- The walk of WholeVersions. -/
import Derived.Test.YtealjpolomhdeaaG18
import Derived.Test.YtealjpolomhdeaaG16
import Derived.Test.YtealjpolomhdeaaG4
set_option linter.unusedVariables false
namespace Go.Proofs.Ytealjpolomhdeaa
open Go.RowKit
theorem bk_st {w w' : World} {g : Nat} {t : TypeId} {cs : Array Value} (hb : Below w.heap.size w w') (h : Blk w g t cs) : Blk w' g t cs := h.below hb h.lt
theorem clean_sl (M : MV) (o : Int) (len : Nat) (hlen : M.l.length = len) (hl : len ≤ 1000000) (ho1 : -9223372036854775808 ≤ o) (ho2 : o ≤ 9223372036854775807) {KM : MV} (hK : keptM (ofL (M.k : Int) o) M = KM) (W : World) (hs : Sl W M.A M.c (M.l.map sv)) : Calls Try.prog 26 #[.agg #[.int .u8 (M.k : Int), .int .u64 (M.n0 : Int), .int .u64 (M.n1 : Int), .int .u64 (M.n2 : Int), .int .u64 (M.n3 : Int), .int .u64 (M.n4 : Int), .int .u64 (M.n5 : Int), .string M.s0, .string M.s1, .slice M.A len M.c], .int .i64 o] W fun e w' => ∃ A' c', e = .returned (.agg #[.int .u8 (KM.k : Int), .int .u64 (KM.n0 : Int), .int .u64 (KM.n1 : Int), .int .u64 (KM.n2 : Int), .int .u64 (KM.n3 : Int), .int .u64 (KM.n4 : Int), .int .u64 (KM.n5 : Int), .string KM.s0, .string KM.s1, .slice A' KM.l.length c']) ∧ Sl w' A' c' (KM.l.map sv) ∧ Below W.heap.size W w' := by
  subst hlen
  refine (vclean_any M o W hl hs ho1 ho2).mono ?_
  rw [hK]
  rintro e w' ⟨A', c', rfl, ho, hb⟩
  obtain ⟨A2, c2, e2, -, hsl⟩ := Sl.of_own ho
  injection e2 with e3 e4 e5
  subst e3; subst e5
  exact ⟨_, _, rfl, hsl, hb⟩
theorem unk_len {k : Nat} {v : Int} {bs : List UInt8} {n : Nat} {A : Option Addr} {c : Nat} {w : World} (hk : k ≤ 255) (hv1 : -9223372036854775808 ≤ v) (hv2 : v ≤ 9223372036854775807) (hn : bs.length = n) (hs : Sl w A c (bs.map bv)) {R : MV} {O : List (RF × Nat)} {E : Int} {P : Nat} (hR : readR k v bs = (R, O, E, P)) {ol : Nat} (hol : O.length = ol) :
    Calls Try.prog 14 #[.int .u8 (k : Int), .int .i64 v, .slice A n c] w fun e w' => ∃ A' c', e = .returned (.tuple #[.slice A' ol c', .agg #[.int .i64 E, .int .i64 (P : Int)]]) ∧ Below w.heap.size w w' := by
  refine (lunk_any k v bs n A c w hk hv1 hv2 hn hs).mono ?_
  rw [hR]
  rintro e w' ⟨pre, Ao, co, rfl, -, hfa, -, hb⟩
  have := fvAll_len hfa
  refine ⟨Ao, co, ?_, hb⟩
  rw [this, hol]
theorem of_len (k o : Int) (W : World) (hk0 : 0 ≤ k) (hk : k ≤ 255) (ho1 : -9223372036854775808 ≤ o) (ho2 : o ≤ 9223372036854775807) {nO : Nat} (hn : (ofL k o).length = nO) : Calls Try.prog 25 #[.int .u8 k, .int .i64 o] W fun e w' => ∃ A c, e = .returned (.slice A nO c) ∧ Below W.heap.size W w' := by
  refine (r8of_any k o W hk0 hk ho1 ho2).mono ?_
  rintro e w' ⟨A, c, rfl, -, hb⟩
  exact ⟨A, c, by rw [hn], hb⟩
set_option maxRecDepth 100000 in
set_option maxHeartbeats 8000000 in
theorem wholeVersions_any (M : MV) (v o : Int) (w : World) (hok : MvOk w M) (hv1 : -9223372036854775808 ≤ v) (hv2 : v ≤ 9223372036854775807) (ho1 : -9223372036854775808 ≤ o) (ho2 : o ≤ 9223372036854775807) :
    Calls Try.prog 7 #[mvV M, .int .i64 v, .int .i64 o] w fun e w' => e = .returned (.bool true) ∧ Below w.heap.size w w' := by
  have hlv := fun W => awake6_any W
  have hsm := fun W (hW : Below w.heap.size w W) => small9_any M W (hok.l.below hW)
  have hebx := fun (hb : smallB M = true) W (hW : Below w.heap.size w W) => (ebytes_any M v W (hok.below hW) (small_sm hb) hv1 hv2).mono (fun e w' h => bytesR_sl h)
  have hk255 := hok.k
  have hml := fun W (hW : Below w.heap.size w W) => hok.l.below hW
  obtain ⟨eb, heb⟩ : ∃ eb, encB M (ofL (M.k : Int) v) = eb := ⟨_, rfl⟩
  obtain ⟨el, hel⟩ : ∃ n, eb.length = n := ⟨_, rfl⟩
  obtain ⟨E1, hE1⟩ : ∃ E1, (chkV M (ofL (M.k : Int) v)).1 = E1 := ⟨_, rfl⟩
  obtain ⟨E2, hE2⟩ : ∃ E2, (chkV M (ofL (M.k : Int) v)).2 = E2 := ⟨_, rfl⟩
  obtain ⟨nO, hnO⟩ : ∃ nO, (ofL (M.k : Int) o).length = nO := ⟨_, rfl⟩
  obtain ⟨KM, hKM⟩ : ∃ KM, keptM (ofL (M.k : Int) o) M = KM := ⟨_, rfl⟩
  have hbad : E1 ≠ 0 → el = 0 := fun h => by
    have : eb = [] := by rw [← heb]; unfold encB; rw [if_neg (by rw [hE1]; exact h)]
    rw [← hel, this]; rfl
  have hA0 : E1 = 0 → nO = 0 → readR M.k o eb = (ZM, [], 7, 0) := fun h1 h2 => by unfold readR; rw [if_pos (by rw [hnO]; exact h2)]
  have hA1 := fun (hb : smallB M = true) (h1 : E1 = 0) (h2 : nO ≠ 0) => read_other v o hok.n (small_sm hb) (hE1.trans h1) (by rw [hnO]; exact h2)
  rw [heb, hKM] at hA1
  rw [heb, hel, hE1, hE2] at hebx
  have hlm : smallB M = true → M.l.length ≤ 1000000 := fun hb => Nat.le_trans (small_sm hb).l (by decide)
  have hof := fun W => of_len (M.k : Int) o W (by omega) (by omega) ho1 ho2 hnO
  have hmv : mvV M = .agg #[.int .u8 (M.k : Int), .int .u64 (M.n0 : Int), .int .u64 (M.n1 : Int), .int .u64 (M.n2 : Int), .int .u64 (M.n3 : Int), .int .u64 (M.n4 : Int), .int .u64 (M.n5 : Int), .string M.s0, .string M.s1, .slice M.A M.l.length M.c] := rfl
  rw [hmv] at hebx hsm ⊢
  obtain ⟨len, hlen⟩ : ∃ n, M.l.length = n := ⟨_, rfl⟩
  rw [hlen] at hlm
  have hcl := fun (hb : smallB M = true) W h => clean_sl M o len hlen (hlm hb) ho1 ho2 hKM W h
  have hsa := fun W (R2 : MV) A' c' h1 h2 => msame R2 M A' c' M.A M.c len W hlen h1 h2
  rw [hlen] at hebx hsm ⊢
  generalize smallB M = sb at *
  obtain ⟨s, hws⟩ : ∃ s, w.heap.size = s := ⟨_, rfl⟩
  rw [hws] at hsm hebx hml ⊢
  have hz := hws
  have HLV := hid hlv
  have HSM := hid hsm
  have HEB := hid hebx
  have HML := hid hml
  have HSA := hid hsa
  have HCL := hid hcl
  have HOF := hid hof
  have HEL := hid hel
  have HBAD := hid hbad
  have HA0 := hid hA0
  have HA1 := hid hA1
  have HNO := hid hnO
  clear hlv hsm hebx hml hsa hcl hof hel hbad hA0 hA1 hlm hlen hE1 hE2 heb hok hnO hKM hmv
  go_enter Try.func7, Try.ntmps7
  go_wp2_with fail
  have hkm : Blk (w.alloc (.cells #[.int .u8 (M.k : Int), .int .u64 (M.n0 : Int), .int .u64 (M.n1 : Int), .int .u64 (M.n2 : Int), .int .u64 (M.n3 : Int), .int .u64 (M.n4 : Int), .int .u64 (M.n5 : Int), .string M.s0, .string M.s1, .slice M.A len M.c] 29)) (s) 29 #[.int .u8 (M.k : Int), .int .u64 (M.n0 : Int), .int .u64 (M.n1 : Int), .int .u64 (M.n2 : Int), .int .u64 (M.n3 : Int), .int .u64 (M.n4 : Int), .int .u64 (M.n5 : Int), .string M.s0, .string M.s1, .slice M.A len M.c] := by
    have h := (Blk.new w 29 #[.int .u8 (M.k : Int), .int .u64 (M.n0 : Int), .int .u64 (M.n1 : Int), .int .u64 (M.n2 : Int), .int .u64 (M.n3 : Int), .int .u64 (M.n4 : Int), .int .u64 (M.n5 : Int), .string M.s0, .string M.s1, .slice M.A len M.c])
    rw [hz] at h; exact h
  have hb0 : Below s w (w.alloc (.cells #[.int .u8 (M.k : Int), .int .u64 (M.n0 : Int), .int .u64 (M.n1 : Int), .int .u64 (M.n2 : Int), .int .u64 (M.n3 : Int), .int .u64 (M.n4 : Int), .int .u64 (M.n5 : Int), .string M.s0, .string M.s1, .slice M.A len M.c] 29)) := by
    have h := (bw_a (Below.refl w.heap.size w) (.cells #[.int .u8 (M.k : Int), .int .u64 (M.n0 : Int), .int .u64 (M.n1 : Int), .int .u64 (M.n2 : Int), .int .u64 (M.n3 : Int), .int .u64 (M.n4 : Int), .int .u64 (M.n5 : Int), .string M.s0, .string M.s1, .slice M.A len M.c] 29))
    rw [hz] at h; exact h
  have hsz : ((w.alloc (.cells #[.int .u8 (M.k : Int), .int .u64 (M.n0 : Int), .int .u64 (M.n1 : Int), .int .u64 (M.n2 : Int), .int .u64 (M.n3 : Int), .int .u64 (M.n4 : Int), .int .u64 (M.n5 : Int), .string M.s0, .string M.s1, .slice M.A len M.c] 29))).heap.size = s + 1 := by simp [hz]
  generalize hW1 : (w.alloc (.cells #[.int .u8 (M.k : Int), .int .u64 (M.n0 : Int), .int .u64 (M.n1 : Int), .int .u64 (M.n2 : Int), .int .u64 (M.n3 : Int), .int .u64 (M.n4 : Int), .int .u64 (M.n5 : Int), .string M.s0, .string M.s1, .slice M.A len M.c] 29)) = W1 at *
  have HKM := hid hkm
  have HBB1 := hid hb0
  have HSZ1 := hid hsz
  clear hb0 hsz hz hW1 hkm
  refine (HLV.out W1).mono ?_
  rintro e w2 ⟨rfl, hb⟩
  have hkm := HKM.out.below hb HKM.out.lt
  have hb0 : Below s w w2 := HBB1.out.trans (hb.mono (by have := HBB1.out.size; omega))
  have HKM := hid hkm
  have HBB2 := hid hb0
  clear hb0 hb hkm
  have zhkm0 := HKM.out.cell 0
  have zhkm1 := HKM.out.cell 1
  have zhkm2 := HKM.out.cell 2
  have zhkm3 := HKM.out.cell 3
  have zhkm4 := HKM.out.cell 4
  have zhkm5 := HKM.out.cell 5
  have zhkm6 := HKM.out.cell 6
  have zhkm7 := HKM.out.cell 7
  have zhkm8 := HKM.out.cell 8
  have zhkm9 := HKM.out.cell 9
  have lhkm := HKM.out.lt
  simp only [List.getElem?_toArray, List.getElem?_cons_zero, List.getElem?_cons_succ] at zhkm0 zhkm1 zhkm2 zhkm3 zhkm4 zhkm5 zhkm6 zhkm7 zhkm8 zhkm9
  go_wp2_with fail
  refine (HSM.out _ HBB2.out).mono ?_
  rintro e w3 ⟨rfl, hb⟩
  clear lhkm zhkm0 zhkm1 zhkm2 zhkm3 zhkm4 zhkm5 zhkm6 zhkm7 zhkm8 zhkm9
  have hkm := HKM.out.below hb HKM.out.lt
  have hb0 : Below s w w3 := HBB2.out.trans (hb.mono (by have := HBB2.out.size; omega))
  have HKM := hid hkm
  have HBB3 := hid hb0
  clear hb0 hb hkm
  cases sb with
  | false =>
    go_wp2_with fail
    go_ret
    exact ⟨rfl, HBB3.out⟩
  | true =>
    have hx1 := HEB.out rfl
    have hx2 := HA1.out rfl
    have hx3 := HCL.out rfl
    have HEB1 := hid hx1
    have HA2 := hid hx2
    have HCL1 := hid hx3
    clear hx1 hx2 hx3 HEB HA1 HCL
    by_cases ho3 : o < 1
    · go_wp2_with fail
      go_ret
      exact ⟨rfl, HBB3.out⟩
    by_cases ho4 : 3 < o
    · go_wp2_with fail
      go_ret
      exact ⟨rfl, HBB3.out⟩
    have hd3 : decide (o < 1) = false := by simpa using ho3
    have hd4 : decide (3 < o) = false := by simpa using ho4
    have zhkm0 := HKM.out.cell 0
    have zhkm1 := HKM.out.cell 1
    have zhkm2 := HKM.out.cell 2
    have zhkm3 := HKM.out.cell 3
    have zhkm4 := HKM.out.cell 4
    have zhkm5 := HKM.out.cell 5
    have zhkm6 := HKM.out.cell 6
    have zhkm7 := HKM.out.cell 7
    have zhkm8 := HKM.out.cell 8
    have zhkm9 := HKM.out.cell 9
    have lhkm := HKM.out.lt
    simp only [List.getElem?_toArray, List.getElem?_cons_zero, List.getElem?_cons_succ] at zhkm0 zhkm1 zhkm2 zhkm3 zhkm4 zhkm5 zhkm6 zhkm7 zhkm8 zhkm9
    go_wp2_with fail
    refine (HEB1.out _ HBB3.out).mono ?_
    rintro e w4 ⟨A1, c1, rfl, hse, -, hb⟩
    clear lhkm zhkm0 zhkm1 zhkm2 zhkm3 zhkm4 zhkm5 zhkm6 zhkm7 zhkm8 zhkm9
    have hkm := HKM.out.below hb HKM.out.lt
    have hb0 : Below s w w4 := HBB3.out.trans (hb.mono (by have := HBB3.out.size; omega))
    have HKM := hid hkm
    have HSE := hid hse
    have HBB4 := hid hb0
    clear hb0 hb hkm hse
    by_cases he : E1 = 0
    · by_cases hno : nO = 0
      · have hr := HA0.out he hno
        have hdl := fun W A' c' (h : Sl W A' c' (eb.map bv)) => (dec_p (w := W) hk255 ho1 ho2 HEL.out h hr).mono (R' := fun e w' => ∃ A' c', e = .returned (.tuple #[.agg #[.int .u8 (ZM.k : Int), .int .u64 (ZM.n0 : Int), .int .u64 (ZM.n1 : Int), .int .u64 (ZM.n2 : Int), .int .u64 (ZM.n3 : Int), .int .u64 (ZM.n4 : Int), .int .u64 (ZM.n5 : Int), .string ZM.s0, .string ZM.s1, .slice A' ZM.l.length c'], .agg #[.int .i64 7, .int .i64 ((0 : Nat) : Int)]]) ∧ Sl w' A' c' (ZM.l.map sv) ∧ Below W.heap.size W w') (by rintro e w' ⟨A', c', he, ho, hb⟩; exact ⟨A', c', he, ho.sl, hb⟩)
        have HDL := hid hdl
        clear hdl
        subst he
        subst hno
        have zhkm0 := HKM.out.cell 0
        have lhkm := HKM.out.lt
        simp only [List.getElem?_toArray, List.getElem?_cons_zero] at zhkm0
        obtain ⟨p3, hz⟩ : ∃ p, w4.heap.size = p := ⟨_, rfl⟩
        rw [hz] at lhkm
        have mhkm := Nat.lt_add_one_of_lt lhkm
        go_wp2_with fail
        have hk8 : Blk (w4.alloc (.cells #[.int .i64 0, .int .i64 E2] 32)) (p3) 32 #[.int .i64 0, .int .i64 E2] := by
          have h := (Blk.new w4 32 #[.int .i64 0, .int .i64 E2])
          rw [hz] at h; exact h
        have hkm := (HKM.out.alloc (.cells #[.int .i64 0, .int .i64 E2] 32))
        have hse := HSE.out.below (bw_a (Below.refl w4.heap.size w4) (.cells #[.int .i64 0, .int .i64 E2] 32))
        have hb0 : Below s w (w4.alloc (.cells #[.int .i64 0, .int .i64 E2] 32)) := HBB4.out.trans ((bw_a (Below.refl w4.heap.size w4) (.cells #[.int .i64 0, .int .i64 E2] 32)).mono (by have := HBB4.out.size; omega))
        have hsz : ((w4.alloc (.cells #[.int .i64 0, .int .i64 E2] 32))).heap.size = p3 + 1 := by simp [hz]
        generalize hW5 : (w4.alloc (.cells #[.int .i64 0, .int .i64 E2] 32)) = W5 at *
        have HKM := hid hkm
        have HK8 := hid hk8
        have HSE := hid hse
        have HBB5 := hid hb0
        have HSZ5 := hid hsz
        clear hb0 hsz hz hW5 hkm hk8 hse
        refine (HDL.out _ _ _ HSE.out).mono ?_
        rintro e w6 ⟨A4, c4, rfl, hs4, hb⟩
        clear lhkm zhkm0 mhkm
        have hkm := HKM.out.below hb HKM.out.lt
        have hk8 := HK8.out.below hb HK8.out.lt
        have hse := HSE.out.below hb
        have hb0 : Below s w w6 := HBB5.out.trans (hb.mono (by have := HBB5.out.size; omega))
        have HKM := hid hkm
        have HK8 := hid hk8
        have HSE := hid hse
        have HS4 := hid hs4
        have HBB6 := hid hb0
        clear hb0 hb hkm hk8 hse hs4
        have zhkm0 := HKM.out.cell 0
        have zhkm1 := HKM.out.cell 1
        have zhkm2 := HKM.out.cell 2
        have zhkm3 := HKM.out.cell 3
        have zhkm4 := HKM.out.cell 4
        have zhkm5 := HKM.out.cell 5
        have zhkm6 := HKM.out.cell 6
        have zhkm7 := HKM.out.cell 7
        have zhkm8 := HKM.out.cell 8
        have zhkm9 := HKM.out.cell 9
        have lhkm := HKM.out.lt
        simp only [List.getElem?_toArray, List.getElem?_cons_zero, List.getElem?_cons_succ] at zhkm0 zhkm1 zhkm2 zhkm3 zhkm4 zhkm5 zhkm6 zhkm7 zhkm8 zhkm9
        obtain ⟨p4, hz⟩ : ∃ p, w6.heap.size = p := ⟨_, rfl⟩
        rw [hz] at lhkm
        have mhkm := Nat.lt_add_one_of_lt lhkm
        go_wp2_with fail
        have hk9 : Blk ((w6.alloc (.cells #[.int .u8 (ZM.k : Int), .int .u64 (ZM.n0 : Int), .int .u64 (ZM.n1 : Int), .int .u64 (ZM.n2 : Int), .int .u64 (ZM.n3 : Int), .int .u64 (ZM.n4 : Int), .int .u64 (ZM.n5 : Int), .string ZM.s0, .string ZM.s1, .slice A4 ZM.l.length c4] 29)).alloc (.cells #[.int .i64 7, .int .i64 ((0 : Nat) : Int)] 32)) (p4) 29 #[.int .u8 (ZM.k : Int), .int .u64 (ZM.n0 : Int), .int .u64 (ZM.n1 : Int), .int .u64 (ZM.n2 : Int), .int .u64 (ZM.n3 : Int), .int .u64 (ZM.n4 : Int), .int .u64 (ZM.n5 : Int), .string ZM.s0, .string ZM.s1, .slice A4 ZM.l.length c4] := by
          have h := ((Blk.new w6 29 #[.int .u8 (ZM.k : Int), .int .u64 (ZM.n0 : Int), .int .u64 (ZM.n1 : Int), .int .u64 (ZM.n2 : Int), .int .u64 (ZM.n3 : Int), .int .u64 (ZM.n4 : Int), .int .u64 (ZM.n5 : Int), .string ZM.s0, .string ZM.s1, .slice A4 ZM.l.length c4]).alloc (.cells #[.int .i64 7, .int .i64 ((0 : Nat) : Int)] 32))
          rw [hz] at h; exact h
        have hk10 : Blk ((w6.alloc (.cells #[.int .u8 (ZM.k : Int), .int .u64 (ZM.n0 : Int), .int .u64 (ZM.n1 : Int), .int .u64 (ZM.n2 : Int), .int .u64 (ZM.n3 : Int), .int .u64 (ZM.n4 : Int), .int .u64 (ZM.n5 : Int), .string ZM.s0, .string ZM.s1, .slice A4 ZM.l.length c4] 29)).alloc (.cells #[.int .i64 7, .int .i64 ((0 : Nat) : Int)] 32)) (p4 + 1) 32 #[.int .i64 7, .int .i64 ((0 : Nat) : Int)] := by
          have h := (Blk.new (w6.alloc (.cells #[.int .u8 (ZM.k : Int), .int .u64 (ZM.n0 : Int), .int .u64 (ZM.n1 : Int), .int .u64 (ZM.n2 : Int), .int .u64 (ZM.n3 : Int), .int .u64 (ZM.n4 : Int), .int .u64 (ZM.n5 : Int), .string ZM.s0, .string ZM.s1, .slice A4 ZM.l.length c4] 29)) 32 #[.int .i64 7, .int .i64 ((0 : Nat) : Int)])
          rw [World.size_alloc, hz] at h; exact h
        have hkm := ((HKM.out.alloc (.cells #[.int .u8 (ZM.k : Int), .int .u64 (ZM.n0 : Int), .int .u64 (ZM.n1 : Int), .int .u64 (ZM.n2 : Int), .int .u64 (ZM.n3 : Int), .int .u64 (ZM.n4 : Int), .int .u64 (ZM.n5 : Int), .string ZM.s0, .string ZM.s1, .slice A4 ZM.l.length c4] 29)).alloc (.cells #[.int .i64 7, .int .i64 ((0 : Nat) : Int)] 32))
        have hk8 := ((HK8.out.alloc (.cells #[.int .u8 (ZM.k : Int), .int .u64 (ZM.n0 : Int), .int .u64 (ZM.n1 : Int), .int .u64 (ZM.n2 : Int), .int .u64 (ZM.n3 : Int), .int .u64 (ZM.n4 : Int), .int .u64 (ZM.n5 : Int), .string ZM.s0, .string ZM.s1, .slice A4 ZM.l.length c4] 29)).alloc (.cells #[.int .i64 7, .int .i64 ((0 : Nat) : Int)] 32))
        have hse := HSE.out.below (bw_a (bw_a (Below.refl w6.heap.size w6) (.cells #[.int .u8 (ZM.k : Int), .int .u64 (ZM.n0 : Int), .int .u64 (ZM.n1 : Int), .int .u64 (ZM.n2 : Int), .int .u64 (ZM.n3 : Int), .int .u64 (ZM.n4 : Int), .int .u64 (ZM.n5 : Int), .string ZM.s0, .string ZM.s1, .slice A4 ZM.l.length c4] 29)) (.cells #[.int .i64 7, .int .i64 ((0 : Nat) : Int)] 32))
        have hs4 := HS4.out.below (bw_a (bw_a (Below.refl w6.heap.size w6) (.cells #[.int .u8 (ZM.k : Int), .int .u64 (ZM.n0 : Int), .int .u64 (ZM.n1 : Int), .int .u64 (ZM.n2 : Int), .int .u64 (ZM.n3 : Int), .int .u64 (ZM.n4 : Int), .int .u64 (ZM.n5 : Int), .string ZM.s0, .string ZM.s1, .slice A4 ZM.l.length c4] 29)) (.cells #[.int .i64 7, .int .i64 ((0 : Nat) : Int)] 32))
        have hb0 : Below s w ((w6.alloc (.cells #[.int .u8 (ZM.k : Int), .int .u64 (ZM.n0 : Int), .int .u64 (ZM.n1 : Int), .int .u64 (ZM.n2 : Int), .int .u64 (ZM.n3 : Int), .int .u64 (ZM.n4 : Int), .int .u64 (ZM.n5 : Int), .string ZM.s0, .string ZM.s1, .slice A4 ZM.l.length c4] 29)).alloc (.cells #[.int .i64 7, .int .i64 ((0 : Nat) : Int)] 32)) := HBB6.out.trans ((bw_a (bw_a (Below.refl w6.heap.size w6) (.cells #[.int .u8 (ZM.k : Int), .int .u64 (ZM.n0 : Int), .int .u64 (ZM.n1 : Int), .int .u64 (ZM.n2 : Int), .int .u64 (ZM.n3 : Int), .int .u64 (ZM.n4 : Int), .int .u64 (ZM.n5 : Int), .string ZM.s0, .string ZM.s1, .slice A4 ZM.l.length c4] 29)) (.cells #[.int .i64 7, .int .i64 ((0 : Nat) : Int)] 32)).mono (by have := HBB6.out.size; omega))
        have hsz : (((w6.alloc (.cells #[.int .u8 (ZM.k : Int), .int .u64 (ZM.n0 : Int), .int .u64 (ZM.n1 : Int), .int .u64 (ZM.n2 : Int), .int .u64 (ZM.n3 : Int), .int .u64 (ZM.n4 : Int), .int .u64 (ZM.n5 : Int), .string ZM.s0, .string ZM.s1, .slice A4 ZM.l.length c4] 29)).alloc (.cells #[.int .i64 7, .int .i64 ((0 : Nat) : Int)] 32))).heap.size = p4 + 1 + 1 := by simp [hz]
        generalize hW7 : ((w6.alloc (.cells #[.int .u8 (ZM.k : Int), .int .u64 (ZM.n0 : Int), .int .u64 (ZM.n1 : Int), .int .u64 (ZM.n2 : Int), .int .u64 (ZM.n3 : Int), .int .u64 (ZM.n4 : Int), .int .u64 (ZM.n5 : Int), .string ZM.s0, .string ZM.s1, .slice A4 ZM.l.length c4] 29)).alloc (.cells #[.int .i64 7, .int .i64 ((0 : Nat) : Int)] 32)) = W7 at *
        have HKM := hid hkm
        have HK8 := hid hk8
        have HK9 := hid hk9
        have HK10 := hid hk10
        have HSE := hid hse
        have HS4 := hid hs4
        have HBB7 := hid hb0
        have HSZ7 := hid hsz
        clear hb0 hsz hz hW7 hkm hk8 hk9 hk10 hse hs4
        refine (HOF.out _).mono ?_
        rintro e w8 ⟨A5, c5, rfl, hb⟩
        clear lhkm zhkm0 zhkm1 zhkm2 zhkm3 zhkm4 zhkm5 zhkm6 zhkm7 zhkm8 zhkm9 mhkm
        have hkm := HKM.out.below hb HKM.out.lt
        have hk8 := HK8.out.below hb HK8.out.lt
        have hk9 := HK9.out.below hb HK9.out.lt
        have hk10 := HK10.out.below hb HK10.out.lt
        have hse := HSE.out.below hb
        have hs4 := HS4.out.below hb
        have hb0 : Below s w w8 := HBB7.out.trans (hb.mono (by have := HBB7.out.size; omega))
        have HKM := hid hkm
        have HK8 := hid hk8
        have HK9 := hid hk9
        have HK10 := hid hk10
        have HSE := hid hse
        have HS4 := hid hs4
        have HBB8 := hid hb0
        clear hb0 hb hkm hk8 hk9 hk10 hse hs4
        have zhk100 := HK10.out.cell 0
        have zhk101 := HK10.out.cell 1
        have lhk10 := HK10.out.lt
        simp only [List.getElem?_toArray, List.getElem?_cons_zero, List.getElem?_cons_succ] at zhk100 zhk101
        go_wp2_with fail
        go_ret
        exact ⟨rfl, HBB8.out⟩
      · obtain ⟨M2, oth, hr, hs2, hiff, hlate⟩ := HA2.out he hno
        have hdl := fun W A' c' (h : Sl W A' c' (eb.map bv)) => (dec_p (w := W) hk255 ho1 ho2 HEL.out h hr).mono (R' := fun e w' => ∃ A' c', e = .returned (.tuple #[.agg #[.int .u8 (M2.k : Int), .int .u64 (M2.n0 : Int), .int .u64 (M2.n1 : Int), .int .u64 (M2.n2 : Int), .int .u64 (M2.n3 : Int), .int .u64 (M2.n4 : Int), .int .u64 (M2.n5 : Int), .string M2.s0, .string M2.s1, .slice A' M2.l.length c'], .agg #[.int .i64 0, .int .i64 ((0 : Nat) : Int)]]) ∧ Sl w' A' c' (M2.l.map sv) ∧ Below W.heap.size W w') (by rintro e w' ⟨A', c', he, ho, hb⟩; exact ⟨A', c', he, ho.sl, hb⟩)
        have HDL := hid hdl
        have hsd : strD M.k o eb = if encB M2 (ofL (M.k : Int) o) = eb then (M2, 0, 0) else (ZM, 3, unl eb (encB M2 (ofL (M.k : Int) o))) := by unfold strD; rw [hr, if_pos rfl]
        obtain ⟨ol, hol⟩ : ∃ ol, oth.length = ol := ⟨_, rfl⟩
        have hun := fun W A' c' (h : Sl W A' c' (eb.map bv)) => unk_len (w := W) hk255 ho1 ho2 HEL.out h hr hol
        have HUN := hid hun
        have hgood : ol = 0 → strD M.k o eb = (M2, 0, 0) := fun h0 => by
          have h1 : oth = [] := List.eq_nil_of_length_eq_zero (hol.trans h0)
          rw [hsd, if_pos (hiff.2 h1)]
        have hbd : ol ≠ 0 → strD M.k o eb = (ZM, 3, unl eb (encB M2 (ofL (M.k : Int) o))) := fun h0 => by
          rw [hsd, if_neg (fun h => h0 (by rw [← hol, hiff.1 h]; rfl))]
        have hlt2 : v ≤ o → ol = 0 ∧ sameB M2 M = true := fun h => by
          obtain ⟨g1, g2⟩ := hlate h
          exact ⟨by rw [← hol, g1]; rfl, g2⟩
        have HGOOD := hid hgood
        have HBD := hid hbd
        have HLT := hid hlt2
        have HS2 := hid hs2
        have hnb : (nO == 0) = false := by simpa using hno
        clear hdl hr hiff hlate hsd hun hgood hbd hlt2 hs2 hol
        subst he
        have zhkm0 := HKM.out.cell 0
        have lhkm := HKM.out.lt
        simp only [List.getElem?_toArray, List.getElem?_cons_zero] at zhkm0
        obtain ⟨p3, hz⟩ : ∃ p, w4.heap.size = p := ⟨_, rfl⟩
        rw [hz] at lhkm
        have mhkm := Nat.lt_add_one_of_lt lhkm
        go_wp2_with fail
        have hk8 : Blk (w4.alloc (.cells #[.int .i64 0, .int .i64 E2] 32)) (p3) 32 #[.int .i64 0, .int .i64 E2] := by
          have h := (Blk.new w4 32 #[.int .i64 0, .int .i64 E2])
          rw [hz] at h; exact h
        have hkm := (HKM.out.alloc (.cells #[.int .i64 0, .int .i64 E2] 32))
        have hse := HSE.out.below (bw_a (Below.refl w4.heap.size w4) (.cells #[.int .i64 0, .int .i64 E2] 32))
        have hb0 : Below s w (w4.alloc (.cells #[.int .i64 0, .int .i64 E2] 32)) := HBB4.out.trans ((bw_a (Below.refl w4.heap.size w4) (.cells #[.int .i64 0, .int .i64 E2] 32)).mono (by have := HBB4.out.size; omega))
        have hsz : ((w4.alloc (.cells #[.int .i64 0, .int .i64 E2] 32))).heap.size = p3 + 1 := by simp [hz]
        generalize hW5 : (w4.alloc (.cells #[.int .i64 0, .int .i64 E2] 32)) = W5 at *
        have HKM := hid hkm
        have HK8 := hid hk8
        have HSE := hid hse
        have HBB5 := hid hb0
        have HSZ5 := hid hsz
        clear hb0 hsz hz hW5 hkm hk8 hse
        refine (HDL.out _ _ _ HSE.out).mono ?_
        rintro e w6 ⟨A4, c4, rfl, hs4, hb⟩
        clear lhkm zhkm0 mhkm
        have hkm := HKM.out.below hb HKM.out.lt
        have hk8 := HK8.out.below hb HK8.out.lt
        have hse := HSE.out.below hb
        have hb0 : Below s w w6 := HBB5.out.trans (hb.mono (by have := HBB5.out.size; omega))
        have HKM := hid hkm
        have HK8 := hid hk8
        have HSE := hid hse
        have HS4 := hid hs4
        have HBB6 := hid hb0
        clear hb0 hb hkm hk8 hse hs4
        have zhkm0 := HKM.out.cell 0
        have zhkm1 := HKM.out.cell 1
        have zhkm2 := HKM.out.cell 2
        have zhkm3 := HKM.out.cell 3
        have zhkm4 := HKM.out.cell 4
        have zhkm5 := HKM.out.cell 5
        have zhkm6 := HKM.out.cell 6
        have zhkm7 := HKM.out.cell 7
        have zhkm8 := HKM.out.cell 8
        have zhkm9 := HKM.out.cell 9
        have lhkm := HKM.out.lt
        simp only [List.getElem?_toArray, List.getElem?_cons_zero, List.getElem?_cons_succ] at zhkm0 zhkm1 zhkm2 zhkm3 zhkm4 zhkm5 zhkm6 zhkm7 zhkm8 zhkm9
        obtain ⟨p4, hz⟩ : ∃ p, w6.heap.size = p := ⟨_, rfl⟩
        rw [hz] at lhkm
        have mhkm := Nat.lt_add_one_of_lt lhkm
        go_wp2_with fail
        have hk9 : Blk ((w6.alloc (.cells #[.int .u8 (M2.k : Int), .int .u64 (M2.n0 : Int), .int .u64 (M2.n1 : Int), .int .u64 (M2.n2 : Int), .int .u64 (M2.n3 : Int), .int .u64 (M2.n4 : Int), .int .u64 (M2.n5 : Int), .string M2.s0, .string M2.s1, .slice A4 M2.l.length c4] 29)).alloc (.cells #[.int .i64 0, .int .i64 ((0 : Nat) : Int)] 32)) (p4) 29 #[.int .u8 (M2.k : Int), .int .u64 (M2.n0 : Int), .int .u64 (M2.n1 : Int), .int .u64 (M2.n2 : Int), .int .u64 (M2.n3 : Int), .int .u64 (M2.n4 : Int), .int .u64 (M2.n5 : Int), .string M2.s0, .string M2.s1, .slice A4 M2.l.length c4] := by
          have h := ((Blk.new w6 29 #[.int .u8 (M2.k : Int), .int .u64 (M2.n0 : Int), .int .u64 (M2.n1 : Int), .int .u64 (M2.n2 : Int), .int .u64 (M2.n3 : Int), .int .u64 (M2.n4 : Int), .int .u64 (M2.n5 : Int), .string M2.s0, .string M2.s1, .slice A4 M2.l.length c4]).alloc (.cells #[.int .i64 0, .int .i64 ((0 : Nat) : Int)] 32))
          rw [hz] at h; exact h
        have hk10 : Blk ((w6.alloc (.cells #[.int .u8 (M2.k : Int), .int .u64 (M2.n0 : Int), .int .u64 (M2.n1 : Int), .int .u64 (M2.n2 : Int), .int .u64 (M2.n3 : Int), .int .u64 (M2.n4 : Int), .int .u64 (M2.n5 : Int), .string M2.s0, .string M2.s1, .slice A4 M2.l.length c4] 29)).alloc (.cells #[.int .i64 0, .int .i64 ((0 : Nat) : Int)] 32)) (p4 + 1) 32 #[.int .i64 0, .int .i64 ((0 : Nat) : Int)] := by
          have h := (Blk.new (w6.alloc (.cells #[.int .u8 (M2.k : Int), .int .u64 (M2.n0 : Int), .int .u64 (M2.n1 : Int), .int .u64 (M2.n2 : Int), .int .u64 (M2.n3 : Int), .int .u64 (M2.n4 : Int), .int .u64 (M2.n5 : Int), .string M2.s0, .string M2.s1, .slice A4 M2.l.length c4] 29)) 32 #[.int .i64 0, .int .i64 ((0 : Nat) : Int)])
          rw [World.size_alloc, hz] at h; exact h
        have hkm := ((HKM.out.alloc (.cells #[.int .u8 (M2.k : Int), .int .u64 (M2.n0 : Int), .int .u64 (M2.n1 : Int), .int .u64 (M2.n2 : Int), .int .u64 (M2.n3 : Int), .int .u64 (M2.n4 : Int), .int .u64 (M2.n5 : Int), .string M2.s0, .string M2.s1, .slice A4 M2.l.length c4] 29)).alloc (.cells #[.int .i64 0, .int .i64 ((0 : Nat) : Int)] 32))
        have hk8 := ((HK8.out.alloc (.cells #[.int .u8 (M2.k : Int), .int .u64 (M2.n0 : Int), .int .u64 (M2.n1 : Int), .int .u64 (M2.n2 : Int), .int .u64 (M2.n3 : Int), .int .u64 (M2.n4 : Int), .int .u64 (M2.n5 : Int), .string M2.s0, .string M2.s1, .slice A4 M2.l.length c4] 29)).alloc (.cells #[.int .i64 0, .int .i64 ((0 : Nat) : Int)] 32))
        have hse := HSE.out.below (bw_a (bw_a (Below.refl w6.heap.size w6) (.cells #[.int .u8 (M2.k : Int), .int .u64 (M2.n0 : Int), .int .u64 (M2.n1 : Int), .int .u64 (M2.n2 : Int), .int .u64 (M2.n3 : Int), .int .u64 (M2.n4 : Int), .int .u64 (M2.n5 : Int), .string M2.s0, .string M2.s1, .slice A4 M2.l.length c4] 29)) (.cells #[.int .i64 0, .int .i64 ((0 : Nat) : Int)] 32))
        have hs4 := HS4.out.below (bw_a (bw_a (Below.refl w6.heap.size w6) (.cells #[.int .u8 (M2.k : Int), .int .u64 (M2.n0 : Int), .int .u64 (M2.n1 : Int), .int .u64 (M2.n2 : Int), .int .u64 (M2.n3 : Int), .int .u64 (M2.n4 : Int), .int .u64 (M2.n5 : Int), .string M2.s0, .string M2.s1, .slice A4 M2.l.length c4] 29)) (.cells #[.int .i64 0, .int .i64 ((0 : Nat) : Int)] 32))
        have hb0 : Below s w ((w6.alloc (.cells #[.int .u8 (M2.k : Int), .int .u64 (M2.n0 : Int), .int .u64 (M2.n1 : Int), .int .u64 (M2.n2 : Int), .int .u64 (M2.n3 : Int), .int .u64 (M2.n4 : Int), .int .u64 (M2.n5 : Int), .string M2.s0, .string M2.s1, .slice A4 M2.l.length c4] 29)).alloc (.cells #[.int .i64 0, .int .i64 ((0 : Nat) : Int)] 32)) := HBB6.out.trans ((bw_a (bw_a (Below.refl w6.heap.size w6) (.cells #[.int .u8 (M2.k : Int), .int .u64 (M2.n0 : Int), .int .u64 (M2.n1 : Int), .int .u64 (M2.n2 : Int), .int .u64 (M2.n3 : Int), .int .u64 (M2.n4 : Int), .int .u64 (M2.n5 : Int), .string M2.s0, .string M2.s1, .slice A4 M2.l.length c4] 29)) (.cells #[.int .i64 0, .int .i64 ((0 : Nat) : Int)] 32)).mono (by have := HBB6.out.size; omega))
        have hsz : (((w6.alloc (.cells #[.int .u8 (M2.k : Int), .int .u64 (M2.n0 : Int), .int .u64 (M2.n1 : Int), .int .u64 (M2.n2 : Int), .int .u64 (M2.n3 : Int), .int .u64 (M2.n4 : Int), .int .u64 (M2.n5 : Int), .string M2.s0, .string M2.s1, .slice A4 M2.l.length c4] 29)).alloc (.cells #[.int .i64 0, .int .i64 ((0 : Nat) : Int)] 32))).heap.size = p4 + 1 + 1 := by simp [hz]
        generalize hW7 : ((w6.alloc (.cells #[.int .u8 (M2.k : Int), .int .u64 (M2.n0 : Int), .int .u64 (M2.n1 : Int), .int .u64 (M2.n2 : Int), .int .u64 (M2.n3 : Int), .int .u64 (M2.n4 : Int), .int .u64 (M2.n5 : Int), .string M2.s0, .string M2.s1, .slice A4 M2.l.length c4] 29)).alloc (.cells #[.int .i64 0, .int .i64 ((0 : Nat) : Int)] 32)) = W7 at *
        have HKM := hid hkm
        have HK8 := hid hk8
        have HK9 := hid hk9
        have HK10 := hid hk10
        have HSE := hid hse
        have HS4 := hid hs4
        have HBB7 := hid hb0
        have HSZ7 := hid hsz
        clear hb0 hsz hz hW7 hkm hk8 hk9 hk10 hse hs4
        refine (HOF.out _).mono ?_
        rintro e w8 ⟨A5, c5, rfl, hb⟩
        clear lhkm zhkm0 zhkm1 zhkm2 zhkm3 zhkm4 zhkm5 zhkm6 zhkm7 zhkm8 zhkm9 mhkm
        have hkm := HKM.out.below hb HKM.out.lt
        have hk8 := HK8.out.below hb HK8.out.lt
        have hk9 := HK9.out.below hb HK9.out.lt
        have hk10 := HK10.out.below hb HK10.out.lt
        have hse := HSE.out.below hb
        have hs4 := HS4.out.below hb
        have hb0 : Below s w w8 := HBB7.out.trans (hb.mono (by have := HBB7.out.size; omega))
        have HKM := hid hkm
        have HK8 := hid hk8
        have HK9 := hid hk9
        have HK10 := hid hk10
        have HSE := hid hse
        have HS4 := hid hs4
        have HBB8 := hid hb0
        clear hb0 hb hkm hk8 hk9 hk10 hse hs4
        have zhk100 := HK10.out.cell 0
        have lhk10 := HK10.out.lt
        have zhk90 := HK9.out.cell 0
        have zhk91 := HK9.out.cell 1
        have zhk92 := HK9.out.cell 2
        have zhk93 := HK9.out.cell 3
        have zhk94 := HK9.out.cell 4
        have zhk95 := HK9.out.cell 5
        have zhk96 := HK9.out.cell 6
        have zhk97 := HK9.out.cell 7
        have zhk98 := HK9.out.cell 8
        have zhk99 := HK9.out.cell 9
        have lhk9 := HK9.out.lt
        have zhkm0 := HKM.out.cell 0
        have zhkm1 := HKM.out.cell 1
        have zhkm2 := HKM.out.cell 2
        have zhkm3 := HKM.out.cell 3
        have zhkm4 := HKM.out.cell 4
        have zhkm5 := HKM.out.cell 5
        have zhkm6 := HKM.out.cell 6
        have zhkm7 := HKM.out.cell 7
        have zhkm8 := HKM.out.cell 8
        have zhkm9 := HKM.out.cell 9
        have lhkm := HKM.out.lt
        simp only [List.getElem?_toArray, List.getElem?_cons_zero, List.getElem?_cons_succ] at zhk100 zhk90 zhk91 zhk92 zhk93 zhk94 zhk95 zhk96 zhk97 zhk98 zhk99 zhkm0 zhkm1 zhkm2 zhkm3 zhkm4 zhkm5 zhkm6 zhkm7 zhkm8 zhkm9
        have hn0 : ¬ (nO : Int) = 0 := by omega
        have hn1 : ((nO : Int) == 0) = false := by simpa using hn0
        go_wp2_with fail
        go_region_held3 (fun w' => w'.cell? ⟨p4 + 1, 0, none⟩ = some (.int .i64 0) ∧ w'.cell? ⟨p4, 0, none⟩ = some (.int .u8 (M2.k : Int)) ∧ w'.cell? ⟨p4, 1, none⟩ = some (.int .u64 (M2.n0 : Int)) ∧ w'.cell? ⟨p4, 2, none⟩ = some (.int .u64 (M2.n1 : Int)) ∧ w'.cell? ⟨p4, 3, none⟩ = some (.int .u64 (M2.n2 : Int)) ∧ w'.cell? ⟨p4, 4, none⟩ = some (.int .u64 (M2.n3 : Int)) ∧ w'.cell? ⟨p4, 5, none⟩ = some (.int .u64 (M2.n4 : Int)) ∧ w'.cell? ⟨p4, 6, none⟩ = some (.int .u64 (M2.n5 : Int)) ∧ w'.cell? ⟨p4, 7, none⟩ = some (.string M2.s0) ∧ w'.cell? ⟨p4, 8, none⟩ = some (.string M2.s1) ∧ w'.cell? ⟨p4, 9, none⟩ = some (.slice A4 M2.l.length c4) ∧ w'.cell? ⟨s, 0, none⟩ = some (.int .u8 (M.k : Int)) ∧ w'.cell? ⟨s, 1, none⟩ = some (.int .u64 (M.n0 : Int)) ∧ w'.cell? ⟨s, 2, none⟩ = some (.int .u64 (M.n1 : Int)) ∧ w'.cell? ⟨s, 3, none⟩ = some (.int .u64 (M.n2 : Int)) ∧ w'.cell? ⟨s, 4, none⟩ = some (.int .u64 (M.n3 : Int)) ∧ w'.cell? ⟨s, 5, none⟩ = some (.int .u64 (M.n4 : Int)) ∧ w'.cell? ⟨s, 6, none⟩ = some (.int .u64 (M.n5 : Int)) ∧ w'.cell? ⟨s, 7, none⟩ = some (.string M.s0) ∧ w'.cell? ⟨s, 8, none⟩ = some (.string M.s1) ∧ w'.cell? ⟨s, 9, none⟩ = some (.slice M.A len M.c)) (first | exact ⟨HT10.out.cell 0, HT9.out.cell 0, HT9.out.cell 1, HT9.out.cell 2, HT9.out.cell 3, HT9.out.cell 4, HT9.out.cell 5, HT9.out.cell 6, HT9.out.cell 7, HT9.out.cell 8, HT9.out.cell 9, HTM.out.cell 0, HTM.out.cell 1, HTM.out.cell 2, HTM.out.cell 3, HTM.out.cell 4, HTM.out.cell 5, HTM.out.cell 6, HTM.out.cell 7, HTM.out.cell 8, HTM.out.cell 9⟩ | exact ⟨HR10.out.cell 0, HR9.out.cell 0, HR9.out.cell 1, HR9.out.cell 2, HR9.out.cell 3, HR9.out.cell 4, HR9.out.cell 5, HR9.out.cell 6, HR9.out.cell 7, HR9.out.cell 8, HR9.out.cell 9, HRM.out.cell 0, HRM.out.cell 1, HRM.out.cell 2, HRM.out.cell 3, HRM.out.cell 4, HRM.out.cell 5, HRM.out.cell 6, HRM.out.cell 7, HRM.out.cell 8, HRM.out.cell 9⟩ | exact ⟨HK10.out.cell 0, HK9.out.cell 0, HK9.out.cell 1, HK9.out.cell 2, HK9.out.cell 3, HK9.out.cell 4, HK9.out.cell 5, HK9.out.cell 6, HK9.out.cell 7, HK9.out.cell 8, HK9.out.cell 9, HKM.out.cell 0, HKM.out.cell 1, HKM.out.cell 2, HKM.out.cell 3, HKM.out.cell 4, HKM.out.cell 5, HKM.out.cell 6, HKM.out.cell 7, HKM.out.cell 8, HKM.out.cell 9⟩ | go_keep) (first | (go_at_call 21; have hsx := msame M2 KM A4 c4 A6 c6 KM.l.length _ rfl (by first | exact HR4.out | exact Sl.drewN HR4.out _) (by first | exact HS6.out | exact Sl.drewN HS6.out _); rw [HS2.out] at hsx; refine hsx.mono ?_; rintro e w9 ⟨rfl, hb9⟩; have HT10 := hid (bk_st hb9 (by first | exact HR10.out | exact Sl.drewN HR10.out _)); have HT9 := hid (bk_st hb9 (by first | exact HR9.out | exact Sl.drewN HR9.out _)); have HTM := hid (bk_st hb9 (by first | exact HRM.out | exact Sl.drewN HRM.out _)); have HTE := hid (Sl.below (by first | exact HRE.out | exact Sl.drewN HRE.out _) hb9); have HBT := hid (Below.trans (by first | exact HBR.out | exact drew_bel HBR.out | exact below_drewN HBR.out _) (hb9.mono (Nat.le_trans (Nat.le_of_eq hws.symm) HBR.out.size))); clear hb9 hsx) | (go_at_call 26; refine (HCL1.out _ (HML.out _ (by first | exact HBB8.out | exact drew_bel HBB8.out | exact below_drewN HBB8.out _))).mono ?_; rintro e w8 ⟨A6, c6, rfl, hs6, hb8⟩; have HS6 := hid hs6; have HR10 := hid (bk_st hb8 (by first | exact HK10.out | exact Sl.drewN HK10.out _)); have HR9 := hid (bk_st hb8 (by first | exact HK9.out | exact Sl.drewN HK9.out _)); have HRM := hid (bk_st hb8 (by first | exact HKM.out | exact Sl.drewN HKM.out _)); have HR4 := hid (Sl.below (by first | exact HS4.out | exact Sl.drewN HS4.out _) hb8); have HRE := hid (Sl.below (by first | exact HSE.out | exact Sl.drewN HSE.out _) hb8); have HRR := hid (bk_st hb8 (by first | exact HK8.out | exact Sl.drewN HK8.out _)); have HBR := hid (Below.trans (by first | exact HBB8.out | exact drew_bel HBB8.out | exact below_drewN HBB8.out _) (hb8.mono (Nat.le_trans (Nat.le_of_eq hws.symm) HBB8.out.size))); clear hs6 hb8))
        have hkm := HTM.out
        have hse := HTE.out
        clear HK10 HK9 HKM HSE HK8 HR10 HR9 HRM HR4 HRE HRR HS6 HT10 HT9 HTM HTE HA0 HA2 HCL1
        have HKM := hid hkm
        have HSE := hid hse
        clear hkm hse
        have zhkm0 := HKM.out.cell 0
        have lhkm := HKM.out.lt
        simp only [List.getElem?_toArray, List.getElem?_cons_zero] at zhkm0
        obtain ⟨p8, hz8⟩ : ∃ p, w9.heap.size = p := ⟨_, rfl⟩
        go_wp2_with fail
        clear hz8
        by_cases hvo : v ≤ o
        · obtain ⟨hol, hg2⟩ := HLT.out hvo
          have HG2 := hid hg2
          have hsd := fun W A' c' (h : Sl W A' c' (eb.map bv)) => dec_st (w := W) hk255 ho1 ho2 HEL.out h (HGOOD.out hol)
          have HSD := hid hsd
          have hvb : decide (v ≤ o) = true := by simpa using hvo
          clear hsd hg2 HGOOD HBD HLT
          refine (HSD.out _ _ _ HSE.out).mono ?_
          rintro e w21 ⟨A7, c7, rfl, hs7, hb⟩
          clear lhkm zhkm0
          have hkm := HKM.out.below hb HKM.out.lt
          have hse := HSE.out.below hb
          have hb0 : Below s w w21 := HBT.out.trans (hb.mono (by have := HBT.out.size; omega))
          have HKM := hid hkm
          have HSE := hid hse
          have HS7 := hid hs7
          have HBB21 := hid hb0
          clear hb0 hb hkm hse hs7
          have zhkm0 := HKM.out.cell 0
          have zhkm1 := HKM.out.cell 1
          have zhkm2 := HKM.out.cell 2
          have zhkm3 := HKM.out.cell 3
          have zhkm4 := HKM.out.cell 4
          have zhkm5 := HKM.out.cell 5
          have zhkm6 := HKM.out.cell 6
          have zhkm7 := HKM.out.cell 7
          have zhkm8 := HKM.out.cell 8
          have zhkm9 := HKM.out.cell 9
          have lhkm := HKM.out.lt
          simp only [List.getElem?_toArray, List.getElem?_cons_zero, List.getElem?_cons_succ] at zhkm0 zhkm1 zhkm2 zhkm3 zhkm4 zhkm5 zhkm6 zhkm7 zhkm8 zhkm9
          obtain ⟨p9, hz⟩ : ∃ p, w21.heap.size = p := ⟨_, rfl⟩
          rw [hz] at lhkm
          have mhkm := Nat.lt_add_one_of_lt lhkm
          go_wp2_with fail
          have hk11 : Blk ((w21.alloc (.cells #[.int .u8 (M2.k : Int), .int .u64 (M2.n0 : Int), .int .u64 (M2.n1 : Int), .int .u64 (M2.n2 : Int), .int .u64 (M2.n3 : Int), .int .u64 (M2.n4 : Int), .int .u64 (M2.n5 : Int), .string M2.s0, .string M2.s1, .slice A7 M2.l.length c7] 29)).alloc (.cells #[.int .i64 0, .int .i64 ((0 : Nat) : Int)] 32)) (p9) 29 #[.int .u8 (M2.k : Int), .int .u64 (M2.n0 : Int), .int .u64 (M2.n1 : Int), .int .u64 (M2.n2 : Int), .int .u64 (M2.n3 : Int), .int .u64 (M2.n4 : Int), .int .u64 (M2.n5 : Int), .string M2.s0, .string M2.s1, .slice A7 M2.l.length c7] := by
            have h := ((Blk.new w21 29 #[.int .u8 (M2.k : Int), .int .u64 (M2.n0 : Int), .int .u64 (M2.n1 : Int), .int .u64 (M2.n2 : Int), .int .u64 (M2.n3 : Int), .int .u64 (M2.n4 : Int), .int .u64 (M2.n5 : Int), .string M2.s0, .string M2.s1, .slice A7 M2.l.length c7]).alloc (.cells #[.int .i64 0, .int .i64 ((0 : Nat) : Int)] 32))
            rw [hz] at h; exact h
          have hk12 : Blk ((w21.alloc (.cells #[.int .u8 (M2.k : Int), .int .u64 (M2.n0 : Int), .int .u64 (M2.n1 : Int), .int .u64 (M2.n2 : Int), .int .u64 (M2.n3 : Int), .int .u64 (M2.n4 : Int), .int .u64 (M2.n5 : Int), .string M2.s0, .string M2.s1, .slice A7 M2.l.length c7] 29)).alloc (.cells #[.int .i64 0, .int .i64 ((0 : Nat) : Int)] 32)) (p9 + 1) 32 #[.int .i64 0, .int .i64 ((0 : Nat) : Int)] := by
            have h := (Blk.new (w21.alloc (.cells #[.int .u8 (M2.k : Int), .int .u64 (M2.n0 : Int), .int .u64 (M2.n1 : Int), .int .u64 (M2.n2 : Int), .int .u64 (M2.n3 : Int), .int .u64 (M2.n4 : Int), .int .u64 (M2.n5 : Int), .string M2.s0, .string M2.s1, .slice A7 M2.l.length c7] 29)) 32 #[.int .i64 0, .int .i64 ((0 : Nat) : Int)])
            rw [World.size_alloc, hz] at h; exact h
          have hkm := ((HKM.out.alloc (.cells #[.int .u8 (M2.k : Int), .int .u64 (M2.n0 : Int), .int .u64 (M2.n1 : Int), .int .u64 (M2.n2 : Int), .int .u64 (M2.n3 : Int), .int .u64 (M2.n4 : Int), .int .u64 (M2.n5 : Int), .string M2.s0, .string M2.s1, .slice A7 M2.l.length c7] 29)).alloc (.cells #[.int .i64 0, .int .i64 ((0 : Nat) : Int)] 32))
          have hse := HSE.out.below (bw_a (bw_a (Below.refl w21.heap.size w21) (.cells #[.int .u8 (M2.k : Int), .int .u64 (M2.n0 : Int), .int .u64 (M2.n1 : Int), .int .u64 (M2.n2 : Int), .int .u64 (M2.n3 : Int), .int .u64 (M2.n4 : Int), .int .u64 (M2.n5 : Int), .string M2.s0, .string M2.s1, .slice A7 M2.l.length c7] 29)) (.cells #[.int .i64 0, .int .i64 ((0 : Nat) : Int)] 32))
          have hs7 := HS7.out.below (bw_a (bw_a (Below.refl w21.heap.size w21) (.cells #[.int .u8 (M2.k : Int), .int .u64 (M2.n0 : Int), .int .u64 (M2.n1 : Int), .int .u64 (M2.n2 : Int), .int .u64 (M2.n3 : Int), .int .u64 (M2.n4 : Int), .int .u64 (M2.n5 : Int), .string M2.s0, .string M2.s1, .slice A7 M2.l.length c7] 29)) (.cells #[.int .i64 0, .int .i64 ((0 : Nat) : Int)] 32))
          have hb0 : Below s w ((w21.alloc (.cells #[.int .u8 (M2.k : Int), .int .u64 (M2.n0 : Int), .int .u64 (M2.n1 : Int), .int .u64 (M2.n2 : Int), .int .u64 (M2.n3 : Int), .int .u64 (M2.n4 : Int), .int .u64 (M2.n5 : Int), .string M2.s0, .string M2.s1, .slice A7 M2.l.length c7] 29)).alloc (.cells #[.int .i64 0, .int .i64 ((0 : Nat) : Int)] 32)) := HBB21.out.trans ((bw_a (bw_a (Below.refl w21.heap.size w21) (.cells #[.int .u8 (M2.k : Int), .int .u64 (M2.n0 : Int), .int .u64 (M2.n1 : Int), .int .u64 (M2.n2 : Int), .int .u64 (M2.n3 : Int), .int .u64 (M2.n4 : Int), .int .u64 (M2.n5 : Int), .string M2.s0, .string M2.s1, .slice A7 M2.l.length c7] 29)) (.cells #[.int .i64 0, .int .i64 ((0 : Nat) : Int)] 32)).mono (by have := HBB21.out.size; omega))
          have hsz : (((w21.alloc (.cells #[.int .u8 (M2.k : Int), .int .u64 (M2.n0 : Int), .int .u64 (M2.n1 : Int), .int .u64 (M2.n2 : Int), .int .u64 (M2.n3 : Int), .int .u64 (M2.n4 : Int), .int .u64 (M2.n5 : Int), .string M2.s0, .string M2.s1, .slice A7 M2.l.length c7] 29)).alloc (.cells #[.int .i64 0, .int .i64 ((0 : Nat) : Int)] 32))).heap.size = p9 + 1 + 1 := by simp [hz]
          generalize hW22 : ((w21.alloc (.cells #[.int .u8 (M2.k : Int), .int .u64 (M2.n0 : Int), .int .u64 (M2.n1 : Int), .int .u64 (M2.n2 : Int), .int .u64 (M2.n3 : Int), .int .u64 (M2.n4 : Int), .int .u64 (M2.n5 : Int), .string M2.s0, .string M2.s1, .slice A7 M2.l.length c7] 29)).alloc (.cells #[.int .i64 0, .int .i64 ((0 : Nat) : Int)] 32)) = W22 at *
          have HKM := hid hkm
          have HK11 := hid hk11
          have HK12 := hid hk12
          have HSE := hid hse
          have HS7 := hid hs7
          have HBB22 := hid hb0
          have HSZ22 := hid hsz
          clear hb0 hsz hz hW22 hkm hk11 hk12 hse hs7
          have hsx := HSA.out _ M2 A7 c7 HS7.out (HML.out _ HBB22.out)
          rw [HG2.out] at hsx
          have HSX := hid hsx
          clear hsx
          refine (HSX.out).mono ?_
          rintro e w23 ⟨rfl, hb⟩
          clear lhkm zhkm0 zhkm1 zhkm2 zhkm3 zhkm4 zhkm5 zhkm6 zhkm7 zhkm8 zhkm9 mhkm
          have hkm := HKM.out.below hb HKM.out.lt
          have hk11 := HK11.out.below hb HK11.out.lt
          have hk12 := HK12.out.below hb HK12.out.lt
          have hse := HSE.out.below hb
          have hs7 := HS7.out.below hb
          have hb0 : Below s w w23 := HBB22.out.trans (hb.mono (by have := HBB22.out.size; omega))
          have HKM := hid hkm
          have HK11 := hid hk11
          have HK12 := hid hk12
          have HSE := hid hse
          have HS7 := hid hs7
          have HBB23 := hid hb0
          clear hb0 hb hkm hk11 hk12 hse hs7
          go_wp2_with fail
          go_ret
          exact ⟨rfl, HBB23.out⟩
        · have hvb : decide (v ≤ o) = false := by simpa using hvo
          by_cases hol : ol = 0
          · have hsd := fun W A' c' (h : Sl W A' c' (eb.map bv)) => dec_st (w := W) hk255 ho1 ho2 HEL.out h (HGOOD.out hol)
            have HSD := hid hsd
            subst hol
            clear hsd HGOOD HBD HLT
            refine (HSD.out _ _ _ HSE.out).mono ?_
            rintro e w21 ⟨A7, c7, rfl, hs7, hb⟩
            clear lhkm zhkm0
            have hkm := HKM.out.below hb HKM.out.lt
            have hse := HSE.out.below hb
            have hb0 : Below s w w21 := HBT.out.trans (hb.mono (by have := HBT.out.size; omega))
            have HKM := hid hkm
            have HSE := hid hse
            have HS7 := hid hs7
            have HBB21 := hid hb0
            clear hb0 hb hkm hse hs7
            have zhkm0 := HKM.out.cell 0
            have zhkm1 := HKM.out.cell 1
            have zhkm2 := HKM.out.cell 2
            have zhkm3 := HKM.out.cell 3
            have zhkm4 := HKM.out.cell 4
            have zhkm5 := HKM.out.cell 5
            have zhkm6 := HKM.out.cell 6
            have zhkm7 := HKM.out.cell 7
            have zhkm8 := HKM.out.cell 8
            have zhkm9 := HKM.out.cell 9
            have lhkm := HKM.out.lt
            simp only [List.getElem?_toArray, List.getElem?_cons_zero, List.getElem?_cons_succ] at zhkm0 zhkm1 zhkm2 zhkm3 zhkm4 zhkm5 zhkm6 zhkm7 zhkm8 zhkm9
            obtain ⟨p9, hz⟩ : ∃ p, w21.heap.size = p := ⟨_, rfl⟩
            rw [hz] at lhkm
            have mhkm := Nat.lt_add_one_of_lt lhkm
            go_wp2_with fail
            have hk11 : Blk ((w21.alloc (.cells #[.int .u8 (M2.k : Int), .int .u64 (M2.n0 : Int), .int .u64 (M2.n1 : Int), .int .u64 (M2.n2 : Int), .int .u64 (M2.n3 : Int), .int .u64 (M2.n4 : Int), .int .u64 (M2.n5 : Int), .string M2.s0, .string M2.s1, .slice A7 M2.l.length c7] 29)).alloc (.cells #[.int .i64 0, .int .i64 ((0 : Nat) : Int)] 32)) (p9) 29 #[.int .u8 (M2.k : Int), .int .u64 (M2.n0 : Int), .int .u64 (M2.n1 : Int), .int .u64 (M2.n2 : Int), .int .u64 (M2.n3 : Int), .int .u64 (M2.n4 : Int), .int .u64 (M2.n5 : Int), .string M2.s0, .string M2.s1, .slice A7 M2.l.length c7] := by
              have h := ((Blk.new w21 29 #[.int .u8 (M2.k : Int), .int .u64 (M2.n0 : Int), .int .u64 (M2.n1 : Int), .int .u64 (M2.n2 : Int), .int .u64 (M2.n3 : Int), .int .u64 (M2.n4 : Int), .int .u64 (M2.n5 : Int), .string M2.s0, .string M2.s1, .slice A7 M2.l.length c7]).alloc (.cells #[.int .i64 0, .int .i64 ((0 : Nat) : Int)] 32))
              rw [hz] at h; exact h
            have hk12 : Blk ((w21.alloc (.cells #[.int .u8 (M2.k : Int), .int .u64 (M2.n0 : Int), .int .u64 (M2.n1 : Int), .int .u64 (M2.n2 : Int), .int .u64 (M2.n3 : Int), .int .u64 (M2.n4 : Int), .int .u64 (M2.n5 : Int), .string M2.s0, .string M2.s1, .slice A7 M2.l.length c7] 29)).alloc (.cells #[.int .i64 0, .int .i64 ((0 : Nat) : Int)] 32)) (p9 + 1) 32 #[.int .i64 0, .int .i64 ((0 : Nat) : Int)] := by
              have h := (Blk.new (w21.alloc (.cells #[.int .u8 (M2.k : Int), .int .u64 (M2.n0 : Int), .int .u64 (M2.n1 : Int), .int .u64 (M2.n2 : Int), .int .u64 (M2.n3 : Int), .int .u64 (M2.n4 : Int), .int .u64 (M2.n5 : Int), .string M2.s0, .string M2.s1, .slice A7 M2.l.length c7] 29)) 32 #[.int .i64 0, .int .i64 ((0 : Nat) : Int)])
              rw [World.size_alloc, hz] at h; exact h
            have hkm := ((HKM.out.alloc (.cells #[.int .u8 (M2.k : Int), .int .u64 (M2.n0 : Int), .int .u64 (M2.n1 : Int), .int .u64 (M2.n2 : Int), .int .u64 (M2.n3 : Int), .int .u64 (M2.n4 : Int), .int .u64 (M2.n5 : Int), .string M2.s0, .string M2.s1, .slice A7 M2.l.length c7] 29)).alloc (.cells #[.int .i64 0, .int .i64 ((0 : Nat) : Int)] 32))
            have hse := HSE.out.below (bw_a (bw_a (Below.refl w21.heap.size w21) (.cells #[.int .u8 (M2.k : Int), .int .u64 (M2.n0 : Int), .int .u64 (M2.n1 : Int), .int .u64 (M2.n2 : Int), .int .u64 (M2.n3 : Int), .int .u64 (M2.n4 : Int), .int .u64 (M2.n5 : Int), .string M2.s0, .string M2.s1, .slice A7 M2.l.length c7] 29)) (.cells #[.int .i64 0, .int .i64 ((0 : Nat) : Int)] 32))
            have hs7 := HS7.out.below (bw_a (bw_a (Below.refl w21.heap.size w21) (.cells #[.int .u8 (M2.k : Int), .int .u64 (M2.n0 : Int), .int .u64 (M2.n1 : Int), .int .u64 (M2.n2 : Int), .int .u64 (M2.n3 : Int), .int .u64 (M2.n4 : Int), .int .u64 (M2.n5 : Int), .string M2.s0, .string M2.s1, .slice A7 M2.l.length c7] 29)) (.cells #[.int .i64 0, .int .i64 ((0 : Nat) : Int)] 32))
            have hb0 : Below s w ((w21.alloc (.cells #[.int .u8 (M2.k : Int), .int .u64 (M2.n0 : Int), .int .u64 (M2.n1 : Int), .int .u64 (M2.n2 : Int), .int .u64 (M2.n3 : Int), .int .u64 (M2.n4 : Int), .int .u64 (M2.n5 : Int), .string M2.s0, .string M2.s1, .slice A7 M2.l.length c7] 29)).alloc (.cells #[.int .i64 0, .int .i64 ((0 : Nat) : Int)] 32)) := HBB21.out.trans ((bw_a (bw_a (Below.refl w21.heap.size w21) (.cells #[.int .u8 (M2.k : Int), .int .u64 (M2.n0 : Int), .int .u64 (M2.n1 : Int), .int .u64 (M2.n2 : Int), .int .u64 (M2.n3 : Int), .int .u64 (M2.n4 : Int), .int .u64 (M2.n5 : Int), .string M2.s0, .string M2.s1, .slice A7 M2.l.length c7] 29)) (.cells #[.int .i64 0, .int .i64 ((0 : Nat) : Int)] 32)).mono (by have := HBB21.out.size; omega))
            have hsz : (((w21.alloc (.cells #[.int .u8 (M2.k : Int), .int .u64 (M2.n0 : Int), .int .u64 (M2.n1 : Int), .int .u64 (M2.n2 : Int), .int .u64 (M2.n3 : Int), .int .u64 (M2.n4 : Int), .int .u64 (M2.n5 : Int), .string M2.s0, .string M2.s1, .slice A7 M2.l.length c7] 29)).alloc (.cells #[.int .i64 0, .int .i64 ((0 : Nat) : Int)] 32))).heap.size = p9 + 1 + 1 := by simp [hz]
            generalize hW22 : ((w21.alloc (.cells #[.int .u8 (M2.k : Int), .int .u64 (M2.n0 : Int), .int .u64 (M2.n1 : Int), .int .u64 (M2.n2 : Int), .int .u64 (M2.n3 : Int), .int .u64 (M2.n4 : Int), .int .u64 (M2.n5 : Int), .string M2.s0, .string M2.s1, .slice A7 M2.l.length c7] 29)).alloc (.cells #[.int .i64 0, .int .i64 ((0 : Nat) : Int)] 32)) = W22 at *
            have HKM := hid hkm
            have HK11 := hid hk11
            have HK12 := hid hk12
            have HSE := hid hse
            have HS7 := hid hs7
            have HBB22 := hid hb0
            have HSZ22 := hid hsz
            clear hb0 hsz hz hW22 hkm hk11 hk12 hse hs7
            refine (HUN.out _ _ _ HSE.out).mono ?_
            rintro e w23 ⟨A8, c8, rfl, hb⟩
            clear lhkm zhkm0 zhkm1 zhkm2 zhkm3 zhkm4 zhkm5 zhkm6 zhkm7 zhkm8 zhkm9 mhkm
            have hkm := HKM.out.below hb HKM.out.lt
            have hk11 := HK11.out.below hb HK11.out.lt
            have hk12 := HK12.out.below hb HK12.out.lt
            have hse := HSE.out.below hb
            have hs7 := HS7.out.below hb
            have hb0 : Below s w w23 := HBB22.out.trans (hb.mono (by have := HBB22.out.size; omega))
            have HKM := hid hkm
            have HK11 := hid hk11
            have HK12 := hid hk12
            have HSE := hid hse
            have HS7 := hid hs7
            have HBB23 := hid hb0
            clear hb0 hb hkm hk11 hk12 hse hs7
            have zhk120 := HK12.out.cell 0
            have zhk121 := HK12.out.cell 1
            have lhk12 := HK12.out.lt
            simp only [List.getElem?_toArray, List.getElem?_cons_zero, List.getElem?_cons_succ] at zhk120 zhk121
            obtain ⟨p10, hz⟩ : ∃ p, w23.heap.size = p := ⟨_, rfl⟩
            rw [hz] at lhk12
            have mhk12 := Nat.lt_add_one_of_lt lhk12
            go_wp2_with fail
            go_ret
            exact ⟨rfl, HBB23.out.trans ((bw_a (Below.refl w23.heap.size w23) (.cells #[.int .i64 0, .int .i64 ((0 : Nat) : Int)] 32)).mono (by have := HBB23.out.size; omega))⟩
          · have hsd := fun W A' c' (h : Sl W A' c' (eb.map bv)) => dec_st (w := W) hk255 ho1 ho2 HEL.out h (HBD.out hol)
            have HSD := hid hsd
            have hob : ((ol : Int) == 0) = false := by simpa using hol
            have hon : ¬ (ol : Int) = 0 := by omega
            clear hsd HGOOD HBD HLT hol
            generalize ((unl eb (encB M2 (ofL (M.k : Int) o)) : Nat) : Int) = U at *
            refine (HSD.out _ _ _ HSE.out).mono ?_
            rintro e w21 ⟨A7, c7, rfl, hs7, hb⟩
            clear lhkm zhkm0
            have hkm := HKM.out.below hb HKM.out.lt
            have hse := HSE.out.below hb
            have hb0 : Below s w w21 := HBT.out.trans (hb.mono (by have := HBT.out.size; omega))
            have HKM := hid hkm
            have HSE := hid hse
            have HS7 := hid hs7
            have HBB21 := hid hb0
            clear hb0 hb hkm hse hs7
            have zhkm0 := HKM.out.cell 0
            have zhkm1 := HKM.out.cell 1
            have zhkm2 := HKM.out.cell 2
            have zhkm3 := HKM.out.cell 3
            have zhkm4 := HKM.out.cell 4
            have zhkm5 := HKM.out.cell 5
            have zhkm6 := HKM.out.cell 6
            have zhkm7 := HKM.out.cell 7
            have zhkm8 := HKM.out.cell 8
            have zhkm9 := HKM.out.cell 9
            have lhkm := HKM.out.lt
            simp only [List.getElem?_toArray, List.getElem?_cons_zero, List.getElem?_cons_succ] at zhkm0 zhkm1 zhkm2 zhkm3 zhkm4 zhkm5 zhkm6 zhkm7 zhkm8 zhkm9
            obtain ⟨p9, hz⟩ : ∃ p, w21.heap.size = p := ⟨_, rfl⟩
            rw [hz] at lhkm
            have mhkm := Nat.lt_add_one_of_lt lhkm
            go_wp2_with fail
            have hk11 : Blk ((w21.alloc (.cells #[.int .u8 (ZM.k : Int), .int .u64 (ZM.n0 : Int), .int .u64 (ZM.n1 : Int), .int .u64 (ZM.n2 : Int), .int .u64 (ZM.n3 : Int), .int .u64 (ZM.n4 : Int), .int .u64 (ZM.n5 : Int), .string ZM.s0, .string ZM.s1, .slice A7 ZM.l.length c7] 29)).alloc (.cells #[.int .i64 3, .int .i64 U] 32)) (p9) 29 #[.int .u8 (ZM.k : Int), .int .u64 (ZM.n0 : Int), .int .u64 (ZM.n1 : Int), .int .u64 (ZM.n2 : Int), .int .u64 (ZM.n3 : Int), .int .u64 (ZM.n4 : Int), .int .u64 (ZM.n5 : Int), .string ZM.s0, .string ZM.s1, .slice A7 ZM.l.length c7] := by
              have h := ((Blk.new w21 29 #[.int .u8 (ZM.k : Int), .int .u64 (ZM.n0 : Int), .int .u64 (ZM.n1 : Int), .int .u64 (ZM.n2 : Int), .int .u64 (ZM.n3 : Int), .int .u64 (ZM.n4 : Int), .int .u64 (ZM.n5 : Int), .string ZM.s0, .string ZM.s1, .slice A7 ZM.l.length c7]).alloc (.cells #[.int .i64 3, .int .i64 U] 32))
              rw [hz] at h; exact h
            have hk12 : Blk ((w21.alloc (.cells #[.int .u8 (ZM.k : Int), .int .u64 (ZM.n0 : Int), .int .u64 (ZM.n1 : Int), .int .u64 (ZM.n2 : Int), .int .u64 (ZM.n3 : Int), .int .u64 (ZM.n4 : Int), .int .u64 (ZM.n5 : Int), .string ZM.s0, .string ZM.s1, .slice A7 ZM.l.length c7] 29)).alloc (.cells #[.int .i64 3, .int .i64 U] 32)) (p9 + 1) 32 #[.int .i64 3, .int .i64 U] := by
              have h := (Blk.new (w21.alloc (.cells #[.int .u8 (ZM.k : Int), .int .u64 (ZM.n0 : Int), .int .u64 (ZM.n1 : Int), .int .u64 (ZM.n2 : Int), .int .u64 (ZM.n3 : Int), .int .u64 (ZM.n4 : Int), .int .u64 (ZM.n5 : Int), .string ZM.s0, .string ZM.s1, .slice A7 ZM.l.length c7] 29)) 32 #[.int .i64 3, .int .i64 U])
              rw [World.size_alloc, hz] at h; exact h
            have hkm := ((HKM.out.alloc (.cells #[.int .u8 (ZM.k : Int), .int .u64 (ZM.n0 : Int), .int .u64 (ZM.n1 : Int), .int .u64 (ZM.n2 : Int), .int .u64 (ZM.n3 : Int), .int .u64 (ZM.n4 : Int), .int .u64 (ZM.n5 : Int), .string ZM.s0, .string ZM.s1, .slice A7 ZM.l.length c7] 29)).alloc (.cells #[.int .i64 3, .int .i64 U] 32))
            have hse := HSE.out.below (bw_a (bw_a (Below.refl w21.heap.size w21) (.cells #[.int .u8 (ZM.k : Int), .int .u64 (ZM.n0 : Int), .int .u64 (ZM.n1 : Int), .int .u64 (ZM.n2 : Int), .int .u64 (ZM.n3 : Int), .int .u64 (ZM.n4 : Int), .int .u64 (ZM.n5 : Int), .string ZM.s0, .string ZM.s1, .slice A7 ZM.l.length c7] 29)) (.cells #[.int .i64 3, .int .i64 U] 32))
            have hs7 := HS7.out.below (bw_a (bw_a (Below.refl w21.heap.size w21) (.cells #[.int .u8 (ZM.k : Int), .int .u64 (ZM.n0 : Int), .int .u64 (ZM.n1 : Int), .int .u64 (ZM.n2 : Int), .int .u64 (ZM.n3 : Int), .int .u64 (ZM.n4 : Int), .int .u64 (ZM.n5 : Int), .string ZM.s0, .string ZM.s1, .slice A7 ZM.l.length c7] 29)) (.cells #[.int .i64 3, .int .i64 U] 32))
            have hb0 : Below s w ((w21.alloc (.cells #[.int .u8 (ZM.k : Int), .int .u64 (ZM.n0 : Int), .int .u64 (ZM.n1 : Int), .int .u64 (ZM.n2 : Int), .int .u64 (ZM.n3 : Int), .int .u64 (ZM.n4 : Int), .int .u64 (ZM.n5 : Int), .string ZM.s0, .string ZM.s1, .slice A7 ZM.l.length c7] 29)).alloc (.cells #[.int .i64 3, .int .i64 U] 32)) := HBB21.out.trans ((bw_a (bw_a (Below.refl w21.heap.size w21) (.cells #[.int .u8 (ZM.k : Int), .int .u64 (ZM.n0 : Int), .int .u64 (ZM.n1 : Int), .int .u64 (ZM.n2 : Int), .int .u64 (ZM.n3 : Int), .int .u64 (ZM.n4 : Int), .int .u64 (ZM.n5 : Int), .string ZM.s0, .string ZM.s1, .slice A7 ZM.l.length c7] 29)) (.cells #[.int .i64 3, .int .i64 U] 32)).mono (by have := HBB21.out.size; omega))
            have hsz : (((w21.alloc (.cells #[.int .u8 (ZM.k : Int), .int .u64 (ZM.n0 : Int), .int .u64 (ZM.n1 : Int), .int .u64 (ZM.n2 : Int), .int .u64 (ZM.n3 : Int), .int .u64 (ZM.n4 : Int), .int .u64 (ZM.n5 : Int), .string ZM.s0, .string ZM.s1, .slice A7 ZM.l.length c7] 29)).alloc (.cells #[.int .i64 3, .int .i64 U] 32))).heap.size = p9 + 1 + 1 := by simp [hz]
            generalize hW22 : ((w21.alloc (.cells #[.int .u8 (ZM.k : Int), .int .u64 (ZM.n0 : Int), .int .u64 (ZM.n1 : Int), .int .u64 (ZM.n2 : Int), .int .u64 (ZM.n3 : Int), .int .u64 (ZM.n4 : Int), .int .u64 (ZM.n5 : Int), .string ZM.s0, .string ZM.s1, .slice A7 ZM.l.length c7] 29)).alloc (.cells #[.int .i64 3, .int .i64 U] 32)) = W22 at *
            have HKM := hid hkm
            have HK11 := hid hk11
            have HK12 := hid hk12
            have HSE := hid hse
            have HS7 := hid hs7
            have HBB22 := hid hb0
            have HSZ22 := hid hsz
            clear hb0 hsz hz hW22 hkm hk11 hk12 hse hs7
            refine (HUN.out _ _ _ HSE.out).mono ?_
            rintro e w23 ⟨A8, c8, rfl, hb⟩
            clear lhkm zhkm0 zhkm1 zhkm2 zhkm3 zhkm4 zhkm5 zhkm6 zhkm7 zhkm8 zhkm9 mhkm
            have hkm := HKM.out.below hb HKM.out.lt
            have hk11 := HK11.out.below hb HK11.out.lt
            have hk12 := HK12.out.below hb HK12.out.lt
            have hse := HSE.out.below hb
            have hs7 := HS7.out.below hb
            have hb0 : Below s w w23 := HBB22.out.trans (hb.mono (by have := HBB22.out.size; omega))
            have HKM := hid hkm
            have HK11 := hid hk11
            have HK12 := hid hk12
            have HSE := hid hse
            have HS7 := hid hs7
            have HBB23 := hid hb0
            clear hb0 hb hkm hk11 hk12 hse hs7
            have zhk120 := HK12.out.cell 0
            have zhk121 := HK12.out.cell 1
            have lhk12 := HK12.out.lt
            simp only [List.getElem?_toArray, List.getElem?_cons_zero, List.getElem?_cons_succ] at zhk120 zhk121
            obtain ⟨p10, hz⟩ : ∃ p, w23.heap.size = p := ⟨_, rfl⟩
            rw [hz] at lhk12
            have mhk12 := Nat.lt_add_one_of_lt lhk12
            go_wp2_with fail
            go_ret
            exact ⟨rfl, HBB23.out.trans ((bw_a (Below.refl w23.heap.size w23) (.cells #[.int .i64 0, .int .i64 ((0 : Nat) : Int)] 32)).mono (by have := HBB23.out.size; omega))⟩
    · have heb : (E1 != 0) = true := by simpa using he
      have hl0 := HBAD.out he
      subst hl0
      clear he
      go_wp2_with fail
      go_ret
      exact ⟨rfl, HBB4.out.trans ((bw_a (Below.refl w4.heap.size w4) (.cells #[.int .i64 E1, .int .i64 E2] 32)).mono (by have := HBB4.out.size; omega))⟩
end Go.Proofs.Ytealjpolomhdeaa
