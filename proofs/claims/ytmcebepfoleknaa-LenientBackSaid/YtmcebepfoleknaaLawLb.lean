/- The walk of LenientBack. -/
import Derived.Test.YtmcebepfoleknaaLive11
import Derived.Test.YtmcebepfoleknaaLenBm
import Derived.Test.YtmcebepfoleknaaV3
set_option linter.unusedVariables false
namespace Go.Proofs.Ytmcebepfoleknaa
open Go.RowKit
theorem sameB_ac (a b : MV) (A B : Option Addr) (c d : Nat) : sameB { a with A := A, c := c } { b with A := B, c := d } = sameB a b := rfl
theorem dec_sl {k : Nat} {v : Int} {bs : List UInt8} {n : Nat} {A : Option Addr} {c : Nat} {w : World} (hk : k ≤ 255) (hv1 : -9223372036854775808 ≤ v) (hv2 : v ≤ 9223372036854775807) (hn : bs.length = n) (hs : Sl w A c (bs.map bv)) {R : MV} {O : List (RF × Nat)} {E : Int} {P : Nat} (hR : readR k v bs = (R, O, E, P)) :
    Calls Try.prog 13 #[.int .u8 (k : Int), .int .i64 v, .slice A n c] w fun e w' => ∃ A' c' PI, e = .returned (.tuple #[.agg #[.int .u8 (R.k : Int), .int .u64 (R.n0 : Int), .int .u64 (R.n1 : Int), .int .u64 (R.n2 : Int), .int .u64 (R.n3 : Int), .int .u64 (R.n4 : Int), .int .u64 (R.n5 : Int), .string R.s0, .string R.s1, .slice A' R.l.length c'], .agg #[.int .i64 E, .int .i64 PI]]) ∧ Sl w' A' c' (R.l.map sv) ∧ Below w.heap.size w w' := by
  refine (ldec_any k v bs n A c w hk hv1 hv2 hn hs).mono ?_
  rw [hR]
  rintro e w' ⟨A', c', rfl, ho, hb⟩
  obtain ⟨A2, c2, e2, -, hsl⟩ := Sl.of_own ho
  injection e2 with e3 e4 e5
  subst e3
  subst e5
  exact ⟨_, _, _, rfl, hsl, hb⟩
theorem zero_same {W : World} {A' : Option Addr} {c' : Nat} (h : Sl W A' c' (ZM.l.map sv)) : Calls Try.prog 24 #[.agg #[.int .u8 (ZM.k : Int), .int .u64 (ZM.n0 : Int), .int .u64 (ZM.n1 : Int), .int .u64 (ZM.n2 : Int), .int .u64 (ZM.n3 : Int), .int .u64 (ZM.n4 : Int), .int .u64 (ZM.n5 : Int), .string ZM.s0, .string ZM.s1, .slice A' ZM.l.length c'], .agg #[.int .u8 0, .int .u64 0, .int .u64 0, .int .u64 0, .int .u64 0, .int .u64 0, .int .u64 0, .string ⟨#[]⟩, .string ⟨#[]⟩, .slice none 0 0]] W fun e w' => e = .returned (.bool true) ∧ Below W.heap.size W w' := by
  have h1 := vsame_any { ZM with A := A', c := c' } ZM W h (Sl.nil_ W)
  rw [show sameB { ZM with A := A', c := c' } ZM = true from (sameB_iff _ _).2 ⟨rfl, ⟨rfl, rfl, rfl, rfl, rfl, rfl⟩, ⟨rfl, rfl⟩, rfl⟩] at h1
  exact h1
theorem good_check {W : World} {A' : Option Addr} {c' : Nat} {k : Nat} {v : Int} {R : MV} {O : List (RF × Nat)} {E : Int} {P : Nat} (hgd : (E ≠ 0 ∧ R = ZM ∧ O = []) ∨ ((E, P) = (0, 0) ∧ Good k v R ∧ (ofL (k : Int) v).length ≠ 0)) (h0 : E = 0) (hk255 : k ≤ 255) (hv1 : -9223372036854775808 ≤ v) (hv2 : v ≤ 9223372036854775807) (h : Sl W A' c' (R.l.map sv)) : Calls Try.prog 25 #[.agg #[.int .u8 (R.k : Int), .int .u64 (R.n0 : Int), .int .u64 (R.n1 : Int), .int .u64 (R.n2 : Int), .int .u64 (R.n3 : Int), .int .u64 (R.n4 : Int), .int .u64 (R.n5 : Int), .string R.s0, .string R.s1, .slice A' R.l.length c'], .int .i64 v] W fun e w' => e = .returned (.agg #[.int .i64 0, .int .i64 0]) ∧ Below W.heap.size W w' := by
  rcases hgd with ⟨g1, -, -⟩ | ⟨g1, g2, g3⟩
  · exact absurd h0 g1
  · have h1 := vcheck_any { R with A := A', c := c' } v W (good_mvok g2 hk255 h) hv1 hv2
    have h2 : chkV { R with A := A', c := c' } (ofL (R.k : Int) v) = (0, 0) := by rw [chkV_ac, g2.hk]; exact good_chk g2 g3
    refine h1.mono fun e w' he => ?_
    have h4 : FltOf W (chkV { R with A := A', c := c' } (ofL (R.k : Int) v)) e w' := he
    rw [h2] at h4
    exact h4
theorem unk_none {k : Nat} {v : Int} {bs : List UInt8} {n : Nat} {A : Option Addr} {c : Nat} {w : World} (hk : k ≤ 255) (hv1 : -9223372036854775808 ≤ v) (hv2 : v ≤ 9223372036854775807) (hn : bs.length = n) (hs : Sl w A c (bs.map bv)) {R : MV} {E : Int} {P : Nat} (hR : readR k v bs = (R, [], E, P)) :
    Calls Try.prog 16 #[.int .u8 (k : Int), .int .i64 v, .slice A n c] w fun e w' => ∃ A' c' PI, e = .returned (.tuple #[.slice A' 0 c', .agg #[.int .i64 E, .int .i64 PI]]) ∧ Below w.heap.size w w' := by
  refine (lunk_any k v bs n A c w hk hv1 hv2 hn hs).mono ?_
  rw [hR]
  rintro e w' ⟨pre, Ao, co, rfl, -, hfa, -, hb⟩
  have : pre = [] := by cases pre with
    | nil => rfl
    | cons f pre => exact hfa.elim
  subst this
  exact ⟨_, _, _, rfl, hb⟩
set_option maxRecDepth 100000 in
set_option maxHeartbeats 8000000 in
theorem lenientBack_any (M : MV) (v : Int) (bs : List UInt8) (n : Nat) (A : Option Addr) (c : Nat) (w : World) (hok : MvOk w M) (hv1 : -9223372036854775808 ≤ v) (hv2 : v ≤ 9223372036854775807) (hn : bs.length = n) (hs : Sl w A c (bs.map bv)) :
    Calls Try.prog 5 #[mvV M, .int .i64 v, .slice A n c] w fun e w' => e = .returned (.bool true) ∧ Below w.heap.size w w' := by
  have hlv := fun W => live11_any W
  have hsm := fun W (hW : Below w.heap.size w W) => small9_any M W (hok.l.below hW)
  have hebx := fun (hb : smallB M = true) W (hW : Below w.heap.size w W) => (ebytes_any M v W (hok.below hW) (small_sm hb) hv1 hv2).mono (fun e w' h => bytesR_sl h)
  have hbk := fun (hb : smallB M = true) (he : (chkV M (ofL (M.k : Int) v)).1 = 0) => read_back v hok.n (small_sm hb) he
  have hgd := read_good M.k v bs
  have hk255 := hok.k
  have hml := fun W (hW : Below w.heap.size w W) => hok.l.below hW
  obtain ⟨R, O, E, P, hR⟩ : ∃ R O E P, readR M.k v bs = (R, O, E, P) := ⟨_, _, _, _, rfl⟩
  rw [hR] at hgd
  simp only at hgd
  have hd2 := fun W A' c' (hW : Sl W A' c' (bs.map bv)) => dec_sl hk255 hv1 hv2 hn hW hR
  obtain ⟨eb, heb⟩ : ∃ eb, encB M (ofL (M.k : Int) v) = eb := ⟨_, rfl⟩
  obtain ⟨E1, hE1⟩ : ∃ E1, (chkV M (ofL (M.k : Int) v)).1 = E1 := ⟨_, rfl⟩
  obtain ⟨E2, hE2⟩ : ∃ E2, (chkV M (ofL (M.k : Int) v)).2 = E2 := ⟨_, rfl⟩
  rw [heb, hE1, hE2] at hebx
  rw [heb, hE1] at hbk
  obtain ⟨el, hel⟩ : ∃ n, eb.length = n := ⟨_, rfl⟩
  rw [hel] at hebx
  generalize smallB M = sb at *
  have hmv : mvV M = .agg #[.int .u8 (M.k : Int), .int .u64 (M.n0 : Int), .int .u64 (M.n1 : Int), .int .u64 (M.n2 : Int), .int .u64 (M.n3 : Int), .int .u64 (M.n4 : Int), .int .u64 (M.n5 : Int), .string M.s0, .string M.s1, .slice M.A M.l.length M.c] := rfl
  rw [hmv] at hebx hsm ⊢
  have hsame := fun W (R2 : MV) A' c' (h1 : Sl W A' c' (R2.l.map sv)) (h2 : Sl W M.A M.c (M.l.map sv)) => vsame_any { R2 with A := A', c := c' } M W h1 h2
  have hsame2 : ∀ W (R2 : MV) A' c', Sl W A' c' (R2.l.map sv) → Sl W M.A M.c (M.l.map sv) → Calls Try.prog 24 #[.agg #[.int .u8 (R2.k : Int), .int .u64 (R2.n0 : Int), .int .u64 (R2.n1 : Int), .int .u64 (R2.n2 : Int), .int .u64 (R2.n3 : Int), .int .u64 (R2.n4 : Int), .int .u64 (R2.n5 : Int), .string R2.s0, .string R2.s1, .slice A' R2.l.length c'], .agg #[.int .u8 (M.k : Int), .int .u64 (M.n0 : Int), .int .u64 (M.n1 : Int), .int .u64 (M.n2 : Int), .int .u64 (M.n3 : Int), .int .u64 (M.n4 : Int), .int .u64 (M.n5 : Int), .string M.s0, .string M.s1, .slice M.A M.l.length M.c]] W fun e w' => e = .returned (.bool (sameB R2 M)) ∧ Below W.heap.size W w' := hsame
  clear hsame hmv
  obtain ⟨len, hlen⟩ : ∃ n, M.l.length = n := ⟨_, rfl⟩
  rw [hlen] at hebx hsm hsame2 ⊢
  obtain ⟨s, hws⟩ : ∃ s, w.heap.size = s := ⟨_, rfl⟩
  rw [hws] at hsm hebx hml ⊢
  have hsb := hs
  have hsl : ∀ W, Below s w W → Sl W A c (bs.map bv) := fun W hW => hs.below (by rw [hws]; exact hW)
  have hzero := fun W A' c' h => zero_same (W := W) (A' := A') (c' := c') h
  have hchk := fun (h0 : E = 0) W A' c' h => good_check (W := W) (A' := A') (c' := c') hgd h0 hk255 hv1 hv2 h
  have HZE := hid hzero
  have HCK := hid hchk
  clear hzero hchk
  have hz := hws
  have HLV := hid hlv
  have HSM := hid hsm
  have HEB := hid hebx
  have HBK := hid hbk
  have HGD := hid hgd
  have HML := hid hml
  have HD2 := hid hd2
  have HSA := hid hsame2
  have HSL := hid hsl
  have HEL := hid hel
  have HRE := hid hR
  clear hlv hsm hebx hbk hgd hml hd2 hsame2 hsl hs hsb hel hlen hE1 hE2 heb hok hn hR
  go_enter Try.func5, Try.ntmps5
  go_wp2_with fail
  have hkm : Blk (w.alloc (.cells #[.int .u8 (M.k : Int), .int .u64 (M.n0 : Int), .int .u64 (M.n1 : Int), .int .u64 (M.n2 : Int), .int .u64 (M.n3 : Int), .int .u64 (M.n4 : Int), .int .u64 (M.n5 : Int), .string M.s0, .string M.s1, .slice M.A len M.c] 29)) (s) 29 #[.int .u8 (M.k : Int), .int .u64 (M.n0 : Int), .int .u64 (M.n1 : Int), .int .u64 (M.n2 : Int), .int .u64 (M.n3 : Int), .int .u64 (M.n4 : Int), .int .u64 (M.n5 : Int), .string M.s0, .string M.s1, .slice M.A len M.c] := by
    have h := (Blk.new w 29 #[.int .u8 (M.k : Int), .int .u64 (M.n0 : Int), .int .u64 (M.n1 : Int), .int .u64 (M.n2 : Int), .int .u64 (M.n3 : Int), .int .u64 (M.n4 : Int), .int .u64 (M.n5 : Int), .string M.s0, .string M.s1, .slice M.A len M.c])
    rw [hz] at h; exact h
  have hb0 : Below s w (w.alloc (.cells #[.int .u8 (M.k : Int), .int .u64 (M.n0 : Int), .int .u64 (M.n1 : Int), .int .u64 (M.n2 : Int), .int .u64 (M.n3 : Int), .int .u64 (M.n4 : Int), .int .u64 (M.n5 : Int), .string M.s0, .string M.s1, .slice M.A len M.c] 29)) := by
    have h := (bw_a (Below.refl w.heap.size w) (.cells #[.int .u8 (M.k : Int), .int .u64 (M.n0 : Int), .int .u64 (M.n1 : Int), .int .u64 (M.n2 : Int), .int .u64 (M.n3 : Int), .int .u64 (M.n4 : Int), .int .u64 (M.n5 : Int), .string M.s0, .string M.s1, .slice M.A len M.c] 29))
    rw [hz] at h; exact h
  have hsz : ((w.alloc (.cells #[.int .u8 (M.k : Int), .int .u64 (M.n0 : Int), .int .u64 (M.n1 : Int), .int .u64 (M.n2 : Int), .int .u64 (M.n3 : Int), .int .u64 (M.n4 : Int), .int .u64 (M.n5 : Int), .string M.s0, .string M.s1, .slice M.A len M.c] 29))).heap.size = s + 1 := by simp [hz]
  generalize hW1 : (w.alloc (.cells #[.int .u8 (M.k : Int), .int .u64 (M.n0 : Int), .int .u64 (M.n1 : Int), .int .u64 (M.n2 : Int), .int .u64 (M.n3 : Int), .int .u64 (M.n4 : Int), .int .u64 (M.n5 : Int), .string M.s0, .string M.s1, .slice M.A len M.c] 29)) = W1 at *
  have HKM := hid hkm
  have HBB1 := hid hb0
  have HSZ1 := hid hsz
  clear hb0 hsz hz hW1 hkm
  refine (HLV.out W1).mono ?_
  rintro e w2 ⟨rfl, hb⟩
  have hkm := HKM.out.below hb HKM.out.lt
  have hb0 : Below s w w2 := HBB1.out.trans (hb.mono (by have := HBB1.out.size; omega))
  have HKM := hid hkm
  have HBB2 := hid hb0
  clear hb0 hb hkm
  have zhkm0 := HKM.out.cell 0
  have zhkm1 := HKM.out.cell 1
  have zhkm2 := HKM.out.cell 2
  have zhkm3 := HKM.out.cell 3
  have zhkm4 := HKM.out.cell 4
  have zhkm5 := HKM.out.cell 5
  have zhkm6 := HKM.out.cell 6
  have zhkm7 := HKM.out.cell 7
  have zhkm8 := HKM.out.cell 8
  have zhkm9 := HKM.out.cell 9
  have lhkm := HKM.out.lt
  simp only [List.getElem?_toArray, List.getElem?_cons_zero, List.getElem?_cons_succ] at zhkm0 zhkm1 zhkm2 zhkm3 zhkm4 zhkm5 zhkm6 zhkm7 zhkm8 zhkm9
  go_wp2_with fail
  refine (HSM.out _ HBB2.out).mono ?_
  rintro e w3 ⟨rfl, hb⟩
  clear lhkm zhkm0 zhkm1 zhkm2 zhkm3 zhkm4 zhkm5 zhkm6 zhkm7 zhkm8 zhkm9
  have hkm := HKM.out.below hb HKM.out.lt
  have hb0 : Below s w w3 := HBB2.out.trans (hb.mono (by have := HBB2.out.size; omega))
  have HKM := hid hkm
  have HBB3 := hid hb0
  clear hb0 hb hkm
  cases sb with
  | false =>
    go_wp2_with fail
    go_ret
    exact ⟨rfl, HBB3.out⟩
  | true =>
    have hx1 := HEB.out rfl
    have hx2 := HBK.out rfl
    have HEB1 := hid hx1
    have HBK1 := hid hx2
    clear hx1 hx2 HEB HBK
    by_cases hn1 : 10000 < n
    · have hn2 : (10000 : Int) < (n : Int) := by omega
      go_wp2_with fail
      go_ret
      exact ⟨rfl, HBB3.out⟩
    · have hn2 : ¬ (10000 : Int) < (n : Int) := by omega
      have hn3 : decide ((10000 : Int) < (n : Int)) = false := by simpa using hn2
      have zhkm0 := HKM.out.cell 0
      have zhkm1 := HKM.out.cell 1
      have zhkm2 := HKM.out.cell 2
      have zhkm3 := HKM.out.cell 3
      have zhkm4 := HKM.out.cell 4
      have zhkm5 := HKM.out.cell 5
      have zhkm6 := HKM.out.cell 6
      have zhkm7 := HKM.out.cell 7
      have zhkm8 := HKM.out.cell 8
      have zhkm9 := HKM.out.cell 9
      have lhkm := HKM.out.lt
      simp only [List.getElem?_toArray, List.getElem?_cons_zero, List.getElem?_cons_succ] at zhkm0 zhkm1 zhkm2 zhkm3 zhkm4 zhkm5 zhkm6 zhkm7 zhkm8 zhkm9
      go_wp2_with fail
      refine (HEB1.out _ HBB3.out).mono ?_
      rintro e w4 ⟨A1, c1, rfl, hse, -, hb⟩
      clear lhkm zhkm0 zhkm1 zhkm2 zhkm3 zhkm4 zhkm5 zhkm6 zhkm7 zhkm8 zhkm9
      have hkm := HKM.out.below hb HKM.out.lt
      have hb0 : Below s w w4 := HBB3.out.trans (hb.mono (by have := HBB3.out.size; omega))
      have HKM := hid hkm
      have HSE := hid hse
      have HBB4 := hid hb0
      clear hb0 hb hkm hse
      by_cases he : E1 = 0
      · obtain ⟨M2, hr2, hs2⟩ := HBK1.out he
        have HR2 := hid hr2
        have HS2 := hid hs2
        clear hr2 hs2
        subst he
        have zhkm0 := HKM.out.cell 0
        have lhkm := HKM.out.lt
        simp only [List.getElem?_toArray, List.getElem?_cons_zero] at zhkm0
        obtain ⟨p3, hz⟩ : ∃ p, w4.heap.size = p := ⟨_, rfl⟩
        rw [hz] at lhkm
        go_wp2_with fail
        have hkf : Blk (w4.alloc (.cells #[.int .i64 0, .int .i64 E2] 32)) (p3) 32 #[.int .i64 0, .int .i64 E2] := by
          have h := (Blk.new w4 32 #[.int .i64 0, .int .i64 E2])
          rw [hz] at h; exact h
        have hkm := (HKM.out.alloc (.cells #[.int .i64 0, .int .i64 E2] 32))
        have hse := HSE.out.below (bw_a (Below.refl w4.heap.size w4) (.cells #[.int .i64 0, .int .i64 E2] 32))
        have hb0 : Below s w (w4.alloc (.cells #[.int .i64 0, .int .i64 E2] 32)) := HBB4.out.trans ((bw_a (Below.refl w4.heap.size w4) (.cells #[.int .i64 0, .int .i64 E2] 32)).mono (by have := HBB4.out.size; omega))
        have hsz : ((w4.alloc (.cells #[.int .i64 0, .int .i64 E2] 32))).heap.size = p3 + 1 := by simp [hz]
        generalize hW5 : (w4.alloc (.cells #[.int .i64 0, .int .i64 E2] 32)) = W5 at *
        have HKM := hid hkm
        have HKF := hid hkf
        have HSE := hid hse
        have HBB5 := hid hb0
        have HSZ5 := hid hsz
        clear hb0 hsz hz hW5 hkm hkf hse
        refine (dec_sl hk255 hv1 hv2 HEL.out HSE.out HR2.out).mono ?_
        rintro e w6 ⟨A4, c4, P4, rfl, hs4, hb⟩
        clear lhkm zhkm0
        have hkm := HKM.out.below hb HKM.out.lt
        have hkf := HKF.out.below hb HKF.out.lt
        have hse := HSE.out.below hb
        have hb0 : Below s w w6 := HBB5.out.trans (hb.mono (by have := HBB5.out.size; omega))
        have HKM := hid hkm
        have HKF := hid hkf
        have HSE := hid hse
        have HS4 := hid hs4
        have HBB6 := hid hb0
        clear hb0 hb hkm hkf hse hs4
        have zhkm0 := HKM.out.cell 0
        have lhkm := HKM.out.lt
        simp only [List.getElem?_toArray, List.getElem?_cons_zero] at zhkm0
        obtain ⟨p4, hz⟩ : ∃ p, w6.heap.size = p := ⟨_, rfl⟩
        rw [hz] at lhkm
        go_wp2_with fail
        have hk4 : Blk ((w6.alloc (.cells #[.int .u8 (M2.k : Int), .int .u64 (M2.n0 : Int), .int .u64 (M2.n1 : Int), .int .u64 (M2.n2 : Int), .int .u64 (M2.n3 : Int), .int .u64 (M2.n4 : Int), .int .u64 (M2.n5 : Int), .string M2.s0, .string M2.s1, .slice A4 M2.l.length c4] 29)).alloc (.cells #[.int .i64 0, .int .i64 P4] 32)) (p4) 29 #[.int .u8 (M2.k : Int), .int .u64 (M2.n0 : Int), .int .u64 (M2.n1 : Int), .int .u64 (M2.n2 : Int), .int .u64 (M2.n3 : Int), .int .u64 (M2.n4 : Int), .int .u64 (M2.n5 : Int), .string M2.s0, .string M2.s1, .slice A4 M2.l.length c4] := by
          have h := ((Blk.new w6 29 #[.int .u8 (M2.k : Int), .int .u64 (M2.n0 : Int), .int .u64 (M2.n1 : Int), .int .u64 (M2.n2 : Int), .int .u64 (M2.n3 : Int), .int .u64 (M2.n4 : Int), .int .u64 (M2.n5 : Int), .string M2.s0, .string M2.s1, .slice A4 M2.l.length c4]).alloc (.cells #[.int .i64 0, .int .i64 P4] 32))
          rw [hz] at h; exact h
        have hkf4 : Blk ((w6.alloc (.cells #[.int .u8 (M2.k : Int), .int .u64 (M2.n0 : Int), .int .u64 (M2.n1 : Int), .int .u64 (M2.n2 : Int), .int .u64 (M2.n3 : Int), .int .u64 (M2.n4 : Int), .int .u64 (M2.n5 : Int), .string M2.s0, .string M2.s1, .slice A4 M2.l.length c4] 29)).alloc (.cells #[.int .i64 0, .int .i64 P4] 32)) (p4 + 1) 32 #[.int .i64 0, .int .i64 P4] := by
          have h := (Blk.new (w6.alloc (.cells #[.int .u8 (M2.k : Int), .int .u64 (M2.n0 : Int), .int .u64 (M2.n1 : Int), .int .u64 (M2.n2 : Int), .int .u64 (M2.n3 : Int), .int .u64 (M2.n4 : Int), .int .u64 (M2.n5 : Int), .string M2.s0, .string M2.s1, .slice A4 M2.l.length c4] 29)) 32 #[.int .i64 0, .int .i64 P4])
          rw [World.size_alloc, hz] at h; exact h
        have hkm := ((HKM.out.alloc (.cells #[.int .u8 (M2.k : Int), .int .u64 (M2.n0 : Int), .int .u64 (M2.n1 : Int), .int .u64 (M2.n2 : Int), .int .u64 (M2.n3 : Int), .int .u64 (M2.n4 : Int), .int .u64 (M2.n5 : Int), .string M2.s0, .string M2.s1, .slice A4 M2.l.length c4] 29)).alloc (.cells #[.int .i64 0, .int .i64 P4] 32))
        have hkf := ((HKF.out.alloc (.cells #[.int .u8 (M2.k : Int), .int .u64 (M2.n0 : Int), .int .u64 (M2.n1 : Int), .int .u64 (M2.n2 : Int), .int .u64 (M2.n3 : Int), .int .u64 (M2.n4 : Int), .int .u64 (M2.n5 : Int), .string M2.s0, .string M2.s1, .slice A4 M2.l.length c4] 29)).alloc (.cells #[.int .i64 0, .int .i64 P4] 32))
        have hse := HSE.out.below (bw_a (bw_a (Below.refl w6.heap.size w6) (.cells #[.int .u8 (M2.k : Int), .int .u64 (M2.n0 : Int), .int .u64 (M2.n1 : Int), .int .u64 (M2.n2 : Int), .int .u64 (M2.n3 : Int), .int .u64 (M2.n4 : Int), .int .u64 (M2.n5 : Int), .string M2.s0, .string M2.s1, .slice A4 M2.l.length c4] 29)) (.cells #[.int .i64 0, .int .i64 P4] 32))
        have hs4 := HS4.out.below (bw_a (bw_a (Below.refl w6.heap.size w6) (.cells #[.int .u8 (M2.k : Int), .int .u64 (M2.n0 : Int), .int .u64 (M2.n1 : Int), .int .u64 (M2.n2 : Int), .int .u64 (M2.n3 : Int), .int .u64 (M2.n4 : Int), .int .u64 (M2.n5 : Int), .string M2.s0, .string M2.s1, .slice A4 M2.l.length c4] 29)) (.cells #[.int .i64 0, .int .i64 P4] 32))
        have hb0 : Below s w ((w6.alloc (.cells #[.int .u8 (M2.k : Int), .int .u64 (M2.n0 : Int), .int .u64 (M2.n1 : Int), .int .u64 (M2.n2 : Int), .int .u64 (M2.n3 : Int), .int .u64 (M2.n4 : Int), .int .u64 (M2.n5 : Int), .string M2.s0, .string M2.s1, .slice A4 M2.l.length c4] 29)).alloc (.cells #[.int .i64 0, .int .i64 P4] 32)) := HBB6.out.trans ((bw_a (bw_a (Below.refl w6.heap.size w6) (.cells #[.int .u8 (M2.k : Int), .int .u64 (M2.n0 : Int), .int .u64 (M2.n1 : Int), .int .u64 (M2.n2 : Int), .int .u64 (M2.n3 : Int), .int .u64 (M2.n4 : Int), .int .u64 (M2.n5 : Int), .string M2.s0, .string M2.s1, .slice A4 M2.l.length c4] 29)) (.cells #[.int .i64 0, .int .i64 P4] 32)).mono (by have := HBB6.out.size; omega))
        have hsz : (((w6.alloc (.cells #[.int .u8 (M2.k : Int), .int .u64 (M2.n0 : Int), .int .u64 (M2.n1 : Int), .int .u64 (M2.n2 : Int), .int .u64 (M2.n3 : Int), .int .u64 (M2.n4 : Int), .int .u64 (M2.n5 : Int), .string M2.s0, .string M2.s1, .slice A4 M2.l.length c4] 29)).alloc (.cells #[.int .i64 0, .int .i64 P4] 32))).heap.size = p4 + 1 + 1 := by simp [hz]
        generalize hW7 : ((w6.alloc (.cells #[.int .u8 (M2.k : Int), .int .u64 (M2.n0 : Int), .int .u64 (M2.n1 : Int), .int .u64 (M2.n2 : Int), .int .u64 (M2.n3 : Int), .int .u64 (M2.n4 : Int), .int .u64 (M2.n5 : Int), .string M2.s0, .string M2.s1, .slice A4 M2.l.length c4] 29)).alloc (.cells #[.int .i64 0, .int .i64 P4] 32)) = W7 at *
        have HKM := hid hkm
        have HKF := hid hkf
        have HK4 := hid hk4
        have HKF4 := hid hkf4
        have HSE := hid hse
        have HS4 := hid hs4
        have HBB7 := hid hb0
        have HSZ7 := hid hsz
        clear hb0 hsz hz hW7 hkm hkf hk4 hkf4 hse hs4
        refine (unk_none hk255 hv1 hv2 HEL.out HSE.out HR2.out).mono ?_
        rintro e w8 ⟨A5, c5, P5, rfl, hb⟩
        clear lhkm zhkm0
        have hkm := HKM.out.below hb HKM.out.lt
        have hkf := HKF.out.below hb HKF.out.lt
        have hk4 := HK4.out.below hb HK4.out.lt
        have hkf4 := HKF4.out.below hb HKF4.out.lt
        have hse := HSE.out.below hb
        have hs4 := HS4.out.below hb
        have hb0 : Below s w w8 := HBB7.out.trans (hb.mono (by have := HBB7.out.size; omega))
        have HKM := hid hkm
        have HKF := hid hkf
        have HK4 := hid hk4
        have HKF4 := hid hkf4
        have HSE := hid hse
        have HS4 := hid hs4
        have HBB8 := hid hb0
        clear hb0 hb hkm hkf hk4 hkf4 hse hs4
        have zhkm0 := HKM.out.cell 0
        have zhkm1 := HKM.out.cell 1
        have zhkm2 := HKM.out.cell 2
        have zhkm3 := HKM.out.cell 3
        have zhkm4 := HKM.out.cell 4
        have zhkm5 := HKM.out.cell 5
        have zhkm6 := HKM.out.cell 6
        have zhkm7 := HKM.out.cell 7
        have zhkm8 := HKM.out.cell 8
        have zhkm9 := HKM.out.cell 9
        have lhkm := HKM.out.lt
        have zhk40 := HK4.out.cell 0
        have zhk41 := HK4.out.cell 1
        have zhk42 := HK4.out.cell 2
        have zhk43 := HK4.out.cell 3
        have zhk44 := HK4.out.cell 4
        have zhk45 := HK4.out.cell 5
        have zhk46 := HK4.out.cell 6
        have zhk47 := HK4.out.cell 7
        have zhk48 := HK4.out.cell 8
        have zhk49 := HK4.out.cell 9
        have lhk4 := HK4.out.lt
        have zhkf40 := HKF4.out.cell 0
        have lhkf4 := HKF4.out.lt
        simp only [List.getElem?_toArray, List.getElem?_cons_zero, List.getElem?_cons_succ] at zhkm0 zhkm1 zhkm2 zhkm3 zhkm4 zhkm5 zhkm6 zhkm7 zhkm8 zhkm9 zhk40 zhk41 zhk42 zhk43 zhk44 zhk45 zhk46 zhk47 zhk48 zhk49 zhkf40
        obtain ⟨p5, hz⟩ : ∃ p, w8.heap.size = p := ⟨_, rfl⟩
        rw [hz] at lhkm
        rw [hz] at lhk4
        rw [hz] at lhkf4
        go_wp2_with fail
        have hkf5 : Blk (w8.alloc (.cells #[.int .i64 0, .int .i64 P5] 32)) (p5) 32 #[.int .i64 0, .int .i64 P5] := by
          have h := (Blk.new w8 32 #[.int .i64 0, .int .i64 P5])
          rw [hz] at h; exact h
        have hkm := (HKM.out.alloc (.cells #[.int .i64 0, .int .i64 P5] 32))
        have hkf := (HKF.out.alloc (.cells #[.int .i64 0, .int .i64 P5] 32))
        have hk4 := (HK4.out.alloc (.cells #[.int .i64 0, .int .i64 P5] 32))
        have hkf4 := (HKF4.out.alloc (.cells #[.int .i64 0, .int .i64 P5] 32))
        have hse := HSE.out.below (bw_a (Below.refl w8.heap.size w8) (.cells #[.int .i64 0, .int .i64 P5] 32))
        have hs4 := HS4.out.below (bw_a (Below.refl w8.heap.size w8) (.cells #[.int .i64 0, .int .i64 P5] 32))
        have hb0 : Below s w (w8.alloc (.cells #[.int .i64 0, .int .i64 P5] 32)) := HBB8.out.trans ((bw_a (Below.refl w8.heap.size w8) (.cells #[.int .i64 0, .int .i64 P5] 32)).mono (by have := HBB8.out.size; omega))
        have hsz : ((w8.alloc (.cells #[.int .i64 0, .int .i64 P5] 32))).heap.size = p5 + 1 := by simp [hz]
        generalize hW9 : (w8.alloc (.cells #[.int .i64 0, .int .i64 P5] 32)) = W9 at *
        have HKM := hid hkm
        have HKF := hid hkf
        have HK4 := hid hk4
        have HKF4 := hid hkf4
        have HKF5 := hid hkf5
        have HSE := hid hse
        have HS4 := hid hs4
        have HBB9 := hid hb0
        have HSZ9 := hid hsz
        clear hb0 hsz hz hW9 hkm hkf hk4 hkf4 hkf5 hse hs4
        have hsx := HSA.out _ M2 A4 c4 HS4.out (HML.out _ HBB9.out)
        rw [HS2.out] at hsx
        have HSX := hid hsx
        clear hsx
        refine (HSX.out).mono ?_
        rintro e w10 ⟨rfl, hb⟩
        clear lhkm lhk4 lhkf4 zhkm0 zhkm1 zhkm2 zhkm3 zhkm4 zhkm5 zhkm6 zhkm7 zhkm8 zhkm9 zhk40 zhk41 zhk42 zhk43 zhk44 zhk45 zhk46 zhk47 zhk48 zhk49 zhkf40
        have hkm := HKM.out.below hb HKM.out.lt
        have hkf := HKF.out.below hb HKF.out.lt
        have hk4 := HK4.out.below hb HK4.out.lt
        have hkf4 := HKF4.out.below hb HKF4.out.lt
        have hkf5 := HKF5.out.below hb HKF5.out.lt
        have hse := HSE.out.below hb
        have hs4 := HS4.out.below hb
        have hb0 : Below s w w10 := HBB9.out.trans (hb.mono (by have := HBB9.out.size; omega))
        have HKM := hid hkm
        have HKF := hid hkf
        have HK4 := hid hk4
        have HKF4 := hid hkf4
        have HKF5 := hid hkf5
        have HSE := hid hse
        have HS4 := hid hs4
        have HBB10 := hid hb0
        clear hb0 hb hkm hkf hk4 hkf4 hkf5 hse hs4
        have zhkm0 := HKM.out.cell 0
        have lhkm := HKM.out.lt
        simp only [List.getElem?_toArray, List.getElem?_cons_zero] at zhkm0
        obtain ⟨p8, hz⟩ : ∃ p, w10.heap.size = p := ⟨_, rfl⟩
        rw [hz] at lhkm
        go_wp2_with fail
        clear hz
        refine (HD2.out _ _ _ (HSL.out _ HBB10.out)).mono ?_
        rintro e w11 ⟨A9, c9, PI, rfl, hs9, hb⟩
        clear lhkm zhkm0
        have hkm := HKM.out.below hb HKM.out.lt
        have hkf := HKF.out.below hb HKF.out.lt
        have hk4 := HK4.out.below hb HK4.out.lt
        have hkf4 := HKF4.out.below hb HKF4.out.lt
        have hkf5 := HKF5.out.below hb HKF5.out.lt
        have hse := HSE.out.below hb
        have hs4 := HS4.out.below hb
        have hb0 : Below s w w11 := HBB10.out.trans (hb.mono (by have := HBB10.out.size; omega))
        have HKM := hid hkm
        have HKF := hid hkf
        have HK4 := hid hk4
        have HKF4 := hid hkf4
        have HKF5 := hid hkf5
        have HSE := hid hse
        have HS4 := hid hs4
        have HS9 := hid hs9
        have HBB11 := hid hb0
        clear hb0 hb hkm hkf hk4 hkf4 hkf5 hse hs4 hs9
        obtain ⟨p9, hz⟩ : ∃ p, w11.heap.size = p := ⟨_, rfl⟩
        rcases HGD.out with ⟨g1, g2, -⟩ | ⟨g1, -, -⟩
        · have gb : (E != 0) = true := by simpa using g1
          have G1 := hid g1
          clear g1
          subst g2
          go_wp2_with fail
          have hk9 : Blk ((w11.alloc (.cells #[.int .u8 (ZM.k : Int), .int .u64 (ZM.n0 : Int), .int .u64 (ZM.n1 : Int), .int .u64 (ZM.n2 : Int), .int .u64 (ZM.n3 : Int), .int .u64 (ZM.n4 : Int), .int .u64 (ZM.n5 : Int), .string ZM.s0, .string ZM.s1, .slice A9 ZM.l.length c9] 29)).alloc (.cells #[.int .i64 E, .int .i64 PI] 32)) (p9) 29 #[.int .u8 (ZM.k : Int), .int .u64 (ZM.n0 : Int), .int .u64 (ZM.n1 : Int), .int .u64 (ZM.n2 : Int), .int .u64 (ZM.n3 : Int), .int .u64 (ZM.n4 : Int), .int .u64 (ZM.n5 : Int), .string ZM.s0, .string ZM.s1, .slice A9 ZM.l.length c9] := by
            have h := ((Blk.new w11 29 #[.int .u8 (ZM.k : Int), .int .u64 (ZM.n0 : Int), .int .u64 (ZM.n1 : Int), .int .u64 (ZM.n2 : Int), .int .u64 (ZM.n3 : Int), .int .u64 (ZM.n4 : Int), .int .u64 (ZM.n5 : Int), .string ZM.s0, .string ZM.s1, .slice A9 ZM.l.length c9]).alloc (.cells #[.int .i64 E, .int .i64 PI] 32))
            rw [hz] at h; exact h
          have hk8 : Blk ((w11.alloc (.cells #[.int .u8 (ZM.k : Int), .int .u64 (ZM.n0 : Int), .int .u64 (ZM.n1 : Int), .int .u64 (ZM.n2 : Int), .int .u64 (ZM.n3 : Int), .int .u64 (ZM.n4 : Int), .int .u64 (ZM.n5 : Int), .string ZM.s0, .string ZM.s1, .slice A9 ZM.l.length c9] 29)).alloc (.cells #[.int .i64 E, .int .i64 PI] 32)) (p9 + 1) 32 #[.int .i64 E, .int .i64 PI] := by
            have h := (Blk.new (w11.alloc (.cells #[.int .u8 (ZM.k : Int), .int .u64 (ZM.n0 : Int), .int .u64 (ZM.n1 : Int), .int .u64 (ZM.n2 : Int), .int .u64 (ZM.n3 : Int), .int .u64 (ZM.n4 : Int), .int .u64 (ZM.n5 : Int), .string ZM.s0, .string ZM.s1, .slice A9 ZM.l.length c9] 29)) 32 #[.int .i64 E, .int .i64 PI])
            rw [World.size_alloc, hz] at h; exact h
          have hkm := ((HKM.out.alloc (.cells #[.int .u8 (ZM.k : Int), .int .u64 (ZM.n0 : Int), .int .u64 (ZM.n1 : Int), .int .u64 (ZM.n2 : Int), .int .u64 (ZM.n3 : Int), .int .u64 (ZM.n4 : Int), .int .u64 (ZM.n5 : Int), .string ZM.s0, .string ZM.s1, .slice A9 ZM.l.length c9] 29)).alloc (.cells #[.int .i64 E, .int .i64 PI] 32))
          have hkf := ((HKF.out.alloc (.cells #[.int .u8 (ZM.k : Int), .int .u64 (ZM.n0 : Int), .int .u64 (ZM.n1 : Int), .int .u64 (ZM.n2 : Int), .int .u64 (ZM.n3 : Int), .int .u64 (ZM.n4 : Int), .int .u64 (ZM.n5 : Int), .string ZM.s0, .string ZM.s1, .slice A9 ZM.l.length c9] 29)).alloc (.cells #[.int .i64 E, .int .i64 PI] 32))
          have hk4 := ((HK4.out.alloc (.cells #[.int .u8 (ZM.k : Int), .int .u64 (ZM.n0 : Int), .int .u64 (ZM.n1 : Int), .int .u64 (ZM.n2 : Int), .int .u64 (ZM.n3 : Int), .int .u64 (ZM.n4 : Int), .int .u64 (ZM.n5 : Int), .string ZM.s0, .string ZM.s1, .slice A9 ZM.l.length c9] 29)).alloc (.cells #[.int .i64 E, .int .i64 PI] 32))
          have hkf4 := ((HKF4.out.alloc (.cells #[.int .u8 (ZM.k : Int), .int .u64 (ZM.n0 : Int), .int .u64 (ZM.n1 : Int), .int .u64 (ZM.n2 : Int), .int .u64 (ZM.n3 : Int), .int .u64 (ZM.n4 : Int), .int .u64 (ZM.n5 : Int), .string ZM.s0, .string ZM.s1, .slice A9 ZM.l.length c9] 29)).alloc (.cells #[.int .i64 E, .int .i64 PI] 32))
          have hkf5 := ((HKF5.out.alloc (.cells #[.int .u8 (ZM.k : Int), .int .u64 (ZM.n0 : Int), .int .u64 (ZM.n1 : Int), .int .u64 (ZM.n2 : Int), .int .u64 (ZM.n3 : Int), .int .u64 (ZM.n4 : Int), .int .u64 (ZM.n5 : Int), .string ZM.s0, .string ZM.s1, .slice A9 ZM.l.length c9] 29)).alloc (.cells #[.int .i64 E, .int .i64 PI] 32))
          have hse := HSE.out.below (bw_a (bw_a (Below.refl w11.heap.size w11) (.cells #[.int .u8 (ZM.k : Int), .int .u64 (ZM.n0 : Int), .int .u64 (ZM.n1 : Int), .int .u64 (ZM.n2 : Int), .int .u64 (ZM.n3 : Int), .int .u64 (ZM.n4 : Int), .int .u64 (ZM.n5 : Int), .string ZM.s0, .string ZM.s1, .slice A9 ZM.l.length c9] 29)) (.cells #[.int .i64 E, .int .i64 PI] 32))
          have hs4 := HS4.out.below (bw_a (bw_a (Below.refl w11.heap.size w11) (.cells #[.int .u8 (ZM.k : Int), .int .u64 (ZM.n0 : Int), .int .u64 (ZM.n1 : Int), .int .u64 (ZM.n2 : Int), .int .u64 (ZM.n3 : Int), .int .u64 (ZM.n4 : Int), .int .u64 (ZM.n5 : Int), .string ZM.s0, .string ZM.s1, .slice A9 ZM.l.length c9] 29)) (.cells #[.int .i64 E, .int .i64 PI] 32))
          have hs9 := HS9.out.below (bw_a (bw_a (Below.refl w11.heap.size w11) (.cells #[.int .u8 (ZM.k : Int), .int .u64 (ZM.n0 : Int), .int .u64 (ZM.n1 : Int), .int .u64 (ZM.n2 : Int), .int .u64 (ZM.n3 : Int), .int .u64 (ZM.n4 : Int), .int .u64 (ZM.n5 : Int), .string ZM.s0, .string ZM.s1, .slice A9 ZM.l.length c9] 29)) (.cells #[.int .i64 E, .int .i64 PI] 32))
          have hb0 : Below s w ((w11.alloc (.cells #[.int .u8 (ZM.k : Int), .int .u64 (ZM.n0 : Int), .int .u64 (ZM.n1 : Int), .int .u64 (ZM.n2 : Int), .int .u64 (ZM.n3 : Int), .int .u64 (ZM.n4 : Int), .int .u64 (ZM.n5 : Int), .string ZM.s0, .string ZM.s1, .slice A9 ZM.l.length c9] 29)).alloc (.cells #[.int .i64 E, .int .i64 PI] 32)) := HBB11.out.trans ((bw_a (bw_a (Below.refl w11.heap.size w11) (.cells #[.int .u8 (ZM.k : Int), .int .u64 (ZM.n0 : Int), .int .u64 (ZM.n1 : Int), .int .u64 (ZM.n2 : Int), .int .u64 (ZM.n3 : Int), .int .u64 (ZM.n4 : Int), .int .u64 (ZM.n5 : Int), .string ZM.s0, .string ZM.s1, .slice A9 ZM.l.length c9] 29)) (.cells #[.int .i64 E, .int .i64 PI] 32)).mono (by have := HBB11.out.size; omega))
          have hsz : (((w11.alloc (.cells #[.int .u8 (ZM.k : Int), .int .u64 (ZM.n0 : Int), .int .u64 (ZM.n1 : Int), .int .u64 (ZM.n2 : Int), .int .u64 (ZM.n3 : Int), .int .u64 (ZM.n4 : Int), .int .u64 (ZM.n5 : Int), .string ZM.s0, .string ZM.s1, .slice A9 ZM.l.length c9] 29)).alloc (.cells #[.int .i64 E, .int .i64 PI] 32))).heap.size = p9 + 1 + 1 := by simp [hz]
          generalize hW12 : ((w11.alloc (.cells #[.int .u8 (ZM.k : Int), .int .u64 (ZM.n0 : Int), .int .u64 (ZM.n1 : Int), .int .u64 (ZM.n2 : Int), .int .u64 (ZM.n3 : Int), .int .u64 (ZM.n4 : Int), .int .u64 (ZM.n5 : Int), .string ZM.s0, .string ZM.s1, .slice A9 ZM.l.length c9] 29)).alloc (.cells #[.int .i64 E, .int .i64 PI] 32)) = W12 at *
          have HKM := hid hkm
          have HKF := hid hkf
          have HK4 := hid hk4
          have HKF4 := hid hkf4
          have HKF5 := hid hkf5
          have HK9 := hid hk9
          have HK8 := hid hk8
          have HSE := hid hse
          have HS4 := hid hs4
          have HS9 := hid hs9
          have HBB12 := hid hb0
          have HSZ12 := hid hsz
          clear hb0 hsz hz hW12 hkm hkf hk4 hkf4 hkf5 hk9 hk8 hse hs4 hs9
          refine (HZE.out _ _ _ HS9.out).mono ?_
          rintro e w13 ⟨rfl, hb⟩
          have hkm := HKM.out.below hb HKM.out.lt
          have hkf := HKF.out.below hb HKF.out.lt
          have hk4 := HK4.out.below hb HK4.out.lt
          have hkf4 := HKF4.out.below hb HKF4.out.lt
          have hkf5 := HKF5.out.below hb HKF5.out.lt
          have hk9 := HK9.out.below hb HK9.out.lt
          have hk8 := HK8.out.below hb HK8.out.lt
          have hse := HSE.out.below hb
          have hs4 := HS4.out.below hb
          have hs9 := HS9.out.below hb
          have hb0 : Below s w w13 := HBB12.out.trans (hb.mono (by have := HBB12.out.size; omega))
          have HKM := hid hkm
          have HKF := hid hkf
          have HK4 := hid hk4
          have HKF4 := hid hkf4
          have HKF5 := hid hkf5
          have HK9 := hid hk9
          have HK8 := hid hk8
          have HSE := hid hse
          have HS4 := hid hs4
          have HS9 := hid hs9
          have HBB13 := hid hb0
          clear hb0 hb hkm hkf hk4 hkf4 hkf5 hk9 hk8 hse hs4 hs9
          go_wp2_with fail
          go_ret
          exact ⟨rfl, HBB13.out⟩
        · have g0 : E = 0 := by have h := congrArg Prod.fst g1; exact h
          subst g0
          clear g1
          have hck := HCK.out rfl
          have HCK2 := hid hck
          clear hck HCK
          go_wp2_with fail
          have hk9 : Blk ((w11.alloc (.cells #[.int .u8 (R.k : Int), .int .u64 (R.n0 : Int), .int .u64 (R.n1 : Int), .int .u64 (R.n2 : Int), .int .u64 (R.n3 : Int), .int .u64 (R.n4 : Int), .int .u64 (R.n5 : Int), .string R.s0, .string R.s1, .slice A9 R.l.length c9] 29)).alloc (.cells #[.int .i64 0, .int .i64 PI] 32)) (p9) 29 #[.int .u8 (R.k : Int), .int .u64 (R.n0 : Int), .int .u64 (R.n1 : Int), .int .u64 (R.n2 : Int), .int .u64 (R.n3 : Int), .int .u64 (R.n4 : Int), .int .u64 (R.n5 : Int), .string R.s0, .string R.s1, .slice A9 R.l.length c9] := by
            have h := ((Blk.new w11 29 #[.int .u8 (R.k : Int), .int .u64 (R.n0 : Int), .int .u64 (R.n1 : Int), .int .u64 (R.n2 : Int), .int .u64 (R.n3 : Int), .int .u64 (R.n4 : Int), .int .u64 (R.n5 : Int), .string R.s0, .string R.s1, .slice A9 R.l.length c9]).alloc (.cells #[.int .i64 0, .int .i64 PI] 32))
            rw [hz] at h; exact h
          have hk8 : Blk ((w11.alloc (.cells #[.int .u8 (R.k : Int), .int .u64 (R.n0 : Int), .int .u64 (R.n1 : Int), .int .u64 (R.n2 : Int), .int .u64 (R.n3 : Int), .int .u64 (R.n4 : Int), .int .u64 (R.n5 : Int), .string R.s0, .string R.s1, .slice A9 R.l.length c9] 29)).alloc (.cells #[.int .i64 0, .int .i64 PI] 32)) (p9 + 1) 32 #[.int .i64 0, .int .i64 PI] := by
            have h := (Blk.new (w11.alloc (.cells #[.int .u8 (R.k : Int), .int .u64 (R.n0 : Int), .int .u64 (R.n1 : Int), .int .u64 (R.n2 : Int), .int .u64 (R.n3 : Int), .int .u64 (R.n4 : Int), .int .u64 (R.n5 : Int), .string R.s0, .string R.s1, .slice A9 R.l.length c9] 29)) 32 #[.int .i64 0, .int .i64 PI])
            rw [World.size_alloc, hz] at h; exact h
          have hkm := ((HKM.out.alloc (.cells #[.int .u8 (R.k : Int), .int .u64 (R.n0 : Int), .int .u64 (R.n1 : Int), .int .u64 (R.n2 : Int), .int .u64 (R.n3 : Int), .int .u64 (R.n4 : Int), .int .u64 (R.n5 : Int), .string R.s0, .string R.s1, .slice A9 R.l.length c9] 29)).alloc (.cells #[.int .i64 0, .int .i64 PI] 32))
          have hkf := ((HKF.out.alloc (.cells #[.int .u8 (R.k : Int), .int .u64 (R.n0 : Int), .int .u64 (R.n1 : Int), .int .u64 (R.n2 : Int), .int .u64 (R.n3 : Int), .int .u64 (R.n4 : Int), .int .u64 (R.n5 : Int), .string R.s0, .string R.s1, .slice A9 R.l.length c9] 29)).alloc (.cells #[.int .i64 0, .int .i64 PI] 32))
          have hk4 := ((HK4.out.alloc (.cells #[.int .u8 (R.k : Int), .int .u64 (R.n0 : Int), .int .u64 (R.n1 : Int), .int .u64 (R.n2 : Int), .int .u64 (R.n3 : Int), .int .u64 (R.n4 : Int), .int .u64 (R.n5 : Int), .string R.s0, .string R.s1, .slice A9 R.l.length c9] 29)).alloc (.cells #[.int .i64 0, .int .i64 PI] 32))
          have hkf4 := ((HKF4.out.alloc (.cells #[.int .u8 (R.k : Int), .int .u64 (R.n0 : Int), .int .u64 (R.n1 : Int), .int .u64 (R.n2 : Int), .int .u64 (R.n3 : Int), .int .u64 (R.n4 : Int), .int .u64 (R.n5 : Int), .string R.s0, .string R.s1, .slice A9 R.l.length c9] 29)).alloc (.cells #[.int .i64 0, .int .i64 PI] 32))
          have hkf5 := ((HKF5.out.alloc (.cells #[.int .u8 (R.k : Int), .int .u64 (R.n0 : Int), .int .u64 (R.n1 : Int), .int .u64 (R.n2 : Int), .int .u64 (R.n3 : Int), .int .u64 (R.n4 : Int), .int .u64 (R.n5 : Int), .string R.s0, .string R.s1, .slice A9 R.l.length c9] 29)).alloc (.cells #[.int .i64 0, .int .i64 PI] 32))
          have hse := HSE.out.below (bw_a (bw_a (Below.refl w11.heap.size w11) (.cells #[.int .u8 (R.k : Int), .int .u64 (R.n0 : Int), .int .u64 (R.n1 : Int), .int .u64 (R.n2 : Int), .int .u64 (R.n3 : Int), .int .u64 (R.n4 : Int), .int .u64 (R.n5 : Int), .string R.s0, .string R.s1, .slice A9 R.l.length c9] 29)) (.cells #[.int .i64 0, .int .i64 PI] 32))
          have hs4 := HS4.out.below (bw_a (bw_a (Below.refl w11.heap.size w11) (.cells #[.int .u8 (R.k : Int), .int .u64 (R.n0 : Int), .int .u64 (R.n1 : Int), .int .u64 (R.n2 : Int), .int .u64 (R.n3 : Int), .int .u64 (R.n4 : Int), .int .u64 (R.n5 : Int), .string R.s0, .string R.s1, .slice A9 R.l.length c9] 29)) (.cells #[.int .i64 0, .int .i64 PI] 32))
          have hs9 := HS9.out.below (bw_a (bw_a (Below.refl w11.heap.size w11) (.cells #[.int .u8 (R.k : Int), .int .u64 (R.n0 : Int), .int .u64 (R.n1 : Int), .int .u64 (R.n2 : Int), .int .u64 (R.n3 : Int), .int .u64 (R.n4 : Int), .int .u64 (R.n5 : Int), .string R.s0, .string R.s1, .slice A9 R.l.length c9] 29)) (.cells #[.int .i64 0, .int .i64 PI] 32))
          have hb0 : Below s w ((w11.alloc (.cells #[.int .u8 (R.k : Int), .int .u64 (R.n0 : Int), .int .u64 (R.n1 : Int), .int .u64 (R.n2 : Int), .int .u64 (R.n3 : Int), .int .u64 (R.n4 : Int), .int .u64 (R.n5 : Int), .string R.s0, .string R.s1, .slice A9 R.l.length c9] 29)).alloc (.cells #[.int .i64 0, .int .i64 PI] 32)) := HBB11.out.trans ((bw_a (bw_a (Below.refl w11.heap.size w11) (.cells #[.int .u8 (R.k : Int), .int .u64 (R.n0 : Int), .int .u64 (R.n1 : Int), .int .u64 (R.n2 : Int), .int .u64 (R.n3 : Int), .int .u64 (R.n4 : Int), .int .u64 (R.n5 : Int), .string R.s0, .string R.s1, .slice A9 R.l.length c9] 29)) (.cells #[.int .i64 0, .int .i64 PI] 32)).mono (by have := HBB11.out.size; omega))
          have hsz : (((w11.alloc (.cells #[.int .u8 (R.k : Int), .int .u64 (R.n0 : Int), .int .u64 (R.n1 : Int), .int .u64 (R.n2 : Int), .int .u64 (R.n3 : Int), .int .u64 (R.n4 : Int), .int .u64 (R.n5 : Int), .string R.s0, .string R.s1, .slice A9 R.l.length c9] 29)).alloc (.cells #[.int .i64 0, .int .i64 PI] 32))).heap.size = p9 + 1 + 1 := by simp [hz]
          generalize hW12 : ((w11.alloc (.cells #[.int .u8 (R.k : Int), .int .u64 (R.n0 : Int), .int .u64 (R.n1 : Int), .int .u64 (R.n2 : Int), .int .u64 (R.n3 : Int), .int .u64 (R.n4 : Int), .int .u64 (R.n5 : Int), .string R.s0, .string R.s1, .slice A9 R.l.length c9] 29)).alloc (.cells #[.int .i64 0, .int .i64 PI] 32)) = W12 at *
          have HKM := hid hkm
          have HKF := hid hkf
          have HK4 := hid hk4
          have HKF4 := hid hkf4
          have HKF5 := hid hkf5
          have HK9 := hid hk9
          have HK8 := hid hk8
          have HSE := hid hse
          have HS4 := hid hs4
          have HS9 := hid hs9
          have HBB12 := hid hb0
          have HSZ12 := hid hsz
          clear hb0 hsz hz hW12 hkm hkf hk4 hkf4 hkf5 hk9 hk8 hse hs4 hs9
          refine (HCK2.out _ _ _ HS9.out).mono ?_
          rintro e w13 ⟨rfl, hb⟩
          have hkm := HKM.out.below hb HKM.out.lt
          have hkf := HKF.out.below hb HKF.out.lt
          have hk4 := HK4.out.below hb HK4.out.lt
          have hkf4 := HKF4.out.below hb HKF4.out.lt
          have hkf5 := HKF5.out.below hb HKF5.out.lt
          have hk9 := HK9.out.below hb HK9.out.lt
          have hk8 := HK8.out.below hb HK8.out.lt
          have hse := HSE.out.below hb
          have hs4 := HS4.out.below hb
          have hs9 := HS9.out.below hb
          have hb0 : Below s w w13 := HBB12.out.trans (hb.mono (by have := HBB12.out.size; omega))
          have HKM := hid hkm
          have HKF := hid hkf
          have HK4 := hid hk4
          have HKF4 := hid hkf4
          have HKF5 := hid hkf5
          have HK9 := hid hk9
          have HK8 := hid hk8
          have HSE := hid hse
          have HS4 := hid hs4
          have HS9 := hid hs9
          have HBB13 := hid hb0
          clear hb0 hb hkm hkf hk4 hkf4 hkf5 hk9 hk8 hse hs4 hs9
          go_wp2_with fail
          go_ret
          exact ⟨rfl, HBB13.out⟩
      · have heb : (E1 == 0) = false := by simpa using he
        clear he
        have zhkm0 := HKM.out.cell 0
        have lhkm := HKM.out.lt
        simp only [List.getElem?_toArray, List.getElem?_cons_zero] at zhkm0
        obtain ⟨p8, hz⟩ : ∃ p, w4.heap.size = p := ⟨_, rfl⟩
        rw [hz] at lhkm
        go_wp2_with fail
        have hkf : Blk (w4.alloc (.cells #[.int .i64 E1, .int .i64 E2] 32)) (p8) 32 #[.int .i64 E1, .int .i64 E2] := by
          have h := (Blk.new w4 32 #[.int .i64 E1, .int .i64 E2])
          rw [hz] at h; exact h
        have hkm := (HKM.out.alloc (.cells #[.int .i64 E1, .int .i64 E2] 32))
        have hse := HSE.out.below (bw_a (Below.refl w4.heap.size w4) (.cells #[.int .i64 E1, .int .i64 E2] 32))
        have hb0 : Below s w (w4.alloc (.cells #[.int .i64 E1, .int .i64 E2] 32)) := HBB4.out.trans ((bw_a (Below.refl w4.heap.size w4) (.cells #[.int .i64 E1, .int .i64 E2] 32)).mono (by have := HBB4.out.size; omega))
        have hsz : ((w4.alloc (.cells #[.int .i64 E1, .int .i64 E2] 32))).heap.size = p8 + 1 := by simp [hz]
        generalize hW5 : (w4.alloc (.cells #[.int .i64 E1, .int .i64 E2] 32)) = W5 at *
        have HKM := hid hkm
        have HKF := hid hkf
        have HSE := hid hse
        have HBB5 := hid hb0
        have HSZ5 := hid hsz
        clear hb0 hsz hz hW5 hkm hkf hse
        refine (HD2.out _ _ _ (HSL.out _ HBB5.out)).mono ?_
        rintro e w6 ⟨A9, c9, PI, rfl, hs9, hb⟩
        clear lhkm zhkm0
        have hkm := HKM.out.below hb HKM.out.lt
        have hkf := HKF.out.below hb HKF.out.lt
        have hse := HSE.out.below hb
        have hb0 : Below s w w6 := HBB5.out.trans (hb.mono (by have := HBB5.out.size; omega))
        have HKM := hid hkm
        have HKF := hid hkf
        have HSE := hid hse
        have HS9 := hid hs9
        have HBB6 := hid hb0
        clear hb0 hb hkm hkf hse hs9
        obtain ⟨p9, hz⟩ : ∃ p, w6.heap.size = p := ⟨_, rfl⟩
        rcases HGD.out with ⟨g1, g2, -⟩ | ⟨g1, -, -⟩
        · have gb : (E != 0) = true := by simpa using g1
          have G1 := hid g1
          clear g1
          subst g2
          go_wp2_with fail
          have hk9 : Blk ((w6.alloc (.cells #[.int .u8 (ZM.k : Int), .int .u64 (ZM.n0 : Int), .int .u64 (ZM.n1 : Int), .int .u64 (ZM.n2 : Int), .int .u64 (ZM.n3 : Int), .int .u64 (ZM.n4 : Int), .int .u64 (ZM.n5 : Int), .string ZM.s0, .string ZM.s1, .slice A9 ZM.l.length c9] 29)).alloc (.cells #[.int .i64 E, .int .i64 PI] 32)) (p9) 29 #[.int .u8 (ZM.k : Int), .int .u64 (ZM.n0 : Int), .int .u64 (ZM.n1 : Int), .int .u64 (ZM.n2 : Int), .int .u64 (ZM.n3 : Int), .int .u64 (ZM.n4 : Int), .int .u64 (ZM.n5 : Int), .string ZM.s0, .string ZM.s1, .slice A9 ZM.l.length c9] := by
            have h := ((Blk.new w6 29 #[.int .u8 (ZM.k : Int), .int .u64 (ZM.n0 : Int), .int .u64 (ZM.n1 : Int), .int .u64 (ZM.n2 : Int), .int .u64 (ZM.n3 : Int), .int .u64 (ZM.n4 : Int), .int .u64 (ZM.n5 : Int), .string ZM.s0, .string ZM.s1, .slice A9 ZM.l.length c9]).alloc (.cells #[.int .i64 E, .int .i64 PI] 32))
            rw [hz] at h; exact h
          have hk8 : Blk ((w6.alloc (.cells #[.int .u8 (ZM.k : Int), .int .u64 (ZM.n0 : Int), .int .u64 (ZM.n1 : Int), .int .u64 (ZM.n2 : Int), .int .u64 (ZM.n3 : Int), .int .u64 (ZM.n4 : Int), .int .u64 (ZM.n5 : Int), .string ZM.s0, .string ZM.s1, .slice A9 ZM.l.length c9] 29)).alloc (.cells #[.int .i64 E, .int .i64 PI] 32)) (p9 + 1) 32 #[.int .i64 E, .int .i64 PI] := by
            have h := (Blk.new (w6.alloc (.cells #[.int .u8 (ZM.k : Int), .int .u64 (ZM.n0 : Int), .int .u64 (ZM.n1 : Int), .int .u64 (ZM.n2 : Int), .int .u64 (ZM.n3 : Int), .int .u64 (ZM.n4 : Int), .int .u64 (ZM.n5 : Int), .string ZM.s0, .string ZM.s1, .slice A9 ZM.l.length c9] 29)) 32 #[.int .i64 E, .int .i64 PI])
            rw [World.size_alloc, hz] at h; exact h
          have hkm := ((HKM.out.alloc (.cells #[.int .u8 (ZM.k : Int), .int .u64 (ZM.n0 : Int), .int .u64 (ZM.n1 : Int), .int .u64 (ZM.n2 : Int), .int .u64 (ZM.n3 : Int), .int .u64 (ZM.n4 : Int), .int .u64 (ZM.n5 : Int), .string ZM.s0, .string ZM.s1, .slice A9 ZM.l.length c9] 29)).alloc (.cells #[.int .i64 E, .int .i64 PI] 32))
          have hkf := ((HKF.out.alloc (.cells #[.int .u8 (ZM.k : Int), .int .u64 (ZM.n0 : Int), .int .u64 (ZM.n1 : Int), .int .u64 (ZM.n2 : Int), .int .u64 (ZM.n3 : Int), .int .u64 (ZM.n4 : Int), .int .u64 (ZM.n5 : Int), .string ZM.s0, .string ZM.s1, .slice A9 ZM.l.length c9] 29)).alloc (.cells #[.int .i64 E, .int .i64 PI] 32))
          have hse := HSE.out.below (bw_a (bw_a (Below.refl w6.heap.size w6) (.cells #[.int .u8 (ZM.k : Int), .int .u64 (ZM.n0 : Int), .int .u64 (ZM.n1 : Int), .int .u64 (ZM.n2 : Int), .int .u64 (ZM.n3 : Int), .int .u64 (ZM.n4 : Int), .int .u64 (ZM.n5 : Int), .string ZM.s0, .string ZM.s1, .slice A9 ZM.l.length c9] 29)) (.cells #[.int .i64 E, .int .i64 PI] 32))
          have hs9 := HS9.out.below (bw_a (bw_a (Below.refl w6.heap.size w6) (.cells #[.int .u8 (ZM.k : Int), .int .u64 (ZM.n0 : Int), .int .u64 (ZM.n1 : Int), .int .u64 (ZM.n2 : Int), .int .u64 (ZM.n3 : Int), .int .u64 (ZM.n4 : Int), .int .u64 (ZM.n5 : Int), .string ZM.s0, .string ZM.s1, .slice A9 ZM.l.length c9] 29)) (.cells #[.int .i64 E, .int .i64 PI] 32))
          have hb0 : Below s w ((w6.alloc (.cells #[.int .u8 (ZM.k : Int), .int .u64 (ZM.n0 : Int), .int .u64 (ZM.n1 : Int), .int .u64 (ZM.n2 : Int), .int .u64 (ZM.n3 : Int), .int .u64 (ZM.n4 : Int), .int .u64 (ZM.n5 : Int), .string ZM.s0, .string ZM.s1, .slice A9 ZM.l.length c9] 29)).alloc (.cells #[.int .i64 E, .int .i64 PI] 32)) := HBB6.out.trans ((bw_a (bw_a (Below.refl w6.heap.size w6) (.cells #[.int .u8 (ZM.k : Int), .int .u64 (ZM.n0 : Int), .int .u64 (ZM.n1 : Int), .int .u64 (ZM.n2 : Int), .int .u64 (ZM.n3 : Int), .int .u64 (ZM.n4 : Int), .int .u64 (ZM.n5 : Int), .string ZM.s0, .string ZM.s1, .slice A9 ZM.l.length c9] 29)) (.cells #[.int .i64 E, .int .i64 PI] 32)).mono (by have := HBB6.out.size; omega))
          have hsz : (((w6.alloc (.cells #[.int .u8 (ZM.k : Int), .int .u64 (ZM.n0 : Int), .int .u64 (ZM.n1 : Int), .int .u64 (ZM.n2 : Int), .int .u64 (ZM.n3 : Int), .int .u64 (ZM.n4 : Int), .int .u64 (ZM.n5 : Int), .string ZM.s0, .string ZM.s1, .slice A9 ZM.l.length c9] 29)).alloc (.cells #[.int .i64 E, .int .i64 PI] 32))).heap.size = p9 + 1 + 1 := by simp [hz]
          generalize hW7 : ((w6.alloc (.cells #[.int .u8 (ZM.k : Int), .int .u64 (ZM.n0 : Int), .int .u64 (ZM.n1 : Int), .int .u64 (ZM.n2 : Int), .int .u64 (ZM.n3 : Int), .int .u64 (ZM.n4 : Int), .int .u64 (ZM.n5 : Int), .string ZM.s0, .string ZM.s1, .slice A9 ZM.l.length c9] 29)).alloc (.cells #[.int .i64 E, .int .i64 PI] 32)) = W7 at *
          have HKM := hid hkm
          have HKF := hid hkf
          have HK9 := hid hk9
          have HK8 := hid hk8
          have HSE := hid hse
          have HS9 := hid hs9
          have HBB7 := hid hb0
          have HSZ7 := hid hsz
          clear hb0 hsz hz hW7 hkm hkf hk9 hk8 hse hs9
          refine (HZE.out _ _ _ HS9.out).mono ?_
          rintro e w8 ⟨rfl, hb⟩
          have hkm := HKM.out.below hb HKM.out.lt
          have hkf := HKF.out.below hb HKF.out.lt
          have hk9 := HK9.out.below hb HK9.out.lt
          have hk8 := HK8.out.below hb HK8.out.lt
          have hse := HSE.out.below hb
          have hs9 := HS9.out.below hb
          have hb0 : Below s w w8 := HBB7.out.trans (hb.mono (by have := HBB7.out.size; omega))
          have HKM := hid hkm
          have HKF := hid hkf
          have HK9 := hid hk9
          have HK8 := hid hk8
          have HSE := hid hse
          have HS9 := hid hs9
          have HBB8 := hid hb0
          clear hb0 hb hkm hkf hk9 hk8 hse hs9
          go_wp2_with fail
          go_ret
          exact ⟨rfl, HBB8.out⟩
        · have g0 : E = 0 := by have h := congrArg Prod.fst g1; exact h
          subst g0
          clear g1
          have hck := HCK.out rfl
          have HCK2 := hid hck
          clear hck HCK
          go_wp2_with fail
          have hk9 : Blk ((w6.alloc (.cells #[.int .u8 (R.k : Int), .int .u64 (R.n0 : Int), .int .u64 (R.n1 : Int), .int .u64 (R.n2 : Int), .int .u64 (R.n3 : Int), .int .u64 (R.n4 : Int), .int .u64 (R.n5 : Int), .string R.s0, .string R.s1, .slice A9 R.l.length c9] 29)).alloc (.cells #[.int .i64 0, .int .i64 PI] 32)) (p9) 29 #[.int .u8 (R.k : Int), .int .u64 (R.n0 : Int), .int .u64 (R.n1 : Int), .int .u64 (R.n2 : Int), .int .u64 (R.n3 : Int), .int .u64 (R.n4 : Int), .int .u64 (R.n5 : Int), .string R.s0, .string R.s1, .slice A9 R.l.length c9] := by
            have h := ((Blk.new w6 29 #[.int .u8 (R.k : Int), .int .u64 (R.n0 : Int), .int .u64 (R.n1 : Int), .int .u64 (R.n2 : Int), .int .u64 (R.n3 : Int), .int .u64 (R.n4 : Int), .int .u64 (R.n5 : Int), .string R.s0, .string R.s1, .slice A9 R.l.length c9]).alloc (.cells #[.int .i64 0, .int .i64 PI] 32))
            rw [hz] at h; exact h
          have hk8 : Blk ((w6.alloc (.cells #[.int .u8 (R.k : Int), .int .u64 (R.n0 : Int), .int .u64 (R.n1 : Int), .int .u64 (R.n2 : Int), .int .u64 (R.n3 : Int), .int .u64 (R.n4 : Int), .int .u64 (R.n5 : Int), .string R.s0, .string R.s1, .slice A9 R.l.length c9] 29)).alloc (.cells #[.int .i64 0, .int .i64 PI] 32)) (p9 + 1) 32 #[.int .i64 0, .int .i64 PI] := by
            have h := (Blk.new (w6.alloc (.cells #[.int .u8 (R.k : Int), .int .u64 (R.n0 : Int), .int .u64 (R.n1 : Int), .int .u64 (R.n2 : Int), .int .u64 (R.n3 : Int), .int .u64 (R.n4 : Int), .int .u64 (R.n5 : Int), .string R.s0, .string R.s1, .slice A9 R.l.length c9] 29)) 32 #[.int .i64 0, .int .i64 PI])
            rw [World.size_alloc, hz] at h; exact h
          have hkm := ((HKM.out.alloc (.cells #[.int .u8 (R.k : Int), .int .u64 (R.n0 : Int), .int .u64 (R.n1 : Int), .int .u64 (R.n2 : Int), .int .u64 (R.n3 : Int), .int .u64 (R.n4 : Int), .int .u64 (R.n5 : Int), .string R.s0, .string R.s1, .slice A9 R.l.length c9] 29)).alloc (.cells #[.int .i64 0, .int .i64 PI] 32))
          have hkf := ((HKF.out.alloc (.cells #[.int .u8 (R.k : Int), .int .u64 (R.n0 : Int), .int .u64 (R.n1 : Int), .int .u64 (R.n2 : Int), .int .u64 (R.n3 : Int), .int .u64 (R.n4 : Int), .int .u64 (R.n5 : Int), .string R.s0, .string R.s1, .slice A9 R.l.length c9] 29)).alloc (.cells #[.int .i64 0, .int .i64 PI] 32))
          have hse := HSE.out.below (bw_a (bw_a (Below.refl w6.heap.size w6) (.cells #[.int .u8 (R.k : Int), .int .u64 (R.n0 : Int), .int .u64 (R.n1 : Int), .int .u64 (R.n2 : Int), .int .u64 (R.n3 : Int), .int .u64 (R.n4 : Int), .int .u64 (R.n5 : Int), .string R.s0, .string R.s1, .slice A9 R.l.length c9] 29)) (.cells #[.int .i64 0, .int .i64 PI] 32))
          have hs9 := HS9.out.below (bw_a (bw_a (Below.refl w6.heap.size w6) (.cells #[.int .u8 (R.k : Int), .int .u64 (R.n0 : Int), .int .u64 (R.n1 : Int), .int .u64 (R.n2 : Int), .int .u64 (R.n3 : Int), .int .u64 (R.n4 : Int), .int .u64 (R.n5 : Int), .string R.s0, .string R.s1, .slice A9 R.l.length c9] 29)) (.cells #[.int .i64 0, .int .i64 PI] 32))
          have hb0 : Below s w ((w6.alloc (.cells #[.int .u8 (R.k : Int), .int .u64 (R.n0 : Int), .int .u64 (R.n1 : Int), .int .u64 (R.n2 : Int), .int .u64 (R.n3 : Int), .int .u64 (R.n4 : Int), .int .u64 (R.n5 : Int), .string R.s0, .string R.s1, .slice A9 R.l.length c9] 29)).alloc (.cells #[.int .i64 0, .int .i64 PI] 32)) := HBB6.out.trans ((bw_a (bw_a (Below.refl w6.heap.size w6) (.cells #[.int .u8 (R.k : Int), .int .u64 (R.n0 : Int), .int .u64 (R.n1 : Int), .int .u64 (R.n2 : Int), .int .u64 (R.n3 : Int), .int .u64 (R.n4 : Int), .int .u64 (R.n5 : Int), .string R.s0, .string R.s1, .slice A9 R.l.length c9] 29)) (.cells #[.int .i64 0, .int .i64 PI] 32)).mono (by have := HBB6.out.size; omega))
          have hsz : (((w6.alloc (.cells #[.int .u8 (R.k : Int), .int .u64 (R.n0 : Int), .int .u64 (R.n1 : Int), .int .u64 (R.n2 : Int), .int .u64 (R.n3 : Int), .int .u64 (R.n4 : Int), .int .u64 (R.n5 : Int), .string R.s0, .string R.s1, .slice A9 R.l.length c9] 29)).alloc (.cells #[.int .i64 0, .int .i64 PI] 32))).heap.size = p9 + 1 + 1 := by simp [hz]
          generalize hW7 : ((w6.alloc (.cells #[.int .u8 (R.k : Int), .int .u64 (R.n0 : Int), .int .u64 (R.n1 : Int), .int .u64 (R.n2 : Int), .int .u64 (R.n3 : Int), .int .u64 (R.n4 : Int), .int .u64 (R.n5 : Int), .string R.s0, .string R.s1, .slice A9 R.l.length c9] 29)).alloc (.cells #[.int .i64 0, .int .i64 PI] 32)) = W7 at *
          have HKM := hid hkm
          have HKF := hid hkf
          have HK9 := hid hk9
          have HK8 := hid hk8
          have HSE := hid hse
          have HS9 := hid hs9
          have HBB7 := hid hb0
          have HSZ7 := hid hsz
          clear hb0 hsz hz hW7 hkm hkf hk9 hk8 hse hs9
          refine (HCK2.out _ _ _ HS9.out).mono ?_
          rintro e w8 ⟨rfl, hb⟩
          have hkm := HKM.out.below hb HKM.out.lt
          have hkf := HKF.out.below hb HKF.out.lt
          have hk9 := HK9.out.below hb HK9.out.lt
          have hk8 := HK8.out.below hb HK8.out.lt
          have hse := HSE.out.below hb
          have hs9 := HS9.out.below hb
          have hb0 : Below s w w8 := HBB7.out.trans (hb.mono (by have := HBB7.out.size; omega))
          have HKM := hid hkm
          have HKF := hid hkf
          have HK9 := hid hk9
          have HK8 := hid hk8
          have HSE := hid hse
          have HS9 := hid hs9
          have HBB8 := hid hb0
          clear hb0 hb hkm hkf hk9 hk8 hse hs9
          go_wp2_with fail
          go_ret
          exact ⟨rfl, HBB8.out⟩
end Go.Proofs.Ytmcebepfoleknaa
