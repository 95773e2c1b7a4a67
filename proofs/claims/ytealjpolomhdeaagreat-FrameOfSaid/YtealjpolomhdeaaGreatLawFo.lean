/- The walk of FrameOf. -/
import Derived.Test.YtealjpolomhdeaaGreatG22
import Derived.Test.YtealjpolomhdeaaGreatG13
set_option linter.unusedVariables false
namespace Go.Proofs.YtealjpolomhdeaaGreat
open Go.RowKit
set_option maxRecDepth 100000 in
set_option maxHeartbeats 8000000 in
theorem frameOf_any (M : MV) (v : Int) (w : World) (hok : MvOk w M) (hv1 : -9223372036854775808 ≤ v) (hv2 : v ≤ 9223372036854775807) :
    Calls Tryz.prog 5 #[mvV M, .int .i64 v] w fun e w' => e = .returned (.bool true) ∧ Below w.heap.size w w' := by
  have hlv := fun W => live13_any W
  have hsm := fun W (hW : Below w.heap.size w W) => small9_any M W (hok.l.below hW)
  obtain ⟨eb, heb⟩ : ∃ eb, encB M (ofL (M.k : Int) v) = eb := ⟨_, rfl⟩
  obtain ⟨el, hel⟩ : ∃ n, eb.length = n := ⟨_, rfl⟩
  obtain ⟨E1, hE1⟩ : ∃ E1, (chkV M (ofL (M.k : Int) v)).1 = E1 := ⟨_, rfl⟩
  obtain ⟨E2, hE2⟩ : ∃ E2, (chkV M (ofL (M.k : Int) v)).2 = E2 := ⟨_, rfl⟩
  have hE0 : E1 = 0 → E2 = 0 := fun h => by
    have := (chkV_zero (m := M) (L := ofL (M.k : Int) v) (by rw [hE1]; exact h)).1
    rw [← hE2, this]
  have hmv : mvV M = .agg #[.int .u8 (M.k : Int), .int .u64 (M.n0 : Int), .int .u64 (M.n1 : Int), .int .u64 (M.n2 : Int), .int .u64 (M.n3 : Int), .int .u64 (M.n4 : Int), .int .u64 (M.n5 : Int), .string M.s0, .string M.s1, .slice M.A M.l.length M.c] := rfl
  obtain ⟨len, hlen⟩ : ∃ n, M.l.length = n := ⟨_, rfl⟩
  have hof := fun (hb : smallB M = true) W (hW : Below w.heap.size w W) => fof_any M v W (hok.below hW) (small_sm hb) hv1 hv2
  have hrb := fun (hb : smallB M = true) W (hW : Below w.heap.size w W) => (r10bytes_any M v W (hok.below hW) (small_sm hb) hv1 hv2).mono (fun e w' h => bytesR_sl h)
  rw [hmv] at hof hrb hsm ⊢
  rw [heb, hel, hE1, hE2] at hrb
  have hofb : smallB M = true → E1 ≠ 0 → ∀ W, Below w.heap.size w W → Calls Tryz.prog 14 #[.agg #[.int .u8 (M.k : Int), .int .u64 (M.n0 : Int), .int .u64 (M.n1 : Int), .int .u64 (M.n2 : Int), .int .u64 (M.n3 : Int), .int .u64 (M.n4 : Int), .int .u64 (M.n5 : Int), .string M.s0, .string M.s1, .slice M.A M.l.length M.c], .int .i64 v] W fun e w' => e = .returned (.tuple #[.agg #[.int .u8 0, .slice none 0 0], .agg #[.int .i64 E1, .int .i64 E2]]) ∧ Below W.heap.size W w' := fun hb h0 W hW => (hof hb W hW).mono (by
    rintro e w' ⟨(⟨h1, he⟩ | ⟨h1, -⟩), hbl⟩
    · rw [hE1, hE2] at he; exact ⟨he, hbl⟩
    · rw [hE1] at h1; exact absurd h1 h0)
  have hofg : smallB M = true → E1 = 0 → ∀ W, Below w.heap.size w W → Calls Tryz.prog 14 #[.agg #[.int .u8 (M.k : Int), .int .u64 (M.n0 : Int), .int .u64 (M.n1 : Int), .int .u64 (M.n2 : Int), .int .u64 (M.n3 : Int), .int .u64 (M.n4 : Int), .int .u64 (M.n5 : Int), .string M.s0, .string M.s1, .slice M.A M.l.length M.c], .int .i64 v] W fun e w' => ∃ A c, e = .returned (.tuple #[.agg #[.int .u8 (M.k : Int), .slice A el c], .agg #[.int .i64 0, .int .i64 0]]) ∧ Sl w' A c (eb.map bv) ∧ Below W.heap.size W w' := fun hb h0 W hW => (hof hb W hW).mono (by
    rintro e w' ⟨(⟨h1, -⟩ | ⟨-, A, c, he, hs⟩), hbl⟩
    · rw [hE1] at h1; exact absurd h0 h1
    · rw [heb, hel] at he; rw [heb] at hs; exact ⟨A, c, he, hs, hbl⟩)
  have hbk := fun (hb : smallB M = true) (he : E1 = 0) => str_back v hok.n (small_sm hb) (hE1.trans he)
  rw [heb] at hbk
  have hk255 := hok.k
  have hml := fun W (hW : Below w.heap.size w W) => hok.l.below hW
  have hsa := fun W (R2 : MV) A' c' h1 h2 => msame R2 M A' c' M.A M.c len W hlen h1 h2
  rw [hlen] at hofb hofg hrb hsm ⊢
  generalize smallB M = sb at *
  obtain ⟨s, hws⟩ : ∃ s, w.heap.size = s := ⟨_, rfl⟩
  rw [hws] at hsm hofb hofg hrb hml ⊢
  have hz := hws
  have HLV := hid hlv
  have HSM := hid hsm
  have HOB := hid hofb
  have HOG := hid hofg
  have HRB := hid hrb
  have HBK := hid hbk
  have HML := hid hml
  have HSA := hid hsa
  have HEL := hid hel
  have HE0 := hid hE0
  clear hlv hsm hof hofb hofg hrb hbk hml hsa hel hlen hE1 hE2 heb hok hE0 hmv
  go_enter Tryz.func5, Tryz.ntmps5
  go_wp2_with fail
  have hkm : Blk (w.alloc (.cells #[.int .u8 (M.k : Int), .int .u64 (M.n0 : Int), .int .u64 (M.n1 : Int), .int .u64 (M.n2 : Int), .int .u64 (M.n3 : Int), .int .u64 (M.n4 : Int), .int .u64 (M.n5 : Int), .string M.s0, .string M.s1, .slice M.A len M.c] 29)) (s) 29 #[.int .u8 (M.k : Int), .int .u64 (M.n0 : Int), .int .u64 (M.n1 : Int), .int .u64 (M.n2 : Int), .int .u64 (M.n3 : Int), .int .u64 (M.n4 : Int), .int .u64 (M.n5 : Int), .string M.s0, .string M.s1, .slice M.A len M.c] := by
    have h := (Blk.new w 29 #[.int .u8 (M.k : Int), .int .u64 (M.n0 : Int), .int .u64 (M.n1 : Int), .int .u64 (M.n2 : Int), .int .u64 (M.n3 : Int), .int .u64 (M.n4 : Int), .int .u64 (M.n5 : Int), .string M.s0, .string M.s1, .slice M.A len M.c])
    rw [hz] at h; exact h
  have hb0 : Below s w (w.alloc (.cells #[.int .u8 (M.k : Int), .int .u64 (M.n0 : Int), .int .u64 (M.n1 : Int), .int .u64 (M.n2 : Int), .int .u64 (M.n3 : Int), .int .u64 (M.n4 : Int), .int .u64 (M.n5 : Int), .string M.s0, .string M.s1, .slice M.A len M.c] 29)) := by
    have h := (bw_a (Below.refl w.heap.size w) (.cells #[.int .u8 (M.k : Int), .int .u64 (M.n0 : Int), .int .u64 (M.n1 : Int), .int .u64 (M.n2 : Int), .int .u64 (M.n3 : Int), .int .u64 (M.n4 : Int), .int .u64 (M.n5 : Int), .string M.s0, .string M.s1, .slice M.A len M.c] 29))
    rw [hz] at h; exact h
  have hsz : ((w.alloc (.cells #[.int .u8 (M.k : Int), .int .u64 (M.n0 : Int), .int .u64 (M.n1 : Int), .int .u64 (M.n2 : Int), .int .u64 (M.n3 : Int), .int .u64 (M.n4 : Int), .int .u64 (M.n5 : Int), .string M.s0, .string M.s1, .slice M.A len M.c] 29))).heap.size = s + 1 := by simp [hz]
  generalize hW1 : (w.alloc (.cells #[.int .u8 (M.k : Int), .int .u64 (M.n0 : Int), .int .u64 (M.n1 : Int), .int .u64 (M.n2 : Int), .int .u64 (M.n3 : Int), .int .u64 (M.n4 : Int), .int .u64 (M.n5 : Int), .string M.s0, .string M.s1, .slice M.A len M.c] 29)) = W1 at *
  have HKM := hid hkm
  have HBB1 := hid hb0
  have HSZ1 := hid hsz
  clear hb0 hsz hz hW1 hkm
  refine (HLV.out W1).mono ?_
  rintro e w2 ⟨rfl, hb⟩
  have hkm := HKM.out.below hb HKM.out.lt
  have hb0 : Below s w w2 := HBB1.out.trans (hb.mono (by have := HBB1.out.size; omega))
  have HKM := hid hkm
  have HBB2 := hid hb0
  clear hb0 hb hkm
  have zhkm0 := HKM.out.cell 0
  have zhkm1 := HKM.out.cell 1
  have zhkm2 := HKM.out.cell 2
  have zhkm3 := HKM.out.cell 3
  have zhkm4 := HKM.out.cell 4
  have zhkm5 := HKM.out.cell 5
  have zhkm6 := HKM.out.cell 6
  have zhkm7 := HKM.out.cell 7
  have zhkm8 := HKM.out.cell 8
  have zhkm9 := HKM.out.cell 9
  have lhkm := HKM.out.lt
  simp only [List.getElem?_toArray, List.getElem?_cons_zero, List.getElem?_cons_succ] at zhkm0 zhkm1 zhkm2 zhkm3 zhkm4 zhkm5 zhkm6 zhkm7 zhkm8 zhkm9
  go_wp2_with fail
  refine (HSM.out _ HBB2.out).mono ?_
  rintro e w3 ⟨rfl, hb⟩
  clear lhkm zhkm0 zhkm1 zhkm2 zhkm3 zhkm4 zhkm5 zhkm6 zhkm7 zhkm8 zhkm9
  have hkm := HKM.out.below hb HKM.out.lt
  have hb0 : Below s w w3 := HBB2.out.trans (hb.mono (by have := HBB2.out.size; omega))
  have HKM := hid hkm
  have HBB3 := hid hb0
  clear hb0 hb hkm
  cases sb with
  | false =>
    go_wp2_with fail
    go_ret
    exact ⟨rfl, HBB3.out⟩
  | true =>
    by_cases he : E1 = 0
    · obtain rfl := HE0.out he
      have hof := HOG.out rfl he
      have hrb := HRB.out rfl
      obtain ⟨M2, hr2, hs2⟩ := HBK.out rfl he
      have HR2 := hid hr2
      have HS2 := hid hs2
      subst he
      have HOF := hid hof
      have HRB2 := hid hrb
      clear hof hrb hr2 hs2 HOB HOG HRB HBK
      have zhkm0 := HKM.out.cell 0
      have zhkm1 := HKM.out.cell 1
      have zhkm2 := HKM.out.cell 2
      have zhkm3 := HKM.out.cell 3
      have zhkm4 := HKM.out.cell 4
      have zhkm5 := HKM.out.cell 5
      have zhkm6 := HKM.out.cell 6
      have zhkm7 := HKM.out.cell 7
      have zhkm8 := HKM.out.cell 8
      have zhkm9 := HKM.out.cell 9
      have lhkm := HKM.out.lt
      simp only [List.getElem?_toArray, List.getElem?_cons_zero, List.getElem?_cons_succ] at zhkm0 zhkm1 zhkm2 zhkm3 zhkm4 zhkm5 zhkm6 zhkm7 zhkm8 zhkm9
      go_wp2_with fail
      refine (HOF.out _ HBB3.out).mono ?_
      rintro e w4 ⟨A1, c1, rfl, hs1, hb⟩
      clear lhkm zhkm0 zhkm1 zhkm2 zhkm3 zhkm4 zhkm5 zhkm6 zhkm7 zhkm8 zhkm9
      have hkm := HKM.out.below hb HKM.out.lt
      have hb0 : Below s w w4 := HBB3.out.trans (hb.mono (by have := HBB3.out.size; omega))
      have HKM := hid hkm
      have HS1 := hid hs1
      have HBB4 := hid hb0
      clear hb0 hb hkm hs1
      have zhkm0 := HKM.out.cell 0
      have zhkm1 := HKM.out.cell 1
      have zhkm2 := HKM.out.cell 2
      have zhkm3 := HKM.out.cell 3
      have zhkm4 := HKM.out.cell 4
      have zhkm5 := HKM.out.cell 5
      have zhkm6 := HKM.out.cell 6
      have zhkm7 := HKM.out.cell 7
      have zhkm8 := HKM.out.cell 8
      have zhkm9 := HKM.out.cell 9
      have lhkm := HKM.out.lt
      simp only [List.getElem?_toArray, List.getElem?_cons_zero, List.getElem?_cons_succ] at zhkm0 zhkm1 zhkm2 zhkm3 zhkm4 zhkm5 zhkm6 zhkm7 zhkm8 zhkm9
      obtain ⟨p3, hz⟩ : ∃ p, w4.heap.size = p := ⟨_, rfl⟩
      rw [hz] at lhkm
      have mhkm := Nat.lt_add_one_of_lt lhkm
      go_wp2_with fail
      have hk5 : Blk ((w4.alloc (.cells #[.int .u8 (M.k : Int), .slice A1 el c1] 42)).alloc (.cells #[.int .i64 0, .int .i64 0] 32)) (p3) 42 #[.int .u8 (M.k : Int), .slice A1 el c1] := by
        have h := ((Blk.new w4 42 #[.int .u8 (M.k : Int), .slice A1 el c1]).alloc (.cells #[.int .i64 0, .int .i64 0] 32))
        rw [hz] at h; exact h
      have hk6 : Blk ((w4.alloc (.cells #[.int .u8 (M.k : Int), .slice A1 el c1] 42)).alloc (.cells #[.int .i64 0, .int .i64 0] 32)) (p3 + 1) 32 #[.int .i64 0, .int .i64 0] := by
        have h := (Blk.new (w4.alloc (.cells #[.int .u8 (M.k : Int), .slice A1 el c1] 42)) 32 #[.int .i64 0, .int .i64 0])
        rw [World.size_alloc, hz] at h; exact h
      have hkm := ((HKM.out.alloc (.cells #[.int .u8 (M.k : Int), .slice A1 el c1] 42)).alloc (.cells #[.int .i64 0, .int .i64 0] 32))
      have hs1 := HS1.out.below (bw_a (bw_a (Below.refl w4.heap.size w4) (.cells #[.int .u8 (M.k : Int), .slice A1 el c1] 42)) (.cells #[.int .i64 0, .int .i64 0] 32))
      have hb0 : Below s w ((w4.alloc (.cells #[.int .u8 (M.k : Int), .slice A1 el c1] 42)).alloc (.cells #[.int .i64 0, .int .i64 0] 32)) := HBB4.out.trans ((bw_a (bw_a (Below.refl w4.heap.size w4) (.cells #[.int .u8 (M.k : Int), .slice A1 el c1] 42)) (.cells #[.int .i64 0, .int .i64 0] 32)).mono (by have := HBB4.out.size; omega))
      have hsz : (((w4.alloc (.cells #[.int .u8 (M.k : Int), .slice A1 el c1] 42)).alloc (.cells #[.int .i64 0, .int .i64 0] 32))).heap.size = p3 + 1 + 1 := by simp [hz]
      generalize hW5 : ((w4.alloc (.cells #[.int .u8 (M.k : Int), .slice A1 el c1] 42)).alloc (.cells #[.int .i64 0, .int .i64 0] 32)) = W5 at *
      have HKM := hid hkm
      have HK5 := hid hk5
      have HK6 := hid hk6
      have HS1 := hid hs1
      have HBB5 := hid hb0
      have HSZ5 := hid hsz
      clear hb0 hsz hz hW5 hkm hk5 hk6 hs1
      refine (HRB2.out _ HBB5.out).mono ?_
      rintro e w6 ⟨A2, c2, rfl, hsb, -, hb⟩
      clear lhkm zhkm0 zhkm1 zhkm2 zhkm3 zhkm4 zhkm5 zhkm6 zhkm7 zhkm8 zhkm9 mhkm
      have hkm := HKM.out.below hb HKM.out.lt
      have hk5 := HK5.out.below hb HK5.out.lt
      have hk6 := HK6.out.below hb HK6.out.lt
      have hs1 := HS1.out.below hb
      have hb0 : Below s w w6 := HBB5.out.trans (hb.mono (by have := HBB5.out.size; omega))
      have HKM := hid hkm
      have HK5 := hid hk5
      have HK6 := hid hk6
      have HS1 := hid hs1
      have HSB := hid hsb
      have HBB6 := hid hb0
      clear hb0 hb hkm hk5 hk6 hs1 hsb
      have zhk50 := HK5.out.cell 0
      have zhk51 := HK5.out.cell 1
      have lhk5 := HK5.out.lt
      simp only [List.getElem?_toArray, List.getElem?_cons_zero, List.getElem?_cons_succ] at zhk50 zhk51
      obtain ⟨p4, hz⟩ : ∃ p, w6.heap.size = p := ⟨_, rfl⟩
      rw [hz] at lhk5
      have mhk5 := Nat.lt_add_one_of_lt lhk5
      have hs1x := HS1.out.cap
      have hs1y := HS1.out.small
      go_wp2_with fail
      have hk8 : Blk (w6.alloc (.cells #[.int .i64 0, .int .i64 0] 32)) (p4) 32 #[.int .i64 0, .int .i64 0] := by
        have h := (Blk.new w6 32 #[.int .i64 0, .int .i64 0])
        rw [hz] at h; exact h
      have hkm := (HKM.out.alloc (.cells #[.int .i64 0, .int .i64 0] 32))
      have hk5 := (HK5.out.alloc (.cells #[.int .i64 0, .int .i64 0] 32))
      have hk6 := (HK6.out.alloc (.cells #[.int .i64 0, .int .i64 0] 32))
      have hs1 := HS1.out.below (bw_a (Below.refl w6.heap.size w6) (.cells #[.int .i64 0, .int .i64 0] 32))
      have hsb := HSB.out.below (bw_a (Below.refl w6.heap.size w6) (.cells #[.int .i64 0, .int .i64 0] 32))
      have hb0 : Below s w (w6.alloc (.cells #[.int .i64 0, .int .i64 0] 32)) := HBB6.out.trans ((bw_a (Below.refl w6.heap.size w6) (.cells #[.int .i64 0, .int .i64 0] 32)).mono (by have := HBB6.out.size; omega))
      have hsz : ((w6.alloc (.cells #[.int .i64 0, .int .i64 0] 32))).heap.size = p4 + 1 := by simp [hz]
      generalize hW7 : (w6.alloc (.cells #[.int .i64 0, .int .i64 0] 32)) = W7 at *
      have HKM := hid hkm
      have HK5 := hid hk5
      have HK6 := hid hk6
      have HK8 := hid hk8
      have HS1 := hid hs1
      have HSB := hid hsb
      have HBB7 := hid hb0
      have HSZ7 := hid hsz
      clear hb0 hsz hz hW7 hkm hk5 hk6 hk8 hs1 hsb
      refine (dec_st hk255 hv1 hv2 HEL.out HS1.out HR2.out).mono ?_
      rintro e w8 ⟨A5, c5, rfl, hs5, hb⟩
      clear lhk5 zhk50 zhk51 mhk5
      have hkm := HKM.out.below hb HKM.out.lt
      have hk5 := HK5.out.below hb HK5.out.lt
      have hk6 := HK6.out.below hb HK6.out.lt
      have hk8 := HK8.out.below hb HK8.out.lt
      have hs1 := HS1.out.below hb
      have hsb := HSB.out.below hb
      have hb0 : Below s w w8 := HBB7.out.trans (hb.mono (by have := HBB7.out.size; omega))
      have HKM := hid hkm
      have HK5 := hid hk5
      have HK6 := hid hk6
      have HK8 := hid hk8
      have HS1 := hid hs1
      have HSB := hid hsb
      have HS5 := hid hs5
      have HBB8 := hid hb0
      clear hb0 hb hkm hk5 hk6 hk8 hs1 hsb hs5
      have zhk60 := HK6.out.cell 0
      have zhk61 := HK6.out.cell 1
      have lhk6 := HK6.out.lt
      have zhk50 := HK5.out.cell 0
      have zhk51 := HK5.out.cell 1
      have lhk5 := HK5.out.lt
      have zhkm0 := HKM.out.cell 0
      have lhkm := HKM.out.lt
      simp only [List.getElem?_toArray, List.getElem?_cons_zero, List.getElem?_cons_succ] at zhk60 zhk61 zhk50 zhk51 zhkm0
      obtain ⟨p5, hz⟩ : ∃ p, w8.heap.size = p := ⟨_, rfl⟩
      rw [hz] at lhk6
      have mhk6 := Nat.lt_add_one_of_lt lhk6
      rw [hz] at lhk5
      have mhk5 := Nat.lt_add_one_of_lt lhk5
      rw [hz] at lhkm
      have mhkm := Nat.lt_add_one_of_lt lhkm
      go_wp2_with fail
      have hk9 : Blk ((w8.alloc (.cells #[.int .u8 (M2.k : Int), .int .u64 (M2.n0 : Int), .int .u64 (M2.n1 : Int), .int .u64 (M2.n2 : Int), .int .u64 (M2.n3 : Int), .int .u64 (M2.n4 : Int), .int .u64 (M2.n5 : Int), .string M2.s0, .string M2.s1, .slice A5 M2.l.length c5] 29)).alloc (.cells #[.int .i64 0, .int .i64 ((0 : Nat) : Int)] 32)) (p5) 29 #[.int .u8 (M2.k : Int), .int .u64 (M2.n0 : Int), .int .u64 (M2.n1 : Int), .int .u64 (M2.n2 : Int), .int .u64 (M2.n3 : Int), .int .u64 (M2.n4 : Int), .int .u64 (M2.n5 : Int), .string M2.s0, .string M2.s1, .slice A5 M2.l.length c5] := by
        have h := ((Blk.new w8 29 #[.int .u8 (M2.k : Int), .int .u64 (M2.n0 : Int), .int .u64 (M2.n1 : Int), .int .u64 (M2.n2 : Int), .int .u64 (M2.n3 : Int), .int .u64 (M2.n4 : Int), .int .u64 (M2.n5 : Int), .string M2.s0, .string M2.s1, .slice A5 M2.l.length c5]).alloc (.cells #[.int .i64 0, .int .i64 ((0 : Nat) : Int)] 32))
        rw [hz] at h; exact h
      have hk10 : Blk ((w8.alloc (.cells #[.int .u8 (M2.k : Int), .int .u64 (M2.n0 : Int), .int .u64 (M2.n1 : Int), .int .u64 (M2.n2 : Int), .int .u64 (M2.n3 : Int), .int .u64 (M2.n4 : Int), .int .u64 (M2.n5 : Int), .string M2.s0, .string M2.s1, .slice A5 M2.l.length c5] 29)).alloc (.cells #[.int .i64 0, .int .i64 ((0 : Nat) : Int)] 32)) (p5 + 1) 32 #[.int .i64 0, .int .i64 ((0 : Nat) : Int)] := by
        have h := (Blk.new (w8.alloc (.cells #[.int .u8 (M2.k : Int), .int .u64 (M2.n0 : Int), .int .u64 (M2.n1 : Int), .int .u64 (M2.n2 : Int), .int .u64 (M2.n3 : Int), .int .u64 (M2.n4 : Int), .int .u64 (M2.n5 : Int), .string M2.s0, .string M2.s1, .slice A5 M2.l.length c5] 29)) 32 #[.int .i64 0, .int .i64 ((0 : Nat) : Int)])
        rw [World.size_alloc, hz] at h; exact h
      have hkm := ((HKM.out.alloc (.cells #[.int .u8 (M2.k : Int), .int .u64 (M2.n0 : Int), .int .u64 (M2.n1 : Int), .int .u64 (M2.n2 : Int), .int .u64 (M2.n3 : Int), .int .u64 (M2.n4 : Int), .int .u64 (M2.n5 : Int), .string M2.s0, .string M2.s1, .slice A5 M2.l.length c5] 29)).alloc (.cells #[.int .i64 0, .int .i64 ((0 : Nat) : Int)] 32))
      have hk5 := ((HK5.out.alloc (.cells #[.int .u8 (M2.k : Int), .int .u64 (M2.n0 : Int), .int .u64 (M2.n1 : Int), .int .u64 (M2.n2 : Int), .int .u64 (M2.n3 : Int), .int .u64 (M2.n4 : Int), .int .u64 (M2.n5 : Int), .string M2.s0, .string M2.s1, .slice A5 M2.l.length c5] 29)).alloc (.cells #[.int .i64 0, .int .i64 ((0 : Nat) : Int)] 32))
      have hk6 := ((HK6.out.alloc (.cells #[.int .u8 (M2.k : Int), .int .u64 (M2.n0 : Int), .int .u64 (M2.n1 : Int), .int .u64 (M2.n2 : Int), .int .u64 (M2.n3 : Int), .int .u64 (M2.n4 : Int), .int .u64 (M2.n5 : Int), .string M2.s0, .string M2.s1, .slice A5 M2.l.length c5] 29)).alloc (.cells #[.int .i64 0, .int .i64 ((0 : Nat) : Int)] 32))
      have hk8 := ((HK8.out.alloc (.cells #[.int .u8 (M2.k : Int), .int .u64 (M2.n0 : Int), .int .u64 (M2.n1 : Int), .int .u64 (M2.n2 : Int), .int .u64 (M2.n3 : Int), .int .u64 (M2.n4 : Int), .int .u64 (M2.n5 : Int), .string M2.s0, .string M2.s1, .slice A5 M2.l.length c5] 29)).alloc (.cells #[.int .i64 0, .int .i64 ((0 : Nat) : Int)] 32))
      have hs1 := HS1.out.below (bw_a (bw_a (Below.refl w8.heap.size w8) (.cells #[.int .u8 (M2.k : Int), .int .u64 (M2.n0 : Int), .int .u64 (M2.n1 : Int), .int .u64 (M2.n2 : Int), .int .u64 (M2.n3 : Int), .int .u64 (M2.n4 : Int), .int .u64 (M2.n5 : Int), .string M2.s0, .string M2.s1, .slice A5 M2.l.length c5] 29)) (.cells #[.int .i64 0, .int .i64 ((0 : Nat) : Int)] 32))
      have hsb := HSB.out.below (bw_a (bw_a (Below.refl w8.heap.size w8) (.cells #[.int .u8 (M2.k : Int), .int .u64 (M2.n0 : Int), .int .u64 (M2.n1 : Int), .int .u64 (M2.n2 : Int), .int .u64 (M2.n3 : Int), .int .u64 (M2.n4 : Int), .int .u64 (M2.n5 : Int), .string M2.s0, .string M2.s1, .slice A5 M2.l.length c5] 29)) (.cells #[.int .i64 0, .int .i64 ((0 : Nat) : Int)] 32))
      have hs5 := HS5.out.below (bw_a (bw_a (Below.refl w8.heap.size w8) (.cells #[.int .u8 (M2.k : Int), .int .u64 (M2.n0 : Int), .int .u64 (M2.n1 : Int), .int .u64 (M2.n2 : Int), .int .u64 (M2.n3 : Int), .int .u64 (M2.n4 : Int), .int .u64 (M2.n5 : Int), .string M2.s0, .string M2.s1, .slice A5 M2.l.length c5] 29)) (.cells #[.int .i64 0, .int .i64 ((0 : Nat) : Int)] 32))
      have hb0 : Below s w ((w8.alloc (.cells #[.int .u8 (M2.k : Int), .int .u64 (M2.n0 : Int), .int .u64 (M2.n1 : Int), .int .u64 (M2.n2 : Int), .int .u64 (M2.n3 : Int), .int .u64 (M2.n4 : Int), .int .u64 (M2.n5 : Int), .string M2.s0, .string M2.s1, .slice A5 M2.l.length c5] 29)).alloc (.cells #[.int .i64 0, .int .i64 ((0 : Nat) : Int)] 32)) := HBB8.out.trans ((bw_a (bw_a (Below.refl w8.heap.size w8) (.cells #[.int .u8 (M2.k : Int), .int .u64 (M2.n0 : Int), .int .u64 (M2.n1 : Int), .int .u64 (M2.n2 : Int), .int .u64 (M2.n3 : Int), .int .u64 (M2.n4 : Int), .int .u64 (M2.n5 : Int), .string M2.s0, .string M2.s1, .slice A5 M2.l.length c5] 29)) (.cells #[.int .i64 0, .int .i64 ((0 : Nat) : Int)] 32)).mono (by have := HBB8.out.size; omega))
      have hsz : (((w8.alloc (.cells #[.int .u8 (M2.k : Int), .int .u64 (M2.n0 : Int), .int .u64 (M2.n1 : Int), .int .u64 (M2.n2 : Int), .int .u64 (M2.n3 : Int), .int .u64 (M2.n4 : Int), .int .u64 (M2.n5 : Int), .string M2.s0, .string M2.s1, .slice A5 M2.l.length c5] 29)).alloc (.cells #[.int .i64 0, .int .i64 ((0 : Nat) : Int)] 32))).heap.size = p5 + 1 + 1 := by simp [hz]
      generalize hW9 : ((w8.alloc (.cells #[.int .u8 (M2.k : Int), .int .u64 (M2.n0 : Int), .int .u64 (M2.n1 : Int), .int .u64 (M2.n2 : Int), .int .u64 (M2.n3 : Int), .int .u64 (M2.n4 : Int), .int .u64 (M2.n5 : Int), .string M2.s0, .string M2.s1, .slice A5 M2.l.length c5] 29)).alloc (.cells #[.int .i64 0, .int .i64 ((0 : Nat) : Int)] 32)) = W9 at *
      have HKM := hid hkm
      have HK5 := hid hk5
      have HK6 := hid hk6
      have HK8 := hid hk8
      have HK9 := hid hk9
      have HK10 := hid hk10
      have HS1 := hid hs1
      have HSB := hid hsb
      have HS5 := hid hs5
      have HBB9 := hid hb0
      have HSZ9 := hid hsz
      clear hb0 hsz hz hW9 hkm hk5 hk6 hk8 hk9 hk10 hs1 hsb hs5
      have hbs := bsame eb eb el el A1 A2 c1 c2 _ HEL.out HEL.out HS1.out HSB.out
      rw [decide_eq_true rfl] at hbs
      have HBS := hid hbs
      clear hbs
      refine (HBS.out).mono ?_
      rintro e w10 ⟨rfl, hb⟩
      clear lhk6 lhk5 lhkm zhk60 zhk61 zhk50 zhk51 zhkm0 mhk6 mhk5 mhkm
      have hkm := HKM.out.below hb HKM.out.lt
      have hk5 := HK5.out.below hb HK5.out.lt
      have hk6 := HK6.out.below hb HK6.out.lt
      have hk8 := HK8.out.below hb HK8.out.lt
      have hk9 := HK9.out.below hb HK9.out.lt
      have hk10 := HK10.out.below hb HK10.out.lt
      have hs1 := HS1.out.below hb
      have hsb := HSB.out.below hb
      have hs5 := HS5.out.below hb
      have hb0 : Below s w w10 := HBB9.out.trans (hb.mono (by have := HBB9.out.size; omega))
      have HKM := hid hkm
      have HK5 := hid hk5
      have HK6 := hid hk6
      have HK8 := hid hk8
      have HK9 := hid hk9
      have HK10 := hid hk10
      have HS1 := hid hs1
      have HSB := hid hsb
      have HS5 := hid hs5
      have HBB10 := hid hb0
      clear hb0 hb hkm hk5 hk6 hk8 hk9 hk10 hs1 hsb hs5
      have zhk100 := HK10.out.cell 0
      have zhk101 := HK10.out.cell 1
      have lhk10 := HK10.out.lt
      have zhk90 := HK9.out.cell 0
      have zhk91 := HK9.out.cell 1
      have zhk92 := HK9.out.cell 2
      have zhk93 := HK9.out.cell 3
      have zhk94 := HK9.out.cell 4
      have zhk95 := HK9.out.cell 5
      have zhk96 := HK9.out.cell 6
      have zhk97 := HK9.out.cell 7
      have zhk98 := HK9.out.cell 8
      have zhk99 := HK9.out.cell 9
      have lhk9 := HK9.out.lt
      have zhkm0 := HKM.out.cell 0
      have zhkm1 := HKM.out.cell 1
      have zhkm2 := HKM.out.cell 2
      have zhkm3 := HKM.out.cell 3
      have zhkm4 := HKM.out.cell 4
      have zhkm5 := HKM.out.cell 5
      have zhkm6 := HKM.out.cell 6
      have zhkm7 := HKM.out.cell 7
      have zhkm8 := HKM.out.cell 8
      have zhkm9 := HKM.out.cell 9
      have lhkm := HKM.out.lt
      simp only [List.getElem?_toArray, List.getElem?_cons_zero, List.getElem?_cons_succ] at zhk100 zhk101 zhk90 zhk91 zhk92 zhk93 zhk94 zhk95 zhk96 zhk97 zhk98 zhk99 zhkm0 zhkm1 zhkm2 zhkm3 zhkm4 zhkm5 zhkm6 zhkm7 zhkm8 zhkm9
      go_wp2_with fail
      have hsx := HSA.out _ M2 A5 c5 HS5.out (HML.out _ HBB10.out)
      rw [HS2.out] at hsx
      have HSX := hid hsx
      clear hsx
      refine (HSX.out).mono ?_
      rintro e w11 ⟨rfl, hb⟩
      clear lhk10 lhk9 lhkm zhk100 zhk101 zhk90 zhk91 zhk92 zhk93 zhk94 zhk95 zhk96 zhk97 zhk98 zhk99 zhkm0 zhkm1 zhkm2 zhkm3 zhkm4 zhkm5 zhkm6 zhkm7 zhkm8 zhkm9
      have hkm := HKM.out.below hb HKM.out.lt
      have hk5 := HK5.out.below hb HK5.out.lt
      have hk6 := HK6.out.below hb HK6.out.lt
      have hk8 := HK8.out.below hb HK8.out.lt
      have hk9 := HK9.out.below hb HK9.out.lt
      have hk10 := HK10.out.below hb HK10.out.lt
      have hs1 := HS1.out.below hb
      have hsb := HSB.out.below hb
      have hs5 := HS5.out.below hb
      have hb0 : Below s w w11 := HBB10.out.trans (hb.mono (by have := HBB10.out.size; omega))
      have HKM := hid hkm
      have HK5 := hid hk5
      have HK6 := hid hk6
      have HK8 := hid hk8
      have HK9 := hid hk9
      have HK10 := hid hk10
      have HS1 := hid hs1
      have HSB := hid hsb
      have HS5 := hid hs5
      have HBB11 := hid hb0
      clear hb0 hb hkm hk5 hk6 hk8 hk9 hk10 hs1 hsb hs5
      go_wp2_with fail
      go_ret
      exact ⟨rfl, HBB11.out⟩
    · have hof := HOB.out rfl he
      have hrb := HRB.out rfl
      have gb : (E1 != 0) = true := by simpa using he
      have HOF := hid hof
      have HRB2 := hid hrb
      have HEE := hid he
      clear hof hrb HOB HOG HRB HBK he
      have zhkm0 := HKM.out.cell 0
      have zhkm1 := HKM.out.cell 1
      have zhkm2 := HKM.out.cell 2
      have zhkm3 := HKM.out.cell 3
      have zhkm4 := HKM.out.cell 4
      have zhkm5 := HKM.out.cell 5
      have zhkm6 := HKM.out.cell 6
      have zhkm7 := HKM.out.cell 7
      have zhkm8 := HKM.out.cell 8
      have zhkm9 := HKM.out.cell 9
      have lhkm := HKM.out.lt
      simp only [List.getElem?_toArray, List.getElem?_cons_zero, List.getElem?_cons_succ] at zhkm0 zhkm1 zhkm2 zhkm3 zhkm4 zhkm5 zhkm6 zhkm7 zhkm8 zhkm9
      go_wp2_with fail
      refine (HOF.out _ HBB3.out).mono ?_
      rintro e w4 ⟨rfl, hb⟩
      clear lhkm zhkm0 zhkm1 zhkm2 zhkm3 zhkm4 zhkm5 zhkm6 zhkm7 zhkm8 zhkm9
      have hkm := HKM.out.below hb HKM.out.lt
      have hb0 : Below s w w4 := HBB3.out.trans (hb.mono (by have := HBB3.out.size; omega))
      have HKM := hid hkm
      have HBB4 := hid hb0
      clear hb0 hb hkm
      have zhkm0 := HKM.out.cell 0
      have zhkm1 := HKM.out.cell 1
      have zhkm2 := HKM.out.cell 2
      have zhkm3 := HKM.out.cell 3
      have zhkm4 := HKM.out.cell 4
      have zhkm5 := HKM.out.cell 5
      have zhkm6 := HKM.out.cell 6
      have zhkm7 := HKM.out.cell 7
      have zhkm8 := HKM.out.cell 8
      have zhkm9 := HKM.out.cell 9
      have lhkm := HKM.out.lt
      simp only [List.getElem?_toArray, List.getElem?_cons_zero, List.getElem?_cons_succ] at zhkm0 zhkm1 zhkm2 zhkm3 zhkm4 zhkm5 zhkm6 zhkm7 zhkm8 zhkm9
      obtain ⟨p3, hz⟩ : ∃ p, w4.heap.size = p := ⟨_, rfl⟩
      rw [hz] at lhkm
      have mhkm := Nat.lt_add_one_of_lt lhkm
      go_wp2_with fail
      have hk5 : Blk ((w4.alloc (.cells #[.int .u8 0, .slice none 0 0] 42)).alloc (.cells #[.int .i64 E1, .int .i64 E2] 32)) (p3) 42 #[.int .u8 0, .slice none 0 0] := by
        have h := ((Blk.new w4 42 #[.int .u8 0, .slice none 0 0]).alloc (.cells #[.int .i64 E1, .int .i64 E2] 32))
        rw [hz] at h; exact h
      have hk6 : Blk ((w4.alloc (.cells #[.int .u8 0, .slice none 0 0] 42)).alloc (.cells #[.int .i64 E1, .int .i64 E2] 32)) (p3 + 1) 32 #[.int .i64 E1, .int .i64 E2] := by
        have h := (Blk.new (w4.alloc (.cells #[.int .u8 0, .slice none 0 0] 42)) 32 #[.int .i64 E1, .int .i64 E2])
        rw [World.size_alloc, hz] at h; exact h
      have hkm := ((HKM.out.alloc (.cells #[.int .u8 0, .slice none 0 0] 42)).alloc (.cells #[.int .i64 E1, .int .i64 E2] 32))
      have hb0 : Below s w ((w4.alloc (.cells #[.int .u8 0, .slice none 0 0] 42)).alloc (.cells #[.int .i64 E1, .int .i64 E2] 32)) := HBB4.out.trans ((bw_a (bw_a (Below.refl w4.heap.size w4) (.cells #[.int .u8 0, .slice none 0 0] 42)) (.cells #[.int .i64 E1, .int .i64 E2] 32)).mono (by have := HBB4.out.size; omega))
      have hsz : (((w4.alloc (.cells #[.int .u8 0, .slice none 0 0] 42)).alloc (.cells #[.int .i64 E1, .int .i64 E2] 32))).heap.size = p3 + 1 + 1 := by simp [hz]
      generalize hW5 : ((w4.alloc (.cells #[.int .u8 0, .slice none 0 0] 42)).alloc (.cells #[.int .i64 E1, .int .i64 E2] 32)) = W5 at *
      have HKM := hid hkm
      have HK5 := hid hk5
      have HK6 := hid hk6
      have HBB5 := hid hb0
      have HSZ5 := hid hsz
      clear hb0 hsz hz hW5 hkm hk5 hk6
      refine (HRB2.out _ HBB5.out).mono ?_
      rintro e w6 ⟨A2, c2, rfl, hsb, -, hb⟩
      clear lhkm zhkm0 zhkm1 zhkm2 zhkm3 zhkm4 zhkm5 zhkm6 zhkm7 zhkm8 zhkm9 mhkm
      have hkm := HKM.out.below hb HKM.out.lt
      have hk5 := HK5.out.below hb HK5.out.lt
      have hk6 := HK6.out.below hb HK6.out.lt
      have hb0 : Below s w w6 := HBB5.out.trans (hb.mono (by have := HBB5.out.size; omega))
      have HKM := hid hkm
      have HK5 := hid hk5
      have HK6 := hid hk6
      have HBB6 := hid hb0
      clear hb0 hb hkm hk5 hk6
      have zhk50 := HK5.out.cell 0
      have zhk51 := HK5.out.cell 1
      have lhk5 := HK5.out.lt
      have zhk60 := HK6.out.cell 0
      have zhk61 := HK6.out.cell 1
      have lhk6 := HK6.out.lt
      simp only [List.getElem?_toArray, List.getElem?_cons_zero, List.getElem?_cons_succ] at zhk50 zhk51 zhk60 zhk61
      obtain ⟨p4, hz⟩ : ∃ p, w6.heap.size = p := ⟨_, rfl⟩
      rw [hz] at lhk5
      have mhk5 := Nat.lt_add_one_of_lt lhk5
      rw [hz] at lhk6
      have mhk6 := Nat.lt_add_one_of_lt lhk6
      go_wp2_with fail
      have hk8 : Blk (w6.alloc (.cells #[.int .i64 E1, .int .i64 E2] 32)) (p4) 32 #[.int .i64 E1, .int .i64 E2] := by
        have h := (Blk.new w6 32 #[.int .i64 E1, .int .i64 E2])
        rw [hz] at h; exact h
      have hkm := (HKM.out.alloc (.cells #[.int .i64 E1, .int .i64 E2] 32))
      have hk5 := (HK5.out.alloc (.cells #[.int .i64 E1, .int .i64 E2] 32))
      have hk6 := (HK6.out.alloc (.cells #[.int .i64 E1, .int .i64 E2] 32))
      have hb0 : Below s w (w6.alloc (.cells #[.int .i64 E1, .int .i64 E2] 32)) := HBB6.out.trans ((bw_a (Below.refl w6.heap.size w6) (.cells #[.int .i64 E1, .int .i64 E2] 32)).mono (by have := HBB6.out.size; omega))
      have hsz : ((w6.alloc (.cells #[.int .i64 E1, .int .i64 E2] 32))).heap.size = p4 + 1 := by simp [hz]
      generalize hW7 : (w6.alloc (.cells #[.int .i64 E1, .int .i64 E2] 32)) = W7 at *
      have HKM := hid hkm
      have HK5 := hid hk5
      have HK6 := hid hk6
      have HK8 := hid hk8
      have HBB7 := hid hb0
      have HSZ7 := hid hsz
      clear hb0 hsz hz hW7 hkm hk5 hk6 hk8
      refine (fsame_zero _).mono ?_
      rintro e w8 ⟨rfl, hb⟩
      clear lhk5 lhk6 zhk50 zhk51 zhk60 zhk61 mhk5 mhk6
      have hkm := HKM.out.below hb HKM.out.lt
      have hk5 := HK5.out.below hb HK5.out.lt
      have hk6 := HK6.out.below hb HK6.out.lt
      have hk8 := HK8.out.below hb HK8.out.lt
      have hb0 : Below s w w8 := HBB7.out.trans (hb.mono (by have := HBB7.out.size; omega))
      have HKM := hid hkm
      have HK5 := hid hk5
      have HK6 := hid hk6
      have HK8 := hid hk8
      have HBB8 := hid hb0
      clear hb0 hb hkm hk5 hk6 hk8
      go_wp2_with fail
      go_ret
      exact ⟨rfl, HBB8.out⟩
end Go.Proofs.YtealjpolomhdeaaGreat
