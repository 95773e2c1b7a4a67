/- The walk of WholeFixed. -/
import Derived.Test.YtealjpolomhdeaaLawWv
import Derived.Test.YtealjpolomhdeaaG18
import Derived.Test.YtealjpolomhdeaaG16
import Derived.Test.YtealjpolomhdeaaG2
set_option linter.unusedVariables false
namespace Go.Proofs.Ytealjpolomhdeaa
open Go.RowKit
theorem fx_all (l : List FV) (h : ∀ f ∈ l, (pBF f).length ≤ 120) : (l.flatMap pBF).length ≤ 120 * l.length := by
  induction l with
  | nil => simp
  | cons f fs ih =>
    rw [List.flatMap_cons, List.length_append, List.length_cons]
    have h1 := h f (List.mem_cons_self ..)
    have h2 := ih (fun g hg => h g (List.mem_cons_of_mem _ hg))
    omega
theorem fx_read {M : MV} (v : Int) (hn : ∀ i, M.num i ≤ 18446744073709551615) (hsm : MvSm M) (hc : (chkV M (ofL (M.k : Int) v)).1 = 0) (w : World) (good : List FV) (h1 : ∀ f ∈ good, FvOk w f ∧ f.s.xs.length ≤ 100 ∧ 7 < f.num) (hp : ∀ f ∈ good, pErrF f = 0) (h20 : good.length ≤ 20) (hel : (encB M (ofL (M.k : Int) v)).length ≤ 4000) :
    ∃ M2 oth, readR M.k v (encB M (ofL (M.k : Int) v) ++ good.flatMap pBF) = (M2, oth, 0, 0) ∧ sameB M2 M = true ∧ oth.length = good.length ∧ (good.flatMap pBF).length ≤ 2400 := by
  have hb : (good.flatMap pBF).length ≤ 120 * good.length := fx_all good fun f hf => by
    obtain ⟨g1, g2, g3⟩ := h1 f hf
    have hm := mk_facts f.num f.w g1.w0 g1.w1
    have e2 := putN_length10 (n := (mk f.num f.w).1.toNat) (by omega)
    have e3 := pTail_len (x := f.w) (xs := f.s.xs) g1.n (by omega)
    unfold pBF pB
    rw [List.length_append]
    omega
  have he : (good.map k4).flatMap wB = good.flatMap pBF := by rw [List.flatMap_map]; rfl
  obtain ⟨M2, oth, r1, r2, r3⟩ := read_more v hn hsm hc (good.map k4) (fun x hx => by
    obtain ⟨f, hf, rfl⟩ := List.mem_map.1 hx
    obtain ⟨g1, g2, g3⟩ := h1 f hf
    exact ⟨⟨hp f hf, g1.n, g1.w0, g1.w1⟩, g3⟩) (by rw [he]; omega)
  rw [he] at r1
  exact ⟨M2, oth, r1, r2, by rw [r3, List.length_map], by omega⟩
set_option maxRecDepth 100000 in
set_option maxHeartbeats 8000000 in
theorem wholeFixed_bad (k : Nat) (v : Int) (bs : List UInt8) (n : Nat) (A : Option Addr) (c : Nat) (l : List FV) (m : Nat) (A0 : Option Addr) (c0 : Nat) (w : World) (hk : k ≤ 255) (hv1 : -9223372036854775808 ≤ v) (hv2 : v ≤ 9223372036854775807) (hn : bs.length = n) (hs : Sl w A c (bs.map bv)) (hm : l.length = m) (hl : SlN w A0 m c0 5 (l.flatMap fvC)) (hok : ∀ f ∈ l, FvOk w f) {E : Int} {P : Nat} (hE : E ≠ 0) (hr : readR k v bs = (ZM, [], E, P)) :
    Calls Try.prog 9 #[.int .u8 (k : Int), .int .i64 v, .slice A n c, .slice A0 m c0] w fun e w' => e = .returned (.bool true) ∧ Below w.heap.size w w' := by
  have hlv := fun W => awake6_any W
  have hcm : m ≤ 9223372036854775807 := by have g1 := hl.cap; have g2 := hl.small; omega
  obtain ⟨s, hws⟩ : ∃ s, w.heap.size = s := ⟨_, rfl⟩
  have hsl : ∀ W, Below s w W → Sl W A c (bs.map bv) := fun W hW => hs.below (by rw [hws]; exact hW)
  have hd1 : ∀ W, Below s w W → Calls Try.prog 11 #[.int .u8 (k : Int), .int .i64 v, .slice A n c] W fun e w' => ∃ A' c', e = .returned (.tuple #[.agg #[.int .u8 (ZM.k : Int), .int .u64 (ZM.n0 : Int), .int .u64 (ZM.n1 : Int), .int .u64 (ZM.n2 : Int), .int .u64 (ZM.n3 : Int), .int .u64 (ZM.n4 : Int), .int .u64 (ZM.n5 : Int), .string ZM.s0, .string ZM.s1, .slice A' ZM.l.length c'], .agg #[.int .i64 E, .int .i64 (P : Int)]]) ∧ Sl w' A' c' (ZM.l.map sv) ∧ Below W.heap.size W w' := fun W hW => (dec_p hk hv1 hv2 hn (hsl W hW) hr).mono (by rintro e w' ⟨A', c', he, ho, hb⟩; exact ⟨A', c', he, ho.sl, hb⟩)
  have gb : (E != 0) = true := by simpa using hE
  rw [hws]
  have HLV := hid hlv
  have HD1 := hid hd1
  clear hlv hd1 hsl hs hn hr hl hok hm
  generalize ((P : Nat) : Int) = P at *
  go_enter Try.func9, Try.ntmps9
  go_wp2_with fail
  refine (HLV.out w).mono ?_
  rintro e w1 ⟨rfl, hb⟩
  have hb0 : Below s w w1 := by rw [← hws]; exact hb
  have HBB1 := hid hb0
  clear hb0 hb 
  by_cases hn1 : 4000 < n
  · have hn2 : (4000 : Int) < (n : Int) := by omega
    go_wp2_with fail
    go_ret
    exact ⟨rfl, HBB1.out⟩
  have hn2 : ¬ (4000 : Int) < (n : Int) := by omega
  by_cases hq1 : 20 < m
  · have hq2 : (20 : Int) < (m : Int) := by omega
    go_wp2_with fail
    go_ret
    exact ⟨rfl, HBB1.out⟩
  have hq2 : ¬ (20 : Int) < (m : Int) := by omega
  have hn3 : decide ((4000 : Int) < (n : Int)) = false := by simpa using hn2
  have hq3 : decide ((20 : Int) < (m : Int)) = false := by simpa using hq2
  go_wp2_with fail
  refine (HD1.out _ HBB1.out).mono ?_
  rintro e w2 ⟨A1, c1, rfl, hs1, hb⟩
  have hb0 : Below s w w2 := HBB1.out.trans (hb.mono (by have := HBB1.out.size; omega))
  have HS1 := hid hs1
  have HBB2 := hid hb0
  clear hb0 hb hs1
  obtain ⟨p2, hz⟩ : ∃ p, w2.heap.size = p := ⟨_, rfl⟩
  go_wp2_with fail
  have hk9 : Blk ((w2.alloc (.cells #[.int .u8 (ZM.k : Int), .int .u64 (ZM.n0 : Int), .int .u64 (ZM.n1 : Int), .int .u64 (ZM.n2 : Int), .int .u64 (ZM.n3 : Int), .int .u64 (ZM.n4 : Int), .int .u64 (ZM.n5 : Int), .string ZM.s0, .string ZM.s1, .slice A1 ZM.l.length c1] 29)).alloc (.cells #[.int .i64 E, .int .i64 P] 32)) (p2) 29 #[.int .u8 (ZM.k : Int), .int .u64 (ZM.n0 : Int), .int .u64 (ZM.n1 : Int), .int .u64 (ZM.n2 : Int), .int .u64 (ZM.n3 : Int), .int .u64 (ZM.n4 : Int), .int .u64 (ZM.n5 : Int), .string ZM.s0, .string ZM.s1, .slice A1 ZM.l.length c1] := by
    have h := ((Blk.new w2 29 #[.int .u8 (ZM.k : Int), .int .u64 (ZM.n0 : Int), .int .u64 (ZM.n1 : Int), .int .u64 (ZM.n2 : Int), .int .u64 (ZM.n3 : Int), .int .u64 (ZM.n4 : Int), .int .u64 (ZM.n5 : Int), .string ZM.s0, .string ZM.s1, .slice A1 ZM.l.length c1]).alloc (.cells #[.int .i64 E, .int .i64 P] 32))
    rw [hz] at h; exact h
  have hk10 : Blk ((w2.alloc (.cells #[.int .u8 (ZM.k : Int), .int .u64 (ZM.n0 : Int), .int .u64 (ZM.n1 : Int), .int .u64 (ZM.n2 : Int), .int .u64 (ZM.n3 : Int), .int .u64 (ZM.n4 : Int), .int .u64 (ZM.n5 : Int), .string ZM.s0, .string ZM.s1, .slice A1 ZM.l.length c1] 29)).alloc (.cells #[.int .i64 E, .int .i64 P] 32)) (p2 + 1) 32 #[.int .i64 E, .int .i64 P] := by
    have h := (Blk.new (w2.alloc (.cells #[.int .u8 (ZM.k : Int), .int .u64 (ZM.n0 : Int), .int .u64 (ZM.n1 : Int), .int .u64 (ZM.n2 : Int), .int .u64 (ZM.n3 : Int), .int .u64 (ZM.n4 : Int), .int .u64 (ZM.n5 : Int), .string ZM.s0, .string ZM.s1, .slice A1 ZM.l.length c1] 29)) 32 #[.int .i64 E, .int .i64 P])
    rw [World.size_alloc, hz] at h; exact h
  have hs1 := HS1.out.below (bw_a (bw_a (Below.refl w2.heap.size w2) (.cells #[.int .u8 (ZM.k : Int), .int .u64 (ZM.n0 : Int), .int .u64 (ZM.n1 : Int), .int .u64 (ZM.n2 : Int), .int .u64 (ZM.n3 : Int), .int .u64 (ZM.n4 : Int), .int .u64 (ZM.n5 : Int), .string ZM.s0, .string ZM.s1, .slice A1 ZM.l.length c1] 29)) (.cells #[.int .i64 E, .int .i64 P] 32))
  have hb0 : Below s w ((w2.alloc (.cells #[.int .u8 (ZM.k : Int), .int .u64 (ZM.n0 : Int), .int .u64 (ZM.n1 : Int), .int .u64 (ZM.n2 : Int), .int .u64 (ZM.n3 : Int), .int .u64 (ZM.n4 : Int), .int .u64 (ZM.n5 : Int), .string ZM.s0, .string ZM.s1, .slice A1 ZM.l.length c1] 29)).alloc (.cells #[.int .i64 E, .int .i64 P] 32)) := HBB2.out.trans ((bw_a (bw_a (Below.refl w2.heap.size w2) (.cells #[.int .u8 (ZM.k : Int), .int .u64 (ZM.n0 : Int), .int .u64 (ZM.n1 : Int), .int .u64 (ZM.n2 : Int), .int .u64 (ZM.n3 : Int), .int .u64 (ZM.n4 : Int), .int .u64 (ZM.n5 : Int), .string ZM.s0, .string ZM.s1, .slice A1 ZM.l.length c1] 29)) (.cells #[.int .i64 E, .int .i64 P] 32)).mono (by have := HBB2.out.size; omega))
  have hsz : (((w2.alloc (.cells #[.int .u8 (ZM.k : Int), .int .u64 (ZM.n0 : Int), .int .u64 (ZM.n1 : Int), .int .u64 (ZM.n2 : Int), .int .u64 (ZM.n3 : Int), .int .u64 (ZM.n4 : Int), .int .u64 (ZM.n5 : Int), .string ZM.s0, .string ZM.s1, .slice A1 ZM.l.length c1] 29)).alloc (.cells #[.int .i64 E, .int .i64 P] 32))).heap.size = p2 + 1 + 1 := by simp [hz]
  generalize hW3 : ((w2.alloc (.cells #[.int .u8 (ZM.k : Int), .int .u64 (ZM.n0 : Int), .int .u64 (ZM.n1 : Int), .int .u64 (ZM.n2 : Int), .int .u64 (ZM.n3 : Int), .int .u64 (ZM.n4 : Int), .int .u64 (ZM.n5 : Int), .string ZM.s0, .string ZM.s1, .slice A1 ZM.l.length c1] 29)).alloc (.cells #[.int .i64 E, .int .i64 P] 32)) = W3 at *
  have HK9 := hid hk9
  have HK10 := hid hk10
  have HS1 := hid hs1
  have HBB3 := hid hb0
  have HSZ3 := hid hsz
  clear hb0 hsz hz hW3 hk9 hk10 hs1
  have zhk100 := HK10.out.cell 0
  have zhk101 := HK10.out.cell 1
  have lhk10 := HK10.out.lt
  have zhk90 := HK9.out.cell 0
  have zhk91 := HK9.out.cell 1
  have zhk92 := HK9.out.cell 2
  have zhk93 := HK9.out.cell 3
  have zhk94 := HK9.out.cell 4
  have zhk95 := HK9.out.cell 5
  have zhk96 := HK9.out.cell 6
  have zhk97 := HK9.out.cell 7
  have zhk98 := HK9.out.cell 8
  have zhk99 := HK9.out.cell 9
  have lhk9 := HK9.out.lt
  simp only [List.getElem?_toArray, List.getElem?_cons_zero, List.getElem?_cons_succ] at zhk100 zhk101 zhk90 zhk91 zhk92 zhk93 zhk94 zhk95 zhk96 zhk97 zhk98 zhk99
  go_wp2_with fail
  refine ((zero_sameS HS1.out)).mono ?_
  rintro e w4 ⟨rfl, hb⟩
  clear lhk10 lhk9 zhk100 zhk101 zhk90 zhk91 zhk92 zhk93 zhk94 zhk95 zhk96 zhk97 zhk98 zhk99
  have hk9 := HK9.out.below hb HK9.out.lt
  have hk10 := HK10.out.below hb HK10.out.lt
  have hs1 := HS1.out.below hb
  have hb0 : Below s w w4 := HBB3.out.trans (hb.mono (by have := HBB3.out.size; omega))
  have HK9 := hid hk9
  have HK10 := hid hk10
  have HS1 := hid hs1
  have HBB4 := hid hb0
  clear hb0 hb hk9 hk10 hs1
  go_wp2_with fail
  go_ret
  exact ⟨rfl, HBB4.out⟩
set_option maxRecDepth 100000 in
set_option maxHeartbeats 16000000 in
theorem wholeFixed_good (v : Int) (bs : List UInt8) (n : Nat) (A : Option Addr) (c : Nat) (l : List FV) (m : Nat) (A0 : Option Addr) (c0 : Nat) (w : World) {M : MV} {O : List (RF × Nat)} (hk : M.k ≤ 255) (hv1 : -9223372036854775808 ≤ v) (hv2 : v ≤ 9223372036854775807) (hn : bs.length = n) (hs : Sl w A c (bs.map bv)) (hm : l.length = m) (hl : SlN w A0 m c0 5 (l.flatMap fvC)) (hok : ∀ f ∈ l, FvOk w f) (hr : readR M.k v bs = (M, O, 0, 0)) (hg : Good M.k v M) (hc : chkV M (ofL (M.k : Int) v) = (0, 0)) (hR : strR M.k v bs = (M, encB M (ofL (M.k : Int) v), 0, 0)) :
    Calls Try.prog 9 #[.int .u8 (M.k : Int), .int .i64 v, .slice A n c, .slice A0 m c0] w fun e w' => e = .returned (.bool true) ∧ Below w.heap.size w w' := by
  have hlv := fun W => awake6_any W
  have hcm : m ≤ 9223372036854775807 := by have g1 := hl.cap; have g2 := hl.small; omega
  obtain ⟨s, hws⟩ : ∃ s, w.heap.size = s := ⟨_, rfl⟩
  have hsl : ∀ W, Below s w W → Sl W A c (bs.map bv) := fun W hW => hs.below (by rw [hws]; exact hW)
  have hc0 : (chkV M (ofL (M.k : Int) v)).1 = 0 := by rw [hc]
  obtain ⟨i5, hi5, hi50, hi51, hi52⟩ := info_parts Try.infoField
  obtain ⟨M2, hb1, hb2⟩ := str_back v hg.hn (good_sm hg) hc0
  have hsh := enc_short hr hg hc0
  have hrd := fun good h1 hp h20 h4 => fx_read v hg.hn (good_sm hg) hc0 w good h1 hp h20 h4
  obtain ⟨eb, heb⟩ : ∃ eb, encB M (ofL (M.k : Int) v) = eb := ⟨_, rfl⟩
  rw [heb] at hb1 hR hsh hrd
  obtain ⟨el, hel⟩ : ∃ el, eb.length = el := ⟨_, rfl⟩
  rw [hel, hn] at hsh
  rw [hel] at hrd
  have hd1 : ∀ W, Below s w W → Calls Try.prog 11 #[.int .u8 (M.k : Int), .int .i64 v, .slice A n c] W fun e w' => ∃ A' c', e = .returned (.tuple #[.agg #[.int .u8 (M.k : Int), .int .u64 (M.n0 : Int), .int .u64 (M.n1 : Int), .int .u64 (M.n2 : Int), .int .u64 (M.n3 : Int), .int .u64 (M.n4 : Int), .int .u64 (M.n5 : Int), .string M.s0, .string M.s1, .slice A' M.l.length c'], .agg #[.int .i64 0, .int .i64 ((0 : Nat) : Int)]]) ∧ Sl w' A' c' (M.l.map sv) ∧ Below W.heap.size W w' := fun W hW => (dec_p hk hv1 hv2 hn (hsl W hW) hr).mono (by rintro e w' ⟨A', c', he, ho, hb⟩; exact ⟨A', c', he, ho.sl, hb⟩)
  have hd2 : ∀ W, Below s w W → Calls Try.prog 23 #[.int .u8 (M.k : Int), .int .i64 v, .slice A n c] W fun e w' => ∃ A' c', e = .returned (.tuple #[.slice A' el c', .agg #[.int .i64 0, .int .i64 ((0 : Nat) : Int)]]) ∧ Sl w' A' c' (eb.map bv) ∧ Below W.heap.size W w' := fun W hW => (tfix_any M.k v bs n A c W hk hv1 hv2 hn (hsl W hW)).mono (by rw [hR]; rintro e w' ⟨A', c', he, ho, hb⟩; simp only [hel] at he; exact ⟨A', c', he, ho.sl, hb⟩)
  have hd4 : ∀ W A' c', Sl W A' c' (eb.map bv) → _ := fun W A' c' h => dec_st (w := W) hk hv1 hv2 hel h hb1
  have hsa := fun W (R : MV) A' c' B d h1 h2 => msame R M A' c' B d M.l.length W rfl h1 h2
  have hjo := fun W (db : List UInt8) (dl : Nat) A' c' B' d' (hd : db.length = dl) (hq : dl ≤ 2400) (h4 : el ≤ 4000) (h1 : Sl W A' c' (eb.map bv)) (h2 : Sl W B' d' (db.map bv)) => (rjoin2_own eb db el dl A' B' c' d' W hel hd (by omega) h1 h2).mono (R' := fun e w' => ∃ A'' c'', e = .returned (.slice A'' (el + dl) c'') ∧ Sl w' A'' c'' ((eb ++ db).map bv) ∧ Below W.heap.size W w') (by rintro e w' ⟨v', rfl, ho, hb⟩; obtain ⟨A'', c'', rfl⟩ := row_slice' ho; exact ⟨A'', c'', rfl, Sl.of_own' ho, hb⟩)
  rw [hws]
  have HLV := hid hlv
  have HD1 := hid hd1
  have HD2 := hid hd2
  have HD4 := hid hd4
  have HSA := hid hsa
  have HS2M := hid hb2
  have HRD := hid hrd
  have HJO := hid hjo
  have HL := hid hl
  have HOK := hid hok
  have HM := hid hm
  have HWS := hid hws
  have HEL := hid hel
  have HC0 := hid hc0
  clear hlv hd1 hd2 hd4 hsa hsl hs hn hr hR hb1 hb2 hrd hjo hl hok hm hel hg hc hc0 heb
  go_enter Try.func9, Try.ntmps9
  go_wp2_with fail
  refine (HLV.out w).mono ?_
  rintro e w1 ⟨rfl, hb⟩
  have hb0 : Below s w w1 := by rw [← hws]; exact hb
  have HBB1 := hid hb0
  clear hb0 hb 
  by_cases hn1 : 4000 < n
  · have hn2 : (4000 : Int) < (n : Int) := by omega
    go_wp2_with fail
    go_ret
    exact ⟨rfl, HBB1.out⟩
  have hn2 : ¬ (4000 : Int) < (n : Int) := by omega
  by_cases hq1 : 20 < m
  · have hq2 : (20 : Int) < (m : Int) := by omega
    go_wp2_with fail
    go_ret
    exact ⟨rfl, HBB1.out⟩
  have hq2 : ¬ (20 : Int) < (m : Int) := by omega
  have hn3 : decide ((4000 : Int) < (n : Int)) = false := by simpa using hn2
  have hq3 : decide ((20 : Int) < (m : Int)) = false := by simpa using hq2
  go_wp2_with fail
  refine (HD1.out _ HBB1.out).mono ?_
  rintro e w2 ⟨A1, c1, rfl, hs1, hb⟩
  have hb0 : Below s w w2 := HBB1.out.trans (hb.mono (by have := HBB1.out.size; omega))
  have HS1 := hid hs1
  have HBB2 := hid hb0
  clear hb0 hb hs1
  obtain ⟨p2, hz⟩ : ∃ p, w2.heap.size = p := ⟨_, rfl⟩
  go_wp2_with fail
  have hk9 : Blk ((w2.alloc (.cells #[.int .u8 (M.k : Int), .int .u64 (M.n0 : Int), .int .u64 (M.n1 : Int), .int .u64 (M.n2 : Int), .int .u64 (M.n3 : Int), .int .u64 (M.n4 : Int), .int .u64 (M.n5 : Int), .string M.s0, .string M.s1, .slice A1 M.l.length c1] 29)).alloc (.cells #[.int .i64 0, .int .i64 ((0 : Nat) : Int)] 32)) (p2) 29 #[.int .u8 (M.k : Int), .int .u64 (M.n0 : Int), .int .u64 (M.n1 : Int), .int .u64 (M.n2 : Int), .int .u64 (M.n3 : Int), .int .u64 (M.n4 : Int), .int .u64 (M.n5 : Int), .string M.s0, .string M.s1, .slice A1 M.l.length c1] := by
    have h := ((Blk.new w2 29 #[.int .u8 (M.k : Int), .int .u64 (M.n0 : Int), .int .u64 (M.n1 : Int), .int .u64 (M.n2 : Int), .int .u64 (M.n3 : Int), .int .u64 (M.n4 : Int), .int .u64 (M.n5 : Int), .string M.s0, .string M.s1, .slice A1 M.l.length c1]).alloc (.cells #[.int .i64 0, .int .i64 ((0 : Nat) : Int)] 32))
    rw [hz] at h; exact h
  have hk10 : Blk ((w2.alloc (.cells #[.int .u8 (M.k : Int), .int .u64 (M.n0 : Int), .int .u64 (M.n1 : Int), .int .u64 (M.n2 : Int), .int .u64 (M.n3 : Int), .int .u64 (M.n4 : Int), .int .u64 (M.n5 : Int), .string M.s0, .string M.s1, .slice A1 M.l.length c1] 29)).alloc (.cells #[.int .i64 0, .int .i64 ((0 : Nat) : Int)] 32)) (p2 + 1) 32 #[.int .i64 0, .int .i64 ((0 : Nat) : Int)] := by
    have h := (Blk.new (w2.alloc (.cells #[.int .u8 (M.k : Int), .int .u64 (M.n0 : Int), .int .u64 (M.n1 : Int), .int .u64 (M.n2 : Int), .int .u64 (M.n3 : Int), .int .u64 (M.n4 : Int), .int .u64 (M.n5 : Int), .string M.s0, .string M.s1, .slice A1 M.l.length c1] 29)) 32 #[.int .i64 0, .int .i64 ((0 : Nat) : Int)])
    rw [World.size_alloc, hz] at h; exact h
  have hs1 := HS1.out.below (bw_a (bw_a (Below.refl w2.heap.size w2) (.cells #[.int .u8 (M.k : Int), .int .u64 (M.n0 : Int), .int .u64 (M.n1 : Int), .int .u64 (M.n2 : Int), .int .u64 (M.n3 : Int), .int .u64 (M.n4 : Int), .int .u64 (M.n5 : Int), .string M.s0, .string M.s1, .slice A1 M.l.length c1] 29)) (.cells #[.int .i64 0, .int .i64 ((0 : Nat) : Int)] 32))
  have hb0 : Below s w ((w2.alloc (.cells #[.int .u8 (M.k : Int), .int .u64 (M.n0 : Int), .int .u64 (M.n1 : Int), .int .u64 (M.n2 : Int), .int .u64 (M.n3 : Int), .int .u64 (M.n4 : Int), .int .u64 (M.n5 : Int), .string M.s0, .string M.s1, .slice A1 M.l.length c1] 29)).alloc (.cells #[.int .i64 0, .int .i64 ((0 : Nat) : Int)] 32)) := HBB2.out.trans ((bw_a (bw_a (Below.refl w2.heap.size w2) (.cells #[.int .u8 (M.k : Int), .int .u64 (M.n0 : Int), .int .u64 (M.n1 : Int), .int .u64 (M.n2 : Int), .int .u64 (M.n3 : Int), .int .u64 (M.n4 : Int), .int .u64 (M.n5 : Int), .string M.s0, .string M.s1, .slice A1 M.l.length c1] 29)) (.cells #[.int .i64 0, .int .i64 ((0 : Nat) : Int)] 32)).mono (by have := HBB2.out.size; omega))
  have hsz : (((w2.alloc (.cells #[.int .u8 (M.k : Int), .int .u64 (M.n0 : Int), .int .u64 (M.n1 : Int), .int .u64 (M.n2 : Int), .int .u64 (M.n3 : Int), .int .u64 (M.n4 : Int), .int .u64 (M.n5 : Int), .string M.s0, .string M.s1, .slice A1 M.l.length c1] 29)).alloc (.cells #[.int .i64 0, .int .i64 ((0 : Nat) : Int)] 32))).heap.size = p2 + 1 + 1 := by simp [hz]
  generalize hW3 : ((w2.alloc (.cells #[.int .u8 (M.k : Int), .int .u64 (M.n0 : Int), .int .u64 (M.n1 : Int), .int .u64 (M.n2 : Int), .int .u64 (M.n3 : Int), .int .u64 (M.n4 : Int), .int .u64 (M.n5 : Int), .string M.s0, .string M.s1, .slice A1 M.l.length c1] 29)).alloc (.cells #[.int .i64 0, .int .i64 ((0 : Nat) : Int)] 32)) = W3 at *
  have HK9 := hid hk9
  have HK10 := hid hk10
  have HS1 := hid hs1
  have HBB3 := hid hb0
  have HSZ3 := hid hsz
  clear hb0 hsz hz hW3 hk9 hk10 hs1
  have zhk100 := HK10.out.cell 0
  have zhk101 := HK10.out.cell 1
  have lhk10 := HK10.out.lt
  simp only [List.getElem?_toArray, List.getElem?_cons_zero, List.getElem?_cons_succ] at zhk100 zhk101
  go_wp2_with fail
  refine (HD2.out _ HBB3.out).mono ?_
  rintro e w4 ⟨A2, c2, rfl, hs2, hb⟩
  clear lhk10 zhk100 zhk101
  have hk9 := HK9.out.below hb HK9.out.lt
  have hk10 := HK10.out.below hb HK10.out.lt
  have hs1 := HS1.out.below hb
  have hb0 : Below s w w4 := HBB3.out.trans (hb.mono (by have := HBB3.out.size; omega))
  have HK9 := hid hk9
  have HK10 := hid hk10
  have HS1 := hid hs1
  have HS2 := hid hs2
  have HBB4 := hid hb0
  clear hb0 hb hk9 hk10 hs1 hs2
  obtain ⟨p3, hz⟩ : ∃ p, w4.heap.size = p := ⟨_, rfl⟩
  go_wp2_with fail
  have hk12 : Blk (w4.alloc (.cells #[.int .i64 0, .int .i64 ((0 : Nat) : Int)] 32)) (p3) 32 #[.int .i64 0, .int .i64 ((0 : Nat) : Int)] := by
    have h := (Blk.new w4 32 #[.int .i64 0, .int .i64 ((0 : Nat) : Int)])
    rw [hz] at h; exact h
  have hk9 := (HK9.out.alloc (.cells #[.int .i64 0, .int .i64 ((0 : Nat) : Int)] 32))
  have hk10 := (HK10.out.alloc (.cells #[.int .i64 0, .int .i64 ((0 : Nat) : Int)] 32))
  have hs1 := HS1.out.below (bw_a (Below.refl w4.heap.size w4) (.cells #[.int .i64 0, .int .i64 ((0 : Nat) : Int)] 32))
  have hs2 := HS2.out.below (bw_a (Below.refl w4.heap.size w4) (.cells #[.int .i64 0, .int .i64 ((0 : Nat) : Int)] 32))
  have hb0 : Below s w (w4.alloc (.cells #[.int .i64 0, .int .i64 ((0 : Nat) : Int)] 32)) := HBB4.out.trans ((bw_a (Below.refl w4.heap.size w4) (.cells #[.int .i64 0, .int .i64 ((0 : Nat) : Int)] 32)).mono (by have := HBB4.out.size; omega))
  have hsz : ((w4.alloc (.cells #[.int .i64 0, .int .i64 ((0 : Nat) : Int)] 32))).heap.size = p3 + 1 := by simp [hz]
  generalize hW5 : (w4.alloc (.cells #[.int .i64 0, .int .i64 ((0 : Nat) : Int)] 32)) = W5 at *
  have HK9 := hid hk9
  have HK10 := hid hk10
  have HK12 := hid hk12
  have HS1 := hid hs1
  have HS2 := hid hs2
  have HBB5 := hid hb0
  have HSZ5 := hid hsz
  clear hb0 hsz hz hW5 hk9 hk10 hk12 hs1 hs2
  refine (HD4.out _ A2 c2 HS2.out).mono ?_
  rintro e w6 ⟨A5, c5, rfl, hs5, hb⟩
  have hk9 := HK9.out.below hb HK9.out.lt
  have hk10 := HK10.out.below hb HK10.out.lt
  have hk12 := HK12.out.below hb HK12.out.lt
  have hs1 := HS1.out.below hb
  have hs2 := HS2.out.below hb
  have hb0 : Below s w w6 := HBB5.out.trans (hb.mono (by have := HBB5.out.size; omega))
  have HK9 := hid hk9
  have HK10 := hid hk10
  have HK12 := hid hk12
  have HS1 := hid hs1
  have HS2 := hid hs2
  have HS5 := hid hs5
  have HBB6 := hid hb0
  clear hb0 hb hk9 hk10 hk12 hs1 hs2 hs5
  have zhk120 := HK12.out.cell 0
  have zhk121 := HK12.out.cell 1
  have lhk12 := HK12.out.lt
  have zhk90 := HK9.out.cell 0
  have zhk91 := HK9.out.cell 1
  have zhk92 := HK9.out.cell 2
  have zhk93 := HK9.out.cell 3
  have zhk94 := HK9.out.cell 4
  have zhk95 := HK9.out.cell 5
  have zhk96 := HK9.out.cell 6
  have zhk97 := HK9.out.cell 7
  have zhk98 := HK9.out.cell 8
  have zhk99 := HK9.out.cell 9
  have lhk9 := HK9.out.lt
  simp only [List.getElem?_toArray, List.getElem?_cons_zero, List.getElem?_cons_succ] at zhk120 zhk121 zhk90 zhk91 zhk92 zhk93 zhk94 zhk95 zhk96 zhk97 zhk98 zhk99
  obtain ⟨p4, hz⟩ : ∃ p, w6.heap.size = p := ⟨_, rfl⟩
  rw [hz] at lhk12
  have mhk12 := Nat.lt_add_one_of_lt lhk12
  rw [hz] at lhk9
  have mhk9 := Nat.lt_add_one_of_lt lhk9
  go_wp2_with fail
  have hk13 : Blk ((w6.alloc (.cells #[.int .u8 (M2.k : Int), .int .u64 (M2.n0 : Int), .int .u64 (M2.n1 : Int), .int .u64 (M2.n2 : Int), .int .u64 (M2.n3 : Int), .int .u64 (M2.n4 : Int), .int .u64 (M2.n5 : Int), .string M2.s0, .string M2.s1, .slice A5 M2.l.length c5] 29)).alloc (.cells #[.int .i64 0, .int .i64 ((0 : Nat) : Int)] 32)) (p4) 29 #[.int .u8 (M2.k : Int), .int .u64 (M2.n0 : Int), .int .u64 (M2.n1 : Int), .int .u64 (M2.n2 : Int), .int .u64 (M2.n3 : Int), .int .u64 (M2.n4 : Int), .int .u64 (M2.n5 : Int), .string M2.s0, .string M2.s1, .slice A5 M2.l.length c5] := by
    have h := ((Blk.new w6 29 #[.int .u8 (M2.k : Int), .int .u64 (M2.n0 : Int), .int .u64 (M2.n1 : Int), .int .u64 (M2.n2 : Int), .int .u64 (M2.n3 : Int), .int .u64 (M2.n4 : Int), .int .u64 (M2.n5 : Int), .string M2.s0, .string M2.s1, .slice A5 M2.l.length c5]).alloc (.cells #[.int .i64 0, .int .i64 ((0 : Nat) : Int)] 32))
    rw [hz] at h; exact h
  have hk14 : Blk ((w6.alloc (.cells #[.int .u8 (M2.k : Int), .int .u64 (M2.n0 : Int), .int .u64 (M2.n1 : Int), .int .u64 (M2.n2 : Int), .int .u64 (M2.n3 : Int), .int .u64 (M2.n4 : Int), .int .u64 (M2.n5 : Int), .string M2.s0, .string M2.s1, .slice A5 M2.l.length c5] 29)).alloc (.cells #[.int .i64 0, .int .i64 ((0 : Nat) : Int)] 32)) (p4 + 1) 32 #[.int .i64 0, .int .i64 ((0 : Nat) : Int)] := by
    have h := (Blk.new (w6.alloc (.cells #[.int .u8 (M2.k : Int), .int .u64 (M2.n0 : Int), .int .u64 (M2.n1 : Int), .int .u64 (M2.n2 : Int), .int .u64 (M2.n3 : Int), .int .u64 (M2.n4 : Int), .int .u64 (M2.n5 : Int), .string M2.s0, .string M2.s1, .slice A5 M2.l.length c5] 29)) 32 #[.int .i64 0, .int .i64 ((0 : Nat) : Int)])
    rw [World.size_alloc, hz] at h; exact h
  have hk9 := ((HK9.out.alloc (.cells #[.int .u8 (M2.k : Int), .int .u64 (M2.n0 : Int), .int .u64 (M2.n1 : Int), .int .u64 (M2.n2 : Int), .int .u64 (M2.n3 : Int), .int .u64 (M2.n4 : Int), .int .u64 (M2.n5 : Int), .string M2.s0, .string M2.s1, .slice A5 M2.l.length c5] 29)).alloc (.cells #[.int .i64 0, .int .i64 ((0 : Nat) : Int)] 32))
  have hk10 := ((HK10.out.alloc (.cells #[.int .u8 (M2.k : Int), .int .u64 (M2.n0 : Int), .int .u64 (M2.n1 : Int), .int .u64 (M2.n2 : Int), .int .u64 (M2.n3 : Int), .int .u64 (M2.n4 : Int), .int .u64 (M2.n5 : Int), .string M2.s0, .string M2.s1, .slice A5 M2.l.length c5] 29)).alloc (.cells #[.int .i64 0, .int .i64 ((0 : Nat) : Int)] 32))
  have hk12 := ((HK12.out.alloc (.cells #[.int .u8 (M2.k : Int), .int .u64 (M2.n0 : Int), .int .u64 (M2.n1 : Int), .int .u64 (M2.n2 : Int), .int .u64 (M2.n3 : Int), .int .u64 (M2.n4 : Int), .int .u64 (M2.n5 : Int), .string M2.s0, .string M2.s1, .slice A5 M2.l.length c5] 29)).alloc (.cells #[.int .i64 0, .int .i64 ((0 : Nat) : Int)] 32))
  have hs1 := HS1.out.below (bw_a (bw_a (Below.refl w6.heap.size w6) (.cells #[.int .u8 (M2.k : Int), .int .u64 (M2.n0 : Int), .int .u64 (M2.n1 : Int), .int .u64 (M2.n2 : Int), .int .u64 (M2.n3 : Int), .int .u64 (M2.n4 : Int), .int .u64 (M2.n5 : Int), .string M2.s0, .string M2.s1, .slice A5 M2.l.length c5] 29)) (.cells #[.int .i64 0, .int .i64 ((0 : Nat) : Int)] 32))
  have hs2 := HS2.out.below (bw_a (bw_a (Below.refl w6.heap.size w6) (.cells #[.int .u8 (M2.k : Int), .int .u64 (M2.n0 : Int), .int .u64 (M2.n1 : Int), .int .u64 (M2.n2 : Int), .int .u64 (M2.n3 : Int), .int .u64 (M2.n4 : Int), .int .u64 (M2.n5 : Int), .string M2.s0, .string M2.s1, .slice A5 M2.l.length c5] 29)) (.cells #[.int .i64 0, .int .i64 ((0 : Nat) : Int)] 32))
  have hs5 := HS5.out.below (bw_a (bw_a (Below.refl w6.heap.size w6) (.cells #[.int .u8 (M2.k : Int), .int .u64 (M2.n0 : Int), .int .u64 (M2.n1 : Int), .int .u64 (M2.n2 : Int), .int .u64 (M2.n3 : Int), .int .u64 (M2.n4 : Int), .int .u64 (M2.n5 : Int), .string M2.s0, .string M2.s1, .slice A5 M2.l.length c5] 29)) (.cells #[.int .i64 0, .int .i64 ((0 : Nat) : Int)] 32))
  have hb0 : Below s w ((w6.alloc (.cells #[.int .u8 (M2.k : Int), .int .u64 (M2.n0 : Int), .int .u64 (M2.n1 : Int), .int .u64 (M2.n2 : Int), .int .u64 (M2.n3 : Int), .int .u64 (M2.n4 : Int), .int .u64 (M2.n5 : Int), .string M2.s0, .string M2.s1, .slice A5 M2.l.length c5] 29)).alloc (.cells #[.int .i64 0, .int .i64 ((0 : Nat) : Int)] 32)) := HBB6.out.trans ((bw_a (bw_a (Below.refl w6.heap.size w6) (.cells #[.int .u8 (M2.k : Int), .int .u64 (M2.n0 : Int), .int .u64 (M2.n1 : Int), .int .u64 (M2.n2 : Int), .int .u64 (M2.n3 : Int), .int .u64 (M2.n4 : Int), .int .u64 (M2.n5 : Int), .string M2.s0, .string M2.s1, .slice A5 M2.l.length c5] 29)) (.cells #[.int .i64 0, .int .i64 ((0 : Nat) : Int)] 32)).mono (by have := HBB6.out.size; omega))
  have hsz : (((w6.alloc (.cells #[.int .u8 (M2.k : Int), .int .u64 (M2.n0 : Int), .int .u64 (M2.n1 : Int), .int .u64 (M2.n2 : Int), .int .u64 (M2.n3 : Int), .int .u64 (M2.n4 : Int), .int .u64 (M2.n5 : Int), .string M2.s0, .string M2.s1, .slice A5 M2.l.length c5] 29)).alloc (.cells #[.int .i64 0, .int .i64 ((0 : Nat) : Int)] 32))).heap.size = p4 + 1 + 1 := by simp [hz]
  generalize hW7 : ((w6.alloc (.cells #[.int .u8 (M2.k : Int), .int .u64 (M2.n0 : Int), .int .u64 (M2.n1 : Int), .int .u64 (M2.n2 : Int), .int .u64 (M2.n3 : Int), .int .u64 (M2.n4 : Int), .int .u64 (M2.n5 : Int), .string M2.s0, .string M2.s1, .slice A5 M2.l.length c5] 29)).alloc (.cells #[.int .i64 0, .int .i64 ((0 : Nat) : Int)] 32)) = W7 at *
  have HK9 := hid hk9
  have HK10 := hid hk10
  have HK12 := hid hk12
  have HK13 := hid hk13
  have HK14 := hid hk14
  have HS1 := hid hs1
  have HS2 := hid hs2
  have HS5 := hid hs5
  have HBB7 := hid hb0
  have HSZ7 := hid hsz
  clear hb0 hsz hz hW7 hk9 hk10 hk12 hk13 hk14 hs1 hs2 hs5
  have zhk120 := HK12.out.cell 0
  have lhk12 := HK12.out.lt
  have zhk140 := HK14.out.cell 0
  have lhk14 := HK14.out.lt
  have zhk130 := HK13.out.cell 0
  have zhk131 := HK13.out.cell 1
  have zhk132 := HK13.out.cell 2
  have zhk133 := HK13.out.cell 3
  have zhk134 := HK13.out.cell 4
  have zhk135 := HK13.out.cell 5
  have zhk136 := HK13.out.cell 6
  have zhk137 := HK13.out.cell 7
  have zhk138 := HK13.out.cell 8
  have zhk139 := HK13.out.cell 9
  have lhk13 := HK13.out.lt
  have zhk90 := HK9.out.cell 0
  have zhk91 := HK9.out.cell 1
  have zhk92 := HK9.out.cell 2
  have zhk93 := HK9.out.cell 3
  have zhk94 := HK9.out.cell 4
  have zhk95 := HK9.out.cell 5
  have zhk96 := HK9.out.cell 6
  have zhk97 := HK9.out.cell 7
  have zhk98 := HK9.out.cell 8
  have zhk99 := HK9.out.cell 9
  have lhk9 := HK9.out.lt
  simp only [List.getElem?_toArray, List.getElem?_cons_zero, List.getElem?_cons_succ] at zhk120 zhk140 zhk130 zhk131 zhk132 zhk133 zhk134 zhk135 zhk136 zhk137 zhk138 zhk139 zhk90 zhk91 zhk92 zhk93 zhk94 zhk95 zhk96 zhk97 zhk98 zhk99
  go_wp2_with fail
  have hsx := HSA.out _ M2 A5 c5 A1 c1 HS5.out HS1.out
  rw [HS2M.out] at hsx
  have HSX := hid hsx
  clear hsx
  refine (HSX.out).mono ?_
  rintro e w8 ⟨rfl, hb⟩
  clear lhk12 lhk9 zhk120 zhk121 zhk90 zhk91 zhk92 zhk93 zhk94 zhk95 zhk96 zhk97 zhk98 zhk99 mhk12 mhk9 lhk14 lhk13 zhk140 zhk130 zhk131 zhk132 zhk133 zhk134 zhk135 zhk136 zhk137 zhk138 zhk139
  have hk9 := HK9.out.below hb HK9.out.lt
  have hk10 := HK10.out.below hb HK10.out.lt
  have hk12 := HK12.out.below hb HK12.out.lt
  have hk13 := HK13.out.below hb HK13.out.lt
  have hk14 := HK14.out.below hb HK14.out.lt
  have hs1 := HS1.out.below hb
  have hs2 := HS2.out.below hb
  have hs5 := HS5.out.below hb
  have hb0 : Below s w w8 := HBB7.out.trans (hb.mono (by have := HBB7.out.size; omega))
  have HK9 := hid hk9
  have HK10 := hid hk10
  have HK12 := hid hk12
  have HK13 := hid hk13
  have HK14 := hid hk14
  have HS1 := hid hs1
  have HS2 := hid hs2
  have HS5 := hid hs5
  have HBB8 := hid hb0
  clear hb0 hb hk9 hk10 hk12 hk13 hk14 hs1 hs2 hs5
  have hle : ¬ (n : Int) < (el : Int) := by omega
  have hle2 : decide ((n : Int) < (el : Int)) = false := by simpa using hle
  go_wp2_with fail
  obtain ⟨b0, hb0e⟩ : ∃ p, w8.heap.size = p := ⟨_, rfl⟩
  have hsb0 : s ≤ b0 := by rw [← hb0e]; exact Nat.le_trans (Nat.le_of_eq HWS.out.symm) HBB8.out.size
  have HB0E := hid hb0e
  clear hb0e HD1 HD2 HD4 HLV
  go_loopw [15, 16] (fun gv i wr => ∃ (j : Nat) (good : List FV), j ≤ m ∧ i = .int .i64 (j : Int) ∧ good.length ≤ j ∧ wr.ownsRow b0 56 5 gv good.length (good.flatMap fvC) ∧ (∀ f ∈ good, FvOk w f ∧ f.s.xs.length ≤ 100 ∧ 7 < f.num) ∧ Below w8.heap.size w8 wr) (fun _ i _ => m - (intOf i).toNat)
  case atStart => exact ⟨0, [], by omega, rfl, by simp, World.ownsRow_nil _ _ _ _, by simp, Below.refl _ _⟩
  case round =>
    obtain ⟨j, good, hj, rfl, hgl, hrow, hgood, hbw0⟩ := hrel
    have hsz0 : b0 ≤ wr.heap.size := by have h := hbw0.size; rw [HB0E.out] at h; exact h
    have hB : Below s w wr := HBB8.out.trans (hbw0.mono (by rw [HB0E.out]; exact hsb0))
    have HBW0 := hid hbw0
    have HB := hid hB
    have HROW := hid hrow
    have HGOOD := hid hgood
    clear hbw0 hB hrow hgood
    by_cases hlt : j < m
    · have hjl : j < l.length := by have := HM.out; omega
      have hn0 : (l.flatMap fvC)[j * 5 + 0]? = _ := flatMap_get fvC 5 l j 0 hjl (fun _ _ => rfl) (by omega)
      have hn1 : (l.flatMap fvC)[j * 5 + 1]? = _ := flatMap_get fvC 5 l j 1 hjl (fun _ _ => rfl) (by omega)
      have hn2 : (l.flatMap fvC)[j * 5 + 2]? = _ := flatMap_get fvC 5 l j 2 hjl (fun _ _ => rfl) (by omega)
      have hn3 : (l.flatMap fvC)[j * 5 + 3]? = _ := flatMap_get fvC 5 l j 3 hjl (fun _ _ => rfl) (by omega)
      have hn4 : (l.flatMap fvC)[j * 5 + 4]? = _ := flatMap_get fvC 5 l j 4 hjl (fun _ _ => rfl) (by omega)
      obtain ⟨b, off, hA, hbw, t0⟩ := HL.out.rd _ _ hn0
      rw [HWS.out] at hbw
      subst hA
      have t1 := HL.out.rd.addr _ _ hn1
      have t2 := HL.out.rd.addr _ _ hn2
      have t3 := HL.out.rd.addr _ _ hn3
      have t4 := HL.out.rd.addr _ _ hn4
      rw [addr_add] at t1 t2 t3 t4
      simp only [Nat.add_zero, ← Nat.add_assoc] at t0 t1 t2 t3 t4
      have t0 := (HB.out.cell (p := ⟨b, off + j * 5, none⟩) hbw).trans t0
      have t1 := (HB.out.cell (p := ⟨b, off + j * 5 + 1, none⟩) hbw).trans t1
      have t2 := (HB.out.cell (p := ⟨b, off + j * 5 + 2, none⟩) hbw).trans t2
      have t3 := (HB.out.cell (p := ⟨b, off + j * 5 + 3, none⟩) hbw).trans t3
      have t4 := (HB.out.cell (p := ⟨b, off + j * 5 + 4, none⟩) hbw).trans t4
      have hji : (j : Int) < (m : Int) := by omega
      have hj0 : (0 : Int) ≤ (j : Int) := by omega
      have hokx := HOK.out l[j] (List.getElem_mem hjl)
      clear hn0 hn1 hn2 hn3 hn4
      generalize l[j] = x at *
      have hlc : x.s.xs.length ≤ 9223372036854775807 := by have h1 := hokx.s.cap; have h2 := hokx.s.small; rw [List.length_map] at h1; omega
      have HOKX := hid hokx
      clear hokx
      obtain ⟨num, wi, nn, ⟨xA, xc, xs⟩, at_⟩ := x
      obtain ⟨len, hxl⟩ : ∃ k, xs.length = k := ⟨_, rfl⟩
      simp only [hxl] at t0 t1 t2 t3 t4 hlc
      have HXL := hid hxl
      clear hxl
      by_cases hlen : 100 < len
      · go_wp2_with fail
        go_ret
        exact ⟨rfl, HB.out⟩
      by_cases h7 : 7 < num
      · obtain ⟨gn, hgn⟩ : ∃ k, good.length = k := ⟨_, rfl⟩
        have hrow := HROW.out
        rw [hgn] at hrow hgl
        have HROW2 := hid hrow
        have HGN := hid hgn
        clear hgn hrow HROW
        go_wp2_with (at_builtin; refine wpList_append_rd rfl (.tmp 100) (.tmp 105) 36 rfl b0 56 i5 (.agg #[.int .i64 0, .int .u8 0, .int .u64 0, .slice none 0 0, .int .i64 0]) 5 56 Try.underlying36 hi5 hi50 hi51 hi52 rfl (by decide) _ _ _ rfl (HROW2.out.alloc _) (some ⟨wr.heap.size, 0, none⟩) 1 1 [.int .i64 num, .int .u8 wi, .int .u64 (nn : Int), .slice xA len xc, .int .i64 at_] rfl rfl (Rd.new wr 56 #[.int .i64 num, .int .u8 wi, .int .u64 (nn : Int), .slice xA len xc, .int .i64 at_]) (fun h => by cases h) (by simp [Value.oneCell']) (by simp only [maxLen]; omega) (by omega) (by simp; omega) ?_; intro v6 w6 hown6 hgrow6)
        have hB6 := bw_g (bw_a HBW0.out (.cells #[.int .i64 num, .int .u8 wi, .int .u64 (nn : Int), .slice xA len xc, .int .i64 at_] 56)) hgrow6 (fun k ek => by rw [HB0E.out]; exact (HROW2.out.lt k ek).1)
        refine ⟨⟨_, v6, .int .i64 ((j : Int) + 1), ⟨j + 1, by omega, by go_num, good ++ [⟨num, wi, nn, ⟨xA, xc, xs⟩, at_⟩], by rw [List.length_append]; simp; have := HGN.out; omega, ?_, ?_, hB6⟩, rfl, rfl, rfl⟩, by simp [intOf] <;> omega⟩
        · rw [List.length_append, List.flatMap_append, HGN.out]
          simpa [fvC, HXL.out] using hown6
        · intro f hf
          rcases List.mem_append.1 hf with hf | hf
          · exact HGOOD.out f hf
          · simp at hf
            subst hf
            exact ⟨HOKX.out, by show xs.length ≤ 100; have := HXL.out; omega, h7⟩
      · go_wp2_with fail
        exact ⟨⟨j + 1, good, by omega, by go_num, by omega, HROW.out, HGOOD.out, HBW0.out⟩, by simp [intOf] <;> omega⟩
    · obtain rfl : j = m := by omega
      have hrow := HROW.out
      obtain ⟨A9, c9, rfl, hs9⟩ := sln_own (by omega) hrow
      obtain ⟨gn, hgn⟩ : ∃ k, good.length = k := ⟨_, rfl⟩
      have hg20 : gn ≤ 20 := by omega
      have hput := sputs_any good gn A9 c9 wr hgn (by omega) (by rw [← hgn]; exact hs9) (fun f hf => (HGOOD.out f hf).1.below (by rw [HWS.out]; exact HB.out)) (fun f hf => by have := (HGOOD.out f hf).2.1; omega)
      have HPUT := hid hput
      have HGN := hid hgn
      rw [hgn]
      clear hput hrow hs9 hgn HROW
      have hk9 := bk_st HBW0.out HK9.out
      have HK9 := hid hk9
      clear hk9
      have hs1 := HS1.out.below HBW0.out
      have HS1 := hid hs1
      clear hs1
      have hs2 := HS2.out.below HBW0.out
      have HS2 := hid hs2
      clear hs2
      by_cases hpz : (putsE good 0).1 = 0
      · obtain ⟨M3, oth, hr3, hs3m, hol, hdl⟩ := HRD.out good HGOOD.out (putsE_all good 0 hpz) (by rw [HGN.out]; exact hg20) (by omega)
        have hput : Calls Try.prog 28 #[.slice A9 gn c9] wr fun e w' => ∃ A' c', e = .returned (.tuple #[.slice A' (good.flatMap pBF).length c', .agg #[.int .i64 0, .int .i64 0]]) ∧ Sl w' A' c' ((good.flatMap pBF).map bv) ∧ Below wr.heap.size wr w' := HPUT.out.mono (by
          rintro e w' ⟨(⟨-, v', rfl, ho⟩ | ⟨h, -⟩), hb⟩
          · obtain ⟨A', c', rfl⟩ := row_slice' ho
            exact ⟨A', c', rfl, Sl.of_own' ho, hb⟩
          · exact absurd hpz h)
        rw [HGN.out] at hol
        generalize good.flatMap pBF = db at *
        obtain ⟨dl, hdb⟩ : ∃ k, db.length = k := ⟨_, rfl⟩
        rw [hdb] at hput hdl
        have htl : (eb ++ db).length = el + dl := by rw [List.length_append, HEL.out, hdb]
        have HPUT2 := hid hput
        have HR3 := hid hr3
        have HS3M := hid hs3m
        have HOL := hid hol
        have HDB := hid hdb
        have HTL := hid htl
        clear hput hr3 hs3m hol hdb htl HPUT
        go_wp2_with fail
        refine (HPUT2.out).mono ?_
        rintro e w31 ⟨A6, c6, rfl, hs6, hb⟩
        have hk9 := HK9.out.below hb HK9.out.lt
        have hs1 := HS1.out.below hb
        have hs2 := HS2.out.below hb
        have hb0 : Below s w w31 := HB.out.trans (hb.mono (by have := HB.out.size; omega))
        have HK9 := hid hk9
        have HS1 := hid hs1
        have HS2 := hid hs2
        have HS6 := hid hs6
        have HBB31 := hid hb0
        clear hb0 hb hk9 hs1 hs2 hs6
        obtain ⟨p7, hz⟩ : ∃ p, w31.heap.size = p := ⟨_, rfl⟩
        go_wp2_with fail
        have hk18 : Blk (w31.alloc (.cells #[.int .i64 0, .int .i64 0] 32)) (p7) 32 #[.int .i64 0, .int .i64 0] := by
          have h := (Blk.new w31 32 #[.int .i64 0, .int .i64 0])
          rw [hz] at h; exact h
        have hk9 := (HK9.out.alloc (.cells #[.int .i64 0, .int .i64 0] 32))
        have hs1 := HS1.out.below (bw_a (Below.refl w31.heap.size w31) (.cells #[.int .i64 0, .int .i64 0] 32))
        have hs2 := HS2.out.below (bw_a (Below.refl w31.heap.size w31) (.cells #[.int .i64 0, .int .i64 0] 32))
        have hs6 := HS6.out.below (bw_a (Below.refl w31.heap.size w31) (.cells #[.int .i64 0, .int .i64 0] 32))
        have hb0 : Below s w (w31.alloc (.cells #[.int .i64 0, .int .i64 0] 32)) := HBB31.out.trans ((bw_a (Below.refl w31.heap.size w31) (.cells #[.int .i64 0, .int .i64 0] 32)).mono (by have := HBB31.out.size; omega))
        have hsz : ((w31.alloc (.cells #[.int .i64 0, .int .i64 0] 32))).heap.size = p7 + 1 := by simp [hz]
        generalize hW32 : (w31.alloc (.cells #[.int .i64 0, .int .i64 0] 32)) = W32 at *
        have HK9 := hid hk9
        have HK18 := hid hk18
        have HS1 := hid hs1
        have HS2 := hid hs2
        have HS6 := hid hs6
        have HBB32 := hid hb0
        have HSZ32 := hid hsz
        clear hb0 hsz hz hW32 hk9 hk18 hs1 hs2 hs6
        have zhk180 := HK18.out.cell 0
        have zhk181 := HK18.out.cell 1
        have lhk18 := HK18.out.lt
        simp only [List.getElem?_toArray, List.getElem?_cons_zero, List.getElem?_cons_succ] at zhk180 zhk181
        go_wp2_with fail
        refine (HJO.out _ db dl A2 c2 A6 c6 HDB.out hdl (by omega) HS2.out HS6.out).mono ?_
        rintro e w33 ⟨A7, c7, rfl, hs7, hb⟩
        clear lhk18 zhk180 zhk181
        have hk9 := HK9.out.below hb HK9.out.lt
        have hk18 := HK18.out.below hb HK18.out.lt
        have hs1 := HS1.out.below hb
        have hs2 := HS2.out.below hb
        have hs6 := HS6.out.below hb
        have hb0 : Below s w w33 := HBB32.out.trans (hb.mono (by have := HBB32.out.size; omega))
        have HK9 := hid hk9
        have HK18 := hid hk18
        have HS1 := hid hs1
        have HS2 := hid hs2
        have HS6 := hid hs6
        have HS7 := hid hs7
        have HBB33 := hid hb0
        clear hb0 hb hk9 hk18 hs1 hs2 hs6 hs7
        go_wp2_with fail
        refine (dec_p hk hv1 hv2 HTL.out HS7.out HR3.out).mono ?_
        rintro e w34 ⟨A8, c8, rfl, ho8, hb⟩
        have hk9 := HK9.out.below hb HK9.out.lt
        have hk18 := HK18.out.below hb HK18.out.lt
        have hs1 := HS1.out.below hb
        have hs2 := HS2.out.below hb
        have hs6 := HS6.out.below hb
        have hs7 := HS7.out.below hb
        have hb0 : Below s w w34 := HBB33.out.trans (hb.mono (by have := HBB33.out.size; omega))
        have HK9 := hid hk9
        have HK18 := hid hk18
        have HS1 := hid hs1
        have HS2 := hid hs2
        have HS6 := hid hs6
        have HS7 := hid hs7
        have HBB34 := hid hb0
        clear hb0 hb hk9 hk18 hs1 hs2 hs6 hs7
        have hs8 := ho8.sl
        have HS8 := hid hs8
        clear ho8 hs8
        obtain ⟨p9, hz⟩ : ∃ p, w34.heap.size = p := ⟨_, rfl⟩
        go_wp2_with fail
        have hk19 : Blk ((w34.alloc (.cells #[.int .u8 (M3.k : Int), .int .u64 (M3.n0 : Int), .int .u64 (M3.n1 : Int), .int .u64 (M3.n2 : Int), .int .u64 (M3.n3 : Int), .int .u64 (M3.n4 : Int), .int .u64 (M3.n5 : Int), .string M3.s0, .string M3.s1, .slice A8 M3.l.length c8] 29)).alloc (.cells #[.int .i64 0, .int .i64 ((0 : Nat) : Int)] 32)) (p9) 29 #[.int .u8 (M3.k : Int), .int .u64 (M3.n0 : Int), .int .u64 (M3.n1 : Int), .int .u64 (M3.n2 : Int), .int .u64 (M3.n3 : Int), .int .u64 (M3.n4 : Int), .int .u64 (M3.n5 : Int), .string M3.s0, .string M3.s1, .slice A8 M3.l.length c8] := by
          have h := ((Blk.new w34 29 #[.int .u8 (M3.k : Int), .int .u64 (M3.n0 : Int), .int .u64 (M3.n1 : Int), .int .u64 (M3.n2 : Int), .int .u64 (M3.n3 : Int), .int .u64 (M3.n4 : Int), .int .u64 (M3.n5 : Int), .string M3.s0, .string M3.s1, .slice A8 M3.l.length c8]).alloc (.cells #[.int .i64 0, .int .i64 ((0 : Nat) : Int)] 32))
          rw [hz] at h; exact h
        have hk20 : Blk ((w34.alloc (.cells #[.int .u8 (M3.k : Int), .int .u64 (M3.n0 : Int), .int .u64 (M3.n1 : Int), .int .u64 (M3.n2 : Int), .int .u64 (M3.n3 : Int), .int .u64 (M3.n4 : Int), .int .u64 (M3.n5 : Int), .string M3.s0, .string M3.s1, .slice A8 M3.l.length c8] 29)).alloc (.cells #[.int .i64 0, .int .i64 ((0 : Nat) : Int)] 32)) (p9 + 1) 32 #[.int .i64 0, .int .i64 ((0 : Nat) : Int)] := by
          have h := (Blk.new (w34.alloc (.cells #[.int .u8 (M3.k : Int), .int .u64 (M3.n0 : Int), .int .u64 (M3.n1 : Int), .int .u64 (M3.n2 : Int), .int .u64 (M3.n3 : Int), .int .u64 (M3.n4 : Int), .int .u64 (M3.n5 : Int), .string M3.s0, .string M3.s1, .slice A8 M3.l.length c8] 29)) 32 #[.int .i64 0, .int .i64 ((0 : Nat) : Int)])
          rw [World.size_alloc, hz] at h; exact h
        have hk9 := ((HK9.out.alloc (.cells #[.int .u8 (M3.k : Int), .int .u64 (M3.n0 : Int), .int .u64 (M3.n1 : Int), .int .u64 (M3.n2 : Int), .int .u64 (M3.n3 : Int), .int .u64 (M3.n4 : Int), .int .u64 (M3.n5 : Int), .string M3.s0, .string M3.s1, .slice A8 M3.l.length c8] 29)).alloc (.cells #[.int .i64 0, .int .i64 ((0 : Nat) : Int)] 32))
        have hk18 := ((HK18.out.alloc (.cells #[.int .u8 (M3.k : Int), .int .u64 (M3.n0 : Int), .int .u64 (M3.n1 : Int), .int .u64 (M3.n2 : Int), .int .u64 (M3.n3 : Int), .int .u64 (M3.n4 : Int), .int .u64 (M3.n5 : Int), .string M3.s0, .string M3.s1, .slice A8 M3.l.length c8] 29)).alloc (.cells #[.int .i64 0, .int .i64 ((0 : Nat) : Int)] 32))
        have hs1 := HS1.out.below (bw_a (bw_a (Below.refl w34.heap.size w34) (.cells #[.int .u8 (M3.k : Int), .int .u64 (M3.n0 : Int), .int .u64 (M3.n1 : Int), .int .u64 (M3.n2 : Int), .int .u64 (M3.n3 : Int), .int .u64 (M3.n4 : Int), .int .u64 (M3.n5 : Int), .string M3.s0, .string M3.s1, .slice A8 M3.l.length c8] 29)) (.cells #[.int .i64 0, .int .i64 ((0 : Nat) : Int)] 32))
        have hs2 := HS2.out.below (bw_a (bw_a (Below.refl w34.heap.size w34) (.cells #[.int .u8 (M3.k : Int), .int .u64 (M3.n0 : Int), .int .u64 (M3.n1 : Int), .int .u64 (M3.n2 : Int), .int .u64 (M3.n3 : Int), .int .u64 (M3.n4 : Int), .int .u64 (M3.n5 : Int), .string M3.s0, .string M3.s1, .slice A8 M3.l.length c8] 29)) (.cells #[.int .i64 0, .int .i64 ((0 : Nat) : Int)] 32))
        have hs6 := HS6.out.below (bw_a (bw_a (Below.refl w34.heap.size w34) (.cells #[.int .u8 (M3.k : Int), .int .u64 (M3.n0 : Int), .int .u64 (M3.n1 : Int), .int .u64 (M3.n2 : Int), .int .u64 (M3.n3 : Int), .int .u64 (M3.n4 : Int), .int .u64 (M3.n5 : Int), .string M3.s0, .string M3.s1, .slice A8 M3.l.length c8] 29)) (.cells #[.int .i64 0, .int .i64 ((0 : Nat) : Int)] 32))
        have hs7 := HS7.out.below (bw_a (bw_a (Below.refl w34.heap.size w34) (.cells #[.int .u8 (M3.k : Int), .int .u64 (M3.n0 : Int), .int .u64 (M3.n1 : Int), .int .u64 (M3.n2 : Int), .int .u64 (M3.n3 : Int), .int .u64 (M3.n4 : Int), .int .u64 (M3.n5 : Int), .string M3.s0, .string M3.s1, .slice A8 M3.l.length c8] 29)) (.cells #[.int .i64 0, .int .i64 ((0 : Nat) : Int)] 32))
        have hs8 := HS8.out.below (bw_a (bw_a (Below.refl w34.heap.size w34) (.cells #[.int .u8 (M3.k : Int), .int .u64 (M3.n0 : Int), .int .u64 (M3.n1 : Int), .int .u64 (M3.n2 : Int), .int .u64 (M3.n3 : Int), .int .u64 (M3.n4 : Int), .int .u64 (M3.n5 : Int), .string M3.s0, .string M3.s1, .slice A8 M3.l.length c8] 29)) (.cells #[.int .i64 0, .int .i64 ((0 : Nat) : Int)] 32))
        have hb0 : Below s w ((w34.alloc (.cells #[.int .u8 (M3.k : Int), .int .u64 (M3.n0 : Int), .int .u64 (M3.n1 : Int), .int .u64 (M3.n2 : Int), .int .u64 (M3.n3 : Int), .int .u64 (M3.n4 : Int), .int .u64 (M3.n5 : Int), .string M3.s0, .string M3.s1, .slice A8 M3.l.length c8] 29)).alloc (.cells #[.int .i64 0, .int .i64 ((0 : Nat) : Int)] 32)) := HBB34.out.trans ((bw_a (bw_a (Below.refl w34.heap.size w34) (.cells #[.int .u8 (M3.k : Int), .int .u64 (M3.n0 : Int), .int .u64 (M3.n1 : Int), .int .u64 (M3.n2 : Int), .int .u64 (M3.n3 : Int), .int .u64 (M3.n4 : Int), .int .u64 (M3.n5 : Int), .string M3.s0, .string M3.s1, .slice A8 M3.l.length c8] 29)) (.cells #[.int .i64 0, .int .i64 ((0 : Nat) : Int)] 32)).mono (by have := HBB34.out.size; omega))
        have hsz : (((w34.alloc (.cells #[.int .u8 (M3.k : Int), .int .u64 (M3.n0 : Int), .int .u64 (M3.n1 : Int), .int .u64 (M3.n2 : Int), .int .u64 (M3.n3 : Int), .int .u64 (M3.n4 : Int), .int .u64 (M3.n5 : Int), .string M3.s0, .string M3.s1, .slice A8 M3.l.length c8] 29)).alloc (.cells #[.int .i64 0, .int .i64 ((0 : Nat) : Int)] 32))).heap.size = p9 + 1 + 1 := by simp [hz]
        generalize hW35 : ((w34.alloc (.cells #[.int .u8 (M3.k : Int), .int .u64 (M3.n0 : Int), .int .u64 (M3.n1 : Int), .int .u64 (M3.n2 : Int), .int .u64 (M3.n3 : Int), .int .u64 (M3.n4 : Int), .int .u64 (M3.n5 : Int), .string M3.s0, .string M3.s1, .slice A8 M3.l.length c8] 29)).alloc (.cells #[.int .i64 0, .int .i64 ((0 : Nat) : Int)] 32)) = W35 at *
        have HK9 := hid hk9
        have HK18 := hid hk18
        have HK19 := hid hk19
        have HK20 := hid hk20
        have HS1 := hid hs1
        have HS2 := hid hs2
        have HS6 := hid hs6
        have HS7 := hid hs7
        have HS8 := hid hs8
        have HBB35 := hid hb0
        have HSZ35 := hid hsz
        clear hb0 hsz hz hW35 hk9 hk18 hk19 hk20 hs1 hs2 hs6 hs7 hs8
        refine (HJO.out _ db dl A2 c2 A6 c6 HDB.out hdl (by omega) HS2.out HS6.out).mono ?_
        rintro e w36 ⟨A10, c10, rfl, hs10, hb⟩
        have hk9 := HK9.out.below hb HK9.out.lt
        have hk18 := HK18.out.below hb HK18.out.lt
        have hk19 := HK19.out.below hb HK19.out.lt
        have hk20 := HK20.out.below hb HK20.out.lt
        have hs1 := HS1.out.below hb
        have hs2 := HS2.out.below hb
        have hs6 := HS6.out.below hb
        have hs7 := HS7.out.below hb
        have hs8 := HS8.out.below hb
        have hb0 : Below s w w36 := HBB35.out.trans (hb.mono (by have := HBB35.out.size; omega))
        have HK9 := hid hk9
        have HK18 := hid hk18
        have HK19 := hid hk19
        have HK20 := hid hk20
        have HS1 := hid hs1
        have HS2 := hid hs2
        have HS6 := hid hs6
        have HS7 := hid hs7
        have HS8 := hid hs8
        have HS10 := hid hs10
        have HBB36 := hid hb0
        clear hb0 hb hk9 hk18 hk19 hk20 hs1 hs2 hs6 hs7 hs8 hs10
        go_wp2_with fail
        refine (unk_len hk hv1 hv2 HTL.out HS10.out HR3.out HOL.out).mono ?_
        rintro e w37 ⟨A11, c11, rfl, hb⟩
        have hk9 := HK9.out.below hb HK9.out.lt
        have hk18 := HK18.out.below hb HK18.out.lt
        have hk19 := HK19.out.below hb HK19.out.lt
        have hk20 := HK20.out.below hb HK20.out.lt
        have hs1 := HS1.out.below hb
        have hs2 := HS2.out.below hb
        have hs6 := HS6.out.below hb
        have hs7 := HS7.out.below hb
        have hs8 := HS8.out.below hb
        have hs10 := HS10.out.below hb
        have hb0 : Below s w w37 := HBB36.out.trans (hb.mono (by have := HBB36.out.size; omega))
        have HK9 := hid hk9
        have HK18 := hid hk18
        have HK19 := hid hk19
        have HK20 := hid hk20
        have HS1 := hid hs1
        have HS2 := hid hs2
        have HS6 := hid hs6
        have HS7 := hid hs7
        have HS8 := hid hs8
        have HS10 := hid hs10
        have HBB37 := hid hb0
        clear hb0 hb hk9 hk18 hk19 hk20 hs1 hs2 hs6 hs7 hs8 hs10
        have zhk200 := HK20.out.cell 0
        have zhk201 := HK20.out.cell 1
        have lhk20 := HK20.out.lt
        have zhk190 := HK19.out.cell 0
        have zhk191 := HK19.out.cell 1
        have zhk192 := HK19.out.cell 2
        have zhk193 := HK19.out.cell 3
        have zhk194 := HK19.out.cell 4
        have zhk195 := HK19.out.cell 5
        have zhk196 := HK19.out.cell 6
        have zhk197 := HK19.out.cell 7
        have zhk198 := HK19.out.cell 8
        have zhk199 := HK19.out.cell 9
        have lhk19 := HK19.out.lt
        have zhk90 := HK9.out.cell 0
        have zhk91 := HK9.out.cell 1
        have zhk92 := HK9.out.cell 2
        have zhk93 := HK9.out.cell 3
        have zhk94 := HK9.out.cell 4
        have zhk95 := HK9.out.cell 5
        have zhk96 := HK9.out.cell 6
        have zhk97 := HK9.out.cell 7
        have zhk98 := HK9.out.cell 8
        have zhk99 := HK9.out.cell 9
        have lhk9 := HK9.out.lt
        simp only [List.getElem?_toArray, List.getElem?_cons_zero, List.getElem?_cons_succ] at zhk200 zhk201 zhk190 zhk191 zhk192 zhk193 zhk194 zhk195 zhk196 zhk197 zhk198 zhk199 zhk90 zhk91 zhk92 zhk93 zhk94 zhk95 zhk96 zhk97 zhk98 zhk99
        obtain ⟨p11, hz⟩ : ∃ p, w37.heap.size = p := ⟨_, rfl⟩
        rw [hz] at lhk20
        have mhk20 := Nat.lt_add_one_of_lt lhk20
        rw [hz] at lhk19
        have mhk19 := Nat.lt_add_one_of_lt lhk19
        rw [hz] at lhk9
        have mhk9 := Nat.lt_add_one_of_lt lhk9
        go_wp2_with fail
        have hk22 : Blk (w37.alloc (.cells #[.int .i64 0, .int .i64 ((0 : Nat) : Int)] 32)) (p11) 32 #[.int .i64 0, .int .i64 ((0 : Nat) : Int)] := by
          have h := (Blk.new w37 32 #[.int .i64 0, .int .i64 ((0 : Nat) : Int)])
          rw [hz] at h; exact h
        have hk9 := (HK9.out.alloc (.cells #[.int .i64 0, .int .i64 ((0 : Nat) : Int)] 32))
        have hk18 := (HK18.out.alloc (.cells #[.int .i64 0, .int .i64 ((0 : Nat) : Int)] 32))
        have hk19 := (HK19.out.alloc (.cells #[.int .i64 0, .int .i64 ((0 : Nat) : Int)] 32))
        have hk20 := (HK20.out.alloc (.cells #[.int .i64 0, .int .i64 ((0 : Nat) : Int)] 32))
        have hs1 := HS1.out.below (bw_a (Below.refl w37.heap.size w37) (.cells #[.int .i64 0, .int .i64 ((0 : Nat) : Int)] 32))
        have hs2 := HS2.out.below (bw_a (Below.refl w37.heap.size w37) (.cells #[.int .i64 0, .int .i64 ((0 : Nat) : Int)] 32))
        have hs6 := HS6.out.below (bw_a (Below.refl w37.heap.size w37) (.cells #[.int .i64 0, .int .i64 ((0 : Nat) : Int)] 32))
        have hs7 := HS7.out.below (bw_a (Below.refl w37.heap.size w37) (.cells #[.int .i64 0, .int .i64 ((0 : Nat) : Int)] 32))
        have hs8 := HS8.out.below (bw_a (Below.refl w37.heap.size w37) (.cells #[.int .i64 0, .int .i64 ((0 : Nat) : Int)] 32))
        have hs10 := HS10.out.below (bw_a (Below.refl w37.heap.size w37) (.cells #[.int .i64 0, .int .i64 ((0 : Nat) : Int)] 32))
        have hb0 : Below s w (w37.alloc (.cells #[.int .i64 0, .int .i64 ((0 : Nat) : Int)] 32)) := HBB37.out.trans ((bw_a (Below.refl w37.heap.size w37) (.cells #[.int .i64 0, .int .i64 ((0 : Nat) : Int)] 32)).mono (by have := HBB37.out.size; omega))
        have hsz : ((w37.alloc (.cells #[.int .i64 0, .int .i64 ((0 : Nat) : Int)] 32))).heap.size = p11 + 1 := by simp [hz]
        generalize hW38 : (w37.alloc (.cells #[.int .i64 0, .int .i64 ((0 : Nat) : Int)] 32)) = W38 at *
        have HK9 := hid hk9
        have HK18 := hid hk18
        have HK19 := hid hk19
        have HK20 := hid hk20
        have HK22 := hid hk22
        have HS1 := hid hs1
        have HS2 := hid hs2
        have HS6 := hid hs6
        have HS7 := hid hs7
        have HS8 := hid hs8
        have HS10 := hid hs10
        have HBB38 := hid hb0
        have HSZ38 := hid hsz
        clear hb0 hsz hz hW38 hk9 hk18 hk19 hk20 hk22 hs1 hs2 hs6 hs7 hs8 hs10
        have zhk220 := HK22.out.cell 0
        have lhk22 := HK22.out.lt
        have zhk200 := HK20.out.cell 0
        have lhk20 := HK20.out.lt
        have zhk190 := HK19.out.cell 0
        have zhk191 := HK19.out.cell 1
        have zhk192 := HK19.out.cell 2
        have zhk193 := HK19.out.cell 3
        have zhk194 := HK19.out.cell 4
        have zhk195 := HK19.out.cell 5
        have zhk196 := HK19.out.cell 6
        have zhk197 := HK19.out.cell 7
        have zhk198 := HK19.out.cell 8
        have zhk199 := HK19.out.cell 9
        have lhk19 := HK19.out.lt
        have zhk90 := HK9.out.cell 0
        have zhk91 := HK9.out.cell 1
        have zhk92 := HK9.out.cell 2
        have zhk93 := HK9.out.cell 3
        have zhk94 := HK9.out.cell 4
        have zhk95 := HK9.out.cell 5
        have zhk96 := HK9.out.cell 6
        have zhk97 := HK9.out.cell 7
        have zhk98 := HK9.out.cell 8
        have zhk99 := HK9.out.cell 9
        have lhk9 := HK9.out.lt
        simp only [List.getElem?_toArray, List.getElem?_cons_zero, List.getElem?_cons_succ] at zhk220 zhk200 zhk190 zhk191 zhk192 zhk193 zhk194 zhk195 zhk196 zhk197 zhk198 zhk199 zhk90 zhk91 zhk92 zhk93 zhk94 zhk95 zhk96 zhk97 zhk98 zhk99
        go_wp2_with fail
        have hsx := HSA.out _ M3 A8 c8 A1 c1 HS8.out HS1.out
        rw [HS3M.out] at hsx
        have HSX2 := hid hsx
        clear hsx
        refine (HSX2.out).mono ?_
        rintro e w39 ⟨rfl, hb⟩
        clear lhk20 lhk19 lhk9 zhk200 zhk201 zhk190 zhk191 zhk192 zhk193 zhk194 zhk195 zhk196 zhk197 zhk198 zhk199 zhk90 zhk91 zhk92 zhk93 zhk94 zhk95 zhk96 zhk97 zhk98 zhk99 mhk20 mhk19 mhk9 lhk22 zhk220
        have hk9 := HK9.out.below hb HK9.out.lt
        have hk18 := HK18.out.below hb HK18.out.lt
        have hk19 := HK19.out.below hb HK19.out.lt
        have hk20 := HK20.out.below hb HK20.out.lt
        have hk22 := HK22.out.below hb HK22.out.lt
        have hs1 := HS1.out.below hb
        have hs2 := HS2.out.below hb
        have hs6 := HS6.out.below hb
        have hs7 := HS7.out.below hb
        have hs8 := HS8.out.below hb
        have hs10 := HS10.out.below hb
        have hb0 : Below s w w39 := HBB38.out.trans (hb.mono (by have := HBB38.out.size; omega))
        have HK9 := hid hk9
        have HK18 := hid hk18
        have HK19 := hid hk19
        have HK20 := hid hk20
        have HK22 := hid hk22
        have HS1 := hid hs1
        have HS2 := hid hs2
        have HS6 := hid hs6
        have HS7 := hid hs7
        have HS8 := hid hs8
        have HS10 := hid hs10
        have HBB39 := hid hb0
        clear hb0 hb hk9 hk18 hk19 hk20 hk22 hs1 hs2 hs6 hs7 hs8 hs10
        go_wp2_with fail
        go_ret
        exact ⟨rfl, HBB39.out⟩
      · have hput : Calls Try.prog 28 #[.slice A9 gn c9] wr fun e w' => e = .returned (.tuple #[.slice none 0 0, .agg #[.int .i64 ((putsE good 0).1 : Nat), .int .i64 ((putsE good 0).2 : Nat)]]) ∧ Below wr.heap.size wr w' := HPUT.out.mono (by
          rintro e w' ⟨(⟨h, -⟩ | ⟨-, h⟩), hb⟩
          · exact absurd h hpz
          · exact ⟨h, hb⟩)
        obtain ⟨E, hE⟩ : ∃ k, (putsE good 0).1 = k := ⟨_, rfl⟩
        rw [hE] at hput hpz
        generalize (putsE good 0).2 = P at *
        have heb : ((E : Int) != 0) = true := by simp; omega
        have HPUT2 := hid hput
        clear hput hE HPUT
        go_wp2_with fail
        refine (HPUT2.out).mono ?_
        rintro e w31 ⟨rfl, hb⟩
        have hk9 := HK9.out.below hb HK9.out.lt
        have hs1 := HS1.out.below hb
        have hs2 := HS2.out.below hb
        have hb0 : Below s w w31 := HB.out.trans (hb.mono (by have := HB.out.size; omega))
        have HK9 := hid hk9
        have HS1 := hid hs1
        have HS2 := hid hs2
        have HBB31 := hid hb0
        clear hb0 hb hk9 hs1 hs2
        obtain ⟨p7, hz⟩ : ∃ p, w31.heap.size = p := ⟨_, rfl⟩
        go_wp2_with fail
        go_ret
        exact ⟨rfl, HBB31.out.trans ((bw_a (Below.refl w31.heap.size w31) (.cells #[.int .i64 (E : Int), .int .i64 (P : Int)] 32)).mono (by have := HBB31.out.size; omega))⟩
theorem wholeFixed_any (k : Nat) (v : Int) (bs : List UInt8) (n : Nat) (A : Option Addr) (c : Nat) (l : List FV) (m : Nat) (A0 : Option Addr) (c0 : Nat) (w : World) (hk : k ≤ 255) (hv1 : -9223372036854775808 ≤ v) (hv2 : v ≤ 9223372036854775807) (hn : bs.length = n) (hs : Sl w A c (bs.map bv)) (hm : l.length = m) (hl : SlN w A0 m c0 5 (l.flatMap fvC)) (hok : ∀ f ∈ l, FvOk w f) : Calls Try.prog 9 #[.int .u8 (k : Int), .int .i64 v, .slice A n c, .slice A0 m c0] w fun e w' => e = .returned (.bool true) ∧ Below w.heap.size w w' := by
  rcases str_ways k v bs with ⟨E, P, hE, hr, h1, h2⟩ | ⟨M, O, hr, hg, hL, hc, h1, h2⟩
  · exact wholeFixed_bad k v bs n A c l m A0 c0 w hk hv1 hv2 hn hs hm hl hok hE hr
  · obtain rfl := hg.hk
    exact wholeFixed_good v bs n A c l m A0 c0 w hk hv1 hv2 hn hs hm hl hok hr hg hc h1
end Go.Proofs.Ytealjpolomhdeaa
