/- crc.lowest, crc.table. -/
import Derived.Test.YtgiealcfhlcpoaaCrcStep
import Derived.Test.YtgiealcfhlcpoaaM6
import Derived.Test.YtgiealcfhlcpoaaM2
import Derived.Shelf.RegionOpen
set_option linter.unusedVariables false
namespace Go.Proofs.Ytgiealcfhlcpoaa
open Go.RowKit Go.Shelf
attribute [local go_sem] Oper.semAt_some
theorem clow_in (F : Fence) (m : Nat) (hf : F.fn 47) (hro : F.round = none) (h : Int) (w : World) :
    CallsIn F m Try.prog 47 #[.int .u32 h] w fun e w' => e = .returned (.func (.func 49) #[] #[.pointer (some ⟨w.heap.size, 0, none⟩)]) ∧ w' = w.alloc (.cells #[.int .u32 h] 66) := by
  refine callsIn_of_wp Try.func47 rfl hf ?_ hro
  simp only [Try.ntmps47, List.size_toArray, List.length_cons, List.length_nil, Nat.reduceAdd, Nat.reduceSub, Array.replicate_succ, Array.replicate_zero, List.push_toArray, List.append_toArray, List.nil_append, List.cons_append]
  gi_wp2
  go_ret
  exact ⟨rfl, rfl⟩
theorem bit_tmod (h j : Nat) : (((h : Int) / 2 ^ j).tmod 2 == 1) = decide (h / 2 ^ j % 2 = 1) := by
  have e : ((h : Int) / 2 ^ j) = ((h / 2 ^ j : Nat) : Int) := by simp
  rw [e]
  generalize h / 2 ^ j = q
  rw [Int.tmod_eq_emod_of_nonneg (by omega)]
  rw [Bool.eq_iff_iff]
  simp
  omega
set_option maxRecDepth 100000 in
set_option maxHeartbeats 1000000 in
theorem clow1_in (m : Nat) (hm : 1 ≤ m) (l Bn : Nat) (h : Nat) (hh : h ≤ 4294967295) (J : Nat → World → Prop) (Jx : World → Prop) (hJc : ∀ j W, J j W → W.cell? ⟨Bn, 0, none⟩ = some (.int .u32 (h : Int)))
    (hY : ∀ j W, j < 4 → J j W → YieldAt Fence.wide (m - 1) Try.prog l #[.bool (decide (h / 2 ^ j % 2 = 1))] W fun e W' => (e = .returned (.bool true) ∧ J (j + 1) W') ∨ (e = .returned (.bool false) ∧ Jx W'))
    (W : World) (h0 : J 0 W) :
    CallsIn Fence.wide m Try.prog 49 #[.func (.yield l) #[] #[], .pointer (some ⟨Bn, 0, none⟩)] W fun e W' => (∃ v, e = .returned v) ∧ (J 4 W' ∨ Jx W') := by
  have HY := hid hY
  have HJC := hid hJc
  clear hY hJc
  refine callsIn_of_wp Try.func49 rfl trivial ?_ rfl
  simp only [Try.ntmps49, List.size_toArray, List.length_cons, List.length_nil, Nat.reduceAdd, Nat.reduceSub, Array.replicate_succ, Array.replicate_zero, List.push_toArray, List.append_toArray, List.nil_append, List.cons_append]
  gi_wp2
  gi_loopw [3, 4] (fun _ p wr => ∃ (j : Nat), p = .int .i64 (j : Int) ∧ j ≤ 4 ∧ J j wr) (fun _ p _ => 4 - (intOf p).toNat)
  case atStart => exact ⟨0, rfl, by omega, h0⟩
  case round =>
    obtain ⟨j, rfl, hj, hJ⟩ := hrel
    have hc := HJC.out j wr hJ
    by_cases hlt : j < 4
    · obtain ⟨fn, tmps, assign, body, hy, hR⟩ := HY.out j wr hlt hJ
      rw [← bit_tmod h j] at hy
      gi_wp2
      refine hR.mono ?_
      rintro e W3 (⟨rfl, hJ3⟩ | ⟨rfl, hJx3⟩)
      · gi_wp2
        go_roundw
        case rel => exact ⟨j + 1, by go_num, by omega, hJ3⟩
        case measure => simp [intOf]; omega
      · gi_wp2
        refine bodyPost_ret (results_none rfl _ _ _) rfl ?_
        exact ⟨⟨_, rfl⟩, .inr hJx3⟩
    · obtain rfl : j = 4 := by omega
      gi_wp2
      go_end0
      exact ⟨⟨_, rfl⟩, .inl hJ⟩
/-- The table, k half bytes done, and i bits of the next one. -/
def tabN (k i j : Nat) : Nat := if j < k then C.it 4 j else if j = k then C.it i (k % 2 ^ i) else 0
def tabC (k i : Nat) : Array Value := ((List.range 16).map fun j => Value.int .u32 (tabN k i j : Nat)).toArray
theorem tabC_get (k i j : Nat) (hj : j < 16) : (tabC k i)[j]? = some (.int .u32 (tabN k i j : Nat)) := by
  simp [tabC, hj]
theorem tabN_lt (k i j : Nat) (hk : k ≤ 16) (hj : j < 16) : tabN k i j ≤ 4294967295 := by
  unfold tabN
  split
  · have := C.it_lt (s := j) (by omega) 4; omega
  · split
    · have h2 : k % 2 ^ i ≤ k := Nat.mod_le _ _
      have := C.it_lt (s := k % 2 ^ i) (by omega) i; omega
    · omega
theorem tabC_set (k i : Nat) (hk : k < 16) : (tabC k i).setIfInBounds k (.int .u32 (tabN k (i + 1) k : Nat)) = tabC k (i + 1) := by
  apply Array.ext
  · simp [tabC]
  · intro j h1 h2
    have hj : j < 16 := by simpa [tabC] using h2
    rw [Array.getElem_setIfInBounds (by simpa [tabC] using h2)]
    by_cases e : k = j
    · subst e; simp [tabC]
    · rw [if_neg e]
      simp only [tabC, List.getElem_toArray, List.getElem_map, List.getElem_range, tabN]
      rw [if_neg (show ¬ j = k from fun h => e h.symm), if_neg (show ¬ j = k from fun h => e h.symm)]
theorem tabN_step (k i : Nat) : C.stp (tabN k i k) (decide (k / 2 ^ i % 2 = 1)) = tabN k (i + 1) k := by
  have h := C.stp_bits 0 k i
  rw [Nat.zero_xor, Nat.zero_xor] at h
  unfold tabN
  rw [if_neg (by omega), if_pos rfl, if_neg (by omega), if_pos rfl]
  exact h
theorem tabC_next (k : Nat) (hk : k < 16) : tabC k 4 = tabC (k + 1) 0 := by
  unfold tabC
  congr 1
  apply List.map_congr_left
  intro j hj
  congr 2
  unfold tabN
  by_cases h1 : j < k
  · rw [if_pos h1, if_pos (by omega)]
  · by_cases h2 : j = k
    · subst h2
      rw [if_neg (by omega), if_pos rfl, if_pos (by omega), show j % 2 ^ 4 = j from by omega]
    · rw [if_neg h1, if_neg h2, if_neg (by omega)]
      split
      · rw [Nat.pow_zero, Nat.mod_one]; rfl
      · rfl
def TAB : List Value := (List.range 16).map fun j => Value.int .u32 (C.it 4 j : Nat)
theorem tabC_last : tabC 16 0 = TAB.toArray := by
  unfold tabC TAB
  congr 1
theorem tabC_zero : tabC 0 0 = #[.int .u32 0, .int .u32 0, .int .u32 0, .int .u32 0, .int .u32 0, .int .u32 0, .int .u32 0, .int .u32 0, .int .u32 0, .int .u32 0, .int .u32 0, .int .u32 0, .int .u32 0, .int .u32 0, .int .u32 0, .int .u32 0] := by rfl
/-- What the table's loop keeps. -/
structure TabI (s : Nat) (w : World) (k i : Nat) (W : World) : Prop where
  r0 : Blk W s 93 (tabC 0 0)
  r1 : Blk W (s + 1) 93 (tabC k i)
  bel : Below s w W
theorem TabI.chg {s : Nat} {w : World} {k i : Nat} {W W' : World} {S : Nat → Prop} (h : TabI s w k i W) (hc : Chg S W W') (hS : ∀ q, S q → s + 2 ≤ q) : TabI s w k i W' :=
  ⟨hc.blk h.r0 (fun e => by have := hS _ e; omega), hc.blk h.r1 (fun e => by have := hS _ e; omega), h.bel.trans (hc.below (fun q e => by have := hS _ e; omega) (by have := h.r0.lt; omega))⟩
set_option maxRecDepth 100000 in
set_option maxHeartbeats 4000000 in
theorem ctable_in (m : Nat) (hm : 3 ≤ m) (w : World) :
    CallsIn Fence.wide m Try.prog 45 #[] w fun e w' => e = .returned (.agg TAB.toArray) ∧ Below w.heap.size w w' := by
  have h1 : 1 ≤ m := by omega
  refine callsIn_of_wp_marks Try.func45 rfl trivial ?_ rfl
  simp only [Try.ntmps45, List.size_toArray, List.length_nil, Nat.reduceSub, Array.replicate_succ, Array.replicate_zero, List.push_toArray, List.append_toArray, List.nil_append, List.cons_append]
  gi_wp2
  obtain ⟨s, hsz⟩ : ∃ s, w.heap.size = s := ⟨_, rfl⟩
  refine wpIn_loop_inv 16 (fun k a W => ∃ (u2 u3 u5 u6 u7 u8 u9 u10 u11 u12 u13 u14 u15 u16 u17 u18 u19 : Value) (Ds : List Nat), a = { tmps := #[.pointer (some ⟨s, 0, none⟩), .pointer (some ⟨s + 1, 0, none⟩), u2, u3, .int .i64 (k : Int), u5, u6, u7, u8, u9, u10, u11, u12, u13, u14, u15, u16, u17, u18, u19], defers := marksOf Ds } ∧ TabI s w k 0 W ∧ Marks (s + 2) W Ds) ?_ ?_
  · refine ⟨undef, undef, undef, undef, undef, undef, undef, undef, undef, undef, undef, undef, undef, undef, undef, undef, undef, [], by rw [hsz]; rfl, ?_, Marks.nil_ _ _⟩
    rw [← tabC_zero, ← hsz]
    exact ⟨(Blk.new w _ _).alloc _, by have := Blk.new (w.alloc (.cells (tabC 0 0) 93)) 93 (tabC 0 0); rwa [World.size_alloc] at this, bw_a (bw_a (Below.refl _ w) _) _⟩
  · rintro k a W hk ⟨u2, u3, u5, u6, u7, u8, u9, u10, u11, u12, u13, u14, u15, u16, u17, u18, u19, Ds, rfl, hI, hM⟩
    have HI := hid hI
    have HM := hid hM
    clear hI hM
    by_cases hlt : k < 16
    · obtain ⟨z, hz⟩ : ∃ z, W.heap.size = z := ⟨_, rfl⟩
      have hk2 : (k : Int) ≤ 15 := by omega
      have hk0 : (0 : Int) ≤ (k : Int) := by omega
      gi_wp2_with (refine ⟨trivial, ?_⟩; gi_at_call 47; refine (clow_in Fence.wide (m - 1) trivial rfl _ _).mono ?_; rintro e w' ⟨rfl, rfl⟩)
      have hzI := HI.out.r1.lt
      rw [hz] at hzI
      refine range_wide m (by omega) (z + 2) (by simp [hz]) (gf := 49) (lb := #[.pointer (some ⟨z + 1, 0, none⟩)]) rfl (enters_of Try.func49 (by kernel_rfl) rfl) 4 (fun j => #[.bool (decide (k / 2 ^ j % 2 = 1))]) (fun _ => rfl) 0
        (fun j W' => TabI s w k j W' ∧ Blk W' z 3 #[.int .i64 (k : Int)] ∧ Blk W' (z + 1) 66 #[.int .u32 (k : Int)] ∧ Chg (fun q => q = s + 1 ∨ z ≤ q) W W') (fun _ _ => False) ?_ (fun _ _ _ h _ => h) ?_ ?_ ?_ ?_ (fun _ _ h _ => h.elim)
      · rintro j W1 W2 ⟨a1, a2, a3, a4⟩ hc
        exact ⟨a1.chg hc (fun q hq => by omega), hc.blk a2 (by omega), hc.blk a3 (by omega), a4.trans (hc.mono fun q _ hq => by omega)⟩
      · have hb := Chg.alloc (Chg.alloc (Chg.refl (fun _ => False) W) (.cells #[.int .i64 (k : Int)] 3)) (.cells #[.int .u32 (k : Int)] 66)
        refine ⟨HI.out.chg hb (fun q hq => hq.elim), ?_, ?_, hb.mono fun q _ hq => hq.elim⟩
        · rw [← hz]; exact (Blk.new W _ _).alloc _
        · have := Blk.new (W.alloc (.cells #[.int .i64 (k : Int)] 3)) 66 #[.int .u32 (k : Int)]
          rwa [World.size_alloc, hz] at this
      · intro l J Jx W1 hw1 hJI hJn _ hJ0 hy
        exact clow1_in (m - 1) (by omega) l (z + 1) k (by omega) J Jx (fun j W h => (hJI j W h).1.2.2.1.cell 0) (fun j W hj h => by
          obtain ⟨fn, tm, as1, bd, e1, e2⟩ := hy j W hj h (hJI j W h).2
          refine ⟨fn, tm, as1, bd, e1, e2.mono ?_⟩
          rintro e W' (⟨h1, h2, -⟩ | ⟨h1, h2, -⟩)
          · exact .inl ⟨h1, h2⟩
          · exact .inr ⟨h1, h2⟩) W1 hJ0
      · rintro l j W1 hj ⟨a1, a2, a3, a4⟩ hsz
        gi_wp2
        refine ⟨KN.refl _ _ _, hsz, fun W2 hc2 => ?_⟩
        have b1 := a1.chg hc2 (fun q hq => by omega)
        have b2 := hc2.blk a2 (by omega)
        have b3 := hc2.blk a3 (by omega)
        have b4 := a4.trans (hc2.mono fun q _ hq => by omega)
        have hmx : Try.prog.follows .mixedOrders = true := by kernel_rfl
        have c0 := b2.cell 0
        have c1 := b1.r1.cell k
        have c2 := b1.r1.frozen k
        rw [tabC_get k j k hlt] at c1
        simp only [List.getElem?_toArray, List.getElem?_cons_zero] at c0
        have htl := tabN_lt k j k hk hlt
        have hst := tabN_step k j
        have hss := tabC_set k j hlt
        have hsz2 := hc2.size
        generalize tabN k j k = t at *
        generalize hbit : decide (k / 2 ^ j % 2 = 1) = bit at *
        have HB1 := hid b1
        have HB2 := hid b2
        have HB3 := hid b3
        have HB4 := hid b4
        have HST := hid hst
        have HSS := hid hss
        clear b1 b2 b3 b4 hst hss a1 a2 a3 a4 hbit
        have hstep := fun W => cstep_any t bit W htl
        have HSTEP := hid hstep
        clear hstep
        gi_wp2
        gi_region_with_o (refine ⟨trivial, (fun _ => by omega), ?_⟩; gi_at_call 48; refine (CallsIn.inRound l ((callsIn_wide (n := m - 1 - 1 - 1)).2 (HSTEP.out _))).mono ?_; rintro e w' ⟨rfl, rfl⟩)
        all_goals gi_wp2
        all_goals
          have hc : Chg (fun q => q = s + 1) W2 (W2.setCell ⟨s + 1, k, none⟩ (.int .u32 (C.stp t bit : Nat))).drew := Chg.drew ((Chg.refl (fun q => q = s + 1) W2).set_ (g := s + 1) (.inl rfl) k (.int .u32 (C.stp t bit : Nat)))
          have hr1 : Blk (W2.setCell ⟨s + 1, k, none⟩ (.int .u32 (C.stp t bit : Nat))).drew (s + 1) 93 (tabC k (j + 1)) := by
            rw [← HSS.out, ← HST.out]
            exact HB1.out.r1.set_ k _
          have hl1 := HB1.out.r1.lt
          exact ⟨KN.of_chg hc (by omega) (fun q g1 g2 => by omega), ⟨hc.blk HB1.out.r0 (by omega), hr1, HB1.out.bel.trans (hc.below (fun q hq => by omega) (by omega))⟩, hc.blk HB2.out (by omega), hc.blk HB3.out (by omega), HB4.out.trans (hc.mono fun q _ hq => .inl hq)⟩
      · rintro W1 ⟨a1, a2, a3, a4⟩ hd
        have hzl := HI.out.r0.lt
        have hM2 : Marks (s + 2) W1 ((z + 2) :: Ds) := (HM.out.chg a4 fun D hD hq => by
          have h1 := HM.out.lt hD
          have h2 := (HM.out.2 D hD).1
          omega).cons_ (by omega) (fun hD => by have h1 := HM.out.lt hD; omega) hd
        have hI2 : TabI s w (k + 1) 0 W1 := by
          refine ⟨a1.r0, ?_, a1.bel⟩
          rw [← tabC_next k hlt]; exact a1.r1
        have HI2 := hid hI2
        have HM2 := hid hM2
        clear hI2 hM2 a1 a2 a3 a4 hd
        gi_wp2
        exact ⟨hlt, _, _, _, _, _, _, _, _, _, _, _, _, _, _, _, _, _, (z + 2) :: Ds, by rw [show ((k + 1 : Nat) : Int) = (k : Int) + 1 from by omega]; rfl, HI2.out, HM2.out⟩
    · obtain rfl : k = 16 := by omega
      have hI := HI.out
      obtain ⟨t0, t1, t2, t3, t4, t5, t6, t7, t8, t9, t10, t11, t12, t13, t14, t15, hT⟩ : ∃ t0 t1 t2 t3 t4 t5 t6 t7 t8 t9 t10 t11 t12 t13 t14 t15 : Nat, TAB.toArray = #[.int .u32 (t0 : Nat), .int .u32 (t1 : Nat), .int .u32 (t2 : Nat), .int .u32 (t3 : Nat), .int .u32 (t4 : Nat), .int .u32 (t5 : Nat), .int .u32 (t6 : Nat), .int .u32 (t7 : Nat), .int .u32 (t8 : Nat), .int .u32 (t9 : Nat), .int .u32 (t10 : Nat), .int .u32 (t11 : Nat), .int .u32 (t12 : Nat), .int .u32 (t13 : Nat), .int .u32 (t14 : Nat), .int .u32 (t15 : Nat)] := ⟨_, _, _, _, _, _, _, _, _, _, _, _, _, _, _, _, rfl⟩
      have k1 := hI.r1
      rw [tabC_last, hT] at k1
      have k0 := hI.r0
      rw [tabC_zero] at k0
      have c0 : W.cell? ⟨s + 1, 0, none⟩ = some (.int .u32 (t0 : Nat)) := by have := k1.cell 0; simpa using this
      have c1 : W.cell? ⟨s + 1, 1, none⟩ = some (.int .u32 (t1 : Nat)) := by have := k1.cell 1; simpa using this
      have c2 : W.cell? ⟨s + 1, 2, none⟩ = some (.int .u32 (t2 : Nat)) := by have := k1.cell 2; simpa using this
      have c3 : W.cell? ⟨s + 1, 3, none⟩ = some (.int .u32 (t3 : Nat)) := by have := k1.cell 3; simpa using this
      have c4 : W.cell? ⟨s + 1, 4, none⟩ = some (.int .u32 (t4 : Nat)) := by have := k1.cell 4; simpa using this
      have c5 : W.cell? ⟨s + 1, 5, none⟩ = some (.int .u32 (t5 : Nat)) := by have := k1.cell 5; simpa using this
      have c6 : W.cell? ⟨s + 1, 6, none⟩ = some (.int .u32 (t6 : Nat)) := by have := k1.cell 6; simpa using this
      have c7 : W.cell? ⟨s + 1, 7, none⟩ = some (.int .u32 (t7 : Nat)) := by have := k1.cell 7; simpa using this
      have c8 : W.cell? ⟨s + 1, 8, none⟩ = some (.int .u32 (t8 : Nat)) := by have := k1.cell 8; simpa using this
      have c9 : W.cell? ⟨s + 1, 9, none⟩ = some (.int .u32 (t9 : Nat)) := by have := k1.cell 9; simpa using this
      have c10 : W.cell? ⟨s + 1, 10, none⟩ = some (.int .u32 (t10 : Nat)) := by have := k1.cell 10; simpa using this
      have c11 : W.cell? ⟨s + 1, 11, none⟩ = some (.int .u32 (t11 : Nat)) := by have := k1.cell 11; simpa using this
      have c12 : W.cell? ⟨s + 1, 12, none⟩ = some (.int .u32 (t12 : Nat)) := by have := k1.cell 12; simpa using this
      have c13 : W.cell? ⟨s + 1, 13, none⟩ = some (.int .u32 (t13 : Nat)) := by have := k1.cell 13; simpa using this
      have c14 : W.cell? ⟨s + 1, 14, none⟩ = some (.int .u32 (t14 : Nat)) := by have := k1.cell 14; simpa using this
      have c15 : W.cell? ⟨s + 1, 15, none⟩ = some (.int .u32 (t15 : Nat)) := by have := k1.cell 15; simpa using this
      have d0 : W.cell? ⟨s, 0, none⟩ = some (.int .u32 0) := by have := k0.cell 0; simpa using this
      have d1 : W.cell? ⟨s, 1, none⟩ = some (.int .u32 0) := by have := k0.cell 1; simpa using this
      have d2 : W.cell? ⟨s, 2, none⟩ = some (.int .u32 0) := by have := k0.cell 2; simpa using this
      have d3 : W.cell? ⟨s, 3, none⟩ = some (.int .u32 0) := by have := k0.cell 3; simpa using this
      have d4 : W.cell? ⟨s, 4, none⟩ = some (.int .u32 0) := by have := k0.cell 4; simpa using this
      have d5 : W.cell? ⟨s, 5, none⟩ = some (.int .u32 0) := by have := k0.cell 5; simpa using this
      have d6 : W.cell? ⟨s, 6, none⟩ = some (.int .u32 0) := by have := k0.cell 6; simpa using this
      have d7 : W.cell? ⟨s, 7, none⟩ = some (.int .u32 0) := by have := k0.cell 7; simpa using this
      have d8 : W.cell? ⟨s, 8, none⟩ = some (.int .u32 0) := by have := k0.cell 8; simpa using this
      have d9 : W.cell? ⟨s, 9, none⟩ = some (.int .u32 0) := by have := k0.cell 9; simpa using this
      have d10 : W.cell? ⟨s, 10, none⟩ = some (.int .u32 0) := by have := k0.cell 10; simpa using this
      have d11 : W.cell? ⟨s, 11, none⟩ = some (.int .u32 0) := by have := k0.cell 11; simpa using this
      have d12 : W.cell? ⟨s, 12, none⟩ = some (.int .u32 0) := by have := k0.cell 12; simpa using this
      have d13 : W.cell? ⟨s, 13, none⟩ = some (.int .u32 0) := by have := k0.cell 13; simpa using this
      have d14 : W.cell? ⟨s, 14, none⟩ = some (.int .u32 0) := by have := k0.cell 14; simpa using this
      have d15 : W.cell? ⟨s, 15, none⟩ = some (.int .u32 0) := by have := k0.cell 15; simpa using this
      have f0 := k0.frozen 0
      have f1 := k0.frozen 1
      have f2 := k0.frozen 2
      have f3 := k0.frozen 3
      have f4 := k0.frozen 4
      have f5 := k0.frozen 5
      have f6 := k0.frozen 6
      have f7 := k0.frozen 7
      have f8 := k0.frozen 8
      have f9 := k0.frozen 9
      have f10 := k0.frozen 10
      have f11 := k0.frozen 11
      have f12 := k0.frozen 12
      have f13 := k0.frozen 13
      have f14 := k0.frozen 14
      have f15 := k0.frozen 15
      have kl := k0.lt
      have kl1 := k1.lt
      have HK0 := hid k0
      clear k0 k1 hI
      gi_wp2
      have hb : Blk ((((((((((((((((W.setCell ⟨s, 0, none⟩ (.int .u32 (t0 : Nat))).setCell ⟨s, 1, none⟩ (.int .u32 (t1 : Nat))).setCell ⟨s, 2, none⟩ (.int .u32 (t2 : Nat))).setCell ⟨s, 3, none⟩ (.int .u32 (t3 : Nat))).setCell ⟨s, 4, none⟩ (.int .u32 (t4 : Nat))).setCell ⟨s, 5, none⟩ (.int .u32 (t5 : Nat))).setCell ⟨s, 6, none⟩ (.int .u32 (t6 : Nat))).setCell ⟨s, 7, none⟩ (.int .u32 (t7 : Nat))).setCell ⟨s, 8, none⟩ (.int .u32 (t8 : Nat))).setCell ⟨s, 9, none⟩ (.int .u32 (t9 : Nat))).setCell ⟨s, 10, none⟩ (.int .u32 (t10 : Nat))).setCell ⟨s, 11, none⟩ (.int .u32 (t11 : Nat))).setCell ⟨s, 12, none⟩ (.int .u32 (t12 : Nat))).setCell ⟨s, 13, none⟩ (.int .u32 (t13 : Nat))).setCell ⟨s, 14, none⟩ (.int .u32 (t14 : Nat))).setCell ⟨s, 15, none⟩ (.int .u32 (t15 : Nat))) s 93 #[.int .u32 (t0 : Nat), .int .u32 (t1 : Nat), .int .u32 (t2 : Nat), .int .u32 (t3 : Nat), .int .u32 (t4 : Nat), .int .u32 (t5 : Nat), .int .u32 (t6 : Nat), .int .u32 (t7 : Nat), .int .u32 (t8 : Nat), .int .u32 (t9 : Nat), .int .u32 (t10 : Nat), .int .u32 (t11 : Nat), .int .u32 (t12 : Nat), .int .u32 (t13 : Nat), .int .u32 (t14 : Nat), .int .u32 (t15 : Nat)] := by
        have := ((((((((((((((((HK0.out.set_ 0 (.int .u32 (t0 : Nat))).set_ 1 (.int .u32 (t1 : Nat))).set_ 2 (.int .u32 (t2 : Nat))).set_ 3 (.int .u32 (t3 : Nat))).set_ 4 (.int .u32 (t4 : Nat))).set_ 5 (.int .u32 (t5 : Nat))).set_ 6 (.int .u32 (t6 : Nat))).set_ 7 (.int .u32 (t7 : Nat))).set_ 8 (.int .u32 (t8 : Nat))).set_ 9 (.int .u32 (t9 : Nat))).set_ 10 (.int .u32 (t10 : Nat))).set_ 11 (.int .u32 (t11 : Nat))).set_ 12 (.int .u32 (t12 : Nat))).set_ 13 (.int .u32 (t13 : Nat))).set_ 14 (.int .u32 (t14 : Nat))).set_ 15 (.int .u32 (t15 : Nat)))
        simpa using this
      have hc : Chg (fun q => q = s) W ((((((((((((((((W.setCell ⟨s, 0, none⟩ (.int .u32 (t0 : Nat))).setCell ⟨s, 1, none⟩ (.int .u32 (t1 : Nat))).setCell ⟨s, 2, none⟩ (.int .u32 (t2 : Nat))).setCell ⟨s, 3, none⟩ (.int .u32 (t3 : Nat))).setCell ⟨s, 4, none⟩ (.int .u32 (t4 : Nat))).setCell ⟨s, 5, none⟩ (.int .u32 (t5 : Nat))).setCell ⟨s, 6, none⟩ (.int .u32 (t6 : Nat))).setCell ⟨s, 7, none⟩ (.int .u32 (t7 : Nat))).setCell ⟨s, 8, none⟩ (.int .u32 (t8 : Nat))).setCell ⟨s, 9, none⟩ (.int .u32 (t9 : Nat))).setCell ⟨s, 10, none⟩ (.int .u32 (t10 : Nat))).setCell ⟨s, 11, none⟩ (.int .u32 (t11 : Nat))).setCell ⟨s, 12, none⟩ (.int .u32 (t12 : Nat))).setCell ⟨s, 13, none⟩ (.int .u32 (t13 : Nat))).setCell ⟨s, 14, none⟩ (.int .u32 (t14 : Nat))).setCell ⟨s, 15, none⟩ (.int .u32 (t15 : Nat))) := (((((((((((((((((Chg.refl (fun q => q = s) W).set_ (.inl rfl) 0 (.int .u32 (t0 : Nat))).set_ (.inl rfl) 1 (.int .u32 (t1 : Nat))).set_ (.inl rfl) 2 (.int .u32 (t2 : Nat))).set_ (.inl rfl) 3 (.int .u32 (t3 : Nat))).set_ (.inl rfl) 4 (.int .u32 (t4 : Nat))).set_ (.inl rfl) 5 (.int .u32 (t5 : Nat))).set_ (.inl rfl) 6 (.int .u32 (t6 : Nat))).set_ (.inl rfl) 7 (.int .u32 (t7 : Nat))).set_ (.inl rfl) 8 (.int .u32 (t8 : Nat))).set_ (.inl rfl) 9 (.int .u32 (t9 : Nat))).set_ (.inl rfl) 10 (.int .u32 (t10 : Nat))).set_ (.inl rfl) 11 (.int .u32 (t11 : Nat))).set_ (.inl rfl) 12 (.int .u32 (t12 : Nat))).set_ (.inl rfl) 13 (.int .u32 (t13 : Nat))).set_ (.inl rfl) 14 (.int .u32 (t14 : Nat))).set_ (.inl rfl) 15 (.int .u32 (t15 : Nat)))
      generalize ((((((((((((((((W.setCell ⟨s, 0, none⟩ (.int .u32 (t0 : Nat))).setCell ⟨s, 1, none⟩ (.int .u32 (t1 : Nat))).setCell ⟨s, 2, none⟩ (.int .u32 (t2 : Nat))).setCell ⟨s, 3, none⟩ (.int .u32 (t3 : Nat))).setCell ⟨s, 4, none⟩ (.int .u32 (t4 : Nat))).setCell ⟨s, 5, none⟩ (.int .u32 (t5 : Nat))).setCell ⟨s, 6, none⟩ (.int .u32 (t6 : Nat))).setCell ⟨s, 7, none⟩ (.int .u32 (t7 : Nat))).setCell ⟨s, 8, none⟩ (.int .u32 (t8 : Nat))).setCell ⟨s, 9, none⟩ (.int .u32 (t9 : Nat))).setCell ⟨s, 10, none⟩ (.int .u32 (t10 : Nat))).setCell ⟨s, 11, none⟩ (.int .u32 (t11 : Nat))).setCell ⟨s, 12, none⟩ (.int .u32 (t12 : Nat))).setCell ⟨s, 13, none⟩ (.int .u32 (t13 : Nat))).setCell ⟨s, 14, none⟩ (.int .u32 (t14 : Nat))).setCell ⟨s, 15, none⟩ (.int .u32 (t15 : Nat))) = W5 at *
      refine leaves_marks (s + 2) Ds W5 (HM.out.chg hc fun D hD hq => by have := (HM.out.2 D hD).1; omega) fun W6 h6 => ?_
      have hb6 := h6.blk hb (fun hq => by have := (HM.out.2 s hq).1; omega)
      have g0 : W6.cell? ⟨s, 0, none⟩ = some (.int .u32 (t0 : Nat)) := by have := hb6.cell 0; simpa using this
      have g1 : W6.cell? ⟨s, 1, none⟩ = some (.int .u32 (t1 : Nat)) := by have := hb6.cell 1; simpa using this
      have g2 : W6.cell? ⟨s, 2, none⟩ = some (.int .u32 (t2 : Nat)) := by have := hb6.cell 2; simpa using this
      have g3 : W6.cell? ⟨s, 3, none⟩ = some (.int .u32 (t3 : Nat)) := by have := hb6.cell 3; simpa using this
      have g4 : W6.cell? ⟨s, 4, none⟩ = some (.int .u32 (t4 : Nat)) := by have := hb6.cell 4; simpa using this
      have g5 : W6.cell? ⟨s, 5, none⟩ = some (.int .u32 (t5 : Nat)) := by have := hb6.cell 5; simpa using this
      have g6 : W6.cell? ⟨s, 6, none⟩ = some (.int .u32 (t6 : Nat)) := by have := hb6.cell 6; simpa using this
      have g7 : W6.cell? ⟨s, 7, none⟩ = some (.int .u32 (t7 : Nat)) := by have := hb6.cell 7; simpa using this
      have g8 : W6.cell? ⟨s, 8, none⟩ = some (.int .u32 (t8 : Nat)) := by have := hb6.cell 8; simpa using this
      have g9 : W6.cell? ⟨s, 9, none⟩ = some (.int .u32 (t9 : Nat)) := by have := hb6.cell 9; simpa using this
      have g10 : W6.cell? ⟨s, 10, none⟩ = some (.int .u32 (t10 : Nat)) := by have := hb6.cell 10; simpa using this
      have g11 : W6.cell? ⟨s, 11, none⟩ = some (.int .u32 (t11 : Nat)) := by have := hb6.cell 11; simpa using this
      have g12 : W6.cell? ⟨s, 12, none⟩ = some (.int .u32 (t12 : Nat)) := by have := hb6.cell 12; simpa using this
      have g13 : W6.cell? ⟨s, 13, none⟩ = some (.int .u32 (t13 : Nat)) := by have := hb6.cell 13; simpa using this
      have g14 : W6.cell? ⟨s, 14, none⟩ = some (.int .u32 (t14 : Nat)) := by have := hb6.cell 14; simpa using this
      have g15 : W6.cell? ⟨s, 15, none⟩ = some (.int .u32 (t15 : Nat)) := by have := hb6.cell 15; simpa using this
      refine ⟨.agg #[.int .u32 (t0 : Nat), .int .u32 (t1 : Nat), .int .u32 (t2 : Nat), .int .u32 (t3 : Nat), .int .u32 (t4 : Nat), .int .u32 (t5 : Nat), .int .u32 (t6 : Nat), .int .u32 (t7 : Nat), .int .u32 (t8 : Nat), .int .u32 (t9 : Nat), .int .u32 (t10 : Nat), .int .u32 (t11 : Nat), .int .u32 (t12 : Nat), .int .u32 (t13 : Nat), .int .u32 (t14 : Nat), .int .u32 (t15 : Nat)], by simp [results, Try.results45, go_sem, g0, g1, g2, g3, g4, g5, g6, g7, g8, g9, g10, g11, g12, g13, g14, g15], by rw [hT], ?_⟩
      rw [hsz]
      exact HI.out.bel.trans ((hc.below (B := s) (fun q hq => by omega) (by omega)).trans (h6.below (B := s) (fun q hq => by have := (HM.out.2 q hq).1; omega) (by have := hb.lt; omega)))
end Go.Proofs.Ytgiealcfhlcpoaa
