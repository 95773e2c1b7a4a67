/- The document's one and Same of messages. -/
import Derived.Test.YtehjibbjkadoiaaVRef2
set_option linter.unusedVariables false
namespace Go.Proofs.Ytehjibbjkadoiaa
open Go.RowKit
set_option maxRecDepth 100000 in
set_option maxHeartbeats 2000000 in
theorem rsame9_any (a b : MV) (w : World) (ha : Sl w a.A a.c (a.l.map sv)) (hb : Sl w b.A b.c (b.l.map sv)) : Calls Try.prog 15 #[mvV a, mvV b] w fun e w' => e = .returned (.bool (sameB a b)) ∧ Below w.heap.size w w' := by
  have hq := fun (W : World) (hW : Below w.heap.size w W) => rtexts_any a.l b.l a.l.length b.l.length a.A b.A a.c b.c W rfl rfl (ha.below hW) (hb.below hW)
  have hen := fun (W : World) => eq_nums a.n0 a.n1 a.n2 a.n3 a.n4 a.n5 b.n0 b.n1 b.n2 b.n3 b.n4 b.n5 W
  have het := fun (W : World) => eq_texts a.s0 a.s1 b.s0 b.s1 W
  have hen' : ∀ W, _ = Result.ok (Value.bool (decide (sameN a b))) W := hen
  have het' : ∀ W, _ = Result.ok (Value.bool (decide (sameT a b))) W := het
  have hS : sameB a b = (decide (a.k = b.k) && decide (sameN a b) && decide (sameT a b) && decide (a.l = b.l)) := rfl
  have hbb := fun (la lb : Nat) => bw_a (bw_a (Below.refl _ w) (.cells #[.int .u8 (a.k : Int), .int .u64 (a.n0 : Int), .int .u64 (a.n1 : Int), .int .u64 (a.n2 : Int), .int .u64 (a.n3 : Int), .int .u64 (a.n4 : Int), .int .u64 (a.n5 : Int), .string a.s0, .string a.s1, .slice a.A la a.c] 27)) (.cells #[.int .u8 (b.k : Int), .int .u64 (b.n0 : Int), .int .u64 (b.n1 : Int), .int .u64 (b.n2 : Int), .int .u64 (b.n3 : Int), .int .u64 (b.n4 : Int), .int .u64 (b.n5 : Int), .string b.s0, .string b.s1, .slice b.A lb b.c] 27)
  clear hen het ha hb
  generalize sameB a b = R at *
  generalize hdn : decide (sameN a b) = dn at *
  generalize hdt : decide (sameT a b) = dt at *
  generalize hdl : decide (a.l = b.l) = dl at *
  unfold mvV mvA
  generalize a.l.length = la at *
  generalize b.l.length = lb at *
  clear hdn hdt hdl
  have HS := hid hS
  have HQ := hid hq
  have HBB := hid (hbb la lb)
  clear hS hq hbb
  by_cases hk : a.k = b.k
  · have hkb : ((a.k : Int) == (b.k : Int)) = true := by simp [hk]
    have hkd : decide (a.k = b.k) = true := by simp [hk]
    rw [hkd] at HS
    clear hkd
    have HK := hid hk
    clear hk
    cases dn with
    | false =>
      have HS2 := hid (show R = false from by rw [HS.out]; rfl)
      go_enter Try.func15, Try.ntmps15
      go_wp2_with fail
      go_ret
      exact ⟨by rw [HS2.out]; rfl, HBB.out⟩
    | true =>
      cases dt with
      | false =>
        have HS2 := hid (show R = false from by rw [HS.out]; rfl)
        go_enter Try.func15, Try.ntmps15
        go_wp2_with fail
        go_ret
        exact ⟨by rw [HS2.out]; rfl, HBB.out⟩
      | true =>
        have HS2 := hid (show R = dl from by rw [HS.out]; rfl)
        go_enter Try.func15, Try.ntmps15
        go_wp2_with fail
        refine (HQ.out _ HBB.out).mono ?_
        rintro e w1 ⟨rfl, q, rfl⟩
        go_wp2_with fail
        go_ret
        exact ⟨by rw [HS2.out]; rfl, bw_d HBB.out q⟩
  · have hkb : ((a.k : Int) == (b.k : Int)) = false := by simp; omega
    have hkd : decide (a.k = b.k) = false := by simpa using hk
    rw [hkd] at HS
    have HS2 := hid (show R = false from by rw [HS.out]; rfl)
    clear hkd
    have HK := hid hk
    clear hk
    go_enter Try.func15, Try.ntmps15
    go_wp2_with fail
    go_ret
    exact ⟨by rw [HS2.out]; rfl, HBB.out⟩

theorem rmostI (t : Int) (w : World) : Calls Try.prog 80 #[.int .i64 t] w fun e w' => e = .returned (.int .i64 (mostN t : Nat)) ∧ w' = w := rmost_any t w
set_option maxRecDepth 100000 in
set_option maxHeartbeats 4000000 in
theorem rone9_any (m : MV) (num t i : Int) (w : World) (hok : MvOk w m) : Calls Try.prog 59 #[mvV m, .agg #[.int .i64 num, .int .i64 t, .int .i64 i]] w fun e w' => e = .returned (.int .i64 (wrongE m t i)) ∧ Below w.heap.size w w' := by
  have hp := fun W => rplace_any m num t i W
  have hck := fun W => rchk_any (m.text i) (mostN t : Nat) W (hok.s i) (by omega) (by have := mostN_le t; omega)
  have hcl := fun (x : ByteArray) (hx : x ∈ m.l) W => rchk_any x 64 W (hok.e x hx) (by omega) (by omega)
  have hmo := fun W => rmostI t W
  have h1 := wr_num m t i
  have h4 := wr_bool m i
  have h7 := wr_text m t i
  have h10 := wr_list m i
  have h0 := wr_out m t i
  have p1 := pl_num m t i
  have p7 := pl_text m t i
  have p10 := pl_list m i
  have p0 := pl_out m t i
  have hsl := hok.l
  have hls : lstE m.l = if 64 < m.l.length then 2 else txtE 64 m.l := rfl
  have hmq := mostN_le t
  clear hok
  obtain ⟨len, hlen⟩ : ∃ n, m.l.length = n := ⟨_, rfl⟩
  unfold mvV mvA at *
  rw [hlen] at p10 hls hp
  rw [hlen]
  generalize lstE m.l = le at *
  obtain ⟨s, hws⟩ : ∃ s, w.heap.size = s := ⟨_, rfl⟩
  have HBX := hid (bx2 w s len m num t i hws)
  have hsl2 := fun W (hW : Below w.heap.size w W) => hsl.below hW
  have hc1 : len ≤ 9223372036854775807 := by have g1 := hsl.cap; have g2 := hsl.small; rw [List.length_map] at g1; omega
  rw [hws] at hsl2 ⊢
  have HLEN := hid hlen
  have HSL := hid hsl2
  have HCL := hid hcl
  have HMO := hid hmo
  clear hlen hsl hsl2 hcl hmo
  have hcase : (t = 1 ∨ t = 5) ∨ t = 4 ∨ (t = 7 ∨ t = 8 ∨ t = 9) ∨ t = 10 ∨ (t = 2 ∨ t = 3 ∨ t = 6) ∨ t < 1 ∨ 10 < t := by omega
  rcases hcase with h | rfl | h | rfl | h | h | h
  · obtain ⟨q1, q2, q3⟩ := p1 (by omega)
    rw [q1, q2, q3] at hp
    rw [h1 h]
    clear h1 h4 h7 h10 h0 p1 p7 p10 p0 q1 q2 q3 hck hls
    generalize m.num i = x at *
    have HP := hid hp
    clear hp
    by_cases hx : 4294967295 < x
    · rw [if_pos hx]
      rcases h with rfl | rfl
      · clear HMO
        go_enter Try.func59, Try.ntmps59
        go_wp2_with fail
        refine (HP.out _).mono ?_
        rintro e w1 ⟨rfl, hb1⟩
        have hk1 := HBX.out.b1.below hb1 HBX.out.b1.lt
        have HB1 := hid (HBX.out.bel.trans (hb1.mono (by have := HBX.out.z; omega)))
        have d1 := hk1.cell 1
        simp only [List.getElem?_toArray, List.getElem?_cons_zero, List.getElem?_cons_succ] at d1
        clear hb1 hk1
        go_wp2_with fail
        go_ret
        exact ⟨rfl, HB1.out⟩
      · clear HMO
        go_enter Try.func59, Try.ntmps59
        go_wp2_with fail
        refine (HP.out _).mono ?_
        rintro e w1 ⟨rfl, hb1⟩
        have hk1 := HBX.out.b1.below hb1 HBX.out.b1.lt
        have HB1 := hid (HBX.out.bel.trans (hb1.mono (by have := HBX.out.z; omega)))
        have d1 := hk1.cell 1
        simp only [List.getElem?_toArray, List.getElem?_cons_zero, List.getElem?_cons_succ] at d1
        clear hb1 hk1
        go_wp2_with fail
        go_ret
        exact ⟨rfl, HB1.out⟩
    · rw [if_neg hx]
      rcases h with rfl | rfl
      · skip
        go_enter Try.func59, Try.ntmps59
        go_wp2_with fail
        refine (HP.out _).mono ?_
        rintro e w1 ⟨rfl, hb1⟩
        have hk1 := HBX.out.b1.below hb1 HBX.out.b1.lt
        have HB1 := hid (HBX.out.bel.trans (hb1.mono (by have := HBX.out.z; omega)))
        have d1 := hk1.cell 1
        simp only [List.getElem?_toArray, List.getElem?_cons_zero, List.getElem?_cons_succ] at d1
        clear hb1 hk1
        go_wp2_with fail
        refine (HMO.out _).mono ?_
        rintro e w2 ⟨rfl, rfl⟩
        go_wp2_with fail
        go_loopw [9] (fun i wr => i = .int .i64 0 ∧ wr = w2) (fun _ _ => 0)
        case atStart => exact ⟨rfl, rfl⟩
        case round =>
          obtain ⟨rfl, rfl⟩ := hrel
          go_wp2_with fail
          go_ret
          exact ⟨rfl, HB1.out⟩
      · skip
        go_enter Try.func59, Try.ntmps59
        go_wp2_with fail
        refine (HP.out _).mono ?_
        rintro e w1 ⟨rfl, hb1⟩
        have hk1 := HBX.out.b1.below hb1 HBX.out.b1.lt
        have HB1 := hid (HBX.out.bel.trans (hb1.mono (by have := HBX.out.z; omega)))
        have d1 := hk1.cell 1
        simp only [List.getElem?_toArray, List.getElem?_cons_zero, List.getElem?_cons_succ] at d1
        clear hb1 hk1
        go_wp2_with fail
        refine (HMO.out _).mono ?_
        rintro e w2 ⟨rfl, rfl⟩
        go_wp2_with fail
        go_loopw [9] (fun i wr => i = .int .i64 0 ∧ wr = w2) (fun _ _ => 0)
        case atStart => exact ⟨rfl, rfl⟩
        case round =>
          obtain ⟨rfl, rfl⟩ := hrel
          go_wp2_with fail
          go_ret
          exact ⟨rfl, HB1.out⟩
  · obtain ⟨q1, q2, q3⟩ := p1 (by omega)
    rw [q1, q2, q3] at hp
    rw [h4]
    clear h1 h4 h7 h10 h0 p1 p7 p10 p0 q1 q2 q3 hck hls
    generalize m.num i = x at *
    have HP := hid hp
    clear hp
    by_cases hx : 1 < x
    · rw [if_pos hx]
      clear HMO
      go_enter Try.func59, Try.ntmps59
      go_wp2_with fail
      refine (HP.out _).mono ?_
      rintro e w1 ⟨rfl, hb1⟩
      have hk1 := HBX.out.b1.below hb1 HBX.out.b1.lt
      have HB1 := hid (HBX.out.bel.trans (hb1.mono (by have := HBX.out.z; omega)))
      have d1 := hk1.cell 1
      simp only [List.getElem?_toArray, List.getElem?_cons_zero, List.getElem?_cons_succ] at d1
      clear hb1 hk1
      go_wp2_with fail
      go_ret
      exact ⟨rfl, HB1.out⟩
    · rw [if_neg hx]
      go_enter Try.func59, Try.ntmps59
      go_wp2_with fail
      refine (HP.out _).mono ?_
      rintro e w1 ⟨rfl, hb1⟩
      have hk1 := HBX.out.b1.below hb1 HBX.out.b1.lt
      have HB1 := hid (HBX.out.bel.trans (hb1.mono (by have := HBX.out.z; omega)))
      have d1 := hk1.cell 1
      simp only [List.getElem?_toArray, List.getElem?_cons_zero, List.getElem?_cons_succ] at d1
      clear hb1 hk1
      go_wp2_with fail
      refine (HMO.out _).mono ?_
      rintro e w2 ⟨rfl, rfl⟩
      go_wp2_with fail
      go_loopw [9] (fun i wr => i = .int .i64 0 ∧ wr = w2) (fun _ _ => 0)
      case atStart => exact ⟨rfl, rfl⟩
      case round =>
        obtain ⟨rfl, rfl⟩ := hrel
        go_wp2_with fail
        go_ret
        exact ⟨rfl, HB1.out⟩
  · obtain ⟨q1, q2, q3⟩ := p7 (by omega)
    rw [q1, q2, q3] at hp
    rw [h7 (by omega)]
    clear h1 h4 h7 h10 h0 p1 p7 p10 p0 q1 q2 q3 hls
    generalize chk (m.text i) (mostN t : Nat) = ce at *
    generalize m.text i = y at *
    generalize mostN t = mo at *
    have HP := hid hp
    have HCK := hid hck
    clear hp hck
    rcases h with rfl | rfl | rfl
    · skip
      go_enter Try.func59, Try.ntmps59
      go_wp2_with fail
      refine (HP.out _).mono ?_
      rintro e w1 ⟨rfl, hb1⟩
      have hk1 := HBX.out.b1.below hb1 HBX.out.b1.lt
      have HB1 := hid (HBX.out.bel.trans (hb1.mono (by have := HBX.out.z; omega)))
      have d1 := hk1.cell 1
      simp only [List.getElem?_toArray, List.getElem?_cons_zero, List.getElem?_cons_succ] at d1
      clear hb1 hk1
      go_wp2_with fail
      refine (HMO.out _).mono ?_
      rintro e w2 ⟨rfl, rfl⟩
      go_wp2_with fail
      refine (HCK.out _).mono ?_
      rintro e w3 ⟨rfl, rfl⟩
      go_wp2_with fail
      go_ret
      exact ⟨rfl, HB1.out⟩
    · skip
      go_enter Try.func59, Try.ntmps59
      go_wp2_with fail
      refine (HP.out _).mono ?_
      rintro e w1 ⟨rfl, hb1⟩
      have hk1 := HBX.out.b1.below hb1 HBX.out.b1.lt
      have HB1 := hid (HBX.out.bel.trans (hb1.mono (by have := HBX.out.z; omega)))
      have d1 := hk1.cell 1
      simp only [List.getElem?_toArray, List.getElem?_cons_zero, List.getElem?_cons_succ] at d1
      clear hb1 hk1
      go_wp2_with fail
      refine (HMO.out _).mono ?_
      rintro e w2 ⟨rfl, rfl⟩
      go_wp2_with fail
      refine (HCK.out _).mono ?_
      rintro e w3 ⟨rfl, rfl⟩
      go_wp2_with fail
      go_ret
      exact ⟨rfl, HB1.out⟩
    · skip
      go_enter Try.func59, Try.ntmps59
      go_wp2_with fail
      refine (HP.out _).mono ?_
      rintro e w1 ⟨rfl, hb1⟩
      have hk1 := HBX.out.b1.below hb1 HBX.out.b1.lt
      have HB1 := hid (HBX.out.bel.trans (hb1.mono (by have := HBX.out.z; omega)))
      have d1 := hk1.cell 1
      simp only [List.getElem?_toArray, List.getElem?_cons_zero, List.getElem?_cons_succ] at d1
      clear hb1 hk1
      go_wp2_with fail
      refine (HMO.out _).mono ?_
      rintro e w2 ⟨rfl, rfl⟩
      go_wp2_with fail
      refine (HCK.out _).mono ?_
      rintro e w3 ⟨rfl, rfl⟩
      go_wp2_with fail
      go_ret
      exact ⟨rfl, HB1.out⟩
  · obtain ⟨q1, q2, q3⟩ := p10
    rw [q1, q2, q3] at hp
    rw [h10]
    clear h1 h4 h7 h10 h0 p1 p7 p0 q1 q2 q3 hck
    have hmo10 : mostN 10 = 64 := rfl
    rw [hmo10] at HMO
    have HP := hid hp
    clear hp hmo10
    by_cases hb : 64 < len
    · rw [if_pos hb] at hls
      subst hls
      go_enter Try.func59, Try.ntmps59
      go_wp2_with fail
      refine (HP.out _).mono ?_
      rintro e w1 ⟨rfl, hb1⟩
      have hk1 := HBX.out.b1.below hb1 HBX.out.b1.lt
      have HB1 := hid (HBX.out.bel.trans (hb1.mono (by have := HBX.out.z; omega)))
      have d1 := hk1.cell 1
      simp only [List.getElem?_toArray, List.getElem?_cons_zero, List.getElem?_cons_succ] at d1
      clear hb1 hk1
      go_wp2_with fail
      refine (HMO.out _).mono ?_
      rintro e w2 ⟨rfl, rfl⟩
      go_wp2_with fail
      go_ret
      exact ⟨rfl, HB1.out⟩
    · rw [if_neg hb] at hls
      have HLS := hid hls
      clear hls
      go_enter Try.func59, Try.ntmps59
      go_wp2_with fail
      refine (HP.out _).mono ?_
      rintro e w1 ⟨rfl, hb1⟩
      have hk1 := HBX.out.b1.below hb1 HBX.out.b1.lt
      have HB1 := hid (HBX.out.bel.trans (hb1.mono (by have := HBX.out.z; omega)))
      have d1 := hk1.cell 1
      simp only [List.getElem?_toArray, List.getElem?_cons_zero, List.getElem?_cons_succ] at d1
      clear hb1 hk1
      go_wp2_with fail
      refine (HMO.out _).mono ?_
      rintro e w2 ⟨rfl, rfl⟩
      go_wp2_with fail
      have hs1 := HSL.out _ HB1.out
      have HS1 := hid hs1
      clear hs1
      go_loopw [9] (fun i wr => ∃ j : Nat, j ≤ len ∧ i = .int .i64 (j : Int) ∧ txtE 64 m.l = txtE 64 (m.l.drop j) ∧ wr = w2) (fun i _ => len - (intOf i).toNat)
      case atStart => exact ⟨0, by omega, rfl, rfl, rfl⟩
      case round =>
        obtain ⟨j, hj, rfl, hte, rfl⟩ := hrel
        by_cases hlt : j < len
        · have hj1 : j < m.l.length := by have := HLEN.out; omega
          have hat := txtE_at (most := 64) hj1
          rw [← hte, ← HLS.out] at hat
          obtain ⟨b, off, hA, hbw, t0⟩ := HS1.out.rd j (sv m.l[j]) (by simp [hj1])
          rw [hA]
          have hck := fun W => HCL.out m.l[j] (List.getElem_mem hj1) W
          have hji : (j : Int) < (len : Int) := by omega
          have hj0 : (0 : Int) ≤ (j : Int) := by omega
          unfold sv at t0
          generalize m.l[j] = x at *
          generalize chk x 64 = q at *
          have HCK := hid hck
          have HAT := hid hat
          clear hck hat hte hA
          go_wp2_with fail
          refine (HCK.out _).mono ?_
          rintro e w3 ⟨rfl, rfl⟩
          by_cases hq : q = 0
          · subst hq
            have hnx := HAT.out
            rw [if_pos rfl] at hnx
            have HNX := hid hnx
            clear hnx
            go_wp2_with fail
            exact ⟨⟨j + 1, by omega, by go_num, by rw [← HLS.out]; exact HNX.out, trivial⟩, by simp [intOf] <;> omega⟩
          · have hqb : (q != 0) = true := by simpa using hq
            have hnx := HAT.out
            rw [if_neg hq] at hnx
            have HNX := hid hnx
            clear hnx hq
            go_wp2_with fail
            go_ret
            exact ⟨by rw [HNX.out]; rfl, HB1.out⟩
        · obtain rfl : j = len := by omega
          rw [txtE_end (by have := HLEN.out; omega), ← HLS.out] at hte
          have HT := hid hte
          clear hte
          go_wp2_with fail
          go_ret
          exact ⟨by rw [HT.out]; rfl, HB1.out⟩
  · obtain ⟨q1, q2, q3⟩ := p1 (by omega)
    rw [q1, q2, q3] at hp
    rw [h0 (by omega)]
    clear h1 h4 h7 h10 h0 p1 p7 p10 p0 q1 q2 q3 hck hls
    generalize m.num i = x at *
    have HP := hid hp
    clear hp
    rcases h with rfl | rfl | rfl
    · skip
      go_enter Try.func59, Try.ntmps59
      go_wp2_with fail
      refine (HP.out _).mono ?_
      rintro e w1 ⟨rfl, hb1⟩
      have hk1 := HBX.out.b1.below hb1 HBX.out.b1.lt
      have HB1 := hid (HBX.out.bel.trans (hb1.mono (by have := HBX.out.z; omega)))
      have d1 := hk1.cell 1
      simp only [List.getElem?_toArray, List.getElem?_cons_zero, List.getElem?_cons_succ] at d1
      clear hb1 hk1
      go_wp2_with fail
      refine (HMO.out _).mono ?_
      rintro e w2 ⟨rfl, rfl⟩
      go_wp2_with fail
      go_loopw [9] (fun i wr => i = .int .i64 0 ∧ wr = w2) (fun _ _ => 0)
      case atStart => exact ⟨rfl, rfl⟩
      case round =>
        obtain ⟨rfl, rfl⟩ := hrel
        go_wp2_with fail
        go_ret
        exact ⟨rfl, HB1.out⟩
    · skip
      go_enter Try.func59, Try.ntmps59
      go_wp2_with fail
      refine (HP.out _).mono ?_
      rintro e w1 ⟨rfl, hb1⟩
      have hk1 := HBX.out.b1.below hb1 HBX.out.b1.lt
      have HB1 := hid (HBX.out.bel.trans (hb1.mono (by have := HBX.out.z; omega)))
      have d1 := hk1.cell 1
      simp only [List.getElem?_toArray, List.getElem?_cons_zero, List.getElem?_cons_succ] at d1
      clear hb1 hk1
      go_wp2_with fail
      refine (HMO.out _).mono ?_
      rintro e w2 ⟨rfl, rfl⟩
      go_wp2_with fail
      go_loopw [9] (fun i wr => i = .int .i64 0 ∧ wr = w2) (fun _ _ => 0)
      case atStart => exact ⟨rfl, rfl⟩
      case round =>
        obtain ⟨rfl, rfl⟩ := hrel
        go_wp2_with fail
        go_ret
        exact ⟨rfl, HB1.out⟩
    · skip
      go_enter Try.func59, Try.ntmps59
      go_wp2_with fail
      refine (HP.out _).mono ?_
      rintro e w1 ⟨rfl, hb1⟩
      have hk1 := HBX.out.b1.below hb1 HBX.out.b1.lt
      have HB1 := hid (HBX.out.bel.trans (hb1.mono (by have := HBX.out.z; omega)))
      have d1 := hk1.cell 1
      simp only [List.getElem?_toArray, List.getElem?_cons_zero, List.getElem?_cons_succ] at d1
      clear hb1 hk1
      go_wp2_with fail
      refine (HMO.out _).mono ?_
      rintro e w2 ⟨rfl, rfl⟩
      go_wp2_with fail
      go_loopw [9] (fun i wr => i = .int .i64 0 ∧ wr = w2) (fun _ _ => 0)
      case atStart => exact ⟨rfl, rfl⟩
      case round =>
        obtain ⟨rfl, rfl⟩ := hrel
        go_wp2_with fail
        go_ret
        exact ⟨rfl, HB1.out⟩
  · obtain ⟨q1, q2, q3⟩ := p0 (by omega)
    rw [q1, q2, q3] at hp
    rw [h0 (by omega)]
    clear h1 h4 h7 h10 h0 p1 p7 p10 p0 q1 q2 q3 hck hls
    have HP := hid hp
    clear hp
    have n1 : (t == 1) = false := by simp; omega
    have n4 : (t == 4) = false := by simp; omega
    have n5 : (t == 5) = false := by simp; omega
    go_enter Try.func59, Try.ntmps59
    go_wp2_with fail
    refine (HP.out _).mono ?_
    rintro e w1 ⟨rfl, hb1⟩
    have hk1 := HBX.out.b1.below hb1 HBX.out.b1.lt
    have HB1 := hid (HBX.out.bel.trans (hb1.mono (by have := HBX.out.z; omega)))
    have d1 := hk1.cell 1
    simp only [List.getElem?_toArray, List.getElem?_cons_zero, List.getElem?_cons_succ] at d1
    clear hb1 hk1
    go_wp2_with fail
    refine (HMO.out _).mono ?_
    rintro e w2 ⟨rfl, rfl⟩
    go_wp2_with fail
    go_loopw [9] (fun i wr => i = .int .i64 0 ∧ wr = w2) (fun _ _ => 0)
    case atStart => exact ⟨rfl, rfl⟩
    case round =>
      obtain ⟨rfl, rfl⟩ := hrel
      go_wp2_with fail
      go_ret
      exact ⟨rfl, HB1.out⟩
  · obtain ⟨q1, q2, q3⟩ := p0 (by omega)
    rw [q1, q2, q3] at hp
    rw [h0 (by omega)]
    clear h1 h4 h7 h10 h0 p1 p7 p10 p0 q1 q2 q3 hck hls
    have HP := hid hp
    clear hp
    have n1 : (t == 1) = false := by simp; omega
    have n4 : (t == 4) = false := by simp; omega
    have n5 : (t == 5) = false := by simp; omega
    go_enter Try.func59, Try.ntmps59
    go_wp2_with fail
    refine (HP.out _).mono ?_
    rintro e w1 ⟨rfl, hb1⟩
    have hk1 := HBX.out.b1.below hb1 HBX.out.b1.lt
    have HB1 := hid (HBX.out.bel.trans (hb1.mono (by have := HBX.out.z; omega)))
    have d1 := hk1.cell 1
    simp only [List.getElem?_toArray, List.getElem?_cons_zero, List.getElem?_cons_succ] at d1
    clear hb1 hk1
    go_wp2_with fail
    refine (HMO.out _).mono ?_
    rintro e w2 ⟨rfl, rfl⟩
    go_wp2_with fail
    go_loopw [9] (fun i wr => i = .int .i64 0 ∧ wr = w2) (fun _ _ => 0)
    case atStart => exact ⟨rfl, rfl⟩
    case round =>
      obtain ⟨rfl, rfl⟩ := hrel
      go_wp2_with fail
      go_ret
      exact ⟨rfl, HB1.out⟩
end Go.Proofs.Ytehjibbjkadoiaa
