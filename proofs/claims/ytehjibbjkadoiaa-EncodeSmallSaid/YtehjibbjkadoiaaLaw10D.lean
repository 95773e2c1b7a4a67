/- The walk of EncodeSmall. -/
import Derived.Test.YtehjibbjkadoiaaLaw10A
import Derived.Test.YtehjibbjkadoiaaEncCap
import Derived.Test.YtehjibbjkadoiaaRegInvB
import Derived.Deep.QuietTactic
import Derived.BigQuiet
set_option linter.unusedVariables false
namespace Go.Proofs.Ytehjibbjkadoiaa
open Go.RowKit
def RS (s b off nP c j : Nat) (kk v num : Int) (sp : Array Value) (a0 : Act) (w0 : World) (f : Nat → Bool) (a : Act) (w : World) : Prop := ∃ x0 x1 x2 x3 x4 x5 x6 x7 x8 x9 x10 x11 x12 x14 : Value, a = ((((((((((((((a0.put (some 51) x0).put (some 52) x1).put (some 53) x2).put (some 54) x3).put (some 55) x4).put (some 56) x5).put (some 57) x6).put (some 58) x7).put (some 59) x8).put (some 50) x9).put (some 60) x10).put (some 61) x11).put (some 10) x12).put (some 11) x14) ∧ (f 0 = true → x0 = .pointer (some ⟨s, 0, none⟩)) ∧ (f 1 = true → x1 = .int .u8 kk) ∧ (f 2 = true → x2 = .int .i64 v) ∧ (f 3 = true → x3 = .slice (some ⟨b, off, none⟩) nP c) ∧ (f 4 = true → x4 = .int .i64 (j : Int)) ∧ (f 5 = true → x5 = .pointer (some ⟨b, off + j * 5, none⟩)) ∧ (f 6 = true → x6 = .pointer (some ⟨b, off + j * 5, none⟩)) ∧ (f 7 = true → x7 = .int .i64 num) ∧ (f 8 = true → x8 = .tuple #[.agg sp, .bool true]) ∧ (f 9 = true → x9 = .tuple #[.agg sp, .bool true]) ∧ (f 10 = true → x10 = .agg sp) ∧ (f 11 = true → x11 = .bool true) ∧ (f 12 = true → ∃ g, x12 = .pointer (some ⟨g, 0, none⟩) ∧ w0.heap.size ≤ g ∧ (f 13 = false → Blk w g 44 #[.int .i64 0, .int .i64 0, .int .i64 0]) ∧ (f 13 = true → Blk w g 44 sp)) ∧ (f 14 = true → x14 = .bool true) ∧ (f 13 = true → f 12 = true) ∧ Below w0.heap.size w0 w
theorem sstore {w : World} {g : Nat} {y0 y1 y2 : Value} (h : Blk w g 44 #[y0, y1, y2]) (x0 x1 x2 : Value) : Blk (((w.setCell ⟨g, 0, none⟩ x0).setCell ⟨g, 1, none⟩ x1).setCell ⟨g, 2, none⟩ x2) g 44 #[x0, x1, x2] ∧ Chg (fun k => k = g) w (((w.setCell ⟨g, 0, none⟩ x0).setCell ⟨g, 1, none⟩ x1).setCell ⟨g, 2, none⟩ x2) :=
  ⟨by simpa using ((h.set_ 0 x0).set_ 1 x1).set_ 2 x2, (((Chg.refl (fun k => k = g) w).set_ (.inl rfl) 0 x0).set_ (.inl rfl) 1 x1).set_ (.inl rfl) 2 x2⟩
theorem finS_mem (k : Nat) (v : Int) {r : SRow} (h : r ∈ ofL (k : Int) v) : finS (k : Int) v (r.num : Nat) = some r := by
  obtain ⟨i, hi, rfl⟩ := List.getElem_of_mem h
  exact grow_find k v v i hi (Int.le_refl _) ((ofL_iff _ _ _).1 h).1
theorem part_find {M : MV} (k : Nat) (v : Int) (hn : ∀ i, M.num i ≤ 18446744073709551615) (hsm : MvSm M) (j : Nat) (hj : j < (allP M (ofL (k : Int) v)).length) : ∃ r : SRow, finS (k : Int) v ((allP M (ofL (k : Int) v))[j].1) = some r ∧ (allP M (ofL (k : Int) v))[j].2.1 = (wireN (r.typ : Nat) : Int) ∧
    (∀ (h0 : 0 < j), (allP M (ofL (k : Int) v))[j - 1].1 < (allP M (ofL (k : Int) v))[j].1 ∨ ((allP M (ofL (k : Int) v))[j - 1].1 = (allP M (ofL (k : Int) v))[j].1 ∧ r.typ = 10)) := by
  have hL : ∀ r ∈ ofL (k : Int) v, r ∈ ROWS := fun r hr => ofL_mem _ _ hr
  obtain ⟨r, hr, hok⟩ := allP_ok hn hsm hL (List.getElem_mem hj)
  refine ⟨r, by rw [hok.num]; exact finS_mem k v hr, hok.w, fun h0 => ?_⟩
  have hp := List.pairwise_iff_getElem.1 (allP_order hn hsm _ hL (ofL_rise k v)) (j - 1) j (by omega) hj (by omega)
  rcases hp with h | ⟨h, q, hq, h2, h3⟩
  · exact .inl h
  · refine .inr ⟨h, ?_⟩
    have e1 := finS_mem k v hr
    have e2 := finS_mem k v hq
    have e3 : (q.num : Int) = (r.num : Int) := by rw [h2, hok.num]
    rw [e3, e1] at e2
    injection e2 with e2
    rw [e2]; exact h3
theorem part_find2 {M : MV} (k : Nat) (v : Int) (hn : ∀ i, M.num i ≤ 18446744073709551615) (hsm : MvSm M) : ∀ (j : Nat) y, (allP M (ofL (k : Int) v))[j]? = some y → ∃ r : SRow, finS (k : Int) v y.1 = some r ∧ y.2.1 = (wireN (r.typ : Nat) : Int) ∧ (∀ x, 0 < j → (allP M (ofL (k : Int) v))[j - 1]? = some x → x.1 < y.1 ∨ (x.1 = y.1 ∧ r.typ = 10)) := by
  intro j y hy
  obtain ⟨hj, rfl⟩ := List.getElem?_eq_some_iff.1 hy
  obtain ⟨r, h1, h2, h3⟩ := part_find k v hn hsm j hj
  refine ⟨r, h1, h2, fun x h0 hx => ?_⟩
  obtain ⟨hj2, rfl⟩ := List.getElem?_eq_some_iff.1 hx
  exact h3 h0
set_option maxRecDepth 100000 in
set_option maxHeartbeats 8000000 in
theorem encSmall_any (M : MV) (v : Int) (w : World) (hok : MvOk w M) (hv1 : -9223372036854775808 ≤ v) (hv2 : v ≤ 9223372036854775807) : Calls Try.prog 6 #[mvV M, .int .i64 v] w fun e w' => e = .returned (.bool true) ∧ Below w.heap.size w w' := by
  have hlv := fun W => live10_any W
  have hsm := fun W (hW : Below w.heap.size w W) => small9_any M W (hok.l.below hW)
  have hby := fun h W (hW : Below w.heap.size w W) => (ebytes_any M v W (hok.below hW) (small_sm h) hv1 hv2).mono (fun e w' h => bytesR_sl h)
  have hcap := fun h => enc_cap (M := M) v hok.n (small_sm h)
  have hpf := fun h => part_find2 (M := M) M.k v hok.n (small_sm h)
  have hfl := fun h (hc : (chkV M (ofL (M.k : Int) v)).1 = 0) => enc_flds M.k v hok.n (small_sm h) hc
  have hfi := fun (n : Int) W => (callsIn_wide (n := 4)).1 (sfind_in 4 (by omega) (M.k : Int) v n W hv1 hv2)
  have hez := fun hc : (chkV M (ofL (M.k : Int) v)).1 ≠ 0 => (show encB M (ofL (M.k : Int) v) = [] from by unfold encB; rw [if_neg hc])
  generalize smallB M = sb at *
  generalize encB M (ofL (M.k : Int) v) = eb at *
  generalize (chkV M (ofL (M.k : Int) v)).1 = E1 at *
  generalize (chkV M (ofL (M.k : Int) v)).2 = E2 at *
  generalize allP M (ofL (M.k : Int) v) = P at *
  unfold mvV mvA at *
  generalize M.l.length = len at *
  obtain ⟨el, hele⟩ : ∃ n, eb.length = n := ⟨_, rfl⟩
  rw [hele] at hby hcap
  obtain ⟨s, hws⟩ : ∃ s, w.heap.size = s := ⟨_, rfl⟩
  rw [hws] at hsm hby ⊢
  have HLV := hid hlv
  have HSM := hid hsm
  have HBY := hid hby
  have HCAP := hid hcap
  have HPF := hid hpf
  have HFL := hid hfl
  have HFIN := hid hfi
  have HEZ := hid hez
  have HEE := hid hele
  clear hlv hsm hby hcap hpf hfl hfi hez hele hok
  go_enter Try.func6, Try.ntmps6
  go_wp2_with fail
  obtain ⟨W, hW⟩ : ∃ W, w.alloc (.cells #[.int .u8 (M.k : Int), .int .u64 (M.n0 : Int), .int .u64 (M.n1 : Int), .int .u64 (M.n2 : Int), .int .u64 (M.n3 : Int), .int .u64 (M.n4 : Int), .int .u64 (M.n5 : Int), .string M.s0, .string M.s1, .slice M.A len M.c] 27) = W := ⟨_, rfl⟩
  have hk0 : Blk W s 27 #[.int .u8 (M.k : Int), .int .u64 (M.n0 : Int), .int .u64 (M.n1 : Int), .int .u64 (M.n2 : Int), .int .u64 (M.n3 : Int), .int .u64 (M.n4 : Int), .int .u64 (M.n5 : Int), .string M.s0, .string M.s1, .slice M.A len M.c] := by rw [← hW, ← hws]; exact Blk.new w _ _
  have hB : Below s w W := by rw [← hW, ← hws]; exact bw_a (Below.refl _ w) _
  have hlt := hk0.lt
  rw [hW]
  refine (HLV.out W).mono ?_
  rintro e w1 ⟨rfl, hb1⟩
  have hk0 := hk0.below hb1 (by omega)
  have hB := hB.trans (hb1.mono (by omega))
  have hlt := hk0.lt
  have c0 := hk0.cell 0
  have c1 := hk0.cell 1
  have c2 := hk0.cell 2
  have c3 := hk0.cell 3
  have c4 := hk0.cell 4
  have c5 := hk0.cell 5
  have c6 := hk0.cell 6
  have c7 := hk0.cell 7
  have c8 := hk0.cell 8
  have c9 := hk0.cell 9
  simp only [List.getElem?_toArray, List.getElem?_cons_zero, List.getElem?_cons_succ] at c0 c1 c2 c3 c4 c5 c6 c7 c8 c9
  have HK0 := hid hk0
  have HB := hid hB
  clear hW hk0 hb1 hB
  go_wp2_with fail
  refine (HSM.out _ HB.out).mono ?_
  rintro e w2 ⟨rfl, hb2⟩
  have hk0 := HK0.out.below hb2 (by omega)
  have hB2 := HB.out.trans (hb2.mono (by omega))
  have hlt2 := hk0.lt
  clear c0 c1 c2 c3 c4 c5 c6 c7 c8 c9
  have c0 := hk0.cell 0
  have c1 := hk0.cell 1
  have c2 := hk0.cell 2
  have c3 := hk0.cell 3
  have c4 := hk0.cell 4
  have c5 := hk0.cell 5
  have c6 := hk0.cell 6
  have c7 := hk0.cell 7
  have c8 := hk0.cell 8
  have c9 := hk0.cell 9
  simp only [List.getElem?_toArray, List.getElem?_cons_zero, List.getElem?_cons_succ] at c0 c1 c2 c3 c4 c5 c6 c7 c8 c9
  have HK2 := hid hk0
  have HB2 := hid hB2
  clear hk0 hb2 hB2 HK0
  cases sb with
  | false =>
    go_wp2_with fail
    go_ret
    exact ⟨rfl, HB2.out⟩
  | true =>
    have HF := hid (HBY.out rfl)
    have hell := HCAP.out rfl
    have HPFT := hid (HPF.out rfl)
    have HFLT := hid (HFL.out rfl)
    clear HBY HCAP HPF HFL
    go_wp2_with fail
    refine (HF.out _ HB2.out).mono ?_
    rintro e w3 ⟨A3, q3, rfl, hs3, -, hb3⟩
    have hk3 := HK2.out.below hb3 hlt2
    have HB3 := hid (HB2.out.trans (hb3.mono (by omega)))
    have hl3 := hk3.lt
    have HK3 := hid hk3
    have HS3 := hid hs3
    clear hs3 hb3 c0 c1 c2 c3 c4 c5 c6 c7 c8 c9 hk3
    by_cases he : E1 = 0
    · have HFLE := hid (HFLT.out he)
      subst he
      clear HFLT HEZ
      have HFD := hid ((callsIn_wide (n := 4)).1 (fields_in 4 (by omega) eb el A3 q3 (w3.alloc (.cells #[.int .i64 0, .int .i64 E2] 37)) HEE.out (by omega) (HS3.out.below (bw_a (Below.refl _ w3) _))))
      go_wp2_with fail
      refine HFD.out.mono ?_
      rintro e w6 ⟨hr6, hb6⟩
      have hfl := HFLE.out
      rw [HEE.out] at hfl
      rw [hfl] at hr6
      obtain ⟨v6, b6, pre, rfl, hbs6, ho6, hfa6⟩ : ∃ v b pre, e = .returned (.tuple #[v, .agg #[.int .i64 0, .int .i64 0]]) ∧ (w3.alloc (.cells #[.int .i64 0, .int .i64 E2] 37)).heap.size ≤ b ∧ w6.ownsRow b 53 5 v pre.length (pre.flatMap fvC) ∧ fvAll pre (putL (P.map ptF) 0) := by
        rcases hr6 with ⟨-, v, b, pre, h1, h2, h3, h4, -⟩ | ⟨h, -⟩
        · exact ⟨v, b, pre, h1, h2, h3, h4⟩
        · exact absurd rfl h
      obtain ⟨hpl, hpk⟩ := put_like hfa6
      obtain ⟨A6, c6, rfl, hs6⟩ := SlN.of_own (by omega) ho6
      have hb36 := bw_t (bw_a (Below.refl _ w3) (.cells #[.int .i64 0, .int .i64 E2] 37)) hb6
      have hk6 := HK3.out.below hb36 hl3
      have HB6 := hid (HB3.out.trans (hb36.mono (by omega)))
      have hl6 := hk6.lt
      obtain ⟨nP, hnP⟩ : ∃ n, pre.length = n := ⟨_, rfl⟩
      rw [hnP] at hs6 ⊢
      have hPn : P.length = nP := by rw [List.length_map] at hpl; omega
      have hca := hk6.alloc (.cells #[.int .i64 0, .int .i64 0] 37)
      have HK6 := hid hca
      have hl7 := hca.lt
      have HB7 := hid (HB6.out.trans ((bw_a (Below.refl _ w6) (.cells #[.int .i64 0, .int .i64 0] 37)).mono (by omega)))
      have HS6 := hid (hs6.below (bw_a (Below.refl _ w6) (.cells #[.int .i64 0, .int .i64 0] 37)))
      have HPK := hid hpk
      have HPN := hid hPn
      have HNP := hid hnP
      clear hfl hr6 hb6 ho6 hfa6 hpl hpk hs6 hb36 hk6 hca hPn hnP hbs6
      have hli : ¬ ((8192 : Int) < (el : Int)) := by omega
      go_wp2_with fail
      generalize w6.alloc (.cells #[.int .i64 0, .int .i64 0] 37) = W7 at *
      go_loopw [9] (fun ix wz => ∃ j : Nat, j ≤ nP ∧ ix = .int .i64 (j : Int) ∧ Below W7.heap.size W7 wz) (fun ix _ => nP - (intOf ix).toNat)
      case atStart => exact ⟨0, by omega, rfl, Below.refl _ _⟩
      case round =>
        obtain ⟨j, hj, rfl, hB⟩ := hrel
        by_cases hlt : j < nP
        · have hjp : j < pre.length := by have := HNP.out; omega
          have hjP : j < P.length := by have := HPN.out; omega
          obtain ⟨r, hfin, hwr, hord⟩ := HPFT.out j P[j] (List.getElem?_eq_getElem hjP)
          have hpj := HPK.out j hjp (by rw [List.length_map]; exact hjP)
          have e1 : pre[j].num = P[j].1 := by rw [hpj.1]; simp [ptF]
          have e2 : pre[j].w = P[j].2.1 := by rw [hpj.2.1]; simp [ptF]
          have hn0' : (pre.flatMap fvC)[j * 5 + 0]? = _ := flatMap_get fvC 5 pre j 0 hjp (fun _ _ => rfl) (by omega)
          have hn1' : (pre.flatMap fvC)[j * 5 + 1]? = _ := flatMap_get fvC 5 pre j 1 hjp (fun _ _ => rfl) (by omega)
          obtain ⟨b, off, rfl, hbw, t0⟩ := HS6.out.rd _ _ hn0'
          have t1 := HS6.out.rd.addr _ _ hn1'
          rw [addr_add] at t1
          simp only [Nat.add_zero, ← Nat.add_assoc] at t0 t1
          have t0 := (hB.cell (p := ⟨b, off + j * 5, none⟩) hbw).trans t0
          have t1 := (hB.cell (p := ⟨b, off + j * 5 + 1, none⟩) hbw).trans t1
          have hc0 := (hB.cell (p := ⟨s, 0, none⟩) hl7).trans (HK6.out.cell 0)
          simp only [List.getElem?_toArray, List.getElem?_cons_zero] at hc0
          have hl7r : s < wr.heap.size := Nat.lt_of_lt_of_le hl7 hB.size
          have hb7r : b < wr.heap.size := Nat.lt_of_lt_of_le hbw hB.size
          have hji : (j : Int) < (nP : Int) := by omega
          have hj0 : (0 : Int) ≤ (j : Int) := by omega
          have hcc : nP ≤ c6 := HS6.out.cap
          have hcs : c6 ≤ 9223372036854775807 := HS6.out.small
          have hprev : ∀ h0 : 0 < j, ∃ x : Int, wr.cell? ⟨b, off + (j - 1) * 5, none⟩ = some (.int .i64 x) ∧ (x < P[j].1 ∨ (x = P[j].1 ∧ r.typ = 10)) := by
            intro h0
            have hjq : j - 1 < pre.length := by omega
            have hjQ : j - 1 < P.length := by omega
            have hn2' : (pre.flatMap fvC)[(j - 1) * 5 + 0]? = _ := flatMap_get fvC 5 pre (j - 1) 0 hjq (fun _ _ => rfl) (by omega)
            have t2 := HS6.out.rd.addr _ _ hn2'
            rw [addr_add] at t2
            simp only [Nat.add_zero] at t2
            have t2 := (hB.cell (p := ⟨b, off + (j - 1) * 5, none⟩) hbw).trans t2
            have hpq := HPK.out (j - 1) hjq (by rw [List.length_map]; exact hjQ)
            have e3 : pre[j - 1].num = P[j - 1].1 := by rw [hpq.1]; simp [ptF]
            refine ⟨pre[j - 1].num, t2, ?_⟩
            rw [e3]
            exact hord P[j - 1] h0 (List.getElem?_eq_getElem hjQ)
          have hfi : ∀ W, Calls Try.prog 25 #[.int .u8 (M.k : Int), .int .i64 v, .int .i64 pre[j].num] W fun e w' => e = .returned (.tuple #[.agg #[.int .i64 (r.num : Int), .int .i64 (r.typ : Int), .int .i64 (r.slot : Int)], .bool true]) ∧ Below W.heap.size W w' := fun W => by
            have h := HFIN.out pre[j].num W
            rw [e1, hfin] at h
            rw [e1]
            exact h
          rw [← e1] at hprev
          rw [← e2] at hwr
          clear hn0' hn1' hpj hord e1 e2 hfin
          generalize pre[j] = fj at *
          obtain ⟨num, fw, fn, fs, fat⟩ := fj
          obtain ⟨rk, si, nu, ty, sl⟩ := r
          simp only at hprev hwr hfi
          have t0 : wr.cell? ⟨b, off + j * 5, none⟩ = some (.int .i64 num) := t0
          have t1 : wr.cell? ⟨b, off + j * 5 + 1, none⟩ = some (.int .u8 fw) := t1
          have HT := hid (And.intro hc0 (And.intro t0 t1))
          have HFI := hid hfi
          have HPREV := hid hprev
          have HWR := hid hwr
          have HBR := hid hB
          have HWI := hid (fun W => swire_any (ty : Nat) W)
          clear t0 t1 hc0 hfi hprev hwr hB
          go_wp2_with fail
          refine wp_region_invB (by kernel_rfl) (by kernel_rfl) (RS s b off nP c6 j (M.k : Int) v num #[.int .i64 (nu : Int), .int .i64 (ty : Int), .int .i64 (sl : Int)]) ?_ ?_ ?_
          · exact ⟨u51, u52, u53, u54, u55, u56, u57, u58, u59, u50, u60, u61, u10, u11, (by simp only [Act.put, List.setIfInBounds_toArray, List.set_cons_succ, List.set_cons_zero]), by simp, by simp, by simp, by simp, by simp, by simp, by simp, by simp, by simp, by simp, by simp, by simp, by simp, by simp, by simp, ⟨rfl, rfl, rfl, Nat.le_refl _, fun _ _ => rfl⟩⟩
          · intro f a' wx i o ho hf hdep hI
            have hi : i < 15 := (Array.getElem?_eq_some_iff.1 ho).1
            have hcase : i = 0 ∨ i = 1 ∨ i = 2 ∨ i = 3 ∨ i = 4 ∨ i = 5 ∨ i = 6 ∨ i = 7 ∨ i = 8 ∨ i = 9 ∨ i = 10 ∨ i = 11 ∨ i = 12 ∨ i = 13 ∨ i = 14 := by omega
            clear hi
            rcases hcase with rfl | rfl | rfl | rfl | rfl | rfl | rfl | rfl | rfl | rfl | rfl | rfl | rfl | rfl | rfl
            all_goals
              simp only [List.getElem?_toArray, List.getElem?_cons_zero, List.getElem?_cons_succ, Option.some.injEq] at ho
              subst ho
            · -- 0
              obtain ⟨x0, x1, x2, x3, x4, x5, x6, x7, x8, x9, x10, x11, x12, x14, rfl, h0, h1, h2, h3, h4, h5, h6, h7, h8, h9, h10, h11, h12, h14, hst, hB⟩ := hI
              have H0' := hid h0; have H1' := hid h1; have H2' := hid h2; have H3' := hid h3; have H4' := hid h4; have H5' := hid h5; have H6' := hid h6; have H7' := hid h7; have H8' := hid h8; have H9' := hid h9; have H10' := hid h10; have H11' := hid h11; have H12' := hid h12; have H14' := hid h14; have HST' := hid hst; have HB' := hid hB; clear h0 h1 h2 h3 h4 h5 h6 h7 h8 h9 h10 h11 h12 h14 hst hB
              simp only [Act.put, List.setIfInBounds_toArray, List.set_cons_succ, List.set_cons_zero]
              go_wp2_with fail
              have h0 := H0'.out; have h1 := H1'.out; have h2 := H2'.out; have h3 := H3'.out; have h4 := H4'.out; have h5 := H5'.out; have h6 := H6'.out; have h7 := H7'.out; have h8 := H8'.out; have h9 := H9'.out; have h10 := H10'.out; have h11 := H11'.out; have h12 := H12'.out; have h14 := H14'.out; have hst := HST'.out; have hB := HB'.out
              exact ⟨_, x1, x2, x3, x4, x5, x6, x7, x8, x9, x10, x11, x12, x14, (by simp only [Act.put, List.setIfInBounds_toArray, List.set_cons_succ, List.set_cons_zero]), (fun _ => rfl), (fun h => h1 (by simpa using h)), (fun h => h2 (by simpa using h)), (fun h => h3 (by simpa using h)), (fun h => h4 (by simpa using h)), (fun h => h5 (by simpa using h)), (fun h => h6 (by simpa using h)), (fun h => h7 (by simpa using h)), (fun h => h8 (by simpa using h)), (fun h => h9 (by simpa using h)), (fun h => h10 (by simpa using h)), (fun h => h11 (by simpa using h)), (fun h => by obtain ⟨g, e, hg, k1, k2⟩ := h12 (by simpa using h); exact ⟨g, e, hg, fun h => k1 (by simpa using h), fun h => k2 (by simpa using h)⟩), (fun h => h14 (by simpa using h)), (fun h => by have := hst (by simpa using h); simpa using this), hB⟩
            · -- 1
              obtain ⟨x0, x1, x2, x3, x4, x5, x6, x7, x8, x9, x10, x11, x12, x14, rfl, h0, h1, h2, h3, h4, h5, h6, h7, h8, h9, h10, h11, h12, h14, hst, hB⟩ := hI
              simp [Region.binds] at hdep
              obtain rfl := h0 (by first | exact hdep | exact hdep.1 | exact hdep.2 | exact hdep.2.1 | exact hdep.2.2 | exact hdep.2.2.1 | exact hdep.2.2.2 | simp_all)
              have hc0 := (hB.cell (p := ⟨s, 0, none⟩) hl7r).trans HT.out.1
              have H0' := hid h0; have H1' := hid h1; have H2' := hid h2; have H3' := hid h3; have H4' := hid h4; have H5' := hid h5; have H6' := hid h6; have H7' := hid h7; have H8' := hid h8; have H9' := hid h9; have H10' := hid h10; have H11' := hid h11; have H12' := hid h12; have H14' := hid h14; have HST' := hid hst; have HB' := hid hB; clear h0 h1 h2 h3 h4 h5 h6 h7 h8 h9 h10 h11 h12 h14 hst hB
              simp only [Act.put, List.setIfInBounds_toArray, List.set_cons_succ, List.set_cons_zero]
              go_wp2_with fail
              have h0 := H0'.out; have h1 := H1'.out; have h2 := H2'.out; have h3 := H3'.out; have h4 := H4'.out; have h5 := H5'.out; have h6 := H6'.out; have h7 := H7'.out; have h8 := H8'.out; have h9 := H9'.out; have h10 := H10'.out; have h11 := H11'.out; have h12 := H12'.out; have h14 := H14'.out; have hst := HST'.out; have hB := HB'.out
              exact ⟨_, _, x2, x3, x4, x5, x6, x7, x8, x9, x10, x11, x12, x14, (by simp only [Act.put, List.setIfInBounds_toArray, List.set_cons_succ, List.set_cons_zero]), (fun _ => rfl), (fun _ => rfl), (fun h => h2 (by simpa using h)), (fun h => h3 (by simpa using h)), (fun h => h4 (by simpa using h)), (fun h => h5 (by simpa using h)), (fun h => h6 (by simpa using h)), (fun h => h7 (by simpa using h)), (fun h => h8 (by simpa using h)), (fun h => h9 (by simpa using h)), (fun h => h10 (by simpa using h)), (fun h => h11 (by simpa using h)), (fun h => by obtain ⟨g, e, hg, k1, k2⟩ := h12 (by simpa using h); exact ⟨g, e, hg, fun h => k1 (by simpa using h), fun h => k2 (by simpa using h)⟩), (fun h => h14 (by simpa using h)), (fun h => by have := hst (by simpa using h); simpa using this), hB⟩
            · -- 2
              obtain ⟨x0, x1, x2, x3, x4, x5, x6, x7, x8, x9, x10, x11, x12, x14, rfl, h0, h1, h2, h3, h4, h5, h6, h7, h8, h9, h10, h11, h12, h14, hst, hB⟩ := hI
              have H0' := hid h0; have H1' := hid h1; have H2' := hid h2; have H3' := hid h3; have H4' := hid h4; have H5' := hid h5; have H6' := hid h6; have H7' := hid h7; have H8' := hid h8; have H9' := hid h9; have H10' := hid h10; have H11' := hid h11; have H12' := hid h12; have H14' := hid h14; have HST' := hid hst; have HB' := hid hB; clear h0 h1 h2 h3 h4 h5 h6 h7 h8 h9 h10 h11 h12 h14 hst hB
              simp only [Act.put, List.setIfInBounds_toArray, List.set_cons_succ, List.set_cons_zero]
              go_wp2_with fail
              have h0 := H0'.out; have h1 := H1'.out; have h2 := H2'.out; have h3 := H3'.out; have h4 := H4'.out; have h5 := H5'.out; have h6 := H6'.out; have h7 := H7'.out; have h8 := H8'.out; have h9 := H9'.out; have h10 := H10'.out; have h11 := H11'.out; have h12 := H12'.out; have h14 := H14'.out; have hst := HST'.out; have hB := HB'.out
              exact ⟨x0, x1, _, x3, x4, x5, x6, x7, x8, x9, x10, x11, x12, x14, (by simp only [Act.put, List.setIfInBounds_toArray, List.set_cons_succ, List.set_cons_zero]), (fun h => h0 (by simpa using h)), (fun h => h1 (by simpa using h)), (fun _ => rfl), (fun h => h3 (by simpa using h)), (fun h => h4 (by simpa using h)), (fun h => h5 (by simpa using h)), (fun h => h6 (by simpa using h)), (fun h => h7 (by simpa using h)), (fun h => h8 (by simpa using h)), (fun h => h9 (by simpa using h)), (fun h => h10 (by simpa using h)), (fun h => h11 (by simpa using h)), (fun h => by obtain ⟨g, e, hg, k1, k2⟩ := h12 (by simpa using h); exact ⟨g, e, hg, fun h => k1 (by simpa using h), fun h => k2 (by simpa using h)⟩), (fun h => h14 (by simpa using h)), (fun h => by have := hst (by simpa using h); simpa using this), hB⟩
            · -- 3
              obtain ⟨x0, x1, x2, x3, x4, x5, x6, x7, x8, x9, x10, x11, x12, x14, rfl, h0, h1, h2, h3, h4, h5, h6, h7, h8, h9, h10, h11, h12, h14, hst, hB⟩ := hI
              have H0' := hid h0; have H1' := hid h1; have H2' := hid h2; have H3' := hid h3; have H4' := hid h4; have H5' := hid h5; have H6' := hid h6; have H7' := hid h7; have H8' := hid h8; have H9' := hid h9; have H10' := hid h10; have H11' := hid h11; have H12' := hid h12; have H14' := hid h14; have HST' := hid hst; have HB' := hid hB; clear h0 h1 h2 h3 h4 h5 h6 h7 h8 h9 h10 h11 h12 h14 hst hB
              simp only [Act.put, List.setIfInBounds_toArray, List.set_cons_succ, List.set_cons_zero]
              go_wp2_with fail
              have h0 := H0'.out; have h1 := H1'.out; have h2 := H2'.out; have h3 := H3'.out; have h4 := H4'.out; have h5 := H5'.out; have h6 := H6'.out; have h7 := H7'.out; have h8 := H8'.out; have h9 := H9'.out; have h10 := H10'.out; have h11 := H11'.out; have h12 := H12'.out; have h14 := H14'.out; have hst := HST'.out; have hB := HB'.out
              exact ⟨x0, x1, x2, _, x4, x5, x6, x7, x8, x9, x10, x11, x12, x14, (by simp only [Act.put, List.setIfInBounds_toArray, List.set_cons_succ, List.set_cons_zero]), (fun h => h0 (by simpa using h)), (fun h => h1 (by simpa using h)), (fun h => h2 (by simpa using h)), (fun _ => rfl), (fun h => h4 (by simpa using h)), (fun h => h5 (by simpa using h)), (fun h => h6 (by simpa using h)), (fun h => h7 (by simpa using h)), (fun h => h8 (by simpa using h)), (fun h => h9 (by simpa using h)), (fun h => h10 (by simpa using h)), (fun h => h11 (by simpa using h)), (fun h => by obtain ⟨g, e, hg, k1, k2⟩ := h12 (by simpa using h); exact ⟨g, e, hg, fun h => k1 (by simpa using h), fun h => k2 (by simpa using h)⟩), (fun h => h14 (by simpa using h)), (fun h => by have := hst (by simpa using h); simpa using this), hB⟩
            · -- 4
              obtain ⟨x0, x1, x2, x3, x4, x5, x6, x7, x8, x9, x10, x11, x12, x14, rfl, h0, h1, h2, h3, h4, h5, h6, h7, h8, h9, h10, h11, h12, h14, hst, hB⟩ := hI
              have H0' := hid h0; have H1' := hid h1; have H2' := hid h2; have H3' := hid h3; have H4' := hid h4; have H5' := hid h5; have H6' := hid h6; have H7' := hid h7; have H8' := hid h8; have H9' := hid h9; have H10' := hid h10; have H11' := hid h11; have H12' := hid h12; have H14' := hid h14; have HST' := hid hst; have HB' := hid hB; clear h0 h1 h2 h3 h4 h5 h6 h7 h8 h9 h10 h11 h12 h14 hst hB
              simp only [Act.put, List.setIfInBounds_toArray, List.set_cons_succ, List.set_cons_zero]
              go_wp2_with fail
              have h0 := H0'.out; have h1 := H1'.out; have h2 := H2'.out; have h3 := H3'.out; have h4 := H4'.out; have h5 := H5'.out; have h6 := H6'.out; have h7 := H7'.out; have h8 := H8'.out; have h9 := H9'.out; have h10 := H10'.out; have h11 := H11'.out; have h12 := H12'.out; have h14 := H14'.out; have hst := HST'.out; have hB := HB'.out
              exact ⟨x0, x1, x2, x3, _, x5, x6, x7, x8, x9, x10, x11, x12, x14, (by simp only [Act.put, List.setIfInBounds_toArray, List.set_cons_succ, List.set_cons_zero]), (fun h => h0 (by simpa using h)), (fun h => h1 (by simpa using h)), (fun h => h2 (by simpa using h)), (fun h => h3 (by simpa using h)), (fun _ => rfl), (fun h => h5 (by simpa using h)), (fun h => h6 (by simpa using h)), (fun h => h7 (by simpa using h)), (fun h => h8 (by simpa using h)), (fun h => h9 (by simpa using h)), (fun h => h10 (by simpa using h)), (fun h => h11 (by simpa using h)), (fun h => by obtain ⟨g, e, hg, k1, k2⟩ := h12 (by simpa using h); exact ⟨g, e, hg, fun h => k1 (by simpa using h), fun h => k2 (by simpa using h)⟩), (fun h => h14 (by simpa using h)), (fun h => by have := hst (by simpa using h); simpa using this), hB⟩
            · -- 5
              obtain ⟨x0, x1, x2, x3, x4, x5, x6, x7, x8, x9, x10, x11, x12, x14, rfl, h0, h1, h2, h3, h4, h5, h6, h7, h8, h9, h10, h11, h12, h14, hst, hB⟩ := hI
              simp [Region.binds] at hdep
              obtain rfl := h3 (by first | exact hdep | exact hdep.1 | exact hdep.2 | exact hdep.2.1 | exact hdep.2.2 | exact hdep.2.2.1 | exact hdep.2.2.2 | simp_all)
              obtain rfl := h4 (by first | exact hdep | exact hdep.1 | exact hdep.2 | exact hdep.2.1 | exact hdep.2.2 | exact hdep.2.2.1 | exact hdep.2.2.2 | simp_all)
              have H0' := hid h0; have H1' := hid h1; have H2' := hid h2; have H3' := hid h3; have H4' := hid h4; have H5' := hid h5; have H6' := hid h6; have H7' := hid h7; have H8' := hid h8; have H9' := hid h9; have H10' := hid h10; have H11' := hid h11; have H12' := hid h12; have H14' := hid h14; have HST' := hid hst; have HB' := hid hB; clear h0 h1 h2 h3 h4 h5 h6 h7 h8 h9 h10 h11 h12 h14 hst hB
              simp only [Act.put, List.setIfInBounds_toArray, List.set_cons_succ, List.set_cons_zero]
              go_wp2_with fail
              have h0 := H0'.out; have h1 := H1'.out; have h2 := H2'.out; have h3 := H3'.out; have h4 := H4'.out; have h5 := H5'.out; have h6 := H6'.out; have h7 := H7'.out; have h8 := H8'.out; have h9 := H9'.out; have h10 := H10'.out; have h11 := H11'.out; have h12 := H12'.out; have h14 := H14'.out; have hst := HST'.out; have hB := HB'.out
              exact ⟨x0, x1, x2, _, _, _, x6, x7, x8, x9, x10, x11, x12, x14, (by simp only [Act.put, List.setIfInBounds_toArray, List.set_cons_succ, List.set_cons_zero]), (fun h => h0 (by simpa using h)), (fun h => h1 (by simpa using h)), (fun h => h2 (by simpa using h)), (fun _ => rfl), (fun _ => rfl), (fun _ => rfl), (fun h => h6 (by simpa using h)), (fun h => h7 (by simpa using h)), (fun h => h8 (by simpa using h)), (fun h => h9 (by simpa using h)), (fun h => h10 (by simpa using h)), (fun h => h11 (by simpa using h)), (fun h => by obtain ⟨g, e, hg, k1, k2⟩ := h12 (by simpa using h); exact ⟨g, e, hg, fun h => k1 (by simpa using h), fun h => k2 (by simpa using h)⟩), (fun h => h14 (by simpa using h)), (fun h => by have := hst (by simpa using h); simpa using this), hB⟩
            · -- 6
              obtain ⟨x0, x1, x2, x3, x4, x5, x6, x7, x8, x9, x10, x11, x12, x14, rfl, h0, h1, h2, h3, h4, h5, h6, h7, h8, h9, h10, h11, h12, h14, hst, hB⟩ := hI
              simp [Region.binds] at hdep
              obtain rfl := h5 (by first | exact hdep | exact hdep.1 | exact hdep.2 | exact hdep.2.1 | exact hdep.2.2 | exact hdep.2.2.1 | exact hdep.2.2.2 | simp_all)
              have H0' := hid h0; have H1' := hid h1; have H2' := hid h2; have H3' := hid h3; have H4' := hid h4; have H5' := hid h5; have H6' := hid h6; have H7' := hid h7; have H8' := hid h8; have H9' := hid h9; have H10' := hid h10; have H11' := hid h11; have H12' := hid h12; have H14' := hid h14; have HST' := hid hst; have HB' := hid hB; clear h0 h1 h2 h3 h4 h5 h6 h7 h8 h9 h10 h11 h12 h14 hst hB
              simp only [Act.put, List.setIfInBounds_toArray, List.set_cons_succ, List.set_cons_zero]
              go_wp2_with fail
              have h0 := H0'.out; have h1 := H1'.out; have h2 := H2'.out; have h3 := H3'.out; have h4 := H4'.out; have h5 := H5'.out; have h6 := H6'.out; have h7 := H7'.out; have h8 := H8'.out; have h9 := H9'.out; have h10 := H10'.out; have h11 := H11'.out; have h12 := H12'.out; have h14 := H14'.out; have hst := HST'.out; have hB := HB'.out
              exact ⟨x0, x1, x2, x3, x4, _, _, x7, x8, x9, x10, x11, x12, x14, (by simp only [Act.put, List.setIfInBounds_toArray, List.set_cons_succ, List.set_cons_zero]), (fun h => h0 (by simpa using h)), (fun h => h1 (by simpa using h)), (fun h => h2 (by simpa using h)), (fun h => h3 (by simpa using h)), (fun h => h4 (by simpa using h)), (fun _ => rfl), (fun _ => rfl), (fun h => h7 (by simpa using h)), (fun h => h8 (by simpa using h)), (fun h => h9 (by simpa using h)), (fun h => h10 (by simpa using h)), (fun h => h11 (by simpa using h)), (fun h => by obtain ⟨g, e, hg, k1, k2⟩ := h12 (by simpa using h); exact ⟨g, e, hg, fun h => k1 (by simpa using h), fun h => k2 (by simpa using h)⟩), (fun h => h14 (by simpa using h)), (fun h => by have := hst (by simpa using h); simpa using this), hB⟩
            · -- 7
              obtain ⟨x0, x1, x2, x3, x4, x5, x6, x7, x8, x9, x10, x11, x12, x14, rfl, h0, h1, h2, h3, h4, h5, h6, h7, h8, h9, h10, h11, h12, h14, hst, hB⟩ := hI
              simp [Region.binds] at hdep
              obtain rfl := h6 (by first | exact hdep | exact hdep.1 | exact hdep.2 | exact hdep.2.1 | exact hdep.2.2 | exact hdep.2.2.1 | exact hdep.2.2.2 | simp_all)
              have hc1 := (hB.cell (p := ⟨b, off + j * 5, none⟩) hb7r).trans HT.out.2.1
              have H0' := hid h0; have H1' := hid h1; have H2' := hid h2; have H3' := hid h3; have H4' := hid h4; have H5' := hid h5; have H6' := hid h6; have H7' := hid h7; have H8' := hid h8; have H9' := hid h9; have H10' := hid h10; have H11' := hid h11; have H12' := hid h12; have H14' := hid h14; have HST' := hid hst; have HB' := hid hB; clear h0 h1 h2 h3 h4 h5 h6 h7 h8 h9 h10 h11 h12 h14 hst hB
              simp only [Act.put, List.setIfInBounds_toArray, List.set_cons_succ, List.set_cons_zero]
              go_wp2_with fail
              have h0 := H0'.out; have h1 := H1'.out; have h2 := H2'.out; have h3 := H3'.out; have h4 := H4'.out; have h5 := H5'.out; have h6 := H6'.out; have h7 := H7'.out; have h8 := H8'.out; have h9 := H9'.out; have h10 := H10'.out; have h11 := H11'.out; have h12 := H12'.out; have h14 := H14'.out; have hst := HST'.out; have hB := HB'.out
              exact ⟨x0, x1, x2, x3, x4, x5, _, _, x8, x9, x10, x11, x12, x14, (by simp only [Act.put, List.setIfInBounds_toArray, List.set_cons_succ, List.set_cons_zero]), (fun h => h0 (by simpa using h)), (fun h => h1 (by simpa using h)), (fun h => h2 (by simpa using h)), (fun h => h3 (by simpa using h)), (fun h => h4 (by simpa using h)), (fun h => h5 (by simpa using h)), (fun _ => rfl), (fun _ => rfl), (fun h => h8 (by simpa using h)), (fun h => h9 (by simpa using h)), (fun h => h10 (by simpa using h)), (fun h => h11 (by simpa using h)), (fun h => by obtain ⟨g, e, hg, k1, k2⟩ := h12 (by simpa using h); exact ⟨g, e, hg, fun h => k1 (by simpa using h), fun h => k2 (by simpa using h)⟩), (fun h => h14 (by simpa using h)), (fun h => by have := hst (by simpa using h); simpa using this), hB⟩
            · -- 8
              obtain ⟨x0, x1, x2, x3, x4, x5, x6, x7, x8, x9, x10, x11, x12, x14, rfl, h0, h1, h2, h3, h4, h5, h6, h7, h8, h9, h10, h11, h12, h14, hst, hB⟩ := hI
              simp [Region.binds] at hdep
              obtain rfl := h1 (by first | exact hdep | exact hdep.1 | exact hdep.2 | exact hdep.2.1 | exact hdep.2.2 | exact hdep.2.2.1 | exact hdep.2.2.2 | simp_all)
              obtain rfl := h2 (by first | exact hdep | exact hdep.1 | exact hdep.2 | exact hdep.2.1 | exact hdep.2.2 | exact hdep.2.2.1 | exact hdep.2.2.2 | simp_all)
              obtain rfl := h7 (by first | exact hdep | exact hdep.1 | exact hdep.2 | exact hdep.2.1 | exact hdep.2.2 | exact hdep.2.2.1 | exact hdep.2.2.2 | simp_all)
              have HCON := hid (HFI.out wx)
              have H0' := hid h0; have H1' := hid h1; have H2' := hid h2; have H3' := hid h3; have H4' := hid h4; have H5' := hid h5; have H6' := hid h6; have H7' := hid h7; have H8' := hid h8; have H9' := hid h9; have H10' := hid h10; have H11' := hid h11; have H12' := hid h12; have H14' := hid h14; have HST' := hid hst; have HB' := hid hB; clear h0 h1 h2 h3 h4 h5 h6 h7 h8 h9 h10 h11 h12 h14 hst hB
              simp only [Act.put, List.setIfInBounds_toArray, List.set_cons_succ, List.set_cons_zero]
              go_wp2_with fail
              refine HCON.out.mono ?_
              rintro e w8 ⟨rfl, hb8⟩
              have HBEL := hid hb8; clear hb8
              go_wp2_with fail
              have h0 := H0'.out; have h1 := H1'.out; have h2 := H2'.out; have h3 := H3'.out; have h4 := H4'.out; have h5 := H5'.out; have h6 := H6'.out; have h7 := H7'.out; have h8 := H8'.out; have h9 := H9'.out; have h10 := H10'.out; have h11 := H11'.out; have h12 := H12'.out; have h14 := H14'.out; have hst := HST'.out; have hB := HB'.out
              exact ⟨x0, _, _, x3, x4, x5, x6, _, _, x9, x10, x11, x12, x14, (by simp only [Act.put, List.setIfInBounds_toArray, List.set_cons_succ, List.set_cons_zero]), (fun h => h0 (by simpa using h)), (fun _ => rfl), (fun _ => rfl), (fun h => h3 (by simpa using h)), (fun h => h4 (by simpa using h)), (fun h => h5 (by simpa using h)), (fun h => h6 (by simpa using h)), (fun _ => rfl), (fun _ => rfl), (fun h => h9 (by simpa using h)), (fun h => h10 (by simpa using h)), (fun h => h11 (by simpa using h)), (fun h => by obtain ⟨g, e, hg, k1, k2⟩ := h12 (by simpa using h); exact ⟨g, e, hg, fun h => (k1 (by simpa using h)).below HBEL.out (k1 (by simpa using h)).lt, fun h => (k2 (by simpa using h)).below HBEL.out (k2 (by simpa using h)).lt⟩), (fun h => h14 (by simpa using h)), (fun h => by have := hst (by simpa using h); simpa using this), (hB.trans (HBEL.out.mono hB.size))⟩
            · -- 9
              obtain ⟨x0, x1, x2, x3, x4, x5, x6, x7, x8, x9, x10, x11, x12, x14, rfl, h0, h1, h2, h3, h4, h5, h6, h7, h8, h9, h10, h11, h12, h14, hst, hB⟩ := hI
              simp [Region.binds] at hdep
              obtain rfl := h8 (by first | exact hdep | exact hdep.1 | exact hdep.2 | exact hdep.2.1 | exact hdep.2.2 | exact hdep.2.2.1 | exact hdep.2.2.2 | simp_all)
              have H0' := hid h0; have H1' := hid h1; have H2' := hid h2; have H3' := hid h3; have H4' := hid h4; have H5' := hid h5; have H6' := hid h6; have H7' := hid h7; have H8' := hid h8; have H9' := hid h9; have H10' := hid h10; have H11' := hid h11; have H12' := hid h12; have H14' := hid h14; have HST' := hid hst; have HB' := hid hB; clear h0 h1 h2 h3 h4 h5 h6 h7 h8 h9 h10 h11 h12 h14 hst hB
              simp only [Act.put, List.setIfInBounds_toArray, List.set_cons_succ, List.set_cons_zero]
              go_wp2_with fail
              have h0 := H0'.out; have h1 := H1'.out; have h2 := H2'.out; have h3 := H3'.out; have h4 := H4'.out; have h5 := H5'.out; have h6 := H6'.out; have h7 := H7'.out; have h8 := H8'.out; have h9 := H9'.out; have h10 := H10'.out; have h11 := H11'.out; have h12 := H12'.out; have h14 := H14'.out; have hst := HST'.out; have hB := HB'.out
              exact ⟨x0, x1, x2, x3, x4, x5, x6, x7, _, _, x10, x11, x12, x14, (by simp only [Act.put, List.setIfInBounds_toArray, List.set_cons_succ, List.set_cons_zero]), (fun h => h0 (by simpa using h)), (fun h => h1 (by simpa using h)), (fun h => h2 (by simpa using h)), (fun h => h3 (by simpa using h)), (fun h => h4 (by simpa using h)), (fun h => h5 (by simpa using h)), (fun h => h6 (by simpa using h)), (fun h => h7 (by simpa using h)), (fun _ => rfl), (fun _ => rfl), (fun h => h10 (by simpa using h)), (fun h => h11 (by simpa using h)), (fun h => by obtain ⟨g, e, hg, k1, k2⟩ := h12 (by simpa using h); exact ⟨g, e, hg, fun h => k1 (by simpa using h), fun h => k2 (by simpa using h)⟩), (fun h => h14 (by simpa using h)), (fun h => by have := hst (by simpa using h); simpa using this), hB⟩
            · -- 10
              obtain ⟨x0, x1, x2, x3, x4, x5, x6, x7, x8, x9, x10, x11, x12, x14, rfl, h0, h1, h2, h3, h4, h5, h6, h7, h8, h9, h10, h11, h12, h14, hst, hB⟩ := hI
              simp [Region.binds] at hdep
              obtain rfl := h9 (by first | exact hdep | exact hdep.1 | exact hdep.2 | exact hdep.2.1 | exact hdep.2.2 | exact hdep.2.2.1 | exact hdep.2.2.2 | simp_all)
              have H0' := hid h0; have H1' := hid h1; have H2' := hid h2; have H3' := hid h3; have H4' := hid h4; have H5' := hid h5; have H6' := hid h6; have H7' := hid h7; have H8' := hid h8; have H9' := hid h9; have H10' := hid h10; have H11' := hid h11; have H12' := hid h12; have H14' := hid h14; have HST' := hid hst; have HB' := hid hB; clear h0 h1 h2 h3 h4 h5 h6 h7 h8 h9 h10 h11 h12 h14 hst hB
              simp only [Act.put, List.setIfInBounds_toArray, List.set_cons_succ, List.set_cons_zero]
              go_wp2_with fail
              have h0 := H0'.out; have h1 := H1'.out; have h2 := H2'.out; have h3 := H3'.out; have h4 := H4'.out; have h5 := H5'.out; have h6 := H6'.out; have h7 := H7'.out; have h8 := H8'.out; have h9 := H9'.out; have h10 := H10'.out; have h11 := H11'.out; have h12 := H12'.out; have h14 := H14'.out; have hst := HST'.out; have hB := HB'.out
              exact ⟨x0, x1, x2, x3, x4, x5, x6, x7, x8, _, _, x11, x12, x14, (by simp only [Act.put, List.setIfInBounds_toArray, List.set_cons_succ, List.set_cons_zero]), (fun h => h0 (by simpa using h)), (fun h => h1 (by simpa using h)), (fun h => h2 (by simpa using h)), (fun h => h3 (by simpa using h)), (fun h => h4 (by simpa using h)), (fun h => h5 (by simpa using h)), (fun h => h6 (by simpa using h)), (fun h => h7 (by simpa using h)), (fun h => h8 (by simpa using h)), (fun _ => rfl), (fun _ => rfl), (fun h => h11 (by simpa using h)), (fun h => by obtain ⟨g, e, hg, k1, k2⟩ := h12 (by simpa using h); exact ⟨g, e, hg, fun h => k1 (by simpa using h), fun h => k2 (by simpa using h)⟩), (fun h => h14 (by simpa using h)), (fun h => by have := hst (by simpa using h); simpa using this), hB⟩
            · -- 11
              obtain ⟨x0, x1, x2, x3, x4, x5, x6, x7, x8, x9, x10, x11, x12, x14, rfl, h0, h1, h2, h3, h4, h5, h6, h7, h8, h9, h10, h11, h12, h14, hst, hB⟩ := hI
              simp [Region.binds] at hdep
              obtain rfl := h9 (by first | exact hdep | exact hdep.1 | exact hdep.2 | exact hdep.2.1 | exact hdep.2.2 | exact hdep.2.2.1 | exact hdep.2.2.2 | simp_all)
              have H0' := hid h0; have H1' := hid h1; have H2' := hid h2; have H3' := hid h3; have H4' := hid h4; have H5' := hid h5; have H6' := hid h6; have H7' := hid h7; have H8' := hid h8; have H9' := hid h9; have H10' := hid h10; have H11' := hid h11; have H12' := hid h12; have H14' := hid h14; have HST' := hid hst; have HB' := hid hB; clear h0 h1 h2 h3 h4 h5 h6 h7 h8 h9 h10 h11 h12 h14 hst hB
              simp only [Act.put, List.setIfInBounds_toArray, List.set_cons_succ, List.set_cons_zero]
              go_wp2_with fail
              have h0 := H0'.out; have h1 := H1'.out; have h2 := H2'.out; have h3 := H3'.out; have h4 := H4'.out; have h5 := H5'.out; have h6 := H6'.out; have h7 := H7'.out; have h8 := H8'.out; have h9 := H9'.out; have h10 := H10'.out; have h11 := H11'.out; have h12 := H12'.out; have h14 := H14'.out; have hst := HST'.out; have hB := HB'.out
              exact ⟨x0, x1, x2, x3, x4, x5, x6, x7, x8, _, x10, _, x12, x14, (by simp only [Act.put, List.setIfInBounds_toArray, List.set_cons_succ, List.set_cons_zero]), (fun h => h0 (by simpa using h)), (fun h => h1 (by simpa using h)), (fun h => h2 (by simpa using h)), (fun h => h3 (by simpa using h)), (fun h => h4 (by simpa using h)), (fun h => h5 (by simpa using h)), (fun h => h6 (by simpa using h)), (fun h => h7 (by simpa using h)), (fun h => h8 (by simpa using h)), (fun _ => rfl), (fun h => h10 (by simpa using h)), (fun _ => rfl), (fun h => by obtain ⟨g, e, hg, k1, k2⟩ := h12 (by simpa using h); exact ⟨g, e, hg, fun h => k1 (by simpa using h), fun h => k2 (by simpa using h)⟩), (fun h => h14 (by simpa using h)), (fun h => by have := hst (by simpa using h); simpa using this), hB⟩
            · -- 12
              obtain ⟨x0, x1, x2, x3, x4, x5, x6, x7, x8, x9, x10, x11, x12, x14, rfl, h0, h1, h2, h3, h4, h5, h6, h7, h8, h9, h10, h11, h12, h14, hst, hB⟩ := hI
              have H0' := hid h0; have H1' := hid h1; have H2' := hid h2; have H3' := hid h3; have H4' := hid h4; have H5' := hid h5; have H6' := hid h6; have H7' := hid h7; have H8' := hid h8; have H9' := hid h9; have H10' := hid h10; have H11' := hid h11; have H12' := hid h12; have H14' := hid h14; have HST' := hid hst; have HB' := hid hB; clear h0 h1 h2 h3 h4 h5 h6 h7 h8 h9 h10 h11 h12 h14 hst hB
              simp only [Act.put, List.setIfInBounds_toArray, List.set_cons_succ, List.set_cons_zero]
              go_wp2_with fail
              have h0 := H0'.out; have h1 := H1'.out; have h2 := H2'.out; have h3 := H3'.out; have h4 := H4'.out; have h5 := H5'.out; have h6 := H6'.out; have h7 := H7'.out; have h8 := H8'.out; have h9 := H9'.out; have h10 := H10'.out; have h11 := H11'.out; have h12 := H12'.out; have h14 := H14'.out; have hst := HST'.out; have hB := HB'.out
              exact ⟨x0, x1, x2, x3, x4, x5, x6, x7, x8, x9, x10, x11, _, x14, (by simp only [Act.put, List.setIfInBounds_toArray, List.set_cons_succ, List.set_cons_zero]), (fun h => h0 (by simpa using h)), (fun h => h1 (by simpa using h)), (fun h => h2 (by simpa using h)), (fun h => h3 (by simpa using h)), (fun h => h4 (by simpa using h)), (fun h => h5 (by simpa using h)), (fun h => h6 (by simpa using h)), (fun h => h7 (by simpa using h)), (fun h => h8 (by simpa using h)), (fun h => h9 (by simpa using h)), (fun h => h10 (by simpa using h)), (fun h => h11 (by simpa using h)), (fun _ => ⟨wx.heap.size, rfl, hB.size, fun _ => Blk.new wx _ _, fun h => by simp at h; have := hst h; rw [hf] at this; cases this⟩), (fun h => h14 (by simpa using h)), (fun h => by simp), (hB.trans ((bw_a (Below.refl _ wx) _).mono hB.size))⟩
            · -- 13
              obtain ⟨x0, x1, x2, x3, x4, x5, x6, x7, x8, x9, x10, x11, x12, x14, rfl, h0, h1, h2, h3, h4, h5, h6, h7, h8, h9, h10, h11, h12, h14, hst, hB⟩ := hI
              simp [Region.binds] at hdep
              obtain rfl := h10 (by first | exact hdep | exact hdep.1 | exact hdep.2 | exact hdep.2.1 | exact hdep.2.2 | exact hdep.2.2.1 | exact hdep.2.2.2 | simp_all)
              have hfa : f 12 = true := (by first | exact hdep | exact hdep.1 | exact hdep.2 | exact hdep.2.1 | exact hdep.2.2 | exact hdep.2.2.1 | exact hdep.2.2.2 | simp_all)
              obtain ⟨g, rfl, hg, k1, -⟩ := h12 hfa
              have hkg := k1 hf
              have y0 := hkg.cell 0; have z0 := hkg.frozen 0
              have y1 := hkg.cell 1; have z1 := hkg.frozen 1
              have y2 := hkg.cell 2; have z2 := hkg.frozen 2
              simp only [List.getElem?_toArray, List.getElem?_cons_zero, List.getElem?_cons_succ] at y0 y1 y2
              have HKG := hid hkg; have HG := hid hg; clear hkg hg k1
              have H0' := hid h0; have H1' := hid h1; have H2' := hid h2; have H3' := hid h3; have H4' := hid h4; have H5' := hid h5; have H6' := hid h6; have H7' := hid h7; have H8' := hid h8; have H9' := hid h9; have H10' := hid h10; have H11' := hid h11; have H12' := hid h12; have H14' := hid h14; have HST' := hid hst; have HB' := hid hB; clear h0 h1 h2 h3 h4 h5 h6 h7 h8 h9 h10 h11 h12 h14 hst hB
              simp only [Act.put, List.setIfInBounds_toArray, List.set_cons_succ, List.set_cons_zero]
              go_wp2_with fail
              have h0 := H0'.out; have h1 := H1'.out; have h2 := H2'.out; have h3 := H3'.out; have h4 := H4'.out; have h5 := H5'.out; have h6 := H6'.out; have h7 := H7'.out; have h8 := H8'.out; have h9 := H9'.out; have h10 := H10'.out; have h11 := H11'.out; have h12 := H12'.out; have h14 := H14'.out; have hst := HST'.out; have hB := HB'.out
              obtain ⟨hkn, hcn⟩ := sstore HKG.out _ _ _
              exact ⟨x0, x1, x2, x3, x4, x5, x6, x7, x8, x9, _, x11, .pointer (some ⟨g, 0, none⟩), x14, (by simp only [Act.put, List.setIfInBounds_toArray, List.set_cons_succ, List.set_cons_zero]), (fun h => h0 (by simpa using h)), (fun h => h1 (by simpa using h)), (fun h => h2 (by simpa using h)), (fun h => h3 (by simpa using h)), (fun h => h4 (by simpa using h)), (fun h => h5 (by simpa using h)), (fun h => h6 (by simpa using h)), (fun h => h7 (by simpa using h)), (fun h => h8 (by simpa using h)), (fun h => h9 (by simpa using h)), (fun _ => rfl), (fun h => h11 (by simpa using h)), (fun _ => ⟨g, rfl, HG.out, fun h => by simp at h, fun _ => hkn⟩), (fun h => h14 (by simpa using h)), (fun _ => by simp [hfa]), (hB.trans (hcn.below (B := _) (fun k hk => by rw [hk]; exact HG.out) hB.size))⟩
            · -- 14
              obtain ⟨x0, x1, x2, x3, x4, x5, x6, x7, x8, x9, x10, x11, x12, x14, rfl, h0, h1, h2, h3, h4, h5, h6, h7, h8, h9, h10, h11, h12, h14, hst, hB⟩ := hI
              simp [Region.binds] at hdep
              obtain rfl := h11 (by first | exact hdep | exact hdep.1 | exact hdep.2 | exact hdep.2.1 | exact hdep.2.2 | exact hdep.2.2.1 | exact hdep.2.2.2 | simp_all)
              have H0' := hid h0; have H1' := hid h1; have H2' := hid h2; have H3' := hid h3; have H4' := hid h4; have H5' := hid h5; have H6' := hid h6; have H7' := hid h7; have H8' := hid h8; have H9' := hid h9; have H10' := hid h10; have H11' := hid h11; have H12' := hid h12; have H14' := hid h14; have HST' := hid hst; have HB' := hid hB; clear h0 h1 h2 h3 h4 h5 h6 h7 h8 h9 h10 h11 h12 h14 hst hB
              simp only [Act.put, List.setIfInBounds_toArray, List.set_cons_succ, List.set_cons_zero]
              go_wp2_with fail
              have h0 := H0'.out; have h1 := H1'.out; have h2 := H2'.out; have h3 := H3'.out; have h4 := H4'.out; have h5 := H5'.out; have h6 := H6'.out; have h7 := H7'.out; have h8 := H8'.out; have h9 := H9'.out; have h10 := H10'.out; have h11 := H11'.out; have h12 := H12'.out; have h14 := H14'.out; have hst := HST'.out; have hB := HB'.out
              exact ⟨x0, x1, x2, x3, x4, x5, x6, x7, x8, x9, x10, _, x12, _, (by simp only [Act.put, List.setIfInBounds_toArray, List.set_cons_succ, List.set_cons_zero]), (fun h => h0 (by simpa using h)), (fun h => h1 (by simpa using h)), (fun h => h2 (by simpa using h)), (fun h => h3 (by simpa using h)), (fun h => h4 (by simpa using h)), (fun h => h5 (by simpa using h)), (fun h => h6 (by simpa using h)), (fun h => h7 (by simpa using h)), (fun h => h8 (by simpa using h)), (fun h => h9 (by simpa using h)), (fun h => h10 (by simpa using h)), (fun _ => rfl), (fun h => by obtain ⟨g, e, hg, k1, k2⟩ := h12 (by simpa using h); exact ⟨g, e, hg, fun h => k1 (by simpa using h), fun h => k2 (by simpa using h)⟩), (fun _ => rfl), (fun h => by have := hst (by simpa using h); simpa using this), hB⟩
          · intro f a' wx hall hI
            obtain ⟨x0, x1, x2, x3, x4, x5, x6, x7, x8, x9, x10, x11, x12, x14, rfl, h0, h1, h2, h3, h4, h5, h6, h7, h8, h9, h10, h11, h12, h14, hst, hB⟩ := hI
            obtain rfl := h0 (hall 0 (by simp))
            obtain rfl := h1 (hall 1 (by simp))
            obtain rfl := h2 (hall 2 (by simp))
            obtain rfl := h3 (hall 3 (by simp))
            obtain rfl := h4 (hall 4 (by simp))
            obtain rfl := h5 (hall 5 (by simp))
            obtain rfl := h6 (hall 6 (by simp))
            obtain rfl := h7 (hall 7 (by simp))
            obtain rfl := h8 (hall 8 (by simp))
            obtain rfl := h9 (hall 9 (by simp))
            obtain rfl := h10 (hall 10 (by simp))
            obtain rfl := h11 (hall 11 (by simp))
            obtain ⟨g, rfl, hg, -, kbox⟩ := h12 (hall 12 (by simp))
            have hkbox := kbox (hall 13 (by simp))
            obtain rfl := h14 (hall 14 (by simp))
            clear h0 h1 h2 h3 h4 h5 h6 h7 h8 h9 h10 h11 h12 h14 hst kbox hall f
            simp only [Act.put, List.setIfInBounds_toArray, List.set_cons_succ, List.set_cons_zero]
            have hb0 := HBR.out.trans (hB.mono HBR.out.size)
            have HBX := hid (HB7.out.trans (hb0.mono (by have := HB7.out.size; omega)))
            have HBY := hid hb0
            have u0 := hkbox.cell 0
            have u1 := hkbox.cell 1
            have u2 := hkbox.cell 2
            have t0 := (hB.cell (p := ⟨b, off + j * 5, none⟩) hb7r).trans HT.out.2.1
            have t1 := (hB.cell (p := ⟨b, off + j * 5 + 1, none⟩) hb7r).trans HT.out.2.2
            simp only [List.getElem?_toArray, List.getElem?_cons_zero, List.getElem?_cons_succ] at u0 u1 u2
            have hprev : ∀ h0 : 0 < j, ∃ x : Int, wx.cell? ⟨b, off + (j - 1) * 5, none⟩ = some (.int .i64 x) ∧ (x < num ∨ (x = num ∧ ty = 10)) := fun h0 => by
              obtain ⟨x, hx, h⟩ := HPREV.out h0
              exact ⟨x, (hB.cell (p := ⟨b, off + (j - 1) * 5, none⟩) hb7r).trans hx, h⟩
            have hfw := HWR.out
            clear hB hb0 hkbox HFI HT HPREV HWR
            go_wp2_with fail
            refine (HWI.out _).mono ?_
            rintro e w9 ⟨rfl, rfl⟩
            subst hfw
            by_cases hj1 : j = 0
            · subst hj1
              clear hprev
              go_wp2_with fail
              go_quiet ((fail))
              go_wp2_with fail
              go_roundw
              case rel => exact ⟨1, by omega, by go_num, ⟨HBY.out.os, HBY.out.tape, HBY.out.output, HBY.out.size, HBY.out.block⟩⟩
              case measure => simp [intOf]; omega
            · obtain ⟨x, hx, (h | ⟨h, h10⟩)⟩ := hprev (by omega)
              · obtain ⟨j', rfl⟩ : ∃ j', j = j' + 1 := ⟨j - 1, by omega⟩
                simp only [Nat.add_sub_cancel] at hx
                have hjj : ((j' + 1 : Nat) : Int) = (j' : Int) + 1 := by omega
                have hn1 : decide (num < x) = false := decide_eq_false (by omega)
                have hn2 : (num == x) = false := by simp; omega
                have hn3 : ¬ num = x := by omega
                have hn4 : x ≤ num := by omega
                clear h
                go_wp2_with fail
                go_quiet ((fail))
                go_wp2_with fail
                go_roundw
                case rel => exact ⟨j' + 1 + 1, by omega, by go_num, ⟨HBY.out.os, HBY.out.tape, HBY.out.output, HBY.out.size, HBY.out.block⟩⟩
                case measure => simp [intOf]; omega
              · obtain ⟨j', rfl⟩ : ∃ j', j = j' + 1 := ⟨j - 1, by omega⟩
                simp only [Nat.add_sub_cancel] at hx
                subst h
                subst h10
                go_wp2_with fail
                go_quiet ((fail))
                go_wp2_with fail
                go_roundw
                case rel => exact ⟨j' + 1 + 1, by omega, by go_num, ⟨HBY.out.os, HBY.out.tape, HBY.out.output, HBY.out.size, HBY.out.block⟩⟩
                case measure => simp [intOf]; omega
        · obtain rfl : j = nP := by omega
          have HBE := hid (HB7.out.trans (hB.mono (by have := HB7.out.size; omega)))
          clear hB
          go_wp2_with fail
          go_ret
          exact ⟨rfl, HBE.out⟩
    · have heb : (E1 != 0) = true := by simpa using he
      have hnil := HEZ.out he
      subst hnil
      have hel0 : el = 0 := by have := HEE.out; simpa using this.symm
      subst hel0
      clear HFLT HEZ
      go_wp2_with fail
      go_ret
      exact ⟨by first | rfl | exact ret_bool (by simp), HB3.out.trans ((bw_a (Below.refl _ w3) _).mono (by omega))⟩
end Go.Proofs.Ytehjibbjkadoiaa
