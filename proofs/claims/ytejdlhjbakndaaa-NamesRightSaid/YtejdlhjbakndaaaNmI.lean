/- Names: mentions, one by one: a walk as an iterator. -/
import Derived.Test.YtejdlhjbakndaaaNmN
import Derived.Test.YtejdlhjbakndaaaM6
import Derived.Sort.QuietIn
import Derived.Maps.OwnIn
set_option linter.unusedVariables false
namespace Go.Proofs.Ytejdlhjbakndaaa
open Go.RowKit
attribute [local go_sem] Oper.semAt_some
/-- What a round is given. -/
def mnV (X : List StV) (j : Nat) : Array Value := (fun t : Nat × ByteArray × Bool => #[.agg #[.int .i64 (t.1 : Int), .string t.2.1], .bool t.2.2]) ((Nm.mnAll 0 X).getD j (0, ⟨#[]⟩, false))
theorem mnV_size (X : List StV) (j : Nat) : (mnV X j).size = 2 := rfl
theorem mnV_at (X : List StV) (i k : Nat) (hi : i < X.length) (hk : k < X[i].af.xs.length) : mnV X (Nm.mnB X i + k) = #[.agg #[.int .i64 (i : Int), .string X[i].af.xs[k]], .bool (Nm.inB (X[i].af.xs.take k) X[i].af.xs[k])] := by
  obtain ⟨h1, h2⟩ := Nm.mn_at X i k hi hk
  unfold mnV
  rw [List.getD_eq_getElem?_getD, List.getElem?_eq_getElem h1, h2]; rfl
theorem mentions_in (m : Nat) (D : DfV) (w : World) :
    CallsIn Fence.wide m Try.prog 32 #[.agg #[.string D.nm, .string D.tx, .slice D.st.A D.st.xs.length D.st.c]] w fun e w' => e = .returned (.func (.func 48) #[] #[.pointer (some ⟨w.heap.size, 0, none⟩)]) ∧ w' = w.alloc (.cells #[.string D.nm, .string D.tx, .slice D.st.A D.st.xs.length D.st.c] 24) := by
  refine callsIn_of_wp Try.func32 rfl trivial ?_ rfl
  simp only [Try.ntmps32, List.size_toArray, List.length_cons, List.length_nil, Nat.reduceAdd, Nat.reduceSub, Array.replicate_succ, Array.replicate_zero, List.push_toArray, List.append_toArray, List.nil_append, List.cons_append]
  gi_wp2
  go_ret
  exact ⟨rfl, rfl⟩
theorem ownsMap_kn {P : Program} {k : TypeId} {R : Value → Option (DataW Unit × List MemPlace)} {W W' : World} {g n : Nat} {D : DataW Unit} (h : W.ownsMap P k R g n D) (hk : W'.heap[g]? = W.heap[g]?) : W'.ownsMap P k R g n D := by
  obtain ⟨es, cl, h1, h2⟩ := h
  exact ⟨es, cl, hk.trans h1, h2⟩
/-- What the iterator reads: the definition's box and its rows. -/
def MnK (Bs : Nat) (D : DfV) (W : World) : Prop := Blk W Bs 24 #[.string D.nm, .string D.tx, .slice D.st.A D.st.xs.length D.st.c] ∧ StRow W D ∧ ∀ x ∈ D.st.xs, TxOk W x.af ∧ x.af.xs.length ≤ 70
set_option maxRecDepth 100000 in
set_option maxHeartbeats 16000000 in
theorem mentions1_in (m : Nat) (hm : 1 ≤ m) (l Bs g : Nat) (D : DfV) (hl : D.st.xs.length ≤ 30) (J : Nat → World → Prop) (Jx : World → Prop)
    (hJc : ∀ j W, J j W → MnK Bs D W) (hJn : ∀ j W W', J j W → Chg (fun q => g ≤ q ∧ q < g + 1) W W' → J j W')
    (hY : ∀ j W, j < (Nm.mnAll 0 D.st.xs).length → J j W → g + 1 ≤ W.heap.size → YieldAt Fence.wide (m - 1) Try.prog l (mnV D.st.xs j) W fun e W' => (e = .returned (.bool true) ∧ J (j + 1) W' ∧ KN g 1 W W') ∨ (e = .returned (.bool false) ∧ Jx W' ∧ KN g 1 W W'))
    (W : World) (hW : W.heap.size = g) (h0 : J 0 W) :
    CallsIn Fence.wide m Try.prog 48 #[.func (.yield l) #[] #[], .pointer (some ⟨Bs, 0, none⟩)] W fun e W' => (∃ v, e = .returned v) ∧ (J (Nm.mnAll 0 D.st.xs).length W' ∨ Jx W') := by
  have hmm := @run_makeMap Try.prog
  have hm0 := World.ownsMap_made W Try.prog 61 (unitElem (H := Unit))
  rw [hW] at hm0
  have hj0 := hJn 0 _ _ h0 ((Chg.refl _ W).alloc (.map #[] 0))
  have hz0 : (W.alloc (.map #[] 0)).heap.size = g + 1 := by rw [World.size_alloc, hW]
  have hk0 := hJc 0 _ hj0
  obtain ⟨n, hn⟩ : ∃ n, D.st.xs.length = n := ⟨_, rfl⟩
  have c0 := hk0.1.cell 2
  simp only [List.getElem?_toArray, List.getElem?_cons_zero, List.getElem?_cons_succ] at c0
  rw [hn] at c0
  have HJC := hid hJc
  have HJN := hid hJn
  have HY := hid hY
  have HM0 := hid hm0
  have HJ0 := hid hj0
  have HZ0 := hid hz0
  have HN := hid hn
  have HW := hid hW
  rw [hn] at hl
  clear hJc hJn hY hm0 hj0 hz0 hk0 h0 hn
  refine callsIn_of_wp Try.func48 rfl trivial ?_ rfl
  simp only [Try.ntmps48, List.size_toArray, List.length_cons, List.length_nil, Nat.reduceAdd, Nat.reduceSub, Array.replicate_succ, Array.replicate_zero, List.push_toArray, List.append_toArray, List.nil_append, List.cons_append]
  gi_wp2
  clear hmm c0
  gi_loopw [15] (fun p wr => ∃ (i cnt : Nat) (M : DataW Unit), i ≤ n ∧ p = .int .i64 (i : Int) ∧ wr.ownsMap Try.prog 61 (unitElem (H := Unit)) g cnt M ∧ cnt ≤ 70 * i ∧ SnF D.st.xs i 0 M ∧ J (Nm.mnB D.st.xs i) wr ∧ g + 1 ≤ wr.heap.size) (fun p _ => n - (intOf p).toNat)
  case atStart => exact ⟨0, 0, _, by omega, rfl, HM0.out, by omega, fun x kl h => by rw [Nm.seen_zero]; rfl, HJ0.out, by rw [HZ0.out]; exact Nat.le_refl _⟩
  case round =>
    obtain ⟨i, cnt, M, hi, rfl, hmp, hcnt, hsn, hJ, hsz⟩ := hrel
    have HM := hid hmp
    have HSN := hid hsn
    have HJ := hid hJ
    have hmk := HJC.out _ _ hJ
    have HMK := hid hmk
    clear hmp hsn hJ hmk
    by_cases hlt : i < n
    · have hil : i < D.st.xs.length := by have := HN.out; omega
      obtain ⟨ga, oa, hA, hga, e0, e1, e2, e3, e4, e5, e6, e7, e8, e9, e10, e11, e12⟩ := st_at (X := D.st.xs) HMK.out.2.1 i hil
      have hnb := Nm.mnB_next D.st.xs i hil
      have hat := fun k hk => mnV_at D.st.xs i k hil hk
      have hml := fun k hk => (Nm.mn_at D.st.xs i k hil hk).1
      have hsh := fun k s => Nm.seen_here D.st.xs i k hil s
      have hst := Nm.seen_step D.st.xs i hil
      have hpt := fun (k : Nat) (Dm : DataW Unit) (h : SnF D.st.xs i k Dm) hk kl hkl hM d => SnF.put h hil hk kl hkl hM d
      have hxm := List.getElem_mem hil
      generalize D.st.xs[i] = x at *
      rw [hA]
      have HAT := hid hat
      have HML := hid hml
      have HSH := hid hsh
      have HPT := hid hpt
      have HST := hid hst
      have HNB := hid hnb
      have HXM := hid hxm
      clear hA hil hat hml hsh hpt hst hnb hxm
      obtain ⟨mm, hmm⟩ : ∃ mm, x.af.xs.length = mm := ⟨_, rfl⟩
      obtain ⟨fA, hfA⟩ : ∃ fA, x.af.A = fA := ⟨_, rfl⟩
      have HMMl := hid hmm
      have HFA := hid hfA
      rw [hmm, hfA] at e3
      have h70 := (HMK.out.2.2 x HXM.out).2
      rw [hmm] at h70
      clear hmm hfA
      have hki : (i : Int) < (n : Int) := by omega
      have hk0 : (0 : Int) ≤ (i : Int) := by omega
      obtain ⟨w1, hw1⟩ : ∃ w1, wr.alloc (.cells #[.string x.nm, .string x.ac, .string x.un, .slice fA mm x.af.c, .int .i64 x.r1, .int .i64 x.r2, .int .i64 x.r3, .int .i64 x.lim, .int .u8 x.nd.kd, .string x.nd.tx, .slice x.nd.ks.A x.nd.ks.xs.length x.nd.ks.c, .slice x.nd.cA x.nd.cn x.nd.cc, .int .i64 x.nd.ln] 44) = w1 := ⟨_, rfl⟩
      have HJ1 := hid (show J (Nm.mnB D.st.xs i) w1 by rw [← hw1]; exact HJN.out _ _ _ HJ.out ((Chg.refl _ wr).alloc _))
      have HM1 := hid (show w1.ownsMap Try.prog 61 (unitElem (H := Unit)) g cnt M by rw [← hw1]; exact HM.out.alloc _)
      have HZ1 := hid (show g + 1 ≤ w1.heap.size by rw [← hw1, World.size_alloc]; omega)
      have HW1 := hid hw1
      clear hw1
      gi_wp2
      rw [HW1.out]
      clear e0 e1 e2 e3 e4 e5 e6 e7 e8 e9 e10 e11 e12 HJ HM HMK HW1
      obtain ⟨wo, rfl⟩ : ∃ z, z = wr := ⟨_, rfl⟩
      gi_loopw [23] (fun p wr => ∃ (k cn : Nat) (M : DataW Unit), k ≤ mm ∧ p = .int .i64 (k : Int) ∧ wr.ownsMap Try.prog 61 (unitElem (H := Unit)) g cn M ∧ cn ≤ 70 * i + k ∧ SnF D.st.xs i k M ∧ J (Nm.mnB D.st.xs i + k) wr ∧ g + 1 ≤ wr.heap.size) (fun p _ => mm - (intOf p).toNat)
      case atStart => exact ⟨0, cnt, M, by omega, rfl, HM1.out, by omega, HSN.out, HJ1.out, HZ1.out⟩
      case round =>
        obtain ⟨k, cn, M', hk, rfl, hmp, hcn, hsn, hJ, hsz2⟩ := hrel
        have HM2 := hid hmp
        have HSN2 := hid hsn
        have HJ2 := hid hJ
        have hmk := HJC.out _ _ hJ
        clear hmp hsn hJ
        by_cases hlk : k < mm
        · have hkl : k < x.af.xs.length := by have := HMMl.out; omega
          obtain ⟨htx, -⟩ := hmk.2.2 x HXM.out
          obtain ⟨g2, o2, hA2, hg2, t0⟩ := tx_at htx k hkl
          have hxz := htx.1 _ (List.getElem_mem hkl)
          have hat := HAT.out k hkl
          have hml := HML.out k hkl
          have hsh := HSH.out k x.af.xs[k]
          have hpt := fun kl hkl2 hM d => HPT.out k M' HSN2.out hkl kl hkl2 hM d
          generalize x.af.xs[k] = y at *
          rw [HFA.out] at hA2
          subst hA2
          obtain ⟨kl, hkey⟩ := mnKey (i, y) (by simp; omega) hxz
          have hhas := (HSN2.out (i, y) kl hkey).trans hsh
          simp only [mnC] at hkey
          have HPT2 := hid (hpt kl hkey HM2.out.isMap)
          have HAT2 := hid hat
          have HML2 := hid hml
          obtain ⟨ag, hag⟩ : ∃ ag, Nm.inB (x.af.xs.take k) y = ag := ⟨_, rfl⟩
          rw [hag] at hhas HAT2
          have hkki : (k : Int) < (mm : Int) := by omega
          have hkk0 : (0 : Int) ≤ (k : Int) := by omega
          clear hat hml hsh hpt htx hmk hag
          gi_wp2_with (first
            | (gi_at_lookup; refine wpListIn_lookup_own_unit _ rfl _ _ 76 rfl 61 77 mnLaw Try.underlying76 (mnZero _) g cn M' rfl (HM2.out.alloc _) _ _ rfl hkey ?_; rw [hhas])
            | (gi_at_mapUpdate; refine wpListIn_mapUpdate_own _ rfl _ _ _ 76 rfl 61 77 mnLaw Try.underlying76 _ g cn M' rfl ((HM2.out.alloc _).alloc _) (by unfold maxLen; omega) _ _ kl rfl rfl hkey (.agg []) [] unitElem_mk ?_; intro w2 hown2 hgrow2; have hk2 := (hgrow2.block wr.heap.size (by simp; omega) (by simp; omega)).trans ((Blk.new wr 61 #[.int .i64 (i : Int), .string y]).alloc (.cells #[] 77)); have d0 := Blk.cell (t := 61) hk2 0; have d1 := Blk.cell (t := 61) hk2 1; simp only [List.getElem?_toArray, List.getElem?_cons_zero, List.getElem?_cons_succ] at d0 d1; have hs2 : g + 1 ≤ w2.heap.size := (by have h := hgrow2.size; simp only [World.size_alloc] at h; omega); have hj2 := HJN.out _ _ w2 HJ2.out ((((Chg.refl _ wr).alloc (.cells #[.int .i64 (i : Int), .string y] 61)).alloc (.cells #[] 77)).trans (Chg.of_grown hgrow2 (fun q e => by injection e with e; omega))); obtain ⟨fn, tmps, assign, body, hy, hR⟩ := HY.out _ w2 HML2.out hj2 hs2; rw [HAT2.out] at hy; have HOM := hid hown2; have HR := hid hR; have HZ2 := hid hs2; clear hown2 hgrow2 hk2 hj2 hR hs2))
          refine HR.out.mono ?_
          rintro e0 W3 (⟨rfl, hJ3, hkn⟩ | ⟨rfl, hJx3, -⟩)
          · have HJ3 := hid hJ3
            have hk3 := hkn g (Nat.le_refl _) (by omega)
            have HOM3 := hid (ownsMap_kn HOM.out hk3)
            have HZ3 := hid (show g + 1 ≤ W3.heap.size from by
              obtain ⟨es, cl, h1, -⟩ := HOM3.out
              exact (Array.getElem?_eq_some_iff.1 h1).1)
            clear hJ3 hkn hk3 d0 d1
            gi_wp2
            go_roundw
            case rel => exact ⟨k + 1, cn + 1, _, by omega, by go_num, HOM3.out, by omega, HPT2.out _, HJ3.out, HZ3.out⟩
            case measure => simp [intOf]; omega
          · have HJX := hid hJx3
            clear hJx3
            gi_wp2
            refine bodyPost_ret (results_none rfl _ _ _) rfl ?_
            exact ⟨⟨_, rfl⟩, .inr HJX.out⟩
        · obtain rfl : k = mm := by omega
          gi_wp2
          go_roundw
          case rel => exact ⟨i + 1, cn, M', by omega, by go_num, HM2.out, by omega, fun x2 kl h => by rw [HST.out, HSN2.out x2 kl h, HMMl.out], by rw [HNB.out, HMMl.out]; exact HJ2.out, hsz2⟩
          case measure => simp [intOf]; omega
    · obtain rfl : i = n := by omega
      have HF := hid (show J (Nm.mnAll 0 D.st.xs).length wr by have h := HJ.out; rw [← HN.out, Nm.mnB_all] at h; exact h)
      gi_wp2
      go_end0
      exact ⟨⟨_, rfl⟩, .inl HF.out⟩
end Go.Proofs.Ytejdlhjbakndaaa
