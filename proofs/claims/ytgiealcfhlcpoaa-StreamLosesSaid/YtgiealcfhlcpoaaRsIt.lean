/- resync.frames: the frames of a stream, one by one. -/
import Derived.Test.YtgiealcfhlcpoaaRsMa
import Derived.Test.YtgiealcfhlcpoaaRangeG
import Derived.Test.YtgiealcfhlcpoaaFrU
import Derived.Shelf.RegionOpen
import Derived.Sort.QuietIn
set_option linter.unusedVariables false
namespace Go.Proofs.Ytgiealcfhlcpoaa
open Go.RowKit Go.Shelf
attribute [local go_sem] Oper.semAt_some
/-- What a round is handed. -/
def FArg (fin : Bool) (bs : List UInt8) (n : Nat) (A : Option Addr) (c G B0 : Nat) (j : Nat) (xs : Array Value) (W : World) : Prop :=
  ∃ f Ap cp, (Rs.wk fin bs 0).1[j]? = some f ∧ xs = #[.agg #[.int .i64 (f.at_ : Int), .int .u8 (f.ty.toNat : Int), .slice Ap f.pl.length cp]] ∧ Pay B0 W Ap cp f.pl ∧ Blk W G 55 #[.slice A n c, .bool fin, .int .i64 ((f.at_ + f.size : Nat) : Int)]
theorem sframes_in (m : Nat) (q : Addr) (w : World) :
    CallsIn Fence.wide m Try.prog 20 #[.pointer (some q)] w fun e w' => e = .returned (.func (.func 27) #[] #[.pointer (some ⟨w.heap.size, 0, none⟩)]) ∧ w' = w.alloc (.cells #[.pointer (some q)] 70) := by
  refine callsIn_of_wp Try.func20 rfl trivial ?_ rfl
  simp only [Try.ntmps20, List.size_toArray, List.length_cons, List.length_nil, Nat.reduceAdd, Nat.reduceSub, Array.replicate_succ, Array.replicate_zero, List.push_toArray, List.append_toArray, List.nil_append, List.cons_append]
  gi_wp2
  go_ret
  exact ⟨rfl, rfl⟩
set_option maxRecDepth 100000 in
set_option maxHeartbeats 4000000 in
theorem frames1_in (m : Nat) (hm : 4 ≤ m) (fin : Bool) (bs : List UInt8) (n : Nat) (A : Option Addr) (c : Nat) (l Gp G B0 : Nat) (J : Nat → World → Prop) (W : World) (hn : bs.length = n) (hl : n ≤ 1000000) (hB0 : W.heap.size = B0) (hG : G < B0)
    (hJc : ∀ j W, J j W → Blk W Gp 70 #[.pointer (some ⟨G, 0, none⟩)] ∧ Sl W A c (bs.map bv) ∧ B0 ≤ W.heap.size)
    (hJn : ∀ j W W', J j W → Chg (fun q => q = G) W W' → J j W') (h0 : J 0 W) (hg : Blk W G 55 #[.slice A n c, .bool fin, .int .i64 0])
    (hY : ∀ j W xs, j < (Rs.wk fin bs 0).1.length → J j W → FArg fin bs n A c G B0 j xs W → YieldAt Fence.wide (m - 1) Try.prog l xs W fun e W' => e = .returned (.bool true) ∧ J (j + 1) W' ∧ W'.heap[G]? = W.heap[G]?) :
    CallsIn Fence.wide m Try.prog 27 #[.func (.yield l) #[] #[], .pointer (some ⟨Gp, 0, none⟩)] W fun e W' => (∃ v, e = .returned v) ∧ J (Rs.wk fin bs 0).1.length W' ∧ Blk W' G 55 #[.slice A n c, .bool fin, .int .i64 ((Rs.wk fin bs 0).2 : Nat)] := by
  have h1 : 1 ≤ m := by omega
  have hFA : ∀ j xs W, FArg fin bs n A c G B0 j xs W = ∃ f Ap cp, (Rs.wk fin bs 0).1[j]? = some f ∧ xs = #[.agg #[.int .i64 (f.at_ : Int), .int .u8 (f.ty.toNat : Int), .slice Ap f.pl.length cp]] ∧ Pay B0 W Ap cp f.pl ∧ Blk W G 55 #[.slice A n c, .bool fin, .int .i64 ((f.at_ + f.size : Nat) : Int)] := fun _ _ _ => rfl
  generalize hN : (Rs.wk fin bs 0).1.length = N at *
  generalize hE : (Rs.wk fin bs 0).2 = E at *
  have HFA := hid hFA
  have HNN := hid hN
  have HEE := hid hE
  have HN := hid hn
  have HJC := hid hJc
  have HJN := hid hJn
  have HY := hid hY
  have HBZ := hid hB0
  have H0 := hid h0
  have HG0 := hid hg
  clear hFA hN hE hn hJc hJn hY hB0 h0 hg
  refine callsIn_of_wp Try.func27 rfl trivial ?_ rfl
  simp only [Try.ntmps27, List.size_toArray, List.length_cons, List.length_nil, Nat.reduceAdd, Nat.reduceSub, Array.replicate_succ, Array.replicate_zero, List.push_toArray, List.append_toArray, List.nil_append, List.cons_append]
  refine wpIn_wide.2 (wp_scope_straight ((wpIn_wide (n := m)).1 ?_))
  gi_wp2
  refine wpIn_label ?_
  gi_wp2
  gi_loopw [4] (fun _ wr => ∃ (j p : Nat) (pre : List Fnd), p ≤ n ∧ J j wr ∧ Blk wr G 55 #[.slice A n c, .bool fin, .int .i64 (p : Int)] ∧ pre.length = j ∧ Rs.wk fin bs 0 = (pre ++ (Rs.wk fin bs p).1, (Rs.wk fin bs p).2)) (fun _ wr => n - (intOf ((wr.cell? ⟨G, 2, none⟩).getD undef)).toNat)
  case atStart => exact ⟨0, 0, [], by omega, H0.out, HG0.out, rfl, by simp⟩
  case round =>
    obtain ⟨j, p, pre, hp, hj, hg, hpl, hwk⟩ := hrel
    obtain ⟨hkp, hsl, hbw⟩ := HJC.out _ _ hj
    have g0 := hg.cell 0
    have g1 := hg.cell 1
    have g2 := hg.cell 2
    have gp := hkp.cell 0
    simp only [List.getElem?_toArray, List.getElem?_cons_zero, List.getElem?_cons_succ] at g0 g1 g2 gp
    have HGW := hid g2
    have hcap := hsl.cap
    have hsm := hsl.small
    rw [List.length_map, HN.out] at hcap
    have hgl := hg.lt
    have hgpl := hkp.lt
    by_cases hlt : p < n
    · have hpi : (p : Int) < (n : Int) := by omega
      have hp0 : (0 : Int) ≤ (p : Int) := by omega
      obtain ⟨b, off, rfl, hbl, -⟩ := BRd.at_ hsl.rd (k := p) (by rw [HN.out]; exact hlt)
      have hcut := hsl.cut p (by rw [HN.out]; omega)
      have hcA : cutA (some ⟨b, off, none⟩) c p = some ⟨b, off + p, none⟩ := by unfold cutA; rw [if_neg (by omega)]; simp [addr_add]
      rw [hcA] at hcut
      have hdl : (bs.drop p).length = n - p := by rw [List.length_drop, HN.out]
      have hrd := fun W' (hW : Below wr.heap.size wr W') => fread_any (bs.drop p) (n - p) (some ⟨b, off + p, none⟩) (c - p) W' hdl (hcut.below hW)
      have hcp : ¬ c = p := by omega
      have hpc : (p : Int) ≤ (c : Int) := by omega
      have hpn2 : (p : Int) ≤ (n : Int) := by omega
      have HWK := hid hwk
      have HPL := hid hpl
      have HJ := hid hj
      have HG := hid hg
      have HKP := hid hkp
      clear hwk hpl hj hg hsl hkp hcut hcA
      gi_wp2
      gi_quiet (fail)
      have HBQ := hid (bw_d (Below.refl _ wr) nq)
      have gp : (wr.drewN nq).cell? ⟨Gp, 0, none⟩ = _ := gp
      have g0 : (wr.drewN nq).cell? ⟨G, 0, none⟩ = _ := g0
      have g1 : (wr.drewN nq).cell? ⟨G, 1, none⟩ = _ := g1
      have g2 : (wr.drewN nq).cell? ⟨G, 2, none⟩ = _ := g2
      have hwz : (wr.drewN nq).heap.size = wr.heap.size := rfl
      generalize hwq : wr.drewN nq = wq at *
      have HWQ := hid hwq
      have hgq : G < wq.heap.size := by omega
      have hgpq : Gp < wq.heap.size := by omega
      have hne1 : ¬ G = wq.heap.size := by omega
      have hne2 : ¬ wq.heap.size = G := by omega
      have hne3 : ¬ Gp = wq.heap.size := by omega
      have hne4 : ¬ wq.heap.size = Gp := by omega
      have HWZ := hid hwz
      have hBq : B0 ≤ wq.heap.size := by omega
      clear hwq hwz
      by_cases hr0 : Fr.rE (bs.drop p) = 0
      · have hrd2 := fun W' hW => (hrd W' hW).mono (fun e w' h => RdR.ok h hr0)
        have hok := Fr.rE_ok hr0
        have hwk2 := Rs.wk_ok (fin := fin) (bs := bs) (p := p) (by rw [HN.out]; exact hlt) hr0
        have hLn : p + (Fr.ln (bs.drop p) + 9) ≤ n := by have := hok.2.2.2; omega
        have hLp : (Fr.pl (bs.drop p)).length = Fr.ln (bs.drop p) := hok.2.1
        have hL8 : Fr.ln (bs.drop p) ≤ 8192 := hok.2.2.1
        clear hok hrd
        generalize Fr.ln (bs.drop p) = L at *
        generalize Fr.pl (bs.drop p) = pl at *
        generalize Fr.ty (bs.drop p) = ty at *
        have HRD := hid hrd2
        have HW2 := hid hwk2
        have HLP := hid hLp
        clear hrd2 hwk2 hLp hdl hr0
        gi_wp2
        refine wpIn_wide.2 ?_
        go_region_held3 (fun w' => w'.cell? ⟨Gp, 0, none⟩ = some (.pointer (some ⟨G, 0, none⟩)) ∧ w'.cell? ⟨G, 0, none⟩ = some (.slice (some ⟨b, off, none⟩) n c) ∧ w'.cell? ⟨G, 2, none⟩ = some (.int .i64 (p : Int))) (first | exact ⟨gp, g0, g2⟩ | exact ⟨c0, c1, c2⟩ | go_keep) (first | (go_at_call 28; (with_reducible refine (HRD.out _ (below_drew' HBQ.out)).mono ?_); rintro e w2 ⟨A2, c2', rfl, hp2, hb2⟩; have HP2 := hid hp2; clear hp2; have hb2q := (below_drew' (Below.refl _ wq)).trans hb2; have c0 := (hb2q.cell (p := ⟨Gp, 0, none⟩) hgpq).trans gp; have c1 := (hb2q.cell (p := ⟨G, 0, none⟩) hgq).trans g0; have c2 := (hb2q.cell (p := ⟨G, 2, none⟩) hgq).trans g2; have HB2 := hid hb2q; clear hb2 hb2q) | (go_at_call 28; (with_reducible refine (HRD.out _ (below_drew' (bw_a HBQ.out _))).mono ?_); rintro e w2 ⟨A2, c2', rfl, hp2, hb2⟩; have HP2 := hid hp2; clear hp2; have hb2q := bw_t (below_drew' (bw_a (Below.refl _ wq) _)) hb2; have c0 := (hb2q.cell (p := ⟨Gp, 0, none⟩) hgpq).trans gp; have c1 := (hb2q.cell (p := ⟨G, 0, none⟩) hgq).trans g0; have c2 := (hb2q.cell (p := ⟨G, 2, none⟩) hgq).trans g2; have hkf : Blk w2 wq.heap.size 29 #[.int .u8 0, .slice none 0 0] := Blk.below (w := (wq.alloc (.cells #[.int .u8 0, .slice none 0 0] 29)).drew) (Blk.new wq 29 #[.int .u8 0, .slice none 0 0]) hb2 (show wq.heap.size < _ from by rw [drew_size, World.size_alloc]; omega); have hkfc0 := hkf.cell 0; have hkfc1 := hkf.cell 1; have hkff0 := hkf.frozen 0; have hkff1 := hkf.frozen 1; have hkfl := hkf.lt; have HB2 := hid hb2q; clear hb2 hb2q))
        · have hkq := Blk.new w2 29 #[.int .u8 (ty.toNat : Int), .slice A2 L c2']
          have hch := (Chg.refl (fun k => k = G) w2).alloc (.cells #[.int .u8 (ty.toNat : Int), .slice A2 L c2'] 29)
          have hb3 := HB2.out.trans ((bw_a (Below.refl _ w2) (.cells #[.int .u8 (ty.toNat : Int), .slice A2 L c2'] 29)).mono HB2.out.size)
          have hB3 := HBQ.out.trans (hb3.mono HBQ.out.size)
          have hp3 := (HP2.out.mono (show B0 ≤ _ from hBq)).below (bw_a (Below.refl _ w2) (.cells #[.int .u8 (ty.toNat : Int), .slice A2 L c2'] 29))
          have hqG : ¬ w2.heap.size = G := by have := HB2.out.size; omega
          have hq0 : B0 ≤ w2.heap.size := Nat.le_trans hBq HB2.out.size
          clear c0 c1 c2 hch
          generalize w2.alloc (.cells #[.int .u8 (ty.toNat : Int), .slice A2 L c2'] 29) = w3 at *
          generalize w2.heap.size = q at *
          have hkp3 := HKP.out.below hB3 HKP.out.lt
          have hg3 := HG.out.below hB3 HG.out.lt
          have hj3 := HJN.out j wr w3 HJ.out (Chg.of_new hB3)
          have d0 := hkp3.cell 0
          have d1 := hg3.cell 2
          have d2 := hkq.cell 0
          have d3 := hkq.cell 1
          simp only [List.getElem?_toArray, List.getElem?_cons_zero, List.getElem?_cons_succ] at d0 d1 d2 d3
          have hql := hkq.lt
          have hgl3 := hg3.lt
          have hgpl3 := hkp3.lt
          have hgf := fun i => hg3.frozen i
          have HG3 := hid hg3
          have HJ3 := hid hj3
          have HP3 := hid hp3
          have HB3 := hid hB3
          clear hkq hb3 hkp3 hg3 hj3 hp3 hB3
          gi_wp2
          refine wpIn_wide.2 ?_
          go_region
          have hch5 := ((((Chg.refl (fun k => k = G) w3).set_ (.inl rfl) 2 (.int .i64 ((p : Int) + ((L : Int) + 9)))).alloc (.cells #[.int .i64 (p : Int), .int .u8 (ty.toNat : Int), .slice A2 L c2'] 38)).drew)
          have hg5 : Blk (((w3.setCell ⟨G, 2, none⟩ (.int .i64 ((p : Int) + ((L : Int) + 9)))).alloc (.cells #[.int .i64 (p : Int), .int .u8 (ty.toNat : Int), .slice A2 L c2'] 38)).drew) G 55 #[.slice (some ⟨b, off, none⟩) n c, .bool fin, .int .i64 ((p : Int) + ((L : Int) + 9))] := by
            have h := (Blk.set_ HG3.out 2 (.int .i64 ((p : Int) + ((L : Int) + 9)))).alloc (.cells #[.int .i64 (p : Int), .int .u8 (ty.toNat : Int), .slice A2 L c2'] 38)
            exact h
          have hj5 := HJN.out j w3 _ HJ3.out hch5
          have hp5 := HP3.out.chg hch5 (fun b' cs k h1 h2 e => by
            subst e
            rw [show w3.heap[b']? = _ from HG3.out] at h2
            injection h2 with h2
            injection h2 with _ h2
            exact absurd h2 (by decide))
          have hpe : (p : Int) + ((L : Int) + 9) = ((p + (pl.length + 9) : Nat) : Int) := by have := HLP.out; omega
          have hjN : j < N := by
            have h1 := congrArg (fun x => x.1.length) HWK.out
            simp only [HW2.out, List.length_append, List.length_cons, HNN.out] at h1
            have := HPL.out
            omega
          have hfa : FArg fin bs n (some ⟨b, off, none⟩) c G B0 j #[.agg #[.int .i64 (p : Int), .int .u8 (ty.toNat : Int), .slice A2 L c2']] (((w3.setCell ⟨G, 2, none⟩ (.int .i64 ((p : Int) + ((L : Int) + 9)))).alloc (.cells #[.int .i64 (p : Int), .int .u8 (ty.toNat : Int), .slice A2 L c2'] 38)).drew) := by
            rw [HFA.out]
            refine ⟨⟨p, ty, pl⟩, A2, c2', ?_, by rw [HLP.out], hp5, by rw [show ((⟨p, ty, pl⟩ : Fnd).at_ + (⟨p, ty, pl⟩ : Fnd).size : Nat) = p + (pl.length + 9) from rfl, ← hpe]; exact hg5⟩
            rw [HWK.out, HW2.out]
            simp only
            rw [List.getElem?_append_right (by rw [HPL.out]; omega), HPL.out, Nat.sub_self]
            rfl
          obtain ⟨fn, tmps, assign, body, hy, hR⟩ := HY.out j _ _ hjN hj5 hfa
          have hpL0 : (0 : Int) ≤ (p : Int) + ((L : Int) + 9) := by omega
          have hpL1 : (p : Int) + ((L : Int) + 9) ≤ (n : Int) := by omega
          have HG5 := hid hg5
          have HPE := hid hpe
          clear hch5 hg5 hj5 hp5 hfa hpe
          gi_wp2
          refine hR.mono ?_
          rintro e w6 ⟨rfl, hj6, hg6⟩
          have hk6 := hg6.trans HG5.out
          rw [HPE.out] at hk6
          have HJ6 := hid hj6
          have HK6 := hid hk6
          have hm6 := Blk.cell hk6 2
          simp only [List.getElem?_toArray, List.getElem?_cons_zero, List.getElem?_cons_succ] at hm6
          have HM6 := hid hm6
          clear hj6 hg6 hk6 hm6
          gi_wp2
          go_roundw
          case rel =>
            refine ⟨j + 1, p + (pl.length + 9), pre ++ [⟨p, ty, pl⟩], by have := HLP.out; omega, HJ6.out, HK6.out, by simp [HPL.out], ?_⟩
            have h1 := HW2.out
            rw [← HLP.out] at h1
            rw [HWK.out, h1]
            simp
          case measure => rw [HGW.out, HM6.out]; simp [intOf]; omega
        · have hchg := ((Chg.refl (fun k => k = wq.heap.size) w2).set_ (.inl rfl) 0 (.int .u8 (ty.toNat : Int))).set_ (.inl rfl) 1 (.slice A2 L c2')
          have hkq := (Blk.set_ (Blk.set_ hkf 0 (.int .u8 (ty.toNat : Int))) 1 (.slice A2 L c2'))
          simp only [Array.setIfInBounds, List.size_toArray, List.length_cons, List.length_nil, Nat.reduceAdd, dite_true, List.set_toArray, List.set_cons_zero, List.set_cons_succ, Nat.zero_lt_succ, Nat.lt_add_one] at hkq
          have hb3 := HB2.out.trans (hchg.below (B := wq.heap.size) (fun k hk => by omega) HB2.out.size)
          have hB3 := HBQ.out.trans (hb3.mono HBQ.out.size)
          have hp3 := (HP2.out.mono (show B0 ≤ _ from by rw [drew_size, World.size_alloc]; exact Nat.le_succ_of_le hBq)).chg hchg (fun b' cs k h1 h2 e => by
            subst e
            rw [show w2.heap[wq.heap.size]? = _ from hkf] at h2
            injection h2 with h2
            injection h2 with _ h2
            exact absurd h2 (by decide))
          have hqG : ¬ wq.heap.size = G := by omega
          have hq0 : B0 ≤ wq.heap.size := hBq
          clear c0 c1 c2 hkfc0 hkfc1 hkff0 hkff1 hkfl hkf hchg
          generalize (w2.setCell ⟨wq.heap.size, 0, none⟩ (.int .u8 (ty.toNat : Int))).setCell ⟨wq.heap.size, 1, none⟩ (.slice A2 L c2') = w3 at *
          generalize hqz : wq.heap.size = q at *
          have HQZ := hid hqz
          clear hqz
          have hkp3 := HKP.out.below hB3 HKP.out.lt
          have hg3 := HG.out.below hB3 HG.out.lt
          have hj3 := HJN.out j wr w3 HJ.out (Chg.of_new hB3)
          have d0 := hkp3.cell 0
          have d1 := hg3.cell 2
          have d2 := hkq.cell 0
          have d3 := hkq.cell 1
          simp only [List.getElem?_toArray, List.getElem?_cons_zero, List.getElem?_cons_succ] at d0 d1 d2 d3
          have hql := hkq.lt
          have hgl3 := hg3.lt
          have hgpl3 := hkp3.lt
          have hgf := fun i => hg3.frozen i
          have HG3 := hid hg3
          have HJ3 := hid hj3
          have HP3 := hid hp3
          have HB3 := hid hB3
          clear hkq hb3 hkp3 hg3 hj3 hp3 hB3
          gi_wp2
          refine wpIn_wide.2 ?_
          go_region
          have hch5 := ((((Chg.refl (fun k => k = G) w3).set_ (.inl rfl) 2 (.int .i64 ((p : Int) + ((L : Int) + 9)))).alloc (.cells #[.int .i64 (p : Int), .int .u8 (ty.toNat : Int), .slice A2 L c2'] 38)).drew)
          have hg5 : Blk (((w3.setCell ⟨G, 2, none⟩ (.int .i64 ((p : Int) + ((L : Int) + 9)))).alloc (.cells #[.int .i64 (p : Int), .int .u8 (ty.toNat : Int), .slice A2 L c2'] 38)).drew) G 55 #[.slice (some ⟨b, off, none⟩) n c, .bool fin, .int .i64 ((p : Int) + ((L : Int) + 9))] := by
            have h := (Blk.set_ HG3.out 2 (.int .i64 ((p : Int) + ((L : Int) + 9)))).alloc (.cells #[.int .i64 (p : Int), .int .u8 (ty.toNat : Int), .slice A2 L c2'] 38)
            exact h
          have hj5 := HJN.out j w3 _ HJ3.out hch5
          have hp5 := HP3.out.chg hch5 (fun b' cs k h1 h2 e => by
            subst e
            rw [show w3.heap[b']? = _ from HG3.out] at h2
            injection h2 with h2
            injection h2 with _ h2
            exact absurd h2 (by decide))
          have hpe : (p : Int) + ((L : Int) + 9) = ((p + (pl.length + 9) : Nat) : Int) := by have := HLP.out; omega
          have hjN : j < N := by
            have h1 := congrArg (fun x => x.1.length) HWK.out
            simp only [HW2.out, List.length_append, List.length_cons, HNN.out] at h1
            have := HPL.out
            omega
          have hfa : FArg fin bs n (some ⟨b, off, none⟩) c G B0 j #[.agg #[.int .i64 (p : Int), .int .u8 (ty.toNat : Int), .slice A2 L c2']] (((w3.setCell ⟨G, 2, none⟩ (.int .i64 ((p : Int) + ((L : Int) + 9)))).alloc (.cells #[.int .i64 (p : Int), .int .u8 (ty.toNat : Int), .slice A2 L c2'] 38)).drew) := by
            rw [HFA.out]
            refine ⟨⟨p, ty, pl⟩, A2, c2', ?_, by rw [HLP.out], hp5, by rw [show ((⟨p, ty, pl⟩ : Fnd).at_ + (⟨p, ty, pl⟩ : Fnd).size : Nat) = p + (pl.length + 9) from rfl, ← hpe]; exact hg5⟩
            rw [HWK.out, HW2.out]
            simp only
            rw [List.getElem?_append_right (by rw [HPL.out]; omega), HPL.out, Nat.sub_self]
            rfl
          obtain ⟨fn, tmps, assign, body, hy, hR⟩ := HY.out j _ _ hjN hj5 hfa
          have hpL0 : (0 : Int) ≤ (p : Int) + ((L : Int) + 9) := by omega
          have hpL1 : (p : Int) + ((L : Int) + 9) ≤ (n : Int) := by omega
          have HG5 := hid hg5
          have HPE := hid hpe
          clear hch5 hg5 hj5 hp5 hfa hpe
          gi_wp2
          refine hR.mono ?_
          rintro e w6 ⟨rfl, hj6, hg6⟩
          have hk6 := hg6.trans HG5.out
          rw [HPE.out] at hk6
          have HJ6 := hid hj6
          have HK6 := hid hk6
          have hm6 := Blk.cell hk6 2
          simp only [List.getElem?_toArray, List.getElem?_cons_zero, List.getElem?_cons_succ] at hm6
          have HM6 := hid hm6
          clear hj6 hg6 hk6 hm6
          gi_wp2
          go_roundw
          case rel =>
            refine ⟨j + 1, p + (pl.length + 9), pre ++ [⟨p, ty, pl⟩], by have := HLP.out; omega, HJ6.out, HK6.out, by simp [HPL.out], ?_⟩
            have h1 := HW2.out
            rw [← HLP.out] at h1
            rw [HWK.out, h1]
            simp
          case measure => rw [HGW.out, HM6.out]; simp [intOf]; omega
      · have hrd2 := fun W' hW => (hrd W' hW).mono (fun e w' h => RdR.no h hr0)
        have hsh := fun (h : Fr.rE (bs.drop p) = 4) (hf : fin = false) => (show Rs.wk fin bs p = ([], p) from by rw [hf]; exact Rs.wk_short (by rw [HN.out]; exact hlt) h)
        have hno := fun (h : ¬ (Fr.rE (bs.drop p) = 4 ∧ fin = false)) => Rs.wk_no (by rw [HN.out]; exact hlt) hr0 h
        generalize Fr.rE (bs.drop p) = er at *
        have her : ((er : Int) != 0) = true := by simp; omega
        have her0 : ((er : Int) == 0) = false := by simp; omega
        have HRD := hid hrd2
        have HSH := hid hsh
        have HNO := hid hno
        clear hrd hrd2 hdl hr0 hsh hno
        gi_wp2
        refine wpIn_wide.2 ?_
        go_region_held3 (fun w' => w'.cell? ⟨Gp, 0, none⟩ = some (.pointer (some ⟨G, 0, none⟩)) ∧ w'.cell? ⟨G, 0, none⟩ = some (.slice (some ⟨b, off, none⟩) n c) ∧ w'.cell? ⟨G, 2, none⟩ = some (.int .i64 (p : Int))) (first | exact ⟨gp, g0, g2⟩ | exact ⟨c0, c1, c2⟩ | go_keep) (first | (go_at_call 28; (with_reducible refine (HRD.out _ (below_drew' HBQ.out)).mono ?_); rintro e w2 ⟨rfl, hb2⟩; have hb2q := (below_drew' (Below.refl _ wq)).trans hb2; have c0 := (hb2q.cell (p := ⟨Gp, 0, none⟩) hgpq).trans gp; have c1 := (hb2q.cell (p := ⟨G, 0, none⟩) hgq).trans g0; have c2 := (hb2q.cell (p := ⟨G, 2, none⟩) hgq).trans g2; have HB2 := hid hb2q; clear hb2 hb2q) | (go_at_call 28; (with_reducible refine (HRD.out _ (below_drew' (bw_a HBQ.out _))).mono ?_); rintro e w2 ⟨rfl, hb2⟩; have hb2q := bw_t (below_drew' (bw_a (Below.refl _ wq) _)) hb2; have c0 := (hb2q.cell (p := ⟨Gp, 0, none⟩) hgpq).trans gp; have c1 := (hb2q.cell (p := ⟨G, 0, none⟩) hgq).trans g0; have c2 := (hb2q.cell (p := ⟨G, 2, none⟩) hgq).trans g2; have hkf : Blk w2 wq.heap.size 29 #[.int .u8 0, .slice none 0 0] := Blk.below (w := (wq.alloc (.cells #[.int .u8 0, .slice none 0 0] 29)).drew) (Blk.new wq 29 #[.int .u8 0, .slice none 0 0]) hb2 (show wq.heap.size < _ from by rw [drew_size, World.size_alloc]; omega); have hkfc0 := hkf.cell 0; have hkfc1 := hkf.cell 1; have hkff0 := hkf.frozen 0; have hkff1 := hkf.frozen 1; have hkfl := hkf.lt; have HB2 := hid hb2q; clear hb2 hb2q))
        · have hkq := Blk.new w2 29 #[.int .u8 0, .slice none 0 0]
          have hch := (Chg.refl (fun k => k = G) w2).alloc (.cells #[.int .u8 0, .slice none 0 0] 29)
          have hb3 := HB2.out.trans ((bw_a (Below.refl _ w2) (.cells #[.int .u8 0, .slice none 0 0] 29)).mono HB2.out.size)
          have hB3 := HBQ.out.trans (hb3.mono HBQ.out.size)
          have hqG : ¬ w2.heap.size = G := by have := HB2.out.size; omega
          have hq0 : B0 ≤ w2.heap.size := Nat.le_trans hBq HB2.out.size
          clear c0 c1 c2 hch
          generalize w2.alloc (.cells #[.int .u8 0, .slice none 0 0] 29) = w3 at *
          generalize w2.heap.size = q at *
          have hkp3 := HKP.out.below hB3 HKP.out.lt
          have hg3 := HG.out.below hB3 HG.out.lt
          have hj3 := HJN.out j wr w3 HJ.out (Chg.of_new hB3)
          have d0 := hkp3.cell 0
          have d1 := hg3.cell 2
          have d4 := hg3.cell 1
          simp only [List.getElem?_toArray, List.getElem?_cons_zero, List.getElem?_cons_succ] at d0 d1 d4
          have hgl3 := hg3.lt
          have hgpl3 := hkp3.lt
          have hgf := fun i => hg3.frozen i
          have hg5 : Blk (w3.setCell ⟨G, 2, none⟩ (.int .i64 ((p : Int) + 1))) G 55 #[.slice (some ⟨b, off, none⟩) n c, .bool fin, .int .i64 ((p + 1 : Nat) : Int)] := by
            have h := Blk.set_ hg3 2 (.int .i64 ((p : Int) + 1))
            rw [show ((p + 1 : Nat) : Int) = (p : Int) + 1 from by omega]
            exact h
          have hj5 := HJN.out j w3 _ hj3 ((Chg.refl (fun k => k = G) w3).set_ (.inl rfl) 2 (.int .i64 ((p : Int) + 1)))
          have hm5 := hg5.cell 2
          simp only [List.getElem?_toArray, List.getElem?_cons_zero, List.getElem?_cons_succ] at hm5
          have HM5 := hid hm5
          have HG5 := hid hg5
          have HJ5 := hid hj5
          have HG3 := hid hg3
          have HJ3 := hid hj3
          clear hkq hb3 hkp3 hg3 hj3 hB3 hg5 hj5 hm5
          by_cases he4 : er = 4
          · have hb4 : ((er : Int) == 4) = true := by simp [he4]
            cases fin with
            | false =>
              have hw := HSH.out he4 rfl
              have HW := hid hw
              clear hw he4
              gi_wp2
              try simp only [Exit.noGoto]
              have hNj : N = j := by
                have h1 := congrArg (fun x => x.1.length) HWK.out
                rw [HW.out] at h1
                simp only [List.append_nil, HNN.out, HPL.out] at h1
                exact h1
              have hEp : E = p := by
                have h1 := congrArg (fun x => x.2) HWK.out
                rw [HW.out] at h1
                simp only [HEE.out] at h1
                exact h1
              refine bodyPost_end (results_none rfl _ _ _) rfl ⟨⟨_, rfl⟩, ?_, ?_⟩
              · rw [hNj]; exact HJ3.out
              · rw [hEp]; exact HG3.out
            | true =>
              have hw := HNO.out (fun h => by cases h.2)
              have HW := hid hw
              clear hw he4
              gi_wp2
              go_roundw
              case rel => exact ⟨j, p + 1, pre, by omega, HJ5.out, HG5.out, HPL.out, by rw [HWK.out, HW.out]⟩
              case measure => rw [HGW.out, HM5.out]; simp [intOf]; omega
          · have hb4 : ((er : Int) == 4) = false := by simp; omega
            have hw := HNO.out (fun h => he4 h.1)
            have HW := hid hw
            clear hw he4
            gi_wp2
            go_roundw
            case rel => exact ⟨j, p + 1, pre, by omega, HJ5.out, HG5.out, HPL.out, by rw [HWK.out, HW.out]⟩
            case measure => rw [HGW.out, HM5.out]; simp [intOf]; omega
        · have hchg := ((Chg.refl (fun k => k = wq.heap.size) w2).set_ (.inl rfl) 0 (.int .u8 0)).set_ (.inl rfl) 1 (.slice none 0 0)
          have hkq := (Blk.set_ (Blk.set_ hkf 0 (.int .u8 0)) 1 (.slice none 0 0))
          simp only [Array.setIfInBounds, List.size_toArray, List.length_cons, List.length_nil, Nat.reduceAdd, dite_true, List.set_toArray, List.set_cons_zero, List.set_cons_succ, Nat.zero_lt_succ, Nat.lt_add_one] at hkq
          have hb3 := HB2.out.trans (hchg.below (B := wq.heap.size) (fun k hk => by omega) HB2.out.size)
          have hB3 := HBQ.out.trans (hb3.mono HBQ.out.size)
          have hqG : ¬ wq.heap.size = G := by omega
          have hq0 : B0 ≤ wq.heap.size := hBq
          clear c0 c1 c2 hkfc0 hkfc1 hkff0 hkff1 hkfl hkf hchg
          generalize (w2.setCell ⟨wq.heap.size, 0, none⟩ (.int .u8 0)).setCell ⟨wq.heap.size, 1, none⟩ (.slice none 0 0) = w3 at *
          generalize hqz : wq.heap.size = q at *
          have HQZ := hid hqz
          clear hqz
          have hkp3 := HKP.out.below hB3 HKP.out.lt
          have hg3 := HG.out.below hB3 HG.out.lt
          have hj3 := HJN.out j wr w3 HJ.out (Chg.of_new hB3)
          have d0 := hkp3.cell 0
          have d1 := hg3.cell 2
          have d4 := hg3.cell 1
          simp only [List.getElem?_toArray, List.getElem?_cons_zero, List.getElem?_cons_succ] at d0 d1 d4
          have hgl3 := hg3.lt
          have hgpl3 := hkp3.lt
          have hgf := fun i => hg3.frozen i
          have hg5 : Blk (w3.setCell ⟨G, 2, none⟩ (.int .i64 ((p : Int) + 1))) G 55 #[.slice (some ⟨b, off, none⟩) n c, .bool fin, .int .i64 ((p + 1 : Nat) : Int)] := by
            have h := Blk.set_ hg3 2 (.int .i64 ((p : Int) + 1))
            rw [show ((p + 1 : Nat) : Int) = (p : Int) + 1 from by omega]
            exact h
          have hj5 := HJN.out j w3 _ hj3 ((Chg.refl (fun k => k = G) w3).set_ (.inl rfl) 2 (.int .i64 ((p : Int) + 1)))
          have hm5 := hg5.cell 2
          simp only [List.getElem?_toArray, List.getElem?_cons_zero, List.getElem?_cons_succ] at hm5
          have HM5 := hid hm5
          have HG5 := hid hg5
          have HJ5 := hid hj5
          have HG3 := hid hg3
          have HJ3 := hid hj3
          clear hkq hb3 hkp3 hg3 hj3 hB3 hg5 hj5 hm5
          by_cases he4 : er = 4
          · have hb4 : ((er : Int) == 4) = true := by simp [he4]
            cases fin with
            | false =>
              have hw := HSH.out he4 rfl
              have HW := hid hw
              clear hw he4
              gi_wp2
              try simp only [Exit.noGoto]
              have hNj : N = j := by
                have h1 := congrArg (fun x => x.1.length) HWK.out
                rw [HW.out] at h1
                simp only [List.append_nil, HNN.out, HPL.out] at h1
                exact h1
              have hEp : E = p := by
                have h1 := congrArg (fun x => x.2) HWK.out
                rw [HW.out] at h1
                simp only [HEE.out] at h1
                exact h1
              refine bodyPost_end (results_none rfl _ _ _) rfl ⟨⟨_, rfl⟩, ?_, ?_⟩
              · rw [hNj]; exact HJ3.out
              · rw [hEp]; exact HG3.out
            | true =>
              have hw := HNO.out (fun h => by cases h.2)
              have HW := hid hw
              clear hw he4
              gi_wp2
              go_roundw
              case rel => exact ⟨j, p + 1, pre, by omega, HJ5.out, HG5.out, HPL.out, by rw [HWK.out, HW.out]⟩
              case measure => rw [HGW.out, HM5.out]; simp [intOf]; omega
          · have hb4 : ((er : Int) == 4) = false := by simp; omega
            have hw := HNO.out (fun h => he4 h.1)
            have HW := hid hw
            clear hw he4
            gi_wp2
            go_roundw
            case rel => exact ⟨j, p + 1, pre, by omega, HJ5.out, HG5.out, HPL.out, by rw [HWK.out, HW.out]⟩
            case measure => rw [HGW.out, HM5.out]; simp [intOf]; omega
    · obtain rfl : p = n := by omega
      have hw := Rs.wk_end fin bs p (by rw [HN.out]; omega)
      have HW := hid hw
      have hNj : N = j := by
        have h1 := congrArg (fun x => x.1.length) hwk
        rw [hw] at h1
        simp only [List.append_nil, HNN.out, hpl] at h1
        exact h1
      have hEp : E = p := by
        have h1 := congrArg (fun x => x.2) hwk
        rw [hw] at h1
        simp only [HEE.out] at h1
        exact h1
      have hj' := hid (HJN.out j wr _ hj ((Chg.refl (fun k => k = G) wr)))
      have HG := hid hg
      have HJ := hid hj
      have HNJ := hid hNj
      have HEP := hid hEp
      clear hw hwk hpl hj hg hNj hEp hj' hkp hsl
      gi_wp2
      gi_quiet (fail)
      gi_wp2
      simp only [Exit.noGoto]
      refine bodyPost_end (results_none rfl _ _ _) rfl ⟨⟨_, rfl⟩, ?_, ?_⟩
      · rw [HNJ.out]; exact HJN.out j wr _ HJ.out ((Chg.refl (fun k => k = G) wr).drewN _)
      · rw [HEP.out]; exact HG.out
end Go.Proofs.Ytgiealcfhlcpoaa
