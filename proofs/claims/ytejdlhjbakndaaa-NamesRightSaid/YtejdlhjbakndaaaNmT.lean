/- Names: the names that stand for nothing: a walk. -/
import Derived.Test.YtejdlhjbakndaaaNmS
set_option linter.unusedVariables false
namespace Go.Proofs.Ytejdlhjbakndaaa
open Go.RowKit
attribute [local go_sem] Oper.semAt_some
/-- What holds between two rounds. -/
structure MsI (s p : Nat) (w : World) (D : DfV) (M : List ByteArray) (W : World) : Prop where
  ob : ∃ vv, Blk W (s + 1) 35 #[vv] ∧ W.ownsRow (p + 5) 9 1 vv M.length (M.flatMap svC)
  mb : Blk W p 55 #[.map (some (s + 3))]
  mp : ∃ cnt Mp, W.ownsMap Try.prog 9 (plainElem (H := Unit) Try.prog 3) (s + 3) cnt Mp ∧ cnt ≤ 30 + M.length ∧ PlH (nms D.st.xs ++ M) Mp
  ib : Blk W (p + 1) 24 #[.string D.nm, .string D.tx, .slice D.st.A D.st.xs.length D.st.c]
  bel : Below s w W
theorem MsI.keep {s p : Nat} {w W W' : World} {D : DfV} {M : List ByteArray} {S : Nat → Prop} (h : MsI s p w D M W) (hp : s + 4 ≤ p) (hc : Chg S W W') (hS : ∀ q, S q → p + 2 ≤ q ∧ q < p + 5) : MsI s p w D M W' := by
  obtain ⟨⟨vv, o1, o2⟩, mb, ⟨cnt, Mp, m1, m2, m3⟩, ib, bel⟩ := h
  have hs := mb.lt
  exact ⟨⟨vv, hc.blk o1 (fun hx => by have := hS _ hx; omega), own_chgS o2 hc (fun g hg hx => by have := hS _ hx; have := (o2.lt g hg).1; omega)⟩, hc.blk mb (fun hx => by have := hS _ hx; omega), ⟨cnt, Mp, ownsMap_kn m1 (hc.block _ (by omega) (fun hx => by have := hS _ hx; omega)), m2, m3⟩, hc.blk ib (fun hx => by have := hS _ hx; omega), bel.trans (hc.below (B := s) (fun x hx => by have := hS x hx; omega) (by omega))⟩
set_option maxRecDepth 100000 in
set_option maxHeartbeats 8000000 in
theorem missing_in (m : Nat) (hm : 6 ≤ m) (D : DfV) (w : World) (hst : StRow w D) (hX : ∀ x ∈ D.st.xs, TxOk w x.af ∧ x.af.xs.length ≤ 70) (hl : D.st.xs.length ≤ 30) (hz : ∀ x ∈ D.st.xs, x.nm.size ≤ maxLen) :
    CallsIn Fence.wide m Try.prog 19 #[.agg #[.string D.nm, .string D.tx, .slice D.st.A D.st.xs.length D.st.c]] w fun e w' => ∃ v, e = .returned v ∧ w'.ownsRow w.heap.size 9 1 v (Nm.msAll (nms D.st.xs) D.st.xs).length ((Nm.msAll (nms D.st.xs) D.st.xs).flatMap svC) ∧ Below w.heap.size w w' := by
  obtain ⟨i0, hi0, hz0, hz1, hz2⟩ := info_parts Try.infoSt25
  obtain ⟨s, hsz⟩ : ∃ s, w.heap.size = s := ⟨_, rfl⟩
  have hk1 := (Blk.new w 24 #[.string D.nm, .string D.tx, .slice D.st.A D.st.xs.length D.st.c]).alloc (.cells #[.slice none 0 0] 35)
  have hk2 := Blk.new (w.alloc (.cells #[.string D.nm, .string D.tx, .slice D.st.A D.st.xs.length D.st.c] 24)) 35 #[.slice none 0 0]
  have hb0 := bw_a (bw_a (Below.refl _ w) (.cells #[.string D.nm, .string D.tx, .slice D.st.A D.st.xs.length D.st.c] 24)) (.cells #[.slice none 0 0] 35)
  rw [World.size_alloc] at hk2
  have HST := hid (fun W (h : Below s w W) => StRow.below hst (by rw [hsz]; exact h))
  have HTX := hid (fun W (h : Below s w W) x (hx : x ∈ D.st.xs) => (⟨(hX x hx).1.below (by rw [hsz]; exact h), (hX x hx).2⟩ : TxOk W x.af ∧ x.af.xs.length ≤ 70))
  have HT0 := hid hX
  rw [hsz] at hk1 hk2 hb0
  obtain ⟨w2, hw2⟩ : ∃ w2, (w.alloc (.cells #[.string D.nm, .string D.tx, .slice D.st.A D.st.xs.length D.st.c] 24)).alloc (.cells #[.slice none 0 0] 35) = w2 := ⟨_, rfl⟩
  have hz2s : w2.heap.size = s + 2 := by rw [← hw2, World.size_alloc, World.size_alloc, hsz]
  rw [hw2] at hk1 hk2 hb0
  have HPL := hid (places_any D w2 (HST.out w2 hb0) (by omega) hz)
  rw [hz2s] at HPL
  have HMN := hid (fun W => mentions_in (m - 1) D W)
  have c0 := hk1.cell 0
  have c1 := hk1.cell 1
  have c2 := hk1.cell 2
  simp only [List.getElem?_toArray, List.getElem?_cons_zero, List.getElem?_cons_succ] at c0 c1 c2
  have HK1 := hid hk1
  have HK2 := hid hk2
  have HB0 := hid hb0
  have HW2 := hid hw2
  have HSZ := hid hsz
  have HLL := hid hl
  have h1 : 1 ≤ m := by omega
  obtain ⟨Q, hQ⟩ : ∃ Q : Ending → World → Prop, Q = fun e w' => ∃ v, e = .returned v ∧ w'.ownsRow s 9 1 v (Nm.msAll (nms D.st.xs) D.st.xs).length ((Nm.msAll (nms D.st.xs) D.st.xs).flatMap svC) ∧ Below s w w' := ⟨_, rfl⟩
  rw [hsz, ← hQ]
  have HQ := hid hQ
  clear hk1 hk2 hb0 hw2 hz2s hQ hX hz hl
  refine callsIn_of_wp_marks Try.func19 rfl trivial ?_ rfl
  simp only [Try.ntmps19, List.size_toArray, List.length_cons, List.length_nil, Nat.reduceAdd, Nat.reduceSub, Array.replicate_succ, Array.replicate_zero, List.push_toArray, List.append_toArray, List.nil_append, List.cons_append]
  gi_wp2
  rw [HW2.out]
  refine ⟨trivial, ?_⟩
  refine ((callsIn_wide (n := m - 1)).2 HPL.out).mono ?_
  rintro e w3 ⟨Mp, rfl, hmp, hpf, hb3, hz3⟩
  obtain ⟨p, hp⟩ : ∃ p, w3.heap.size = p := ⟨_, rfl⟩
  rw [show s + 2 + 1 = s + 3 by omega] at hmp ⊢
  have r1 := HK1.out.below hb3 (by omega)
  have r2 := HK2.out.below hb3 (by omega)
  have r3 := r1.alloc (.cells #[.map (some (s + 3))] 55)
  have c0 := r3.cell 0
  have c1 := r3.cell 1
  have c2 := r3.cell 2
  simp only [List.getElem?_toArray, List.getElem?_cons_zero, List.getElem?_cons_succ] at c0 c1 c2
  clear r3
  have hb4 := HB0.out.trans (hb3.mono (by omega) : Below s w2 w3)
  have R1 := hid r1
  have R2 := hid r2
  have HB4 := hid hb4
  have HMP := hid hmp
  have HPF := hid hpf
  have HP := hid hp
  have HZ3 := hid (show s + 4 ≤ p by omega)
  clear r1 r2 hb4 hmp hpf hb3 hz3 hp
  gi_wp2
  refine ⟨trivial, ?_⟩
  refine (HMN.out _).mono ?_
  rintro e w' ⟨rfl, rfl⟩
  rw [World.size_alloc, HP.out]
  gi_wp2
  have hz : ((w3.alloc (.cells #[.map (some (s + 3))] 55)).alloc (.cells #[.string D.nm, .string D.tx, .slice D.st.A D.st.xs.length D.st.c] 24)).heap.size = p + 2 := by simp only [World.size_alloc, HP.out]
  have hli : MsI s p w D [] ((w3.alloc (.cells #[.map (some (s + 3))] 55)).alloc (.cells #[.string D.nm, .string D.tx, .slice D.st.A D.st.xs.length D.st.c] 24)) := by
    refine ⟨⟨.slice none 0 0, (R2.out.alloc _).alloc _, World.ownsRow_nil _ _ _ _⟩, ?_, ⟨_, Mp, (HMP.out.alloc _).alloc _, by have := HLL.out; simp; omega, by rw [List.append_nil]; exact HPF.out.plH⟩, ?_, (HB4.out.alloc (by have := HZ3.out; have := HP.out; omega) _).alloc (by have := HZ3.out; have := HP.out; rw [World.size_alloc]; omega) _⟩
    · have := (Blk.new w3 55 #[.map (some (s + 3))]).alloc (.cells #[.string D.nm, .string D.tx, .slice D.st.A D.st.xs.length D.st.c] 24); rw [HP.out] at this; exact this
    · have := Blk.new (w3.alloc (.cells #[.map (some (s + 3))] 55)) 24 #[.string D.nm, .string D.tx, .slice D.st.A D.st.xs.length D.st.c]; rw [World.size_alloc, HP.out] at this; exact this
  generalize ((w3.alloc (.cells #[.map (some (s + 3))] 55)).alloc (.cells #[.string D.nm, .string D.tx, .slice D.st.A D.st.xs.length D.st.c] 24)) = W0 at *
  have HLI := hid hli
  have HZ := hid hz
  clear hz hli R1 R2 HB4 HK1 HK2 HB0 HMP HPF HPL HMN
  have hps := HZ3.out
  have HN70 := hid (Nm.mnAll_le D.st.xs 0 (fun x hx => (HT0.out x hx).2))
  refine range_wide m (by omega) (p + 2) HZ.out (gf := 48) (lb := #[.pointer (some ⟨p + 1, 0, none⟩)]) rfl (enters_of Try.func48 (by kernel_rfl) rfl) (Nm.mnAll 0 D.st.xs).length (mnV D.st.xs) (fun _ => rfl) 1
    (fun j W' => MsI s p w D (Nm.msF (nms D.st.xs) D.st.xs j) W') (fun c W' => False) ?_ ?_ ?_ ?_ ?_ ?_ ?_
  · exact fun j W1 W2 g hc => g.keep hps hc (fun q hq => by omega)
  · exact fun c W1 W2 g _ => g
  · exact HLI.out
  · intro l2 J2 Jx2 W1 hw1 hJI hJn2 _ hJ0 hy
    refine mentions1_in (m - 1) (by omega) l2 (p + 1) (p + 4) D HLL.out J2 Jx2 (fun j W h => ?_) (fun j W W' h hc => hJn2 j W W' h (hc.mono fun q _ hq => by omega)) (fun j W hj h hsz' => ?_) W1 (by omega) hJ0
    · have g := (hJI j W h).1
      exact ⟨g.ib, HST.out W g.bel, HTX.out W g.bel⟩
    · exact hy j W hj h (by omega)
  · rintro l2 j W1 hj hli hsz1
    obtain ⟨i, k, hi, hk, hjk, hgd⟩ := Nm.mn_get D.st.xs j hj
    have hnx := Nm.msF_next (nms D.st.xs) D.st.xs j hj
    have hlen := Nm.msF_len (nms D.st.xs) D.st.xs j
    have hyz := (HTX.out W1 hli.bel _ (List.getElem_mem hi)).1.1 _ (List.getElem_mem hk)
    unfold mnV
    rw [hgd] at hnx ⊢
    simp only at hnx ⊢
    generalize Nm.inB (D.st.xs[i].af.xs.take k) D.st.xs[i].af.xs[k] = ag at *
    generalize D.st.xs[i].af.xs[k] = y at *
    obtain ⟨M, hM⟩ : ∃ M, Nm.msF (nms D.st.xs) D.st.xs j = M := ⟨_, rfl⟩
    rw [hM] at hnx hli hlen
    rw [Nm.ms_pro] at hnx
    have hi30 : i < 30 := by have := HLL.out; omega
    have hM70 : M.length ≤ 2100 := by have := HN70.out; have := HLL.out; omega
    have HNX := hid hnx
    have HLI1 := hid hli
    clear hli hnx hM hgd hj hjk hk hi HLI HZ
    gi_wp2
    have hca : Chg (fun _ => False) W1 (W1.alloc (.cells #[.int .i64 (i : Int), .string y] 61)) := (Chg.refl _ W1).alloc _
    refine ⟨KN.of_chg hca (by omega) (fun _ _ _ h => h), by rw [World.size_alloc]; omega, fun W2 hc2 => ?_⟩
    obtain ⟨⟨vv, o1, o2⟩, mb, ⟨cnt, Mp2, m1, m2, m3⟩, ib, bel⟩ := (HLI1.out.keep hps hca (fun q hq => hq.elim)).keep hps hc2 (fun q hq => by omega)
    have hbm := hc2.blk (Blk.new W1 61 #[.int .i64 (i : Int), .string y]) (by omega)
    have hsz2 := hc2.size
    rw [World.size_alloc] at hsz2
    obtain ⟨q, hq⟩ : ∃ q, W1.heap.size = q := ⟨_, rfl⟩
    rw [hq] at hbm hsz1 hsz2 ⊢
    have c1 := o1.cell 0
    have f1 := o1.frozen 0
    have c2 := mb.cell 0
    have c3 := hbm.cell 0
    have c4 := hbm.cell 1
    simp only [List.getElem?_toArray, List.getElem?_cons_zero, List.getElem?_cons_succ] at c1 c2 c3 c4
    have hkey := plKey y hyz
    obtain ⟨kl, hkl2⟩ : ∃ kl, Lit.string y.data.toList = kl := ⟨_, rfl⟩
    rw [hkl2] at hkey
    have hhas := m3 y kl hkey
    have hput := fun d => PlH.put m3 y kl hkey m1.isMap d
    have hwk : (Lit.int .i64 (i : Int)).wf = true := WalkArith.wf_i64 (by omega)
    have O1 := hid o1
    have O2 := hid o2
    have MB := hid mb
    have HM := hid m1
    have HPH := hid m3
    have HPT := hid hput
    have IB := hid ib
    have BEL := hid bel
    have HBM := hid hbm
    clear o1 o2 mb m1 m3 ib bel hbm hkl2 hput hca hc2 HLI1 hq
    cases hin : Nm.inB (nms D.st.xs ++ M) y with
    | true =>
      rw [hin] at hhas
      have hnx := HNX.out
      rw [if_pos hin] at hnx
      have HNX2 := hid hnx
      clear hnx HNX hin HPT
      gi_wp2_with (gi_at_lookup; refine wpListIn_lookup_own_ok_int _ rfl _ _ 55 rfl 9 3 .i64 plKeyed Try.underlying55 Try.underlying3 (plZero _) (s + 3) cnt Mp2 rfl HM.out _ _ rfl hkey ?_; rw [hhas]; intro cc _ _)
      exact ⟨KN.refl _ _ _, by show MsI s p w D (Nm.msF (nms D.st.xs) D.st.xs (j + 1)) _; rw [HNX2.out]; exact ⟨⟨vv, O1.out, O2.out⟩, MB.out, ⟨cnt, Mp2, HM.out, m2, HPH.out⟩, IB.out, BEL.out⟩⟩
    | false =>
      rw [hin] at hhas
      have hnx := HNX.out
      rw [if_neg (by rw [hin]; simp)] at hnx
      have HNX2 := hid hnx
      clear hnx HNX hin
      gi_wp2_with (first
        | (gi_at_lookup; refine wpListIn_lookup_own_ok_int _ rfl _ _ 55 rfl 9 3 .i64 plKeyed Try.underlying55 Try.underlying3 (plZero _) (s + 3) cnt Mp2 rfl HM.out _ _ rfl hkey ?_; rw [hhas]; intro cc _ _)
        | (gi_at_mapUpdate; refine wpListIn_mapUpdate_own _ rfl _ _ _ 55 rfl 9 3 plKeyed Try.underlying55 _ (s + 3) cnt Mp2 rfl HM.out (by unfold maxLen; omega) _ _ kl rfl rfl hkey (.lit (.int .i64 (i : Int))) [] (plainElem_int Try.underlying3 hwk) ?_; intro w3 hown3 hgrow3; have hcg3 : Chg (fun q => q = s + 3) W2 w3 := Chg.of_grown hgrow3 (fun g e => by injection e with e; exact e.symm); have d1 := (hcg3.blk O1.out (by omega)).cell 0; have d2 := (hcg3.blk HBM.out (by omega)).cell 1; have d3 := (hcg3.blk O1.out (by omega)).frozen 0; simp only [List.getElem?_toArray, List.getElem?_cons_zero, List.getElem?_cons_succ] at d1 d2; have HOM3 := hid hown3; have HCG3 := hid hcg3; have HS3 := hid hcg3.size; have HO3 := hid (own_chgS O2.out hcg3 (fun g hg h => by have := (O2.out.lt g hg).1; omega)); have HO1 := hid (hcg3.blk O1.out (by omega)); clear hown3 hgrow3 hcg3)
        | (gi_at_builtin; refine wpListIn_append_rd _ rfl _ _ 35 rfl (p + 5) 9 i0 (.string ⟨#[]⟩) 1 16 Try.underlying35 hi0 hz0 hz1 hz2 rfl (by decide) vv M.length (M.flatMap svC) rfl (own_below HO3.out (bw_a (Below.refl _ w3) (.cells #[.string y] 9))) ⟨w3.heap.size, 0, none⟩ 1 1 [.string y] rfl rfl (Rd.new w3 9 #[.string y]) (by simp [Value.oneCell']) (by simp only [maxLen]; omega) (by omega) (by rw [World.size_alloc]; have := HS3.out; omega) ?_; intro v'' w4 hown' hgrow; obtain ⟨A2, k2, hv2, -⟩ := SlN.of_own (by omega) hown'; subst hv2; have HOW := hid hown'; have HGR := hid hgrow; have hvv : some (s + 1) ≠ vv.ownBlock := (fun e => by have := (O2.out.lt _ e.symm).1; omega); have hkw := (hgrow.block (s + 1) (by rw [World.size_alloc]; have := HO1.out.lt; omega) hvv).trans (HO1.out.alloc (.cells #[.string y] 9)); have hc4 := Blk.cell (t := 35) hkw 0; have hf4 := Blk.frozen (t := 35) hkw 0; simp only [List.getElem?_toArray, List.getElem?_cons_zero] at hc4; have HKW := hid hkw; clear hown' hgrow hkw))
      have hvb : ∀ q, some q = vv.ownBlock → p + 5 ≤ q := fun q e => (O2.out.lt q e.symm).1
      have hs3 := HS3.out
      have hcg : Chg (fun q => q = s + 1 ∨ q = s + 3 ∨ some q = vv.ownBlock) W2 (w4.setCell ⟨s + 1, 0, none⟩ (.slice A2 (M.length + 1) k2)) := ((((HCG3.out.mono (fun q _ h => .inr (.inl h))).alloc _).trans (Chg.of_grown HGR.out (fun g e => .inr (.inr e.symm)))).set_ (.inl (.inl rfl)) 0 (.slice A2 (M.length + 1) k2))
      have hS : ∀ q, (q = s + 1 ∨ q = s + 3 ∨ some q = vv.ownBlock) → q = s + 1 ∨ q = s + 3 ∨ p + 5 ≤ q := fun q h => h.imp_right (Or.imp_right (hvb q))
      refine ⟨KN.of_chg hcg (by omega) (fun q g1 g2 h => by have := hS q h; omega), ?_⟩
      show MsI s p w D (Nm.msF (nms D.st.xs) D.st.xs (j + 1)) _
      rw [HNX2.out]
      have hs2 := O1.out.lt
      refine ⟨⟨(.slice A2 (M.length + 1) k2), Blk.set_ HKW.out 0 (.slice A2 (M.length + 1) k2), ?_⟩, hcg.blk MB.out (fun h => by have := hS _ h; omega), ⟨cnt + 1, _, ?_, by rw [List.length_append]; simp; omega, by rw [← List.append_assoc]; exact HPT.out (.lit (.int .i64 (i : Int)))⟩, hcg.blk IB.out (fun h => by have := hS _ h; omega), BEL.out.trans (hcg.below (B := s) (fun q hq => by have := hS q hq; omega) (by omega))⟩
      · have h5 := own_chgS HOW.out ((Chg.refl (fun q => q = s + 1) w4).set_ (.inl rfl) 0 (.slice A2 (M.length + 1) k2)) (fun g hg h => by have := (HOW.out.lt g hg).1; omega)
        rw [List.length_append, List.flatMap_append]
        exact h5
      · have h6 : Chg (fun q => q = s + 1 ∨ some q = vv.ownBlock) w3 (w4.setCell ⟨s + 1, 0, none⟩ (.slice A2 (M.length + 1) k2)) := (((Chg.refl _ w3).alloc _).trans (Chg.of_grown HGR.out (fun g e => .inr e.symm))).set_ (.inl (.inl rfl)) 0 (.slice A2 (M.length + 1) k2)
        refine ownsMap_kn HOM3.out (h6.block (s + 3) (by omega) (fun h => ?_))
        rcases h with h | h
        · omega
        · have := hvb _ h; omega
  · rintro W1 hli hd
    rw [Nm.msF_all] at hli
    obtain ⟨⟨vv, o1, o2⟩, mb, ⟨cnt, Mp2, m1, m2, m3⟩, ib, bel⟩ := hli
    have c1 := o1.cell 0
    simp only [List.getElem?_toArray, List.getElem?_cons_zero] at c1
    have O2 := hid o2
    have BEL := hid bel
    have HD1 := hid hd
    clear o1 o2 mb m1 m3 ib bel hd
    gi_wp2
    have hM : Marks (p + 2) W1 [p + 2] := (Marks.nil_ _ _).cons_ (Nat.le_refl _) (by simp) HD1.out
    refine leaves_marks (p + 2) [p + 2] W1 hM fun W6 h6 => ?_
    refine ⟨vv, by simp [results, Try.results19, go_sem], ?_⟩
    rw [HQ.out]
    exact ⟨vv, rfl, own_mono (own_chgS O2.out h6 (fun g hg h => by have := (O2.out.lt g hg).1; simp at h; omega)) (by omega), BEL.out.trans (h6.below (B := s) (fun q hq => by simp at hq; omega) (by have := BEL.out.size; have := HSZ.out; omega))⟩
  · exact fun c W h _ => h.elim
end Go.Proofs.Ytejdlhjbakndaaa
