/- slices.Collect of a stream's frames. -/
import Derived.Test.YtgiealcfhlcpoaaRsIt
set_option linter.unusedVariables false
namespace Go.Proofs.Ytgiealcfhlcpoaa
open Go.RowKit Go.Shelf
attribute [local go_sem] Oper.semAt_some
theorem Try.info38 : (Try.prog.info? 38).map (fun i => (i.zero, i.size, i.bytes)) = some (some (.agg #[.int .i64 0, .int .u8 0, .slice none 0 0]), 3, 40) := by kernel_rfl
/-- A frame that was found, as it lies in a row. -/
structure FdV where
  f : Fnd
  A : Option Addr
  c : Nat
def fdC (f : FdV) : List Value := [.int .i64 (f.f.at_ : Int), .int .u8 (f.f.ty.toNat : Int), .slice f.A f.f.pl.length f.c]
/-- A row of frames that were found. -/
def FdRow (B : Nat) (w : World) (v : Value) (l : List Fnd) : Prop := ∃ fs : List FdV, fs.map FdV.f = l ∧ w.ownsRow B 38 3 v fs.length (fs.flatMap fdC) ∧ ∀ f ∈ fs, Pay B w f.A f.c f.f.pl
theorem FdRow.chg {B : Nat} {w w' : World} {v : Value} {l : List Fnd} {S : Nat → Prop} (h : FdRow B w v l) (hc : Chg S w w') (hS : ∀ b, B ≤ b → ¬ S b) : FdRow B w' v l := by
  obtain ⟨fs, h1, h2, h3⟩ := h
  exact ⟨fs, h1, own_chgS h2 hc (fun g hg => hS g (h2.lt g hg).1), fun f hf => (h3 f hf).chg hc (fun b _ _ hb _ => hS b hb)⟩
theorem FdRow.mono {B B' : Nat} {w : World} {v : Value} {l : List Fnd} (h : FdRow B w v l) (hb : B' ≤ B) : FdRow B' w v l := by
  obtain ⟨fs, h1, h2, h3⟩ := h
  exact ⟨fs, h1, own_mono h2 hb, fun f hf => (h3 f hf).mono hb⟩
theorem FdRow.below {B : Nat} {w w' : World} {v : Value} {l : List Fnd} (h : FdRow B w v l) (hb : Below w.heap.size w w') : FdRow B w' v l := h.chg (Chg.of_new hb) (S := fun _ => False) (fun _ _ h => h)
/-- What collecting keeps between two rounds. -/
structure CJ (s G : Nat) (w : World) (l : List Fnd) (W : World) : Prop where
  rb : ∃ vv, Blk W s 33 #[vv] ∧ FdRow (s + 3) W vv l
  ch : Chg (fun q => q = G) w W
theorem CJ.keep {s G : Nat} {w W W' : World} {l : List Fnd} {S : Nat → Prop} (h : CJ s G w l W) (hs : w.heap.size = s) (hG : G < s) (hc : Chg S W W') (hS : ∀ q, S q → q = G ∨ (s + 1 ≤ q ∧ q < s + 3)) : CJ s G w l W' := by
  obtain ⟨vv, h1, h2⟩ := h.rb
  refine ⟨⟨vv, hc.blk h1 (fun hx => by have := hS _ hx; omega), h2.chg hc (fun b hb hx => by have := hS _ hx; omega)⟩, ?_⟩
  exact ⟨hc.os.trans h.ch.os, hc.tape.trans h.ch.tape, hc.output.trans h.ch.output, Nat.le_trans h.ch.size hc.size, fun k hk hq => (hc.block k (Nat.lt_of_lt_of_le hk h.ch.size) (fun hx => by have := hS _ hx; omega)).trans (h.ch.block k hk hq)⟩
set_option maxRecDepth 100000 in
set_option maxHeartbeats 4000000 in
theorem sappend_in (m : Nat) (hm : 6 ≤ m) (fin : Bool) (bs : List UInt8) (n : Nat) (A : Option Addr) (c G Gp : Nat) (w : World) (hn : bs.length = n) (hl : n ≤ 1000000) (hs : Sl w A c (bs.map bv)) (hfar : FarS A n (fun q => q = G))
    (hg : Blk w G 55 #[.slice A n c, .bool fin, .int .i64 0]) (hkp : Blk w Gp 70 #[.pointer (some ⟨G, 0, none⟩)]) (hne : Gp ≠ G) :
    CallsIn Fence.wide m Try.prog 26 #[.slice none 0 0, .func (.func 27) #[] #[.pointer (some ⟨Gp, 0, none⟩)]] w fun e w' => (∃ v, e = .returned v ∧ FdRow w.heap.size w' v (Rs.wk fin bs 0).1 ∧ Chg (fun q => q = G) w w') ∧ Blk w' G 55 #[.slice A n c, .bool fin, .int .i64 ((Rs.wk fin bs 0).2 : Nat)] := by
  have h1 : 1 ≤ m := by omega
  obtain ⟨i0, hi, hz0, hz1, hz2_⟩ := info_parts Try.info38
  obtain ⟨s, hsz⟩ : ∃ s, w.heap.size = s := ⟨_, rfl⟩
  have hGs : G < s := by have := hg.lt; omega
  have hGps : Gp < s := by have := hkp.lt; omega
  have hz : (w.alloc (.cells #[.slice none 0 0] 33)).heap.size = s + 1 := by simp [hsz]
  have hch0 := (Chg.refl (fun q => q = G) w).alloc (.cells #[.slice none 0 0] 33)
  have hj0 : CJ s G w [] (w.alloc (.cells #[.slice none 0 0] 33)) := ⟨⟨.slice none 0 0, by rw [← hsz]; exact Blk.new w _ _, [], rfl, World.ownsRow_nil _ _ _ _, by simp⟩, hch0⟩
  have hlen := Rs.wk_len fin bs 0
  have hit := fun l J W1 h2 h3 h4 h5 h6 h7 => frames1_in (m - 1) (by omega) fin bs n A c l Gp G (s + 1 + 2) J W1 hn hl h2 (by omega) h3 h4 h5 h6 h7
  have HJ0 := hid hj0
  have HIT := hid hit
  have HG := hid hg
  have HKP := hid hkp
  have HS := hid hs
  have HFAR := hid hfar
  have HN := hid hn
  have HSZ := hid hsz
  have HZ := hid hz
  have HCH := hid hch0
  have HLEN := hid hlen
  clear hj0 hit hg hkp hs hfar hn hsz hz hch0 hlen
  refine callsIn_of_wp_marks Try.func26 rfl trivial ?_ rfl
  simp only [Try.ntmps26, List.size_toArray, List.length_cons, List.length_nil, Nat.reduceAdd, Nat.reduceSub, Array.replicate_succ, Array.replicate_zero, List.push_toArray, List.append_toArray, List.nil_append, List.cons_append]
  gi_wp2
  rw [HSZ.out]
  refine range_g m (by omega) (s + 1) HZ.out (gf := 27) (lb := #[.pointer (some ⟨Gp, 0, none⟩)]) rfl (enters_of Try.func27 (by kernel_rfl) rfl) (Rs.wk fin bs 0).1.length (FArg fin bs n A c G (s + 1 + 2)) ?_ G (by omega)
    (fun j W' => CJ s G w ((Rs.wk fin bs 0).1.take j) W') (fun W' => Blk W' G 55 #[.slice A n c, .bool fin, .int .i64 ((Rs.wk fin bs 0).2 : Nat)]) ?_ ?_ ?_ ?_ ?_ ?_
  · rintro j xs W ⟨f, Ap, cp, -, rfl, -⟩
    rfl
  · intro j W1 W2 h hc
    exact h.keep HSZ.out hGs hc (fun q hq => by omega)
  · intro W1 W2 h hc
    exact hc.blk h (by omega)
  · exact HJ0.out
  · intro l2 J2 W1 hw1 hB1 hJI hJn2 hJ0 hy
    have hc1 : ∀ j W, J2 j W → Chg (fun q => q = G) w W := fun j W h => (hJI j W h).1.ch
    refine (HIT.out l2 J2 W1 (by omega) (fun j W h => ⟨(hc1 j W h).blk HKP.out hne, (hc1 j W h).sl HS.out HFAR.out (by rw [List.length_map, HN.out]), (hJI j W h).2⟩) hJn2 hJ0 ?_ hy).mono fun e w' h => h
    exact ((HG.out.alloc _).below hB1 (by omega))
  · rintro l2 j W1 xs hj hzw a1 ⟨f, Ap, cp, hfj, rfl, hp, hgf⟩ hlo
    have htk : (Rs.wk fin bs 0).1.take (j + 1) = (Rs.wk fin bs 0).1.take j ++ [f] := by
      obtain ⟨hjl, hfe⟩ := List.getElem?_eq_some_iff.1 hfj
      rw [List.take_succ_eq_append_getElem hjl, hfe]
    have hll : ((Rs.wk fin bs 0).1.take j).length ≤ n := by rw [List.length_take]; have := HLEN.out; have := HN.out; omega
    have hjn : j ≤ n := by have := HLEN.out; have := HN.out; omega
    generalize (Rs.wk fin bs 0).1.take j = lj at *
    obtain ⟨fa, fty, fpl⟩ := f
    simp only at hp
    obtain ⟨pl, hpl⟩ : ∃ pl, fpl.length = pl := ⟨_, rfl⟩
    simp only [hpl]
    have HTK := hid htk
    have HPL := hid hpl
    have HP := hid hp
    have HA1 := hid a1
    clear htk hfj hp hgf hpl a1
    gi_wp2
    have hca := (Chg.refl (fun _ => False) W1).alloc (.cells #[.int .i64 (fa : Int), .int .u8 (fty.toNat : Int), .slice Ap pl cp] 38)
    refine ⟨KBg.of_chg hca hzw (fun _ _ _ h => h), hca.block G (by omega) (fun h => h), fun W2 hc2 => ?_⟩
    have hj2 := (HA1.out.keep HSZ.out hGs hca (fun q h => h.elim)).keep HSZ.out hGs hc2 (fun q hq => by omega)
    have hkb := hc2.blk (Blk.new W1 38 #[.int .i64 (fa : Int), .int .u8 (fty.toNat : Int), .slice Ap pl cp]) (by omega)
    have hp2 := (HP.out.below (bw_a (Below.refl _ W1) (.cells #[.int .i64 (fa : Int), .int .u8 (fty.toNat : Int), .slice Ap pl cp] 38))).chg hc2 (fun b _ _ hb _ => by omega)
    obtain ⟨⟨vv, hv, fs, hfs, ho, hpay⟩, hch⟩ := hj2
    have hfl : fs.length = lj.length := by rw [← hfs, List.length_map]
    have c0 := hv.cell 0
    have f0 := hv.frozen 0
    have b0 := hkb.cell 0
    have b1 := hkb.cell 1
    have b2 := hkb.cell 2
    simp only [List.getElem?_toArray, List.getElem?_cons_zero, List.getElem?_cons_succ] at c0 b0 b1 b2
    have hvl := hv.lt
    have hbl := hkb.lt
    have hz2 : s + 3 ≤ W2.heap.size := by have := hc2.size; rw [World.size_alloc] at this; omega
    have HV := hid hv
    have HO := hid (own_below ho (bw_a (Below.refl _ W2) (.cells #[.int .i64 (fa : Int), .int .u8 (fty.toNat : Int), .slice Ap pl cp] 38)))
    have HO2 := hid ho
    have HP2 := hid hp2
    have HPAY := hid hpay
    have HFS := hid hfs
    have HCH := hid hch
    have HRD := hid (Rd.new W2 38 #[.int .i64 (fa : Int), .int .u8 (fty.toNat : Int), .slice Ap pl cp])
    have hfn : fs.length ≤ 1000000 := by omega
    clear hca hc2 hv ho hp2 hpay hfs hch hkb hlo hfl
    obtain ⟨k, hk⟩ : ∃ k, fs.length = k := ⟨_, rfl⟩
    rw [hk] at hfn
    have HK := hid hk
    clear hk
    gi_wp2_with (gi_at_builtin; refine wpListIn_append_slg _ rfl _ _ 33 rfl (s + 3) 38 i0 (.agg #[.int .i64 0, .int .u8 0, .slice none 0 0]) 3 40 Try.underlying33 hi hz0 hz1 hz2_ rfl (by decide) vv k (fs.flatMap fdC) rfl (by have := HO.out; rw [HK.out] at this; exact this) (some ⟨W2.heap.size, 0, none⟩) 1 1 [.int .i64 (fa : Int), .int .u8 (fty.toNat : Int), .slice Ap pl cp] rfl rfl HRD.out (fun h => by cases h) (by simp [Value.oneCell']) (by simp only [maxLen]; omega) (by omega) (by rw [World.size_alloc]; omega) ?_; intro v'' w4 hown' hgrow; obtain ⟨A', c', rfl⟩ := row_slice_g hown'; have HOW := hid hown'; have HGR := hid hgrow; have hvv : some s ≠ vv.ownBlock := (fun e => by have := (HO2.out.lt _ e.symm).1; omega); have hkw := (hgrow.block s (by rw [World.size_alloc]; omega) hvv).trans (HV.out.alloc _); have hc4 := Blk.cell hkw 0; have hf4 := Blk.frozen hkw 0; simp only [List.getElem?_toArray, List.getElem?_cons_zero] at hc4; have HKW := hid hkw; clear hown' hgrow hkw)
    have hcg : Chg (fun q => q = s ∨ some q = vv.ownBlock) W2 (w4.setCell ⟨s, 0, none⟩ (.slice A' (k + 1) c')) := (((Chg.refl _ W2).alloc _).trans (Chg.of_grown HGR.out (fun g e => .inr e.symm))).set_ (.inl (.inl rfl)) 0 (.slice A' (k + 1) c')
    have hvb : ∀ q, some q = vv.ownBlock → s + 3 ≤ q := fun q e => (HO2.out.lt q e.symm).1
    have hS : ∀ q, (q = s ∨ some q = vv.ownBlock) → q = s ∨ s + 3 ≤ q := fun q h => h.imp_right (hvb q)
    have hty : ∀ b cs kk, s + 3 ≤ b → W2.heap[b]? = some (.cells cs 5 kk) → ¬ (b = s ∨ some b = vv.ownBlock) := by
      rintro b cs kk hb hcs (h | h)
      · omega
      · rcases HO2.out.2 with ⟨rfl, -⟩ | ⟨g, cap, cur, rfl, -, hg1, -⟩
        · cases h
        · simp only [Value.ownBlock] at h
          injection h with h
          subst h
          rw [hcs] at hg1
          injection hg1 with hg1
          injection hg1 with _ hg1
          exact absurd hg1 (by decide)
    refine ⟨KBg.of_chg hcg hz2 (fun q g1 g2 h => by have := hS q h; omega), hcg.block G (by omega) (fun h => by have := hS G h; omega), ⟨.slice A' (k + 1) c', by have := Blk.set_ HKW.out 0 (.slice A' (k + 1) c'); exact this, fs ++ [⟨⟨fa, fty, fpl⟩, Ap, cp⟩], ?_, ?_, ?_⟩, ?_⟩
    · rw [HTK.out, List.map_append, HFS.out]; rfl
    · have h5 := own_chgS HOW.out ((Chg.refl (fun q => q = s) w4).set_ (.inl rfl) 0 (.slice A' (k + 1) c')) (fun g hg h => by have := (HOW.out.lt g hg).1; omega)
      rw [List.length_append, List.flatMap_append, List.flatMap_cons, List.flatMap_nil, List.append_nil, HK.out]
      have e : fdC ⟨⟨fa, fty, fpl⟩, Ap, cp⟩ = [.int .i64 (fa : Int), .int .u8 (fty.toNat : Int), .slice Ap pl cp] := by simp only [fdC, HPL.out]
      rw [e]
      exact h5
    · intro f hf
      rcases List.mem_append.1 hf with hf | hf
      · exact (HPAY.out f hf).chg hcg hty
      · obtain rfl := List.mem_singleton.1 hf
        exact HP2.out.chg hcg hty
    · exact ⟨hcg.os.trans HCH.out.os, hcg.tape.trans HCH.out.tape, hcg.output.trans HCH.out.output, Nat.le_trans HCH.out.size hcg.size, fun q hq hG2 => (hcg.block q (Nat.lt_of_lt_of_le hq HCH.out.size) (fun h => by have := hS q h; have := HSZ.out; omega)).trans (HCH.out.block q hq hG2)⟩
  · intro W1 a1 hf hd
    rw [List.take_of_length_le (Nat.le_refl _)] at a1
    obtain ⟨⟨vv, hv, hrow⟩, hch⟩ := a1
    have c0 := hv.cell 0
    simp only [List.getElem?_toArray, List.getElem?_cons_zero] at c0
    have HROW := hid hrow
    have HCH := hid hch
    have HF := hid hf
    have HD := hid hd
    clear hv hrow hch hf hd
    obtain ⟨Av, cv, hvv⟩ : ∃ Av cv, vv = .slice Av (Rs.wk fin bs 0).1.length cv := by
      obtain ⟨fs, h1, h2, -⟩ := HROW.out
      obtain ⟨Av, cv, rfl⟩ := row_slice_g h2
      exact ⟨Av, cv, by rw [← h1, List.length_map]⟩
    subst hvv
    gi_wp2
    have hM : Marks (s + 1) W1 [s + 1] := (Marks.nil_ _ _).cons_ (Nat.le_refl _) (by simp) HD.out
    refine leaves_marks (s + 1) [s + 1] _ hM fun W6 h6 => ?_
    refine ⟨.slice Av (Rs.wk fin bs 0).1.length cv, by simp [results, Try.results26, go_sem], ?_⟩
    refine ⟨⟨_, rfl, (HROW.out.chg h6 (fun b hb h => by simp at h; omega)).mono (by have := HSZ.out; omega), ?_⟩, h6.blk HF.out (by simp; omega)⟩
    exact ⟨h6.os.trans HCH.out.os, h6.tape.trans HCH.out.tape, h6.output.trans HCH.out.output, Nat.le_trans HCH.out.size h6.size, fun q hq hG2 => (h6.block q (Nat.lt_of_lt_of_le hq HCH.out.size) (fun h => by simp at h; have := HSZ.out; omega)).trans (HCH.out.block q hq hG2)⟩
theorem scollect_in (m : Nat) (hm : 7 ≤ m) (fin : Bool) (bs : List UInt8) (n : Nat) (A : Option Addr) (c G Gp : Nat) (w : World) (hn : bs.length = n) (hl : n ≤ 1000000) (hs : Sl w A c (bs.map bv)) (hfar : FarS A n (fun q => q = G))
    (hg : Blk w G 55 #[.slice A n c, .bool fin, .int .i64 0]) (hkp : Blk w Gp 70 #[.pointer (some ⟨G, 0, none⟩)]) (hne : Gp ≠ G) :
    CallsIn Fence.wide m Try.prog 19 #[.func (.func 27) #[] #[.pointer (some ⟨Gp, 0, none⟩)]] w fun e w' => (∃ v, e = .returned v ∧ FdRow w.heap.size w' v (Rs.wk fin bs 0).1 ∧ Chg (fun q => q = G) w w') ∧ Blk w' G 55 #[.slice A n c, .bool fin, .int .i64 ((Rs.wk fin bs 0).2 : Nat)] := by
  have h1 : 1 ≤ m := by omega
  have ha := sappend_in (m - 1) (by omega) fin bs n A c G Gp w hn hl hs hfar hg hkp hne
  have HA := hid ha
  clear ha hn hs hfar hg hkp hne
  refine callsIn_of_wp Try.func19 rfl trivial ?_ rfl
  simp only [Try.ntmps19, List.size_toArray, List.length_cons, List.length_nil, Nat.reduceAdd, Nat.reduceSub, Array.replicate_succ, Array.replicate_zero, List.push_toArray, List.append_toArray, List.nil_append, List.cons_append]
  gi_wp2_with (refine ⟨trivial, ?_⟩; gi_at_call 26; refine HA.out.mono ?_; rintro e w1 ⟨⟨v, rfl, hrow, hch⟩, hg1⟩)
  have HR := hid hrow
  have HC := hid hch
  have HG := hid hg1
  clear hrow hch hg1
  go_ret
  exact ⟨⟨v, rfl, HR.out, HC.out⟩, HG.out⟩
end Go.Proofs.Ytgiealcfhlcpoaa
