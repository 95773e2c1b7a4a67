/- The document's Fields. -/
import Derived.Test.YtfbmdeegcoocnaaRefOne
import Derived.Test.YtfbmdeegcoocnaaSkMath
import Derived.Test.YtfbmdeegcoocnaaM1
set_option linter.unusedVariables false
namespace Go.Proofs.Ytfbmdeegcoocnaa
open Go.RowKit
theorem FarS.or_new {A : Option Addr} {c n : Nat} {xs : List UInt8} {W : World} {S T : Nat → Prop} (h : FarS A n S) (hs : Sl W A c (xs.map bv)) (hn : xs.length = n) (hT : ∀ k, T k → S k ∨ W.heap.size ≤ k) : FarS A n T := by
  intro hp b off he hT'
  rcases hT b hT' with h1 | h1
  · exact h hp b off he h1
  · obtain ⟨b2, o2, e2, hlt, _⟩ := hs.rd 0 (bv (xs[0]'(by omega))) (by simp [List.getElem?_eq_getElem (show 0 < xs.length by omega)])
    rw [he] at e2
    injection e2 with e2
    injection e2 with e3 e4
    omega
set_option maxRecDepth 100000 in
set_option maxHeartbeats 4000000 in
theorem rflds_any (bs : List UInt8) (n : Nat) (A : Option Addr) (c : Nat) (w : World) (hn : bs.length = n) (hl : n ≤ 100000) (hs : Sl w A c (bs.map bv)) :
    Calls Try.prog 13 #[.slice A n c] w fun e W' => (((flds bs n 0).2.1 = 0 ∧ ∃ v pre, e = .returned (.tuple #[v, .agg #[.int .i64 0, .int .i64 0]]) ∧ W'.ownsRow w.heap.size 39 5 v pre.length (pre.flatMap fvC) ∧ fvAll pre (flds bs n 0).1 ∧ ∀ f ∈ pre, Sl W' f.s.A f.s.c (f.s.xs.map bv)) ∨
      ((flds bs n 0).2.1 ≠ 0 ∧ e = .returned (.tuple #[.slice none 0 0, .agg #[.int .i64 ((flds bs n 0).2.1 : Nat), .int .i64 ((flds bs n 0).2.2 : Nat)]]))) ∧ Below w.heap.size w W' := by
  obtain ⟨i5, hi5, hi50, hi51, hi52⟩ := info_parts Try.infoField
  have hcap := hs.cap
  have hsm := hs.small
  rw [List.length_map, hn] at hcap
  obtain ⟨R, hR⟩ : ∃ R : Ending → World → Prop, R = fun e W' => (((flds bs n 0).2.1 = 0 ∧ ∃ v pre, e = .returned (.tuple #[v, .agg #[.int .i64 0, .int .i64 0]]) ∧ W'.ownsRow w.heap.size 39 5 v pre.length (pre.flatMap fvC) ∧ fvAll pre (flds bs n 0).1 ∧ ∀ f ∈ pre, Sl W' f.s.A f.s.c (f.s.xs.map bv)) ∨
      ((flds bs n 0).2.1 ≠ 0 ∧ e = .returned (.tuple #[.slice none 0 0, .agg #[.int .i64 ((flds bs n 0).2.1 : Nat), .int .i64 ((flds bs n 0).2.2 : Nat)]]))) ∧ Below w.heap.size w W' := ⟨_, rfl⟩
  rw [← hR]
  have HR := hid hR
  have HS := hid hs
  have HN := hid hn
  clear hs hn hR
  go_enter Try.func13, Try.ntmps13
  go_wp2_with fail
  obtain ⟨s, hsz⟩ : ∃ s, w.heap.size = s := ⟨_, rfl⟩
  obtain ⟨Wa, hWa⟩ : ∃ Wa, (w.alloc (.cells #[.int .i64 0, .int .i64 0] 27)).alloc (.cells #[.slice A n c, .int .i64 0] 36) = Wa := ⟨_, rfl⟩
  have hba : Below s w Wa := by rw [← hWa, ← hsz]; exact bw_a (bw_a (Below.refl _ w) _) _
  have hk0 : Blk Wa s 27 #[.int .i64 0, .int .i64 0] := by rw [← hWa, ← hsz]; exact (Blk.new w _ _).alloc _
  have hk1 : Blk Wa (s + 1) 36 #[.slice A n c, .int .i64 0] := by
    have h := Blk.new (w.alloc (.cells #[.int .i64 0, .int .i64 0] 27)) 36 #[.slice A n c, .int .i64 0]
    rwa [World.size_alloc, hsz, hWa] at h
  have hr0 : Rin 36 Wa (s + 1) A c bs 0 := by
    refine ⟨by rw [HN.out]; exact hk1, HS.out.below (by rw [hsz]; exact hba), Nat.zero_le _, far_new HS.out (by omega)⟩
  rw [hWa, hsz]
  generalize hq : s + 1 = q at *
  go_loopw [5] (fun v wr => ∃ (p fu : Nat) (pre : List FV), p ≤ n ∧ pre.length ≤ p ∧ n - p ≤ fu ∧ Rin 36 wr q A c bs p ∧ wr.ownsRow s 39 5 v pre.length (pre.flatMap fvC) ∧ (∀ f ∈ pre, Sl wr f.s.A f.s.c (f.s.xs.map bv) ∧ FarS f.s.A f.s.xs.length (fun k => k = s ∨ k = q ∨ v.ownBlock = some k)) ∧
      Blk wr s 27 #[.int .i64 0, .int .i64 0] ∧ Below s w wr ∧ ∃ rs, fvAll pre rs ∧ flds bs n 0 = (rs ++ (flds bs fu p).1, (flds bs fu p).2.1, (flds bs fu p).2.2)) (fun _ wr => n - (intOf ((wr.cell? ⟨q, 1, none⟩).getD undef)).toNat)
  case atStart => exact ⟨0, n, [], by omega, by simp, by omega, hr0, World.ownsRow_nil _ _ _ _, fun f hf => by simp at hf, hk0, hba, [], trivial, by simp⟩
  case round =>
    obtain ⟨p, fu, pre, hp, hpl, hf, hr, ho, hsl, hk, hB, rs, hrs, hfl⟩ := hrel
    have hqw := hr.blk.lt
    have hkq := hr.blk
    have hc1 : wr.cell? ⟨q, 1, none⟩ = some (.int .i64 (p : Int)) := by simpa using hr.blk.cell 1
    obtain ⟨vA, vc, rfl⟩ : ∃ vA vc, u5 = .slice vA pre.length vc := by
      rcases ho.2 with ⟨rfl, h⟩ | ⟨g, cap, cur, rfl, _⟩
      · exact ⟨none, 0, by rw [h]⟩
      · exact ⟨_, _, rfl⟩
    by_cases hlt : p < n
    · have hone := rone_any wr q A c bs p (by rw [HN.out]; exact hl) hr
      have hof := rOne_facts bs p (by rw [HN.out]; exact hp)
      have hst := fun he => flds_step bs fu p (by rw [HN.out]; exact hlt) (by rw [HN.out]; exact hf) he
      have hbd := fun he => flds_bad bs fu p (by rw [HN.out]; exact hlt) (by rw [HN.out]; exact hf) he
      generalize rOne bs p = r at *
      obtain ⟨rnum, rw', rn, rxs, re, rp, rnx⟩ := r
      simp only at hone hof hst hbd
      generalize hxl : rxs.length = xl at *
      have HONE := hid hone
      have HOF := hid hof
      have HST := hid hst
      have HBD := hid hbd
      have HO := hid ho
      have HSL := hid hsl
      have HK := hid hk
      have HB := hid hB
      have HRS := hid hrs
      have HFL := hid hfl
      have HXL := hid hxl
      have HNQ := hid (own_blk_ne ho hkq (by decide))
      have HNS := hid (own_blk_ne ho hk (by decide))
      have HC1 := hid hc1
      clear hone hof hst hbd hr ho hsl hk hB hrs hfl hxl hk0 hk1 hr0 hba hWa
      by_cases he : re = 0
      · subst he
        go_wp2_with fail
        refine HONE.out.mono ?_
        rintro e w1 ⟨(⟨-, A3, c3, rfl, hs3, hf3⟩ | ⟨h, -⟩), hr1, ho1⟩
        rotate_left
        · exact absurd rfl h
        have hch1 : Chg (fun k => k = q) wr w1 := Chg.of_only ho1 rfl
        have hown1 := own_chgS HO.out hch1 (fun g hg hk => own_blk_ne HO.out hkq (by decide) (hk ▸ hg))
        have hl1 := hr1.blk.lt
        have hsq : s < q := by omega
        have hk1 := hch1.blk HK.out (by omega)
        have hsl1 : ∀ f ∈ pre, Sl w1 f.s.A f.s.c (f.s.xs.map bv) := fun f hf => hch1.sl (HSL.out f hf).1 (n := f.s.xs.length) ((HSL.out f hf).2.imp fun k hk => .inr (.inl hk)) (by simp)
        have hfarN : FarS A3 xl (fun k => k = s ∨ k = q ∨ (Value.slice vA pre.length vc).ownBlock = some k) := fun hp b off he hk => by
          rcases hk with hk | hk | hk
          · exact hf3 s HK.out.lt hp b off he hk
          · exact hf3 q hqw hp b off he hk
          · exact hf3 b (HO.out.lt b hk).2 hp b off he rfl
        obtain ⟨z, hz⟩ : ∃ z, w1.heap.size = z := ⟨_, rfl⟩
        have hzs : q < z := by omega
        have hrd : Rd (((w1.alloc (.cells #[.int .i64 rnum, .int .u8 rw', .int .u64 (rn : Int), .slice A3 xl c3, .int .i64 (p : Int)] 39)).alloc (.cells #[.int .i64 0, .int .i64 0] 27)).alloc (.cells #[.int .i64 rnum, .int .u8 rw', .int .u64 (rn : Int), .slice A3 xl c3, .int .i64 (p : Int)] 39)) (some ⟨z + 1 + 1, 0, none⟩) [.int .i64 rnum, .int .u8 rw', .int .u64 (rn : Int), .slice A3 xl c3, .int .i64 (p : Int)] := by
          have h := Rd.new ((w1.alloc (.cells #[.int .i64 rnum, .int .u8 rw', .int .u64 (rn : Int), .slice A3 xl c3, .int .i64 (p : Int)] 39)).alloc (.cells #[.int .i64 0, .int .i64 0] 27)) 39 #[.int .i64 rnum, .int .u8 rw', .int .u64 (rn : Int), .slice A3 xl c3, .int .i64 (p : Int)]
          rwa [World.size_alloc, World.size_alloc, hz] at h
        have hbz := HB.out.trans (hch1.below (B := s) (fun k hk => by omega) (by omega))
        have HOWN := hid (((hown1.alloc (.cells #[.int .i64 rnum, .int .u8 rw', .int .u64 (rn : Int), .slice A3 xl c3, .int .i64 (p : Int)] 39)).alloc (.cells #[.int .i64 0, .int .i64 0] 27)).alloc (.cells #[.int .i64 rnum, .int .u8 rw', .int .u64 (rn : Int), .slice A3 xl c3, .int .i64 (p : Int)] 39))
        have HRD := hid hrd
        have HBZ := hid hbz
        have HR1 := hid hr1
        have HK1 := hid hk1
        have HSL1 := hid hsl1
        have HFN := hid hfarN
        have HS3 := hid hs3
        have hpre : pre.length ≤ 100000 := by omega
        clear hrd hbz hr1 hk1 hsl1 hfarN hs3 hf3 hown1 hch1 ho1 hkq hc1
        go_wp2_with (at_builtin; refine wpList_append_new rfl _ _ 24 rfl s 39 i5 (.agg #[.int .i64 0, .int .u8 0, .int .u64 0, .slice none 0 0, .int .i64 0]) 5 56 Try.underlying24 hi5 hi50 hi51 hi52 rfl (by decide) _ _ _ rfl HOWN.out ⟨z + 1 + 1, 0, none⟩ 1 1 [.int .i64 rnum, .int .u8 rw', .int .u64 (rn : Int), .slice A3 xl c3, .int .i64 (p : Int)] rfl rfl HRD.out (by simp [Value.oneCell']) (by simp only [maxLen]; omega) (by omega) (by simp; omega) ?_; intro v4 w4 ho4 hg4 hnew4; have HO4 := hid ho4; have HG4 := hid hg4; have HN4 := hid hnew4; clear ho4 hg4 hnew4)
        have hch4 : Chg (fun k => (Value.slice vA pre.length vc).ownBlock = some k) w1 w4 := ((((Chg.refl _ w1).alloc _).alloc _).alloc _).trans (Chg.of_grown HG4.out fun g e => e)
        have hr4 := HR1.out.chgS hch4 HNQ.out (fun hp b off he hk => far_new HS.out (by rw [hsz]; exact (HO.out.lt b hk).1) hp b off he rfl)
        have hc4 : w4.cell? ⟨q, 1, none⟩ = some (.int .i64 (rnx : Int)) := by simpa using hr4.blk.cell 1
        have hnv : ∀ k, v4.ownBlock = some k → (Value.slice vA pre.length vc).ownBlock = some k ∨ w1.heap.size ≤ k := fun k hk => by
          rcases HN4.out with h | h
          · exact .inl (h ▸ hk)
          · right; have := h k hk; simp at this; omega
        obtain ⟨gg, hgg, hst⟩ := HST.out trivial
        obtain ⟨o1, o2, -⟩ := HOF.out.1 trivial
        rw [HN.out] at o2 hgg
        refine ⟨⟨rnx, gg, pre ++ [⟨rnum, rw', rn, ⟨A3, c3, rxs⟩, (p : Int)⟩], o2, by rw [List.length_append, List.length_singleton]; omega, hgg, hr4, ?_, ?_, hch4.blk HK1.out HNS.out, HBZ.out.trans (hch4.below (fun k hk => (HO.out.lt k hk).1) (by omega)), rs ++ [(⟨rnum, rw', rn, rxs, 0, rp, rnx⟩, p)], fvAll_snoc HRS.out ⟨rfl, rfl, rfl, rfl, rfl⟩, by rw [HFL.out, hst]; simp⟩, ?_⟩
        · rw [List.length_append, List.flatMap_append]
          simpa [fvC, HXL.out] using HO4.out
        · intro f hf
          rcases List.mem_append.1 hf with hf | hf
          · exact ⟨hch4.sl (HSL1.out f hf) (n := f.s.xs.length) ((HSL.out f hf).2.imp fun k hk => .inr (.inr hk)) (by simp), (HSL.out f hf).2.or_new (HSL1.out f hf) rfl fun k hk => by
              rcases hk with hk | hk | hk
              · exact .inl (.inl hk)
              · exact .inl (.inr (.inl hk))
              · exact (hnv k hk).imp (fun h => .inr (.inr h)) id⟩
          · obtain rfl := List.mem_singleton.1 hf
            refine ⟨hch4.sl HS3.out (n := xl) (HFN.out.imp fun k hk => .inr (.inr hk)) (by simp [HXL.out]), ?_⟩
            rw [show (SlV.xs _).length = xl from HXL.out]
            exact HFN.out.or_new HS3.out HXL.out fun k hk => by
              rcases hk with hk | hk | hk
              · exact .inl (.inl hk)
              · exact .inl (.inr (.inl hk))
              · exact (hnv k hk).imp (fun h => .inr (.inr h)) id
        · rw [HC1.out, hc4]
          simp [intOf]
          omega
      · have heb : (((re : Nat) : Int) != 0) = true := by simpa using he
        go_wp2_with fail
        refine HONE.out.mono ?_
        rintro e w1 ⟨(⟨h, -⟩ | ⟨-, rfl⟩), hr1, ho1⟩
        · exact absurd h he
        have hch1 : Chg (fun k => k = q) wr w1 := Chg.of_only ho1 rfl
        have hl1 := hr1.blk.lt
        have hsq : s < q := by omega
        have hk1 := hch1.blk HK.out (by omega)
        have hbz := HB.out.trans (hch1.below (B := s) (fun k hk => by omega) (by omega))
        have d0 := hk1.cell 0
        have d1 := hk1.cell 1
        have d2 := hk1.frozen 0
        have d3 := hk1.frozen 1
        simp only [List.getElem?_toArray, List.getElem?_cons_zero, List.getElem?_cons_succ] at d0 d1
        have HK1 := hid hk1
        have HBZ := hid hbz
        clear hch1 hk1 hbz hr1 ho1 hkq d0 d1 d2 d3 hc1
        go_wp2_with fail
        obtain ⟨W3, hW3⟩ : ∃ W3, (w1.alloc (.cells #[.int .i64 0, .int .u8 0, .int .u64 0, .slice none 0 0, .int .i64 0] 39)).alloc (.cells #[.int .i64 (re : Int), .int .i64 (rp : Int)] 27) = W3 := ⟨_, rfl⟩
        have hb3 : Below w1.heap.size w1 W3 := by rw [← hW3]; exact bw_a (bw_a (Below.refl _ w1) _) _
        have hk7 : Blk W3 (w1.heap.size + 1) 27 #[.int .i64 (re : Int), .int .i64 (rp : Int)] := by
          rw [← hW3]
          have h := Blk.new (w1.alloc (.cells #[.int .i64 0, .int .u8 0, .int .u64 0, .slice none 0 0, .int .i64 0] 39)) 27 #[.int .i64 (re : Int), .int .i64 (rp : Int)]
          rwa [World.size_alloc] at h
        have hk3 := HK1.out.below hb3 HK1.out.lt
        have d0 : W3.cell? ⟨s, 0, none⟩ = some (.int .i64 0) := hk3.cell 0
        have d1 : W3.cell? ⟨s, 1, none⟩ = some (.int .i64 0) := hk3.cell 1
        have d2 := hk3.frozen 0
        have d3 := hk3.frozen 1
        have e0 : W3.cell? ⟨w1.heap.size + 1, 0, none⟩ = some (.int .i64 (re : Int)) := hk7.cell 0
        have e1 : W3.cell? ⟨w1.heap.size + 1, 1, none⟩ = some (.int .i64 (rp : Int)) := hk7.cell 1
        have hl3 := hk3.lt
        have hl7 := hk7.lt
        have hne : w1.heap.size + 1 ≠ s := by omega
        have HB3 := hid (HBZ.out.trans (hb3.mono (show s ≤ w1.heap.size by omega)))
        rw [hW3]
        clear hW3 hb3 hk7 hk3
        go_region
        all_goals go_wp2_with fail
        all_goals
          refine bodyPost_ret (v := .tuple #[.slice none 0 0, .agg #[.int .i64 (re : Int), .int .i64 (rp : Int)]]) (by simp [results, Try.results13, go_sem, d0, d1]) rfl ?_
          rw [HR.out, HFL.out, HBD.out he]
          refine ⟨.inr ⟨he, rfl⟩, ?_⟩
          rw [hsz]
          exact below_drewN ((HB3.out.setCell (p := ⟨s, 0, none⟩) (Nat.le_refl _) _).setCell (p := ⟨s, 1, none⟩) (Nat.le_refl _) _) 1
    · obtain rfl : p = n := by omega
      have hE0 := flds_end bs fu p (by rw [HN.out]; omega)
      rw [hE0] at hfl
      simp only [List.append_nil] at hfl
      have d0 := hk.cell 0
      have d1 := hk.cell 1
      have d2 := hk.frozen 0
      have d3 := hk.frozen 1
      simp only [List.getElem?_toArray, List.getElem?_cons_zero, List.getElem?_cons_succ] at d0 d1
      have HO := hid ho
      have HSL := hid hsl
      have HK := hid hk
      have HB := hid hB
      have HRS := hid hrs
      have HFL := hid hfl
      clear ho hsl hk hB hrs hfl hkq hr
      go_wp2_with fail
      have hf : Blk ((wr.setCell ⟨s, 0, none⟩ (.int .i64 0)).setCell ⟨s, 1, none⟩ (.int .i64 0)) s 27 #[.int .i64 0, .int .i64 0] := by simpa using (HK.out.set_ 0 (.int .i64 0)).set_ 1 (.int .i64 0)
      have hc : Chg (fun k => k = s) wr ((wr.setCell ⟨s, 0, none⟩ (.int .i64 0)).setCell ⟨s, 1, none⟩ (.int .i64 0)) := ((Chg.refl (fun k => k = s) wr).set_ (.inl rfl) 0 (.int .i64 0)).set_ (.inl rfl) 1 (.int .i64 0)
      have hnS := own_blk_ne HO.out HK.out (by decide)
      have f0 := hf.cell 0
      have f1 := hf.cell 1
      simp only [List.getElem?_toArray, List.getElem?_cons_zero, List.getElem?_cons_succ] at f0 f1
      generalize World.setCell (World.setCell _ _ _) _ _ = W9 at *
      refine bodyPost_ret (v := .tuple #[.slice vA pre.length vc, .agg #[.int .i64 0, .int .i64 0]]) (by simp [results, Try.results13, go_sem, f0, f1]) rfl ?_
      rw [HR.out, HFL.out]
      refine ⟨.inl ⟨rfl, _, pre, rfl, ?_, HRS.out, fun f hf => hc.sl (HSL.out f hf).1 (n := f.s.xs.length) ?_ (by simp)⟩, ?_⟩
      · rw [hsz]
        exact own_chgS HO.out hc fun g hg hk => hnS (by rw [← hk]; exact hg)
      · exact (HSL.out f hf).2.imp fun k hk => .inl hk
      · rw [hsz]
        exact HB.out.trans (hc.below (fun k hk => by omega) (by have := HK.out.lt; omega))
end Go.Proofs.Ytfbmdeegcoocnaa
