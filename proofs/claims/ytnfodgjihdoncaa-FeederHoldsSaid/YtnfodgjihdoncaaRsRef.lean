/- The document's Walk and Whole. -/
import Derived.Test.YtnfodgjihdoncaaRsRow
import Derived.Test.YtnfodgjihdoncaaRsM4
set_option linter.unusedVariables false
namespace Go.Proofs.Ytnfodgjihdoncaa
open Go.RowKit
theorem FdRow.grow {B k : Nat} {w1 w2 : World} {v v' : Value} {fs : List FdV} {f : FdV} (hk : fs.length = k) (ho : w1.ownsRow B 80 3 v k (fs.flatMap fdC)) (hp : ∀ g ∈ fs, Pay B w1 g.A g.c g.f.pl) (hf : Pay B w1 f.A f.c f.f.pl)
    (ho2 : w2.ownsRow B 80 3 v' (k + 1) (fs.flatMap fdC ++ fdC f)) (hg : w1.grownBy w2 v.ownBlock) : FdRow B w2 v' (fs.map FdV.f ++ [f.f]) := by
  subst hk
  have hcg : Chg (fun q => some q = v.ownBlock) w1 w2 := Chg.of_grown hg (fun g e => e.symm)
  have hty : ∀ b cs kk, B ≤ b → w1.heap[b]? = some (.cells cs 5 kk) → ¬ (some b = v.ownBlock) := by
    rintro b cs kk hb hcs h
    rcases ho.2 with ⟨rfl, -⟩ | ⟨g, cap, cur, rfl, -, hg1, -⟩
    · cases h
    · simp only [Value.ownBlock] at h
      injection h with h
      subst h
      rw [hcs] at hg1
      injection hg1 with hg1
      injection hg1 with _ hg1
      exact absurd hg1 (by decide)
  refine ⟨fs ++ [f], by rw [List.map_append]; rfl, ?_, ?_⟩
  · rw [List.length_append, List.flatMap_append, List.flatMap_cons, List.flatMap_nil, List.append_nil]
    exact ho2
  · intro g hg
    rcases List.mem_append.1 hg with hg | hg
    · exact (hp g hg).chg hcg hty
    · obtain rfl := List.mem_singleton.1 hg
      exact hf.chg hcg hty
/-- What walking comes to. -/
def WkR (w : World) (fin : Bool) (bs : List UInt8) (e : Ending) (w' : World) : Prop :=
  ∃ A c ps, e = .returned (.tuple #[.slice A (Rs.wk fin bs 0).1.length c, .int .i64 (ps : Nat), .int .i64 ((Rs.wk fin bs 0).2 : Nat)]) ∧ ps + Rs.tot (Rs.wk fin bs 0).1 = (Rs.wk fin bs 0).2 ∧ FdRow w.heap.size w' (.slice A (Rs.wk fin bs 0).1.length c) (Rs.wk fin bs 0).1 ∧ Below w.heap.size w w'
set_option maxRecDepth 100000 in
set_option maxHeartbeats 4000000 in
theorem rwalk_any (fin : Bool) (bs : List UInt8) (n : Nat) (A : Option Addr) (c : Nat) (w : World) (hn : bs.length = n) (hl : n ≤ 1000000) (hs : Sl w A c (bs.map bv)) :
    Calls Try.prog 56 #[.slice A n c, .bool fin] w (WkR w fin bs) := by
  obtain ⟨i0, hi, hz0, hz1, hz2⟩ := info_parts Try.info80
  have hcap := hs.cap
  have hsm := hs.small
  rw [List.length_map, hn] at hcap
  have HN := hid hn
  have HS := hid hs
  have hR : ∀ (l : List Fnd) (E : Nat) (A' : Option Addr) (c' ps : Nat) w', Rs.wk fin bs 0 = (l, E) → ps + Rs.tot l = E → FdRow w.heap.size w' (.slice A' l.length c') l → Below w.heap.size w w' → WkR w fin bs (.returned (.tuple #[.slice A' l.length c', .int .i64 (ps : Nat), .int .i64 (E : Nat)])) w' := by
    intro l E A' c' ps w' h1 h2 h3 h4
    unfold WkR
    rw [h1]
    exact ⟨A', c', ps, rfl, h2, h3, h4⟩
  generalize WkR w fin bs = R at *
  have HR := hid hR
  clear hn hs hR
  go_enter Try.func56, Try.ntmps56
  go_wp2_with fail
  go_loopw [7, 8, 9, 10, 11, 12] (fun v i p _ _ _ wr => ∃ (q ps : Nat) (l : List Fnd) (Ao : Option Addr) (co : Nat), q ≤ n ∧ i = .int .i64 (q : Int) ∧ p = .int .i64 (ps : Int) ∧ v = .slice Ao l.length co ∧ FdRow w.heap.size wr (.slice Ao l.length co) l ∧ Below w.heap.size w wr ∧ Rs.wk fin bs 0 = (l ++ (Rs.wk fin bs q).1, (Rs.wk fin bs q).2) ∧ ps + Rs.tot l = q ∧ l.length ≤ q) (fun _ i _ _ _ _ _ => n - (intOf i).toNat)
  case atStart => exact ⟨0, 0, [], none, 0, by omega, rfl, rfl, rfl, ⟨[], rfl, World.ownsRow_nil _ _ _ _, by simp⟩, Below.refl _ _, by simp, rfl, Nat.le_refl _⟩
  case round =>
    obtain ⟨q, ps, l, Ao, co, hq, rfl, rfl, rfl, hrow, hB, hwk, hps, hlq⟩ := hrel
    have hpq : ps ≤ q := by omega
    by_cases hlt : q < n
    · have hsl := HS.out.below hB
      obtain ⟨b, off, rfl, hbl, -⟩ := BRd.at_ hsl.rd (k := q) (by rw [HN.out]; exact hlt)
      have hcut := hsl.cut q (by rw [HN.out]; omega)
      have hcA : cutA (some ⟨b, off, none⟩) c q = some ⟨b, off + q, none⟩ := by unfold cutA; rw [if_neg (by omega)]; simp [addr_add]
      rw [hcA] at hcut
      have hrd := rfread_any (bs.drop q) (n - q) (some ⟨b, off + q, none⟩) (c - q) wr (by rw [List.length_drop, HN.out]) (by omega) hcut
      have hkn : (q : Int) < (n : Int) := by omega
      have hk0 : (0 : Int) ≤ (q : Int) := by omega
      have hkc : (q : Int) ≤ (c : Int) := by omega
      have hck : ¬ c = q := by omega
      have hsz := hB.size
      have hqb : q < bs.length := by rw [HN.out]; exact hlt
      have HB := hid hB
      by_cases h0 : Fr.rE (bs.drop q) = 0
      · have hr := hrd.mono (fun e w' h => RdR.ok h h0)
        have hw1 := Rs.wk_ok (fin := fin) hqb h0
        obtain ⟨hok, hpll, hple⟩ := Rs.ok_mk hqb h0
        rw [HN.out] at hple
        generalize Fr.pl (bs.drop q) = pl at *
        generalize Fr.ln (bs.drop q) = L at *
        generalize Fr.ty (bs.drop q) = ty at *
        obtain ⟨fs, hfs, ho, hpay⟩ := hrow
        have hfl : fs.length = l.length := by rw [← hfs, List.length_map]
        rw [← hfl] at ho
        have HR1 := hid hr
        have HW1 := hid hw1
        have HWK := hid hwk
        have HO := hid ho
        have HPAY := hid hpay
        have HFS := hid hfs
        have HPL := hid hpll
        have HFL := hid hfl
        have HPS := hid hps
        rw [← hfl] at hlq ⊢
        obtain ⟨k, hk⟩ : ∃ k, fs.length = k := ⟨_, rfl⟩
        rw [hk] at hlq ⊢
        have HK := hid hk
        clear hr hrd h0 hw1 hwk ho hpay hfs hpll hfl hk hok hsl hcut hB hps hqb
        go_wp2_with fail
        refine HR1.out.mono ?_
        rintro e w1 ⟨A1, c1, rfl, hp1, hb⟩
        have hb0 := bw_a (bw_a hb (.cells #[.int .u8 (ty.toNat : Int), .slice A1 L c1] 70)) (.cells #[.int .i64 (q : Int), .int .u8 (ty.toNat : Int), .slice A1 L c1] 80)
        have hO1 := own_below HO.out hb0
        have HB1 := hid (bw_t HB.out hb0)
        have hrd1 := (Rd.new (w1.alloc (.cells #[.int .u8 (ty.toNat : Int), .slice A1 L c1] 70)) 80 #[.int .i64 (q : Int), .int .u8 (ty.toNat : Int), .slice A1 L c1])
        rw [World.size_alloc] at hrd1
        have hpa : ∀ g ∈ fs, Pay w.heap.size ((w1.alloc (.cells #[.int .u8 (ty.toNat : Int), .slice A1 L c1] 70)).alloc (.cells #[.int .i64 (q : Int), .int .u8 (ty.toNat : Int), .slice A1 L c1] 80)) g.A g.c g.f.pl := fun g hg => (HPAY.out g hg).below hb0
        have hp2 := ((hp1.below (bw_a (bw_a (Below.refl _ w1) (.cells #[.int .u8 (ty.toNat : Int), .slice A1 L c1] 70)) (.cells #[.int .i64 (q : Int), .int .u8 (ty.toNat : Int), .slice A1 L c1] 80))).mono hsz)
        have HRD := hid hrd1
        rw [HK.out] at hO1
        have HO1 := hid hO1
        have HPA := hid hpa
        have HP2 := hid hp2
        clear hO1 hb hb0 hrd1 hpa hp2 hp1
        generalize hty : ty.toNat = t8 at *
        have HTY := hid hty
        clear hty
        go_wp2_with (at_builtin; refine wpList_append_rd rfl (.tmp 27) (.tmp 31) 46 rfl w.heap.size 80 i0 (.agg #[.int .i64 0, .int .u8 0, .slice none 0 0]) 3 40 Try.underlying46 hi hz0 hz1 hz2 rfl (by decide) _ k _ rfl HO1.out (some ⟨w1.heap.size + 1, 0, none⟩) 1 1 [.int .i64 (q : Int), .int .u8 (t8 : Int), .slice A1 L c1] rfl rfl HRD.out (fun h => by cases h) (by simp [Value.oneCell']) (by simp only [maxLen]; omega) (by omega) HB1.out.size ?_; intro v2 w2 hown2 hgrow2; obtain ⟨A2, c2, rfl⟩ := row_slice_g hown2; have HO2 := hid hown2; have HG2 := hid hgrow2; (have HB2 := hid (bw_g HB1.out hgrow2 (fun k ek => (HO1.out.lt k ek).1))); clear hown2 hgrow2)
        go_roundw
        case rel =>
          have hll : (l ++ ([⟨q, ty, pl⟩] : List Fnd)).length = k + 1 := by rw [List.length_append, ← HFL.out, HK.out]; rfl
          refine ⟨q + (L + 9), ps, l ++ ([⟨q, ty, pl⟩] : List Fnd), A2, c2, by omega, by go_num, rfl, by rw [hll], ?_, HB2.out, ?_, ?_, by rw [hll]; omega⟩
          · have hx := FdRow.grow (f := ⟨⟨q, ty, pl⟩, A1, c1⟩) HK.out HO1.out HPA.out HP2.out (v' := .slice A2 (k + 1) c2) (by have := HO2.out; simp only [fdC, HPL.out, HTY.out]; exact this) HG2.out
            rw [HFS.out] at hx
            rw [hll]; exact hx
          · rw [HWK.out, HW1.out]; simp
          · rw [Rs.tot_snoc]; unfold Fnd.size; simp only; rw [HPL.out]; have := HPS.out; omega
        case measure => simp [intOf]; omega
      · have hr := hrd.mono (fun e w' h => RdR.no h h0)
        have hE : ((Fr.rE (bs.drop q) : Int) == 0) = false := by simp; exact h0
        by_cases h4 : Fr.rE (bs.drop q) = 4 ∧ fin = false
        · obtain ⟨h4, rfl⟩ := h4
          have hw1 := Rs.wk_short hqb h4
          rw [hw1, List.append_nil] at hwk
          rw [h4] at hr hE
          have HR1 := hid hr
          have HWK := hid hwk
          have HROW := hid hrow
          have HPS := hid hps
          clear hr hrd h0 hw1 hwk hsl hcut hB hrow hps hqb h4
          obtain ⟨k, hk⟩ : ∃ k, l.length = k := ⟨_, rfl⟩
          rw [hk]
          have HK := hid hk
          clear hk
          go_wp2_with fail
          refine HR1.out.mono ?_
          rintro e w1 ⟨rfl, hb⟩
          go_wp2_with fail
          go_ret3
          rw [← HK.out]
          exact HR.out _ _ _ _ _ _ HWK.out HPS.out (HROW.out.below (bw_a hb _)) (bw_t HB.out (bw_a hb _))
        · have hw1 := Rs.wk_no hqb h0 h4
          have hd : ((Fr.rE (bs.drop q) : Int) == 4 && !fin) = false := by
            cases fin
            · simp only [Bool.not_false, Bool.and_true, beq_eq_false_iff_ne]; intro h; exact h4 ⟨by omega, rfl⟩
            · simp
          generalize Fr.rE (bs.drop q) = E at *
          have HR1 := hid hr
          have HWK := hid hwk
          have HROW := hid hrow
          have HW1 := hid hw1
          have HPS := hid hps
          clear hr hrd h0 hw1 hwk hsl hcut hB hrow hps hqb h4
          obtain ⟨k, hk⟩ : ∃ k, l.length = k := ⟨_, rfl⟩
          rw [hk] at hlq ⊢
          have HK := hid hk
          clear hk
          obtain ⟨e4, he4⟩ : ∃ e4 : Bool, ((E : Int) == 4) = e4 := ⟨_, rfl⟩
          rw [he4] at hd
          cases e4 <;> cases fin <;> first | (exfalso; revert hd; decide) | skip
          all_goals clear hd
          all_goals go_wp2_with fail
          all_goals refine HR1.out.mono ?_
          all_goals rintro e w1 ⟨rfl, hb⟩
          all_goals have HB1 := hid (bw_a hb (.cells #[.int .u8 0, .slice none 0 0] 70))
          all_goals clear hb
          all_goals go_wp2_with fail
          all_goals go_roundw
          all_goals try (simp [intOf]; omega)
          all_goals refine ⟨q + 1, ps + 1, l, Ao, co, by omega, by go_num, by go_num, by rw [HK.out], ?_, bw_t HB.out HB1.out, by rw [HWK.out, HW1.out], by have := HPS.out; omega, by rw [HK.out]; omega⟩
          all_goals exact HROW.out.below HB1.out
    · obtain rfl : q = n := by omega
      rw [Rs.wk_end fin bs q (by rw [HN.out]; exact Nat.le_refl _), List.append_nil] at hwk
      have HWK := hid hwk
      have HROW := hid hrow
      have HB := hid hB
      have HPS := hid hps
      clear hwk hrow hB hps
      obtain ⟨k, hk⟩ : ∃ k, l.length = k := ⟨_, rfl⟩
      rw [hk]
      have HK := hid hk
      clear hk
      go_wp2_with fail
      go_ret3
      rw [← HK.out]
      exact HR.out _ _ _ _ _ _ HWK.out HPS.out HROW.out HB.out
end Go.Proofs.Ytnfodgjihdoncaa
