/- The document's Sort of findings: a walk. -/
import Derived.Test.YtdbbapedimnjhaaDoorDgR
import Derived.Deep.RegionHeld3
set_option linter.unusedVariables false
namespace Go.Proofs.YtdbbapedimnjhaaDoor
open Go.RowKit
theorem row_sl24 {w : World} {B e sz n : Nat} {v : Value} {xs : List Value} (h : w.ownsRow B e sz v n xs) : ∃ A c, v = .slice A n c := by
  rcases h.2 with ⟨h1, h2⟩ | ⟨g, cap, cur, h1, -⟩
  · exact ⟨none, 0, by rw [h1, h2]⟩
  · exact ⟨_, _, h1⟩
theorem dw24 {a b : World} (h : Below a.drew.heap.size a.drew b) : Below a.heap.size a b := ⟨h.os, h.tape, h.output, h.size, h.block⟩
/-- The rows that are put in between: so many of one's, from a place on. -/
theorem ins_parts (L : List Dg.D) (x : Dg.D) (h : ¬ L[Dg.pos x L]? = some x) : Dg.ins L x = L.take (Dg.pos x L) ++ [x] ++ L.drop (Dg.pos x L) := by
  unfold Dg.ins; rw [if_neg h]; simp
set_option maxRecDepth 100000 in
set_option maxHeartbeats 16000000 in
theorem rsort_any (X : List Dg.D) (n : Nat) (A : Option Addr) (c : Nat) (w : World) (hn : X.length = n) (hl : n ≤ 100000) (hs : SlN w A n c 3 (X.flatMap dC)) :
    Calls Tryd.prog 10 #[.slice A n c] w fun e w' => ∃ v, e = .returned v ∧ w'.ownsRow w.heap.size 25 3 v (Dg.srt X).length ((Dg.srt X).flatMap dC) ∧ Below w.heap.size w w' := by
  obtain ⟨i0, hi0, hz0, hz1, hz2⟩ := info_parts Tryd.infoDg
  obtain ⟨s, hws⟩ : ∃ s, w.heap.size = s := ⟨_, rfl⟩
  have hb0 := Below.refl w.heap.size w
  rw [hws] at hb0
  rw [hws]
  have HN := hid hn
  have HS := hid hs
  have HWS := hid hws
  have HB0 := hid hb0
  clear hn hs hb0
  go_enter Tryd.func10, Tryd.ntmps10
  go_wp2_with fail
  go_loopw [3, 4] (fun ov i wr => ∃ (k : Nat), k ≤ n ∧ i = .int .i64 (k : Int) ∧ wr.ownsRow s 25 3 ov (Dg.srt (X.take k)).length ((Dg.srt (X.take k)).flatMap dC) ∧ Below s w wr) (fun _ i _ => n - (intOf i).toNat)
  case atStart => exact ⟨0, by omega, rfl, World.ownsRow_nil _ _ _ _, HB0.out⟩
  case round =>
    obtain ⟨k, hk, rfl, how, hbe⟩ := hrel
    have hsz : s ≤ wr.heap.size := by have := hbe.size; have := HWS.out; omega
    obtain ⟨wo, rfl⟩ : ∃ x, x = wr := ⟨_, rfl⟩
    have HO := hid how
    have HBE := hid hbe
    clear how hbe
    by_cases hlt : k < n
    · have hkl : k < X.length := by have := HN.out; omega
      have hrow := dRow_at (HS.out.below (w' := wo) (by rw [HWS.out]; exact HBE.out)) k hkl
      have htk : Dg.srt (X.take (k + 1)) = Dg.ins (Dg.srt (X.take k)) X[k] := by rw [List.take_succ_eq_append_getElem hkl, Dg.srt_snoc]
      have hol : (Dg.srt (X.take k)).length ≤ k := Nat.le_trans (Dg.srt_len _) (by rw [List.length_take]; omega)
      generalize X[k] = x at *
      generalize Dg.srt (X.take k) = L at *
      obtain ⟨m, hm⟩ : ∃ m, L.length = m := ⟨_, rfl⟩
      rw [hm] at HO hol
      obtain ⟨Ao, co, rfl⟩ := row_sl24 HO.out
      obtain ⟨g, o, rfl, hg, c0, c1, c2⟩ := hrow
      have hso : SlN wo Ao m co 3 (L.flatMap dC) := by
        obtain ⟨A', c', e, h⟩ := SlN.of_own (by omega) HO.out
        injection e with e1 e2 e3
        subst e1 e3
        exact h
      have hki : (k : Int) < (n : Int) := by omega
      have hk0 : (0 : Int) ≤ (k : Int) := by omega
      have HTK := hid htk
      have HM := hid hm
      have HSO := hid hso
      have HC := hid (And.intro hg (And.intro c0 (And.intro c1 c2)))
      have hbo := Below.refl wo.heap.size wo
      have HBO := hid hbo
      clear htk hkl hso hm c0 c1 c2 hbo
      go_wp2_with fail
      go_loopw [5] (fun j wr => ∃ q : Nat, q ≤ m ∧ j = .int .i64 (q : Int) ∧ (∀ r < q, ∃ y, L[r]? = some y ∧ Dg.ltb y x = true) ∧ Below wo.heap.size wo wr) (fun j _ => m - (intOf j).toNat)
      case atStart => exact ⟨0, by omega, rfl, (fun r hr => by omega), HBO.out⟩
      case round =>
        obtain ⟨q, hq, rfl, hlow, hbq⟩ := hrel
        have HLOW := hid hlow
        have HBQ := hid hbq
        clear hlow hbq
        have hgw := HC.out.1
        have c0 := (HBQ.out.cell (p := ⟨g, o + k * 3, none⟩) hgw).trans HC.out.2.1
        have c1 := (HBQ.out.cell (p := ⟨g, o + k * 3 + 1, none⟩) hgw).trans HC.out.2.2.1
        have c2 := (HBQ.out.cell (p := ⟨g, o + k * 3 + 2, none⟩) hgw).trans HC.out.2.2.2
        by_cases hqm : q < m
        · have hql : q < L.length := by have := HM.out; omega
          obtain ⟨g', o', rfl, hg', d0, d1, d2⟩ := dRow_at (HSO.out.below HBQ.out) q hql
          have HLQ := hid (show L[q]? = some L[q] from List.getElem?_eq_getElem hql)
          generalize L[q] = y at *
          have hqi : (q : Int) < (m : Int) := by omega
          have hq0 : (0 : Int) ≤ (q : Int) := by omega
          have hqd : decide ((q : Int) < (m : Int)) = true := by simpa using hqi
          have hqd2 : decide (q < m) = true := by simpa using hqm
          have hless := fun W => rless_any y x W
          simp only [dC] at hless
          have HLS := hid hless
          clear hless
          by_cases hyx : Dg.ltb y x = true
          · rw [hyx] at HLS
            have HL2 := hid (show ∀ r < q + 1, ∃ y, L[r]? = some y ∧ Dg.ltb y x = true from fun r hr => by
              rcases Nat.lt_or_ge r q with h | h
              · exact HLOW.out r h
              · obtain rfl : r = q := by omega
                exact ⟨y, HLQ.out, hyx⟩)
            clear hyx
            go_wp2_with fail
            go_region_held3 (fun w' => w'.cell? ⟨g', o' + q * 3, none⟩ = some (.int .i64 y.1) ∧ w'.cell? ⟨g', o' + q * 3 + 1, none⟩ = some (.int .i64 y.2.1) ∧ w'.cell? ⟨g', o' + q * 3 + 2, none⟩ = some (.string y.2.2) ∧ w'.cell? ⟨g, o + k * 3, none⟩ = some (.int .i64 x.1) ∧ w'.cell? ⟨g, o + k * 3 + 1, none⟩ = some (.int .i64 x.2.1) ∧ w'.cell? ⟨g, o + k * 3 + 2, none⟩ = some (.string x.2.2)) (first | exact ⟨d0, d1, d2, c0, c1, c2⟩ | exact z0 | go_keep) ((go_at_call 13; refine (HLS.out _).mono ?_; rintro e w5 ⟨rfl, hb5⟩; have HB5 := hid (dw24 hb5); have z0 := And.intro ((HB5.out.cell (p := ⟨g', o' + q * 3, none⟩) hg').trans d0) (And.intro ((HB5.out.cell (p := ⟨g', o' + q * 3 + 1, none⟩) hg').trans d1) (And.intro ((HB5.out.cell (p := ⟨g', o' + q * 3 + 2, none⟩) hg').trans d2) (And.intro ((HB5.out.cell (p := ⟨g, o + k * 3, none⟩) (Nat.lt_of_lt_of_le hgw HBQ.out.size)).trans c0) (And.intro ((HB5.out.cell (p := ⟨g, o + k * 3 + 1, none⟩) (Nat.lt_of_lt_of_le hgw HBQ.out.size)).trans c1) ((HB5.out.cell (p := ⟨g, o + k * 3 + 2, none⟩) (Nat.lt_of_lt_of_le hgw HBQ.out.size)).trans c2))))); clear hb5))
            go_wp2_with fail
            go_roundw
            case rel => exact ⟨q + 1, by omega, by go_num, HL2.out, HBQ.out.trans (HB5.out.mono HBQ.out.size)⟩
            case measure => simp [intOf] <;> omega
          · have hyx : Dg.ltb y x = false := by simpa using hyx
            rw [hyx] at HLS
            have HP := hid (show q = Dg.pos x L from Dg.pos_eq HLOW.out (.inr ⟨y, HLQ.out, hyx⟩))
            clear hyx
            go_wp2_with fail
            go_region_held3 (fun w' => w'.cell? ⟨g', o' + q * 3, none⟩ = some (.int .i64 y.1) ∧ w'.cell? ⟨g', o' + q * 3 + 1, none⟩ = some (.int .i64 y.2.1) ∧ w'.cell? ⟨g', o' + q * 3 + 2, none⟩ = some (.string y.2.2) ∧ w'.cell? ⟨g, o + k * 3, none⟩ = some (.int .i64 x.1) ∧ w'.cell? ⟨g, o + k * 3 + 1, none⟩ = some (.int .i64 x.2.1) ∧ w'.cell? ⟨g, o + k * 3 + 2, none⟩ = some (.string x.2.2)) (first | exact ⟨d0, d1, d2, c0, c1, c2⟩ | exact z0 | go_keep) ((go_at_call 13; refine (HLS.out _).mono ?_; rintro e w5 ⟨rfl, hb5⟩; have HB5 := hid (dw24 hb5); have z0 := And.intro ((HB5.out.cell (p := ⟨g', o' + q * 3, none⟩) hg').trans d0) (And.intro ((HB5.out.cell (p := ⟨g', o' + q * 3 + 1, none⟩) hg').trans d1) (And.intro ((HB5.out.cell (p := ⟨g', o' + q * 3 + 2, none⟩) hg').trans d2) (And.intro ((HB5.out.cell (p := ⟨g, o + k * 3, none⟩) (Nat.lt_of_lt_of_le hgw HBQ.out.size)).trans c0) (And.intro ((HB5.out.cell (p := ⟨g, o + k * 3 + 1, none⟩) (Nat.lt_of_lt_of_le hgw HBQ.out.size)).trans c1) ((HB5.out.cell (p := ⟨g, o + k * 3 + 2, none⟩) (Nat.lt_of_lt_of_le hgw HBQ.out.size)).trans c2))))); clear hb5))
            have d0 := z0.1
            have d1 := z0.2.1
            have d2 := z0.2.2.1
            have c0 := z0.2.2.2.1
            have c1 := z0.2.2.2.2.1
            have c2 := z0.2.2.2.2.2
            have HBQ5 := hid (HBQ.out.trans (HB5.out.mono HBQ.out.size))
            clear z0
            have hq8 := fun W => deql y x W
            by_cases hxy : y = x
            · have hde : decide (y = x) = true := by simp [hxy]
              rw [hde] at hq8
              have HINS := hid (show Dg.ins L x = L by unfold Dg.ins; rw [if_pos (by rw [← HP.out, HLQ.out, hxy])])
              clear hxy hde
              go_wp2_with fail
              go_quiet (fail)
              go_wp2_with fail
              go_roundw
              case rel => exact ⟨k + 1, by omega, by go_num, by rw [HTK.out, HINS.out, HM.out]; exact own_below HO.out (bw_d HBQ5.out _), HBE.out.trans ((bw_d HBQ5.out _).mono (by have := HBE.out.size; omega))⟩
              case measure => simp [intOf] <;> omega
            · have hde : decide (y = x) = false := by simp [hxy]
              rw [hde] at hq8
              have HNI := hid (show ¬ L[q]? = some x from fun h => hxy (Option.some.inj (HLQ.out.symm.trans h)))
              clear hxy hde
              go_wp2_with fail
              go_quiet (fail)
              have HBQ2 := hid (bw_d HBQ5.out nq)
              generalize w5.drewN nq = wq at *
              clear hq8 d0 d1 d2 c0 c1 c2 hg'
              have hwq : wo.heap.size ≤ wq.heap.size := HBQ2.out.size
              go_wp2_with fail
              go_loopw [6, 7] (fun nv j wr => ∃ r : Nat, r ≤ q ∧ j = .int .i64 (r : Int) ∧ wr.ownsRow wq.heap.size 25 3 nv r ((L.take r).flatMap dC) ∧ Below wq.heap.size wq wr) (fun _ j _ => q - (intOf j).toNat)
              case atStart => exact ⟨0, by omega, rfl, World.ownsRow_nil _ _ _ _, Below.refl _ _⟩
              case round =>
                obtain ⟨r, hr, rfl, hown, hbr⟩ := hrel
                have HOR := hid hown
                have HBR := hid hbr
                have hszr : wq.heap.size ≤ wr.heap.size := hbr.size
                clear hown hbr
                by_cases hrq : r < q
                · have hrl : r < L.length := by have := HM.out; omega
                  obtain ⟨g2, o2, eA, hg2, d0, d1, d2⟩ := dRow_at (HSO.out.below (HBQ2.out.trans (HBR.out.mono hwq))) r hrl
                  first | subst eA | (injection eA with eA; injection eA with e1 e2; subst e1 e2)
                  have HTR := hid (show L.take (r + 1) = L.take r ++ [L[r]] from List.take_succ_eq_append_getElem hrl)
                  generalize L[r] = y at *
                  have hri : (r : Int) < (q : Int) := by omega
                  have hrm : (r : Int) < (m : Int) := by omega
                  have hr0 : (0 : Int) ≤ (r : Int) := by omega
                  have hrm2 : r < m := by omega
                  go_wp2_with (at_builtin; refine wpList_append_rd rfl (.tmp 52) (.tmp 57) 22 rfl wq.heap.size 25 i0 (.agg #[.int .i64 0, .int .i64 0, .string ⟨#[]⟩]) 3 32 Tryd.underlying22 hi0 hz0 hz1 hz2 rfl (by decide) _ _ _ rfl (own_below HOR.out (bw_a (Below.refl _ wr) (.cells #[.int .i64 y.1, .int .i64 y.2.1, .string y.2.2] 25))) (some ⟨wr.heap.size, 0, none⟩) 1 1 [.int .i64 y.1, .int .i64 y.2.1, .string y.2.2] rfl rfl (Rd.new wr 25 #[.int .i64 y.1, .int .i64 y.2.1, .string y.2.2]) (fun h => by cases h) (by simp [Value.oneCell']) (by simp only [maxLen]; omega) (by omega) (by simp; omega) ?_; intro v2 w8 hown2 hgrow2; have HO8 := hid hown2; have HG8 := hid hgrow2; clear hown2 hgrow2)
                  have hvb : ∀ z, some z = u6.ownBlock → wq.heap.size ≤ z := fun z e => (HOR.out.lt z e.symm).1
                  have hb8 : Below wq.heap.size wq w8 := (HBR.out.alloc hszr (.cells #[.int .i64 y.1, .int .i64 y.2.1, .string y.2.2] 25)).grown HG8.out (by simp; omega) (fun j e => hvb j e.symm)
                  have HB8 := hid hb8
                  clear hvb hb8
                  go_wp2_with fail
                  go_roundw
                  case rel => exact ⟨r + 1, by omega, by go_num, by rw [HTR.out, List.flatMap_append]; exact HO8.out, HB8.out⟩
                  case measure => simp [intOf] <;> omega
                · obtain rfl : r = q := by omega
                  have c0 := ((HBQ2.out.trans (HBR.out.mono hwq)).cell (p := ⟨g, o + k * 3, none⟩) hgw).trans HC.out.2.1
                  have c1 := ((HBQ2.out.trans (HBR.out.mono hwq)).cell (p := ⟨g, o + k * 3 + 1, none⟩) hgw).trans HC.out.2.2.1
                  have c2 := ((HBQ2.out.trans (HBR.out.mono hwq)).cell (p := ⟨g, o + k * 3 + 2, none⟩) hgw).trans HC.out.2.2.2
                  have hnri : ¬ (r : Int) < (r : Int) := by omega
                  obtain ⟨wz, rfl⟩ : ∃ z, z = wr := ⟨_, rfl⟩
                  go_wp2_with (at_builtin; refine wpList_append_rd rfl (.tmp 59) (.tmp 64) 22 rfl wq.heap.size 25 i0 (.agg #[.int .i64 0, .int .i64 0, .string ⟨#[]⟩]) 3 32 Tryd.underlying22 hi0 hz0 hz1 hz2 rfl (by decide) _ _ _ rfl (own_below HOR.out (bw_a (Below.refl _ wz) (.cells #[.int .i64 x.1, .int .i64 x.2.1, .string x.2.2] 25))) (some ⟨wz.heap.size, 0, none⟩) 1 1 [.int .i64 x.1, .int .i64 x.2.1, .string x.2.2] rfl rfl (Rd.new wz 25 #[.int .i64 x.1, .int .i64 x.2.1, .string x.2.2]) (fun h => by cases h) (by simp [Value.oneCell']) (by simp only [maxLen]; omega) (by omega) (by simp; omega) ?_; intro v2 w8 hown2 hgrow2; have HO8 := hid hown2; have HG8 := hid hgrow2; clear hown2 hgrow2)
                  have hvb : ∀ z, some z = u6.ownBlock → wq.heap.size ≤ z := fun z e => (HOR.out.lt z e.symm).1
                  have hb8 : Below wq.heap.size wq w8 := (HBR.out.alloc hszr (.cells #[.int .i64 x.1, .int .i64 x.2.1, .string x.2.2] 25)).grown HG8.out (by simp; omega) (fun j e => hvb j e.symm)
                  have ho8 : w8.ownsRow wq.heap.size 25 3 v2 (r + 1) ((L.take r ++ [x] ++ (L.take r).drop r).flatMap dC) := by
                    rw [List.drop_eq_nil_of_le (by rw [List.length_take]; omega), List.append_nil, List.flatMap_append]
                    exact HO8.out
                  have HB8 := hid hb8
                  have HO9 := hid ho8
                  clear hvb hb8 ho8 HO8 c0 c1 c2
                  go_wp2_with fail
                  go_loopw [6, 8] (fun nv j wr => ∃ z : Nat, r ≤ z ∧ z ≤ m ∧ j = .int .i64 (z : Int) ∧ wr.ownsRow wq.heap.size 25 3 nv (z + 1) ((L.take r ++ [x] ++ (L.take z).drop r).flatMap dC) ∧ Below wq.heap.size wq wr) (fun _ j _ => m - (intOf j).toNat)
                  case atStart => exact ⟨r, by omega, by omega, rfl, HO9.out, HB8.out⟩
                  case round =>
                    obtain ⟨z, hrz, hz, rfl, hown, hbr⟩ := hrel
                    have HOZ := hid hown
                    have HBZ := hid hbr
                    have hszz : wq.heap.size ≤ wr.heap.size := hbr.size
                    clear hown hbr
                    by_cases hzm : z < m
                    · have hzl : z < L.length := by have := HM.out; omega
                      obtain ⟨g2, o2, eA, hg2, d0, d1, d2⟩ := dRow_at (HSO.out.below (HBQ2.out.trans (HBZ.out.mono hwq))) z hzl
                      first | subst eA | (injection eA with eA; injection eA with e1 e2; subst e1 e2)
                      have HTZ := hid (show (L.take (z + 1)).drop r = (L.take z).drop r ++ [L[z]] by rw [List.take_succ_eq_append_getElem hzl, List.drop_append_of_le_length (by rw [List.length_take]; omega)])
                      generalize L[z] = y at *
                      have hzi : (z : Int) < (m : Int) := by omega
                      have hzz0 : (0 : Int) ≤ (z : Int) := by omega
                      go_wp2_with (at_builtin; refine wpList_append_rd rfl (.tmp 73) (.tmp 78) 22 rfl wq.heap.size 25 i0 (.agg #[.int .i64 0, .int .i64 0, .string ⟨#[]⟩]) 3 32 Tryd.underlying22 hi0 hz0 hz1 hz2 rfl (by decide) _ _ _ rfl (own_below HOZ.out (bw_a (Below.refl _ wr) (.cells #[.int .i64 y.1, .int .i64 y.2.1, .string y.2.2] 25))) (some ⟨wr.heap.size, 0, none⟩) 1 1 [.int .i64 y.1, .int .i64 y.2.1, .string y.2.2] rfl rfl (Rd.new wr 25 #[.int .i64 y.1, .int .i64 y.2.1, .string y.2.2]) (fun h => by cases h) (by simp [Value.oneCell']) (by simp only [maxLen]; omega) (by omega) (by simp; omega) ?_; intro v2 w8 hown2 hgrow2; have HO8 := hid hown2; have HG8 := hid hgrow2; clear hown2 hgrow2)
                      have hvb : ∀ z, some z = u6.ownBlock → wq.heap.size ≤ z := fun z e => (HOZ.out.lt z e.symm).1
                      have hb8 : Below wq.heap.size wq w8 := (HBZ.out.alloc hszz (.cells #[.int .i64 y.1, .int .i64 y.2.1, .string y.2.2] 25)).grown HG8.out (by simp; omega) (fun j e => hvb j e.symm)
                      have HB10 := hid hb8
                      clear hvb hb8
                      go_wp2_with fail
                      go_roundw
                      case rel => exact ⟨z + 1, by omega, by omega, by go_num, by rw [HTZ.out, ← List.append_assoc, List.flatMap_append]; exact HO8.out, HB10.out⟩
                      case measure => simp [intOf] <;> omega
                    · obtain rfl : z = m := by omega
                      have hins : Dg.ins L x = L.take r ++ [x] ++ (L.take z).drop r := by
                        rw [List.take_of_length_le (by have := HM.out; omega : L.length ≤ z), HP.out]
                        exact ins_parts L x (by rw [← HP.out]; exact HNI.out)
                      have hinl : (Dg.ins L x).length = z + 1 := by
                        rw [hins, List.take_of_length_le (by have := HM.out; omega : L.length ≤ z)]
                        have := HM.out
                        simp only [List.length_append, List.length_take, List.length_drop, List.length_cons, List.length_nil]; omega
                      have HI := hid (And.intro hins hinl)
                      clear hins hinl
                      have hnzi : ¬ (z : Int) < (z : Int) := by omega
                      go_wp2_with fail
                      go_roundw
                      case rel => exact ⟨k + 1, by omega, by go_num, by rw [HTK.out, HI.out.2, HI.out.1]; exact own_mono HOZ.out (by omega), HBE.out.trans ((HBQ2.out.trans (HBZ.out.mono hwq)).mono (by have := HBE.out.size; omega))⟩
                      case measure => simp [intOf] <;> omega
        · have HP := hid (show q = Dg.pos x L from Dg.pos_eq HLOW.out (.inl (by have := HM.out; omega)))
          have HNI := hid (show ¬ L[q]? = some x from fun h => by rw [List.getElem?_eq_none (by have := HM.out; omega)] at h; cases h)
          have hqd : decide ((q : Int) < (m : Int)) = false := by simp; omega
          have hqd2 : decide (q < m) = false := by simp; omega
          go_wp2_with fail
          go_quiet (fail)
          have HBQ1 := hid (bw_d HBQ.out nq)
          generalize wr.drewN nq = wr1 at *
          go_wp2_with fail
          go_quiet (fail)
          have HBQ2 := hid (bw_d HBQ1.out nq)
          generalize wr1.drewN nq = wq at *
          clear c0 c1 c2
          have hwq : wo.heap.size ≤ wq.heap.size := HBQ2.out.size
          go_wp2_with fail
          go_loopw [6, 7] (fun nv j wr => ∃ r : Nat, r ≤ q ∧ j = .int .i64 (r : Int) ∧ wr.ownsRow wq.heap.size 25 3 nv r ((L.take r).flatMap dC) ∧ Below wq.heap.size wq wr) (fun _ j _ => q - (intOf j).toNat)
          case atStart => exact ⟨0, by omega, rfl, World.ownsRow_nil _ _ _ _, Below.refl _ _⟩
          case round =>
            obtain ⟨r, hr, rfl, hown, hbr⟩ := hrel
            have HOR := hid hown
            have HBR := hid hbr
            have hszr : wq.heap.size ≤ wr.heap.size := hbr.size
            clear hown hbr
            by_cases hrq : r < q
            · have hrl : r < L.length := by have := HM.out; omega
              obtain ⟨g2, o2, eA, hg2, d0, d1, d2⟩ := dRow_at (HSO.out.below (HBQ2.out.trans (HBR.out.mono hwq))) r hrl
              first | subst eA | (injection eA with eA; injection eA with e1 e2; subst e1 e2)
              have HTR := hid (show L.take (r + 1) = L.take r ++ [L[r]] from List.take_succ_eq_append_getElem hrl)
              generalize L[r] = y at *
              have hri : (r : Int) < (q : Int) := by omega
              have hrm : (r : Int) < (m : Int) := by omega
              have hr0 : (0 : Int) ≤ (r : Int) := by omega
              have hrm2 : r < m := by omega
              go_wp2_with (at_builtin; refine wpList_append_rd rfl (.tmp 52) (.tmp 57) 22 rfl wq.heap.size 25 i0 (.agg #[.int .i64 0, .int .i64 0, .string ⟨#[]⟩]) 3 32 Tryd.underlying22 hi0 hz0 hz1 hz2 rfl (by decide) _ _ _ rfl (own_below HOR.out (bw_a (Below.refl _ wr) (.cells #[.int .i64 y.1, .int .i64 y.2.1, .string y.2.2] 25))) (some ⟨wr.heap.size, 0, none⟩) 1 1 [.int .i64 y.1, .int .i64 y.2.1, .string y.2.2] rfl rfl (Rd.new wr 25 #[.int .i64 y.1, .int .i64 y.2.1, .string y.2.2]) (fun h => by cases h) (by simp [Value.oneCell']) (by simp only [maxLen]; omega) (by omega) (by simp; omega) ?_; intro v2 w8 hown2 hgrow2; have HO8 := hid hown2; have HG8 := hid hgrow2; clear hown2 hgrow2)
              have hvb : ∀ z, some z = u6.ownBlock → wq.heap.size ≤ z := fun z e => (HOR.out.lt z e.symm).1
              have hb8 : Below wq.heap.size wq w8 := (HBR.out.alloc hszr (.cells #[.int .i64 y.1, .int .i64 y.2.1, .string y.2.2] 25)).grown HG8.out (by simp; omega) (fun j e => hvb j e.symm)
              have HB8 := hid hb8
              clear hvb hb8
              go_wp2_with fail
              go_roundw
              case rel => exact ⟨r + 1, by omega, by go_num, by rw [HTR.out, List.flatMap_append]; exact HO8.out, HB8.out⟩
              case measure => simp [intOf] <;> omega
            · obtain rfl : r = q := by omega
              have c0 := ((HBQ2.out.trans (HBR.out.mono hwq)).cell (p := ⟨g, o + k * 3, none⟩) hgw).trans HC.out.2.1
              have c1 := ((HBQ2.out.trans (HBR.out.mono hwq)).cell (p := ⟨g, o + k * 3 + 1, none⟩) hgw).trans HC.out.2.2.1
              have c2 := ((HBQ2.out.trans (HBR.out.mono hwq)).cell (p := ⟨g, o + k * 3 + 2, none⟩) hgw).trans HC.out.2.2.2
              have hnri : ¬ (r : Int) < (r : Int) := by omega
              obtain ⟨wz, rfl⟩ : ∃ z, z = wr := ⟨_, rfl⟩
              go_wp2_with (at_builtin; refine wpList_append_rd rfl (.tmp 59) (.tmp 64) 22 rfl wq.heap.size 25 i0 (.agg #[.int .i64 0, .int .i64 0, .string ⟨#[]⟩]) 3 32 Tryd.underlying22 hi0 hz0 hz1 hz2 rfl (by decide) _ _ _ rfl (own_below HOR.out (bw_a (Below.refl _ wz) (.cells #[.int .i64 x.1, .int .i64 x.2.1, .string x.2.2] 25))) (some ⟨wz.heap.size, 0, none⟩) 1 1 [.int .i64 x.1, .int .i64 x.2.1, .string x.2.2] rfl rfl (Rd.new wz 25 #[.int .i64 x.1, .int .i64 x.2.1, .string x.2.2]) (fun h => by cases h) (by simp [Value.oneCell']) (by simp only [maxLen]; omega) (by omega) (by simp; omega) ?_; intro v2 w8 hown2 hgrow2; have HO8 := hid hown2; have HG8 := hid hgrow2; clear hown2 hgrow2)
              have hvb : ∀ z, some z = u6.ownBlock → wq.heap.size ≤ z := fun z e => (HOR.out.lt z e.symm).1
              have hb8 : Below wq.heap.size wq w8 := (HBR.out.alloc hszr (.cells #[.int .i64 x.1, .int .i64 x.2.1, .string x.2.2] 25)).grown HG8.out (by simp; omega) (fun j e => hvb j e.symm)
              have ho8 : w8.ownsRow wq.heap.size 25 3 v2 (r + 1) ((L.take r ++ [x] ++ (L.take r).drop r).flatMap dC) := by
                rw [List.drop_eq_nil_of_le (by rw [List.length_take]; omega), List.append_nil, List.flatMap_append]
                exact HO8.out
              have HB8 := hid hb8
              have HO9 := hid ho8
              clear hvb hb8 ho8 HO8 c0 c1 c2
              go_wp2_with fail
              go_loopw [6, 8] (fun nv j wr => ∃ z : Nat, r ≤ z ∧ z ≤ m ∧ j = .int .i64 (z : Int) ∧ wr.ownsRow wq.heap.size 25 3 nv (z + 1) ((L.take r ++ [x] ++ (L.take z).drop r).flatMap dC) ∧ Below wq.heap.size wq wr) (fun _ j _ => m - (intOf j).toNat)
              case atStart => exact ⟨r, by omega, by omega, rfl, HO9.out, HB8.out⟩
              case round =>
                obtain ⟨z, hrz, hz, rfl, hown, hbr⟩ := hrel
                have HOZ := hid hown
                have HBZ := hid hbr
                have hszz : wq.heap.size ≤ wr.heap.size := hbr.size
                clear hown hbr
                by_cases hzm : z < m
                · exfalso; omega
                · obtain rfl : z = m := by omega
                  have hins : Dg.ins L x = L.take r ++ [x] ++ (L.take z).drop r := by
                    rw [List.take_of_length_le (by have := HM.out; omega : L.length ≤ z), HP.out]
                    exact ins_parts L x (by rw [← HP.out]; exact HNI.out)
                  have hinl : (Dg.ins L x).length = z + 1 := by
                    rw [hins, List.take_of_length_le (by have := HM.out; omega : L.length ≤ z)]
                    have := HM.out
                    simp only [List.length_append, List.length_take, List.length_drop, List.length_cons, List.length_nil]; omega
                  have HI := hid (And.intro hins hinl)
                  clear hins hinl
                  have hnzi : ¬ (z : Int) < (z : Int) := by omega
                  go_wp2_with fail
                  go_roundw
                  case rel => exact ⟨k + 1, by omega, by go_num, by rw [HTK.out, HI.out.2, HI.out.1]; exact own_mono HOZ.out (by omega), HBE.out.trans ((HBQ2.out.trans (HBZ.out.mono hwq)).mono (by have := HBE.out.size; omega))⟩
                  case measure => simp [intOf] <;> omega
    · obtain rfl : k = n := by omega
      rw [List.take_of_length_le (by have := HN.out; omega)] at HO
      go_wp2_with fail
      go_ret
      exact ⟨_, rfl, HO.out, HBE.out⟩
end Go.Proofs.YtdbbapedimnjhaaDoor
