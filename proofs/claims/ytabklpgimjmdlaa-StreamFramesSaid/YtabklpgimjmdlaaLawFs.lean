/- The walk of StreamFrames: frames' bytes, and frames in another order. -/
import Derived.Test.YtabklpgimjmdlaaLawTw
import Derived.Test.YtabklpgimjmdlaaStmFr2
import Derived.Test.YtabklpgimjmdlaaFrRef
import Derived.Deep.RegionHeld3
set_option linter.unusedVariables false
namespace Go.Proofs.Ytabklpgimjmdlaa
open Go.RowKit
/-- The first frame that is too long, of those up to j; -1. -/
def lgN (l : List FrV) : Nat → Int
  | 0 => -1
  | j + 1 => if lgN l j < 0 ∧ 8192 < (l.getD j ⟨0, ⟨none, 0, []⟩⟩).s.xs.length then (j : Int) else lgN l j
theorem lgN_succ {l : List FrV} {j : Nat} (hj : j < l.length) : lgN l (j + 1) = if lgN l j < 0 ∧ 8192 < l[j].s.xs.length then (j : Int) else lgN l j := by
  rw [lgN, List.getD_eq_getElem?_getD, List.getElem?_eq_getElem hj]
  rfl
theorem lgN_facts (l : List FrV) : ∀ j, j ≤ l.length → (lgN l j < 0 ∧ lgN l j = -1 ∧ ∀ (i : Nat) (hi : i < l.length), i < j → l[i].s.xs.length ≤ 8192) ∨ (0 ≤ lgN l j ∧ ∃ lg : Nat, lgN l j = (lg : Int) ∧ lg < j ∧ (∀ (i : Nat) (hi : i < l.length), i < lg → l[i].s.xs.length ≤ 8192) ∧ ∀ hi : lg < l.length, 8192 < l[lg].s.xs.length) := by
  intro j
  induction j with
  | zero => intro _; exact .inl ⟨by simp [lgN], rfl, fun i hi h => by omega⟩
  | succ j ih =>
    intro hj
    have hjl : j < l.length := by omega
    rw [lgN_succ hjl]
    rcases ih (by omega) with ⟨h1, h2, h3⟩ | ⟨h1, lg, h2, h3, h4, h5⟩
    · by_cases hl : 8192 < l[j].s.xs.length
      · rw [if_pos ⟨h1, hl⟩]
        exact .inr ⟨by omega, j, rfl, by omega, h3, fun _ => hl⟩
      · rw [if_neg (fun h => hl h.2)]
        refine .inl ⟨h1, h2, fun i hi hij => ?_⟩
        by_cases hi2 : i < j
        · exact h3 i hi hi2
        · obtain rfl : i = j := by omega
          omega
    · rw [if_neg (by omega)]
      exact .inr ⟨h1, lg, h2, by omega, h4, h5⟩
theorem swL_get {l : List FrV} {os : List Int} {k j : Nat} (hj : j < k) (hk : os.length = k) (hm : 0 < l.length) : ∃ (r : Nat) (hr : r < l.length) (hjo : j < os.length), os[j] % (l.length : Int) = (r : Int) ∧ (swL l os k)[j]? = some l[r].q := by
  have hjo : j < os.length := by omega
  have hr := rest_in os[j] (l.length : Int) (by omega)
  refine ⟨(os[j] % (l.length : Int)).toNat, by omega, hjo, by omega, ?_⟩
  unfold swL
  rw [List.getElem?_map, List.take_of_length_le (by omega), List.getElem?_eq_getElem hjo, Option.map_some]
  unfold swF
  rw [List.getElem?_eq_getElem (by omega)]
set_option maxRecDepth 100000 in
set_option maxHeartbeats 16000000 in
theorem streamFrames_any (l : List FrV) (m : Nat) (A : Option Addr) (c : Nat) (os : List Int) (k : Nat) (A2 : Option Addr) (c2 : Nat) (w : World) (hm : l.length = m) (hok : ∀ f ∈ l, FrOk w f) (hM : SlN w A m c 2 (l.flatMap frC)) (hk : os.length = k) (hos : Sl w A2 c2 (os.map ivP)) (hob : ∀ x ∈ os, -9223372036854775808 ≤ x ∧ x ≤ 9223372036854775807) :
    Calls Try.prog 6 #[.slice A m c, .slice A2 k c2] w fun e w' => e = .returned (.bool true) ∧ Below w.heap.size w w' := by
  obtain ⟨s, hws⟩ : ∃ s, w.heap.size = s := ⟨_, rfl⟩
  have hcap := hM.cap
  have hsm := hM.small
  have hcap2 := hos.cap
  have hsm2 := hos.small
  rw [List.length_map, hk] at hcap2
  have HM := hid hM
  have HL := hid hm
  have HOK := hid hok
  have HK := hid hk
  have HOS := hid hos
  have HOB := hid hob
  have HWS := hid hws
  rw [hws]
  clear hM hm hok hk hos hob hws
  go_enter Try.func6, Try.ntmps6
  go_wp2_with fail
  refine (live16_any w).mono ?_
  rintro e w1 ⟨rfl, hb1⟩
  rw [HWS.out] at hb1
  have HB1 := hid hb1
  clear hb1
  by_cases hbig : 12 < m
  · have hbi : (12 : Int) < (m : Int) := by omega
    go_wp2_with fail
    go_ret
    exact ⟨rfl, HB1.out⟩
  have hbi : decide ((12 : Int) < (m : Int)) = false := by simp; omega
  by_cases hbig2 : 40 < k
  · have hbi2 : (40 : Int) < (k : Int) := by omega
    go_wp2_with fail
    go_ret
    exact ⟨rfl, HB1.out⟩
  have hbi2 : ¬ (40 : Int) < (k : Int) := by omega
  have HM1 := hid (HM.out.below (by rw [HWS.out]; exact HB1.out))
  have HOK1 := hid (fun f hf => ⟨(HOK.out f hf).1, (HOK.out f hf).2.below (by rw [HWS.out]; exact HB1.out)⟩ : ∀ f ∈ l, FrOk w1 f)
  have HS1 := hid (by have := HB1.out.size; have := HWS.out; omega : s ≤ w1.heap.size)
  go_wp2_with fail
  go_loopw [5, 6] (fun g i wr => wr = w1 ∧ ∃ j : Nat, j ≤ m ∧ i = .int .i64 (j : Int) ∧ g = .int .i64 (lgN l j) ∧ ∀ (i : Nat) (hi : i < l.length), i < j → l[i].s.xs.length ≤ 9000) (fun _ i _ => m - (intOf i).toNat)
  case atStart => exact ⟨rfl, 0, by omega, rfl, rfl, fun i _ h => by omega⟩
  case round =>
    obtain ⟨rfl, j, hj, rfl, rfl, h9⟩ := hrel
    have H9 := hid h9
    clear h9
    by_cases hlt : j < m
    · have hjl : j < l.length := by have := HL.out; omega
      obtain ⟨b, off, rfl, hbl, t0, t1⟩ := frRow_get HL.out HM1.out j hjl
      have hlg := lgN_succ hjl
      have hki : (j : Int) < (m : Int) := by omega
      have hk0 : (0 : Int) ≤ (j : Int) := by omega
      have H9S := hid (fun (hp : l[j].s.xs.length ≤ 9000) (i : Nat) (hi : i < l.length) (h : i < j + 1) => (by
        by_cases h2 : i < j
        · exact H9.out i hi h2
        · obtain rfl : i = j := by omega
          exact hp : l[i].s.xs.length ≤ 9000))
      obtain ⟨G2, hG2⟩ : ∃ G2, lgN l (j + 1) = G2 := ⟨_, rfl⟩
      rw [hG2] at hlg
      have HG2 := hid hG2
      clear hG2
      generalize lgN l j = G at *
      generalize l[j].s.xs.length = pn at *
      generalize l[j].s.A = xA at *
      generalize l[j].s.c = xc at *
      clear t0
      by_cases hp9 : 9000 < pn
      · have hp9i : (9000 : Int) < (pn : Int) := by omega
        clear hlg
        go_wp2_with fail
        go_ret
        exact ⟨rfl, HB1.out⟩
      have hp9i : ¬ (9000 : Int) < (pn : Int) := by omega
      by_cases hG : G < 0
      · by_cases hp8 : 8192 < pn
        · have hp8i : (8192 : Int) < (pn : Int) := by omega
          rw [if_pos ⟨hG, hp8⟩] at hlg
          have HLG := hid hlg
          clear hlg
          go_wp2_with fail
          go_roundw
          case rel => exact ⟨trivial, j + 1, by omega, by go_num, by rw [HG2.out, HLG.out], H9S.out (by omega)⟩
          case measure => simp [intOf]; omega
        · have hp8i : ¬ (8192 : Int) < (pn : Int) := by omega
          rw [if_neg (fun h => hp8 h.2)] at hlg
          have HLG := hid hlg
          clear hlg
          go_wp2_with fail
          go_roundw
          case rel => exact ⟨trivial, j + 1, by omega, by go_num, by rw [HG2.out, HLG.out], H9S.out (by omega)⟩
          case measure => simp [intOf]; omega
      · have hGd : decide (G < 0) = false := by simpa using hG
        rw [if_neg (fun h => hG h.1)] at hlg
        have HLG := hid hlg
        clear hlg
        go_wp2_with fail
        go_roundw
        case rel => exact ⟨trivial, j + 1, by omega, by go_num, by rw [HG2.out, HLG.out], H9S.out (by omega)⟩
        case measure => simp [intOf]; omega
    · obtain rfl : j = m := by omega
      have hki : ¬ (j : Int) < (j : Int) := by omega
      obtain ⟨wA, rfl⟩ : ∃ x, x = wr := ⟨_, rfl⟩
      rcases lgN_facts l j (by rw [HL.out]; omega) with ⟨g1, g2, g3⟩ | ⟨g1, lg, g2, g3, g4, g5⟩
      · have hall : ∀ f ∈ l, f.s.xs.length ≤ 8192 := fun f hf => by
          obtain ⟨i, hi, rfl⟩ := List.getElem_of_mem hf
          exact g3 i hi (by rw [← HL.out]; exact hi)
        rw [g2]
        obtain ⟨N, hN⟩ : ∃ N, (Rs.rows (l.map FrV.p)).length = N := ⟨_, rfl⟩
        have hNb : N ≤ 100000 := by have := Rs.rows_len8 (l.map FrV.p) (by intro f hf; obtain ⟨g, hg, rfl⟩ := List.mem_map.1 hf; exact hall g hg); rw [List.length_map, hN, HL.out] at this; omega
        have HFR := hid (stframes_any l j A c N wA HL.out HOK1.out HM1.out hall (by omega) hN)
        have hjn := fun W (hW : Below wA.heap.size wA W) => rjoin14_8 l j A c W HL.out (by rw [HL.out]; omega) hall (fun f hf => ⟨(HOK1.out f hf).1, (HOK1.out f hf).2.below hW⟩) (HM1.out.below hW)
        simp only [hN] at hjn
        have HJN := hid hjn
        clear hjn
        have HAL := hid hall
        have HNN := hid hN
        clear g1 g2 g3 hall hN
        go_wp2_with fail
        refine HFR.out.mono ?_
        rintro e w2 ⟨A3, c3, rfl, ho3, hb3⟩
        have hk3 := Blk.new w2 50 #[.int .i64 0, .int .i64 0]
        obtain ⟨q, hq⟩ : ∃ q, w2.heap.size = q := ⟨_, rfl⟩
        have hb3a := bw_a hb3 (.cells #[.int .i64 0, .int .i64 0] 50)
        have HS3 := hid ((Sl.of_own' ho3).below (bw_a (Below.refl _ w2) (.cells #[.int .i64 0, .int .i64 0] 50)))
        have HB3 := hid hb3a
        have hq2 : (w2.alloc (.cells #[.int .i64 0, .int .i64 0] 50)).heap.size = q + 1 := by simp [hq]
        rw [hq] at hk3
        clear hb3 hb3a ho3
        by_cases hm0 : j = 0
        · subst hm0
          have hz : l = [] := List.eq_nil_of_length_eq_zero HL.out
          go_wp2_with fail
          refine (sswap_none _ _ _ _ _ _).mono ?_
          rintro e w4 ⟨rfl, hw4⟩
          generalize hW3 : (w2.alloc (.cells #[.int .i64 0, .int .i64 0] 50)) = W3 at *
          obtain rfl : w4 = W3 := hw4
          clear hW3
          go_wp2_with fail
          refine (HJN.out w4 HB3.out).mono ?_
          rintro e w5 ⟨A5, c5, rfl, hs5, hb5⟩
          have hk5 := hk3.below hb5 hk3.lt
          have k0 := hk5.cell 0
          have k1 := hk5.cell 1
          simp only [List.getElem?_toArray, List.getElem?_cons_zero, List.getElem?_cons_succ] at k0 k1
          have HS5 := hid (HS3.out.below hb5)
          have HR5 := hid hs5
          have HB5 := hid (HB1.out.trans ((bw_t HB3.out hb5).mono HS1.out))
          clear hk5 hs5 hb5
          go_wp2_with fail
          refine (same_nm (Rs.rows (l.map FrV.p)) (Rs.rows (l.map FrV.p)) N N A3 A5 c3 c5 w5 HNN.out HNN.out (by omega) HS5.out.rd HR5.out.rd).mono ?_
          rintro e w6 ⟨rfl, n6, rfl⟩
          simp only [decide_true]
          have HB6 := hid (bw_dqs HB5.out n6)
          go_wp2_with fail
          go_loopw [10] (fun i wr => i = .int .i64 0 ∧ wr = w5.drewN n6) (fun _ _ => 0)
          case atStart => exact ⟨rfl, rfl⟩
          case round =>
            obtain ⟨rfl, rfl⟩ := hrel
            go_wp2_with fail
            go_ret
            exact ⟨rfl, HB6.out⟩
        · have hml : (0 : Int) < (j : Int) := by omega
          have hmn : ((j : Int) == 0) = false := by simp; omega
          have HSW := hid (fun W (hW : Below wA.heap.size wA W) => sswap_any l j A c os k A2 c2 W HL.out (fun f hf => ⟨(HOK1.out f hf).1, (HOK1.out f hf).2.below hW⟩) (HM1.out.below hW) (fun f hf => Nat.le_trans (HAL.out f hf) (by omega)) (by omega) (by omega) HK.out (by omega) ((HOS.out.below (by rw [HWS.out]; exact HB1.out)).below hW) HOB.out)
          go_wp2_with fail
          generalize hW3 : (w2.alloc (.cells #[.int .i64 0, .int .i64 0] 50)) = W3 at *
          refine (HSW.out W3 HB3.out).mono ?_
          rintro e w4 ⟨A4, c4, rfl, hsw4, hb4⟩
          have HB4 := hid (bw_t HB3.out hb4)
          have HS4 := hid (HS3.out.below hb4)
          have HK4 := hid (hk3.below hb4 hk3.lt)
          have HSW4 := hid hsw4
          clear hW3 hb4 hsw4 HSW hk3
          go_wp2_with fail
          refine (HJN.out w4 HB4.out).mono ?_
          rintro e w5 ⟨A5, c5, rfl, hs5, hb5⟩
          have hk5 := HK4.out.below hb5 HK4.out.lt
          have k0 := hk5.cell 0
          have k1 := hk5.cell 1
          simp only [List.getElem?_toArray, List.getElem?_cons_zero, List.getElem?_cons_succ] at k0 k1
          have HS5 := hid (HS4.out.below hb5)
          have HR5 := hid hs5
          have HB5 := hid (HB1.out.trans ((bw_t HB4.out hb5).mono HS1.out))
          have HSW5 := hid (HSW4.out.below hb5)
          clear hk5 hs5 hb5
          go_wp2_with fail
          refine (same_nm (Rs.rows (l.map FrV.p)) (Rs.rows (l.map FrV.p)) N N A3 A5 c3 c5 w5 HNN.out HNN.out (by omega) HS5.out.rd HR5.out.rd).mono ?_
          rintro e w6 ⟨rfl, n6, rfl⟩
          simp only [decide_true]
          have HB6 := hid (bw_dqs HB5.out n6)
          have hsw6 : SwO W3.heap.size (w5.drewN n6) (.slice A4 k c4) (swL l os k) := HSW5.out.chg (Chg.drewN (Chg.refl (fun _ => False) w5) n6) (fun _ _ h => h)
          have k0' : (w5.drewN n6).cell? ⟨q, 0, none⟩ = some (.int .i64 0) := k0
          have k1' : (w5.drewN n6).cell? ⟨q, 1, none⟩ = some (.int .i64 0) := k1
          obtain ⟨-, hc4, hm4, hget⟩ := hsw6.get
          have HGET := hid (fun t (ht : t < k) => hget t (by rw [swL_len (by rw [HK.out]; exact Nat.le_refl _)]; exact ht))
          clear k0 k1 hsw6 hget
          generalize w5.drewN n6 = w6 at *
          have hr0 := Below.refl w6.heap.size w6
          go_wp2_with fail
          go_loopw [10] (fun i wr => ∃ t : Nat, t ≤ k ∧ i = .int .i64 (t : Int) ∧ Below w6.heap.size w6 wr) (fun i _ => k - (intOf i).toNat)
          case atStart => exact ⟨0, by omega, rfl, hr0⟩
          case round =>
            obtain ⟨t, ht, rfl, hB⟩ := hrel
            have HB := hid hB
            clear hB hr0 k0' k1'
            by_cases hlt2 : t < k
            · obtain ⟨r, hr, hto, hmod, hsg⟩ := swL_get (l := l) hlt2 HK.out (by rw [HL.out]; omega)
              obtain ⟨b6, o6, P6, q6, rfl, hb6, s0', s1, hp6⟩ := HGET.out t hlt2
              have hLt : t < (swL l os k).length := by rw [swL_len (by rw [HK.out]; exact Nat.le_refl _)]; exact hlt2
              have hq : (swL l os k)[t] = l[r].q := by rw [List.getElem?_eq_getElem hLt] at hsg; exact Option.some.inj hsg
              rw [hq] at s0' s1 hp6
              obtain ⟨b2, o2, rfl, hb2, z0⟩ := HOS.out.rd t (ivP os[t]) (by rw [List.getElem?_map, List.getElem?_eq_getElem hto]; rfl)
              obtain ⟨b, off, rfl, hb, t0, t1⟩ := frRow_get HL.out HM.out r hr
              have hxb := HOB.out _ (List.getElem_mem hto)
              have hok := HOK.out _ (List.getElem_mem hr)
              have h82 := HAL.out _ (List.getElem_mem hr)
              rw [HL.out] at hmod
              clear hq hsg
              generalize os[t] = X at *
              generalize l[r] = f at *
              obtain ⟨ft, ⟨fA, fc, fxs⟩⟩ := f
              obtain ⟨hft, hfs⟩ := hok
              simp only [FrV.q] at s0' s1 hp6 t0 t1 hft hfs h82
              obtain ⟨T, hT⟩ : ∃ T : UInt8, T.toNat = ft := ⟨UInt8.ofNat ft, by rw [UInt8.toNat_ofNat']; omega⟩
              obtain ⟨pl, hpl⟩ : ∃ p, fxs.length = p := ⟨_, rfl⟩
              rw [hpl] at s1 t1 h82
              have hw6 : Below s w wr := HB6.out.trans (HB.out.mono (by have := HB6.out.size; have := HWS.out; omega))
              have hbs : b < s := by rw [← HWS.out]; exact hb
              have hb2s : b2 < s := by rw [← HWS.out]; exact hb2
              have hb6w := Nat.lt_of_lt_of_le hb6 HB.out.size
              have hsw := HB.out.size
              have s0' := (HB.out.cell (p := ⟨b6, o6 + t * 2, none⟩) hb6).trans s0'
              have s1 := (HB.out.cell (p := ⟨b6, o6 + t * 2 + 1, none⟩) hb6).trans s1
              have t0 := (hw6.cell (p := ⟨b, off + r * 2, none⟩) hbs).trans t0
              have t1 := (hw6.cell (p := ⟨b, off + r * 2 + 1, none⟩) hbs).trans t1
              have z0 := (hw6.cell (p := ⟨b2, o2 + t, none⟩) hb2s).trans z0
              have hbw : b < wr.heap.size := by have := hw6.size; have := HWS.out; omega
              have hb2w : b2 < wr.heap.size := by have := hw6.size; have := HWS.out; omega
              unfold ivP at z0
              have hsame := fun W (hW : Below wr.heap.size wr W) => (rfsame_any T T fxs fxs pl pl P6 fA q6 fc W hpl hpl (by omega) ((hp6.sl.below HB.out).below hW) ((hfs.below (by rw [HWS.out]; exact hw6)).below hW)).mono (fun e w' h => (show e = .returned (.bool true) ∧ Below W.heap.size W w' from ⟨by rw [h.1]; simp, h.2⟩))
              rw [hT] at hsame
              have HSM := hid hsame
              have hrr := fun W => rrest_any X (j : Int) W hxb.1 hxb.2 (by omega) (by omega)
              rw [hmod] at hrr
              have HRR := hid hrr
              have HBR := hid (Below.refl wr.heap.size wr)
              have hti : (t : Int) < (k : Int) := by omega
              have ht0 : (0 : Int) ≤ (t : Int) := by omega
              have hr1 : r < j := by rw [← HL.out]; exact hr
              have hri : (r : Int) < (j : Int) := by omega
              have hr0 : (0 : Int) ≤ (r : Int) := by omega
              clear hsame hrr hp6 hfs hT hpl hmod hw6
              go_wp2_with fail
              go_region_held3 (fun w' => w'.cell? ⟨b6, o6 + t * 2, none⟩ = some (.int .u8 (ft : Int)) ∧ w'.cell? ⟨b6, o6 + t * 2 + 1, none⟩ = some (.slice P6 pl q6) ∧ w'.cell? ⟨b2, o2 + t, none⟩ = some (.int .i64 X) ∧ w'.cell? ⟨b, off + r * 2, none⟩ = some (.int .u8 (ft : Int)) ∧ w'.cell? ⟨b, off + r * 2 + 1, none⟩ = some (.slice fA pl fc)) (first | exact ⟨s0', s1, z0, t0, t1⟩ | exact ⟨x0, x1, zx, y0, y1⟩ | go_keep) (first | (go_at_call 28; (with_reducible refine (HRR.out _).mono ?_); rintro e w8 ⟨rfl, rfl⟩) | (go_at_call 27; (with_reducible refine (HSM.out _ (below_drew' HBR.out)).mono ?_); rintro e w8 ⟨rfl, hb8⟩; have hbq := (below_drew' (Below.refl _ wr)).trans hb8; have x0 := (hbq.cell (p := ⟨b6, o6 + t * 2, none⟩) hb6w).trans s0'; have x1 := (hbq.cell (p := ⟨b6, o6 + t * 2 + 1, none⟩) hb6w).trans s1; have zx := (hbq.cell (p := ⟨b2, o2 + t, none⟩) hb2w).trans z0; have y0 := (hbq.cell (p := ⟨b, off + r * 2, none⟩) hbw).trans t0; have y1 := (hbq.cell (p := ⟨b, off + r * 2 + 1, none⟩) hbw).trans t1; have HB8 := hid hbq; clear hb8 hbq))
              go_wp2_with fail
              go_roundw
              case rel => exact ⟨t + 1, by omega, by go_num, bw_t HB.out HB8.out⟩
              case measure => simp [intOf]; omega
            · obtain rfl : t = k := by omega
              have hti : ¬ (t : Int) < (t : Int) := by omega
              go_wp2_with fail
              go_ret
              exact ⟨rfl, HB6.out.trans (HB.out.mono (by have := HB6.out.size; have := HWS.out; omega))⟩
      · rw [g2]
        have HFR := hid (stframes_long l j A c lg wA HL.out HOK1.out HM1.out g3 g4 g5 (by omega))
        have hlg0 : ¬ (lg : Int) < 0 := by omega
        have hlg1 : (0 : Int) ≤ (lg : Int) := by omega
        clear g1 g2 g4 g5
        go_wp2_with fail
        refine HFR.out.mono ?_
        rintro e w2 ⟨rfl, hb3⟩
        have HB3 := hid (HB1.out.trans ((bw_a hb3 (.cells #[.int .i64 2, .int .i64 (lg : Int)] 50)).mono HS1.out))
        clear hb3
        go_wp2_with fail
        go_ret
        exact ⟨by simp, HB3.out⟩
end Go.Proofs.Ytabklpgimjmdlaa
