/- Whether trees and definitions are small: walks. -/
import Derived.Test.YtejdlhjbakndaaaDfB
set_option linter.unusedVariables false
namespace Go.Proofs.Ytejdlhjbakndaaa
open Go.RowKit
set_option maxRecDepth 100000 in
set_option maxHeartbeats 4000000 in
theorem rsmall20_any (v : NdV) (w0 w : World) (hok : NdOk w0 18 v) (hb0 : Below w0.heap.size w0 w) :
    Calls Try.prog 24 #[.agg #[.int .u8 v.kd, .string v.tx, .slice v.ks.A v.ks.xs.length v.ks.c, .slice v.cA v.cn v.cc, .int .i64 v.ln]] w fun e w' => ∃ b : Bool, e = .returned (.bool b) ∧ Below w.heap.size w w' ∧ (b = true → NdSm w0 18 v) := by
  have hb1 := bw_a (bw_a (Below.refl _ w) (.cells #[.int .u8 v.kd, .string v.tx, .slice v.ks.A v.ks.xs.length v.ks.c, .slice v.cA v.cn v.cc, .int .i64 v.ln] 42)) (.cells #[.int .i64 150] 3)
  have hk := Blk.new (w.alloc (.cells #[.int .u8 v.kd, .string v.tx, .slice v.ks.A v.ks.xs.length v.ks.c, .slice v.cA v.cn v.cc, .int .i64 v.ln] 42)) 3 #[.int .i64 150]
  rw [World.size_alloc] at hk
  have hs := small20_any w0 18 18 v 150 (w.heap.size + 1) _ (by omega) (by omega) hok (bw_t hb0 hb1) (by have := hb0.size; omega) hk (by omega) (by omega)
  have HS := hid hs
  have HB1 := hid hb1
  have hsz : ((w.alloc (.cells #[.int .u8 v.kd, .string v.tx, .slice v.ks.A v.ks.xs.length v.ks.c, .slice v.cA v.cn v.cc, .int .i64 v.ln] 42)).alloc (.cells #[.int .i64 150] 3)).heap.size = w.heap.size + 1 + 1 := by rw [World.size_alloc, World.size_alloc]
  have HZ := hid hsz
  clear hb1 hk hs hok hsz hb0
  go_enter Try.func24, Try.ntmps24
  go_wp2_with fail
  refine HS.out.mono ?_
  rintro e w5 ⟨b, l5, rfl, ho5, hb5, hs5⟩
  have HO5 := hid ho5
  have HS5 := hid hs5
  clear ho5 hb5 hs5
  go_wp2_with fail
  go_ret
  exact ⟨b, rfl, HB1.out.trans (HO5.out.below (by omega) (by rw [HZ.out]; omega)), fun h => (HS5.out h).2.2⟩
theorem st_at {w : World} {A : Option Addr} {n c : Nat} {X : List StV} (h : SlN w A n c 13 (X.flatMap stC)) (k : Nat) (hk : k < X.length) : ∃ g o, A = some ⟨g, o, none⟩ ∧ g < w.heap.size ∧ w.cell? ⟨g, o + k * 13, none⟩ = some (.string X[k].nm) ∧ w.cell? ⟨g, o + k * 13 + 1, none⟩ = some (.string X[k].ac) ∧ w.cell? ⟨g, o + k * 13 + 2, none⟩ = some (.string X[k].un) ∧ w.cell? ⟨g, o + k * 13 + 3, none⟩ = some (.slice X[k].af.A X[k].af.xs.length X[k].af.c) ∧ w.cell? ⟨g, o + k * 13 + 4, none⟩ = some (.int .i64 X[k].r1) ∧ w.cell? ⟨g, o + k * 13 + 5, none⟩ = some (.int .i64 X[k].r2) ∧ w.cell? ⟨g, o + k * 13 + 6, none⟩ = some (.int .i64 X[k].r3) ∧ w.cell? ⟨g, o + k * 13 + 7, none⟩ = some (.int .i64 X[k].lim) ∧ w.cell? ⟨g, o + k * 13 + 8, none⟩ = some (.int .u8 X[k].nd.kd) ∧ w.cell? ⟨g, o + k * 13 + 9, none⟩ = some (.string X[k].nd.tx) ∧ w.cell? ⟨g, o + k * 13 + 10, none⟩ = some (.slice X[k].nd.ks.A X[k].nd.ks.xs.length X[k].nd.ks.c) ∧ w.cell? ⟨g, o + k * 13 + 11, none⟩ = some (.slice X[k].nd.cA X[k].nd.cn X[k].nd.cc) ∧ w.cell? ⟨g, o + k * 13 + 12, none⟩ = some (.int .i64 X[k].nd.ln) := by
  obtain ⟨g, o, h1, h2, h3⟩ := row_cells (m := 13) (fun _ => rfl) (by omega) h k hk
  exact ⟨g, o, h1, h2, h3 0 (by omega), h3 1 (by omega), h3 2 (by omega), h3 3 (by omega), h3 4 (by omega), h3 5 (by omega), h3 6 (by omega), h3 7 (by omega), h3 8 (by omega), h3 9 (by omega), h3 10 (by omega), h3 11 (by omega), h3 12 (by omega)⟩
/-- A step that is small, a definition that is. -/
def StSm (W : World) (s : StV) : Prop := s.nm.size ≤ 200 ∧ s.ac.size ≤ 200 ∧ s.un.size ≤ 200 ∧ s.af.xs.length ≤ 70 ∧ NdSm W 18 s.nd ∧ ∀ x ∈ s.af.xs, x.size ≤ 200
def DfSm (W : World) (D : DfV) : Prop := D.nm.size ≤ 200 ∧ D.tx.size ≤ 5000 ∧ D.st.xs.length ≤ 30 ∧ ∀ s ∈ D.st.xs, StSm W s
def SmD (w : World) (D : DfV) (e : Ending) (w' : World) : Prop := ∃ b : Bool, e = .returned (.bool b) ∧ Below w.heap.size w w' ∧ (b = true → DfSm w D)
theorem ndsm_below {W W' : World} (hb : Below W.heap.size W W') : ∀ {d : Nat} {v : NdV}, NdSm W d v → NdSm W' d v
  | 0, v, h => h
  | d + 1, v, h => let ⟨h1, h2, h3, l, h4, h5, h6⟩ := h; ⟨h1, h2, h3, l, h4, h5.below hb, fun x hx => ndsm_below hb (h6 x hx)⟩
set_option maxRecDepth 100000 in
set_option maxHeartbeats 16000000 in
theorem rsmall21_any (D : DfV) (w : World) (hok : DfOk w 18 D) :
    Calls Try.prog 10 #[.agg #[.string D.nm, .string D.tx, .slice D.st.A D.st.xs.length D.st.c]] w (SmD w D) := by
  obtain ⟨s, hws⟩ : ∃ s, w.heap.size = s := ⟨_, rfl⟩
  have hb1 := bw_a (Below.refl _ w) (.cells #[.string D.nm, .string D.tx, .slice D.st.A D.st.xs.length D.st.c] 24)
  have hk1 := Blk.new w 24 #[.string D.nm, .string D.tx, .slice D.st.A D.st.xs.length D.st.c]
  rw [hws] at hk1
  have HOK := hid hok
  have HB1 := hid hb1
  have HK1 := hid hk1
  have HWS := hid hws
  clear hok hb1 hk1
  by_cases c1 : 200 < D.nm.size
  · have c1i : (200 : Int) < (D.nm.size : Int) := by omega
    go_enter Try.func10, Try.ntmps10
    go_wp2_with fail
    go_ret
    exact ⟨false, rfl, HB1.out, fun h => by cases h⟩
  have c1i : ¬ (200 : Int) < (D.nm.size : Int) := by omega
  by_cases c2 : 5000 < D.tx.size
  · have c2i : (5000 : Int) < (D.tx.size : Int) := by omega
    go_enter Try.func10, Try.ntmps10
    go_wp2_with fail
    go_ret
    exact ⟨false, rfl, HB1.out, fun h => by cases h⟩
  have c2i : ¬ (5000 : Int) < (D.tx.size : Int) := by omega
  by_cases c3 : 30 < D.st.xs.length
  · have c3i : (30 : Int) < (D.st.xs.length : Int) := by omega
    go_enter Try.func10, Try.ntmps10
    go_wp2_with fail
    go_ret
    exact ⟨false, rfl, HB1.out, fun h => by cases h⟩
  have c3i : ¬ (30 : Int) < (D.st.xs.length : Int) := by omega
  obtain ⟨n, hn⟩ : ∃ n, D.st.xs.length = n := ⟨_, rfl⟩
  obtain ⟨SA, hSA⟩ : ∃ SA, D.st.A = SA := ⟨_, rfl⟩
  have HN := hid hn
  have HSA := hid hSA
  rw [hn] at c3 c3i
  rw [hn, hSA] at HB1 HK1 ⊢
  have HS1 := hid (show SlN (w.alloc (.cells #[.string D.nm, .string D.tx, .slice SA n D.st.c] 24)) SA n D.st.c 13 (D.st.xs.flatMap stC) by rw [← hn, ← hSA]; exact HOK.out.2.2.below (bw_a (Below.refl _ w) _))
  clear hn hSA
  go_enter Try.func10, Try.ntmps10
  go_wp2_with fail
  obtain ⟨w1, hw1⟩ : ∃ w1, w.alloc (.cells #[.string D.nm, .string D.tx, .slice SA n D.st.c] 24) = w1 := ⟨_, rfl⟩
  rw [hw1] at HB1 HK1 HS1 ⊢
  clear hw1
  have HR := hid (Below.refl w1.heap.size w1)
  have HZ1 := hid (HK1.out.lt)
  go_loopw [3] (fun i wr => ∃ k : Nat, k ≤ n ∧ i = .int .i64 (k : Int) ∧ (∀ j (hj : j < k) (hj2 : j < D.st.xs.length), StSm w D.st.xs[j]) ∧ Below w1.heap.size w1 wr) (fun i _ => n - (intOf i).toNat)
  case atStart => exact ⟨0, by omega, rfl, (fun j hj => by omega), HR.out⟩
  case round =>
    obtain ⟨k, hk, rfl, hst, hbe⟩ := hrel
    have HST := hid hst
    have HBE := hid hbe
    have hk1 := HK1.out.below hbe HZ1.out
    have d0 := hk1.cell 0
    have d1 := hk1.cell 1
    have d2 := hk1.cell 2
    simp only [List.getElem?_toArray, List.getElem?_cons_zero, List.getElem?_cons_succ] at d0 d1 d2
    have HK2 := hid hk1
    clear hst hbe hk1
    by_cases hlt : k < n
    · have hkl : k < D.st.xs.length := by have := HN.out; omega
      obtain ⟨g, o, hA, hg, e0, e1, e2, e3, e4, e5, e6, e7, e8, e9, e10, e11, e12⟩ := st_at (HS1.out.below HBE.out) k hkl
      have hxo := HOK.out.2.1 _ (List.getElem_mem hkl)
      have HNX := hid (fun (h : StSm w D.st.xs[k]) => (show ∀ j (hj : j < k + 1) (hj2 : j < D.st.xs.length), StSm w D.st.xs[j] from fun j hj hj2 => by
        rcases Nat.lt_or_ge j k with h2 | h2
        · exact HST.out j h2 hj2
        · obtain rfl : j = k := by omega
          exact h))
      generalize D.st.xs[k] = x at *
      rw [hA] at d2
      clear hA
      have HXO := hid hxo
      have hki : (k : Int) < (n : Int) := by omega
      have hk0 : (0 : Int) ≤ (k : Int) := by omega
      have hbx := (Blk.new wr 44 #[.string x.nm, .string x.ac, .string x.un, .slice x.af.A x.af.xs.length x.af.c, .int .i64 x.r1, .int .i64 x.r2, .int .i64 x.r3, .int .i64 x.lim, .int .u8 x.nd.kd, .string x.nd.tx, .slice x.nd.ks.A x.nd.ks.xs.length x.nd.ks.c, .slice x.nd.cA x.nd.cn x.nd.cc, .int .i64 x.nd.ln])
      have hba := bw_a (Below.refl _ wr) (.cells #[.string x.nm, .string x.ac, .string x.un, .slice x.af.A x.af.xs.length x.af.c, .int .i64 x.r1, .int .i64 x.r2, .int .i64 x.r3, .int .i64 x.lim, .int .u8 x.nd.kd, .string x.nd.tx, .slice x.nd.ks.A x.nd.ks.xs.length x.nd.ks.c, .slice x.nd.cA x.nd.cn x.nd.cc, .int .i64 x.nd.ln] 44)
      have hwr : Below w.heap.size w (wr.alloc (.cells #[.string x.nm, .string x.ac, .string x.un, .slice x.af.A x.af.xs.length x.af.c, .int .i64 x.r1, .int .i64 x.r2, .int .i64 x.r3, .int .i64 x.lim, .int .u8 x.nd.kd, .string x.nd.tx, .slice x.nd.ks.A x.nd.ks.xs.length x.nd.ks.c, .slice x.nd.cA x.nd.cn x.nd.cc, .int .i64 x.nd.ln] 44)) := bw_t HB1.out (bw_t HBE.out hba)
      have HWR := hid hwr
      have HBX := hid hbx
      have HBA := hid (bw_t HBE.out hba)
      have HK3 := hid (HK2.out.alloc (.cells #[.string x.nm, .string x.ac, .string x.un, .slice x.af.A x.af.xs.length x.af.c, .int .i64 x.r1, .int .i64 x.r2, .int .i64 x.r3, .int .i64 x.lim, .int .u8 x.nd.kd, .string x.nd.tx, .slice x.nd.ks.A x.nd.ks.xs.length x.nd.ks.c, .slice x.nd.cA x.nd.cn x.nd.cc, .int .i64 x.nd.ln] 44))
      clear hxo hbx hba hwr
      by_cases b1 : 200 < x.nm.size
      · have b1i : (200 : Int) < (x.nm.size : Int) := by omega
        go_wp2_with fail
        go_ret
        exact ⟨false, rfl, HWR.out, fun h => by cases h⟩
      have b1i : ¬ (200 : Int) < (x.nm.size : Int) := by omega
      by_cases b2 : 200 < x.ac.size
      · have b2i : (200 : Int) < (x.ac.size : Int) := by omega
        go_wp2_with fail
        go_ret
        exact ⟨false, rfl, HWR.out, fun h => by cases h⟩
      have b2i : ¬ (200 : Int) < (x.ac.size : Int) := by omega
      by_cases b3 : 200 < x.un.size
      · have b3i : (200 : Int) < (x.un.size : Int) := by omega
        go_wp2_with fail
        go_ret
        exact ⟨false, rfl, HWR.out, fun h => by cases h⟩
      have b3i : ¬ (200 : Int) < (x.un.size : Int) := by omega
      by_cases b4 : 70 < x.af.xs.length
      · have b4i : (70 : Int) < (x.af.xs.length : Int) := by omega
        go_wp2_with fail
        go_ret
        exact ⟨false, rfl, HWR.out, fun h => by cases h⟩
      have b4i : ¬ (70 : Int) < (x.af.xs.length : Int) := by omega
      have HNS := hid (rsmall20_any x.nd w (wr.alloc (.cells #[.string x.nm, .string x.ac, .string x.un, .slice x.af.A x.af.xs.length x.af.c, .int .i64 x.r1, .int .i64 x.r2, .int .i64 x.r3, .int .i64 x.lim, .int .u8 x.nd.kd, .string x.nd.tx, .slice x.nd.ks.A x.nd.ks.xs.length x.nd.ks.c, .slice x.nd.cA x.nd.cn x.nd.cc, .int .i64 x.nd.ln] 44)) HXO.out.2.2.2 HWR.out)
      go_wp2_with fail
      refine HNS.out.mono ?_
      rintro e w5 ⟨b, rfl, hb5, hs5⟩
      have HB5 := hid (bw_t HBA.out hb5)
      have hk5 := HBX.out.below hb5 (by rw [World.size_alloc]; omega)
      have HK5 := hid hk5
      have HLT5 := hid (by have := hb5.size; rw [World.size_alloc] at this; omega : wr.heap.size < w5.heap.size)
      have HK6 := hid (HK3.out.below hb5 HK3.out.lt)
      have HS5 := hid (fun (h : b = true) => hs5 h)
      have HW5 := hid (bw_t HWR.out hb5)
      clear hb5 hk5 hs5
      cases b with
      | false =>
        go_wp2_with fail
        go_ret
        exact ⟨false, rfl, HW5.out, fun h => by cases h⟩
      | true =>
        have HND := hid (HS5.out rfl)
        obtain ⟨m, hm⟩ : ∃ m, x.af.xs.length = m := ⟨_, rfl⟩
        obtain ⟨fA, hfA⟩ : ∃ fA, x.af.A = fA := ⟨_, rfl⟩
        have HM := hid hm
        have HFA := hid hfA
        have htx := HXO.out.2.1.below HW5.out
        have HTX := hid htx
        rw [hm] at b4 b4i HK5
        rw [hfA] at HK5
        clear hm hfA htx e0 e1 e2 e3 e4 e5 e6 e7 e8 e9 e10 e11 e12 d0 d1 d2
        have f0 := HK5.out.cell 3
        simp only [List.getElem?_toArray, List.getElem?_cons_zero, List.getElem?_cons_succ] at f0
        go_wp2_with fail
        obtain ⟨wz, rfl⟩ : ∃ z, z = w5 := ⟨_, rfl⟩
        go_loopw [5] (fun i wr => ∃ p : Nat, p ≤ m ∧ i = .int .i64 (p : Int) ∧ (∀ j (hj : j < p) (hj2 : j < x.af.xs.length), x.af.xs[j].size ≤ 200) ∧ wr = wz) (fun i _ => m - (intOf i).toNat)
        case atStart => exact ⟨0, by omega, rfl, (fun j hj => by omega), rfl⟩
        case round =>
          obtain ⟨p, hp, rfl, hps, rfl⟩ := hrel
          have HPS := hid hps
          clear hps
          by_cases hlp : p < m
          · have hpl : p < x.af.xs.length := by have := HM.out; omega
            obtain ⟨g2, o2, hA2, hg2, t0⟩ := tx_at HTX.out p hpl
            have HPB := hid (fun (h : x.af.xs[p].size ≤ 200) => (show ∀ j (hj : j < p + 1) (hj2 : j < x.af.xs.length), x.af.xs[j].size ≤ 200 from fun j hj hj2 => by
              rcases Nat.lt_or_ge j p with h2 | h2
              · exact HPS.out j h2 hj2
              · obtain rfl : j = p := by omega
                exact h))
            generalize x.af.xs[p] = y at *
            rw [HFA.out] at hA2
            subst hA2
            have hpi : (p : Int) < (m : Int) := by omega
            have hp0 : (0 : Int) ≤ (p : Int) := by omega
            by_cases hy : 200 < y.size
            · have hyi : (200 : Int) < (y.size : Int) := by omega
              clear HPB
              go_wp2_with fail
              go_ret
              exact ⟨false, rfl, HW5.out, fun h => by cases h⟩
            · have hyi : ¬ (200 : Int) < (y.size : Int) := by omega
              have HPB2 := hid (HPB.out (by omega))
              clear HPB
              go_wp2_with fail
              go_roundw
              case rel => exact ⟨p + 1, by omega, by go_num, HPB2.out, (by first | trivial | rfl)⟩
              case measure => simp [intOf] <;> omega
          · obtain rfl : p = m := by omega
            have hnp : ¬ (p : Int) < (p : Int) := by omega
            have HX := hid (HNX.out ⟨by omega, by omega, by omega, by have := HM.out; omega, by
              have h := HND.out
              exact h, fun z hz => by
                obtain ⟨j, hj, rfl⟩ := List.getElem_of_mem hz
                exact HPS.out j (by have := HM.out; omega) hj⟩)
            go_wp2_with fail
            go_roundw
            case rel => exact ⟨k + 1, by omega, by go_num, HX.out, HB5.out⟩
            case measure => simp [intOf] <;> omega
    · obtain rfl : k = n := by omega
      have hnk : ¬ (k : Int) < (k : Int) := by omega
      go_wp2_with fail
      go_ret
      refine ⟨true, rfl, bw_t HB1.out HBE.out, fun _ => ⟨by omega, by omega, by have := HN.out; omega, fun x hx => ?_⟩⟩
      obtain ⟨j, hj, rfl⟩ := List.getElem_of_mem hx
      exact HST.out j (by have := HN.out; omega) hj
end Go.Proofs.Ytejdlhjbakndaaa
