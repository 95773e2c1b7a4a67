/- Whether trees are small: walks. -/
import Derived.Test.YtejdlhjbakndaaaDfA
import Derived.Test.YtejdlhjbakndaaaDgMath
set_option linter.unusedVariables false
namespace Go.Proofs.Ytejdlhjbakndaaa
open Go.RowKit
theorem flatD {α : Type} (f : α → List Value) (m : Nat) (hf : ∀ x, (f x).length = m) : ∀ (X : List α) (k : Nat) (hk : k < X.length) (i : Nat), i < m → (X.flatMap f)[k * m + i]? = (f X[k])[i]?
  | [], k, hk, _, _ => by simp at hk
  | x :: X, 0, _, i, hi => by
    rw [List.flatMap_cons, List.getElem?_append_left (by rw [hf]; omega)]; simp
  | x :: X, k + 1, hk, i, hi => by
    rw [List.flatMap_cons, List.getElem?_append_right (by rw [hf, Nat.succ_mul]; omega), hf, show (k + 1) * m + i - m = k * m + i by rw [Nat.succ_mul]; omega]
    exact flatD f m hf X k (by simpa using hk) i hi
/-- The cells of one of a row. -/
theorem row_cells {α : Type} {f : α → List Value} {m : Nat} {w : World} {A : Option Addr} {n c : Nat} {X : List α} (hf : ∀ x, (f x).length = m) (hm : 0 < m) (h : SlN w A n c m (X.flatMap f)) (k : Nat) (hk : k < X.length) :
    ∃ g o, A = some ⟨g, o, none⟩ ∧ g < w.heap.size ∧ ∀ i (hi : i < m), w.cell? ⟨g, o + (k * m + i), none⟩ = (f X[k])[i]? := by
  have h0 := flatD f m hf X k hk 0 hm
  have hl : 0 < (f X[k]).length := by rw [hf]; exact hm
  rw [List.getElem?_eq_getElem hl] at h0
  obtain ⟨g, o, h1, h2, h3⟩ := h.rd (k * m + 0) _ h0
  refine ⟨g, o, h1, h2, fun i hi => ?_⟩
  have h4 := flatD f m hf X k hk i hi
  have hl2 : i < (f X[k]).length := by rw [hf]; exact hi
  rw [List.getElem?_eq_getElem hl2] at h4
  obtain ⟨g', o', h5, -, h6⟩ := h.rd (k * m + i) _ h4
  have e := h1.symm.trans h5
  injection e with e
  injection e with e1 e2
  subst e1 e2
  rw [h6, List.getElem?_eq_getElem hl2]
theorem tx_at {w : World} {s : SlV ByteArray} (h : TxOk w s) (k : Nat) (hk : k < s.xs.length) : ∃ g o, s.A = some ⟨g, o, none⟩ ∧ g < w.heap.size ∧ w.cell? ⟨g, o + k, none⟩ = some (.string s.xs[k]) := by
  obtain ⟨g, o, h1, h2, h3⟩ := row_cells (m := 1) (fun _ => rfl) (by omega) h.2 k hk
  exact ⟨g, o, h1, h2, by have := h3 0 (by omega); simpa [svC] using this⟩
theorem nd_at {w : World} {A : Option Addr} {n c : Nat} {X : List NdV} (h : SlN w A n c 5 (X.flatMap ndC)) (k : Nat) (hk : k < X.length) : ∃ g o, A = some ⟨g, o, none⟩ ∧ g < w.heap.size ∧ w.cell? ⟨g, o + k * 5, none⟩ = some (.int .u8 X[k].kd) ∧ w.cell? ⟨g, o + k * 5 + 1, none⟩ = some (.string X[k].tx) ∧ w.cell? ⟨g, o + k * 5 + 2, none⟩ = some (.slice X[k].ks.A X[k].ks.xs.length X[k].ks.c) ∧ w.cell? ⟨g, o + k * 5 + 3, none⟩ = some (.slice X[k].cA X[k].cn X[k].cc) ∧ w.cell? ⟨g, o + k * 5 + 4, none⟩ = some (.int .i64 X[k].ln) := by
  obtain ⟨g, o, h1, h2, h3⟩ := row_cells (m := 5) (fun _ => rfl) (by omega) h k hk
  exact ⟨g, o, h1, h2, h3 0 (by omega), h3 1 (by omega), h3 2 (by omega), h3 3 (by omega), h3 4 (by omega)⟩
/-- A tree that is small: so many levels at most, its texts and keys short. -/
def NdSm (W : World) : Nat → NdV → Prop
  | 0, _ => False
  | d + 1, v => v.tx.size ≤ 5000 ∧ v.ks.xs.length ≤ 200 ∧ (∀ k ∈ v.ks.xs, k.size ≤ 200) ∧ ∃ l : List NdV, l.length = v.cn ∧ SlN W v.cA v.cn v.cc 5 (l.flatMap ndC) ∧ ∀ x ∈ l, NdSm W d x
def SmP (w0 w : World) (g lv : Nat) (v : NdV) (e : Ending) (w' : World) : Prop := ∃ (b : Bool) (l' : Int), e = .returned (.bool b) ∧ Only g w w' ∧ Blk w' g 3 #[.int .i64 l'] ∧ (b = true → 0 ≤ l' ∧ l' ≤ 150 ∧ NdSm w0 lv v)
set_option maxRecDepth 100000 in
set_option maxHeartbeats 16000000 in
theorem small20_any (w0 : World) : ∀ (d : Nat) (lv : Nat) (v : NdV) (l : Int) (g : Nat) (w : World), lv ≤ d → lv ≤ 1000 → NdOk w0 d v → Below w0.heap.size w0 w → w0.heap.size ≤ g → Blk w g 3 #[.int .i64 l] → 0 ≤ l → l ≤ 150 →
    Calls Try.prog 43 #[.agg #[.int .u8 v.kd, .string v.tx, .slice v.ks.A v.ks.xs.length v.ks.c, .slice v.cA v.cn v.cc, .int .i64 v.ln], .int .i64 (lv : Int), .pointer (some ⟨g, 0, none⟩)] w (SmP w0 w g lv v) := by
  intro d
  induction d with
  | zero =>
    intro lv v l g w hlv h1000 hok hb hg hk h0 h1
    obtain rfl : lv = 0 := by omega
    have hlt := hk.lt
    have c0 := hk.cell 0
    have f0 := hk.frozen 0
    simp only [List.getElem?_toArray, List.getElem?_cons_zero, List.getElem?_cons_succ] at c0
    have hwr : IntKind.i64.wrap (l - 1) = l - 1 := IntWalk.i64_in _ (by omega)
    have ho := ((Only.refl g w).set_ 0 (.int .i64 (l - 1))).alloc (.cells #[.int .u8 v.kd, .string v.tx, .slice v.ks.A v.ks.xs.length v.ks.c, .slice v.cA v.cn v.cc, .int .i64 v.ln] 42)
    have hbk := (hk.set_ 0 (.int .i64 (l - 1))).alloc (.cells #[.int .u8 v.kd, .string v.tx, .slice v.ks.A v.ks.xs.length v.ks.c, .slice v.cA v.cn v.cc, .int .i64 v.ln] 42)
    have HO := hid ho
    have HBK := hid hbk
    clear ho hbk hk
    go_enter Try.func43, Try.ntmps43
    go_wp2_with fail
    go_ret
    exact ⟨false, _, rfl, HO.out, HBK.out, fun h => by cases h⟩
  | succ d ih =>
    intro lv v l g w hlv h1000 hok hb hg hk h0 h1
    have hlt := hk.lt
    have c0 := hk.cell 0
    have f0 := hk.frozen 0
    simp only [List.getElem?_toArray, List.getElem?_cons_zero, List.getElem?_cons_succ] at c0
    have hwr : IntKind.i64.wrap (l - 1) = l - 1 := IntWalk.i64_in _ (by omega)
    have ho := ((Only.refl g w).set_ 0 (.int .i64 (l - 1))).alloc (.cells #[.int .u8 v.kd, .string v.tx, .slice v.ks.A v.ks.xs.length v.ks.c, .slice v.cA v.cn v.cc, .int .i64 v.ln] 42)
    have hbk := (hk.set_ 0 (.int .i64 (l - 1))).alloc (.cells #[.int .u8 v.kd, .string v.tx, .slice v.ks.A v.ks.xs.length v.ks.c, .slice v.cA v.cn v.cc, .int .i64 v.ln] 42)
    have hkn := Blk.new (w.setCell ⟨g, 0, none⟩ (.int .i64 (l - 1))) 42 #[.int .u8 v.kd, .string v.tx, .slice v.ks.A v.ks.xs.length v.ks.c, .slice v.cA v.cn v.cc, .int .i64 v.ln]
    rw [World.size_setCell] at hkn
    have HO := hid ho
    have HBK := hid hbk
    have HKN := hid hkn
    have HB := hid hb
    have HOKK := hid hok
    have HIH := hid ih
    have HG := hid (And.intro hg hlt)
    clear ho hbk hk hkn hb hok ih hg
    by_cases hl1 : lv < 1
    · obtain rfl : lv = 0 := by omega
      go_enter Try.func43, Try.ntmps43
      go_wp2_with fail
      go_ret
      exact ⟨false, _, rfl, HO.out, HBK.out, fun h => by cases h⟩
    have hl1i : ¬ (lv : Int) < 1 := by omega
    by_cases hl0 : l - 1 < 0
    · go_enter Try.func43, Try.ntmps43
      go_wp2_with fail
      go_ret
      exact ⟨false, _, rfl, HO.out, HBK.out, fun h => by cases h⟩
    by_cases ht : 5000 < v.tx.size
    · have hti : (5000 : Int) < (v.tx.size : Int) := by omega
      go_enter Try.func43, Try.ntmps43
      go_wp2_with fail
      go_ret
      exact ⟨false, _, rfl, HO.out, HBK.out, fun h => by cases h⟩
    have hti : ¬ (5000 : Int) < (v.tx.size : Int) := by omega
    by_cases hkl : 200 < v.ks.xs.length
    · have hkli : (200 : Int) < (v.ks.xs.length : Int) := by omega
      go_enter Try.func43, Try.ntmps43
      go_wp2_with fail
      go_ret
      exact ⟨false, _, rfl, HO.out, HBK.out, fun h => by cases h⟩
    have hkli : ¬ (200 : Int) < (v.ks.xs.length : Int) := by omega
    obtain ⟨kn, hkn⟩ : ∃ kn, v.ks.xs.length = kn := ⟨_, rfl⟩
    have HKNN := hid hkn
    rw [hkn] at hkl hkli HKN HO HBK ⊢
    clear hkn
    go_enter Try.func43, Try.ntmps43
    go_wp2_with fail
    obtain ⟨w1, hw1⟩ : ∃ w1, (w.setCell ⟨g, 0, none⟩ (.int .i64 (l - 1))).alloc (.cells #[.int .u8 v.kd, .string v.tx, .slice v.ks.A kn v.ks.c, .slice v.cA v.cn v.cc, .int .i64 v.ln] 42) = w1 := ⟨_, rfl⟩
    obtain ⟨q, hq⟩ : ∃ q, w.heap.size = q := ⟨_, rfl⟩
    rw [hq] at HKN
    simp only [hq]
    have hbw : Below w0.heap.size w0 w1 := HB.out.trans (by rw [← hw1]; exact HO.out.below HG.out.1 HB.out.size)
    have hqg : q ≠ g := by have := HG.out.2; omega
    have hq0 : w0.heap.size ≤ q := by have := HB.out.size; omega
    rw [hw1] at HO HBK HKN ⊢
    have d0 := HKN.out.cell 0
    have d1 := HKN.out.cell 1
    have d2 := HKN.out.cell 2
    have d3 := HKN.out.cell 3
    have d4 := HKN.out.cell 4
    simp only [List.getElem?_toArray, List.getElem?_cons_zero, List.getElem?_cons_succ] at d0 d1 d2 d3 d4
    have HBW := hid hbw
    have HTX := hid (HOKK.out.base.2.2.2.below hbw)
    have HQ := hid (And.intro hqg hq0)
    clear hbw hw1 c0 f0 hq hqg hq0
    go_loopw [7] (fun i wr => ∃ k : Nat, k ≤ kn ∧ i = .int .i64 (k : Int) ∧ (∀ j (hj : j < k) (hj2 : j < v.ks.xs.length), v.ks.xs[j].size ≤ 200) ∧ wr = w1) (fun i _ => kn - (intOf i).toNat)
    case atStart => exact ⟨0, by omega, rfl, (fun j hj => by omega), rfl⟩
    case round =>
      obtain ⟨k, hk, rfl, hks, rfl⟩ := hrel
      have HKS := hid hks
      clear hks
      by_cases hlt : k < kn
      · have hkl : k < v.ks.xs.length := by have := HKNN.out; omega
        obtain ⟨g2, o2, hA, hg2, t0⟩ := tx_at HTX.out k hkl
        have HK0 := hid (show ∀ (P : ByteArray → Prop) (j : Nat) (hj : j < v.ks.xs.length), P v.ks.xs[k] → j = k → P v.ks.xs[j] from fun P j hj h e => by subst e; exact h)
        have HKB := hid (fun (h : v.ks.xs[k].size ≤ 200) => (show ∀ j (hj : j < k + 1) (hj2 : j < v.ks.xs.length), v.ks.xs[j].size ≤ 200 from fun j hj hj2 => by
          rcases Nat.lt_or_ge j k with h2 | h2
          · exact HKS.out j h2 hj2
          · obtain rfl : j = k := by omega
            exact h))
        generalize v.ks.xs[k] = x at *
        rw [hA] at d2
        clear hA
        have hki : (k : Int) < (kn : Int) := by omega
        have hk0 : (0 : Int) ≤ (k : Int) := by omega
        by_cases hx : 200 < x.size
        · have hxi : (200 : Int) < (x.size : Int) := by omega
          clear HKB HK0
          go_wp2_with fail
          go_ret
          exact ⟨false, _, rfl, HO.out, HBK.out, fun h => by cases h⟩
        · have hxi : ¬ (200 : Int) < (x.size : Int) := by omega
          have HKB2 := hid (HKB.out (by omega))
          clear HKB HK0
          go_wp2_with fail
          go_roundw
          case rel => exact ⟨k + 1, by omega, by go_num, HKB2.out, (by first | trivial | rfl)⟩
          case measure => simp [intOf] <;> omega
      · obtain ⟨w1, rfl⟩ : ∃ x, x = wr := ⟨_, rfl⟩
        obtain rfl : k = kn := by omega
        have hnk : ¬ (k : Int) < (k : Int) := by omega
        have HKA := hid (show ∀ x ∈ v.ks.xs, x.size ≤ 200 from fun x hx => by
          obtain ⟨j, hj, rfl⟩ := List.getElem_of_mem hx
          exact HKS.out j (by have := HKNN.out; omega) hj)
        obtain ⟨d', L, hdl, hL1, hL2, hL3⟩ : ∃ (d' : Nat) (L : List NdV), d' = d ∧ L.length = v.cn ∧ SlN w0 v.cA v.cn v.cc 5 (L.flatMap ndC) ∧ ∀ x ∈ L, NdOk w0 d x := by
          obtain ⟨l, h1, h2, h3⟩ := HOKK.out.2
          exact ⟨d, l, rfl, h1, h2, h3⟩
        have HL1 := hid hL1
        have HL2 := hid (hL2.below HBW.out)
        have HL20 := hid hL2
        have HL3 := hid hL3
        obtain ⟨cn, hcn⟩ : ∃ cn, v.cn = cn := ⟨_, rfl⟩
        have HCN := hid hcn
        rw [hcn] at d3 HL1 HL2 HKN
        obtain ⟨lv', hlv'⟩ : ∃ lv', lv' + 1 = lv := ⟨lv - 1, by omega⟩
        have HLV := hid hlv'
        have hwl : IntKind.i64.wrap ((lv : Int) - 1) = (lv' : Int) := by rw [IntWalk.i64_in _ (by omega)]; omega
        have hlvd : lv' ≤ d := by omega
        have HLVD := hid hlvd
        have HLB := hid (And.intro (by omega : 0 ≤ l - 1) (by omega : l - 1 ≤ 150))
        have HOR := hid (Only.refl g w1)
        have hcnb : cn ≤ 9223372036854775807 := by have := HL2.out.cap; have := HL2.out.small; omega
        clear hL1 hL2 hL3 hcn hdl hlv' hlvd hlv
        go_wp2_with fail
        go_loopw [8] (fun i wr => ∃ (k : Nat) (l' : Int), k ≤ cn ∧ i = .int .i64 (k : Int) ∧ (0 ≤ l' ∧ l' ≤ 150) ∧ Only g w1 wr ∧ Blk wr g 3 #[.int .i64 l'] ∧ (∀ j (hj : j < k) (hj2 : j < L.length), NdSm w0 lv' L[j])) (fun i _ => cn - (intOf i).toNat)
        case atStart => exact ⟨0, l - 1, by omega, rfl, HLB.out, HOR.out, HBK.out, (fun j hj => by omega)⟩
        case round =>
          obtain ⟨p, l', hp, rfl, hl', hon, hbk, hsm⟩ := hrel
          have HON := hid hon
          have HBK2 := hid hbk
          have HSM := hid hsm
          have HLP := hid hl'
          have hkn2 := hon.blk HKN.out HQ.out.1
          have d0 := hkn2.cell 0
          have d1 := hkn2.cell 1
          have d2 := hkn2.cell 2
          have d3 := hkn2.cell 3
          have d4 := hkn2.cell 4
          simp only [List.getElem?_toArray, List.getElem?_cons_zero, List.getElem?_cons_succ] at d0 d1 d2 d3 d4
          have hbwr : Below w0.heap.size w0 wr := HBW.out.trans (hon.below HG.out.1 HBW.out.size)
          have HBWR := hid hbwr
          clear hon hbk hsm hl' hkn2 hbwr
          by_cases hlt : p < cn
          · have hpl : p < L.length := by have := HL1.out; omega
            obtain ⟨g2, o2, hA, hg2, n0, n1, n2, n3, n4⟩ := nd_at (HL20.out.below HBWR.out) p hpl
            have hcall := HIH.out lv' L[p] l' g wr HLVD.out (by have := HLV.out; omega) (HL3.out _ (List.getElem_mem hpl)) HBWR.out HG.out.1 HBK2.out HLP.out.1 HLP.out.2
            have HNX := hid (fun (h : NdSm w0 lv' L[p]) => (show ∀ j (hj : j < p + 1) (hj2 : j < L.length), NdSm w0 lv' L[j] from fun j hj hj2 => by
              rcases Nat.lt_or_ge j p with h2 | h2
              · exact HSM.out j h2 hj2
              · obtain rfl : j = p := by omega
                exact h))
            generalize L[p] = y at *
            have HCALL := hid hcall
            rw [hA] at d3
            clear hA
            have hpi : (p : Int) < (cn : Int) := by omega
            have hp0 : (0 : Int) ≤ (p : Int) := by omega
            clear hcall
            go_wp2_with fail
            refine HCALL.out.mono ?_
            rintro e w5 ⟨b, l5, rfl, ho5, hb5, hs5⟩
            have HO5 := hid ((HON.out).trans ho5)
            have HB5 := hid hb5
            have HS5 := hid hs5
            clear ho5 hb5 hs5
            cases b with
            | false =>
              go_wp2_with fail
              go_ret
              exact ⟨false, _, rfl, HO.out.trans HO5.out, HB5.out, fun h => by cases h⟩
            | true =>
              have HS6 := hid (HS5.out rfl)
              go_wp2_with fail
              go_roundw
              case rel => exact ⟨p + 1, l5, by omega, by go_num, ⟨HS6.out.1, HS6.out.2.1⟩, HO5.out, HB5.out, HNX.out HS6.out.2.2⟩
              case measure => simp [intOf] <;> omega
          · obtain rfl : p = cn := by omega
            have hnp : ¬ (p : Int) < (p : Int) := by omega
            go_wp2_with fail
            go_ret
            refine ⟨true, _, rfl, HO.out.trans HON.out, HBK2.out, fun _ => ⟨HLP.out.1, HLP.out.2, ?_⟩⟩
            rw [← HLV.out]
            refine ⟨by omega, by have := HKNN.out; omega, HKA.out, L, by rw [HL1.out, HCN.out], HL20.out, fun x hx => ?_⟩
            obtain ⟨j, hj, rfl⟩ := List.getElem_of_mem hx
            exact HSM.out j (by have := HL1.out; omega) hj
end Go.Proofs.Ytejdlhjbakndaaa
