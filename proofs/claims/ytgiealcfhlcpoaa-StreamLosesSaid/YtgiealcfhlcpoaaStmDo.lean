/- A stream to which things happened, one behind the other. -/
import Derived.Test.YtgiealcfhlcpoaaStmFlip
set_option linter.unusedVariables false
namespace Go.Proofs.Ytgiealcfhlcpoaa
open Go.RowKit
structure EdV where
  k : Int
  p : Int
  n : Int
  t : Int
  s : SlV UInt8
def edC (e : EdV) : List Value := [.int .i64 e.k, .int .i64 e.p, .int .i64 e.n, .int .i64 e.t, .slice e.s.A e.s.xs.length e.s.c]
def edA (e : EdV) : Value := .agg #[.int .i64 e.k, .int .i64 e.p, .int .i64 e.n, .int .i64 e.t, .slice e.s.A e.s.xs.length e.s.c]
theorem edRow_get {w : World} {A : Option Addr} {n c : Nat} {l : List EdV} (hn : l.length = n) (h : SlN w A n c 5 (l.flatMap edC)) (j : Nat) (hj : j < l.length) :
    ∃ b off, A = some ⟨b, off, none⟩ ∧ b < w.heap.size ∧ w.cell? ⟨b, off + j * 5, none⟩ = some (.int .i64 l[j].k) ∧ w.cell? ⟨b, off + j * 5 + 1, none⟩ = some (.int .i64 l[j].p) ∧ w.cell? ⟨b, off + j * 5 + 2, none⟩ = some (.int .i64 l[j].n) ∧ w.cell? ⟨b, off + j * 5 + 3, none⟩ = some (.int .i64 l[j].t) ∧ w.cell? ⟨b, off + j * 5 + 4, none⟩ = some (.slice l[j].s.A l[j].s.xs.length l[j].s.c) := by
  have hn0 : (l.flatMap edC)[j * 5 + 0]? = _ := flatMap_get edC 5 l j 0 hj (fun _ _ => rfl) (by omega)
  have hn1 : (l.flatMap edC)[j * 5 + 1]? = _ := flatMap_get edC 5 l j 1 hj (fun _ _ => rfl) (by omega)
  have hn2 : (l.flatMap edC)[j * 5 + 2]? = _ := flatMap_get edC 5 l j 2 hj (fun _ _ => rfl) (by omega)
  have hn3 : (l.flatMap edC)[j * 5 + 3]? = _ := flatMap_get edC 5 l j 3 hj (fun _ _ => rfl) (by omega)
  have hn4 : (l.flatMap edC)[j * 5 + 4]? = _ := flatMap_get edC 5 l j 4 hj (fun _ _ => rfl) (by omega)
  obtain ⟨b, off, rfl, hb, t0⟩ := h.rd _ _ hn0
  have t1 := h.rd.addr _ _ hn1
  have t2 := h.rd.addr _ _ hn2
  have t3 := h.rd.addr _ _ hn3
  have t4 := h.rd.addr _ _ hn4
  rw [addr_add] at t1 t2 t3 t4
  simp only [Nat.add_zero, ← Nat.add_assoc] at t0 t1 t2 t3 t4
  exact ⟨b, off, rfl, hb, t0, t1, t2, t3, t4⟩
theorem EdS.of_row {B n c : Nat} {w : World} {A : Option Addr} {bs : List UInt8} (h : w.ownsRow B 5 1 (.slice A n c) n (bs.map bv)) : EdS B w A n c bs := by
  have hl := h.1
  rw [List.length_map, Nat.mul_one] at hl
  refine ⟨Sl.of_own' h, hl, ?_⟩
  rcases h.2 with ⟨h1, h2⟩ | ⟨g, cap, cur, h1, h2, h3, -⟩
  · injection h1 with e1; exact .inl e1
  · injection h1 with e1; exact .inr ⟨g, cur, e1, h2, h3⟩
theorem EdS.below {B n c : Nat} {w w' : World} {A : Option Addr} {bs : List UInt8} (h : EdS B w A n c bs) (hb : Below w.heap.size w w') : EdS B w' A n c bs :=
  ⟨h.sl.below hb, h.len, h.own.imp id fun ⟨g, cs, e, hB, hk⟩ => ⟨g, cs, e, hB, hk.below hb hk.lt⟩⟩
theorem EdS.mono {B B' n c : Nat} {w : World} {A : Option Addr} {bs : List UInt8} (h : EdS B w A n c bs) (hb : B' ≤ B) : EdS B' w A n c bs :=
  ⟨h.sl, h.len, h.own.imp id fun ⟨g, cs, e, hB, hk⟩ => ⟨g, cs, e, Nat.le_trans hb hB, hk⟩⟩
theorem EdS.far {B n c : Nat} {w w' W : World} {A : Option Addr} {bs : List UInt8} (h : EdS B w A n c bs) (hb : Below B W w) (hB : B ≤ W.heap.size) (hc : Chg (fun q => ∃ o, A = some ⟨q, o, none⟩) w w') : Below B W w' := by
  have hs := hb.size
  refine hb.trans ((hc.mono (T := fun q => B ≤ q) (fun q _ hq => ?_)).below (fun q h => h) (by omega))
  obtain ⟨o, e⟩ := hq
  rcases h.own with e' | ⟨g, cs, e', hg, -⟩
  · rw [e'] at e; cases e
  · rw [e'] at e
    injection e with e
    injection e with e1
    omega
set_option maxRecDepth 100000 in
set_option maxHeartbeats 4000000 in
theorem sdo_any (l : List EdV) (m : Nat) (Al : Option Addr) (cl : Nat) (bs : List UInt8) (n : Nat) (A : Option Addr) (c : Nat) (w : World) (hm : l.length = m) (hrow : SlN w Al m cl 5 (l.flatMap edC)) (hn : bs.length = n) (hl : n ≤ 1000000) (hs : Sl w A c (bs.map bv)) (f : Nat → List UInt8) (h0 : f 0 = bs)
    (hstep : ∀ j (hj : j < l.length) W A' n' c', EdS w.heap.size W A' n' c' (f j) → Below w.heap.size w W → Calls Try.prog 18 #[.slice A' n' c', edA l[j]] W fun e w' => ∃ A2 n2 c2, e = .returned (.slice A2 n2 c2) ∧ EdS w.heap.size w' A2 n2 c2 (f (j + 1)) ∧ Chg (fun q => ∃ o, A' = some ⟨q, o, none⟩) W w') :
    Calls Try.prog 8 #[.slice A n c, .slice Al m cl] w fun e w' => ∃ A2 n2 c2, e = .returned (.slice A2 n2 c2) ∧ EdS w.heap.size w' A2 n2 c2 (f m) ∧ Below w.heap.size w w' := by
  obtain ⟨s, hws⟩ : ∃ s, w.heap.size = s := ⟨_, rfl⟩
  have hcl := clone_any bs n A c w hn (by omega) hs
  have hmc := hrow.cap
  have hms := hrow.small
  have HCL := hid hcl
  have HST := hid hstep
  have HROW := hid hrow
  have HM := hid hm
  have HF0 := hid h0
  clear hcl hstep hrow hm h0 hn hs
  rw [hws] at HST ⊢
  go_enter Try.func8, Try.ntmps8
  go_wp2_with fail
  refine HCL.out.mono ?_
  rintro e w1 ⟨v1, rfl, ho1, hb1⟩
  rw [hws] at ho1 hb1
  obtain ⟨A1, c1, rfl⟩ := row_slice_g ho1
  have hed := EdS.of_row ho1
  rw [← HF0.out] at hed
  have HED := hid hed
  have HB1 := hid hb1
  clear hed ho1 hb1 HCL
  go_wp2_with fail
  go_loopw [5, 12] (fun v i wr => ∃ j : Nat, j ≤ m ∧ i = .int .i64 (j : Int) ∧ ∃ A' n' c', v = .slice A' n' c' ∧ EdS s wr A' n' c' (f j) ∧ Below s w wr) (fun _ i _ => m - (intOf i).toNat)
  case atStart => exact ⟨0, by omega, rfl, _, _, _, rfl, HED.out, HB1.out⟩
  case round =>
    obtain ⟨j, hj, rfl, A', n', c', rfl, hed, hb⟩ := hrel
    have HE := hid hed
    have HB := hid hb
    clear hed hb
    by_cases hlt : j < m
    · have hjl : j < l.length := by have := HM.out; omega
      obtain ⟨b, off, rfl, hbl, t0, t1, t2, t3, t4⟩ := edRow_get HM.out HROW.out j hjl
      have hst := HST.out j hjl
      unfold edA at hst
      generalize l[j] = x at *
      obtain ⟨xk, xp, xn, xt, xA, xc, xs⟩ := x
      simp only at t0 t1 t2 t3 t4 hst
      generalize xs.length = xl at *
      have hb2 : b < s := by omega
      have t0 := (HB.out.cell (p := ⟨b, off + j * 5, none⟩) hb2).trans t0
      have t1 := (HB.out.cell (p := ⟨b, off + j * 5 + 1, none⟩) hb2).trans t1
      have t2 := (HB.out.cell (p := ⟨b, off + j * 5 + 2, none⟩) hb2).trans t2
      have t3 := (HB.out.cell (p := ⟨b, off + j * 5 + 3, none⟩) hb2).trans t3
      have t4 := (HB.out.cell (p := ⟨b, off + j * 5 + 4, none⟩) hb2).trans t4
      have hki : (j : Int) < (m : Int) := by omega
      have hk0 : (0 : Int) ≤ (j : Int) := by omega
      have HST2 := hid hst
      clear hst
      go_wp2_with fail
      have hba := bw_a (Below.refl wr.heap.size wr) (.cells #[.int .i64 xk, .int .i64 xp, .int .i64 xn, .int .i64 xt, .slice xA xl xc] 32)
      have hbw := HB.out.trans (hba.mono (by have := HB.out.size; omega))
      refine (HST2.out _ A' n' c' (HE.out.below hba) hbw).mono ?_
      rintro e w5 ⟨A5, n5, c5, rfl, hed5, hch5⟩
      have HE5 := hid hed5
      have HB5 := hid (EdS.far (W := w) (HE.out.below hba) hbw (by omega) hch5)
      clear hed5 hch5 hba hbw
      go_wp2_with fail
      go_roundw
      case rel => exact ⟨j + 1, by omega, by go_num, _, _, _, rfl, HE5.out, HB5.out⟩
      case measure => simp [intOf]; omega
    · obtain rfl : j = m := by omega
      have hki : ¬ (j : Int) < (j : Int) := by omega
      go_wp2_with fail
      go_ret
      exact ⟨_, _, _, rfl, HE.out, HB.out⟩
end Go.Proofs.Ytgiealcfhlcpoaa
