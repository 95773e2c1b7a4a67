/- The document's feeder: what is held. -/
import Derived.Test.YtnfodgjihdoncaaFdSame
import Derived.Test.YtnfodgjihdoncaaRsRef
set_option linter.unusedVariables false
namespace Go.Proofs.Ytnfodgjihdoncaa
open Go.RowKit
/-- What the document's feeder has, in its block: all that came, in a row of its own. -/
structure RfS (B g : Nat) (T : List UInt8) (told : Nat) (over : Bool) (A : Option Addr) (n c : Nat) (w : World) : Prop where
  blk : Blk w g 45 #[.slice A n c, .int .i64 (told : Int), .bool over]
  row : w.ownsRow B 5 1 (.slice A n c) n (T.map bv)
theorem RfS.len {B g : Nat} {T : List UInt8} {told : Nat} {over : Bool} {A : Option Addr} {n c : Nat} {w : World} (h : RfS B g T told over A n c w) : T.length = n := by have := h.row.1; simpa using this
theorem RfS.below {B g : Nat} {T : List UInt8} {told : Nat} {over : Bool} {A : Option Addr} {n c : Nat} {w w' : World} (h : RfS B g T told over A n c w) (hb : Below w.heap.size w w') : RfS B g T told over A n c w' := ⟨h.blk.below hb h.blk.lt, own_below h.row hb⟩
set_option maxRecDepth 100000 in
set_option maxHeartbeats 2000000 in
theorem rfheld_over (g : Nat) (vb : Value) (told : Nat) (w : World) (hk : Blk w g 45 #[vb, .int .i64 (told : Int), .bool true]) :
    Calls Try.prog 27 #[.pointer (some ⟨g, 0, none⟩)] w fun e w' => e = .returned (.int .i64 0) ∧ Below w.heap.size w w' := by
  have c2 := hk.cell 2
  simp only [List.getElem?_toArray, List.getElem?_cons_zero, List.getElem?_cons_succ] at c2
  clear hk
  go_enter Try.func27, Try.ntmps27
  go_wp2_with fail
  go_ret
  exact ⟨rfl, Below.refl _ _⟩
set_option maxRecDepth 100000 in
set_option maxHeartbeats 2000000 in
theorem rfheld_any (B g : Nat) (T : List UInt8) (told : Nat) (A : Option Addr) (n c : Nat) (w : World) (h : RfS B g T told false A n c w) (hl : n ≤ 1000000) :
    Calls Try.prog 27 #[.pointer (some ⟨g, 0, none⟩)] w fun e w' => e = .returned (.int .i64 ((n - (Rs.wk false T 0).2 : Nat) : Int)) ∧ Below w.heap.size w w' := by
  have hw := rwalk_any false T n A c w h.len hl (Sl.of_own' h.row)
  have hkn : (Rs.wk false T 0).2 ≤ n := by have := (Rs.wk_facts false T 0).2.2 (by omega); rw [h.len] at this; exact this
  unfold WkR at hw
  generalize (Rs.wk false T 0).2 = K at *
  generalize (Rs.wk false T 0).1 = l at *
  have c0 := h.blk.cell 0
  have c2 := h.blk.cell 2
  simp only [List.getElem?_toArray, List.getElem?_cons_zero, List.getElem?_cons_succ] at c0 c2
  have HW := hid hw
  have HB := hid h.blk
  have hsub : IntKind.i64.wrap ((n : Int) - (K : Int)) = ((n - K : Nat) : Int) := by rw [IntWalk.i64_in _ (by omega)]; omega
  clear hw h
  go_enter Try.func27, Try.ntmps27
  go_wp2_with fail
  refine HW.out.mono ?_
  rintro e w1 ⟨A1, c1, ps, rfl, -, -, hb1⟩
  have d0 := (HB.out.below hb1 HB.out.lt).cell 0
  simp only [List.getElem?_toArray, List.getElem?_cons_zero, List.getElem?_cons_succ] at d0
  have HB1 := hid hb1
  clear c0 c2 hb1
  go_wp2_with fail
  go_ret
  exact ⟨rfl, HB1.out⟩
set_option maxRecDepth 100000 in
set_option maxHeartbeats 2000000 in
theorem rffeed_over (g : Nat) (vb : Value) (told n : Nat) (A : Option Addr) (c : Nat) (w : World) (hk : Blk w g 45 #[vb, .int .i64 (told : Int), .bool true]) :
    Calls Try.prog 24 #[.pointer (some ⟨g, 0, none⟩), .slice A n c] w fun e w' => e = .returned (.slice none 0 0) ∧ Below w.heap.size w w' := by
  have c2 := hk.cell 2
  simp only [List.getElem?_toArray, List.getElem?_cons_zero, List.getElem?_cons_succ] at c2
  clear hk
  go_enter Try.func24, Try.ntmps24
  go_wp2_with fail
  go_ret
  exact ⟨rfl, Below.refl _ _⟩
theorem rf_st {g told told' : Nat} {over : Bool} {v v' : Value} {w : World} (h : Blk w g 45 #[v, .int .i64 (told : Int), .bool over]) :
    (Blk (w.setCell ⟨g, 0, none⟩ v') g 45 #[v', .int .i64 (told : Int), .bool over] ∧ Chg (fun q => q = g) w (w.setCell ⟨g, 0, none⟩ v')) ∧ (Blk (w.setCell ⟨g, 1, none⟩ (.int .i64 (told' : Int))) g 45 #[v, .int .i64 (told' : Int), .bool over] ∧ Chg (fun q => q = g) w (w.setCell ⟨g, 1, none⟩ (.int .i64 (told' : Int)))) :=
  ⟨⟨by have := h.set_ 0 v'; simpa using this, (Chg.refl (fun q => q = g) w).set_ (.inl rfl) 0 _⟩, ⟨by have := h.set_ 1 (.int .i64 (told' : Int)); simpa using this, (Chg.refl (fun q => q = g) w).set_ (.inl rfl) 1 _⟩⟩
set_option maxRecDepth 100000 in
set_option maxHeartbeats 4000000 in
/-- The document's Feed: what is known behind a piece more, without what was told. -/
theorem rffeed_any (B g : Nat) (T p : List UInt8) (told : Nat) (A : Option Addr) (n c : Nat) (A2 : Option Addr) (m c2 : Nat) (w : World) (h : RfS B g T told false A n c w) (hgB : g < B) (hBw : B ≤ w.heap.size) (hn : p.length = m) (hs : Sl w A2 c2 (p.map bv)) (hl : n + m ≤ 1000000) (ht : told ≤ (Rs.wk false (T ++ p) 0).1.length) :
    Calls Try.prog 24 #[.pointer (some ⟨g, 0, none⟩), .slice A2 m c2] w fun e w' => (∃ A' c', e = .returned (.slice A' ((Rs.wk false (T ++ p) 0).1.length - told) c') ∧ ∀ W2 (S : Nat → Prop), Chg S w' W2 → (∀ q, S q → q < w.heap.size) → FdSl W2 A' ((Rs.wk false (T ++ p) 0).1.length - told) c' ((Rs.wk false (T ++ p) 0).1.drop told)) ∧ (∃ A1 c1, RfS w.heap.size g (T ++ p) (Rs.wk false (T ++ p) 0).1.length false A1 (n + m) c1 w') ∧ Chg (fun q => q = g) w w' := by
  have hjn := rjoin2_own T p n m A A2 c c2 w h.len hn (by omega) (Sl.of_own' h.row) hs
  have hwk := fun A1 c1 W (h1 : Sl W A1 c1 ((T ++ p).map bv)) => rwalk_any false (T ++ p) (n + m) A1 c1 W (by rw [List.length_append, h.len, hn]) hl h1
  unfold WkR at hwk
  generalize Rs.wk false (T ++ p) 0 = R at *
  obtain ⟨l, K⟩ := R
  obtain ⟨L, hL⟩ : ∃ L, l.length = L := ⟨_, rfl⟩
  simp only [hL] at hwk ht ⊢
  have c0 := h.blk.cell 0
  have c2' := h.blk.cell 2
  have f0 := h.blk.frozen 0
  simp only [List.getElem?_toArray, List.getElem?_cons_zero, List.getElem?_cons_succ] at c0 c2'
  have HJN := hid hjn
  have HWK := hid hwk
  have HB := hid h.blk
  have HLL := hid hL
  clear hjn hwk h hs hn hL
  go_enter Try.func24, Try.ntmps24
  go_wp2_with fail
  refine HJN.out.mono ?_
  rintro e w1 ⟨v1, rfl, ho1, hb1⟩
  obtain ⟨A1, c1, rfl⟩ := row_slice_g ho1
  have hk1 := HB.out.below hb1 HB.out.lt
  have e0 := hk1.cell 0
  have g0 := hk1.frozen 0
  simp only [List.getElem?_toArray, List.getElem?_cons_zero, List.getElem?_cons_succ] at e0
  obtain ⟨⟨hk2, hc2⟩, -⟩ := rf_st (told' := 0) (v' := .slice A1 (n + m) c1) hk1
  have hgw := HB.out.lt
  have ho2 := own_chgS ho1 hc2 (fun q hq e => by have := (ho1.lt q hq).1; omega)
  have HK1 := hid hk1
  have HB1 := hid hb1
  have HK2 := hid hk2
  have HC2 := hid hc2
  have HO2 := hid ho2
  clear hk1 hb1 hk2 hc2 ho1 ho2 c0 c2' f0
  go_wp2_with fail
  have e0' := HK2.out.cell 0
  simp only [List.getElem?_toArray, List.getElem?_cons_zero, List.getElem?_cons_succ] at e0'
  generalize hW2 : w1.setCell ⟨g, 0, none⟩ (.slice A1 (n + m) c1) = w2 at *
  try go_wp2_with fail
  refine (HWK.out A1 c1 w2 (Sl.of_own' HO2.out)).mono ?_
  rintro e w3 ⟨A3, c3, ps, rfl, -, hf3, hb3⟩
  have hk3 := HK2.out.below hb3 HK2.out.lt
  have ho3 := own_below HO2.out hb3
  have hst := (rf_st (told' := L) (v' := .slice none 0 0) hk3).2
  have hg2 : g < w2.heap.size := HK2.out.lt
  have hf4 := hf3.chg hst.2 (fun b hb e => by subst e; exact absurd hb (by omega))
  have ho4 := own_chgS ho3 hst.2 (fun q hq e => by have h1 := (ho3.lt q hq).1; have h2 := HB.out.lt; omega)
  have hch : Chg (fun q => q = g) w (w3.setCell ⟨g, 1, none⟩ (.int .i64 (L : Int))) := (((Chg.of_new HB1.out).trans HC2.out).trans (Chg.of_new hb3)).trans hst.2
  have hrf : RfS w.heap.size g (T ++ p) L false A1 (n + m) c1 (w3.setCell ⟨g, 1, none⟩ (.int .i64 (L : Int))) := ⟨hst.1, ho4⟩
  have hsl := hf4.sl HLL.out
  have i1 := hk3.cell 1
  have j1 := hk3.frozen 1
  simp only [List.getElem?_toArray, List.getElem?_cons_zero, List.getElem?_cons_succ] at i1
  have hLc : L ≤ c3 := hsl.choose_spec.2.1.cap
  have hLs : c3 ≤ 9223372036854775807 := hsl.choose_spec.2.1.small
  have hti : (told : Int) ≤ (L : Int) := by omega
  have ht0 : (0 : Int) ≤ (told : Int) := by omega
  have hA3 : (A3 = none ∧ L = 0 ∧ c3 = 0) ∨ ∃ g3, A3 = some ⟨g3, 0, none⟩ := by
    obtain ⟨fs, h1, h2, -⟩ := hf3
    rcases h2.2 with ⟨h4, h5⟩ | ⟨g3, cap, cur, h4, -⟩
    · injection h4 with e1 e2 e3
      exact .inl ⟨e1, e2, e3⟩
    · injection h4 with e1
      exact .inr ⟨g3, e1⟩
  have hslk : ∀ W2 (S : Nat → Prop), Chg S (w3.setCell ⟨g, 1, none⟩ (.int .i64 (L : Int))) W2 → (∀ q, S q → q < w.heap.size) → FdSl W2 A3 L c3 l := fun W2 S hc hS => FdRow.sl (hf4.chg hc (fun b hb hs => by have h1 := hS b hs; have h2 := HB1.out.size; have h3 := HC2.out.size; omega)) HLL.out
  have HSL := hid hslk
  clear hslk
  have HCH := hid hch
  have HRF := hid hrf
  clear hk3 ho3 hst hf4 ho4 hch hrf hsl hf3 hb3 e0 g0 e0'
  rcases hA3 with ⟨rfl, rfl, rfl⟩ | ⟨g3, rfl⟩
  · obtain rfl : told = 0 := by omega
    go_wp2_with fail
    go_ret
    exact ⟨⟨_, _, rfl, fun W2 S hc hS => by simpa using HSL.out W2 S hc hS⟩, ⟨_, _, HRF.out⟩, HCH.out⟩
  · by_cases hct : c3 = told
    · obtain rfl : told = L := by omega
      subst hct
      have hdr : l.drop c3 = [] := List.drop_eq_nil_of_le (by rw [HLL.out]; exact Nat.le_refl _)
      have HDR := hid hdr
      clear hdr
      go_wp2_with fail
      go_ret
      rw [Nat.sub_self, HDR.out]
      refine ⟨⟨_, _, rfl, fun _ _ _ _ => ?_⟩, ⟨_, _, HRF.out⟩, HCH.out⟩
      exact ⟨[], rfl, ⟨by simp, by omega, by omega, (fun h => by cases h), fun k u h => by simp at h⟩, by simp⟩
    · have hcn : ¬ told = c3 := fun h => hct h.symm
      go_wp2_with fail
      go_ret
      refine ⟨⟨_, _, rfl, fun W2 S hc hS => ?_⟩, ⟨_, _, HRF.out⟩, HCH.out⟩
      have := (HSL.out W2 S hc hS).cut told ht g3 0 rfl
      simpa using this
end Go.Proofs.Ytnfodgjihdoncaa
