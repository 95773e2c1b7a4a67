/- value's Same and Copy. -/
import Derived.Test.YtehjibbjkadoiaaVSame
set_option linter.unusedVariables false
namespace Go.Proofs.Ytehjibbjkadoiaa
open Go.RowKit
theorem row_slice' {w : World} {base e size n : Nat} {v : Value} {xs : List Value} (h : w.ownsRow base e size v n xs) : ∃ A c, v = .slice A n c := by
  rcases h.2 with ⟨rfl, h2⟩ | ⟨g, cap, cur, rfl, _⟩
  · exact ⟨none, 0, by rw [h2]⟩
  · exact ⟨_, _, rfl⟩
/-- Are messages alike? -/
def sameN (a b : MV) : Prop := a.n0 = b.n0 ∧ a.n1 = b.n1 ∧ a.n2 = b.n2 ∧ a.n3 = b.n3 ∧ a.n4 = b.n4 ∧ a.n5 = b.n5
instance (a b : MV) : Decidable (sameN a b) := by unfold sameN; infer_instance
def sameT (a b : MV) : Prop := a.s0 = b.s0 ∧ a.s1 = b.s1
instance (a b : MV) : Decidable (sameT a b) := by unfold sameT; infer_instance
def sameB (a b : MV) : Bool := decide (a.k = b.k) && decide (sameN a b) && decide (sameT a b) && decide (a.l = b.l)
set_option maxRecDepth 100000 in
set_option maxHeartbeats 2000000 in
theorem vsame_any (a b : MV) (w : World) (ha : Sl w a.A a.c (a.l.map sv)) (hb : Sl w b.A b.c (b.l.map sv)) : Calls Try.prog 14 #[mvV a, mvV b] w fun e w' => e = .returned (.bool (sameB a b)) ∧ Below w.heap.size w w' := by
  have hq := fun (W : World) (hW : Below w.heap.size w W) => sequal_any a.l b.l a.l.length b.l.length a.A b.A a.c b.c W rfl rfl (ha.below hW) (hb.below hW)
  have hen := fun (W : World) => eq_nums a.n0 a.n1 a.n2 a.n3 a.n4 a.n5 b.n0 b.n1 b.n2 b.n3 b.n4 b.n5 W
  have het := fun (W : World) => eq_texts a.s0 a.s1 b.s0 b.s1 W
  have hen' : ∀ W, _ = Result.ok (Value.bool (decide (sameN a b))) W := hen
  have het' : ∀ W, _ = Result.ok (Value.bool (decide (sameT a b))) W := het
  have hS : sameB a b = (decide (a.k = b.k) && decide (sameN a b) && decide (sameT a b) && decide (a.l = b.l)) := rfl
  have hbb := fun (la lb : Nat) => bw_a (bw_a (Below.refl _ w) (.cells #[.int .u8 (a.k : Int), .int .u64 (a.n0 : Int), .int .u64 (a.n1 : Int), .int .u64 (a.n2 : Int), .int .u64 (a.n3 : Int), .int .u64 (a.n4 : Int), .int .u64 (a.n5 : Int), .string a.s0, .string a.s1, .slice a.A la a.c] 27)) (.cells #[.int .u8 (b.k : Int), .int .u64 (b.n0 : Int), .int .u64 (b.n1 : Int), .int .u64 (b.n2 : Int), .int .u64 (b.n3 : Int), .int .u64 (b.n4 : Int), .int .u64 (b.n5 : Int), .string b.s0, .string b.s1, .slice b.A lb b.c] 27)
  clear hen het ha hb
  generalize sameB a b = R at *
  generalize hdn : decide (sameN a b) = dn at *
  generalize hdt : decide (sameT a b) = dt at *
  generalize hdl : decide (a.l = b.l) = dl at *
  unfold mvV mvA
  generalize a.l.length = la at *
  generalize b.l.length = lb at *
  clear hdn hdt hdl
  have HS := hid hS
  have HQ := hid hq
  have HBB := hid (hbb la lb)
  clear hS hq hbb
  by_cases hk : a.k = b.k
  · have hkb : ((a.k : Int) == (b.k : Int)) = true := by simp [hk]
    have hkd : decide (a.k = b.k) = true := by simp [hk]
    rw [hkd] at HS
    clear hkd
    have HK := hid hk
    clear hk
    cases dn with
    | false =>
      have HS2 := hid (show R = false from by rw [HS.out]; rfl)
      go_enter Try.func14, Try.ntmps14
      go_wp2_with fail
      go_ret
      exact ⟨by rw [HS2.out]; rfl, HBB.out⟩
    | true =>
      cases dt with
      | false =>
        have HS2 := hid (show R = false from by rw [HS.out]; rfl)
        go_enter Try.func14, Try.ntmps14
        go_wp2_with fail
        go_ret
        exact ⟨by rw [HS2.out]; rfl, HBB.out⟩
      | true =>
        have HS2 := hid (show R = dl from by rw [HS.out]; rfl)
        go_enter Try.func14, Try.ntmps14
        go_wp2_with fail
        refine (HQ.out _ HBB.out).mono ?_
        rintro e w1 ⟨rfl, q, rfl⟩
        go_wp2_with fail
        go_ret
        exact ⟨by rw [HS2.out]; rfl, bw_d HBB.out q⟩
  · have hkb : ((a.k : Int) == (b.k : Int)) = false := by simp; omega
    have hkd : decide (a.k = b.k) = false := by simpa using hk
    rw [hkd] at HS
    have HS2 := hid (show R = false from by rw [HS.out]; rfl)
    clear hkd
    have HK := hid hk
    clear hk
    go_enter Try.func14, Try.ntmps14
    go_wp2_with fail
    go_ret
    exact ⟨by rw [HS2.out]; rfl, HBB.out⟩
/-- A message is stored. -/
theorem mstore {w : World} {p : Nat} {o0 o1 o2 o3 o4 o5 o6 o7 o8 o9 : Value} (h : Blk w p 27 #[o0, o1, o2, o3, o4, o5, o6, o7, o8, o9]) (x0 x1 x2 x3 x4 x5 x6 x7 x8 x9 : Value) :
    Blk ((((((((((w.setCell ⟨p, 0, none⟩ x0).setCell ⟨p, 1, none⟩ x1).setCell ⟨p, 2, none⟩ x2).setCell ⟨p, 3, none⟩ x3).setCell ⟨p, 4, none⟩ x4).setCell ⟨p, 5, none⟩ x5).setCell ⟨p, 6, none⟩ x6).setCell ⟨p, 7, none⟩ x7).setCell ⟨p, 8, none⟩ x8).setCell ⟨p, 9, none⟩ x9) p 27 #[x0, x1, x2, x3, x4, x5, x6, x7, x8, x9] ∧ Chg (fun q => q = p) w ((((((((((w.setCell ⟨p, 0, none⟩ x0).setCell ⟨p, 1, none⟩ x1).setCell ⟨p, 2, none⟩ x2).setCell ⟨p, 3, none⟩ x3).setCell ⟨p, 4, none⟩ x4).setCell ⟨p, 5, none⟩ x5).setCell ⟨p, 6, none⟩ x6).setCell ⟨p, 7, none⟩ x7).setCell ⟨p, 8, none⟩ x8).setCell ⟨p, 9, none⟩ x9) := by
  refine ⟨?_, ?_⟩
  · have h2 := ((((((((((h.set_ 0 x0).set_ 1 x1).set_ 2 x2).set_ 3 x3).set_ 4 x4).set_ 5 x5).set_ 6 x6).set_ 7 x7).set_ 8 x8).set_ 9 x9)
    simpa using h2
  · exact (((((((((((Chg.refl (fun q => q = p) w).set_ (.inl rfl) 0 x0).set_ (.inl rfl) 1 x1).set_ (.inl rfl) 2 x2).set_ (.inl rfl) 3 x3).set_ (.inl rfl) 4 x4).set_ (.inl rfl) 5 x5).set_ (.inl rfl) 6 x6).set_ (.inl rfl) 7 x7).set_ (.inl rfl) 8 x8).set_ (.inl rfl) 9 x9)
set_option maxRecDepth 100000 in
set_option maxHeartbeats 2000000 in
theorem vcopy_any (m : MV) (w : World) (hl : m.l.length ≤ 1000000) (hs : Sl w m.A m.c (m.l.map sv)) : Calls Try.prog 12 #[mvV m] w fun e w' => ∃ A' c', e = .returned (mvV { m with A := A', c := c' }) ∧ w'.ownsRow (w.heap.size + 2) 9 1 (.slice A' m.l.length c') m.l.length (m.l.map sv) ∧ Below w.heap.size w w' := by
  have hc := fun (W : World) (hW : Below w.heap.size w W) => sclone_any m.l m.l.length m.A m.c W rfl hl (hs.below hW)
  obtain ⟨k, n0, n1, n2, n3, n4, n5, s0, s1, A, c, l⟩ := m
  unfold mvV mvA
  simp only at hc hl ⊢
  generalize l.length = len at *
  have HC := hid hc
  clear hc hs
  go_enter Try.func12, Try.ntmps12
  go_wp2_with fail
  obtain ⟨s, hsz⟩ : ∃ s, w.heap.size = s := ⟨_, rfl⟩
  have hb0 := bw_a (bw_a (Below.refl w.heap.size w) (.cells #[.int .u8 (k : Int), .int .u64 (n0 : Int), .int .u64 (n1 : Int), .int .u64 (n2 : Int), .int .u64 (n3 : Int), .int .u64 (n4 : Int), .int .u64 (n5 : Int), .string s0, .string s1, .slice A len c] 27)) (.cells #[.int .u8 0, .int .u64 0, .int .u64 0, .int .u64 0, .int .u64 0, .int .u64 0, .int .u64 0, .string ⟨#[]⟩, .string ⟨#[]⟩, .slice none 0 0] 27)
  have hk0 := (Blk.new w 27 #[.int .u8 (k : Int), .int .u64 (n0 : Int), .int .u64 (n1 : Int), .int .u64 (n2 : Int), .int .u64 (n3 : Int), .int .u64 (n4 : Int), .int .u64 (n5 : Int), .string s0, .string s1, .slice A len c]).alloc (.cells #[.int .u8 0, .int .u64 0, .int .u64 0, .int .u64 0, .int .u64 0, .int .u64 0, .int .u64 0, .string ⟨#[]⟩, .string ⟨#[]⟩, .slice none 0 0] 27)
  have hk1 := Blk.new (w.alloc (.cells #[.int .u8 (k : Int), .int .u64 (n0 : Int), .int .u64 (n1 : Int), .int .u64 (n2 : Int), .int .u64 (n3 : Int), .int .u64 (n4 : Int), .int .u64 (n5 : Int), .string s0, .string s1, .slice A len c] 27)) 27 #[.int .u8 0, .int .u64 0, .int .u64 0, .int .u64 0, .int .u64 0, .int .u64 0, .int .u64 0, .string ⟨#[]⟩, .string ⟨#[]⟩, .slice none 0 0]
  rw [World.size_alloc] at hk1
  generalize (w.alloc _).alloc _ = W at *
  rw [hsz] at hk0 hk1 hb0 ⊢
  refine (HC.out W (by rw [hsz]; exact hb0)).mono ?_
  rintro e w1 ⟨v, rfl, ho, hb1⟩
  have hlt0 := hk0.lt
  have hlt1 := hk1.lt
  have hk0 := hk0.below hb1 hk0.lt
  have hk1 := hk1.below hb1 hk1.lt
  have c0 := hk0.cell 0
  have c1 := hk0.cell 1
  have c2 := hk0.cell 2
  have c3 := hk0.cell 3
  have c4 := hk0.cell 4
  have c5 := hk0.cell 5
  have c6 := hk0.cell 6
  have c7 := hk0.cell 7
  have c8 := hk0.cell 8
  have c9 := hk0.cell 9
  have f9 := hk0.frozen 9
  have g0 := hk1.frozen 0
  have d0 := hk1.cell 0
  have g1 := hk1.frozen 1
  have d1 := hk1.cell 1
  have g2 := hk1.frozen 2
  have d2 := hk1.cell 2
  have g3 := hk1.frozen 3
  have d3 := hk1.cell 3
  have g4 := hk1.frozen 4
  have d4 := hk1.cell 4
  have g5 := hk1.frozen 5
  have d5 := hk1.cell 5
  have g6 := hk1.frozen 6
  have d6 := hk1.cell 6
  have g7 := hk1.frozen 7
  have d7 := hk1.cell 7
  have g8 := hk1.frozen 8
  have d8 := hk1.cell 8
  have g9 := hk1.frozen 9
  have d9 := hk1.cell 9
  simp only [List.getElem?_toArray, List.getElem?_cons_zero, List.getElem?_cons_succ] at c0 c1 c2 c3 c4 c5 c6 c7 c8 c9 d0 d1 d2 d3 d4 d5 d6 d7 d8 d9
  obtain ⟨A', c', rfl⟩ : ∃ A' c', v = .slice A' len c' := row_slice' ho
  have hB1 := hb0.trans (hb1.mono (by have := hlt0; omega))
  have hend := mstore (hk1.far (p := ⟨s, 9, none⟩) (by simp) (.slice A' len c')) (.int .u8 (k : Int)) (.int .u64 (n0 : Int)) (.int .u64 (n1 : Int)) (.int .u64 (n2 : Int)) (.int .u64 (n3 : Int)) (.int .u64 (n4 : Int)) (.int .u64 (n5 : Int)) (.string s0) (.string s1) (.slice A' len c')
  have hc1 : Chg (fun q => q = s ∨ q = s + 1) w1 (w1.setCell ⟨s, 9, none⟩ (.slice A' len c')) := (Chg.refl _ w1).set_ (.inl (.inl rfl)) 9 _
  have ho2 := own_mono ho (show s + 2 ≤ W.heap.size by omega)
  have HO := hid ho2
  have HE := hid hend
  have HC1 := hid hc1
  have HB1 := hid hB1
  have hs2 : s + 2 ≤ w1.heap.size := Nat.le_trans (by omega) hb1.size
  clear ho ho2 hend hc1 hB1 hb1 hk0 hk1 HC hb0
  go_wp2_with fail
  have hbk := HE.out.1
  have hch := HC1.out.trans (HE.out.2.mono fun q _ hq => .inr hq)
  have ho3 := own_chgS HO.out hch (fun g hg hk => by have := (HO.out.lt g hg).1; omega)
  have hB3 := HB1.out.trans (hch.below (B := s) (fun q hq => by omega) (by omega))
  have r0 := hbk.cell 0
  have r1 := hbk.cell 1
  have r2 := hbk.cell 2
  have r3 := hbk.cell 3
  have r4 := hbk.cell 4
  have r5 := hbk.cell 5
  have r6 := hbk.cell 6
  have r7 := hbk.cell 7
  have r8 := hbk.cell 8
  have r9 := hbk.cell 9
  clear hch hbk HE HC1 HO HB1 c0 c1 c2 c3 c4 c5 c6 c7 c8 c9 f9 g0 g1 g2 g3 g4 g5 g6 g7 g8 g9 d0 d1 d2 d3 d4 d5 d6 d7 d8 d9
  generalize World.setCell (World.setCell _ _ _) _ _ = W9 at *
  simp only [List.getElem?_toArray, List.getElem?_cons_zero, List.getElem?_cons_succ] at r0 r1 r2 r3 r4 r5 r6 r7 r8 r9
  refine bodyPost_ret (v := .agg #[.int .u8 (k : Int), .int .u64 (n0 : Int), .int .u64 (n1 : Int), .int .u64 (n2 : Int), .int .u64 (n3 : Int), .int .u64 (n4 : Int), .int .u64 (n5 : Int), .string s0, .string s1, .slice A' len c']) (by simp [results, Try.results12, go_sem, r0, r1, r2, r3, r4, r5, r6, r7, r8, r9]) rfl ?_
  rw [hsz]
  exact ⟨A', c', rfl, ho3, hB3⟩
end Go.Proofs.Ytehjibbjkadoiaa
