/- The walk of ValueGrows. -/
import Derived.Test.YtdnjhknjffbkkaaLive9
import Derived.Test.YtdnjhknjffbkkaaVGrow
set_option linter.unusedVariables false
namespace Go.Proofs.Ytdnjhknjffbkkaa
open Go.RowKit
/-- A cleaned message, where it lies. -/
def ClnV (L : List SRow) (m : MV) (w : World) (V : Value) : Prop := ∃ A' c', V = mvV { keptM L m with A := A', c := c' } ∧ Sl w A' c' ((keptM L m).l.map sv)
set_option maxRecDepth 100000 in
set_option maxHeartbeats 8000000 in
theorem valGrows_any (m : MV) (v l : Int) (w : World) (hok : MvOk w m) (hv1 : -9223372036854775808 ≤ v) (hv2 : v ≤ 9223372036854775807) (hl1 : -9223372036854775808 ≤ l) (hl2 : l ≤ 9223372036854775807) : Calls Try.prog 6 #[mvV m, .int .i64 v, .int .i64 l] w fun e w' => e = .returned (.bool true) ∧ Below w.heap.size w w' := by
  have hsm := fun W (hW : Below w.heap.size w W) => small9_any m W (hok.l.below hW)
  have hvc := fun W (hW : Below w.heap.size w W) => vcheck_any m v W (hok.below hW) hv1 hv2
  have hvl := fun W (hW : Below w.heap.size w W) => vcheck_any m l W (hok.below hW) hl1 hl2
  have hgr := fun h1 h2 => grow_ok m (m.k : Int) v l h1 h2
  have hcl : smallB m = true → ∀ W (hW : Below w.heap.size w W), Calls Try.prog 21 #[mvV m, .int .i64 v] W fun e w' => ∃ V, e = .returned V ∧ ClnV (ofL (m.k : Int) v) m w' V ∧ Below W.heap.size W w' := fun hs W hW => by
    refine (vclean_any m v W (by have := (smallB_facts hs).2.2.1; omega) (hok.l.below hW) hv1 hv2).mono ?_
    rintro e w' ⟨A', c', rfl, ho, hb⟩
    obtain ⟨A2, c2, he, -, hs2⟩ := Sl.of_own ho
    injection he with e1 e2 e3
    subst e1; subst e3
    exact ⟨_, rfl, ⟨_, _, rfl, hs2⟩, hb⟩
  have hcs : (chkV m (ofL (m.k : Int) v)).1 = 0 → ∀ W V (hW : Below w.heap.size w W), ClnV (ofL (m.k : Int) v) m W V → Calls Try.prog 22 #[V, mvV m] W fun e w' => e = .returned (.bool true) ∧ Below W.heap.size W w' := by
    rintro hz W V hW ⟨A', c', rfl, hs2⟩
    have hsame := same_symm (chkV_zero hz).2.2.2
    have h := vsame_any { keptM (ofL (m.k : Int) v) m with A := A', c := c' } m W hs2 (hok.l.below hW)
    rw [show sameB { keptM (ofL (m.k : Int) v) m with A := A', c := c' } m = true from hsame] at h
    exact h
  have hcc : ∀ W V (hW : Below w.heap.size w W), ClnV (ofL (m.k : Int) v) m W V → Calls Try.prog 15 #[V, .int .i64 v] W fun e w' => e = .returned (.agg #[.int .i64 (if (chkV m (ofL (m.k : Int) v)).1 = 20 then ((0 : Int), (0 : Int)) else chkV m (ofL (m.k : Int) v)).1, .int .i64 (if (chkV m (ofL (m.k : Int) v)).1 = 20 then ((0 : Int), (0 : Int)) else chkV m (ofL (m.k : Int) v)).2]) ∧ Below W.heap.size W w' := by
    rintro W V hW ⟨A', c', rfl, hs2⟩
    have h := vcheck_any { keptM (ofL (m.k : Int) v) m with A := A', c := c' } v W (kept_ok _ (hok.below hW) _ _ hs2) hv1 hv2
    rw [chkV_ac] at h
    rw [show ofL (((keptM (ofL (m.k : Int) v) m).k : Nat) : Int) v = ofL (m.k : Int) v from rfl, clean_chk m _ (fun r hr => ofL_mem _ _ hr)] at h
    exact h
  have hR0 : (chkV m (ofL (m.k : Int) v)).1 = 0 → chkV m (ofL (m.k : Int) v) = (0, 0) := fun h => (chkV_zero h).1
  generalize ofL (m.k : Int) v = L at *
  generalize ofL (m.k : Int) l = L2 at *
  generalize chkV m L = R at *
  generalize chkV m L2 = Q at *
  obtain ⟨x, y⟩ := R
  obtain ⟨x2, y2⟩ := Q
  unfold FltOf at hvc hvl
  simp only at hvc hvl hgr hcs hcc hR0
  generalize smallB m = sb at *
  generalize ClnV L m = CV at *
  clear hok
  unfold mvV mvA at *
  generalize m.l.length = len at *
  obtain ⟨s, hws⟩ : ∃ s, w.heap.size = s := ⟨_, rfl⟩
  rw [hws] at hsm hvc hvl hcl hcs hcc ⊢
  have hk := Blk.new w 27 #[.int .u8 (m.k : Int), .int .u64 (m.n0 : Int), .int .u64 (m.n1 : Int), .int .u64 (m.n2 : Int), .int .u64 (m.n3 : Int), .int .u64 (m.n4 : Int), .int .u64 (m.n5 : Int), .string m.s0, .string m.s1, .slice m.A len m.c]
  have hb := bw_a (Below.refl w.heap.size w) (.cells #[.int .u8 (m.k : Int), .int .u64 (m.n0 : Int), .int .u64 (m.n1 : Int), .int .u64 (m.n2 : Int), .int .u64 (m.n3 : Int), .int .u64 (m.n4 : Int), .int .u64 (m.n5 : Int), .string m.s0, .string m.s1, .slice m.A len m.c] 27)
  rw [hws] at hk hb
  have HSM := hid hsm
  have HVC := hid hvc
  have HVL := hid hvl
  have HCL := hid hcl
  have HCS := hid hcs
  have HCC := hid hcc
  have HGR := hid hgr
  have HR0 := hid hR0
  clear hsm hvc hvl hcl hcs hcc hgr hR0
  obtain ⟨W, hW⟩ : ∃ W, w.alloc (.cells #[.int .u8 (m.k : Int), .int .u64 (m.n0 : Int), .int .u64 (m.n1 : Int), .int .u64 (m.n2 : Int), .int .u64 (m.n3 : Int), .int .u64 (m.n4 : Int), .int .u64 (m.n5 : Int), .string m.s0, .string m.s1, .slice m.A len m.c] 27) = W := ⟨_, rfl⟩
  rw [hW] at hk hb
  have HK := hid hk
  have HB := hid hb
  have hlt := hk.lt
  clear hk hb
  go_enter Try.func6, Try.ntmps6
  go_wp2_with fail
  clear hW
  refine (live9_any W).mono ?_
  rintro e w1 ⟨rfl, hb1⟩
  have hk1 := HK.out.below hb1 hlt
  have hB1 := HB.out.trans (hb1.mono (by omega))
  have c0 := hk1.cell 0
  have c1 := hk1.cell 1
  have c2 := hk1.cell 2
  have c3 := hk1.cell 3
  have c4 := hk1.cell 4
  have c5 := hk1.cell 5
  have c6 := hk1.cell 6
  have c7 := hk1.cell 7
  have c8 := hk1.cell 8
  have c9 := hk1.cell 9
  simp only [List.getElem?_toArray, List.getElem?_cons_zero, List.getElem?_cons_succ] at c0 c1 c2 c3 c4 c5 c6 c7 c8 c9
  have HB1 := hid hB1
  have hl1b := hk1.lt
  have HK1 := hid hk1
  clear hk1 hb1 hB1
  go_wp2_with fail
  refine (HSM.out _ HB1.out).mono ?_
  rintro e w2 ⟨rfl, hb2⟩
  have hk2 := HK1.out.below hb2 hl1b
  have HB2 := hid (HB1.out.trans (hb2.mono (by omega)))
  have hl2b := hk2.lt
  clear c0 c1 c2 c3 c4 c5 c6 c7 c8 c9
  have c0 := hk2.cell 0
  have c1 := hk2.cell 1
  have c2 := hk2.cell 2
  have c3 := hk2.cell 3
  have c4 := hk2.cell 4
  have c5 := hk2.cell 5
  have c6 := hk2.cell 6
  have c7 := hk2.cell 7
  have c8 := hk2.cell 8
  have c9 := hk2.cell 9
  simp only [List.getElem?_toArray, List.getElem?_cons_zero, List.getElem?_cons_succ] at c0 c1 c2 c3 c4 c5 c6 c7 c8 c9
  have HK2 := hid hk2
  clear hk2 hb2
  cases sb with
  | false =>
    go_wp2_with fail
    go_ret
    exact ⟨rfl, HB2.out⟩
  | true =>
    have HCLT := hid (HCL.out rfl)
    clear HCL
    go_wp2_with fail
    refine (HVC.out _ HB2.out).mono ?_
    rintro e w3 ⟨rfl, hb3⟩
    clear c0 c1 c2 c3 c4 c5 c6 c7 c8 c9
    have hk3 := (HK2.out.below hb3 hl2b).alloc (.cells #[.int .i64 x, .int .i64 y] 32)
    have d0 := (Blk.new w3 32 #[.int .i64 x, .int .i64 y]).cell 0
    have d1 := (Blk.new w3 32 #[.int .i64 x, .int .i64 y]).cell 1
    simp only [List.getElem?_toArray, List.getElem?_cons_zero, List.getElem?_cons_succ] at d0 d1
    have HD3 := hid (Blk.new w3 32 #[.int .i64 x, .int .i64 y])
    have HB3 := hid (HB2.out.trans ((bw_a hb3 (.cells #[.int .i64 x, .int .i64 y] 32)).mono (by omega)))
    have c0 := hk3.cell 0
    have c1 := hk3.cell 1
    have c2 := hk3.cell 2
    have c3 := hk3.cell 3
    have c4 := hk3.cell 4
    have c5 := hk3.cell 5
    have c6 := hk3.cell 6
    have c7 := hk3.cell 7
    have c8 := hk3.cell 8
    have c9 := hk3.cell 9
    simp only [List.getElem?_toArray, List.getElem?_cons_zero, List.getElem?_cons_succ] at c0 c1 c2 c3 c4 c5 c6 c7 c8 c9
    have hl3b := hk3.lt
    have HK3 := hid hk3
    clear hk3 hb3
    by_cases hx : x = 0
    · have hy := HR0.out hx
      injection hy with hx' hy'
      subst hx'
      subst hy'
      have HCST := hid (HCS.out rfl)
      clear HCS
      by_cases hvl : v ≤ l
      · by_cases h3 : l ≤ 3
        · have hq := HGR.out hvl h3 rfl
          injection hq with hq1 hq2
          subst hq1
          subst hq2
          go_wp2_with fail
          refine (HVL.out _ HB3.out).mono ?_
          rintro e w4 ⟨rfl, hb4⟩
          have HK4 := hid (HK3.out.below hb4 hl3b)
          have hl4b := HK4.out.lt
          have HB4 := hid (HB3.out.trans (hb4.mono (Nat.le_of_lt hl3b)))
          clear hb4
          clear c0 c1 c2 c3 c4 c5 c6 c7 c8 c9
          have c0 := HK4.out.cell 0
          have c1 := HK4.out.cell 1
          have c2 := HK4.out.cell 2
          have c3 := HK4.out.cell 3
          have c4 := HK4.out.cell 4
          have c5 := HK4.out.cell 5
          have c6 := HK4.out.cell 6
          have c7 := HK4.out.cell 7
          have c8 := HK4.out.cell 8
          have c9 := HK4.out.cell 9
          simp only [List.getElem?_toArray, List.getElem?_cons_zero, List.getElem?_cons_succ] at c0 c1 c2 c3 c4 c5 c6 c7 c8 c9
          have HC := hid (And.intro c0 (And.intro c1 (And.intro c2 (And.intro c3 (And.intro c4 (And.intro c5 (And.intro c6 (And.intro c7 (And.intro c8 c9)))))))))
          have HZ := hid (show s ≤ (w4).heap.size from Nat.le_of_lt hl4b)
          have HBB := hid HB4.out
          clear c0 c1 c2 c3 c4 c5 c6 c7 c8 c9
          go_wp2_with fail
          go_region_held3 (fun w' => w'.cell? ⟨s, 0, none⟩ = some (.int .u8 (m.k : Int)) ∧ w'.cell? ⟨s, 1, none⟩ = some (.int .u64 (m.n0 : Int)) ∧ w'.cell? ⟨s, 2, none⟩ = some (.int .u64 (m.n1 : Int)) ∧ w'.cell? ⟨s, 3, none⟩ = some (.int .u64 (m.n2 : Int)) ∧ w'.cell? ⟨s, 4, none⟩ = some (.int .u64 (m.n3 : Int)) ∧ w'.cell? ⟨s, 5, none⟩ = some (.int .u64 (m.n4 : Int)) ∧ w'.cell? ⟨s, 6, none⟩ = some (.int .u64 (m.n5 : Int)) ∧ w'.cell? ⟨s, 7, none⟩ = some (.string m.s0) ∧ w'.cell? ⟨s, 8, none⟩ = some (.string m.s1) ∧ w'.cell? ⟨s, 9, none⟩ = some (.slice m.A len m.c)) (first | exact HC.out | go_keep) (first | (go_at_call 21; refine (HCLT.out _ (by first | exact HBB.out | exact drew_bel HBB.out)).mono ?_; rintro e w9 ⟨V, rfl, hV, hb9⟩; have HC := hid (heldm hb9 (by first | exact HC.out)); have HBB := hid (show Below s w w9 from (by first | exact HBB.out.trans (hb9.mono HZ.out) | exact (drew_bel HBB.out).trans (hb9.mono HZ.out))); have HZ := hid (Nat.le_trans HZ.out hb9.size)) | (go_at_call 22; refine (HCST.out _ V (by first | exact HBB.out | exact drew_bel HBB.out) hV).mono ?_; rintro e w9 ⟨rfl, hb9⟩; have HC := hid (heldm hb9 (by first | exact HC.out)); have HBB := hid (show Below s w w9 from (by first | exact HBB.out.trans (hb9.mono HZ.out) | exact (drew_bel HBB.out).trans (hb9.mono HZ.out))); have HZ := hid (Nat.le_trans HZ.out hb9.size)))
          go_wp2_with fail
          go_ret
          exact ⟨rfl, HBB.out⟩
        · skip
          clear c0 c1 c2 c3 c4 c5 c6 c7 c8 c9
          have c0 := HK3.out.cell 0
          have c1 := HK3.out.cell 1
          have c2 := HK3.out.cell 2
          have c3 := HK3.out.cell 3
          have c4 := HK3.out.cell 4
          have c5 := HK3.out.cell 5
          have c6 := HK3.out.cell 6
          have c7 := HK3.out.cell 7
          have c8 := HK3.out.cell 8
          have c9 := HK3.out.cell 9
          simp only [List.getElem?_toArray, List.getElem?_cons_zero, List.getElem?_cons_succ] at c0 c1 c2 c3 c4 c5 c6 c7 c8 c9
          have HC := hid (And.intro c0 (And.intro c1 (And.intro c2 (And.intro c3 (And.intro c4 (And.intro c5 (And.intro c6 (And.intro c7 (And.intro c8 c9)))))))))
          have HZ := hid (show s ≤ (w3.alloc (.cells #[.int .i64 0, .int .i64 0] 32)).heap.size from Nat.le_of_lt hl3b)
          have HBB := hid HB3.out
          clear c0 c1 c2 c3 c4 c5 c6 c7 c8 c9
          go_wp2_with fail
          go_region_held3 (fun w' => w'.cell? ⟨s, 0, none⟩ = some (.int .u8 (m.k : Int)) ∧ w'.cell? ⟨s, 1, none⟩ = some (.int .u64 (m.n0 : Int)) ∧ w'.cell? ⟨s, 2, none⟩ = some (.int .u64 (m.n1 : Int)) ∧ w'.cell? ⟨s, 3, none⟩ = some (.int .u64 (m.n2 : Int)) ∧ w'.cell? ⟨s, 4, none⟩ = some (.int .u64 (m.n3 : Int)) ∧ w'.cell? ⟨s, 5, none⟩ = some (.int .u64 (m.n4 : Int)) ∧ w'.cell? ⟨s, 6, none⟩ = some (.int .u64 (m.n5 : Int)) ∧ w'.cell? ⟨s, 7, none⟩ = some (.string m.s0) ∧ w'.cell? ⟨s, 8, none⟩ = some (.string m.s1) ∧ w'.cell? ⟨s, 9, none⟩ = some (.slice m.A len m.c)) (first | exact HC.out | go_keep) (first | (go_at_call 21; refine (HCLT.out _ (by first | exact HBB.out | exact drew_bel HBB.out)).mono ?_; rintro e w9 ⟨V, rfl, hV, hb9⟩; have HC := hid (heldm hb9 (by first | exact HC.out)); have HBB := hid (show Below s w w9 from (by first | exact HBB.out.trans (hb9.mono HZ.out) | exact (drew_bel HBB.out).trans (hb9.mono HZ.out))); have HZ := hid (Nat.le_trans HZ.out hb9.size)) | (go_at_call 22; refine (HCST.out _ V (by first | exact HBB.out | exact drew_bel HBB.out) hV).mono ?_; rintro e w9 ⟨rfl, hb9⟩; have HC := hid (heldm hb9 (by first | exact HC.out)); have HBB := hid (show Below s w w9 from (by first | exact HBB.out.trans (hb9.mono HZ.out) | exact (drew_bel HBB.out).trans (hb9.mono HZ.out))); have HZ := hid (Nat.le_trans HZ.out hb9.size)))
          go_wp2_with fail
          go_ret
          exact ⟨rfl, HBB.out⟩
      · skip
        clear c0 c1 c2 c3 c4 c5 c6 c7 c8 c9
        have c0 := HK3.out.cell 0
        have c1 := HK3.out.cell 1
        have c2 := HK3.out.cell 2
        have c3 := HK3.out.cell 3
        have c4 := HK3.out.cell 4
        have c5 := HK3.out.cell 5
        have c6 := HK3.out.cell 6
        have c7 := HK3.out.cell 7
        have c8 := HK3.out.cell 8
        have c9 := HK3.out.cell 9
        simp only [List.getElem?_toArray, List.getElem?_cons_zero, List.getElem?_cons_succ] at c0 c1 c2 c3 c4 c5 c6 c7 c8 c9
        have HC := hid (And.intro c0 (And.intro c1 (And.intro c2 (And.intro c3 (And.intro c4 (And.intro c5 (And.intro c6 (And.intro c7 (And.intro c8 c9)))))))))
        have HZ := hid (show s ≤ (w3.alloc (.cells #[.int .i64 0, .int .i64 0] 32)).heap.size from Nat.le_of_lt hl3b)
        have HBB := hid HB3.out
        clear c0 c1 c2 c3 c4 c5 c6 c7 c8 c9
        go_wp2_with fail
        go_region_held3 (fun w' => w'.cell? ⟨s, 0, none⟩ = some (.int .u8 (m.k : Int)) ∧ w'.cell? ⟨s, 1, none⟩ = some (.int .u64 (m.n0 : Int)) ∧ w'.cell? ⟨s, 2, none⟩ = some (.int .u64 (m.n1 : Int)) ∧ w'.cell? ⟨s, 3, none⟩ = some (.int .u64 (m.n2 : Int)) ∧ w'.cell? ⟨s, 4, none⟩ = some (.int .u64 (m.n3 : Int)) ∧ w'.cell? ⟨s, 5, none⟩ = some (.int .u64 (m.n4 : Int)) ∧ w'.cell? ⟨s, 6, none⟩ = some (.int .u64 (m.n5 : Int)) ∧ w'.cell? ⟨s, 7, none⟩ = some (.string m.s0) ∧ w'.cell? ⟨s, 8, none⟩ = some (.string m.s1) ∧ w'.cell? ⟨s, 9, none⟩ = some (.slice m.A len m.c)) (first | exact HC.out | go_keep) (first | (go_at_call 21; refine (HCLT.out _ (by first | exact HBB.out | exact drew_bel HBB.out)).mono ?_; rintro e w9 ⟨V, rfl, hV, hb9⟩; have HC := hid (heldm hb9 (by first | exact HC.out)); have HBB := hid (show Below s w w9 from (by first | exact HBB.out.trans (hb9.mono HZ.out) | exact (drew_bel HBB.out).trans (hb9.mono HZ.out))); have HZ := hid (Nat.le_trans HZ.out hb9.size)) | (go_at_call 22; refine (HCST.out _ V (by first | exact HBB.out | exact drew_bel HBB.out) hV).mono ?_; rintro e w9 ⟨rfl, hb9⟩; have HC := hid (heldm hb9 (by first | exact HC.out)); have HBB := hid (show Below s w w9 from (by first | exact HBB.out.trans (hb9.mono HZ.out) | exact (drew_bel HBB.out).trans (hb9.mono HZ.out))); have HZ := hid (Nat.le_trans HZ.out hb9.size)))
        go_wp2_with fail
        go_ret
        exact ⟨rfl, HBB.out⟩
    · have hxb : (x == 0) = false := by simpa using hx
      go_wp2_with fail
      refine (HCLT.out _ HB3.out).mono ?_
      rintro e w4 ⟨V, rfl, hV, hb4⟩
      have HB4 := hid (HB3.out.trans (hb4.mono (Nat.le_of_lt hl3b)))
      have HD4 := hid (HD3.out.below hb4 HD3.out.lt)
      have HZ4 := hid (Nat.le_trans (Nat.le_of_lt hl3b) hb4.size)
      clear c0 c1 c2 c3 c4 c5 c6 c7 c8 c9 d0 d1 hb4
      by_cases hx20 : x = 20
      · subst hx20
        have hcc := HCC.out _ _ HB4.out hV
        rw [if_pos rfl] at hcc
        have HCC2 := hid hcc
        clear hcc
        go_wp2_with fail
        refine HCC2.out.mono ?_
        rintro e w5 ⟨rfl, hb5⟩
        have hd5 := (HD4.out.below hb5 HD4.out.lt).alloc (.cells #[.int .i64 0, .int .i64 0] 32)
        have d0 := hd5.cell 0
        have d1 := hd5.cell 1
        have e0 := (Blk.new w5 32 #[.int .i64 0, .int .i64 0]).cell 0
        have e1 := (Blk.new w5 32 #[.int .i64 0, .int .i64 0]).cell 1
        simp only [List.getElem?_toArray, List.getElem?_cons_zero, List.getElem?_cons_succ] at d0 d1 e0 e1
        have HB5 := hid (HB4.out.trans ((bw_a hb5 (.cells #[.int .i64 0, .int .i64 0] 32)).mono HZ4.out))
        clear hd5 hb5
        go_wp2_with fail
        go_ret
        exact ⟨by simp, HB5.out⟩
      · have hxc : (x == 20) = false := by simpa using hx20
        have hcc := HCC.out _ _ HB4.out hV
        rw [if_neg hx20] at hcc
        have HCC2 := hid hcc
        clear hcc
        go_wp2_with fail
        refine HCC2.out.mono ?_
        rintro e w5 ⟨rfl, hb5⟩
        have hd5 := (HD4.out.below hb5 HD4.out.lt).alloc (.cells #[.int .i64 x, .int .i64 y] 32)
        have d0 := hd5.cell 0
        have d1 := hd5.cell 1
        have e0 := (Blk.new w5 32 #[.int .i64 x, .int .i64 y]).cell 0
        have e1 := (Blk.new w5 32 #[.int .i64 x, .int .i64 y]).cell 1
        simp only [List.getElem?_toArray, List.getElem?_cons_zero, List.getElem?_cons_succ] at d0 d1 e0 e1
        have HB5 := hid (HB4.out.trans ((bw_a hb5 (.cells #[.int .i64 x, .int .i64 y] 32)).mono HZ4.out))
        clear hd5 hb5
        go_wp2_with fail
        go_ret
        exact ⟨by simp, HB5.out⟩
end Go.Proofs.Ytdnjhknjffbkkaa
