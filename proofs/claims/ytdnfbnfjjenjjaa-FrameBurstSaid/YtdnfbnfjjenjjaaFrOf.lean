/- frame.Of; what must be whatever is asked: layer 13. -/
import Derived.Test.YtdnfbnfjjenjjaaFrRefR
import Derived.Test.YtdnfbnfjjenjjaaEn4
set_option linter.unusedVariables false
namespace Go.Proofs.Ytdnfbnfjjenjjaa
open Go.RowKit
theorem Sl.of_own'' {w : World} {B n c : Nat} {A : Option Addr} {xs : List Value} (h : w.ownsRow B 5 1 (.slice A n c) n xs) : Sl w A c xs := by
  obtain ⟨A', c', he, -, hs⟩ := Sl.of_own h
  injection he with h1 h2 h3
  subst h1; subst h3
  exact hs
/-- What Of comes to. -/
def FrOfR (w : World) (M : MV) (v : Int) (e : Ending) (w' : World) : Prop :=
  (((chkV M (ofL (M.k : Int) v)).1 ≠ 0 ∧ e = .returned (.tuple #[.agg #[.int .u8 0, .slice none 0 0], .agg #[.int .i64 (chkV M (ofL (M.k : Int) v)).1, .int .i64 (chkV M (ofL (M.k : Int) v)).2]])) ∨
   ((chkV M (ofL (M.k : Int) v)).1 = 0 ∧ ∃ A c, e = .returned (.tuple #[.agg #[.int .u8 (M.k : Int), .slice A (encB M (ofL (M.k : Int) v)).length c], .agg #[.int .i64 0, .int .i64 0]]) ∧ Sl w' A c ((encB M (ofL (M.k : Int) v)).map bv))) ∧ Below w.heap.size w w'
set_option maxRecDepth 100000 in
set_option maxHeartbeats 4000000 in
theorem fof_any (M : MV) (v : Int) (w : World) (hok : MvOk w M) (hsm : MvSm M) (hv1 : -9223372036854775808 ≤ v) (hv2 : v ≤ 9223372036854775807) :
    Calls Try.prog 15 #[mvV M, .int .i64 v] w (FrOfR w M v) := by
  have hb := fun W (hW : Below w.heap.size w W) => (ebytes_any M v W (hok.below hW) hsm hv1 hv2).mono (fun e w' h => bytesR_sl h)
  have hR : FrOfR w M v = fun e w' => (((chkV M (ofL (M.k : Int) v)).1 ≠ 0 ∧ e = .returned (.tuple #[.agg #[.int .u8 0, .slice none 0 0], .agg #[.int .i64 (chkV M (ofL (M.k : Int) v)).1, .int .i64 (chkV M (ofL (M.k : Int) v)).2]])) ∨
   ((chkV M (ofL (M.k : Int) v)).1 = 0 ∧ ∃ A c, e = .returned (.tuple #[.agg #[.int .u8 (M.k : Int), .slice A (encB M (ofL (M.k : Int) v)).length c], .agg #[.int .i64 0, .int .i64 0]]) ∧ Sl w' A c ((encB M (ofL (M.k : Int) v)).map bv))) ∧ Below w.heap.size w w' := rfl
  generalize FrOfR w M v = R at *
  generalize encB M (ofL (M.k : Int) v) = eb at *
  generalize (chkV M (ofL (M.k : Int) v)).1 = E1 at *
  generalize (chkV M (ofL (M.k : Int) v)).2 = E2 at *
  unfold mvV mvA at *
  generalize M.l.length = len at *
  generalize eb.map bv = ebv at *
  generalize eb.length = el at *
  have HB := hid hb
  have HR := hid hR
  clear hb hok hR
  obtain ⟨s, hs⟩ : ∃ s, w.heap.size = s := ⟨_, rfl⟩
  have hbb := bw_a (bw_a (bw_a (Below.refl _ w) (.cells #[.int .u8 (M.k : Int), .int .u64 (M.n0 : Int), .int .u64 (M.n1 : Int), .int .u64 (M.n2 : Int), .int .u64 (M.n3 : Int), .int .u64 (M.n4 : Int), .int .u64 (M.n5 : Int), .string M.s0, .string M.s1, .slice M.A len M.c] 48)) (.cells #[.int .u8 0, .slice none 0 0] 24)) (.cells #[.int .i64 0, .int .i64 0] 40)
  have hk0 := (((Blk.new w 48 #[.int .u8 (M.k : Int), .int .u64 (M.n0 : Int), .int .u64 (M.n1 : Int), .int .u64 (M.n2 : Int), .int .u64 (M.n3 : Int), .int .u64 (M.n4 : Int), .int .u64 (M.n5 : Int), .string M.s0, .string M.s1, .slice M.A len M.c]).alloc (.cells #[.int .u8 0, .slice none 0 0] 24)).alloc (.cells #[.int .i64 0, .int .i64 0] 40))
  have hk1 := ((Blk.new (w.alloc (.cells #[.int .u8 (M.k : Int), .int .u64 (M.n0 : Int), .int .u64 (M.n1 : Int), .int .u64 (M.n2 : Int), .int .u64 (M.n3 : Int), .int .u64 (M.n4 : Int), .int .u64 (M.n5 : Int), .string M.s0, .string M.s1, .slice M.A len M.c] 48)) 24 #[.int .u8 0, .slice none 0 0]).alloc (.cells #[.int .i64 0, .int .i64 0] 40))
  have hk2 := (Blk.new ((w.alloc (.cells #[.int .u8 (M.k : Int), .int .u64 (M.n0 : Int), .int .u64 (M.n1 : Int), .int .u64 (M.n2 : Int), .int .u64 (M.n3 : Int), .int .u64 (M.n4 : Int), .int .u64 (M.n5 : Int), .string M.s0, .string M.s1, .slice M.A len M.c] 48)).alloc (.cells #[.int .u8 0, .slice none 0 0] 24)) 40 #[.int .i64 0, .int .i64 0])
  simp only [World.size_alloc] at hk1 hk2
  have hl0 := hk0.lt
  have hl1 := hk1.lt
  have hl2 := hk2.lt
  have HK0 := hid hk0
  have HK1 := hid hk1
  have HK2 := hid hk2
  have HBB := hid hbb
  clear hk0 hk1 hk2 hbb
  go_enter Try.func15, Try.ntmps15
  go_wp2_with fail
  refine (HB.out _ HBB.out).mono ?_
  rintro e w1 ⟨A, c, rfl, hs1, ho1, hb1⟩
  have hk0 := HK0.out.below hb1 hl0
  have hk1 := HK1.out.below hb1 hl1
  have hk2 := HK2.out.below hb1 hl2
  have hB1 := bw_t HBB.out hb1
  have c0 := hk0.cell 0
  have d0 := hk1.cell 0
  have d1 := hk1.cell 1
  have e0 := hk2.cell 0
  have e1 := hk2.cell 1
  simp only [List.getElem?_toArray, List.getElem?_cons_zero, List.getElem?_cons_succ] at c0 d0 d1 e0 e1
  have f1 := fun i => hk1.frozen i
  have f2 := fun i => hk2.frozen i
  have l0 := hk0.lt
  have l1 := hk1.lt
  have l2 := hk2.lt
  rw [hs] at c0 d0 d1 e0 e1 f1 f2 l0 l1 l2
  rw [hs] at hk1 hk2
  simp only [World.size_alloc, hs] at ho1
  have HO1 := hid ho1
  have HSZ := hid hs
  clear hs ho1
  have HS1 := hid hs1
  have HK1 := hid hk1
  have HK2 := hid hk2
  have HB1 := hid hB1
  have hmx : Try.prog.follows .mixedOrders = true := by kernel_rfl
  clear hk0 hk1 hk2 hB1 hs1 hb1
  by_cases hE : E1 = 0
  · subst hE
    go_wp2_with fail
    obtain ⟨W9, hW9⟩ : ∃ W9, ((((((w1.setCell ⟨s + 1, 0, none⟩ (.int .u8 (M.k : Int))).setCell ⟨s + 1, 1, none⟩ (.slice A el c)).setCell ⟨s + 1 + 1, 0, none⟩ (.int .i64 0)).setCell ⟨s + 1 + 1, 1, none⟩ (.int .i64 0)).alloc (.cells #[.int .i64 0, .int .i64 E2] 40))) = W9 := ⟨_, rfl⟩
    have hq1 : Blk W9 (s + 1) 24 #[(.int .u8 (M.k : Int)), (.slice A el c)] := by
      rw [← hW9]
      have h := (((Blk.set_ (Blk.set_ HK1.out 0 (.int .u8 (M.k : Int))) 1 (.slice A el c)).far (p := ⟨s + 1 + 1, 0, none⟩) (show s + 1 ≠ s + 1 + 1 by omega) (.int .i64 0)).far (p := ⟨s + 1 + 1, 1, none⟩) (show s + 1 ≠ s + 1 + 1 by omega) (.int .i64 0)).alloc (.cells #[.int .i64 0, .int .i64 E2] 40)
      exact h
    have hq2 : Blk W9 (s + 1 + 1) 40 #[(.int .i64 0), (.int .i64 0)] := by
      rw [← hW9]
      have h := (Blk.set_ (Blk.set_ ((HK2.out.far (p := ⟨s + 1, 0, none⟩) (show s + 1 + 1 ≠ s + 1 by omega) (.int .u8 (M.k : Int))).far (p := ⟨s + 1, 1, none⟩) (show s + 1 + 1 ≠ s + 1 by omega) (.slice A el c)) 0 (.int .i64 0)) 1 (.int .i64 0)).alloc (.cells #[.int .i64 0, .int .i64 E2] 40)
      exact h
    have hch : Chg (fun k => k = s + 1 ∨ k = s + 1 + 1) w1 W9 := by
      rw [← hW9]
      exact ((((((Chg.refl (fun k => k = s + 1 ∨ k = s + 1 + 1) w1).set_ (.inl (.inl rfl)) 0 _).set_ (.inl (.inl rfl)) 1 _).set_ (.inl (.inr rfl)) 0 _).set_ (.inl (.inr rfl)) 1 _).alloc _)
    have g0 := hq1.cell 0
    have g1 := hq1.cell 1
    have g2 := hq2.cell 0
    have g3 := hq2.cell 1
    simp only [List.getElem?_toArray, List.getElem?_cons_zero, List.getElem?_cons_succ] at g0 g1 g2 g3
    have HB9 := hid (HB1.out.trans (hch.below (B := w.heap.size) (fun k hk => by have := HSZ.out; omega) HB1.out.size))
    have HC9 := hid hch
    rw [hW9]
    clear hW9 hq1 hq2 hch
    refine bodyPost_ret (v := .tuple #[.agg #[.int .u8 (M.k : Int), .slice A el c], .agg #[.int .i64 0, .int .i64 0]]) (by simp [results, Try.results15, go_sem, g0, g1, g2, g3]) rfl ?_
    rw [HR.out]
    have ho9 := own_chgS HO1.out HC9.out (fun g hg hk => by have := (HO1.out.lt g hg).1; omega)
    exact ⟨.inr ⟨trivial, A, c, rfl, Sl.of_own'' ho9⟩, HB9.out⟩
  · have hEb : (E1 != 0) = true := by simpa using hE
    go_wp2_with fail
    go_region
    go_wp2_with fail
    obtain ⟨W9, hW9⟩ : ∃ W9, ((((((w1.setCell ⟨s + 1, 0, none⟩ (.int .u8 0)).setCell ⟨s + 1, 1, none⟩ (.slice none 0 0)).setCell ⟨s + 1 + 1, 0, none⟩ (.int .i64 E1)).setCell ⟨s + 1 + 1, 1, none⟩ (.int .i64 E2)).alloc (.cells #[.int .i64 E1, .int .i64 E2] 40)).drew) = W9 := ⟨_, rfl⟩
    have hq1 : Blk W9 (s + 1) 24 #[(.int .u8 0), (.slice none 0 0)] := by
      rw [← hW9]
      have h := (((Blk.set_ (Blk.set_ HK1.out 0 (.int .u8 0)) 1 (.slice none 0 0)).far (p := ⟨s + 1 + 1, 0, none⟩) (show s + 1 ≠ s + 1 + 1 by omega) (.int .i64 E1)).far (p := ⟨s + 1 + 1, 1, none⟩) (show s + 1 ≠ s + 1 + 1 by omega) (.int .i64 E2)).alloc (.cells #[.int .i64 E1, .int .i64 E2] 40)
      exact h
    have hq2 : Blk W9 (s + 1 + 1) 40 #[(.int .i64 E1), (.int .i64 E2)] := by
      rw [← hW9]
      have h := (Blk.set_ (Blk.set_ ((HK2.out.far (p := ⟨s + 1, 0, none⟩) (show s + 1 + 1 ≠ s + 1 by omega) (.int .u8 0)).far (p := ⟨s + 1, 1, none⟩) (show s + 1 + 1 ≠ s + 1 by omega) (.slice none 0 0)) 0 (.int .i64 E1)) 1 (.int .i64 E2)).alloc (.cells #[.int .i64 E1, .int .i64 E2] 40)
      exact h
    have hch : Chg (fun k => k = s + 1 ∨ k = s + 1 + 1) w1 W9 := by
      rw [← hW9]
      exact ((((((Chg.refl (fun k => k = s + 1 ∨ k = s + 1 + 1) w1).set_ (.inl (.inl rfl)) 0 _).set_ (.inl (.inl rfl)) 1 _).set_ (.inl (.inr rfl)) 0 _).set_ (.inl (.inr rfl)) 1 _).alloc _).drew
    have g0 := hq1.cell 0
    have g1 := hq1.cell 1
    have g2 := hq2.cell 0
    have g3 := hq2.cell 1
    simp only [List.getElem?_toArray, List.getElem?_cons_zero, List.getElem?_cons_succ] at g0 g1 g2 g3
    have HB9 := hid (HB1.out.trans (hch.below (B := w.heap.size) (fun k hk => by have := HSZ.out; omega) HB1.out.size))
    have HC9 := hid hch
    rw [hW9]
    clear hW9 hq1 hq2 hch
    refine bodyPost_ret (v := .tuple #[.agg #[.int .u8 0, .slice none 0 0], .agg #[.int .i64 E1, .int .i64 E2]]) (by simp [results, Try.results15, go_sem, g0, g1, g2, g3]) rfl ?_
    rw [HR.out]
    exact ⟨.inl ⟨hE, rfl⟩, HB9.out⟩
end Go.Proofs.Ytdnfbnfjjenjjaa
