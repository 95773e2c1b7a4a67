/- The document's feeder's end. -/
import Derived.Test.YtnfodgjihdoncaaFdRef
import Derived.Test.YtnfodgjihdoncaaFdSmall
set_option linter.unusedVariables false
namespace Go.Proofs.Ytnfodgjihdoncaa
open Go.RowKit
set_option maxRecDepth 100000 in
set_option maxHeartbeats 2000000 in
theorem rfend_over (g : Nat) (vb : Value) (told : Nat) (w : World) (hk : Blk w g 45 #[vb, .int .i64 (told : Int), .bool true]) :
    Calls Try.prog 22 #[.pointer (some ⟨g, 0, none⟩)] w fun e w' => e = .returned (.slice none 0 0) ∧ Below w.heap.size w w' := by
  have c2 := hk.cell 2
  simp only [List.getElem?_toArray, List.getElem?_cons_zero, List.getElem?_cons_succ] at c2
  clear hk
  go_enter Try.func22, Try.ntmps22
  go_wp2_with fail
  go_ret
  exact ⟨rfl, Below.refl _ _⟩
theorem re_st {g : Nat} {v t : Value} {w : World} (h : Blk w g 45 #[v, t, .bool false]) :
    Blk (w.setCell ⟨g, 2, none⟩ (.bool true)) g 45 #[v, t, .bool true] ∧ Chg (fun q => q = g) w (w.setCell ⟨g, 2, none⟩ (.bool true)) :=
  ⟨by have := h.set_ 2 (.bool true); simpa using this, (Chg.refl (fun q => q = g) w).set_ (.inl rfl) 2 _⟩
/-- Rows whose places were moved. -/
theorem moved_row {B2 L : Nat} {Al : Option Addr} {cl K : Nat} {fs : List FdV} {w w' : World} (h2 : w.ownsRow B2 80 3 (.slice Al L cl) L (fs.flatMap fdC)) (hL : fs.length = L) (h3 : ∀ f ∈ fs, Pay B2 w f.A f.c f.f.pl) (ho : w'.ownsRow B2 80 3 (.slice Al L cl) L ((fs.map (FdV.shift K)).flatMap fdC)) (hch : Chg (fun q => (Value.slice Al L cl).ownBlock = some q) w w') : FdRow B2 w' (.slice Al L cl) ((fs.map FdV.f).map (Fnd.shift K)) := by
  refine ⟨fs.map (FdV.shift K), ?_, ?_, ?_⟩
  · rw [List.map_map, List.map_map]; rfl
  · rw [List.length_map, hL]; exact ho
  · intro f hf
    obtain ⟨f0, hf0, rfl⟩ := List.mem_map.1 hf
    refine Pay.chg (h3 f0 hf0) hch fun b cs k hb hbk hs => ?_
    rcases h2.2 with ⟨h4, -⟩ | ⟨g2, cap, cur, h4, -, hg2, -⟩
    · rw [h4] at hs; cases hs
    · rw [h4] at hs
      injection hs with hs
      simp only at hs
      subst hs
      rw [hg2] at hbk
      injection hbk with hbk
      injection hbk with _ h6
      exact absurd h6 (by decide)
set_option maxRecDepth 100000 in
set_option maxHeartbeats 1500000 in
theorem rfend_any (B g : Nat) (T : List UInt8) (told : Nat) (A : Option Addr) (n c : Nat) (w : World) (h : RfS B g T told false A n c w) (hgw : g < w.heap.size) (hgB : g < B) (hl : n ≤ 1000000) :
    Calls Try.prog 22 #[.pointer (some ⟨g, 0, none⟩)] w fun e w' => ∃ A' c', e = .returned (.slice A' (Rs.wk true (T.drop (Rs.wk false T 0).2) 0).1.length c') ∧ FdRow w.heap.size w' (.slice A' (Rs.wk true (T.drop (Rs.wk false T 0).2) 0).1.length c') ((Rs.wk true (T.drop (Rs.wk false T 0).2) 0).1.map (Fnd.shift (Rs.wk false T 0).2)) ∧ RfS B g T told true A n c w' ∧ Chg (fun q => q = g) w w' := by
  have hw := rwalk_any false T n A c w h.len hl (Sl.of_own' h.row)
  have hkn : (Rs.wk false T 0).2 ≤ n := by have := (Rs.wk_facts false T 0).2.2 (by omega); rw [h.len] at this; exact this
  have hTl := h.len
  unfold WkR at hw
  generalize (Rs.wk false T 0).2 = K at *
  generalize (Rs.wk false T 0).1 = l0 at *
  have hw2 := fun W A' c' (hs : Sl W A' c' ((T.drop K).map bv)) => rwalk_any true (T.drop K) (n - K) A' c' W (by rw [List.length_drop, hTl]) (by omega) hs
  have hat : ∀ f ∈ (Rs.wk true (T.drop K) 0).1, f.at_ ≤ n := fun f hf => by
    have hfa := Rs.wk_facts true (T.drop K) 0
    have h1 := (hfa.1 f hf).2.2
    have h2 := hfa.2.2 (by omega)
    rw [List.length_drop, hTl] at h2
    omega
  unfold WkR at hw2
  generalize (Rs.wk true (T.drop K) 0).2 = K2 at *
  generalize (Rs.wk true (T.drop K) 0).1 = l at *
  obtain ⟨L, hL⟩ : ∃ L, l.length = L := ⟨_, rfl⟩
  obtain ⟨L0, hL0⟩ : ∃ L, l0.length = L := ⟨_, rfl⟩
  rw [hL] at hw2 ⊢
  rw [hL0] at hw
  have hcap := (Sl.of_own' h.row).cap
  have hsma := (Sl.of_own' h.row).small
  rw [List.length_map, hTl] at hcap
  have hA : (A = none ∧ n = 0 ∧ c = 0) ∨ ∃ ga, A = some ⟨ga, 0, none⟩ := by
    rcases h.row.2 with ⟨h4, h5⟩ | ⟨g3, cap, cur, h4, -⟩
    · injection h4 with e1 e2 e3
      exact .inl ⟨e1, e2, e3⟩
    · injection h4 with e1
      exact .inr ⟨g3, e1⟩
  have hcut := fun W (hW : Below w.heap.size w W) => (Sl.below (Sl.of_own' h.row) hW).cut K (by omega)
  have c0 := h.blk.cell 0
  have c2 := h.blk.cell 2
  simp only [List.getElem?_toArray, List.getElem?_cons_zero, List.getElem?_cons_succ] at c0 c2
  have HW := hid hw
  have HW2 := hid hw2
  have HCUT := hid hcut
  have HB := hid h.blk
  have HROW := hid h.row
  have HAT := hid hat
  have HLL := hid hL
  have hki : (K : Int) ≤ (n : Int) := by omega
  have hk0 : (0 : Int) ≤ (K : Int) := by omega
  clear hw hw2 hcut h hat hL hL0 hTl
  go_enter Try.func22, Try.ntmps22
  go_wp2_with fail
  refine HW.out.mono ?_
  rintro e w1 ⟨A1, c1, ps, rfl, -, -, hb1⟩
  have hk1 := HB.out.below hb1 HB.out.lt
  have e0 := hk1.cell 0
  simp only [List.getElem?_toArray, List.getElem?_cons_zero, List.getElem?_cons_succ] at e0
  have hcu := HCUT.out _ hb1
  have HB1 := hid hb1
  have HK1 := hid hk1
  have HCU := hid hcu
  clear c0 c2 hb1 hk1 hcu
  rcases hA with ⟨rfl, rfl, rfl⟩ | ⟨ga, rfl⟩
  · obtain rfl : K = 0 := by omega
    go_wp2_with fail
    refine (HW2.out _ _ _ (by simpa [cutA] using HCU.out)).mono ?_
    rintro e w4 ⟨Al, cl, ps2, rfl, -, hf4, hb4⟩
    have hb14 := HB1.out.trans (hb4.mono HB1.out.size)
    obtain ⟨fs, hf1, hf2, hf3⟩ := hf4.mono (B' := w.heap.size) HB1.out.size
    have hfl : fs.length = L := by rw [← HLL.out, ← hf1, List.length_map]
    rw [hfl] at hf2
    have hLl : L ≤ 9223372036854775807 := by
      rcases hf2.2 with ⟨h1, h2⟩ | ⟨g', cap, cur, h1, -, -, h2, h3, -⟩
      · omega
      · simp only [maxLen] at h3; omega
    have HF1 := hid hf1
    have HF2 := hid hf2
    have HF3 := hid hf3
    have HFL := hid hfl
    have HB14 := hid hb14
    clear hf1 hf2 hf3 hfl hb14 hb4 hf4 e0
    go_wp2_with fail
    go_loopw [9] (fun i wr => ∃ j : Nat, j ≤ L ∧ i = .int .i64 (j : Int) ∧ wr.ownsRow w.heap.size 80 3 (.slice Al L cl) L ((mvd 0 j fs).flatMap fdC) ∧ Chg (fun q => (Value.slice Al L cl).ownBlock = some q) w4 wr) (fun i _ => L - (intOf i).toNat)
    case atStart => exact ⟨0, by omega, rfl, by simpa [mvd] using HF2.out, Chg.refl _ w4⟩
    case round =>
      obtain ⟨j, hj, rfl, ho, hch⟩ := hrel
      have HO := hid ho
      have HCH := hid hch
      clear ho hch
      by_cases hlt : j < L
      · have hji : (j : Int) < (L : Int) := by omega
        have hjf : j < fs.length := by have := HFL.out; omega
        obtain ⟨gr, rfl⟩ : ∃ gr, Al = some ⟨gr, 0, none⟩ := by
          rcases HO.out.2 with ⟨h1, h2⟩ | ⟨g', cap, cur, h1, -⟩
          · omega
          · injection h1 with h1; exact ⟨g', h1⟩
        have hget := flat3_get (mvd 0 j fs) j (by rw [mvd_len]; exact hjf)
        rw [mvd_at 0 j fs hjf] at hget
        have hcell := (HO.out.cellAt (3 * j) (by omega)).trans hget
        rw [Nat.mul_comm 3 j] at hcell
        have hfro := HO.out.frozenAt (j * 3)
        have hst := HO.out.stored (j * 3) (.int .i64 ((0 + fs[j].f.at_ : Nat) : Int))
        have hset := flat3_set (mvd 0 j fs) 0 j (by rw [mvd_len]; exact hjf)
        rw [mvd_at 0 j fs hjf, mvd_next 0 j fs hjf] at hset
        rw [Nat.mul_comm 3 j] at hset
        rw [hset, Int.natCast_add] at hst
        have hle2 := HAT.out fs[j].f (by rw [← HF1.out]; exact List.mem_map_of_mem (List.getElem_mem hjf))
        generalize fs[j].f.at_ = p at *
        have hadd : IntKind.i64.wrap ((p : Int) + (0 : Int)) = ((0 + p : Nat) : Int) := by rw [IntWalk.i64_in _ (by omega)]; omega
        rw [show (((0 : Nat) : Int) + (p : Int)) = (p : Int) by omega] at hst
        have HST := hid hst
        clear hget hset hst
        go_wp2_with fail
        refine ⟨⟨j + 1, by omega, by go_num, HST.out.1, HCH.out.trans (Chg.of_grown HST.out.2 (fun q e => e))⟩, ?_⟩
        simp [intOf]; omega
      · obtain rfl : j = L := by omega
        have hji : ¬ (j : Int) < (j : Int) := by omega
        have hoj := HO.out
        rw [show mvd 0 j fs = fs.map (FdV.shift 0) by rw [← HFL.out]; exact mvd_all 0 fs] at hoj
        have hrow := moved_row HF2.out HFL.out HF3.out hoj HCH.out
        rw [HF1.out] at hrow
        have hne : ¬ (Value.slice Al j cl).ownBlock = some g := fun hq => by have := (HF2.out.lt _ hq).1; omega
        have hkw := HCH.out.blk (HB.out.below HB14.out HB.out.lt) hne
        have f2 := hkw.frozen 2
        have d2 := hkw.cell 2
        simp only [List.getElem?_toArray, List.getElem?_cons_zero, List.getElem?_cons_succ] at d2
        have hst := re_st hkw
        have hor := own_chgS (own_below HROW.out HB14.out) HCH.out (fun q hq hs => by rcases own_two (own_below HROW.out HB14.out) HF2.out (by decide) with h | h; (rw [h] at hq; cases hq); exact h (by rw [hq, hs]))
        have hor2 := own_chgS hor hst.2 (fun q hq e => by have := (hor.lt q hq).1; omega)
        have hrow2 := hrow.chg hst.2 (fun b hb e => by omega)
        have hfin : Chg (fun q => q = g) w (wr.setCell ⟨g, 2, none⟩ (.bool true)) := by
          refine Chg.mono (S := fun q => q = g ∨ (Value.slice Al j cl).ownBlock = some q) (((Chg.of_new HB14.out).trans (HCH.out.mono (fun q _ h => .inr h))).trans (hst.2.mono (fun q _ h => .inl h))) (fun q hq h => ?_)
          rcases h with h | h
          · exact h
          · have := (HF2.out.lt _ h).1; omega
        have HR2 := hid hrow2
        have HS1 := hid hst.1
        have HO2 := hid hor2
        have HFI := hid hfin
        clear hoj hrow hkw hst hor hor2 hrow2 hfin
        go_wp2_with fail
        go_ret
        exact ⟨_, _, rfl, HR2.out, ⟨HS1.out, HO2.out⟩, HFI.out⟩
  by_cases hcK : c = K
  · have e1 : n = c := by omega
    have e2 : K = c := hcK.symm
    clear hcK
    subst e1
    subst e2
    have hw2 := HW2.out
    simp only [Nat.sub_self] at hw2
    have HW2 := hid hw2
    clear hw2
    go_wp2_with fail
    refine (HW2.out _ _ _ (by have h := HCU.out; rw [Nat.sub_self] at h; simpa [cutA] using h)).mono ?_
    rintro e w4 ⟨Al, cl, ps2, rfl, -, hf4, hb4⟩
    have hb14 := HB1.out.trans (hb4.mono HB1.out.size)
    obtain ⟨fs, hf1, hf2, hf3⟩ := hf4.mono (B' := w.heap.size) HB1.out.size
    have hfl : fs.length = L := by rw [← HLL.out, ← hf1, List.length_map]
    rw [hfl] at hf2
    have hLl : L ≤ 9223372036854775807 := by
      rcases hf2.2 with ⟨h1, h2⟩ | ⟨g', cap, cur, h1, -, -, h2, h3, -⟩
      · omega
      · simp only [maxLen] at h3; omega
    have HF1 := hid hf1
    have HF2 := hid hf2
    have HF3 := hid hf3
    have HFL := hid hfl
    have HB14 := hid hb14
    clear hf1 hf2 hf3 hfl hb14 hb4 hf4 e0
    go_wp2_with fail
    go_loopw [9] (fun i wr => ∃ j : Nat, j ≤ L ∧ i = .int .i64 (j : Int) ∧ wr.ownsRow w.heap.size 80 3 (.slice Al L cl) L ((mvd K j fs).flatMap fdC) ∧ Chg (fun q => (Value.slice Al L cl).ownBlock = some q) w4 wr) (fun i _ => L - (intOf i).toNat)
    case atStart => exact ⟨0, by omega, rfl, by simpa [mvd] using HF2.out, Chg.refl _ w4⟩
    case round =>
      obtain ⟨j, hj, rfl, ho, hch⟩ := hrel
      have HO := hid ho
      have HCH := hid hch
      clear ho hch
      by_cases hlt : j < L
      · have hji : (j : Int) < (L : Int) := by omega
        have hjf : j < fs.length := by have := HFL.out; omega
        obtain ⟨gr, rfl⟩ : ∃ gr, Al = some ⟨gr, 0, none⟩ := by
          rcases HO.out.2 with ⟨h1, h2⟩ | ⟨g', cap, cur, h1, -⟩
          · omega
          · injection h1 with h1; exact ⟨g', h1⟩
        have hget := flat3_get (mvd K j fs) j (by rw [mvd_len]; exact hjf)
        rw [mvd_at K j fs hjf] at hget
        have hcell := (HO.out.cellAt (3 * j) (by omega)).trans hget
        rw [Nat.mul_comm 3 j] at hcell
        have hfro := HO.out.frozenAt (j * 3)
        have hst := HO.out.stored (j * 3) (.int .i64 ((K + fs[j].f.at_ : Nat) : Int))
        have hset := flat3_set (mvd K j fs) K j (by rw [mvd_len]; exact hjf)
        rw [mvd_at K j fs hjf, mvd_next K j fs hjf] at hset
        rw [Nat.mul_comm 3 j] at hset
        rw [hset, Int.natCast_add] at hst
        have hle2 := HAT.out fs[j].f (by rw [← HF1.out]; exact List.mem_map_of_mem (List.getElem_mem hjf))
        generalize fs[j].f.at_ = p at *
        have hadd : IntKind.i64.wrap ((p : Int) + (K : Int)) = ((K + p : Nat) : Int) := by rw [IntWalk.i64_in _ (by omega)]; omega
        have HST := hid hst
        clear hget hset hst
        go_wp2_with fail
        refine ⟨⟨j + 1, by omega, by go_num, HST.out.1, HCH.out.trans (Chg.of_grown HST.out.2 (fun q e => e))⟩, ?_⟩
        simp [intOf]; omega
      · obtain rfl : j = L := by omega
        have hji : ¬ (j : Int) < (j : Int) := by omega
        have hoj := HO.out
        rw [show mvd K j fs = fs.map (FdV.shift K) by rw [← HFL.out]; exact mvd_all K fs] at hoj
        have hrow := moved_row HF2.out HFL.out HF3.out hoj HCH.out
        rw [HF1.out] at hrow
        have hne : ¬ (Value.slice Al j cl).ownBlock = some g := fun hq => by have := (HF2.out.lt _ hq).1; omega
        have hkw := HCH.out.blk (HB.out.below HB14.out HB.out.lt) hne
        have f2 := hkw.frozen 2
        have d2 := hkw.cell 2
        simp only [List.getElem?_toArray, List.getElem?_cons_zero, List.getElem?_cons_succ] at d2
        have hst := re_st hkw
        have hor := own_chgS (own_below HROW.out HB14.out) HCH.out (fun q hq hs => by rcases own_two (own_below HROW.out HB14.out) HF2.out (by decide) with h | h; (rw [h] at hq; cases hq); exact h (by rw [hq, hs]))
        have hor2 := own_chgS hor hst.2 (fun q hq e => by have := (hor.lt q hq).1; omega)
        have hrow2 := hrow.chg hst.2 (fun b hb e => by omega)
        have hfin : Chg (fun q => q = g) w (wr.setCell ⟨g, 2, none⟩ (.bool true)) := by
          refine Chg.mono (S := fun q => q = g ∨ (Value.slice Al j cl).ownBlock = some q) (((Chg.of_new HB14.out).trans (HCH.out.mono (fun q _ h => .inr h))).trans (hst.2.mono (fun q _ h => .inl h))) (fun q hq h => ?_)
          rcases h with h | h
          · exact h
          · have := (HF2.out.lt _ h).1; omega
        have HR2 := hid hrow2
        have HS1 := hid hst.1
        have HO2 := hid hor2
        have HFI := hid hfin
        clear hoj hrow hkw hst hor hor2 hrow2 hfin
        go_wp2_with fail
        go_ret
        exact ⟨_, _, rfl, HR2.out, ⟨HS1.out, HO2.out⟩, HFI.out⟩
  · have hcK2 : ¬ K = c := fun h => hcK h.symm
    go_wp2_with fail
    refine (HW2.out _ _ _ (by have h := HCU.out; unfold cutA at h; rw [if_neg hcK] at h; simpa [addr_add] using h)).mono ?_
    rintro e w4 ⟨Al, cl, ps2, rfl, -, hf4, hb4⟩
    have hb14 := HB1.out.trans (hb4.mono HB1.out.size)
    obtain ⟨fs, hf1, hf2, hf3⟩ := hf4.mono (B' := w.heap.size) HB1.out.size
    have hfl : fs.length = L := by rw [← HLL.out, ← hf1, List.length_map]
    rw [hfl] at hf2
    have hLl : L ≤ 9223372036854775807 := by
      rcases hf2.2 with ⟨h1, h2⟩ | ⟨g', cap, cur, h1, -, -, h2, h3, -⟩
      · omega
      · simp only [maxLen] at h3; omega
    have HF1 := hid hf1
    have HF2 := hid hf2
    have HF3 := hid hf3
    have HFL := hid hfl
    have HB14 := hid hb14
    clear hf1 hf2 hf3 hfl hb14 hb4 hf4 e0
    go_wp2_with fail
    go_loopw [9] (fun i wr => ∃ j : Nat, j ≤ L ∧ i = .int .i64 (j : Int) ∧ wr.ownsRow w.heap.size 80 3 (.slice Al L cl) L ((mvd K j fs).flatMap fdC) ∧ Chg (fun q => (Value.slice Al L cl).ownBlock = some q) w4 wr) (fun i _ => L - (intOf i).toNat)
    case atStart => exact ⟨0, by omega, rfl, by simpa [mvd] using HF2.out, Chg.refl _ w4⟩
    case round =>
      obtain ⟨j, hj, rfl, ho, hch⟩ := hrel
      have HO := hid ho
      have HCH := hid hch
      clear ho hch
      by_cases hlt : j < L
      · have hji : (j : Int) < (L : Int) := by omega
        have hjf : j < fs.length := by have := HFL.out; omega
        obtain ⟨gr, rfl⟩ : ∃ gr, Al = some ⟨gr, 0, none⟩ := by
          rcases HO.out.2 with ⟨h1, h2⟩ | ⟨g', cap, cur, h1, -⟩
          · omega
          · injection h1 with h1; exact ⟨g', h1⟩
        have hget := flat3_get (mvd K j fs) j (by rw [mvd_len]; exact hjf)
        rw [mvd_at K j fs hjf] at hget
        have hcell := (HO.out.cellAt (3 * j) (by omega)).trans hget
        rw [Nat.mul_comm 3 j] at hcell
        have hfro := HO.out.frozenAt (j * 3)
        have hst := HO.out.stored (j * 3) (.int .i64 ((K + fs[j].f.at_ : Nat) : Int))
        have hset := flat3_set (mvd K j fs) K j (by rw [mvd_len]; exact hjf)
        rw [mvd_at K j fs hjf, mvd_next K j fs hjf] at hset
        rw [Nat.mul_comm 3 j] at hset
        rw [hset, Int.natCast_add] at hst
        have hle2 := HAT.out fs[j].f (by rw [← HF1.out]; exact List.mem_map_of_mem (List.getElem_mem hjf))
        generalize fs[j].f.at_ = p at *
        have hadd : IntKind.i64.wrap ((p : Int) + (K : Int)) = ((K + p : Nat) : Int) := by rw [IntWalk.i64_in _ (by omega)]; omega
        have HST := hid hst
        clear hget hset hst
        go_wp2_with fail
        refine ⟨⟨j + 1, by omega, by go_num, HST.out.1, HCH.out.trans (Chg.of_grown HST.out.2 (fun q e => e))⟩, ?_⟩
        simp [intOf]; omega
      · obtain rfl : j = L := by omega
        have hji : ¬ (j : Int) < (j : Int) := by omega
        have hoj := HO.out
        rw [show mvd K j fs = fs.map (FdV.shift K) by rw [← HFL.out]; exact mvd_all K fs] at hoj
        have hrow := moved_row HF2.out HFL.out HF3.out hoj HCH.out
        rw [HF1.out] at hrow
        have hne : ¬ (Value.slice Al j cl).ownBlock = some g := fun hq => by have := (HF2.out.lt _ hq).1; omega
        have hkw := HCH.out.blk (HB.out.below HB14.out HB.out.lt) hne
        have f2 := hkw.frozen 2
        have d2 := hkw.cell 2
        simp only [List.getElem?_toArray, List.getElem?_cons_zero, List.getElem?_cons_succ] at d2
        have hst := re_st hkw
        have hor := own_chgS (own_below HROW.out HB14.out) HCH.out (fun q hq hs => by rcases own_two (own_below HROW.out HB14.out) HF2.out (by decide) with h | h; (rw [h] at hq; cases hq); exact h (by rw [hq, hs]))
        have hor2 := own_chgS hor hst.2 (fun q hq e => by have := (hor.lt q hq).1; omega)
        have hrow2 := hrow.chg hst.2 (fun b hb e => by omega)
        have hfin : Chg (fun q => q = g) w (wr.setCell ⟨g, 2, none⟩ (.bool true)) := by
          refine Chg.mono (S := fun q => q = g ∨ (Value.slice Al j cl).ownBlock = some q) (((Chg.of_new HB14.out).trans (HCH.out.mono (fun q _ h => .inr h))).trans (hst.2.mono (fun q _ h => .inl h))) (fun q hq h => ?_)
          rcases h with h | h
          · exact h
          · have := (HF2.out.lt _ h).1; omega
        have HR2 := hid hrow2
        have HS1 := hid hst.1
        have HO2 := hid hor2
        have HFI := hid hfin
        clear hoj hrow hkw hst hor hor2 hrow2 hfin
        go_wp2_with fail
        go_ret
        exact ⟨_, _, rfl, HR2.out, ⟨HS1.out, HO2.out⟩, HFI.out⟩
end Go.Proofs.Ytnfodgjihdoncaa
