/- The document's Put of fields. -/
import Derived.Test.YtfbmdeegcoocnaaRefPuts
import Derived.Test.YtfbmdeegcoocnaaSkOf
import Derived.Deep.QuietTactic
import Derived.BigQuiet
set_option linter.unusedVariables false
namespace Go.Proofs.Ytfbmdeegcoocnaa
open Go.RowKit
set_option maxRecDepth 100000 in
set_option maxHeartbeats 2000000 in
theorem rputs_any (l : List FV) (m : Nat) (A : Option Addr) (c : Nat) (w : World) (hm : l.length = m) (hm2 : m ≤ 2000) (hl : SlN w A m c 5 (l.flatMap fvC)) (hok : ∀ f ∈ l, FvOk w f) (hx : ∀ f ∈ l, f.s.xs.length ≤ 2000) :
    Calls Try.prog 19 #[.slice A m c] w fun e w' => (((putsE l 0).1 = 0 ∧ ∃ A' c', e = .returned (.tuple #[.slice A' (l.flatMap pBF).length c', .agg #[.int .i64 0, .int .i64 0]]) ∧ Sl w' A' c' ((l.flatMap pBF).map bv)) ∨
      ((putsE l 0).1 ≠ 0 ∧ e = .returned (.tuple #[.slice none 0 0, .agg #[.int .i64 ((putsE l 0).1 : Nat), .int .i64 ((putsE l 0).2 : Nat)]]))) ∧ Below w.heap.size w w' := by
  have hcm : m ≤ 9223372036854775807 := by omega
  obtain ⟨R, hR⟩ : ∃ R : Ending → World → Prop, R = fun e w' => (((putsE l 0).1 = 0 ∧ ∃ A' c', e = .returned (.tuple #[.slice A' (l.flatMap pBF).length c', .agg #[.int .i64 0, .int .i64 0]]) ∧ Sl w' A' c' ((l.flatMap pBF).map bv)) ∨
      ((putsE l 0).1 ≠ 0 ∧ e = .returned (.tuple #[.slice none 0 0, .agg #[.int .i64 ((putsE l 0).1 : Nat), .int .i64 ((putsE l 0).2 : Nat)]]))) ∧ Below w.heap.size w w' := ⟨_, rfl⟩
  rw [← hR]
  have HR := hid hR
  have HM := hid hm
  have HL := hid hl
  have HOK := hid hok
  have HX := hid hx
  clear hR hm hl hok hx
  go_enter Try.func19, Try.ntmps19
  go_wp2_with fail
  obtain ⟨s, hsz⟩ : ∃ s, w.heap.size = s := ⟨_, rfl⟩
  have hk0 : Blk (w.alloc (.cells #[.int .i64 0, .int .i64 0] 27)) s 27 #[.int .i64 0, .int .i64 0] := by rw [← hsz]; exact Blk.new w _ _
  have hb0 : Below s w (w.alloc (.cells #[.int .i64 0, .int .i64 0] 27)) := by rw [← hsz]; exact bw_a (Below.refl _ w) _
  rw [hsz]
  go_loopw [4, 5, 6, 7] (fun v i _ _ wr => ∃ (j bl : Nat), j ≤ m ∧ i = .int .i64 (j : Int) ∧ bl = ((l.take j).flatMap pBF).length ∧ bl ≤ 2100 * j ∧ wr.ownsRow (s + 1) 5 1 v bl (((l.take j).flatMap pBF).map bv) ∧ Blk wr s 27 #[.int .i64 0, .int .i64 0] ∧ Below s w wr ∧ putsE l 0 = putsE (l.drop j) j) (fun _ i _ _ _ => m - (intOf i).toNat)
  case atStart => exact ⟨0, 0, by omega, rfl, rfl, by omega, World.ownsRow_nil _ _ _ _, hk0, hb0, rfl⟩
  case round =>
    obtain ⟨j, bl, hj, rfl, hble, hbl, ho, hk, hB, hpe⟩ := hrel
    obtain ⟨A', c', rfl, -, hs'⟩ := Sl.of_own ho
    by_cases hlt : j < m
    · have hjl : j < l.length := by have := HM.out; omega
      have hn0 : (l.flatMap fvC)[j * 5 + 0]? = _ := flatMap_get fvC 5 l j 0 hjl (fun _ _ => rfl) (by omega)
      have hn1 : (l.flatMap fvC)[j * 5 + 1]? = _ := flatMap_get fvC 5 l j 1 hjl (fun _ _ => rfl) (by omega)
      have hn2 : (l.flatMap fvC)[j * 5 + 2]? = _ := flatMap_get fvC 5 l j 2 hjl (fun _ _ => rfl) (by omega)
      have hn3 : (l.flatMap fvC)[j * 5 + 3]? = _ := flatMap_get fvC 5 l j 3 hjl (fun _ _ => rfl) (by omega)
      have hn4 : (l.flatMap fvC)[j * 5 + 4]? = _ := flatMap_get fvC 5 l j 4 hjl (fun _ _ => rfl) (by omega)
      have hoka := HOK.out l[j] (List.getElem_mem hjl)
      have hxa := HX.out l[j] (List.getElem_mem hjl)
      have hbad := putsE_bad l j j hjl
      have hgood := putsE_good l j j hjl
      have htk : l.take (j + 1) = l.take j ++ [l[j]] := (List.take_append_getElem hjl).symm
      obtain ⟨b, off, rfl, hbw, t0⟩ := HL.out.rd _ _ hn0
      have u1 := HL.out.rd.addr _ _ hn1
      have u2 := HL.out.rd.addr _ _ hn2
      have u3 := HL.out.rd.addr _ _ hn3
      have u4 := HL.out.rd.addr _ _ hn4
      rw [addr_add] at u1 u2 u3 u4
      simp only [Nat.add_zero, ← Nat.add_assoc] at t0 u1 u2 u3 u4
      rw [hsz] at hbw
      have t0 := (hB.cell (p := ⟨b, off + j * 5, none⟩) hbw).trans t0
      have t1 := (hB.cell (p := ⟨b, off + j * 5 + 1, none⟩) hbw).trans u1
      have t2 := (hB.cell (p := ⟨b, off + j * 5 + 2, none⟩) hbw).trans u2
      have t3 := (hB.cell (p := ⟨b, off + j * 5 + 3, none⟩) hbw).trans u3
      have t4 := (hB.cell (p := ⟨b, off + j * 5 + 4, none⟩) hbw).trans u4
      have hji : (j : Int) < (m : Int) := by omega
      have hj0 : (0 : Int) ≤ (j : Int) := by omega
      clear hn0 hn1 hn2 hn3 hn4 u1 u2 u3 u4
      have hpl := pBF_len l[j] hoka.n hoka.w0 hoka.w1 hxa
      have hmf := mk_facts l[j].num l[j].w hoka.w0 hoka.w1
      have hmk := fun W => (rmake_any l[j].num l[j].w W hoka.w0 hoka.w1).mono (R' := fun e w' => e = .returned (.tuple #[.int .u64 (mk l[j].num l[j].w).1, .int .i64 (mk l[j].num l[j].w).2]) ∧ w' = W) fun _ _ ⟨a, b⟩ => ⟨a, b.symm⟩
      have hfb := fun W (hW : Below s w W) (he : pErrF l[j] = 0) => rfb_any l[j] W (hoka.below (hsz ▸ hW)) he (by omega)
      have hpe0 : pErrF l[j] = (mk l[j].num l[j].w).2.toNat := by
        unfold pErrF pErr
        by_cases h0 : (mk l[j].num l[j].w).2 = 0
        · rw [if_neg (by omega), if_neg (by omega), h0]; rfl
        · rw [if_pos h0]
      generalize l[j] = f at *
      obtain ⟨fnum, fw, fn_, ⟨fA, fc, fxs⟩, fat⟩ := f
      obtain ⟨xl, hxl⟩ : ∃ xl, fxs.length = xl := ⟨_, rfl⟩
      simp only [fvC, hxl] at t0 t1 t2 t3 t4 hxa hfb
      simp only at hmf hmk hpe0
      generalize hpb : pBF ⟨fnum, fw, fn_, ⟨fA, fc, fxs⟩, fat⟩ = pb at *
      generalize hmq : mk fnum fw = q at *
      obtain ⟨k, er⟩ := q
      simp only at hmf hmk hpe0
      obtain ⟨ern, rfl⟩ : ∃ ern : Nat, er = (ern : Int) := ⟨er.toNat, by omega⟩
      rw [Int.toNat_natCast] at hpe0
      rw [hpe0] at hbad hgood hfb
      have HMK := hid hmk
      have HFB := hid hfb
      have HB := hid hB
      have HK := hid hk
      have HS := hid hs'
      have HBLE := hid hble
      have HPE := hid hpe
      have HBAD := hid hbad
      have HGOOD := hid hgood
      have HTK := hid htk
      have HPB := hid hpb
      have hlw := hk.lt
      clear hmk hfb hB hk hs' ho hble hpe hbad hgood htk hpb hpe0 hmq hoka hk0 hb0 hxl
      by_cases he : ern = 0
      · subst he
        go_wp2_with fail
        go_quiet ((go_at_call 53; exact Calls.quiet_of_same (HMK.out _)))
        by_cases hw2 : fw = 2
        · have hw2b : (fw == 2) = true := by simp [hw2]
          have hlx : ¬ 8192 < xl := by omega
          clear hw2
          go_wp2_with fail
          have hBd : Below s w (wr.drewN nq) := ⟨HB.out.os, HB.out.tape, HB.out.output, HB.out.size, HB.out.block⟩
          refine (HFB.out _ hBd (by first | trivial | rfl)).mono ?_
          rintro e w1 ⟨A1, c1, rfl, hs1, hb1⟩
          go_wp2_with fail
          refine (rjoin2_own _ pb bl pb.length A' A1 c' c1 w1 HBLE.out.symm rfl (by omega) ((HS.out.drewN nq).below hb1) hs1).mono ?_
          rintro e w2 ⟨v2, rfl, ho2, hb2⟩
          have hb12 := bw_t hb1 hb2
          have hbk : Below wr.heap.size wr w2 := ⟨hb12.os, hb12.tape, hb12.output, hb12.size, hb12.block⟩
          have hz1 : wr.heap.size ≤ w1.heap.size := hb1.size
          go_wp2_with fail
          go_roundw
          case rel =>
            refine ⟨j + 1, bl + pb.length, by omega, by go_num, ?_, by omega, ?_, HK.out.below hbk hlw, HB.out.trans (hbk.mono (by omega)), by rw [HPE.out, HGOOD.out (by first | trivial | rfl)]⟩
            · rw [HTK.out, List.flatMap_append, List.length_append, ← HBLE.out]; simp [HPB.out]
            · rw [HTK.out, List.flatMap_append]; simpa [HPB.out] using own_mono ho2 (by omega)
          case measure => simp [intOf] <;> omega
        · have hw2b : (fw == 2) = false := by simpa using hw2
          clear hw2
          go_wp2_with fail
          have hBd : Below s w (wr.drewN nq) := ⟨HB.out.os, HB.out.tape, HB.out.output, HB.out.size, HB.out.block⟩
          refine (HFB.out _ hBd (by first | trivial | rfl)).mono ?_
          rintro e w1 ⟨A1, c1, rfl, hs1, hb1⟩
          go_wp2_with fail
          refine (rjoin2_own _ pb bl pb.length A' A1 c' c1 w1 HBLE.out.symm rfl (by omega) ((HS.out.drewN nq).below hb1) hs1).mono ?_
          rintro e w2 ⟨v2, rfl, ho2, hb2⟩
          have hb12 := bw_t hb1 hb2
          have hbk : Below wr.heap.size wr w2 := ⟨hb12.os, hb12.tape, hb12.output, hb12.size, hb12.block⟩
          have hz1 : wr.heap.size ≤ w1.heap.size := hb1.size
          go_wp2_with fail
          go_roundw
          case rel =>
            refine ⟨j + 1, bl + pb.length, by omega, by go_num, ?_, by omega, ?_, HK.out.below hbk hlw, HB.out.trans (hbk.mono (by omega)), by rw [HPE.out, HGOOD.out (by first | trivial | rfl)]⟩
            · rw [HTK.out, List.flatMap_append, List.length_append, ← HBLE.out]; simp [HPB.out]
            · rw [HTK.out, List.flatMap_append]; simpa [HPB.out] using own_mono ho2 (by omega)
          case measure => simp [intOf] <;> omega
      · have heb : (((ern : Nat) : Int) != 0) = true := by simpa using he
        have d0 := HK.out.cell 0
        have d1 := HK.out.cell 1
        have d2 := HK.out.frozen 0
        have d3 := HK.out.frozen 1
        simp only [List.getElem?_toArray, List.getElem?_cons_zero, List.getElem?_cons_succ] at d0 d1
        go_wp2_with fail
        go_quiet ((go_at_call 53; exact Calls.quiet_of_same (HMK.out _)))
        go_wp2_with fail
        have hBd : Below s w (wr.drewN nq) := ⟨HB.out.os, HB.out.tape, HB.out.output, HB.out.size, HB.out.block⟩
        have hKd : Blk (wr.drewN nq) s 27 #[.int .i64 0, .int .i64 0] := HK.out
        have hf : Blk (((wr.drewN nq).setCell ⟨s, 0, none⟩ (.int .i64 (ern : Int))).setCell ⟨s, 1, none⟩ (.int .i64 (j : Int))) s 27 #[.int .i64 (ern : Int), .int .i64 (j : Int)] := by simpa using (hKd.set_ 0 (.int .i64 (ern : Int))).set_ 1 (.int .i64 (j : Int))
        have hbf := (hBd.setCell (p := ⟨s, 0, none⟩) (Nat.le_refl _) (.int .i64 (ern : Int))).setCell (p := ⟨s, 1, none⟩) (Nat.le_refl _) (.int .i64 (j : Int))
        have f0 := hf.cell 0
        have f1 := hf.cell 1
        simp only [List.getElem?_toArray, List.getElem?_cons_zero, List.getElem?_cons_succ] at f0 f1
        have hpe2 : putsE l 0 = (ern, j) := by rw [HPE.out, HBAD.out he]
        clear hf d0 d1 d2 d3
        generalize World.setCell (World.setCell _ _ _) _ _ = W3 at *
        refine bodyPost_ret (v := .tuple #[.slice none 0 0, .agg #[.int .i64 (ern : Int), .int .i64 (j : Int)]]) (by simp [results, Try.results19, go_sem, f0, f1]) rfl ?_
        rw [HR.out, hsz]
        exact ⟨.inr ⟨by rw [hpe2]; exact he, by rw [hpe2]⟩, hbf⟩
    · obtain rfl : j = m := by omega
      rw [List.take_of_length_le (by have := HM.out; omega)] at hs' ho hble
      rw [List.drop_of_length_le (by have := HM.out; omega)] at hpe
      have d0 := hk.cell 0
      have d1 := hk.cell 1
      have d2 := hk.frozen 0
      have d3 := hk.frozen 1
      simp only [List.getElem?_toArray, List.getElem?_cons_zero, List.getElem?_cons_succ] at d0 d1
      have HK := hid hk
      have HB := hid hB
      have HO := hid ho
      have HPE := hid hpe
      have HBLE := hid hble
      clear hk hB hs' ho hpe hk0 hb0 hble
      go_wp2_with fail
      have hf : Blk ((wr.setCell ⟨s, 0, none⟩ (.int .i64 0)).setCell ⟨s, 1, none⟩ (.int .i64 0)) s 27 #[.int .i64 0, .int .i64 0] := by simpa using (HK.out.set_ 0 (.int .i64 0)).set_ 1 (.int .i64 0)
      have hbf := (HB.out.setCell (p := ⟨s, 0, none⟩) (Nat.le_refl _) (.int .i64 0)).setCell (p := ⟨s, 1, none⟩) (Nat.le_refl _) (.int .i64 0)
      have ho2 := own_setBelow (own_setBelow HO.out (p := ⟨s, 0, none⟩) (by show s < _; omega) (.int .i64 0)) (p := ⟨s, 1, none⟩) (by show s < _; omega) (.int .i64 0)
      obtain ⟨A2, c2, hv2, -, hs2⟩ := Sl.of_own ho2
      have f0 := hf.cell 0
      have f1 := hf.cell 1
      simp only [List.getElem?_toArray, List.getElem?_cons_zero, List.getElem?_cons_succ] at f0 f1
      have hpe2 : putsE l 0 = (0, 0) := HPE.out
      have hbl2 : bl = (l.flatMap pBF).length := HBLE.out
      clear hf d0 d1 d2 d3
      generalize World.setCell (World.setCell _ _ _) _ _ = W3 at *
      injection hv2 with e1 e2 e3
      subst e1 e3
      refine bodyPost_ret (v := .tuple #[.slice A' bl c', .agg #[.int .i64 0, .int .i64 0]]) (by simp [results, Try.results19, go_sem, f0, f1]) rfl ?_
      rw [HR.out, hsz]
      exact ⟨.inl ⟨by rw [hpe2], A', c', by rw [hbl2], hs2⟩, hbf⟩
end Go.Proofs.Ytfbmdeegcoocnaa
