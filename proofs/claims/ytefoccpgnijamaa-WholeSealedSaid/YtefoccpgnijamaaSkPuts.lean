/- skip.Put in one piece. -/
import Derived.Test.YtefoccpgnijamaaSkPut
import Derived.Test.YtefoccpgnijamaaOpens5
set_option linter.unusedVariables false
namespace Go.Proofs.Ytefoccpgnijamaa
open Go.RowKit
/-- A field that may be handed in. -/
structure FvOk (w : World) (f : FV) : Prop where
  w0 : 0 ≤ f.w
  w1 : f.w ≤ 255
  n : f.n ≤ 18446744073709551615
  n1 : -9223372036854775808 ≤ f.num
  n2 : f.num ≤ 9223372036854775807
  a1 : -9223372036854775808 ≤ f.at_
  a2 : f.at_ ≤ 9223372036854775807
  s : Sl w f.s.A f.s.c (f.s.xs.map bv)
def pErrF (f : FV) : Nat := pErr f.num f.w f.s.xs
def pBF (f : FV) : List UInt8 := pB f.num f.w f.n f.s.xs
/-- The first field that has no bytes: why, and its place. -/
def putsE : List FV → Nat → Nat × Nat
  | [], _ => (0, 0)
  | f :: fs, i => if pErrF f = 0 then putsE fs (i + 1) else (pErrF f, i)
theorem putsE_bad (l : List FV) (j i : Nat) (hj : j < l.length) (h : pErrF l[j] ≠ 0) : putsE (l.drop j) i = (pErrF l[j], i) := by
  rw [List.drop_eq_getElem_cons hj, putsE, if_neg h]
theorem putsE_good (l : List FV) (j i : Nat) (hj : j < l.length) (h : pErrF l[j] = 0) : putsE (l.drop j) i = putsE (l.drop (j + 1)) (i + 1) := by
  rw [List.drop_eq_getElem_cons hj, putsE, if_pos h]
theorem pBF_len (f : FV) (hn : f.n ≤ 18446744073709551615) (h0 : 0 ≤ f.w) (h1 : f.w ≤ 255) (hl : f.s.xs.length ≤ 2000) : (pBF f).length ≤ 2100 := by
  have hm := mk_facts f.num f.w h0 h1
  have h2 := putN_length10 (n := (mk f.num f.w).1.toNat) (by omega)
  have h3 := pTail_len (x := f.w) (xs := f.s.xs) hn (by omega)
  unfold pBF pB
  rw [List.length_append]
  omega
set_option maxRecDepth 100000 in
set_option maxHeartbeats 4000000 in
theorem sputs_any (l : List FV) (m : Nat) (A : Option Addr) (c : Nat) (w : World) (hm : l.length = m) (hm2 : m ≤ 2000) (hl : SlN w A m c 5 (l.flatMap fvC)) (hok : ∀ f ∈ l, FvOk w f) (hx : ∀ f ∈ l, f.s.xs.length ≤ 2000) :
    Calls Try.prog 26 #[.slice A m c] w fun e w' => (((putsE l 0).1 = 0 ∧ ∃ v, e = .returned (.tuple #[v, .agg #[.int .i64 0, .int .i64 0]]) ∧ w'.ownsRow w.heap.size 5 1 v (l.flatMap pBF).length ((l.flatMap pBF).map bv)) ∨
      ((putsE l 0).1 ≠ 0 ∧ e = .returned (.tuple #[.slice none 0 0, .agg #[.int .i64 ((putsE l 0).1 : Nat), .int .i64 ((putsE l 0).2 : Nat)]]))) ∧ Below w.heap.size w w' := by
  have hcm : m ≤ 9223372036854775807 := by omega
  have HM := hid hm
  have HL := hid hl
  have HOK := hid hok
  have HX := hid hx
  clear hm hl hok hx
  obtain ⟨R, hR⟩ : ∃ R : Ending → World → Prop, R = fun e w' => (((putsE l 0).1 = 0 ∧ ∃ v, e = .returned (.tuple #[v, .agg #[.int .i64 0, .int .i64 0]]) ∧ w'.ownsRow w.heap.size 5 1 v (l.flatMap pBF).length ((l.flatMap pBF).map bv)) ∨
      ((putsE l 0).1 ≠ 0 ∧ e = .returned (.tuple #[.slice none 0 0, .agg #[.int .i64 ((putsE l 0).1 : Nat), .int .i64 ((putsE l 0).2 : Nat)]]))) ∧ Below w.heap.size w w' := ⟨_, rfl⟩
  rw [← hR]
  have HR := hid hR
  clear hR
  go_enter Try.func26, Try.ntmps26
  go_wp2_with fail
  have hB0 := bw_a (Below.refl w.heap.size w) (.cells #[.int .i64 0, .int .i64 0] 51)
  have hk0 := Blk.new w 51 #[.int .i64 0, .int .i64 0]
  go_loopw [4, 10] (fun v i wr => ∃ (j : Nat) (bl : Nat), j ≤ m ∧ i = .int .i64 (j : Int) ∧ bl ≤ 2100 * j ∧ bl = ((l.take j).flatMap pBF).length ∧ wr.ownsRow (w.heap.size + 1) 5 1 v bl (((l.take j).flatMap pBF).map bv) ∧ Blk wr w.heap.size 51 #[.int .i64 0, .int .i64 0] ∧ Below w.heap.size w wr ∧ putsE l 0 = putsE (l.drop j) j) (fun _ i _ => m - (intOf i).toNat)
  case atStart => exact ⟨0, 0, by omega, rfl, by omega, rfl, World.ownsRow_nil _ _ _ _, hk0, hB0, rfl⟩
  case round =>
    obtain ⟨j, bl, hj, rfl, hbl, hbe, ho, hk, hB, hpe⟩ := hrel
    have c0 := hk.cell 0
    have c1 := hk.cell 1
    have g0 := hk.frozen 0
    have g1 := hk.frozen 1
    simp only [List.getElem?_toArray, List.getElem?_cons_zero, List.getElem?_cons_succ] at c0 c1
    by_cases hlt : j < m
    · have hjl : j < l.length := by have := HM.out; omega
      have hn0 : (l.flatMap fvC)[j * 5 + 0]? = _ := flatMap_get fvC 5 l j 0 hjl (fun _ _ => rfl) (by omega)
      have hn1 : (l.flatMap fvC)[j * 5 + 1]? = _ := flatMap_get fvC 5 l j 1 hjl (fun _ _ => rfl) (by omega)
      have hn2 : (l.flatMap fvC)[j * 5 + 2]? = _ := flatMap_get fvC 5 l j 2 hjl (fun _ _ => rfl) (by omega)
      have hn3 : (l.flatMap fvC)[j * 5 + 3]? = _ := flatMap_get fvC 5 l j 3 hjl (fun _ _ => rfl) (by omega)
      have hn4 : (l.flatMap fvC)[j * 5 + 4]? = _ := flatMap_get fvC 5 l j 4 hjl (fun _ _ => rfl) (by omega)
      have hoka := HOK.out l[j] (List.getElem_mem hjl)
      have hxa := HX.out l[j] (List.getElem_mem hjl)
      have hbad := putsE_bad l j j hjl
      have hgood := putsE_good l j j hjl
      have htk : l.take (j + 1) = l.take j ++ [l[j]] := (List.take_append_getElem hjl).symm
      obtain ⟨b, off, rfl, hbw, t0⟩ := HL.out.rd _ _ hn0
      have u1 := HL.out.rd.addr _ _ hn1
      have u2 := HL.out.rd.addr _ _ hn2
      have u3 := HL.out.rd.addr _ _ hn3
      have u4 := HL.out.rd.addr _ _ hn4
      rw [addr_add] at u1 u2 u3 u4
      simp only [Nat.add_zero, ← Nat.add_assoc] at t0 u1 u2 u3 u4
      have t0 := (hB.cell (p := ⟨b, off + j * 5, none⟩) hbw).trans t0
      have t1 := (hB.cell (p := ⟨b, off + j * 5 + 1, none⟩) hbw).trans u1
      have t2 := (hB.cell (p := ⟨b, off + j * 5 + 2, none⟩) hbw).trans u2
      have t3 := (hB.cell (p := ⟨b, off + j * 5 + 3, none⟩) hbw).trans u3
      have t4 := (hB.cell (p := ⟨b, off + j * 5 + 4, none⟩) hbw).trans u4
      have hji : (j : Int) < (m : Int) := by omega
      have hj0 : (0 : Int) ≤ (j : Int) := by omega
      clear hn0 hn1 hn2 hn3 hn4 u1 u2 u3 u4
      have hpl := pBF_len l[j] hoka.n hoka.w0 hoka.w1 hxa
      generalize l[j] = f at *
      obtain ⟨fnum, fw, fn_, ⟨fA, fc, fxs⟩, fat⟩ := f
      dsimp only at t0 t1 t2 t3 t4 hxa
      obtain ⟨xl, hxl⟩ : ∃ xl, fxs.length = xl := ⟨_, rfl⟩
      rw [hxl] at t3 hxa
      have hfar : FarS fA xl (fun k => w.heap.size + 1 ≤ k) := fun hp b' o' he ho => by
        obtain ⟨b2, o2, e2, hlt2, _⟩ := hoka.s.rd 0 (bv (fxs[0]'(by omega))) (by simp [List.getElem?_eq_getElem (show 0 < fxs.length by omega)])
        simp only at e2
        rw [he] at e2
        injection e2 with e2
        injection e2 with e3 e4
        omega
      have hput := fun W (hW : Below wr.heap.size wr W) => sput_any W (w.heap.size + 1) _ _ bl fnum fw fn_ fA fc xl fxs fat hxl (by omega) hoka.n hoka.w0 hoka.w1 hbe.symm (by omega) (own_below ho hW) (by have := hW.size; have := hk.lt; omega) (hoka.s.below (hB.trans (hW.mono hB.size))) hfar
      have HPUT := hid hput
      have HPE := hid hpe
      have HBAD := hid hbad
      have HGOOD := hid hgood
      have HTK := hid htk
      have HHB := hid hB
      have HHK := hid hk
      clear hput hpe hbad hgood htk hB hk hoka ho
      obtain ⟨er, her⟩ : ∃ er, pErr fnum fw fxs = er := ⟨_, rfl⟩
      obtain ⟨pb, hpb⟩ : ∃ pb, pB fnum fw fn_ fxs = pb := ⟨_, rfl⟩
      have hput := HPUT.out
      unfold SPut at hput
      rw [her, hpb] at hput
      have hq1 : pErrF ⟨fnum, fw, fn_, ⟨fA, fc, fxs⟩, fat⟩ = er := her
      have hq2 : pBF ⟨fnum, fw, fn_, ⟨fA, fc, fxs⟩, fat⟩ = pb := hpb
      have HQ1 := hid hq1
      have HQ2 := hid hq2
      have HPUT := hid hput
      rw [hq2] at hpl
      clear hput hq1 hq2 her hpb
      by_cases he : er = 0
      · subst he
        go_wp2_with (go_at_call 50; refine (HPUT.out _ (bw_a (Below.refl _ wr) _)).mono ?_; rintro e w2 ⟨(⟨hz, v2, rfl, ho2⟩ | ⟨hz, rfl⟩), hb2⟩; rotate_left; exact absurd rfl hz)
        have hbk : Below (w.heap.size + 1) wr w2 := ((Below.refl _ wr).alloc (by have := HHK.out.lt; omega) _).trans hb2
        go_roundw
        case rel =>
          refine ⟨j + 1, bl + pb.length, by omega, by go_num, by omega, ?_, ?_, HHK.out.below hbk (by omega), HHB.out.trans (hbk.mono (by omega)), by rw [HPE.out, HGOOD.out HQ1.out]⟩
          · rw [HTK.out, List.flatMap_append, List.length_append, ← hbe]; simp [HQ2.out]
          · rw [HTK.out, List.flatMap_append]; simpa [HQ2.out] using ho2
        case measure => simp [intOf] <;> omega
      · have heb : (((er : Nat) : Int) != 0) = true := by simpa using he
        go_wp2_with (go_at_call 50; refine (HPUT.out _ (bw_a (Below.refl _ wr) _)).mono ?_; rintro e w2 ⟨(⟨hz, v2, rfl, ho2⟩ | ⟨hz, rfl⟩), hb2⟩; exact absurd hz he; have hbk : Below (w.heap.size + 1) wr w2 := (((Below.refl _ wr).alloc (by have := HHK.out.lt; omega) _).trans hb2); have hk2 := HHK.out.below hbk (by omega); have q0 := hk2.cell 0; have q1 := hk2.cell 1; have q2 := hk2.frozen 0; have q3 := hk2.frozen 1; simp only [List.getElem?_toArray, List.getElem?_cons_zero, List.getElem?_cons_succ] at q0 q1)
        have hf : Blk ((w2.setCell ⟨w.heap.size, 0, none⟩ (.int .i64 (er : Int))).setCell ⟨w.heap.size, 1, none⟩ (.int .i64 (j : Int))) w.heap.size 51 #[.int .i64 (er : Int), .int .i64 (j : Int)] := by simpa using (hk2.set_ 0 (.int .i64 (er : Int))).set_ 1 (.int .i64 (j : Int))
        have hbf := ((HHB.out.trans (hbk.mono (by omega))).setCell (p := ⟨w.heap.size, 0, none⟩) (Nat.le_refl _) (.int .i64 (er : Int))).setCell (p := ⟨w.heap.size, 1, none⟩) (Nat.le_refl _) (.int .i64 (j : Int))
        have f0 := hf.cell 0
        have f1 := hf.cell 1
        simp only [List.getElem?_toArray, List.getElem?_cons_zero, List.getElem?_cons_succ] at f0 f1
        have hpe2 : putsE l 0 = (er, j) := by rw [HPE.out, HBAD.out (by rw [HQ1.out]; exact he), HQ1.out]
        clear hf q0 q1 q2 q3 hk2
        generalize World.setCell (World.setCell _ _ _) _ _ = W3 at *
        refine bodyPost_ret (v := .tuple #[.slice none 0 0, .agg #[.int .i64 (er : Int), .int .i64 (j : Int)]]) (by simp [results, Try.results26, go_sem, f0, f1]) rfl ?_
        rw [HR.out]
        exact ⟨.inr ⟨by rw [hpe2]; exact he, by rw [hpe2]⟩, hbf⟩
    · obtain rfl : j = m := by omega
      go_wp2
      have hf : Blk ((wr.setCell ⟨w.heap.size, 0, none⟩ (.int .i64 0)).setCell ⟨w.heap.size, 1, none⟩ (.int .i64 0)) w.heap.size 51 #[.int .i64 0, .int .i64 0] := by simpa using (hk.set_ 0 (.int .i64 0)).set_ 1 (.int .i64 0)
      have hbf := (hB.setCell (p := ⟨w.heap.size, 0, none⟩) (Nat.le_refl _) (.int .i64 0)).setCell (p := ⟨w.heap.size, 1, none⟩) (Nat.le_refl _) (.int .i64 0)
      have ho2 := own_setBelow (own_setBelow ho (p := ⟨w.heap.size, 0, none⟩) (by show w.heap.size < _; omega) (.int .i64 0)) (p := ⟨w.heap.size, 1, none⟩) (by show w.heap.size < _; omega) (.int .i64 0)
      have f0 := hf.cell 0
      have f1 := hf.cell 1
      simp only [List.getElem?_toArray, List.getElem?_cons_zero, List.getElem?_cons_succ] at f0 f1
      have hlj : l.length = j := HM.out
      rw [List.take_of_length_le (by omega)] at ho2 hbe
      rw [List.drop_of_length_le (by omega)] at hpe
      clear hf ho c0 c1 g0 g1 hk
      generalize World.setCell (World.setCell _ _ _) _ _ = W3 at *
      refine bodyPost_ret (v := .tuple #[u4, .agg #[.int .i64 0, .int .i64 0]]) (by simp [results, Try.results26, go_sem, f0, f1]) rfl ?_
      rw [HR.out]
      exact ⟨.inl ⟨by rw [hpe]; rfl, u4, rfl, by rw [← hbe]; exact own_mono ho2 (by omega)⟩, hbf⟩
end Go.Proofs.Ytefoccpgnijamaa
