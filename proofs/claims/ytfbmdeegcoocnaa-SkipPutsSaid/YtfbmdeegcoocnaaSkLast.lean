/- skip.Last. -/
import Derived.Test.YtfbmdeegcoocnaaSkOf
set_option linter.unusedVariables false
namespace Go.Proofs.Ytfbmdeegcoocnaa
open Go.RowKit
/-- The last field of a number and a wire type. -/
def lastK (l : List FV) (num x : Int) : Option FV := (l.filter fun f => decide (f.num = num) && decide (f.w = x)).getLast?
theorem lastK_hit (l : List FV) (num x : Int) (j : Nat) (hj : j < l.length) (h0 : (l.drop (j + 1)).filter (fun f => decide (f.num = num) && decide (f.w = x)) = []) (h1 : l[j].num = num) (h2 : l[j].w = x) : lastK l num x = some l[j] := by
  unfold lastK
  have e : l = l.take j ++ (l[j] :: l.drop (j + 1)) := by rw [← List.drop_eq_getElem_cons hj, List.take_append_drop]
  have e2 : l.filter (fun f => decide (f.num = num) && decide (f.w = x)) = (l.take j).filter (fun f => decide (f.num = num) && decide (f.w = x)) ++ [l[j]] := by
    conv => lhs; rw [e]
    rw [List.filter_append, List.filter_cons_of_pos (by simp [h1, h2]), h0]
  rw [e2]
  simp
theorem lastK_miss (l : List FV) (num x : Int) (j : Nat) (hj : j < l.length) (h0 : (l.drop (j + 1)).filter (fun f => decide (f.num = num) && decide (f.w = x)) = []) (h1 : ¬ (l[j].num = num ∧ l[j].w = x)) : (l.drop j).filter (fun f => decide (f.num = num) && decide (f.w = x)) = [] := by
  rw [List.drop_eq_getElem_cons hj, List.filter_cons_of_neg (by simpa using h1), h0]
theorem set5 {W : World} {z : Nat} {t : TypeId} {x0 x1 x2 x3 x4 : Value} (h : Blk W z t #[x0, x1, x2, x3, x4]) (y0 y1 y2 y3 y4 : Value) :
    Blk (((((W.setCell ⟨z, 0, none⟩ y0).setCell ⟨z, 1, none⟩ y1).setCell ⟨z, 2, none⟩ y2).setCell ⟨z, 3, none⟩ y3).setCell ⟨z, 4, none⟩ y4) z t #[y0, y1, y2, y3, y4] ∧
    Chg (fun k => k = z) W (((((W.setCell ⟨z, 0, none⟩ y0).setCell ⟨z, 1, none⟩ y1).setCell ⟨z, 2, none⟩ y2).setCell ⟨z, 3, none⟩ y3).setCell ⟨z, 4, none⟩ y4) := by
  refine ⟨by simpa using ((((h.set_ 0 y0).set_ 1 y1).set_ 2 y2).set_ 3 y3).set_ 4 y4, (((((Chg.refl (fun k => k = z) W).set_ (.inl rfl) 0 y0).set_ (.inl rfl) 1 y1).set_ (.inl rfl) 2 y2).set_ (.inl rfl) 3 y3).set_ (.inl rfl) 4 y4⟩
set_option maxRecDepth 100000 in
set_option maxHeartbeats 4000000 in
theorem slast_any (l : List FV) (m : Nat) (A : Option Addr) (c : Nat) (num x : Int) (w : World) (hm : l.length = m) (hm2 : m ≤ 2000) (hl : SlN w A m c 5 (l.flatMap fvC)) (hok : ∀ f ∈ l, FvOk w f) (hx : ∀ f ∈ l, f.s.xs.length ≤ 2000) :
    Calls Try.prog 23 #[.slice A m c, .int .i64 num, .int .u8 x] w fun e w' => ((∃ f A' c', lastK l num x = some f ∧ e = .returned (.tuple #[.agg (fvC ⟨f.num, f.w, f.n, ⟨A', c', f.s.xs⟩, f.at_⟩).toArray, .bool true]) ∧ FvOwn w.heap.size w' ⟨f.num, f.w, f.n, ⟨A', c', f.s.xs⟩, f.at_⟩) ∨
      (lastK l num x = none ∧ e = .returned (.tuple #[.agg #[.int .i64 0, .int .u8 0, .int .u64 0, .slice none 0 0, .int .i64 0], .bool false]))) ∧ Below w.heap.size w w' := by
  have hcm : m ≤ 9223372036854775807 := by omega
  have HM := hid hm
  have HL := hid hl
  have HOK := hid hok
  have HX := hid hx
  clear hm hl hok hx
  have hb0 := bw_a (Below.refl w.heap.size w) (.cells #[.int .i64 0, .int .u8 0, .int .u64 0, .slice none 0 0, .int .i64 0] 39)
  have hk0 := Blk.new w 39 #[.int .i64 0, .int .u8 0, .int .u64 0, .slice none 0 0, .int .i64 0]
  have HB0 := hid hb0
  have HK0 := hid hk0
  clear hb0 hk0
  go_enter Try.func23, Try.ntmps23
  go_wp2_with fail
  go_loopw [8] (fun i wr => ∃ (j : Nat), j ≤ m ∧ i = .int .i64 ((j : Int) - 1) ∧ (l.drop j).filter (fun f => decide (f.num = num) && decide (f.w = x)) = [] ∧ Blk wr w.heap.size 39 #[.int .i64 0, .int .u8 0, .int .u64 0, .slice none 0 0, .int .i64 0] ∧ Below w.heap.size w wr) (fun i _ => (intOf i + 1).toNat)
  case atStart => exact ⟨m, by omega, by go_num, by rw [List.drop_of_length_le (by have := HM.out; omega)]; rfl, HK0.out, HB0.out⟩
  case round =>
    obtain ⟨j0, hj, rfl, hno, hk, hB⟩ := hrel
    have z0 := hk.cell 0
    have z1 := hk.cell 1
    have z2 := hk.cell 2
    have z3 := hk.cell 3
    have z4 := hk.cell 4
    have y0 := hk.frozen 0
    have y1 := hk.frozen 1
    have y2 := hk.frozen 2
    have y3 := hk.frozen 3
    have y4 := hk.frozen 4
    simp only [List.getElem?_toArray, List.getElem?_cons_zero, List.getElem?_cons_succ] at z0 z1 z2 z3 z4
    have HK := hid hk
    have HNO := hid hno
    have HHB := hid hB
    clear hk hno
    by_cases hz : j0 = 0
    · subst hz
      go_wp2_with fail
      obtain ⟨hf, hch⟩ := set5 HK.out (.int .i64 0) (.int .u8 0) (.int .u64 0) (.slice none 0 0) (.int .i64 0)
      have hbf := HHB.out.trans (hch.below (B := w.heap.size) (fun k hk => by omega) HHB.out.size)
      have f0 := hf.cell 0
      have f1 := hf.cell 1
      have f2 := hf.cell 2
      have f3 := hf.cell 3
      have f4 := hf.cell 4
      simp only [List.getElem?_toArray, List.getElem?_cons_zero, List.getElem?_cons_succ] at f0 f1 f2 f3 f4
      have hno := HNO.out
      rw [List.drop_zero] at hno
      have hln : lastK l num x = none := by unfold lastK; rw [hno]; rfl
      clear hf hch z0 z1 z2 z3 z4 y0 y1 y2 y3 y4
      generalize World.setCell (World.setCell _ _ _) _ _ = W3 at *
      exact bodyPost_ret (v := .tuple #[.agg #[.int .i64 0, .int .u8 0, .int .u64 0, .slice none 0 0, .int .i64 0], .bool false]) (by simp [results, Try.results23, go_sem, f0, f1, f2, f3, f4]) rfl ⟨.inr ⟨hln, rfl⟩, hbf⟩
    · obtain ⟨j, rfl⟩ : ∃ j, j0 = j + 1 := ⟨j0 - 1, by omega⟩
      have hjl : j < l.length := by have := HM.out; omega
      have hn0 : (l.flatMap fvC)[j * 5 + 0]? = _ := flatMap_get fvC 5 l j 0 hjl (fun _ _ => rfl) (by omega)
      have hn1 : (l.flatMap fvC)[j * 5 + 1]? = _ := flatMap_get fvC 5 l j 1 hjl (fun _ _ => rfl) (by omega)
      have hn2 : (l.flatMap fvC)[j * 5 + 2]? = _ := flatMap_get fvC 5 l j 2 hjl (fun _ _ => rfl) (by omega)
      have hn3 : (l.flatMap fvC)[j * 5 + 3]? = _ := flatMap_get fvC 5 l j 3 hjl (fun _ _ => rfl) (by omega)
      have hn4 : (l.flatMap fvC)[j * 5 + 4]? = _ := flatMap_get fvC 5 l j 4 hjl (fun _ _ => rfl) (by omega)
      have hoka := HOK.out l[j] (List.getElem_mem hjl)
      have hxa := HX.out l[j] (List.getElem_mem hjl)
      have hhit := lastK_hit l num x j hjl HNO.out
      have hmiss := lastK_miss l num x j hjl HNO.out
      obtain ⟨b, off, rfl, hbw, t0⟩ := HL.out.rd _ _ hn0
      have u1 := HL.out.rd.addr _ _ hn1
      have u2 := HL.out.rd.addr _ _ hn2
      have u3 := HL.out.rd.addr _ _ hn3
      have u4 := HL.out.rd.addr _ _ hn4
      rw [addr_add] at u1 u2 u3 u4
      simp only [Nat.add_zero, ← Nat.add_assoc] at t0 u1 u2 u3 u4
      have t0 := (hB.cell (p := ⟨b, off + j * 5, none⟩) hbw).trans t0
      have t1 := (hB.cell (p := ⟨b, off + j * 5 + 1, none⟩) hbw).trans u1
      have t2 := (hB.cell (p := ⟨b, off + j * 5 + 2, none⟩) hbw).trans u2
      have t3 := (hB.cell (p := ⟨b, off + j * 5 + 3, none⟩) hbw).trans u3
      have t4 := (hB.cell (p := ⟨b, off + j * 5 + 4, none⟩) hbw).trans u4
      have hji : ((j : Nat) : Int) < (m : Int) := by omega
      have hj0 : (0 : Int) ≤ (j : Int) := by omega
      have hjj : ((j + 1 : Nat) : Int) - 1 = (j : Int) := by omega
      rw [hjj]
      clear hn0 hn1 hn2 hn3 hn4 u1 u2 u3 u4
      generalize l[j] = f at *
      have hco := fun W (hW : Below wr.heap.size wr W) => sown_any f f.s.xs.length W rfl (by omega) (hoka.s.below (hB.trans (hW.mono hB.size)))
      obtain ⟨fnum, fw, fn_, ⟨fA, fc, fxs⟩, fat⟩ := f
      obtain ⟨xl, hxl⟩ : ∃ xl, fxs.length = xl := ⟨_, rfl⟩
      simp only [fvC, hxl] at t0 t1 t2 t3 t4 hxa hco
      have HCO := hid hco
      have HHIT := hid hhit
      have HMISS := hid hmiss
      clear hco hhit hmiss hB hoka
      by_cases h1 : fnum = num
      · subst h1
        by_cases h2 : fw = x
        · subst h2
          go_wp2_with fail
          refine (HCO.out _ (Below.refl _ _)).mono ?_
          rintro e w2 ⟨A', c', rfl, ho2, hb2⟩
          have hk2 := HK.out.below hb2 HK.out.lt
          have z0 := hk2.cell 0
          have z1 := hk2.cell 1
          have z2 := hk2.cell 2
          have z3 := hk2.cell 3
          have z4 := hk2.cell 4
          have y0 := hk2.frozen 0
          have y1 := hk2.frozen 1
          have y2 := hk2.frozen 2
          have y3 := hk2.frozen 3
          have y4 := hk2.frozen 4
          simp only [List.getElem?_toArray, List.getElem?_cons_zero, List.getElem?_cons_succ] at z0 z1 z2 z3 z4
          have HK2 := hid hk2
          have HO2 := hid ho2
          have HB2 := hid hb2
          clear hk2 ho2 hb2
          go_wp2_with fail
          obtain ⟨hf, hch⟩ := set5 HK2.out (.int .i64 fnum) (.int .u8 fw) (.int .u64 (fn_ : Int)) (.slice A' xl c') (.int .i64 fat)
          have hbf := (bw_t HHB.out HB2.out).trans (hch.below (B := w.heap.size) (fun k hk => by omega) (bw_t HHB.out HB2.out).size)
          have ho3 := own_chgS HO2.out hch fun g hg hk => by have := (HO2.out.lt g hg).1; have := HK.out.lt; omega
          have f0 := hf.cell 0
          have f1 := hf.cell 1
          have f2 := hf.cell 2
          have f3 := hf.cell 3
          have f4 := hf.cell 4
          simp only [List.getElem?_toArray, List.getElem?_cons_zero, List.getElem?_cons_succ] at f0 f1 f2 f3 f4
          clear hf hch z0 z1 z2 z3 z4 y0 y1 y2 y3 y4
          generalize World.setCell (World.setCell _ _ _) _ _ = W3 at *
          exact bodyPost_ret (v := .tuple #[.agg #[.int .i64 fnum, .int .u8 fw, .int .u64 (fn_ : Int), .slice A' xl c', .int .i64 fat], .bool true]) (by simp [results, Try.results23, go_sem, f0, f1, f2, f3, f4]) rfl ⟨.inl ⟨_, A', c', by simpa using HHIT.out, by simp [fvC, hxl], by unfold FvOwn; simpa [hxl] using own_mono ho3 HHB.out.size⟩, hbf⟩
        · have h2b : (fw == x) = false := by simpa using h2
          go_wp2_with fail
          go_roundw
          case rel => exact ⟨j, by omega, by go_num, HMISS.out (fun h => h2 h.2), HK.out, HHB.out⟩
          case measure => simp [intOf] <;> omega
      · have h1b : (fnum == num) = false := by simpa using h1
        go_wp2_with fail
        go_roundw
        case rel => exact ⟨j, by omega, by go_num, HMISS.out (fun h => h1 h.1), HK.out, HHB.out⟩
        case measure => simp [intOf] <;> omega
end Go.Proofs.Ytfbmdeegcoocnaa
