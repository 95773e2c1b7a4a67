/- skip.own, and the functions of Of and Without. -/
import Derived.Test.YtfbmdeegcoocnaaSkPuts
import Derived.Test.YtfbmdeegcoocnaaM4
set_option linter.unusedVariables false
namespace Go.Proofs.Ytfbmdeegcoocnaa
open Go.RowKit
set_option maxRecDepth 100000 in
set_option maxHeartbeats 2000000 in
theorem sown_any (f : FV) (n : Nat) (w : World) (hn : f.s.xs.length = n) (hl : n ≤ 1000000) (hs : Sl w f.s.A f.s.c (f.s.xs.map bv)) :
    Calls Try.prog 56 #[.agg (fvC f).toArray] w fun e w' => ∃ A' c', e = .returned (.agg (fvC ⟨f.num, f.w, f.n, ⟨A', c', f.s.xs⟩, f.at_⟩).toArray) ∧ w'.ownsRow w.heap.size 5 1 (.slice A' n c') n (f.s.xs.map bv) ∧ Below w.heap.size w w' := by
  obtain ⟨fnum, fw, fn_, ⟨fA, fc, fxs⟩, fat⟩ := f
  simp only at hn hs
  simp only [fvC, hn]
  have hcl := fun W (hW : Below w.heap.size w W) => clone_any fxs n fA fc W hn hl (hs.below hW)
  have HCL := hid hcl
  have HN := hid hn
  clear hcl hs hn
  go_enter Try.func56, Try.ntmps56
  go_wp2_with fail
  have hb0 := bw_a (bw_a (Below.refl w.heap.size w) (.cells #[.int .i64 fnum, .int .u8 fw, .int .u64 (fn_ : Int), .slice fA n fc, .int .i64 fat] 39)) (.cells #[.int .i64 0, .int .u8 0, .int .u64 0, .slice none 0 0, .int .i64 0] 39)
  have hk0 := (Blk.new w 39 #[.int .i64 fnum, .int .u8 fw, .int .u64 (fn_ : Int), .slice fA n fc, .int .i64 fat]).alloc (.cells #[.int .i64 0, .int .u8 0, .int .u64 0, .slice none 0 0, .int .i64 0] 39)
  have hk1 := Blk.new (w.alloc (.cells #[.int .i64 fnum, .int .u8 fw, .int .u64 (fn_ : Int), .slice fA n fc, .int .i64 fat] 39)) 39 #[.int .i64 0, .int .u8 0, .int .u64 0, .slice none 0 0, .int .i64 0]
  have hsz : ((w.alloc (.cells #[.int .i64 fnum, .int .u8 fw, .int .u64 (fn_ : Int), .slice fA n fc, .int .i64 fat] 39)).alloc (.cells #[.int .i64 0, .int .u8 0, .int .u64 0, .slice none 0 0, .int .i64 0] 39)).heap.size = w.heap.size + 2 := by simp
  rw [World.size_alloc] at hk1
  generalize (w.alloc _).alloc _ = W at *
  refine (HCL.out W hb0).mono ?_
  rintro e w1 ⟨v, rfl, ho, hb1⟩
  obtain ⟨A', c', rfl, -, hs1⟩ := Sl.of_own ho
  have ho := own_mono ho (show w.heap.size + 2 ≤ W.heap.size by omega)
  have hk0 := hk0.below hb1 hk0.lt
  have hk1 := hk1.below hb1 hk1.lt
  have c0 := hk0.cell 0
  have c1 := hk0.cell 1
  have c2 := hk0.cell 2
  have c3 := hk0.cell 3
  have c4 := hk0.cell 4
  have g3 := hk0.frozen 3
  have d0 := hk1.cell 0
  have d1 := hk1.cell 1
  have d2 := hk1.cell 2
  have d3 := hk1.cell 3
  have d4 := hk1.cell 4
  have k0 := hk1.frozen 0
  have k1 := hk1.frozen 1
  have k2 := hk1.frozen 2
  have k3 := hk1.frozen 3
  have k4 := hk1.frozen 4
  simp only [List.getElem?_toArray, List.getElem?_cons_zero, List.getElem?_cons_succ] at c0 c1 c2 c3 c4 d0 d1 d2 d3 d4
  have HO := hid ho
  have HB := hid (bw_t hb0 hb1)
  have HK1 := hid hk1
  clear hs1 hb0 hb1 ho hk0 hk1 hsz HCL
  go_wp2_with fail
  have hch := (((((((Chg.refl (fun k => k = w.heap.size ∨ k = w.heap.size + 1) w1).set_ (.inl (.inl rfl)) 3 (.slice A' n c')).set_ (.inl (.inr rfl)) 0 (.int .i64 fnum)).set_ (.inl (.inr rfl)) 1 (.int .u8 fw)).set_ (.inl (.inr rfl)) 2 (.int .u64 (fn_ : Int))).set_ (.inl (.inr rfl)) 3 (.slice A' n c')).set_ (.inl (.inr rfl)) 4 (.int .i64 fat))
  have hblk := ((((((HK1.out.far (p := ⟨w.heap.size, 3, none⟩) (by simp) (.slice A' n c')).set_ 0 (.int .i64 fnum)).set_ 1 (.int .u8 fw)).set_ 2 (.int .u64 (fn_ : Int))).set_ 3 (.slice A' n c')).set_ 4 (.int .i64 fat))
  have ho2 := own_chgS HO.out hch fun g hg hk => by have := (HO.out.lt g hg).1; omega
  have hb2 := HB.out.trans (hch.below (B := w.heap.size) (fun k hk => by omega) (by have := HK1.out.lt; omega))
  have f0 := hblk.cell 0
  have f1 := hblk.cell 1
  have f2 := hblk.cell 2
  have f3 := hblk.cell 3
  have f4 := hblk.cell 4
  clear hblk hch c0 c1 c2 c3 c4 d0 d1 d2 d3 d4 k0 k1 k2 k3 k4 g3
  generalize World.setCell (World.setCell _ _ _) _ _ = W2 at *
  simp at f0 f1 f2 f3 f4
  exact bodyPost_ret (v := .agg #[.int .i64 fnum, .int .u8 fw, .int .u64 (fn_ : Int), .slice A' n c', .int .i64 fat]) (by simp [results, Try.results56, go_sem, f0, f1, f2, f3, f4]) rfl ⟨A', c', rfl, own_mono ho2 (by omega), hb2⟩
theorem of1_any (w : World) (p : Nat) (num : Int) (f : FV) (h : w.cell? ⟨p, 0, none⟩ = some (.int .i64 num)) :
    Calls Try.prog 58 #[.agg (fvC f).toArray, .pointer (some ⟨p, 0, none⟩)] w fun e w' => e = .returned (.bool (decide (f.num = num))) ∧ Below w.heap.size w w' := by
  obtain ⟨fnum, fw, fn_, ⟨fA, fc, fxs⟩, fat⟩ := f
  simp only [fvC]
  have hp := World.block_lt_of_cell? w _ h
  have hb := bw_a (Below.refl w.heap.size w) (.cells #[.int .i64 fnum, .int .u8 fw, .int .u64 (fn_ : Int), .slice fA fxs.length fc, .int .i64 fat] 39)
  go_enter Try.func58, Try.ntmps58
  go_wp2_with fail
  go_ret
  exact ⟨by show Ending.returned (.bool (fnum == num)) = _; by_cases h : fnum = num <;> simp [h], hb⟩
theorem wo1_any (w : World) (p : Nat) (num : Int) (f : FV) (h : w.cell? ⟨p, 0, none⟩ = some (.int .i64 num)) :
    Calls Try.prog 59 #[.agg (fvC f).toArray, .pointer (some ⟨p, 0, none⟩)] w fun e w' => e = .returned (.bool (decide (¬ f.num = num))) ∧ Below w.heap.size w w' := by
  obtain ⟨fnum, fw, fn_, ⟨fA, fc, fxs⟩, fat⟩ := f
  simp only [fvC]
  have hp := World.block_lt_of_cell? w _ h
  have hb := bw_a (Below.refl w.heap.size w) (.cells #[.int .i64 fnum, .int .u8 fw, .int .u64 (fn_ : Int), .slice fA fxs.length fc, .int .i64 fat] 39)
  go_enter Try.func59, Try.ntmps59
  go_wp2_with fail
  go_ret
  exact ⟨by show Ending.returned (.bool (fnum != num)) = _; by_cases h : fnum = num <;> simp [h], hb⟩
/-- A field without its memory. -/
def fvK (f : FV) : Int × Int × Nat × List UInt8 × Int := (f.num, f.w, f.n, f.s.xs, f.at_)
/-- A field whose bytes are the call's own. -/
def FvOwn (B : Nat) (w : World) (f : FV) : Prop := w.ownsRow B 5 1 (.slice f.s.A f.s.xs.length f.s.c) f.s.xs.length (f.s.xs.map bv)
set_option maxRecDepth 100000 in
set_option maxHeartbeats 4000000 in
theorem chosen_any (l : List FV) (m : Nat) (A : Option Addr) (c : Nat) (w : World) (F : FuncId) (p : Nat) (P : FV → Bool) (hm : l.length = m) (hm2 : m ≤ 2000) (hl : SlN w A m c 5 (l.flatMap fvC)) (hok : ∀ f ∈ l, FvOk w f) (hx : ∀ f ∈ l, f.s.xs.length ≤ 2000)
    (he : ∀ args W, (callFunc F args).run Try.prog W = .ok (.enter F args) W) (hF : ∀ W f, Below w.heap.size w W → Calls Try.prog F #[.agg (fvC f).toArray, .pointer (some ⟨p, 0, none⟩)] W fun e W' => e = .returned (.bool (P f)) ∧ Below W.heap.size W W') :
    Calls Try.prog 57 #[.slice A m c, .func (.func F) #[] #[.pointer (some ⟨p, 0, none⟩)]] w fun e w' => ∃ (v : Value) (fs : List FV), e = .returned v ∧ w'.ownsRow w.heap.size 39 5 v fs.length (fs.flatMap fvC) ∧ fs.map fvK = (l.filter P).map fvK ∧ (∀ f ∈ fs, FvOwn w.heap.size w' f) ∧ Below w.heap.size w w' := by
  have hcm : m ≤ 9223372036854775807 := by omega
  obtain ⟨i5, hi5, hi50, hi51, hi52⟩ := info_parts Try.infoField
  have HM := hid hm
  have HL := hid hl
  have HOK := hid hok
  have HX := hid hx
  have HF := hid hF
  clear hm hl hok hx hF
  go_enter Try.func57, Try.ntmps57
  go_wp2_with fail
  go_loopw [5, 10] (fun v i wr => ∃ (j : Nat) (fs : List FV), j ≤ m ∧ i = .int .i64 (j : Int) ∧ fs.length ≤ j ∧ wr.ownsRow w.heap.size 39 5 v fs.length (fs.flatMap fvC) ∧ fs.map fvK = ((l.take j).filter P).map fvK ∧ (∀ f ∈ fs, FvOwn w.heap.size wr f) ∧ Below w.heap.size w wr) (fun _ i _ => m - (intOf i).toNat)
  case atStart => exact ⟨0, [], by omega, rfl, by simp, World.ownsRow_nil _ _ _ _, rfl, by simp, Below.refl _ _⟩
  case round =>
    obtain ⟨j, fs, hj, rfl, hfj, ho, hfs, hown, hB⟩ := hrel
    by_cases hlt : j < m
    · have hjl : j < l.length := by have := HM.out; omega
      have hn0 : (l.flatMap fvC)[j * 5 + 0]? = _ := flatMap_get fvC 5 l j 0 hjl (fun _ _ => rfl) (by omega)
      have hn1 : (l.flatMap fvC)[j * 5 + 1]? = _ := flatMap_get fvC 5 l j 1 hjl (fun _ _ => rfl) (by omega)
      have hn2 : (l.flatMap fvC)[j * 5 + 2]? = _ := flatMap_get fvC 5 l j 2 hjl (fun _ _ => rfl) (by omega)
      have hn3 : (l.flatMap fvC)[j * 5 + 3]? = _ := flatMap_get fvC 5 l j 3 hjl (fun _ _ => rfl) (by omega)
      have hn4 : (l.flatMap fvC)[j * 5 + 4]? = _ := flatMap_get fvC 5 l j 4 hjl (fun _ _ => rfl) (by omega)
      have hoka := HOK.out l[j] (List.getElem_mem hjl)
      have hxa := HX.out l[j] (List.getElem_mem hjl)
      have htk : l.take (j + 1) = l.take j ++ [l[j]] := (List.take_append_getElem hjl).symm
      obtain ⟨b, off, rfl, hbw, t0⟩ := HL.out.rd _ _ hn0
      have u1 := HL.out.rd.addr _ _ hn1
      have u2 := HL.out.rd.addr _ _ hn2
      have u3 := HL.out.rd.addr _ _ hn3
      have u4 := HL.out.rd.addr _ _ hn4
      rw [addr_add] at u1 u2 u3 u4
      simp only [Nat.add_zero, ← Nat.add_assoc] at t0 u1 u2 u3 u4
      have t0 := (hB.cell (p := ⟨b, off + j * 5, none⟩) hbw).trans t0
      have t1 := (hB.cell (p := ⟨b, off + j * 5 + 1, none⟩) hbw).trans u1
      have t2 := (hB.cell (p := ⟨b, off + j * 5 + 2, none⟩) hbw).trans u2
      have t3 := (hB.cell (p := ⟨b, off + j * 5 + 3, none⟩) hbw).trans u3
      have t4 := (hB.cell (p := ⟨b, off + j * 5 + 4, none⟩) hbw).trans u4
      have hji : (j : Int) < (m : Int) := by omega
      have hj0 : (0 : Int) ≤ (j : Int) := by omega
      clear hn0 hn1 hn2 hn3 hn4 u1 u2 u3 u4
      generalize l[j] = f at *
      have hcf := fun W (hW : Below w.heap.size w W) => HF.out W f hW
      have hco := fun W (hW : Below wr.heap.size wr W) => sown_any f f.s.xs.length W rfl (by omega) (hoka.s.below (hB.trans (hW.mono hB.size)))
      obtain ⟨pf, hpf⟩ : ∃ pf, P f = pf := ⟨_, rfl⟩
      rw [hpf] at hcf
      obtain ⟨fnum, fw, fn_, ⟨fA, fc, fxs⟩, fat⟩ := f
      obtain ⟨xl, hxl⟩ : ∃ xl, fxs.length = xl := ⟨_, rfl⟩
      simp only [fvC, hxl] at t0 t1 t2 t3 t4 hxa hcf hco
      have HCF := hid hcf
      have HCO := hid hco
      have HTK := hid htk
      have HHB := hid hB
      have HO := hid ho
      have HFS := hid hfs
      have HOWN := hid hown
      have HPF := hid hpf
      have hb1 := bw_a (Below.refl wr.heap.size wr) (.cells #[.int .i64 fnum, .int .u8 fw, .int .u64 (fn_ : Int), .slice fA xl fc, .int .i64 fat] 39)
      have hk1 := Blk.new wr 39 #[.int .i64 fnum, .int .u8 fw, .int .u64 (fn_ : Int), .slice fA xl fc, .int .i64 fat]
      clear hcf hco htk hB ho hfs hown hpf hoka
      go_wp2_with fail
      refine (HCF.out _ (bw_t HHB.out hb1)).mono ?_
      rintro e w2 ⟨rfl, hb2⟩
      have hb12 := bw_t hb1 hb2
      have hk2 := hk1.below hb2 hk1.lt
      have d0 := hk2.cell 0
      have d1 := hk2.cell 1
      have d2 := hk2.cell 2
      have d3 := hk2.cell 3
      have d4 := hk2.cell 4
      simp only [List.getElem?_toArray, List.getElem?_cons_zero, List.getElem?_cons_succ] at d0 d1 d2 d3 d4
      have HB12 := hid hb12
      clear hb1 hb2 hk1 hk2 hb12 t0 t1 t2 t3 t4
      cases pf with
      | false =>
        go_wp2_with fail
        go_roundw
        case rel => exact ⟨j + 1, fs, by omega, by go_num, by omega, own_below HO.out HB12.out, by rw [HTK.out, List.filter_append, HFS.out]; simp [HPF.out], fun f hf => own_below (HOWN.out f hf) HB12.out, bw_t HHB.out HB12.out⟩
        case measure => simp [intOf] <;> omega
      | true =>
        go_wp2_with (first | (go_at_call 56; refine (HCO.out _ HB12.out).mono ?_; rintro e w3 ⟨A', c', rfl, ho3, hb3⟩; have HO3 := hid ho3; have HB3 := hid (bw_t HB12.out hb3); clear ho3 hb3) | (at_builtin; refine wpList_append_rd rfl _ _ 24 rfl w.heap.size 39 i5 (.agg #[.int .i64 0, .int .u8 0, .int .u64 0, .slice none 0 0, .int .i64 0]) 5 56 Try.underlying24 hi5 hi50 hi51 hi52 rfl (by decide) _ fs.length (fs.flatMap fvC) rfl ((own_below HO.out HB3.out).alloc _) (some ⟨w3.heap.size, 0, none⟩) 1 1 [.int .i64 fnum, .int .u8 fw, .int .u64 (fn_ : Int), .slice A' xl c', .int .i64 fat] rfl rfl (Rd.new w3 39 #[.int .i64 fnum, .int .u8 fw, .int .u64 (fn_ : Int), .slice A' xl c', .int .i64 fat]) (fun h => by cases h) (by simp [Value.oneCell']) (by simp only [maxLen]; omega) (by omega) (by have := (bw_t HHB.out HB3.out).size; simp; omega) ?_; intro v4 w4 hown4 hgrow; have HO4 := hid hown4; have HG4 := hid hgrow; clear hown4 hgrow))
        have hrow3 := (own_below HO.out HB3.out).alloc (.cells #[.int .i64 fnum, .int .u8 fw, .int .u64 (fn_ : Int), .slice A' xl c', .int .i64 fat] 39)
        have hbw3 := (bw_t HHB.out HB3.out)
        go_roundw
        case rel =>
          refine ⟨j + 1, fs ++ [⟨fnum, fw, fn_, ⟨A', c', fxs⟩, fat⟩], by omega, by go_num, by simp; omega, ?_, ?_, ?_, bw_g (bw_a hbw3 _) HG4.out (fun k ek => (hrow3.lt k ek).1)⟩
          · rw [List.length_append, List.flatMap_append]
            simpa [fvC, hxl] using HO4.out
          · rw [HTK.out, List.filter_append, List.map_append, List.map_append, HFS.out]; simp [HPF.out, fvK]
          · intro f hf
            rcases List.mem_append.1 hf with hf | hf
            · have h := (own_below (HOWN.out f hf) HB3.out).alloc (.cells #[.int .i64 fnum, .int .u8 fw, .int .u64 (fn_ : Int), .slice A' xl c', .int .i64 fat] 39)
              exact h.kept HG4.out (own_two h hrow3 (by decide))
            · obtain rfl := List.mem_singleton.1 hf
              have h := (own_mono HO3.out (base' := w.heap.size) (by have := HHB.out.size; have := HB12.out.size; omega)).alloc (.cells #[.int .i64 fnum, .int .u8 fw, .int .u64 (fn_ : Int), .slice A' xl c', .int .i64 fat] 39)
              have h2 := h.kept HG4.out (own_two h hrow3 (by decide))
              unfold FvOwn
              simpa [hxl] using h2
        case measure => simp [intOf] <;> omega
    · obtain rfl : j = m := by omega
      go_wp2
      go_ret
      have hlj : l.length = j := HM.out
      rw [List.take_of_length_le (by omega)] at hfs
      exact ⟨_, fs, rfl, ho, hfs, hown, hB⟩
end Go.Proofs.Ytfbmdeegcoocnaa
