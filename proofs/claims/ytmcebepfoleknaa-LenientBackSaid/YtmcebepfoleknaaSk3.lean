/- skip.own, and the functions of Of and Without. · skip.Of, skip.Without, skip.Last. · skip.Last. · What must be whatever is asked: layer 6. · What was read: numbers, lengths, places; End by the fields' words. · Fields alike; few fields. · The document's Same of fields. -/
import Derived.Test.YtmcebepfoleknaaSk2
import Derived.Test.YtmcebepfoleknaaM4
set_option linter.unusedVariables false
namespace Go.Proofs.Ytmcebepfoleknaa
open Go.RowKit
set_option maxRecDepth 100000 in
set_option maxHeartbeats 2000000 in
theorem sown_any (f : FV) (n : Nat) (w : World) (hn : f.s.xs.length = n) (hl : n ≤ 1000000) (hs : Sl w f.s.A f.s.c (f.s.xs.map bv)) :
    Calls Try.prog 91 #[.agg (fvC f).toArray] w fun e w' => ∃ A' c', e = .returned (.agg (fvC ⟨f.num, f.w, f.n, ⟨A', c', f.s.xs⟩, f.at_⟩).toArray) ∧ w'.ownsRow w.heap.size 5 1 (.slice A' n c') n (f.s.xs.map bv) ∧ Below w.heap.size w w' := by
  obtain ⟨fnum, fw, fn_, ⟨fA, fc, fxs⟩, fat⟩ := f
  simp only at hn hs
  simp only [fvC, hn]
  have hcl := fun W (hW : Below w.heap.size w W) => clone_any fxs n fA fc W hn hl (hs.below hW)
  have HCL := hid hcl
  have HN := hid hn
  clear hcl hs hn
  go_enter Try.func91, Try.ntmps91
  go_wp2_with fail
  have hb0 := bw_a (bw_a (Below.refl w.heap.size w) (.cells #[.int .i64 fnum, .int .u8 fw, .int .u64 (fn_ : Int), .slice fA n fc, .int .i64 fat] 44)) (.cells #[.int .i64 0, .int .u8 0, .int .u64 0, .slice none 0 0, .int .i64 0] 44)
  have hk0 := (Blk.new w 44 #[.int .i64 fnum, .int .u8 fw, .int .u64 (fn_ : Int), .slice fA n fc, .int .i64 fat]).alloc (.cells #[.int .i64 0, .int .u8 0, .int .u64 0, .slice none 0 0, .int .i64 0] 44)
  have hk1 := Blk.new (w.alloc (.cells #[.int .i64 fnum, .int .u8 fw, .int .u64 (fn_ : Int), .slice fA n fc, .int .i64 fat] 44)) 44 #[.int .i64 0, .int .u8 0, .int .u64 0, .slice none 0 0, .int .i64 0]
  have hsz : ((w.alloc (.cells #[.int .i64 fnum, .int .u8 fw, .int .u64 (fn_ : Int), .slice fA n fc, .int .i64 fat] 44)).alloc (.cells #[.int .i64 0, .int .u8 0, .int .u64 0, .slice none 0 0, .int .i64 0] 44)).heap.size = w.heap.size + 2 := by simp
  rw [World.size_alloc] at hk1
  generalize (w.alloc _).alloc _ = W at *
  refine (HCL.out W hb0).mono ?_
  rintro e w1 ⟨v, rfl, ho, hb1⟩
  obtain ⟨A', c', rfl, -, hs1⟩ := Sl.of_own ho
  have ho := own_mono ho (show w.heap.size + 2 ≤ W.heap.size by omega)
  have hk0 := hk0.below hb1 hk0.lt
  have hk1 := hk1.below hb1 hk1.lt
  have c0 := hk0.cell 0
  have c1 := hk0.cell 1
  have c2 := hk0.cell 2
  have c3 := hk0.cell 3
  have c4 := hk0.cell 4
  have g3 := hk0.frozen 3
  have d0 := hk1.cell 0
  have d1 := hk1.cell 1
  have d2 := hk1.cell 2
  have d3 := hk1.cell 3
  have d4 := hk1.cell 4
  have k0 := hk1.frozen 0
  have k1 := hk1.frozen 1
  have k2 := hk1.frozen 2
  have k3 := hk1.frozen 3
  have k4 := hk1.frozen 4
  simp only [List.getElem?_toArray, List.getElem?_cons_zero, List.getElem?_cons_succ] at c0 c1 c2 c3 c4 d0 d1 d2 d3 d4
  have HO := hid ho
  have HB := hid (bw_t hb0 hb1)
  have HK1 := hid hk1
  clear hs1 hb0 hb1 ho hk0 hk1 hsz HCL
  go_wp2_with fail
  have hch := (((((((Chg.refl (fun k => k = w.heap.size ∨ k = w.heap.size + 1) w1).set_ (.inl (.inl rfl)) 3 (.slice A' n c')).set_ (.inl (.inr rfl)) 0 (.int .i64 fnum)).set_ (.inl (.inr rfl)) 1 (.int .u8 fw)).set_ (.inl (.inr rfl)) 2 (.int .u64 (fn_ : Int))).set_ (.inl (.inr rfl)) 3 (.slice A' n c')).set_ (.inl (.inr rfl)) 4 (.int .i64 fat))
  have hblk := ((((((HK1.out.far (p := ⟨w.heap.size, 3, none⟩) (by simp) (.slice A' n c')).set_ 0 (.int .i64 fnum)).set_ 1 (.int .u8 fw)).set_ 2 (.int .u64 (fn_ : Int))).set_ 3 (.slice A' n c')).set_ 4 (.int .i64 fat))
  have ho2 := own_chgS HO.out hch fun g hg hk => by have := (HO.out.lt g hg).1; omega
  have hb2 := HB.out.trans (hch.below (B := w.heap.size) (fun k hk => by omega) (by have := HK1.out.lt; omega))
  have f0 := hblk.cell 0
  have f1 := hblk.cell 1
  have f2 := hblk.cell 2
  have f3 := hblk.cell 3
  have f4 := hblk.cell 4
  clear hblk hch c0 c1 c2 c3 c4 d0 d1 d2 d3 d4 k0 k1 k2 k3 k4 g3
  generalize World.setCell (World.setCell _ _ _) _ _ = W2 at *
  simp at f0 f1 f2 f3 f4
  exact bodyPost_ret (v := .agg #[.int .i64 fnum, .int .u8 fw, .int .u64 (fn_ : Int), .slice A' n c', .int .i64 fat]) (by simp [results, Try.results91, go_sem, f0, f1, f2, f3, f4]) rfl ⟨A', c', rfl, own_mono ho2 (by omega), hb2⟩
theorem of1_any (w : World) (p : Nat) (num : Int) (f : FV) (h : w.cell? ⟨p, 0, none⟩ = some (.int .i64 num)) :
    Calls Try.prog 64 #[.agg (fvC f).toArray, .pointer (some ⟨p, 0, none⟩)] w fun e w' => e = .returned (.bool (decide (f.num = num))) ∧ Below w.heap.size w w' := by
  obtain ⟨fnum, fw, fn_, ⟨fA, fc, fxs⟩, fat⟩ := f
  simp only [fvC]
  have hp := World.block_lt_of_cell? w _ h
  have hb := bw_a (Below.refl w.heap.size w) (.cells #[.int .i64 fnum, .int .u8 fw, .int .u64 (fn_ : Int), .slice fA fxs.length fc, .int .i64 fat] 44)
  go_enter Try.func64, Try.ntmps64
  go_wp2_with fail
  go_ret
  exact ⟨by show Ending.returned (.bool (fnum == num)) = _; by_cases h : fnum = num <;> simp [h], hb⟩
theorem wo1_any (w : World) (p : Nat) (num : Int) (f : FV) (h : w.cell? ⟨p, 0, none⟩ = some (.int .i64 num)) :
    Calls Try.prog 63 #[.agg (fvC f).toArray, .pointer (some ⟨p, 0, none⟩)] w fun e w' => e = .returned (.bool (decide (¬ f.num = num))) ∧ Below w.heap.size w w' := by
  obtain ⟨fnum, fw, fn_, ⟨fA, fc, fxs⟩, fat⟩ := f
  simp only [fvC]
  have hp := World.block_lt_of_cell? w _ h
  have hb := bw_a (Below.refl w.heap.size w) (.cells #[.int .i64 fnum, .int .u8 fw, .int .u64 (fn_ : Int), .slice fA fxs.length fc, .int .i64 fat] 44)
  go_enter Try.func63, Try.ntmps63
  go_wp2_with fail
  go_ret
  exact ⟨by show Ending.returned (.bool (fnum != num)) = _; by_cases h : fnum = num <;> simp [h], hb⟩
/-- A field without its memory. -/
def fvK (f : FV) : Int × Int × Nat × List UInt8 × Int := (f.num, f.w, f.n, f.s.xs, f.at_)
/-- A field whose bytes are the call's own. -/
def FvOwn (B : Nat) (w : World) (f : FV) : Prop := w.ownsRow B 5 1 (.slice f.s.A f.s.xs.length f.s.c) f.s.xs.length (f.s.xs.map bv)
set_option maxRecDepth 100000 in
set_option maxHeartbeats 4000000 in
theorem chosen_any (l : List FV) (m : Nat) (A : Option Addr) (c : Nat) (w : World) (F : FuncId) (p : Nat) (P : FV → Bool) (hm : l.length = m) (hm2 : m ≤ 2000) (hl : SlN w A m c 5 (l.flatMap fvC)) (hok : ∀ f ∈ l, FvOk w f) (hx : ∀ f ∈ l, f.s.xs.length ≤ 2000)
    (he : ∀ args W, (callFunc F args).run Try.prog W = .ok (.enter F args) W) (hF : ∀ W f, Below w.heap.size w W → Calls Try.prog F #[.agg (fvC f).toArray, .pointer (some ⟨p, 0, none⟩)] W fun e W' => e = .returned (.bool (P f)) ∧ Below W.heap.size W W') :
    Calls Try.prog 62 #[.slice A m c, .func (.func F) #[] #[.pointer (some ⟨p, 0, none⟩)]] w fun e w' => ∃ (v : Value) (fs : List FV), e = .returned v ∧ w'.ownsRow w.heap.size 44 5 v fs.length (fs.flatMap fvC) ∧ fs.map fvK = (l.filter P).map fvK ∧ (∀ f ∈ fs, FvOwn w.heap.size w' f) ∧ Below w.heap.size w w' := by
  have hcm : m ≤ 9223372036854775807 := by omega
  obtain ⟨i5, hi5, hi50, hi51, hi52⟩ := info_parts Try.infoField
  have HM := hid hm
  have HL := hid hl
  have HOK := hid hok
  have HX := hid hx
  have HF := hid hF
  clear hm hl hok hx hF
  go_enter Try.func62, Try.ntmps62
  go_wp2_with fail
  go_loopw [5, 10] (fun v i wr => ∃ (j : Nat) (fs : List FV), j ≤ m ∧ i = .int .i64 (j : Int) ∧ fs.length ≤ j ∧ wr.ownsRow w.heap.size 44 5 v fs.length (fs.flatMap fvC) ∧ fs.map fvK = ((l.take j).filter P).map fvK ∧ (∀ f ∈ fs, FvOwn w.heap.size wr f) ∧ Below w.heap.size w wr) (fun _ i _ => m - (intOf i).toNat)
  case atStart => exact ⟨0, [], by omega, rfl, by simp, World.ownsRow_nil _ _ _ _, rfl, by simp, Below.refl _ _⟩
  case round =>
    obtain ⟨j, fs, hj, rfl, hfj, ho, hfs, hown, hB⟩ := hrel
    by_cases hlt : j < m
    · have hjl : j < l.length := by have := HM.out; omega
      have hn0 : (l.flatMap fvC)[j * 5 + 0]? = _ := flatMap_get fvC 5 l j 0 hjl (fun _ _ => rfl) (by omega)
      have hn1 : (l.flatMap fvC)[j * 5 + 1]? = _ := flatMap_get fvC 5 l j 1 hjl (fun _ _ => rfl) (by omega)
      have hn2 : (l.flatMap fvC)[j * 5 + 2]? = _ := flatMap_get fvC 5 l j 2 hjl (fun _ _ => rfl) (by omega)
      have hn3 : (l.flatMap fvC)[j * 5 + 3]? = _ := flatMap_get fvC 5 l j 3 hjl (fun _ _ => rfl) (by omega)
      have hn4 : (l.flatMap fvC)[j * 5 + 4]? = _ := flatMap_get fvC 5 l j 4 hjl (fun _ _ => rfl) (by omega)
      have hoka := HOK.out l[j] (List.getElem_mem hjl)
      have hxa := HX.out l[j] (List.getElem_mem hjl)
      have htk : l.take (j + 1) = l.take j ++ [l[j]] := (List.take_append_getElem hjl).symm
      obtain ⟨b, off, rfl, hbw, t0⟩ := HL.out.rd _ _ hn0
      have u1 := HL.out.rd.addr _ _ hn1
      have u2 := HL.out.rd.addr _ _ hn2
      have u3 := HL.out.rd.addr _ _ hn3
      have u4 := HL.out.rd.addr _ _ hn4
      rw [addr_add] at u1 u2 u3 u4
      simp only [Nat.add_zero, ← Nat.add_assoc] at t0 u1 u2 u3 u4
      have t0 := (hB.cell (p := ⟨b, off + j * 5, none⟩) hbw).trans t0
      have t1 := (hB.cell (p := ⟨b, off + j * 5 + 1, none⟩) hbw).trans u1
      have t2 := (hB.cell (p := ⟨b, off + j * 5 + 2, none⟩) hbw).trans u2
      have t3 := (hB.cell (p := ⟨b, off + j * 5 + 3, none⟩) hbw).trans u3
      have t4 := (hB.cell (p := ⟨b, off + j * 5 + 4, none⟩) hbw).trans u4
      have hji : (j : Int) < (m : Int) := by omega
      have hj0 : (0 : Int) ≤ (j : Int) := by omega
      clear hn0 hn1 hn2 hn3 hn4 u1 u2 u3 u4
      generalize l[j] = f at *
      have hcf := fun W (hW : Below w.heap.size w W) => HF.out W f hW
      have hco := fun W (hW : Below wr.heap.size wr W) => sown_any f f.s.xs.length W rfl (by omega) (hoka.s.below (hB.trans (hW.mono hB.size)))
      obtain ⟨pf, hpf⟩ : ∃ pf, P f = pf := ⟨_, rfl⟩
      rw [hpf] at hcf
      obtain ⟨fnum, fw, fn_, ⟨fA, fc, fxs⟩, fat⟩ := f
      obtain ⟨xl, hxl⟩ : ∃ xl, fxs.length = xl := ⟨_, rfl⟩
      simp only [fvC, hxl] at t0 t1 t2 t3 t4 hxa hcf hco
      have HCF := hid hcf
      have HCO := hid hco
      have HTK := hid htk
      have HHB := hid hB
      have HO := hid ho
      have HFS := hid hfs
      have HOWN := hid hown
      have HPF := hid hpf
      have hb1 := bw_a (Below.refl wr.heap.size wr) (.cells #[.int .i64 fnum, .int .u8 fw, .int .u64 (fn_ : Int), .slice fA xl fc, .int .i64 fat] 44)
      have hk1 := Blk.new wr 44 #[.int .i64 fnum, .int .u8 fw, .int .u64 (fn_ : Int), .slice fA xl fc, .int .i64 fat]
      clear hcf hco htk hB ho hfs hown hpf hoka
      go_wp2_with fail
      refine (HCF.out _ (bw_t HHB.out hb1)).mono ?_
      rintro e w2 ⟨rfl, hb2⟩
      have hb12 := bw_t hb1 hb2
      have hk2 := hk1.below hb2 hk1.lt
      have d0 := hk2.cell 0
      have d1 := hk2.cell 1
      have d2 := hk2.cell 2
      have d3 := hk2.cell 3
      have d4 := hk2.cell 4
      simp only [List.getElem?_toArray, List.getElem?_cons_zero, List.getElem?_cons_succ] at d0 d1 d2 d3 d4
      have HB12 := hid hb12
      clear hb1 hb2 hk1 hk2 hb12 t0 t1 t2 t3 t4
      cases pf with
      | false =>
        go_wp2_with fail
        go_roundw
        case rel => exact ⟨j + 1, fs, by omega, by go_num, by omega, own_below HO.out HB12.out, by rw [HTK.out, List.filter_append, HFS.out]; simp [HPF.out], fun f hf => own_below (HOWN.out f hf) HB12.out, bw_t HHB.out HB12.out⟩
        case measure => simp [intOf] <;> omega
      | true =>
        go_wp2_with (first | (go_at_call 91; refine (HCO.out _ HB12.out).mono ?_; rintro e w3 ⟨A', c', rfl, ho3, hb3⟩; have HO3 := hid ho3; have HB3 := hid (bw_t HB12.out hb3); clear ho3 hb3) | (at_builtin; refine wpList_append_rd rfl _ _ 36 rfl w.heap.size 44 i5 (.agg #[.int .i64 0, .int .u8 0, .int .u64 0, .slice none 0 0, .int .i64 0]) 5 56 Try.underlying36 hi5 hi50 hi51 hi52 rfl (by decide) _ fs.length (fs.flatMap fvC) rfl ((own_below HO.out HB3.out).alloc _) (some ⟨w3.heap.size, 0, none⟩) 1 1 [.int .i64 fnum, .int .u8 fw, .int .u64 (fn_ : Int), .slice A' xl c', .int .i64 fat] rfl rfl (Rd.new w3 44 #[.int .i64 fnum, .int .u8 fw, .int .u64 (fn_ : Int), .slice A' xl c', .int .i64 fat]) (fun h => by cases h) (by simp [Value.oneCell']) (by simp only [maxLen]; omega) (by omega) (by have := (bw_t HHB.out HB3.out).size; simp; omega) ?_; intro v4 w4 hown4 hgrow; have HO4 := hid hown4; have HG4 := hid hgrow; clear hown4 hgrow))
        have hrow3 := (own_below HO.out HB3.out).alloc (.cells #[.int .i64 fnum, .int .u8 fw, .int .u64 (fn_ : Int), .slice A' xl c', .int .i64 fat] 44)
        have hbw3 := (bw_t HHB.out HB3.out)
        go_roundw
        case rel =>
          refine ⟨j + 1, fs ++ [⟨fnum, fw, fn_, ⟨A', c', fxs⟩, fat⟩], by omega, by go_num, by simp; omega, ?_, ?_, ?_, bw_g (bw_a hbw3 _) HG4.out (fun k ek => (hrow3.lt k ek).1)⟩
          · rw [List.length_append, List.flatMap_append]
            simpa [fvC, hxl] using HO4.out
          · rw [HTK.out, List.filter_append, List.map_append, List.map_append, HFS.out]; simp [HPF.out, fvK]
          · intro f hf
            rcases List.mem_append.1 hf with hf | hf
            · have h := (own_below (HOWN.out f hf) HB3.out).alloc (.cells #[.int .i64 fnum, .int .u8 fw, .int .u64 (fn_ : Int), .slice A' xl c', .int .i64 fat] 44)
              exact h.kept HG4.out (own_two h hrow3 (by decide))
            · obtain rfl := List.mem_singleton.1 hf
              have h := (own_mono HO3.out (base' := w.heap.size) (by have := HHB.out.size; have := HB12.out.size; omega)).alloc (.cells #[.int .i64 fnum, .int .u8 fw, .int .u64 (fn_ : Int), .slice A' xl c', .int .i64 fat] 44)
              have h2 := h.kept HG4.out (own_two h hrow3 (by decide))
              unfold FvOwn
              simpa [hxl] using h2
        case measure => simp [intOf] <;> omega
    · obtain rfl : j = m := by omega
      go_wp2
      go_ret
      have hlj : l.length = j := HM.out
      rw [List.take_of_length_le (by omega)] at hfs
      exact ⟨_, fs, rfl, ho, hfs, hown, hB⟩
end Go.Proofs.Ytmcebepfoleknaa
set_option linter.unusedVariables false
namespace Go.Proofs.Ytmcebepfoleknaa
open Go.RowKit
theorem FvOk.below {w w' : World} {f : FV} (h : FvOk w f) (hb : Below w.heap.size w w') : FvOk w' f := ⟨h.w0, h.w1, h.n, h.n1, h.n2, h.a1, h.a2, h.s.below hb⟩
/-- What comes of choosing. -/
def Chosen (B : Nat) (ks : List (Int × Int × Nat × List UInt8 × Int)) (w : World) (e : Ending) (w' : World) : Prop :=
  ∃ (v : Value) (fs : List FV), e = .returned v ∧ w'.ownsRow B 44 5 v fs.length (fs.flatMap fvC) ∧ fs.map fvK = ks ∧ (∀ f ∈ fs, FvOwn B w' f) ∧ Below B w w'
set_option maxRecDepth 100000 in
set_option maxHeartbeats 2000000 in
theorem sof_any (l : List FV) (m : Nat) (A : Option Addr) (c : Nat) (num : Int) (w : World) (hm : l.length = m) (hm2 : m ≤ 2000) (hl : SlN w A m c 5 (l.flatMap fvC)) (hok : ∀ f ∈ l, FvOk w f) (hx : ∀ f ∈ l, f.s.xs.length ≤ 2000) :
    Calls Try.prog 36 #[.slice A m c, .int .i64 num] w (Chosen w.heap.size ((l.filter fun f => decide (f.num = num)).map fvK) w) := by
  have hmf := func_run (P := Try.prog)
  have hb1 := bw_a (Below.refl w.heap.size w) (.cells #[.int .i64 num] 3)
  have hc1 : (w.alloc (.cells #[.int .i64 num] 3)).cell? ⟨w.heap.size, 0, none⟩ = some (.int .i64 num) := (Blk.new w 3 #[.int .i64 num]).cell 0
  have hch := chosen_any l m A c (w.alloc (.cells #[.int .i64 num] 3)) 64 w.heap.size (fun f => decide (f.num = num)) hm hm2 (hl.below hb1) (fun f hf => (hok f hf).below hb1) hx (fun args W => by kernel_rfl)
    (fun W f hW => of1_any W w.heap.size num f ((hW.cell (p := ⟨w.heap.size, 0, none⟩) (by simp)).trans hc1))
  have HCH := hid hch
  have HB := hid hb1
  clear hch hl hok hx hb1 hc1
  go_enter Try.func36, Try.ntmps36
  go_wp2_with fail
  refine HCH.out.mono ?_
  rintro e w2 ⟨v, fs, rfl, ho, hfs, hown, hb⟩
  go_wp2_with fail
  go_ret
  exact ⟨v, fs, rfl, own_mono ho (by simp), hfs, fun f hf => own_mono (hown f hf) (by simp), bw_t HB.out hb⟩
set_option maxRecDepth 100000 in
set_option maxHeartbeats 2000000 in
theorem swo_any (l : List FV) (m : Nat) (A : Option Addr) (c : Nat) (num : Int) (w : World) (hm : l.length = m) (hm2 : m ≤ 2000) (hl : SlN w A m c 5 (l.flatMap fvC)) (hok : ∀ f ∈ l, FvOk w f) (hx : ∀ f ∈ l, f.s.xs.length ≤ 2000) :
    Calls Try.prog 35 #[.slice A m c, .int .i64 num] w (Chosen w.heap.size ((l.filter fun f => decide (¬ f.num = num)).map fvK) w) := by
  have hmf := func_run (P := Try.prog)
  have hb1 := bw_a (Below.refl w.heap.size w) (.cells #[.int .i64 num] 3)
  have hc1 : (w.alloc (.cells #[.int .i64 num] 3)).cell? ⟨w.heap.size, 0, none⟩ = some (.int .i64 num) := (Blk.new w 3 #[.int .i64 num]).cell 0
  have hch := chosen_any l m A c (w.alloc (.cells #[.int .i64 num] 3)) 63 w.heap.size (fun f => decide (¬ f.num = num)) hm hm2 (hl.below hb1) (fun f hf => (hok f hf).below hb1) hx (fun args W => by kernel_rfl)
    (fun W f hW => wo1_any W w.heap.size num f ((hW.cell (p := ⟨w.heap.size, 0, none⟩) (by simp)).trans hc1))
  have HCH := hid hch
  have HB := hid hb1
  clear hch hl hok hx hb1 hc1
  go_enter Try.func35, Try.ntmps35
  go_wp2_with fail
  refine HCH.out.mono ?_
  rintro e w2 ⟨v, fs, rfl, ho, hfs, hown, hb⟩
  go_wp2_with fail
  go_ret
  exact ⟨v, fs, rfl, own_mono ho (by simp), hfs, fun f hf => own_mono (hown f hf) (by simp), bw_t HB.out hb⟩
end Go.Proofs.Ytmcebepfoleknaa
set_option linter.unusedVariables false
namespace Go.Proofs.Ytmcebepfoleknaa
open Go.RowKit
/-- The last field of a number and a wire type. -/
def lastK (l : List FV) (num x : Int) : Option FV := (l.filter fun f => decide (f.num = num) && decide (f.w = x)).getLast?
theorem lastK_hit (l : List FV) (num x : Int) (j : Nat) (hj : j < l.length) (h0 : (l.drop (j + 1)).filter (fun f => decide (f.num = num) && decide (f.w = x)) = []) (h1 : l[j].num = num) (h2 : l[j].w = x) : lastK l num x = some l[j] := by
  unfold lastK
  have e : l = l.take j ++ (l[j] :: l.drop (j + 1)) := by rw [← List.drop_eq_getElem_cons hj, List.take_append_drop]
  have e2 : l.filter (fun f => decide (f.num = num) && decide (f.w = x)) = (l.take j).filter (fun f => decide (f.num = num) && decide (f.w = x)) ++ [l[j]] := by
    conv => lhs; rw [e]
    rw [List.filter_append, List.filter_cons_of_pos (by simp [h1, h2]), h0]
  rw [e2]
  simp
theorem lastK_miss (l : List FV) (num x : Int) (j : Nat) (hj : j < l.length) (h0 : (l.drop (j + 1)).filter (fun f => decide (f.num = num) && decide (f.w = x)) = []) (h1 : ¬ (l[j].num = num ∧ l[j].w = x)) : (l.drop j).filter (fun f => decide (f.num = num) && decide (f.w = x)) = [] := by
  rw [List.drop_eq_getElem_cons hj, List.filter_cons_of_neg (by simpa using h1), h0]
theorem set5 {W : World} {z : Nat} {t : TypeId} {x0 x1 x2 x3 x4 : Value} (h : Blk W z t #[x0, x1, x2, x3, x4]) (y0 y1 y2 y3 y4 : Value) :
    Blk (((((W.setCell ⟨z, 0, none⟩ y0).setCell ⟨z, 1, none⟩ y1).setCell ⟨z, 2, none⟩ y2).setCell ⟨z, 3, none⟩ y3).setCell ⟨z, 4, none⟩ y4) z t #[y0, y1, y2, y3, y4] ∧
    Chg (fun k => k = z) W (((((W.setCell ⟨z, 0, none⟩ y0).setCell ⟨z, 1, none⟩ y1).setCell ⟨z, 2, none⟩ y2).setCell ⟨z, 3, none⟩ y3).setCell ⟨z, 4, none⟩ y4) := by
  refine ⟨by simpa using ((((h.set_ 0 y0).set_ 1 y1).set_ 2 y2).set_ 3 y3).set_ 4 y4, (((((Chg.refl (fun k => k = z) W).set_ (.inl rfl) 0 y0).set_ (.inl rfl) 1 y1).set_ (.inl rfl) 2 y2).set_ (.inl rfl) 3 y3).set_ (.inl rfl) 4 y4⟩
end Go.Proofs.Ytmcebepfoleknaa
set_option linter.unusedVariables false
namespace Go.Proofs.Ytmcebepfoleknaa
open Go.RowKit
theorem sln_own {w : World} {base e size n : Nat} {v : Value} {xs : List Value} (hsz : 0 < size) (h : w.ownsRow base e size v n xs) : ∃ A c, v = .slice A n c ∧ SlN w A n c size xs := by
  rcases h.2 with ⟨rfl, rfl⟩ | ⟨g, cap, cur, rfl, hb, hg, hnc, hcm, hcs, htake⟩
  · have hx : xs = [] := List.eq_nil_of_length_eq_zero (by simpa using h.1)
    subst hx
    exact ⟨none, 0, rfl, ⟨by simp, by omega, by omega, fun _ => rfl, Rd.nil_ w _⟩⟩
  · refine ⟨_, cap, rfl, ⟨h.1, hnc, hcm, (fun h => by cases h), fun k u hk => ⟨g, 0, rfl, (Array.getElem?_eq_some_iff.1 hg).1, ?_⟩⟩⟩
    have := h.cells (g := g) rfl k u hk
    rwa [addr_add] at this
theorem l6_f1 : flds [8, 5, 18, 1, 97] 5 0 = ([(⟨1, 0, 5, [], 0, 0, 2⟩, 0), (⟨2, 2, 0, [97], 0, 0, 5⟩, 2)], 0, 0) := by rfl
theorem l6_f2 : flds [8, 5, 18, 9] 4 0 = ([(⟨1, 0, 5, [], 0, 0, 2⟩, 0)], 4, 3) := by rfl
theorem l6_end : rOne ([8, 5, 18, 1, 97].drop 2) 0 = ⟨2, 2, 0, [97], 0, 0, 3⟩ := by rfl
theorem l6_put (A1 A2 : Option Addr) (c1 c2 : Nat) : putsE [⟨1, 0, 5, ⟨A1, c1, []⟩, 0⟩, ⟨2, 2, 0, ⟨A2, c2, [97]⟩, 2⟩] 0 = (0, 0) := by rfl
theorem l6_len (A1 A2 : Option Addr) (c1 c2 : Nat) : ([⟨1, 0, 5, ⟨A1, c1, []⟩, 0⟩, ⟨2, 2, 0, ⟨A2, c2, [97]⟩, 2⟩] : List FV).flatMap pBF = [8, 5, 18, 1, 97] := by
  simp [pBF, pB, pTail, mk, wireB, putN_small, b8]
theorem l6_last (A1 A2 : Option Addr) (c1 c2 : Nat) : lastK [⟨1, 0, 5, ⟨A1, c1, []⟩, 0⟩, ⟨2, 2, 0, ⟨A2, c2, [97]⟩, 2⟩] 2 2 = some ⟨2, 2, 0, ⟨A2, c2, [97]⟩, 2⟩ := by
  simp [lastK]
theorem sl_lit (w : World) (t : TypeId) (bs : List UInt8) (cs : Array Value) (n : Nat) (hn : bs.length = n) (hm : n ≤ 9223372036854775807) (h : cs.toList = bs.map bv) : Sl (w.alloc (.cells cs t)) (some ⟨w.heap.size, 0, none⟩) n (bs.map bv) :=
  ⟨by simp [hn], hm, (fun h => by cases h), by rw [← h]; exact Rd.new w t cs⟩
theorem l6_fields (w : World) (A : Option Addr) (c : Nat) (hs : Sl w A c (([8, 5, 18, 1, 97] : List UInt8).map bv)) :
    Calls Try.prog 33 #[.slice A 5 c] w fun e W' => ∃ (Al : Option Addr) (cl : Nat) (A1 : Option Addr) (c1 : Nat) (A2 : Option Addr) (c2 : Nat), e = .returned (.tuple #[.slice Al 2 cl, .agg #[.int .i64 0, .int .i64 0]]) ∧ SlN W' Al 2 cl 5 (([⟨1, 0, 5, ⟨A1, c1, []⟩, 0⟩, ⟨2, 2, 0, ⟨A2, c2, [97]⟩, 2⟩] : List FV).flatMap fvC) ∧
      FvOk W' ⟨1, 0, 5, ⟨A1, c1, []⟩, 0⟩ ∧ FvOk W' ⟨2, 2, 0, ⟨A2, c2, [97]⟩, 2⟩ ∧ Below w.heap.size w W' := by
  refine ((callsIn_wide (n := 4)).1 (fields_in 4 (by omega) [8, 5, 18, 1, 97] 5 A c w rfl (by omega) hs)).mono ?_
  rintro e W' ⟨(⟨-, v, b, pre, rfl, -, ho, hfa, hsl⟩ | ⟨he, -⟩), hb⟩
  · rw [l6_f1] at hfa
    match pre, hfa with
    | [⟨n1, w1, k1, ⟨A1, c1, x1⟩, a1⟩, ⟨n2, w2, k2, ⟨A2, c2, x2⟩, a2⟩], hfa =>
      obtain ⟨⟨h1, h2, h3, h4, h5⟩, ⟨h6, h7, h8, h9, h10⟩, -⟩ := hfa
      simp only at h1 h2 h3 h4 h5 h6 h7 h8 h9 h10
      subst h1 h2 h3 h4 h6 h7 h8 h9
      have h5 : a1 = 0 := h5
      have h10 : a2 = 2 := h10
      subst h5 h10
      obtain ⟨Al, cl, rfl, hsn⟩ := sln_own (by omega) ho
      have s1 := (hsl _ (List.mem_cons_self ..)).1
      have s2 := (hsl _ (List.mem_cons_of_mem _ (List.mem_singleton.2 rfl))).1
      exact ⟨Al, cl, A1, c1, A2, c2, rfl, hsn, ⟨by dsimp only; omega, by dsimp only; omega, by dsimp only; omega, by dsimp only; omega, by dsimp only; omega, by dsimp only; omega, by dsimp only; omega, s1⟩, ⟨by dsimp only; omega, by dsimp only; omega, by dsimp only; omega, by dsimp only; omega, by dsimp only; omega, by dsimp only; omega, by dsimp only; omega, s2⟩, hb⟩
  · rw [l6_f1] at he; exact absurd rfl he
theorem l6_short (w : World) (A : Option Addr) (c : Nat) (hs : Sl w A c (([8, 5, 18, 9] : List UInt8).map bv)) :
    Calls Try.prog 33 #[.slice A 4 c] w fun e W' => e = .returned (.tuple #[.slice none 0 0, .agg #[.int .i64 4, .int .i64 3]]) ∧ Below w.heap.size w W' := by
  refine ((callsIn_wide (n := 4)).1 (fields_in 4 (by omega) [8, 5, 18, 9] 4 A c w rfl (by omega) hs)).mono ?_
  rintro e W' ⟨(⟨he, -⟩ | ⟨-, rfl⟩), hb⟩
  · rw [l6_f2] at he; exact absurd he (by decide)
  · rw [l6_f2]; exact ⟨rfl, hb⟩
/-- The two fields. -/
def L6 (A1 : Option Addr) (c1 : Nat) (A2 : Option Addr) (c2 : Nat) : List FV := [⟨1, 0, 5, ⟨A1, c1, []⟩, 0⟩, ⟨2, 2, 0, ⟨A2, c2, [97]⟩, 2⟩]
structure L6Ok (w : World) (Al : Option Addr) (cl : Nat) (A1 : Option Addr) (c1 : Nat) (A2 : Option Addr) (c2 : Nat) : Prop where
  sl : SlN w Al 2 cl 5 ((L6 A1 c1 A2 c2).flatMap fvC)
  ok : ∀ f ∈ L6 A1 c1 A2 c2, FvOk w f
theorem L6Ok.below {w w' : World} {Al A1 A2 : Option Addr} {cl c1 c2 : Nat} (h : L6Ok w Al cl A1 c1 A2 c2) (hb : Below w.heap.size w w') : L6Ok w' Al cl A1 c1 A2 c2 := ⟨h.sl.below hb, fun f hf => (h.ok f hf).below hb⟩
theorem L6_short (A1 : Option Addr) (c1 : Nat) (A2 : Option Addr) (c2 : Nat) : ∀ f ∈ L6 A1 c1 A2 c2, f.s.xs.length ≤ 2000 := by
  intro f hf
  simp only [L6, List.mem_cons, List.not_mem_nil, or_false] at hf
  rcases hf with rfl | rfl <;> simp
section
variable {w : World} {Al A1 A2 : Option Addr} {cl c1 c2 : Nat}
theorem l6_puts (h : L6Ok w Al cl A1 c1 A2 c2) : Calls Try.prog 34 #[.slice Al 2 cl] w fun e W' => ∃ v c, e = .returned (.tuple #[.slice v 5 c, .agg #[.int .i64 0, .int .i64 0]]) ∧ Below w.heap.size w W' := by
  refine (sputs_any _ 2 Al cl w rfl (by omega) h.sl h.ok (L6_short _ _ _ _)).mono ?_
  rintro e W' ⟨(⟨-, v, rfl, ho⟩ | ⟨he, -⟩), hb⟩
  · rw [show (L6 A1 c1 A2 c2).flatMap pBF = [8, 5, 18, 1, 97] from l6_len A1 A2 c1 c2] at ho
    obtain ⟨A, c, rfl, -, -⟩ := Sl.of_own ho
    exact ⟨A, c, rfl, hb⟩
  · exact absurd (by rw [show putsE (L6 A1 c1 A2 c2) 0 = (0, 0) from l6_put A1 A2 c1 c2]) he
theorem l6_of (h : L6Ok w Al cl A1 c1 A2 c2) : Calls Try.prog 36 #[.slice Al 2 cl, .int .i64 1] w fun e W' => ∃ A c, e = .returned (.slice A 1 c) ∧ Below w.heap.size w W' := by
  refine (sof_any _ 2 Al cl 1 w rfl (by omega) h.sl h.ok (L6_short _ _ _ _)).mono ?_
  rintro e W' ⟨v, fs, rfl, ho, hfs, -, hb⟩
  obtain ⟨A, c, rfl, -⟩ := sln_own (by omega) ho
  have hl := congrArg List.length hfs
  simp [L6] at hl
  exact ⟨A, c, by rw [hl], hb⟩
theorem l6_wo (h : L6Ok w Al cl A1 c1 A2 c2) : Calls Try.prog 35 #[.slice Al 2 cl, .int .i64 1] w fun e W' => ∃ A c, e = .returned (.slice A 1 c) ∧ Below w.heap.size w W' := by
  refine (swo_any _ 2 Al cl 1 w rfl (by omega) h.sl h.ok (L6_short _ _ _ _)).mono ?_
  rintro e W' ⟨v, fs, rfl, ho, hfs, -, hb⟩
  obtain ⟨A, c, rfl, -⟩ := sln_own (by omega) ho
  have hl := congrArg List.length hfs
  simp [L6] at hl
  exact ⟨A, c, by rw [hl], hb⟩
end
theorem conv_bs6 {P : Program} {w : World} {src dst e : TypeId} {A : Option Addr} {n c : Nat} {vs : List UInt8} (hsl : Sl w A c (vs.map bv)) (hn : vs.length = n) (hs : P.underlying src = some (.slice e)) (he : P.underlying e = some (.int .u8)) (hd : P.underlying dst = some .string) :
    (convert src dst (.slice A n c)).run P w = .ok (.string ⟨vs.toArray⟩) w := by
  subst hn
  cases A with
  | none =>
    obtain hnil := hsl.rd.none_nil
    obtain rfl : vs = [] := by simpa using hnil
    obtain rfl := hsl.nil0 rfl
    exact run_convert_bytes_nil w src e hs he 0 0 dst hd
  | some a =>
    exact run_convert_bytes_back _ src dst e _ _ vs hs he hd fun j hj => by
      have := hsl.rd.addr j (bv vs[j]) (by simp [hj])
      exact this
theorem l6_wk {w : World} {Al A1 A2 : Option Addr} {cl c1 c2 : Nat} (h : SlN w Al 2 cl 5 (([⟨1, 0, 5, ⟨A1, c1, []⟩, 0⟩, ⟨2, 2, 0, ⟨A2, c2, [97]⟩, 2⟩] : List FV).flatMap fvC)) (g1 : FvOk w ⟨1, 0, 5, ⟨A1, c1, []⟩, 0⟩) (g2 : FvOk w ⟨2, 2, 0, ⟨A2, c2, [97]⟩, 2⟩) : L6Ok w Al cl A1 c1 A2 c2 := by
  refine ⟨h, fun f hf => ?_⟩
  simp only [L6, List.mem_cons, List.not_mem_nil, or_false] at hf
  rcases hf with rfl | rfl
  · exact g1
  · exact g2
end Go.Proofs.Ytmcebepfoleknaa
set_option linter.unusedVariables false
namespace Go.Proofs.Ytmcebepfoleknaa
open Go.RowKit
/-- What may be of a field that was read of n bytes. -/
def ReadOk (n : Nat) (f : FV) : Prop := 0 ≤ f.w ∧ f.w ≤ 255 ∧ f.n ≤ 18446744073709551615 ∧ 1 ≤ f.num ∧ f.num ≤ 536870911 ∧ 0 ≤ f.at_ ∧ f.at_ ≤ n ∧ f.s.xs.length ≤ n
theorem read_ok (bs : List UInt8) : ∀ (fu p : Nat) (fs : List FV), p ≤ bs.length → fvAll fs (flds bs fu p).1 → fs.length + p ≤ bs.length ∧ ∀ f ∈ fs, ReadOk bs.length f
  | 0, p, fs, hp, hf => by
    cases fs with
    | nil => exact ⟨by simpa using hp, fun f hf => by simp at hf⟩
    | cons f fs => exact hf.elim
  | fu + 1, p, fs, hp, hf => by
    rw [flds] at hf
    by_cases h1 : bs.length ≤ p
    · rw [if_pos h1] at hf
      cases fs with
      | nil => exact ⟨by simpa using hp, fun f hf => by simp at hf⟩
      | cons f fs => exact hf.elim
    · rw [if_neg h1] at hf
      by_cases h2 : (rOne bs p).e = 0
      · rw [if_pos h2] at hf
        cases fs with
        | nil => exact ⟨by simpa using hp, fun f hf => by simp at hf⟩
        | cons f fs =>
          have hn := rOne_facts bs p hp
          obtain ⟨n1, n2, n3, n4, n5⟩ := hn.1 h2
          obtain ⟨a1, a2, a3, a4⟩ := again_one f bs p hp h2 hf.1
          obtain ⟨b1, b2⟩ := read_ok bs fu (rOne bs p).nx fs n2 hf.2
          obtain ⟨f1, f2, f3, f4, f5⟩ := hf.1
          simp only at f1 f2 f3 f4 f5
          refine ⟨by rw [List.length_cons]; omega, fun g hg => ?_⟩
          rcases List.mem_cons.1 hg with rfl | hg
          · have hx : g.s.xs.length ≤ bs.length := by
              have hp2 : (pBF g).length = (putN (mk g.num g.w).1.toNat).length + (pTail g.w g.n g.s.xs).length := by unfold pBF pB; rw [List.length_append]
              by_cases hw : g.w = 2
              · have ht : pTail g.w g.n g.s.xs = putN g.s.xs.length ++ g.s.xs := by rw [hw]; rfl
                rw [ht, List.length_append] at hp2
                omega
              · unfold bareX at a3
                rw [if_neg hw] at a3
                rw [← a3]; simp
            refine ⟨by rw [f2]; omega, by rw [f2]; omega, by rw [f3]; exact hn.2, by rw [f1]; exact n3, by rw [f1]; exact n4, by rw [f5]; omega, by rw [f5]; omega, hx⟩
          · exact b2 g hg
      · rw [if_neg h2] at hf
        cases fs with
        | nil => exact ⟨by simpa using hp, fun f hf => by simp at hf⟩
        | cons f fs => exact hf.elim
end Go.Proofs.Ytmcebepfoleknaa
set_option linter.unusedVariables false
namespace Go.Proofs.Ytmcebepfoleknaa
open Go.RowKit
def likeB (f g : FV) : Bool := decide (f.num = g.num ∧ f.w = g.w ∧ f.n = g.n ∧ f.s.xs = g.s.xs)
set_option maxRecDepth 100000 in
set_option maxHeartbeats 2000000 in
theorem like_any (f g : FV) (w : World) (hf : Sl w f.s.A f.s.c (f.s.xs.map bv)) (hg : Sl w g.s.A g.s.c (g.s.xs.map bv)) :
    Calls Try.prog 42 #[.agg (fvC f).toArray, .agg (fvC g).toArray] w fun e w' => e = .returned (.bool (likeB f g)) ∧ Below w.heap.size w w' := by
  obtain ⟨fnum, fw, fn_, ⟨fA, fc, fxs⟩, fat⟩ := f
  obtain ⟨gnum, gw, gn_, ⟨gA, gc, gxs⟩, gat⟩ := g
  simp only at hf hg
  have hlf : fxs.length ≤ 9223372036854775807 := by have h1 := hf.cap; have h2 := hf.small; rw [List.length_map] at h1; omega
  have hsm := fun W (hW : Below w.heap.size w W) => same_any fxs gxs fA gA fc gc W hlf (hf.below hW).rd (hg.below hW).rd
  obtain ⟨R, hR⟩ : ∃ R : Ending → World → Prop, R = fun e w' => e = .returned (.bool (likeB ⟨fnum, fw, fn_, ⟨fA, fc, fxs⟩, fat⟩ ⟨gnum, gw, gn_, ⟨gA, gc, gxs⟩, gat⟩)) ∧ Below w.heap.size w w' := ⟨_, rfl⟩
  rw [← hR]
  have HR := hid hR
  have HSM := hid hsm
  clear hR hsm hf hg
  have hbb := bw_a (bw_a (Below.refl w.heap.size w) (.cells #[.int .i64 fnum, .int .u8 fw, .int .u64 (fn_ : Int), .slice fA fxs.length fc, .int .i64 fat] 44)) (.cells #[.int .i64 gnum, .int .u8 gw, .int .u64 (gn_ : Int), .slice gA gxs.length gc, .int .i64 gat] 44)
  have HB := hid hbb
  clear hbb
  simp only [fvC]
  by_cases h1 : fnum = gnum
  · subst h1
    by_cases h2 : fw = gw
    · subst h2
      by_cases h3 : fn_ = gn_
      · subst h3
        go_enter Try.func42, Try.ntmps42
        go_wp2_with (go_at_call 28; refine (HSM.out _ HB.out).mono ?_; rintro e w2 ⟨rfl, hk⟩)
        rw [HR.out]
        obtain ⟨k, rfl⟩ := hk
        exact ⟨by simp [likeB], bw_d HB.out k⟩
      · have h3b : ((fn_ : Int) == (gn_ : Int)) = false := by simp; omega
        go_enter Try.func42, Try.ntmps42
        go_wp2_with fail
        rw [HR.out]
        exact ⟨by simp [likeB, h3], HB.out⟩
    · have h2b : (fw == gw) = false := by simpa using h2
      go_enter Try.func42, Try.ntmps42
      go_wp2_with fail
      rw [HR.out]
      exact ⟨by simp [likeB, h2], HB.out⟩
  · have h1b : (fnum == gnum) = false := by simpa using h1
    go_enter Try.func42, Try.ntmps42
    go_wp2_with fail
    rw [HR.out]
    exact ⟨by simp [likeB, h1], HB.out⟩
/-- Few fields, of few bytes each. -/
def fewB (l : List FV) : Bool := decide (l.length ≤ 40) && l.all fun f => decide (f.s.xs.length ≤ 1000)
theorem fewB_facts {l : List FV} (h : fewB l = true) : l.length ≤ 40 ∧ ∀ f ∈ l, f.s.xs.length ≤ 1000 := by
  unfold fewB at h
  rw [Bool.and_eq_true, List.all_eq_true] at h
  exact ⟨by simpa using h.1, fun f hf => by simpa using h.2 f hf⟩
end Go.Proofs.Ytmcebepfoleknaa
set_option linter.unusedVariables false
namespace Go.Proofs.Ytmcebepfoleknaa
open Go.RowKit
theorem likeK (f g : FV) : (likeB f g = true ∧ f.at_ = g.at_) ↔ fvK f = fvK g := by
  unfold likeB fvK
  simp only [decide_eq_true_eq, Prod.mk.injEq]
  constructor
  · rintro ⟨⟨h1, h2, h3, h4⟩, h5⟩; exact ⟨h1, h2, h3, h4, h5⟩
  · rintro ⟨h1, h2, h3, h4, h5⟩; exact ⟨⟨h1, h2, h3, h4⟩, h5⟩
theorem held10 {w w' : World} (hc : Below w.heap.size w w') {p0 p1 p2 p3 p4 p5 p6 p7 p8 p9 : Addr} {x0 x1 x2 x3 x4 x5 x6 x7 x8 x9 : Value} (h : w.cell? p0 = some x0 ∧ w.cell? p1 = some x1 ∧ w.cell? p2 = some x2 ∧ w.cell? p3 = some x3 ∧ w.cell? p4 = some x4 ∧ w.cell? p5 = some x5 ∧ w.cell? p6 = some x6 ∧ w.cell? p7 = some x7 ∧ w.cell? p8 = some x8 ∧ w.cell? p9 = some x9) : w'.cell? p0 = some x0 ∧ w'.cell? p1 = some x1 ∧ w'.cell? p2 = some x2 ∧ w'.cell? p3 = some x3 ∧ w'.cell? p4 = some x4 ∧ w'.cell? p5 = some x5 ∧ w'.cell? p6 = some x6 ∧ w'.cell? p7 = some x7 ∧ w'.cell? p8 = some x8 ∧ w'.cell? p9 = some x9 := by
  obtain ⟨h0, h1, h2, h3, h4, h5, h6, h7, h8, h9⟩ := h
  have f : ∀ (p : Addr) (x : Value), w.cell? p = some x → w'.cell? p = some x := fun p x h => (hc.cell (World.block_lt_of_cell? w p h)).trans h
  exact ⟨f _ _ h0, f _ _ h1, f _ _ h2, f _ _ h3, f _ _ h4, f _ _ h5, f _ _ h6, f _ _ h7, f _ _ h8, f _ _ h9⟩
set_option maxRecDepth 100000 in
set_option maxHeartbeats 4000000 in
theorem same6_any (l1 l2 : List FV) (m m2 : Nat) (A1 A2 : Option Addr) (c1 c2 : Nat) (w : World) (hm : l1.length = m) (hm2 : l2.length = m2) (hl1 : SlN w A1 m c1 5 (l1.flatMap fvC)) (hl2 : SlN w A2 m2 c2 5 (l2.flatMap fvC))
    (hs1 : ∀ f ∈ l1, Sl w f.s.A f.s.c (f.s.xs.map bv)) (hs2 : ∀ f ∈ l2, Sl w f.s.A f.s.c (f.s.xs.map bv)) (hE : l1.map fvK = l2.map fvK) :
    Calls Try.prog 18 #[.slice A1 m c1, .slice A2 m2 c2] w fun e w' => e = .returned (.bool true) ∧ Below w.heap.size w w' := by
  have hcm : m ≤ 9223372036854775807 := by have g1 := hl1.cap; have g2 := hl1.small; omega
  have hcm2 : m2 ≤ 9223372036854775807 := by have g1 := hl2.cap; have g2 := hl2.small; omega
  obtain ⟨R, hR⟩ : ∃ R : Ending → World → Prop, R = fun e w' => e = .returned (.bool true) ∧ Below w.heap.size w w' := ⟨_, rfl⟩
  rw [← hR]
  have HR := hid hR
  have HM := hid hm
  have HM2 := hid hm2
  have HL1 := hid hl1
  have HL2 := hid hl2
  have HS1 := hid hs1
  have HS2 := hid hs2
  clear hR hm hm2 hl1 hl2 hs1 hs2
  have hne : m = m2 := by have h1 := congrArg List.length hE; simp only [List.length_map] at h1; have := HM.out; have := HM2.out; omega
  have HE := hid hE
  clear hE
  have _ : True := trivial
  · subst hne
    go_enter Try.func18, Try.ntmps18
    go_wp2_with fail
    go_loopw [5] (fun i wr => ∃ j : Nat, j ≤ m ∧ i = .int .i64 (j : Int) ∧ (l1.take j).map fvK = (l2.take j).map fvK ∧ Below w.heap.size w wr) (fun i _ => m - (intOf i).toNat)
    case atStart => exact ⟨0, by omega, rfl, rfl, Below.refl _ _⟩
    case round =>
      obtain ⟨j, hj, rfl, heq, hB⟩ := hrel
      have HEQ := hid heq
      clear heq
      by_cases hlt : j < m
      · have hjl : j < l1.length := by have := HM.out; omega
        have hjl2 : j < l2.length := by have := HM2.out; omega
        have ha0 : (l1.flatMap fvC)[j * 5 + 0]? = _ := flatMap_get fvC 5 l1 j 0 hjl (fun _ _ => rfl) (by omega)
        have ha1 : (l1.flatMap fvC)[j * 5 + 1]? = _ := flatMap_get fvC 5 l1 j 1 hjl (fun _ _ => rfl) (by omega)
        have ha2 : (l1.flatMap fvC)[j * 5 + 2]? = _ := flatMap_get fvC 5 l1 j 2 hjl (fun _ _ => rfl) (by omega)
        have ha3 : (l1.flatMap fvC)[j * 5 + 3]? = _ := flatMap_get fvC 5 l1 j 3 hjl (fun _ _ => rfl) (by omega)
        have ha4 : (l1.flatMap fvC)[j * 5 + 4]? = _ := flatMap_get fvC 5 l1 j 4 hjl (fun _ _ => rfl) (by omega)
        have hb0 : (l2.flatMap fvC)[j * 5 + 0]? = _ := flatMap_get fvC 5 l2 j 0 hjl2 (fun _ _ => rfl) (by omega)
        have hb1 : (l2.flatMap fvC)[j * 5 + 1]? = _ := flatMap_get fvC 5 l2 j 1 hjl2 (fun _ _ => rfl) (by omega)
        have hb2 : (l2.flatMap fvC)[j * 5 + 2]? = _ := flatMap_get fvC 5 l2 j 2 hjl2 (fun _ _ => rfl) (by omega)
        have hb3 : (l2.flatMap fvC)[j * 5 + 3]? = _ := flatMap_get fvC 5 l2 j 3 hjl2 (fun _ _ => rfl) (by omega)
        have hb4 : (l2.flatMap fvC)[j * 5 + 4]? = _ := flatMap_get fvC 5 l2 j 4 hjl2 (fun _ _ => rfl) (by omega)
        have hsf := HS1.out l1[j] (List.getElem_mem hjl)
        have hsg := HS2.out l2[j] (List.getElem_mem hjl2)
        have hlk := fun W (hW : Below w.heap.size w W) => like_any l1[j] l2[j] W (hsf.below hW) (hsg.below hW)
        have hk := likeK l1[j] l2[j]
        have htk : (l1.take (j + 1)).map fvK = (l1.take j).map fvK ++ [fvK l1[j]] := by rw [List.take_succ_eq_append_getElem hjl, List.map_append]; rfl
        have htk2 : (l2.take (j + 1)).map fvK = (l2.take j).map fvK ++ [fvK l2[j]] := by rw [List.take_succ_eq_append_getElem hjl2, List.map_append]; rfl
        have hkk : fvK l1[j] = fvK l2[j] := by
          have e1 : (l1.map fvK)[j]? = some (fvK l1[j]) := by simp [List.getElem?_eq_getElem hjl]
          have e2 : (l2.map fvK)[j]? = some (fvK l2[j]) := by simp [List.getElem?_eq_getElem hjl2]
          rw [HE.out, e2] at e1
          exact (Option.some.inj e1).symm
        obtain ⟨b, off, rfl, hbl, t0⟩ := HL1.out.rd _ _ ha0
        have t1 := HL1.out.rd.addr _ _ ha1
        have t2 := HL1.out.rd.addr _ _ ha2
        have t3 := HL1.out.rd.addr _ _ ha3
        have t4 := HL1.out.rd.addr _ _ ha4
        obtain ⟨d, of2, rfl, hdl, u0⟩ := HL2.out.rd _ _ hb0
        have u1 := HL2.out.rd.addr _ _ hb1
        have u2 := HL2.out.rd.addr _ _ hb2
        have u3 := HL2.out.rd.addr _ _ hb3
        have u4 := HL2.out.rd.addr _ _ hb4
        rw [addr_add] at t1 t2 t3 t4 u1 u2 u3 u4
        simp only [Nat.add_zero, ← Nat.add_assoc] at t0 t1 t2 t3 t4 u0 u1 u2 u3 u4
        replace t0 := (hB.cell (p := ⟨b, off + j * 5, none⟩) hbl).trans t0
        replace t1 := (hB.cell (p := ⟨b, off + j * 5 + 1, none⟩) hbl).trans t1
        replace t2 := (hB.cell (p := ⟨b, off + j * 5 + 2, none⟩) hbl).trans t2
        replace t3 := (hB.cell (p := ⟨b, off + j * 5 + 3, none⟩) hbl).trans t3
        replace t4 := (hB.cell (p := ⟨b, off + j * 5 + 4, none⟩) hbl).trans t4
        replace u0 := (hB.cell (p := ⟨d, of2 + j * 5, none⟩) hdl).trans u0
        replace u1 := (hB.cell (p := ⟨d, of2 + j * 5 + 1, none⟩) hdl).trans u1
        replace u2 := (hB.cell (p := ⟨d, of2 + j * 5 + 2, none⟩) hdl).trans u2
        replace u3 := (hB.cell (p := ⟨d, of2 + j * 5 + 3, none⟩) hdl).trans u3
        replace u4 := (hB.cell (p := ⟨d, of2 + j * 5 + 4, none⟩) hdl).trans u4
        have hji : (j : Int) < (m : Int) := by omega
        have hj0 : (0 : Int) ≤ (j : Int) := by omega
        clear ha0 ha1 ha2 ha3 ha4 hb0 hb1 hb2 hb3 hb4 hsf hsg
        generalize l1[j] = f at *
        generalize l2[j] = g at *
        generalize hlb : likeB f g = lb at *
        obtain ⟨fnum, fw, fn_, ⟨fA, fc, fxs⟩, fat⟩ := f
        obtain ⟨gnum, gw, gn_, ⟨gA, gc, gxs⟩, gat⟩ := g
        generalize hfk : fvK ⟨fnum, fw, fn_, ⟨fA, fc, fxs⟩, fat⟩ = fk at *
        generalize hgk : fvK ⟨gnum, gw, gn_, ⟨gA, gc, gxs⟩, gat⟩ = gk at *
        generalize hxl : fxs.length = xl at *
        generalize hyl : gxs.length = yl at *
        simp only [fvC, hxl, hyl] at t0 t1 t2 t3 t4 u0 u1 u2 u3 u4 hlk hk
        have HLK := hid hlk
        have HK := hid hk
        have HTK := hid htk
        have HTK2 := hid htk2
        have HBB := hid hB
        clear hlk hk htk htk2 hB hlb hfk hgk hxl hyl
        have HT := hid (And.intro t0 (And.intro t1 (And.intro t2 (And.intro t3 (And.intro t4 (And.intro u0 (And.intro u1 (And.intro u2 (And.intro u3 u4)))))))))
        clear t0 t1 t2 t3 t4 u0 u1 u2 u3 u4
        · obtain ⟨rfl, hat⟩ := HK.out.2 hkk
          have hat : fat = gat := hat
          subst hat
          go_wp2_with fail
          go_region_held3 (fun w' => w'.cell? ⟨b, off + j * 5, none⟩ = some (.int .i64 fnum) ∧ w'.cell? ⟨b, off + j * 5 + 1, none⟩ = some (.int .u8 fw) ∧ w'.cell? ⟨b, off + j * 5 + 2, none⟩ = some (.int .u64 (fn_ : Int)) ∧ w'.cell? ⟨b, off + j * 5 + 3, none⟩ = some (.slice fA xl fc) ∧ w'.cell? ⟨b, off + j * 5 + 4, none⟩ = some (.int .i64 fat) ∧ w'.cell? ⟨d, of2 + j * 5, none⟩ = some (.int .i64 gnum) ∧ w'.cell? ⟨d, of2 + j * 5 + 1, none⟩ = some (.int .u8 gw) ∧ w'.cell? ⟨d, of2 + j * 5 + 2, none⟩ = some (.int .u64 (gn_ : Int)) ∧ w'.cell? ⟨d, of2 + j * 5 + 3, none⟩ = some (.slice gA yl gc) ∧ w'.cell? ⟨d, of2 + j * 5 + 4, none⟩ = some (.int .i64 fat)) (first | exact HT2.out | exact HT.out | go_keep) (first | (go_at_call 42; refine (HLK.out _ (bw_d HBB.out 1)).mono ?_; rintro e w2 ⟨rfl, hb2⟩; have HT2 := hid (held10 (w := wr.drewN 1) hb2 HT.out)))
          go_wp2_with fail
          go_roundw
          case rel => exact ⟨j + 1, by omega, by go_num, by rw [HTK.out, HTK2.out, HEQ.out, hkk], bw_t HBB.out (bw_t (bw_d (Below.refl _ wr) 1) hb2)⟩
          case measure => simp [intOf] <;> omega
      · obtain rfl : j = m := by omega
        go_wp2_with fail
        rw [HR.out]
        exact ⟨rfl, hB⟩
end Go.Proofs.Ytmcebepfoleknaa
