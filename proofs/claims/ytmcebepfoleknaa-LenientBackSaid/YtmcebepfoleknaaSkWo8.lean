/- skip.Without of fields with long bytes. -/
import Derived.Test.YtmcebepfoleknaaSk3
set_option linter.unusedVariables false
namespace Go.Proofs.Ytmcebepfoleknaa
open Go.RowKit
set_option maxRecDepth 100000 in
set_option maxHeartbeats 4000000 in
theorem chosen8_any (l : List FV) (m : Nat) (A : Option Addr) (c : Nat) (w : World) (F : FuncId) (p : Nat) (P : FV → Bool) (hm : l.length = m) (hm2 : m ≤ 2000) (hl : SlN w A m c 5 (l.flatMap fvC)) (hok : ∀ f ∈ l, FvOk w f) (hx : ∀ f ∈ l, f.s.xs.length ≤ 8200)
    (he : ∀ args W, (callFunc F args).run Try.prog W = .ok (.enter F args) W) (hF : ∀ W f, Below w.heap.size w W → Calls Try.prog F #[.agg (fvC f).toArray, .pointer (some ⟨p, 0, none⟩)] W fun e W' => e = .returned (.bool (P f)) ∧ Below W.heap.size W W') :
    Calls Try.prog 62 #[.slice A m c, .func (.func F) #[] #[.pointer (some ⟨p, 0, none⟩)]] w fun e w' => ∃ (v : Value) (fs : List FV), e = .returned v ∧ w'.ownsRow w.heap.size 44 5 v fs.length (fs.flatMap fvC) ∧ fs.map fvK = (l.filter P).map fvK ∧ (∀ f ∈ fs, FvOwn w.heap.size w' f) ∧ Below w.heap.size w w' := by
  have hcm : m ≤ 9223372036854775807 := by omega
  obtain ⟨i5, hi5, hi50, hi51, hi52⟩ := info_parts Try.infoField
  have HM := hid hm
  have HL := hid hl
  have HOK := hid hok
  have HX := hid hx
  have HF := hid hF
  clear hm hl hok hx hF
  go_enter Try.func62, Try.ntmps62
  go_wp2_with fail
  go_loopw [5, 10] (fun v i wr => ∃ (j : Nat) (fs : List FV), j ≤ m ∧ i = .int .i64 (j : Int) ∧ fs.length ≤ j ∧ wr.ownsRow w.heap.size 44 5 v fs.length (fs.flatMap fvC) ∧ fs.map fvK = ((l.take j).filter P).map fvK ∧ (∀ f ∈ fs, FvOwn w.heap.size wr f) ∧ Below w.heap.size w wr) (fun _ i _ => m - (intOf i).toNat)
  case atStart => exact ⟨0, [], by omega, rfl, by simp, World.ownsRow_nil _ _ _ _, rfl, by simp, Below.refl _ _⟩
  case round =>
    obtain ⟨j, fs, hj, rfl, hfj, ho, hfs, hown, hB⟩ := hrel
    by_cases hlt : j < m
    · have hjl : j < l.length := by have := HM.out; omega
      have hn0 : (l.flatMap fvC)[j * 5 + 0]? = _ := flatMap_get fvC 5 l j 0 hjl (fun _ _ => rfl) (by omega)
      have hn1 : (l.flatMap fvC)[j * 5 + 1]? = _ := flatMap_get fvC 5 l j 1 hjl (fun _ _ => rfl) (by omega)
      have hn2 : (l.flatMap fvC)[j * 5 + 2]? = _ := flatMap_get fvC 5 l j 2 hjl (fun _ _ => rfl) (by omega)
      have hn3 : (l.flatMap fvC)[j * 5 + 3]? = _ := flatMap_get fvC 5 l j 3 hjl (fun _ _ => rfl) (by omega)
      have hn4 : (l.flatMap fvC)[j * 5 + 4]? = _ := flatMap_get fvC 5 l j 4 hjl (fun _ _ => rfl) (by omega)
      have hoka := HOK.out l[j] (List.getElem_mem hjl)
      have hxa := HX.out l[j] (List.getElem_mem hjl)
      have htk : l.take (j + 1) = l.take j ++ [l[j]] := (List.take_append_getElem hjl).symm
      obtain ⟨b, off, rfl, hbw, t0⟩ := HL.out.rd _ _ hn0
      have u1 := HL.out.rd.addr _ _ hn1
      have u2 := HL.out.rd.addr _ _ hn2
      have u3 := HL.out.rd.addr _ _ hn3
      have u4 := HL.out.rd.addr _ _ hn4
      rw [addr_add] at u1 u2 u3 u4
      simp only [Nat.add_zero, ← Nat.add_assoc] at t0 u1 u2 u3 u4
      have t0 := (hB.cell (p := ⟨b, off + j * 5, none⟩) hbw).trans t0
      have t1 := (hB.cell (p := ⟨b, off + j * 5 + 1, none⟩) hbw).trans u1
      have t2 := (hB.cell (p := ⟨b, off + j * 5 + 2, none⟩) hbw).trans u2
      have t3 := (hB.cell (p := ⟨b, off + j * 5 + 3, none⟩) hbw).trans u3
      have t4 := (hB.cell (p := ⟨b, off + j * 5 + 4, none⟩) hbw).trans u4
      have hji : (j : Int) < (m : Int) := by omega
      have hj0 : (0 : Int) ≤ (j : Int) := by omega
      clear hn0 hn1 hn2 hn3 hn4 u1 u2 u3 u4
      generalize l[j] = f at *
      have hcf := fun W (hW : Below w.heap.size w W) => HF.out W f hW
      have hco := fun W (hW : Below wr.heap.size wr W) => sown_any f f.s.xs.length W rfl (by omega) (hoka.s.below (hB.trans (hW.mono hB.size)))
      obtain ⟨pf, hpf⟩ : ∃ pf, P f = pf := ⟨_, rfl⟩
      rw [hpf] at hcf
      obtain ⟨fnum, fw, fn_, ⟨fA, fc, fxs⟩, fat⟩ := f
      obtain ⟨xl, hxl⟩ : ∃ xl, fxs.length = xl := ⟨_, rfl⟩
      simp only [fvC, hxl] at t0 t1 t2 t3 t4 hxa hcf hco
      have HCF := hid hcf
      have HCO := hid hco
      have HTK := hid htk
      have HHB := hid hB
      have HO := hid ho
      have HFS := hid hfs
      have HOWN := hid hown
      have HPF := hid hpf
      have hb1 := bw_a (Below.refl wr.heap.size wr) (.cells #[.int .i64 fnum, .int .u8 fw, .int .u64 (fn_ : Int), .slice fA xl fc, .int .i64 fat] 44)
      have hk1 := Blk.new wr 44 #[.int .i64 fnum, .int .u8 fw, .int .u64 (fn_ : Int), .slice fA xl fc, .int .i64 fat]
      clear hcf hco htk hB ho hfs hown hpf hoka
      go_wp2_with fail
      refine (HCF.out _ (bw_t HHB.out hb1)).mono ?_
      rintro e w2 ⟨rfl, hb2⟩
      have hb12 := bw_t hb1 hb2
      have hk2 := hk1.below hb2 hk1.lt
      have d0 := hk2.cell 0
      have d1 := hk2.cell 1
      have d2 := hk2.cell 2
      have d3 := hk2.cell 3
      have d4 := hk2.cell 4
      simp only [List.getElem?_toArray, List.getElem?_cons_zero, List.getElem?_cons_succ] at d0 d1 d2 d3 d4
      have HB12 := hid hb12
      clear hb1 hb2 hk1 hk2 hb12 t0 t1 t2 t3 t4
      cases pf with
      | false =>
        go_wp2_with fail
        go_roundw
        case rel => exact ⟨j + 1, fs, by omega, by go_num, by omega, own_below HO.out HB12.out, by rw [HTK.out, List.filter_append, HFS.out]; simp [HPF.out], fun f hf => own_below (HOWN.out f hf) HB12.out, bw_t HHB.out HB12.out⟩
        case measure => simp [intOf] <;> omega
      | true =>
        go_wp2_with (first | (go_at_call 91; refine (HCO.out _ HB12.out).mono ?_; rintro e w3 ⟨A', c', rfl, ho3, hb3⟩; have HO3 := hid ho3; have HB3 := hid (bw_t HB12.out hb3); clear ho3 hb3) | (at_builtin; refine wpList_append_rd rfl _ _ 36 rfl w.heap.size 44 i5 (.agg #[.int .i64 0, .int .u8 0, .int .u64 0, .slice none 0 0, .int .i64 0]) 5 56 Try.underlying36 hi5 hi50 hi51 hi52 rfl (by decide) _ fs.length (fs.flatMap fvC) rfl ((own_below HO.out HB3.out).alloc _) (some ⟨w3.heap.size, 0, none⟩) 1 1 [.int .i64 fnum, .int .u8 fw, .int .u64 (fn_ : Int), .slice A' xl c', .int .i64 fat] rfl rfl (Rd.new w3 44 #[.int .i64 fnum, .int .u8 fw, .int .u64 (fn_ : Int), .slice A' xl c', .int .i64 fat]) (fun h => by cases h) (by simp [Value.oneCell']) (by simp only [maxLen]; omega) (by omega) (by have := (bw_t HHB.out HB3.out).size; simp; omega) ?_; intro v4 w4 hown4 hgrow; have HO4 := hid hown4; have HG4 := hid hgrow; clear hown4 hgrow))
        have hrow3 := (own_below HO.out HB3.out).alloc (.cells #[.int .i64 fnum, .int .u8 fw, .int .u64 (fn_ : Int), .slice A' xl c', .int .i64 fat] 44)
        have hbw3 := (bw_t HHB.out HB3.out)
        go_roundw
        case rel =>
          refine ⟨j + 1, fs ++ [⟨fnum, fw, fn_, ⟨A', c', fxs⟩, fat⟩], by omega, by go_num, by simp; omega, ?_, ?_, ?_, bw_g (bw_a hbw3 _) HG4.out (fun k ek => (hrow3.lt k ek).1)⟩
          · rw [List.length_append, List.flatMap_append]
            simpa [fvC, hxl] using HO4.out
          · rw [HTK.out, List.filter_append, List.map_append, List.map_append, HFS.out]; simp [HPF.out, fvK]
          · intro f hf
            rcases List.mem_append.1 hf with hf | hf
            · have h := (own_below (HOWN.out f hf) HB3.out).alloc (.cells #[.int .i64 fnum, .int .u8 fw, .int .u64 (fn_ : Int), .slice A' xl c', .int .i64 fat] 44)
              exact h.kept HG4.out (own_two h hrow3 (by decide))
            · obtain rfl := List.mem_singleton.1 hf
              have h := (own_mono HO3.out (base' := w.heap.size) (by have := HHB.out.size; have := HB12.out.size; omega)).alloc (.cells #[.int .i64 fnum, .int .u8 fw, .int .u64 (fn_ : Int), .slice A' xl c', .int .i64 fat] 44)
              have h2 := h.kept HG4.out (own_two h hrow3 (by decide))
              unfold FvOwn
              simpa [hxl] using h2
        case measure => simp [intOf] <;> omega
    · obtain rfl : j = m := by omega
      go_wp2
      go_ret
      have hlj : l.length = j := HM.out
      rw [List.take_of_length_le (by omega)] at hfs
      exact ⟨_, fs, rfl, ho, hfs, hown, hB⟩
set_option maxRecDepth 100000 in
set_option maxHeartbeats 2000000 in
theorem swo8_any (l : List FV) (m : Nat) (A : Option Addr) (c : Nat) (num : Int) (w : World) (hm : l.length = m) (hm2 : m ≤ 2000) (hl : SlN w A m c 5 (l.flatMap fvC)) (hok : ∀ f ∈ l, FvOk w f) (hx : ∀ f ∈ l, f.s.xs.length ≤ 8200) :
    Calls Try.prog 35 #[.slice A m c, .int .i64 num] w (Chosen w.heap.size ((l.filter fun f => decide (¬ f.num = num)).map fvK) w) := by
  have hmf := func_run (P := Try.prog)
  have hb1 := bw_a (Below.refl w.heap.size w) (.cells #[.int .i64 num] 3)
  have hc1 : (w.alloc (.cells #[.int .i64 num] 3)).cell? ⟨w.heap.size, 0, none⟩ = some (.int .i64 num) := (Blk.new w 3 #[.int .i64 num]).cell 0
  have hch := chosen8_any l m A c (w.alloc (.cells #[.int .i64 num] 3)) 63 w.heap.size (fun f => decide (¬ f.num = num)) hm hm2 (hl.below hb1) (fun f hf => (hok f hf).below hb1) hx (fun args W => by kernel_rfl)
    (fun W f hW => wo1_any W w.heap.size num f ((hW.cell (p := ⟨w.heap.size, 0, none⟩) (by simp)).trans hc1))
  have HCH := hid hch
  have HB := hid hb1
  clear hch hl hok hx hb1 hc1
  go_enter Try.func35, Try.ntmps35
  go_wp2_with fail
  refine HCH.out.mono ?_
  rintro e w2 ⟨v, fs, rfl, ho, hfs, hown, hb⟩
  go_wp2_with fail
  go_ret
  exact ⟨v, fs, rfl, own_mono ho (by simp), hfs, fun f hf => own_mono (hown f hf) (by simp), bw_t HB.out hb⟩
end Go.Proofs.Ytmcebepfoleknaa
