/- SkipChooses: the law's walk. -/
import Derived.Test.YtfbmdeegcoocnaaSame6
import Derived.Test.YtfbmdeegcoocnaaM1
set_option linter.unusedVariables false
namespace Go.Proofs.Ytfbmdeegcoocnaa
open Go.RowKit
def fv0 : FV := ⟨0, 0, 0, ⟨none, 0, []⟩, 0⟩
/-- The last field so far, as it lies in its box. -/
def lastC (l : List FV) (num x : Int) : FV := (lastK l num x).getD fv0
theorem lastK_snoc_hit (l : List FV) (f : FV) (num x : Int) (h1 : f.num = num) (h2 : f.w = x) : lastK (l ++ [f]) num x = some f := by
  unfold lastK; rw [List.filter_append, List.filter_cons_of_pos (by simp [h1, h2])]; simp
theorem lastK_snoc_miss (l : List FV) (f : FV) (num x : Int) (h : ¬ (f.num = num ∧ f.w = x)) : lastK (l ++ [f]) num x = lastK l num x := by
  unfold lastK; rw [List.filter_append, List.filter_cons_of_neg (by simpa using h)]; simp
theorem FvOwn.sl {B : Nat} {w : World} {f : FV} (h : FvOwn B w f) : Sl w f.s.A f.s.c (f.s.xs.map bv) := by
  obtain ⟨A', c', he, -, hs⟩ := Sl.of_own h
  injection he with e1 e2 e3
  subst e1 e3
  exact hs
theorem slast_w {l : List FV} {num x : Int} {w w' : World} {e : Ending} (h : ((∃ f A' c', lastK l num x = some f ∧ e = .returned (.tuple #[.agg (fvC ⟨f.num, f.w, f.n, ⟨A', c', f.s.xs⟩, f.at_⟩).toArray, .bool true]) ∧ FvOwn w.heap.size w' ⟨f.num, f.w, f.n, ⟨A', c', f.s.xs⟩, f.at_⟩) ∨
      (lastK l num x = none ∧ e = .returned (.tuple #[.agg #[.int .i64 0, .int .u8 0, .int .u64 0, .slice none 0 0, .int .i64 0], .bool false]))) ∧ Below w.heap.size w w') :
    ∃ g : FV, e = .returned (.tuple #[.agg (fvC g).toArray, .bool (lastK l num x).isSome]) ∧ fvK g = fvK (lastC l num x) ∧ Sl w' g.s.A g.s.c (g.s.xs.map bv) ∧ Below w.heap.size w w' := by
  obtain ⟨⟨f, A', c', hf, rfl, ho⟩ | ⟨hf, rfl⟩, hb⟩ := h
  · exact ⟨_, by rw [hf]; rfl, by unfold lastC; rw [hf]; rfl, ho.sl, hb⟩
  · exact ⟨fv0, by rw [hf]; rfl, by unfold lastC; rw [hf]; rfl, Sl.nil_ _, hb⟩
theorem apart_symm {a b : Option Nat} (h : a = none ∨ a ≠ b) : b = none ∨ b ≠ a := by
  rcases h with h | h
  · cases b with
    | none => exact .inl rfl
    | some g => exact .inr (by rw [h]; simp)
  · exact .inr (Ne.symm h)
set_option maxRecDepth 100000 in
set_option maxHeartbeats 4000000 in
theorem chooses_any (l : List FV) (m : Nat) (A : Option Addr) (c : Nat) (num x : Int) (w : World) (hx0 : 0 ≤ x) (hx1 : x ≤ 255) (hn1 : -9223372036854775808 ≤ num) (hn2 : num ≤ 9223372036854775807) (hm : l.length = m) (hl : SlN w A m c 5 (l.flatMap fvC)) (hok : ∀ f ∈ l, FvOk w f) :
    Calls Try.prog 7 #[.slice A m c, .int .i64 num, .int .u8 x] w fun e w' => e = .returned (.bool true) ∧ Below w.heap.size w w' := by
  have hcm : m ≤ 9223372036854775807 := by have g1 := hl.cap; have g2 := hl.small; omega
  obtain ⟨i5, hi5, hi50, hi51, hi52⟩ := info_parts Try.infoField
  have hfw := fun W (hW : Below w.heap.size w W) => few_any l m A c W hm (hl.below hW) (fun a ha => by have h1 := (hok a ha).s.cap; have h2 := (hok a ha).s.small; rw [List.length_map] at h1; omega)
  have hff := fun h => fewB_facts (l := l) h
  generalize fewB l = sm at *
  have HFW := hid hfw
  have HFF := hid hff
  have HM := hid hm
  have HL := hid hl
  have HOK := hid hok
  clear hfw hff hm hl hok
  cases sm with
  | false =>
    go_enter Try.func7, Try.ntmps7
    go_wp2_with fail
    refine (live6_any _).mono ?_
    rintro e w1 ⟨rfl, hb1⟩
    go_wp2_with fail
    refine (HFW.out _ hb1).mono ?_
    rintro e w2 ⟨rfl, k, rfl⟩
    go_wp2_with fail
    go_ret
    exact ⟨rfl, bw_d hb1 k⟩
  | true =>
    obtain ⟨hm40, h1000⟩ := HFF.out rfl
    have H1000 := hid h1000
    clear h1000 HFF
    go_enter Try.func7, Try.ntmps7
    go_wp2_with fail
    refine (live6_any _).mono ?_
    rintro e w1 ⟨rfl, hb1⟩
    go_wp2_with fail
    refine (HFW.out _ hb1).mono ?_
    rintro e w2 ⟨rfl, k, rfl⟩
    have hb2 := bw_d hb1 k
    generalize w1.drewN k = w2 at *
    clear hb1
    go_wp2_with fail
    have hk0 := Blk.new w2 39 #[.int .i64 0, .int .u8 0, .int .u64 0, .slice none 0 0, .int .i64 0]
    have hb3 := bw_a hb2 (.cells #[.int .i64 0, .int .u8 0, .int .u64 0, .slice none 0 0, .int .i64 0] 39)
    have hzz : w.heap.size ≤ w2.heap.size := hb2.size
    generalize hz : w2.heap.size = z at *
    go_loopw [7, 8, 10, 11] (fun v u fl i wr => ∃ (j : Nat), j ≤ m ∧ i = .int .i64 (j : Int) ∧ fl = .bool (lastK (l.take j) num x).isSome ∧
      wr.ownsRow (z + 1) 39 5 v ((l.take j).filter fun f => decide (f.num = num)).length (((l.take j).filter fun f => decide (f.num = num)).flatMap fvC) ∧
      wr.ownsRow (z + 1) 39 5 u ((l.take j).filter fun f => decide (¬ f.num = num)).length (((l.take j).filter fun f => decide (¬ f.num = num)).flatMap fvC) ∧
      (v.ownBlock = none ∨ v.ownBlock ≠ u.ownBlock) ∧ Blk wr z 39 (fvC (lastC (l.take j) num x)).toArray ∧ Below w.heap.size w wr) (fun _ _ _ i _ => m - (intOf i).toNat)
    case atStart => exact ⟨0, by omega, rfl, rfl, World.ownsRow_nil _ _ _ _, World.ownsRow_nil _ _ _ _, .inl rfl, hk0, hb3⟩
    case round =>
      obtain ⟨j, hj, rfl, rfl, ho, hu, hap, hk, hB⟩ := hrel
      have hlo : ((l.take j).filter fun f => decide (f.num = num)).length ≤ 40 := Nat.le_trans (List.length_filter_le _ _) (by rw [List.length_take]; omega)
      have hlu : ((l.take j).filter fun f => decide (¬ f.num = num)).length ≤ 40 := Nat.le_trans (List.length_filter_le _ _) (by rw [List.length_take]; omega)
      by_cases hlt : j < m
      · have hjl : j < l.length := by have := HM.out; omega
        have hn0 : (l.flatMap fvC)[j * 5 + 0]? = _ := flatMap_get fvC 5 l j 0 hjl (fun _ _ => rfl) (by omega)
        have hn1 : (l.flatMap fvC)[j * 5 + 1]? = _ := flatMap_get fvC 5 l j 1 hjl (fun _ _ => rfl) (by omega)
        have hn2 : (l.flatMap fvC)[j * 5 + 2]? = _ := flatMap_get fvC 5 l j 2 hjl (fun _ _ => rfl) (by omega)
        have hn3 : (l.flatMap fvC)[j * 5 + 3]? = _ := flatMap_get fvC 5 l j 3 hjl (fun _ _ => rfl) (by omega)
        have hn4 : (l.flatMap fvC)[j * 5 + 4]? = _ := flatMap_get fvC 5 l j 4 hjl (fun _ _ => rfl) (by omega)
        have htk : l.take (j + 1) = l.take j ++ [l[j]] := (List.take_append_getElem hjl).symm
        obtain ⟨b, off, rfl, hbw, t0⟩ := HL.out.rd _ _ hn0
        have u1 := HL.out.rd.addr _ _ hn1
        have u2 := HL.out.rd.addr _ _ hn2
        have u3 := HL.out.rd.addr _ _ hn3
        have u4 := HL.out.rd.addr _ _ hn4
        rw [addr_add] at u1 u2 u3 u4
        simp only [Nat.add_zero, ← Nat.add_assoc] at t0 u1 u2 u3 u4
        have t0 := (hB.cell (p := ⟨b, off + j * 5, none⟩) hbw).trans t0
        have t1 := (hB.cell (p := ⟨b, off + j * 5 + 1, none⟩) hbw).trans u1
        have t2 := (hB.cell (p := ⟨b, off + j * 5 + 2, none⟩) hbw).trans u2
        have t3 := (hB.cell (p := ⟨b, off + j * 5 + 3, none⟩) hbw).trans u3
        have t4 := (hB.cell (p := ⟨b, off + j * 5 + 4, none⟩) hbw).trans u4
        have hbl3 : b < wr.heap.size := Nat.lt_of_lt_of_le hbw hB.size
        have hji : (j : Int) < (m : Int) := by omega
        have hj0 : (0 : Int) ≤ (j : Int) := by omega
        clear hn0 hn1 hn2 hn3 hn4 u1 u2 u3 u4
        have hls := lastK_snoc_hit (l.take j) l[j] num x
        have hlm := lastK_snoc_miss (l.take j) l[j] num x
        generalize l[j] = f at *
        generalize hlc : lastC (l.take j) num x = lc at *
        obtain ⟨fnum, fw, fn_, ⟨fA, fc, fxs⟩, fat⟩ := f
        obtain ⟨cnum, cw, cn_, ⟨cA, cc, cxs⟩, cat⟩ := lc
        obtain ⟨xl, hxl⟩ : ∃ xl, fxs.length = xl := ⟨_, rfl⟩
        simp only [hxl] at t0 t1 t2 t3 t4
        have HTK := hid htk
        have HO := hid ho
        have HU := hid hu
        have HAP := hid hap
        have HK := hid hk
        have HHB := hid hB
        have HLS := hid hls
        have HLM := hid hlm
        have HLC := hid hlc
        clear htk ho hu hap hk hB hls hlm hlc
        generalize hO : ((l.take j).filter fun f => decide (f.num = num)) = O at *
        generalize hU : ((l.take j).filter fun f => decide (¬ f.num = num)) = U at *
        have HQO := hid hO
        have HQU := hid hU
        clear hO hU
        by_cases h1 : fnum = num
        · subst h1
          by_cases h2 : fw = x
          · subst h2
            go_wp2_with (at_builtin; refine wpList_append_new rfl _ _ 24 rfl (z + 1) 39 i5 (.agg #[.int .i64 0, .int .u8 0, .int .u64 0, .slice none 0 0, .int .i64 0]) 5 56 Try.underlying24 hi5 hi50 hi51 hi52 rfl (by decide) _ _ _ rfl (HO.out.alloc _) ⟨wr.heap.size, 0, none⟩ 1 1 [.int .i64 fnum, .int .u8 fw, .int .u64 (fn_ : Int), .slice fA xl fc, .int .i64 fat] rfl rfl (Rd.new wr 39 #[.int .i64 fnum, .int .u8 fw, .int .u64 (fn_ : Int), .slice fA xl fc, .int .i64 fat]) (by simp [Value.oneCell']) (by simp only [maxLen]; omega) (by omega) (by have := HK.out.lt; simp; omega) ?_; intro v4 w4 ho4 hg4 hnew4; have hch4 : Chg (fun k => z + 1 ≤ k) wr w4 := ((Chg.refl _ wr).alloc _).trans (Chg.of_grown hg4 fun g e => (HO.out.lt g e).1); have fc4 : ∀ o q, wr.cell? ⟨b, o, none⟩ = some q → w4.cell? ⟨b, o, none⟩ = some q := (fun o q h => (World.cell?_of_block (a := ⟨b, o, none⟩) (hch4.block b hbl3 (by omega))).trans h); have s0 := fc4 _ _ t0; have s1 := fc4 _ _ t1; have s2 := fc4 _ _ t2; have s3 := fc4 _ _ t3; have s4 := fc4 _ _ t4; have hk4 := hch4.blk HK.out (by omega); have y0 := hk4.cell 0; have y1 := hk4.cell 1; have y2 := hk4.cell 2; have y3 := hk4.cell 3; have y4 := hk4.cell 4; have x0 := hk4.frozen 0; have x1 := hk4.frozen 1; have x2 := hk4.frozen 2; have x3 := hk4.frozen 3; have x4 := hk4.frozen 4; simp only [fvC, List.getElem?_toArray, List.getElem?_cons_zero, List.getElem?_cons_succ] at y0 y1 y2 y3 y4; have HO4 := hid ho4; have HG4 := hid hg4; have HN4 := hid hnew4; have HC4 := hid hch4; have HK4 := hid hk4; clear ho4 hg4 hnew4 hch4 hk4 fc4)
            go_roundw
            case measure => simp [intOf] <;> omega
            case rel =>
              obtain ⟨hf, hch⟩ := set5 HK4.out (.int .i64 fnum) (.int .u8 fw) (.int .u64 (fn_ : Int)) (.slice fA xl fc) (.int .i64 fat)
              refine ⟨j + 1, by omega, by go_num, by rw [HTK.out, HLS.out rfl rfl]; rfl, ?_, ?_, HN4.out.apart HAP.out (fun g e => by have := (HU.out.lt g e).2; simp; omega), ?_, (HHB.out.trans (HC4.out.below (B := w.heap.size) (fun k hk => by omega) HHB.out.size)).trans (hch.below (B := w.heap.size) (fun k hk => by omega) (Nat.le_trans HHB.out.size HC4.out.size))⟩
              · have h3 := own_chgS HO4.out hch fun g hg hk => by have := (HO4.out.lt g hg).1; omega
                rw [HTK.out, List.filter_append, HQO.out, List.filter_cons_of_pos (by simp), List.filter_nil, List.length_append, List.flatMap_append]; simpa [fvC, hxl] using h3
              · have h3 := own_chgS ((HU.out.alloc (.cells #[.int .i64 fnum, .int .u8 fw, .int .u64 (fn_ : Int), .slice fA xl fc, .int .i64 fat] 39)).kept HG4.out (apart_symm HAP.out)) hch fun g hg hk => by have := (HU.out.lt g hg).1; omega
                rw [HTK.out, List.filter_append, HQU.out, List.filter_cons_of_neg (by simp), List.filter_nil, List.append_nil]; exact h3
              · have h : lastC (l.take (j + 1)) fnum fw = ⟨fnum, fw, fn_, ⟨fA, fc, fxs⟩, fat⟩ := by
                  unfold lastC
                  rw [HTK.out, HLS.out rfl rfl]; rfl
                rw [h]; simpa [fvC, hxl] using hf
          · have h2b : (fw == x) = false := by simpa using h2
            go_wp2_with (at_builtin; refine wpList_append_new rfl _ _ 24 rfl (z + 1) 39 i5 (.agg #[.int .i64 0, .int .u8 0, .int .u64 0, .slice none 0 0, .int .i64 0]) 5 56 Try.underlying24 hi5 hi50 hi51 hi52 rfl (by decide) _ _ _ rfl (HO.out.alloc _) ⟨wr.heap.size, 0, none⟩ 1 1 [.int .i64 fnum, .int .u8 fw, .int .u64 (fn_ : Int), .slice fA xl fc, .int .i64 fat] rfl rfl (Rd.new wr 39 #[.int .i64 fnum, .int .u8 fw, .int .u64 (fn_ : Int), .slice fA xl fc, .int .i64 fat]) (by simp [Value.oneCell']) (by simp only [maxLen]; omega) (by omega) (by have := HK.out.lt; simp; omega) ?_; intro v4 w4 ho4 hg4 hnew4; have hch4 : Chg (fun k => z + 1 ≤ k) wr w4 := ((Chg.refl _ wr).alloc _).trans (Chg.of_grown hg4 fun g e => (HO.out.lt g e).1); have fc4 : ∀ o q, wr.cell? ⟨b, o, none⟩ = some q → w4.cell? ⟨b, o, none⟩ = some q := (fun o q h => (World.cell?_of_block (a := ⟨b, o, none⟩) (hch4.block b hbl3 (by omega))).trans h); have s0 := fc4 _ _ t0; have s1 := fc4 _ _ t1; have s2 := fc4 _ _ t2; have s3 := fc4 _ _ t3; have s4 := fc4 _ _ t4; have hk4 := hch4.blk HK.out (by omega); have y0 := hk4.cell 0; have y1 := hk4.cell 1; have y2 := hk4.cell 2; have y3 := hk4.cell 3; have y4 := hk4.cell 4; have x0 := hk4.frozen 0; have x1 := hk4.frozen 1; have x2 := hk4.frozen 2; have x3 := hk4.frozen 3; have x4 := hk4.frozen 4; simp only [fvC, List.getElem?_toArray, List.getElem?_cons_zero, List.getElem?_cons_succ] at y0 y1 y2 y3 y4; have HO4 := hid ho4; have HG4 := hid hg4; have HN4 := hid hnew4; have HC4 := hid hch4; have HK4 := hid hk4; clear ho4 hg4 hnew4 hch4 hk4 fc4)
            go_roundw
            case measure => simp [intOf] <;> omega
            case rel =>
              refine ⟨j + 1, by omega, by go_num, by rw [HTK.out, HLM.out (fun h => h2 h.2)], ?_, ?_, HN4.out.apart HAP.out (fun g e => by have := (HU.out.lt g e).2; simp; omega), ?_, HHB.out.trans (HC4.out.below (B := w.heap.size) (fun k hk => by omega) HHB.out.size)⟩
              · rw [HTK.out, List.filter_append, HQO.out, List.filter_cons_of_pos (by simp), List.filter_nil, List.length_append, List.flatMap_append]; simpa [fvC, hxl] using HO4.out
              · rw [HTK.out, List.filter_append, HQU.out, List.filter_cons_of_neg (by simp), List.filter_nil, List.append_nil]; exact ((HU.out.alloc (.cells #[.int .i64 fnum, .int .u8 fw, .int .u64 (fn_ : Int), .slice fA xl fc, .int .i64 fat] 39)).kept HG4.out (apart_symm HAP.out))
              · have h : lastC (l.take (j + 1)) fnum x = ⟨cnum, cw, cn_, ⟨cA, cc, cxs⟩, cat⟩ := by
                  have h := HLC.out
                  unfold lastC at h ⊢
                  rw [HTK.out, HLM.out (fun h => h2 h.2)]; exact h
                rw [h]; exact HK4.out
        · have h1b : (fnum == num) = false := by simpa using h1
          go_wp2_with (at_builtin; refine wpList_append_new rfl _ _ 24 rfl (z + 1) 39 i5 (.agg #[.int .i64 0, .int .u8 0, .int .u64 0, .slice none 0 0, .int .i64 0]) 5 56 Try.underlying24 hi5 hi50 hi51 hi52 rfl (by decide) _ _ _ rfl (HU.out.alloc _) ⟨wr.heap.size, 0, none⟩ 1 1 [.int .i64 fnum, .int .u8 fw, .int .u64 (fn_ : Int), .slice fA xl fc, .int .i64 fat] rfl rfl (Rd.new wr 39 #[.int .i64 fnum, .int .u8 fw, .int .u64 (fn_ : Int), .slice fA xl fc, .int .i64 fat]) (by simp [Value.oneCell']) (by simp only [maxLen]; omega) (by omega) (by have := HK.out.lt; simp; omega) ?_; intro v4 w4 ho4 hg4 hnew4; have hch4 : Chg (fun k => z + 1 ≤ k) wr w4 := ((Chg.refl _ wr).alloc _).trans (Chg.of_grown hg4 fun g e => (HU.out.lt g e).1); have fc4 : ∀ o q, wr.cell? ⟨b, o, none⟩ = some q → w4.cell? ⟨b, o, none⟩ = some q := (fun o q h => (World.cell?_of_block (a := ⟨b, o, none⟩) (hch4.block b hbl3 (by omega))).trans h); have s0 := fc4 _ _ t0; have s1 := fc4 _ _ t1; have s2 := fc4 _ _ t2; have s3 := fc4 _ _ t3; have s4 := fc4 _ _ t4; have hk4 := hch4.blk HK.out (by omega); have y0 := hk4.cell 0; have y1 := hk4.cell 1; have y2 := hk4.cell 2; have y3 := hk4.cell 3; have y4 := hk4.cell 4; have x0 := hk4.frozen 0; have x1 := hk4.frozen 1; have x2 := hk4.frozen 2; have x3 := hk4.frozen 3; have x4 := hk4.frozen 4; simp only [fvC, List.getElem?_toArray, List.getElem?_cons_zero, List.getElem?_cons_succ] at y0 y1 y2 y3 y4; have HO4 := hid ho4; have HG4 := hid hg4; have HN4 := hid hnew4; have HC4 := hid hch4; have HK4 := hid hk4; clear ho4 hg4 hnew4 hch4 hk4 fc4)
          go_roundw
          case measure => simp [intOf] <;> omega
          case rel =>
            refine ⟨j + 1, by omega, by go_num, by rw [HTK.out, HLM.out (fun h => h1 h.1)], ?_, ?_, apart_symm (HN4.out.apart (apart_symm HAP.out) (fun g e => by have := (HO.out.lt g e).2; simp; omega)), ?_, HHB.out.trans (HC4.out.below (B := w.heap.size) (fun k hk => by omega) HHB.out.size)⟩
            · rw [HTK.out, List.filter_append, HQO.out, List.filter_cons_of_neg (by simpa using h1), List.filter_nil, List.append_nil]; exact ((HO.out.alloc (.cells #[.int .i64 fnum, .int .u8 fw, .int .u64 (fn_ : Int), .slice fA xl fc, .int .i64 fat] 39)).kept HG4.out HAP.out)
            · rw [HTK.out, List.filter_append, HQU.out, List.filter_cons_of_pos (by simpa using h1), List.filter_nil, List.length_append, List.flatMap_append]; simpa [fvC, hxl] using HO4.out
            · have h : lastC (l.take (j + 1)) num x = ⟨cnum, cw, cn_, ⟨cA, cc, cxs⟩, cat⟩ := by
                have h := HLC.out
                unfold lastC at h ⊢
                rw [HTK.out, HLM.out (fun h => h1 h.1)]; exact h
              rw [h]; exact HK4.out
      · obtain rfl : j = m := by omega
        have hlj : l.length = j := HM.out
        rw [List.take_of_length_le (by omega)] at ho hu hk
        rw [List.take_of_length_le (by omega)]
        have hx2 : ∀ f ∈ l, f.s.xs.length ≤ 2000 := fun f hf => Nat.le_trans (H1000.out f hf) (by omega)
        have hLW := fun W (hW : Below wr.heap.size wr W) => hB.trans (hW.mono hB.size)
        have hlast := fun W (hW : Below w.heap.size w W) => slast_any l j A c num x W hlj (by omega) (HL.out.below hW) (fun f hf => (HOK.out f hf).below hW) hx2
        have hof := fun W (hW : Below w.heap.size w W) => sof_any l j A c num W hlj (by omega) (HL.out.below hW) (fun f hf => (HOK.out f hf).below hW) hx2
        have hwo := fun W (hW : Below w.heap.size w W) => swo_any l j A c num W hlj (by omega) (HL.out.below hW) (fun f hf => (HOK.out f hf).below hW) hx2
        have HLAST := hid hlast
        have HOF := hid hof
        have HWO := hid hwo
        have HO := hid ho
        have HU := hid hu
        have HK := hid hk
        have HHB := hid hB
        have HLW := hid hLW
        clear hlast hof hwo ho hu hk hB hap hLW
        obtain ⟨Au, cu, rfl, hsu⟩ := sln_own (by omega) HO.out
        obtain ⟨Ax, cx, rfl, hsx⟩ := sln_own (by omega) HU.out
        have hlcs : Sl wr (lastC l num x).s.A (lastC l num x).s.c ((lastC l num x).s.xs.map bv) := by
          unfold lastC
          cases hq : lastK l num x with
          | none => exact Sl.nil_ _
          | some f =>
            have hmem : f ∈ l := by unfold lastK at hq; exact (List.mem_filter.1 (List.mem_of_getLast? hq)).1
            exact (HOK.out f hmem).s.below HHB.out
        have hOs : ∀ f ∈ l.filter (fun f => decide (f.num = num)), FvOk w f := fun f hf => HOK.out f (List.mem_filter.1 hf).1
        have hUs : ∀ f ∈ l.filter (fun f => decide (¬ f.num = num)), FvOk w f := fun f hf => HOK.out f (List.mem_filter.1 hf).1
        generalize (l.filter fun f => decide (f.num = num)) = O at *
        generalize (l.filter fun f => decide (¬ f.num = num)) = U at *
        have HOS := hid hOs
        have HUS := hid hUs
        clear hOs hUs
        have HSU := hid hsu
        have HSX := hid hsx
        have HLCS := hid hlcs
        clear hsu hsx hlcs
        generalize hlc : lastC l num x = lc at *
        obtain ⟨cnum, cw, cn_, ⟨cA, cc, cxs⟩, cat⟩ := lc
        go_wp2_with fail
        refine (HLAST.out _ HHB.out).mono ?_
        intro e w3 he
        obtain ⟨g, rfl, hgk, hgs, hb3⟩ := slast_w he
        clear he
        rw [hlc] at hgk
        obtain ⟨gnum, gw, gn_, ⟨gA, gc, gxs⟩, gat⟩ := g
        have hgl := (likeK _ _).2 hgk
        generalize (lastK l num x).isSome = fl at *
        simp only [fvC]
        have HG := hid hgl
        have HGS := hid hgs
        clear hgk hgl hgs
        have hG0 := Blk.new w3 39 #[.int .i64 gnum, .int .u8 gw, .int .u64 (gn_ : Int), .slice gA gxs.length gc, .int .i64 gat]
        have hbA := bw_a hb3 (.cells #[.int .i64 gnum, .int .u8 gw, .int .u64 (gn_ : Int), .slice gA gxs.length gc, .int .i64 gat] 39)
        have hbG := bw_a (Below.refl w3.heap.size w3) (.cells #[.int .i64 gnum, .int .u8 gw, .int .u64 (gn_ : Int), .slice gA gxs.length gc, .int .i64 gat] 39)
        go_wp2_with fail
        refine (HOF.out _ (bw_t HHB.out hbA)).mono ?_
        rintro e w4 ⟨v4, fs4, rfl, ho4, hk4, hw4, hb4⟩
        obtain ⟨A4, c4, rfl, hs4⟩ := sln_own (by omega) ho4
        have hG4 := hG0.below hb4 hG0.lt
        have hb04 := bw_t hbA hb4
        have hgs4 := HGS.out.below (bw_t hbG hb4)
        generalize hgz : w3.heap.size = gz at *
        clear ho4 hb4 hbA hbG hG0
        go_wp2_with fail
        have hW4 := bw_t HHB.out hb04
        refine (same6_any fs4 O _ _ _ _ _ _ w4 rfl rfl hs4 (HSU.out.below hb04) (fun f hf => (hw4 f hf).sl) (fun f hf => ((HOS.out f hf).below hW4).s) hk4).mono ?_
        rintro e w5 ⟨rfl, hb5⟩
        have hG5 := hG4.below hb5 hG4.lt
        have hb05 := bw_t hb04 hb5
        have hgs5 := hgs4.below hb5
        clear hs4 hw4 hk4 hG4 hb04 hb5 hW4 hgs4
        go_wp2_with fail
        refine (HWO.out _ (bw_t HHB.out hb05)).mono ?_
        rintro e w6 ⟨v6, fs6, rfl, ho6, hk6, hw6, hb6⟩
        obtain ⟨A6, c6, rfl, hs6⟩ := sln_own (by omega) ho6
        have hG6 := hG5.below hb6 hG5.lt
        have hb06 := bw_t hb05 hb6
        have hgs6 := hgs5.below hb6
        clear hgs5
        clear ho6 hb6 hG5 hb05
        go_wp2_with fail
        have hW6 := bw_t HHB.out hb06
        refine (same6_any fs6 U _ _ _ _ _ _ w6 rfl rfl hs6 (HSX.out.below hb06) (fun f hf => (hw6 f hf).sl) (fun f hf => ((HUS.out f hf).below hW6).s) hk6).mono ?_
        rintro e w7 ⟨rfl, hb7⟩
        have hG7 := hG6.below hb7 hG6.lt
        have hb07 := bw_t hb06 hb7
        have hgs7 := hgs6.below hb7
        clear hgs6
        have hK7 := HK.out.below hb07 HK.out.lt
        have p0 := hG7.cell 0
        have p1 := hG7.cell 1
        have p2 := hG7.cell 2
        have p3 := hG7.cell 3
        have p4 := hG7.cell 4
        have q0 := hK7.cell 0
        have q1 := hK7.cell 1
        have q2 := hK7.cell 2
        have q3 := hK7.cell 3
        have q4 := hK7.cell 4
        simp only [fvC, List.getElem?_toArray, List.getElem?_cons_zero, List.getElem?_cons_succ] at p0 p1 p2 p3 p4 q0 q1 q2 q3 q4
        clear hs6 hw6 hk6 hG6 hb06 hb7 hW6
        go_wp2_with fail
        obtain ⟨hlk, hat⟩ := HG.out
        have hat : gat = cat := hat
        refine (like_any ⟨gnum, gw, gn_, ⟨gA, gc, gxs⟩, gat⟩ ⟨cnum, cw, cn_, ⟨cA, cc, cxs⟩, cat⟩ w7 hgs7 (HLCS.out.below hb07)).mono ?_
        rw [hlk]
        rintro e w8 ⟨rfl, hb8⟩
        have r4 := (hG7.below hb8 hG7.lt).cell 4
        have s4 := (hK7.below hb8 hK7.lt).cell 4
        simp only [fvC, List.getElem?_toArray, List.getElem?_cons_zero, List.getElem?_cons_succ] at r4 s4
        subst hat
        have hB8 := bw_t (bw_t HHB.out hb07) hb8
        clear hG7 hK7 p0 p1 p2 p3 p4 q0 q1 q2 q3 q4 hgs7 hb07 hb8
        go_wp2_with fail
        go_ret
        exact ⟨rfl, hB8⟩
end Go.Proofs.Ytfbmdeegcoocnaa
