/- The walk of ResyncGaps. -/
import Derived.Test.YtgpkjlaplmdnaaaRsLive
import Derived.Test.YtgpkjlaplmdnaaaRsRef2
set_option linter.unusedVariables false
namespace Go.Proofs.Ytgpkjlaplmdnaaa
open Go.RowKit
theorem bw_dg {a b : World} {B : Nat} (h : Below B a b) (n : Nat) : Below B a (b.drewN n) := ⟨h.os, h.tape, h.output, h.size, h.block⟩
theorem gRow_get {w : World} {A : Option Addr} {n c : Nat} {l : List (Nat × Nat)} (hn : l.length = n) (h : SlN w A n c 2 (l.flatMap gC)) (j : Nat) (hj : j < l.length) :
    ∃ b off, A = some ⟨b, off, none⟩ ∧ b < w.heap.size ∧ w.cell? ⟨b, off + j * 2, none⟩ = some (.int .i64 (l[j].1 : Int)) ∧ w.cell? ⟨b, off + j * 2 + 1, none⟩ = some (.int .i64 (l[j].2 : Int)) := by
  have hn0 : (l.flatMap gC)[j * 2 + 0]? = _ := flatMap_get gC 2 l j 0 hj (fun _ _ => rfl) (by omega)
  have hn1 : (l.flatMap gC)[j * 2 + 1]? = _ := flatMap_get gC 2 l j 1 hj (fun _ _ => rfl) (by omega)
  obtain ⟨b, off, rfl, hb, t0⟩ := h.rd (j * 2) (.int .i64 (l[j].1 : Int)) (by simpa [gC] using hn0)
  obtain ⟨b', off', he, -, t1⟩ := h.rd (j * 2 + 1) (.int .i64 (l[j].2 : Int)) (by simpa [gC] using hn1)
  injection he with he
  injection he with h1 h2
  subst h1; subst h2
  exact ⟨b, off, rfl, hb, t0, by rw [Nat.add_assoc]; exact t1⟩
theorem Rs.in1_le (b e k : Nat) : Rs.in1 b e k ≤ 1 := by unfold Rs.in1; split <;> omega
theorem Rs.cg_le (l : List (Nat × Nat)) (k : Nat) : Rs.cg l k ≤ l.length := by
  induction l with
  | nil => simp [Rs.cg]
  | cons g l ih =>
    have h1 := Rs.in1_le g.1 g.2 k
    have h2 : Rs.cg (g :: l) k = Rs.in1 g.1 g.2 k + Rs.cg l k := by unfold Rs.cg; simp
    rw [h2, List.length_cons]; omega
theorem Rs.cf_le (l : List Fnd) (k : Nat) : Rs.cf l k ≤ l.length := by
  induction l with
  | nil => simp [Rs.cf]
  | cons g l ih =>
    have h1 := Rs.in1_le g.at_ (g.at_ + g.size) k
    have h2 : Rs.cf (g :: l) k = Rs.in1 g.at_ (g.at_ + g.size) k + Rs.cf l k := by unfold Rs.cf; simp
    rw [h2, List.length_cons]; omega
/-- A row of counts in a block. -/
def CBlk (W : World) (h n : Nat) (f : Nat → Nat) : Prop := Blk W h 3 (cnt n f).toArray
theorem CBlk.get {W : World} {h n : Nat} {f : Nat → Nat} (hb : CBlk W h n f) {k : Nat} (hk : k < n) : W.cell? ⟨h, k, none⟩ = some (.int .i64 (f k : Int)) := by
  rw [Blk.cell hb k, List.getElem?_toArray, cnt_get hk]
theorem CBlk.set {W : World} {h n : Nat} {f : Nat → Nat} (hb : CBlk W h n f) (k : Nat) : CBlk (W.setCell ⟨h, k, none⟩ (.int .i64 ((f k : Int) + 1))) h n (fun j => if j = k then f j + 1 else f j) := by
  have h1 := Blk.set_ hb k (.int .i64 ((f k : Int) + 1))
  have h2 : (cnt n f).toArray.setIfInBounds k (.int .i64 ((f k : Int) + 1)) = (cnt n (fun j => if j = k then f j + 1 else f j)).toArray := by
    rw [List.setIfInBounds_toArray, ← cnt_set, Int.natCast_add]
    rfl
  unfold CBlk
  rw [← h2]
  exact h1
theorem CBlk.below' {W W' : World} {h n : Nat} {f : Nat → Nat} (hb : CBlk W h n f) (hB : Below W.heap.size W W') : CBlk W' h n f := Blk.below hb hB (Blk.lt hb)
theorem CBlk.congr {W : World} {h n : Nat} {f g : Nat → Nat} (hb : CBlk W h n f) (he : ∀ k, k < n → f k = g k) : CBlk W h n g := by
  have : cnt n f = cnt n g := by
    unfold cnt
    apply List.map_congr_left
    intro k hk
    rw [he k (by simpa using hk)]
  unfold CBlk at *
  rw [← this]; exact hb
theorem cnt_made (n : Nat) : madeCells #[.int .i64 0] (n * 1) = (cnt n (fun _ => 0)).toArray := by
  apply Array.ext
  · rw [size_madeCells]; simp [cnt]
  · intro i h1 h2
    simp [madeCells, cnt, Nat.mod_one]
theorem eqI2 (a b : Nat) (W : World) : (Op.equalIn 10000 58 (.agg #[.int .i64 (a : Int), .int .i64 (b : Int)]) (.agg #[.int .i64 (a : Int), .int .i64 (b : Int)])).run Try.prog W = .ok true W := by
  have u3 := Try.underlying3
  have g3 := Try.isAgg3
  have z3 := Try.sizeOf3
  rw [show (10000 : Nat) = 9999 + 1 from rfl, Op.equalIn]
  simp only [Sem.run_bind, run_underlying Try.underlying58, Result.andThen_ok]
  simp only [Std.Legacy.Range.forIn_eq_forIn_range', Std.Legacy.Range.size, Nat.sub_zero, Nat.add_sub_cancel, Nat.div_one, List.range'_succ, List.range'_zero, List.forIn_cons, List.forIn_nil]
  go_simp
theorem neq2 (a b : Nat) (W : World) : (binOp .neq 58 (.agg #[.int .i64 (a : Int), .int .i64 (b : Int)]) (.agg #[.int .i64 (a : Int), .int .i64 (b : Int)])).run Try.prog W = .ok (.bool false) W := by
  rw [run_neq_struct, eqI2]
  rfl
set_option maxRecDepth 100000 in
set_option maxHeartbeats 8000000 in
theorem resyncGaps_any (bs : List UInt8) (n : Nat) (A : Option Addr) (c : Nat) (w : World) (hn : bs.length = n) (hS : Sl w A c (bs.map bv)) :
    Calls Try.prog 11 #[.slice A n c] w fun e w' => e = .returned (.bool true) ∧ Below w.heap.size w w' := by
  have hcap : n ≤ 9223372036854775807 := by have h1 := hS.cap; have h2 := hS.small; rw [List.length_map] at h1; omega
  have HL := hid (live14_any w)
  by_cases hbig : 3000 < n
  · clear hn hS
    go_enter Try.func11, Try.ntmps11
    go_wp2_with fail
    refine HL.out.mono ?_
    rintro e w1 ⟨rfl, hb1⟩
    go_wp2_with fail
    go_ret
    exact ⟨rfl, hb1⟩
  obtain ⟨i0, hi, hz0, hz1, hz2⟩ := info_parts Try.info3
  have hmk : ∀ u : World, (Instr.makeSlice 44 (.int .i64 (n : Int)) (.int .i64 (n : Int))).run Try.prog u = .ok (.slice (some ⟨u.heap.size, 0, none⟩) n n) (u.alloc (.cells (cnt n (fun _ => 0)).toArray 3)) := fun u => by
    have h := run_make (P := Try.prog) u 44 3 i0 (.int .i64 0) Try.underlying44 hi hz0 .i64 .i64 (n : Int) (n : Int) (by omega) (by omega) (by rw [hz2]; omega) (by omega)
    have hc := cnt_made n
    rw [Nat.mul_one] at hc
    simpa [hz1, Value.cells, hc] using h
  have hga := fun W (hW : Below w.heap.size w W) => sgaps_any bs n A c W hn (by omega) (hS.below hW)
  have hgr := fun W (hW : Below w.heap.size w W) => rgaps_any bs n A c W hn (by omega) (hS.below hW)
  have hall := fun W (hW : Below w.heap.size w W) => (sall_any bs n A c W hn (by omega) (hS.below hW)).mono (fun e w' h => AllR.go h (l := (Rs.wk false bs 0).1) (k := (Rs.wk false bs 0).2) rfl rfl)
  have hE := (Rs.wk_facts false bs 0).2.2 (Nat.zero_le _)
  have hmem := fun f (h : f ∈ (Rs.wk false bs 0).1) => (show f.at_ + f.size ≤ n ∧ f.pl.length ≤ 8192 from by
    have h1 := (Rs.wk_facts false bs 0).1 f h
    have h2 := Rs.ok_put h1.2.1
    exact ⟨by have := h1.2.1.2.2.2; omega, h2.2.1⟩)
  have hmE := fun f (h : f ∈ (Rs.wk false bs 0).1) => ((Rs.wk_facts false bs 0).1 f h).2.2
  have hlen := Rs.wk_len false bs 0
  rw [hn] at hE hlen
  have hgm := Rs.gaps_mem (n := (Rs.wk false bs 0).2) (l := (Rs.wk false bs 0).1) (e := (Rs.wk false bs 0).2) hmE (Nat.le_refl _)
  have hgl := Rs.gaps_len (Rs.wk false bs 0).1 (Rs.wk false bs 0).2
  have hap := fun i h => Rs.apart_get (Rs.gaps_apart false bs) i h
  have hon := fun k => Rs.once false bs k
  generalize Rs.gaps (Rs.wk false bs 0).1 (Rs.wk false bs 0).2 = gg at *
  generalize (Rs.wk false bs 0).1 = l at *
  generalize (Rs.wk false bs 0).2 = E at *
  obtain ⟨nl, hnl⟩ : ∃ k, l.length = k := ⟨_, rfl⟩
  obtain ⟨ng, hng⟩ : ∃ k, gg.length = k := ⟨_, rfl⟩
  rw [hnl] at hall hlen hgl
  rw [hng] at hga hgr hgl
  have HGA := hid hga
  have HGR := hid hgr
  have HALL := hid hall
  have HMEM := hid hmem
  have HGM := hid hgm
  have HAP := hid hap
  have HON := hid hon
  have HNL := hid hnl
  have HNG := hid hng
  clear hga hgr hall hmem hgm hap hon hnl hng hn hS hmE
  go_enter Try.func11, Try.ntmps11
  go_wp2_with fail
  refine HL.out.mono ?_
  rintro e w1 ⟨rfl, hb1⟩
  go_wp2_with fail
  refine (HGA.out _ hb1).mono ?_
  rintro e w2 ⟨v2, rfl, ho2, hb2⟩
  obtain ⟨A2, c2, rfl⟩ := row_slice_g ho2
  have B2 := bw_t hb1 hb2
  have hr2 := own_slg (by omega) ho2
  clear hb1 hb2 ho2
  go_wp2_with fail
  refine (HGR.out _ B2).mono ?_
  rintro e w3 ⟨v3, rfl, ho3, hb3⟩
  obtain ⟨A3, c3, rfl⟩ := row_slice_g ho3
  have B3 := bw_t B2 hb3
  have hr3 := own_slg (by omega) ho3
  have hr2 := hr2.below hb3
  clear B2 hb3 ho3
  go_wp2_with fail
  refine (HALL.out _ B3).mono ?_
  rintro e w4 ⟨A4, c4, rfl, hrow4, hb4⟩
  obtain ⟨h, hh⟩ : ∃ h, w4.heap.size = h := ⟨_, rfl⟩
  have hbA := bw_a (Below.refl _ w4) (.cells (cnt n (fun _ => 0)).toArray 3)
  have HR2 := hid (hr2.below hb4)
  have HR3 := hid (hr3.below hb4)
  have HR4 := hid hrow4
  have hbh := (show CBlk (w4.alloc (.cells (cnt n (fun _ => 0)).toArray 3)) h n (fun _ => 0) from by rw [← hh]; exact Blk.new w4 _ _)
  have HB4 := hid (bw_t B3 hb4)
  have hwh : w.heap.size ≤ h := by rw [← hh]; exact (bw_t B3 hb4).size
  have HH := hid hh
  have hc2 : ng ≤ c2 := hr2.cap
  have hc3 : ng ≤ c3 := hr3.cap
  clear B3 hb4 hr2 hr3 hrow4 hh
  go_wp2_with fail
  generalize (w4.alloc (.cells (cnt n (fun _ => 0)).toArray 3)) = W5 at *
  have HBH := hid hbh
  have HBA := hid hbA
  have hWs : h < W5.heap.size := hbh.lt
  clear hbh hbA
  rw [HH.out]
  go_loopw [8, 9] (fun i _ wr => ∃ (k : Nat) (f : Nat → Nat), k ≤ ng ∧ i = .int .i64 (k : Int) ∧ CBlk wr h n f ∧ (∀ j, j < n → f j = Rs.cg (gg.take k) j) ∧ Below w4.heap.size w4 wr) (fun i _ _ => ng - (intOf i).toNat)
  case atStart => exact ⟨0, fun _ => 0, by omega, rfl, HBH.out, fun j _ => rfl, HBA.out⟩
  case round =>
    obtain ⟨k, f, hk, rfl, hcb, hf, hB⟩ := hrel
    by_cases hlt : k < ng
    · have hkl : k < gg.length := by have := HNG.out; omega
      obtain ⟨b2, o2, rfl, hb2, s0, s1⟩ := gRow_get HNG.out HR2.out k hkl
      obtain ⟨b3, o3, rfl, hb3, t0, t1⟩ := gRow_get HNG.out HR3.out k hkl
      have HS1' := hid s1
      have s0 := (hB.cell (p := ⟨b2, o2 + k * 2, none⟩) hb2).trans s0
      have s1 := (hB.cell (p := ⟨b2, o2 + k * 2 + 1, none⟩) hb2).trans s1
      have t0 := (hB.cell (p := ⟨b3, o3 + k * 2, none⟩) hb3).trans t0
      have t1 := (hB.cell (p := ⟨b3, o3 + k * 2 + 1, none⟩) hb3).trans t1
      obtain ⟨hg1, hg2⟩ := HGM.out _ (List.getElem_mem hkl)
      have htk : gg.take (k + 1) = gg.take k ++ [gg[k]] := List.take_succ_eq_append_getElem hkl
      have hcg := fun j => Rs.cg_snoc (gg.take k) gg[k] j
      rw [← htk] at hcg
      have hap := fun j (h : j + 1 = k) => (show (gg[j]'(by omega)).2 < gg[k].1 from by subst h; exact HAP.out j hkl)
      have hq2 := fun j (h : j + 1 = k) => gRow_get HNG.out HR2.out j (by omega)
      generalize gg[k] = gk at *
      obtain ⟨ga, gb⟩ := gk
      simp only at s0 s1 t0 t1 hg1 hg2 hcg hap
      have hki : (k : Int) < (ng : Int) := by omega
      have hk0 : (0 : Int) ≤ (k : Int) := by omega
      have hnq := neq2 ga gb
      have hnI := eqI2 ga gb
      have f1 : decide (gb ≤ ga) = false := by simp; omega
      have f2 : decide (E < gb) = false := by simp; omega
      have HCB := hid hcb
      have HF := hid hf
      have HB := hid hB
      have HCG := hid hcg
      have HAPk := hid hap
      have HQ2 := hid hq2
      have hb2w := Nat.lt_of_lt_of_le hb2 hB.size
      have hb3w := Nat.lt_of_lt_of_le hb3 hB.size
      clear hcb hf hB hcg hap hq2 htk
      by_cases hk00 : k = 0
      · subst hk00
        simp only [Nat.zero_mul, Nat.add_zero] at s0 s1 t0 t1
        have hs1' := HS1'.out
        simp only [Nat.zero_mul, Nat.add_zero] at hs1'
        have HS1 := hid hs1'
        clear hs1'
        go_wp2_with fail
        go_quiet (fail)
        go_wp2_with fail
        clear hnq hnI
        have hcgl := Rs.cg_le (gg.take 0)
        rw [List.length_take] at hcgl
        have HCL := hid hcgl
        clear hcgl
        go_loopw [9] (fun i wq => ∃ (m : Nat) (f' : Nat → Nat), ga ≤ m ∧ m ≤ gb ∧ i = .int .i64 (m : Int) ∧ CBlk wq h n f' ∧ (∀ j, j < n → f' j = Rs.cg (gg.take 0) j + Rs.in1 ga m j) ∧ Below w4.heap.size w4 wq) (fun i _ => gb - (intOf i).toNat)
        case atStart => exact ⟨ga, f, Nat.le_refl _, by omega, rfl, HCB.out.below' (bw_dg (Below.refl _ wr) nq), fun j hj => by rw [Rs.in1_self, Nat.add_zero]; exact HF.out j hj, bw_dg HB.out nq⟩
        case round =>
          obtain ⟨m, f', hm1, hm2, rfl, hcb', hf', hB'⟩ := hrel
          have s1' := (hB'.cell (p := ⟨b2, o2 + 1, none⟩) hb2).trans HS1.out
          have hb2q := Nat.lt_of_lt_of_le hb2 hB'.size
          have hmI : (0 : Int) ≤ (m : Int) := by omega
          by_cases hml : m < gb
          · have hmn : m < n := by omega
            have c0 := hcb'.get hmn
            have f0 := Blk.frozen hcb' m
            have hhl := Blk.lt hcb'
            have hset := hcb'.set m
            have hfm := hf' m hmn
            have hxl : f' m ≤ 4000 := by
              rw [hfm]
              have h1 := HCL.out m
              have h2 := Rs.in1_le ga m m
              omega
            have hf2 : ∀ j, j < n → (if j = m then f' j + 1 else f' j) = Rs.cg (gg.take 0) j + Rs.in1 ga (m + 1) j := by
              intro j hj
              rw [Rs.in1_succ _ _ _ hm1]
              have := hf' j hj
              split
              · rename_i h; omega
              · omega
            have hBs := hB'.setCell (p := ⟨h, m, none⟩) (by show w4.heap.size ≤ h; rw [HH.out]; exact Nat.le_refl _) (.int .i64 ((f' m : Int) + 1))
            have HSET := hid hset
            have HF2 := hid hf2
            have HBS := hid hBs
            generalize f' m = x at *
            have hmn2 : (m : Int) < (n : Int) := by omega
            have hml2 : (m : Int) < (gb : Int) := by omega
            clear hcb' hset hf' hf2 hBs hB' hfm
            go_wp2_with fail
            go_roundw
            case rel => exact ⟨m + 1, _, by omega, by omega, by go_num, HSET.out, HF2.out, HBS.out⟩
            case measure => simp [intOf]; omega
          · obtain rfl : m = gb := by omega
            have HC' := hid hcb'
            have HF' := hid hf'
            have HB' := hid hB'
            have hml2 : ¬ (m : Int) < (m : Int) := by omega
            clear hcb' hf' hB'
            go_wp2_with fail
            go_roundw
            case rel => exact ⟨0 + 1, f', by omega, by go_num, HC'.out, fun j hj => by rw [HCG.out j]; exact HF'.out j hj, HB'.out⟩
            case measure => simp [intOf]; omega
      · obtain ⟨j, rfl⟩ : ∃ j, k = j + 1 := ⟨k - 1, by omega⟩
        obtain ⟨b2', o2', he, -, -, r1⟩ := HQ2.out j rfl
        injection he with he
        injection he with h1 h2
        subst h1; subst h2
        have r1 := (HB.out.cell (p := ⟨b2, o2 + j * 2 + 1, none⟩) hb2).trans r1
        have hap := HAPk.out j rfl
        have hjI : (0 : Int) ≤ (j : Int) := by omega
        have hjI2 : (j : Int) < (ng : Int) := by omega
        generalize (gg[j]'(by omega)).2 = gp at *
        obtain ⟨k, hkj⟩ : ∃ k, j + 1 = k := ⟨_, rfl⟩
        have hs1' := HS1'.out
        have hcg' := HCG.out
        have hf' := HF.out
        rw [hkj] at s0 s1 t0 t1 hki hk0 hk hs1' ⊢
        simp only [hkj] at hcg' hf'
        have HS1 := hid hs1'
        have HCG := hid hcg'
        have HF := hid hf'
        clear hs1' hcg' hf'
        have hsub : IntKind.i64.wrap ((k : Int) - 1) = (j : Int) := by rw [IntWalk.i64_in _ (by omega)]; omega
        have f3 : decide ((0 : Int) < (k : Int)) = true := by simp; omega
        have f4 : decide (ga ≤ gp) = false := by simp; omega
        have f5 : decide (0 < k) = true := by simp; omega
        go_wp2_with fail
        go_quiet (fail)
        go_wp2_with fail
        clear hnq hnI
        have hcgl := Rs.cg_le (gg.take k)
        rw [List.length_take] at hcgl
        have HCL := hid hcgl
        clear hcgl
        go_loopw [9] (fun i wq => ∃ (m : Nat) (f' : Nat → Nat), ga ≤ m ∧ m ≤ gb ∧ i = .int .i64 (m : Int) ∧ CBlk wq h n f' ∧ (∀ j, j < n → f' j = Rs.cg (gg.take k) j + Rs.in1 ga m j) ∧ Below w4.heap.size w4 wq) (fun i _ => gb - (intOf i).toNat)
        case atStart => exact ⟨ga, f, Nat.le_refl _, by omega, rfl, HCB.out.below' (bw_dg (Below.refl _ wr) nq), fun j hj => by rw [Rs.in1_self, Nat.add_zero]; exact HF.out j hj, bw_dg HB.out nq⟩
        case round =>
          obtain ⟨m, f', hm1, hm2, rfl, hcb', hf', hB'⟩ := hrel
          have s1' := (hB'.cell (p := ⟨b2, o2 + k * 2 + 1, none⟩) hb2).trans HS1.out
          have hb2q := Nat.lt_of_lt_of_le hb2 hB'.size
          have hmI : (0 : Int) ≤ (m : Int) := by omega
          by_cases hml : m < gb
          · have hmn : m < n := by omega
            have c0 := hcb'.get hmn
            have f0 := Blk.frozen hcb' m
            have hhl := Blk.lt hcb'
            have hset := hcb'.set m
            have hfm := hf' m hmn
            have hxl : f' m ≤ 4000 := by
              rw [hfm]
              have h1 := HCL.out m
              have h2 := Rs.in1_le ga m m
              omega
            have hf2 : ∀ j, j < n → (if j = m then f' j + 1 else f' j) = Rs.cg (gg.take k) j + Rs.in1 ga (m + 1) j := by
              intro j hj
              rw [Rs.in1_succ _ _ _ hm1]
              have := hf' j hj
              split
              · rename_i h; omega
              · omega
            have hBs := hB'.setCell (p := ⟨h, m, none⟩) (by show w4.heap.size ≤ h; rw [HH.out]; exact Nat.le_refl _) (.int .i64 ((f' m : Int) + 1))
            have HSET := hid hset
            have HF2 := hid hf2
            have HBS := hid hBs
            generalize f' m = x at *
            have hmn2 : (m : Int) < (n : Int) := by omega
            have hml2 : (m : Int) < (gb : Int) := by omega
            clear hcb' hset hf' hf2 hBs hB' hfm
            go_wp2_with fail
            go_roundw
            case rel => exact ⟨m + 1, _, by omega, by omega, by go_num, HSET.out, HF2.out, HBS.out⟩
            case measure => simp [intOf]; omega
          · obtain rfl : m = gb := by omega
            have HC' := hid hcb'
            have HF' := hid hf'
            have HB' := hid hB'
            have hml2 : ¬ (m : Int) < (m : Int) := by omega
            clear hcb' hf' hB'
            go_wp2_with fail
            go_roundw
            case rel => exact ⟨k + 1, f', by omega, by go_num, HC'.out, fun j hj => by rw [HCG.out j]; exact HF'.out j hj, HB'.out⟩
            case measure => simp [intOf]; omega
    · obtain rfl : k = ng := by omega
      rw [List.take_of_length_le (by have := HNG.out; omega)] at hf
      have hcgl := Rs.cg_le gg
      rw [HNG.out] at hcgl
      have HCL := hid hcgl
      have HCB := hid hcb
      have HF := hid hf
      have HB := hid hB
      clear hcgl hcb hf hB
      go_wp2_with fail
      go_loopw [10, 11] (fun i _ wr => ∃ (k : Nat) (f : Nat → Nat), k ≤ nl ∧ i = .int .i64 (k : Int) ∧ CBlk wr h n f ∧ (∀ j, j < n → f j = Rs.cg gg j + Rs.cf (l.take k) j) ∧ Below w4.heap.size w4 wr) (fun i _ _ => nl - (intOf i).toNat)
      case atStart => exact ⟨0, f, by omega, rfl, HCB.out, fun j hj => HF.out j hj, HB.out⟩
      case round =>
        obtain ⟨k, f, hk, rfl, hcb, hf, hB⟩ := hrel
        by_cases hlt : k < nl
        · have hkl : k < l.length := by have := HNL.out; omega
          obtain ⟨b4, o4, P4, q4, rfl, hb4, r0, r1, r2, -, hc4, -⟩ := HR4.out.get HNL.out k hkl
          obtain ⟨hm1, hm2⟩ := HMEM.out _ (List.getElem_mem hkl)
          have htk : l.take (k + 1) = l.take k ++ [l[k]] := List.take_succ_eq_append_getElem hkl
          have hcf := fun j => Rs.cf_snoc (l.take k) l[k] j
          rw [← htk] at hcf
          have hcfl := Rs.cf_le (l.take k)
          rw [List.length_take] at hcfl
          have hszd : l[k].size = l[k].pl.length + 9 := rfl
          rw [hszd] at hm1 hcf
          generalize l[k].at_ = fa at *
          generalize l[k].pl.length = pl at *
          generalize h2e : Rs.cf (l.take (k + 1)) = cf2 at *
          have H2E := hid h2e
          clear h2e
          have hsz := fun W => fsize_any (pl : Int) W (by omega) (by omega)
          have hze : Fr.size (pl : Int) = (pl : Int) + 9 := by unfold Fr.size; rw [if_neg (by omega)]
          rw [hze] at hsz
          have HSZ := hid hsz
          have HCF := hid hcf
          have HCFL := hid hcfl
          have HCB := hid hcb
          have HF := hid hf
          have HB := hid hB
          have HS0 := hid r0
          have HS2 := hid r2
          have hki : (k : Int) < (nl : Int) := by omega
          have hk0 : (0 : Int) ≤ (k : Int) := by omega
          clear hsz hze hcf hcfl hcb hf hB r0 r1 r2 htk hszd
          go_wp2_with fail
          go_loopw [11] (fun i wq => ∃ (m : Nat) (f' : Nat → Nat), m ≤ pl + 9 ∧ i = .int .i64 (m : Int) ∧ CBlk wq h n f' ∧ (∀ j, j < n → f' j = Rs.cg gg j + Rs.cf (l.take k) j + Rs.in1 fa (fa + m) j) ∧ Below w4.heap.size w4 wq) (fun i _ => pl + 9 - (intOf i).toNat)
          case atStart => exact ⟨0, f, by omega, rfl, HCB.out, fun j hj => by rw [Nat.add_zero, Rs.in1_self, Nat.add_zero]; exact HF.out j hj, HB.out⟩
          case round =>
            obtain ⟨m, f', hm3, rfl, hcb', hf', hB'⟩ := hrel
            have s0' := (hB'.cell (p := ⟨b4, o4 + k * 3, none⟩) hb4).trans HS0.out
            have s2' := (hB'.cell (p := ⟨b4, o4 + k * 3 + 2, none⟩) hb4).trans HS2.out
            have hb4q := Nat.lt_of_lt_of_le hb4 hB'.size
            have hmI : (0 : Int) ≤ (m : Int) := by omega
            by_cases hml : m < pl + 9
            · obtain ⟨q, hq⟩ : ∃ q, fa + m = q := ⟨_, rfl⟩
              have hqn : q < n := by omega
              have c0 := hcb'.get hqn
              have f0 := Blk.frozen hcb' q
              have hhl := Blk.lt hcb'
              have hset := hcb'.set q
              have hfm := hf' q hqn
              have hxl : f' q ≤ 10000 := by
                rw [hfm]
                have h1 := HCL.out q
                have h2 := Rs.in1_le fa (fa + m) q
                have h3 := HCFL.out q
                omega
              have hf2 : ∀ j, j < n → (if j = q then f' j + 1 else f' j) = Rs.cg gg j + Rs.cf (l.take k) j + Rs.in1 fa (fa + (m + 1)) j := by
                intro j hj
                rw [← Nat.add_assoc, Rs.in1_succ _ _ _ (by omega)]
                have := hf' j hj
                split
                · rename_i h; rw [if_pos (by omega)]; omega
                · rename_i h; rw [if_neg (by omega)]; omega
              have hBs := hB'.setCell (p := ⟨h, q, none⟩) (by show w4.heap.size ≤ h; rw [HH.out]; exact Nat.le_refl _) (.int .i64 ((f' q : Int) + 1))
              have HSET := hid hset
              have HF2 := hid hf2
              have HBS := hid hBs
              generalize f' q = x at *
              have hqI : IntKind.i64.wrap ((fa : Int) + (m : Int)) = (q : Int) := by rw [IntWalk.i64_in _ (by omega)]; omega
              have hq0 : (0 : Int) ≤ (q : Int) := by omega
              have hqn2 : (q : Int) < (n : Int) := by omega
              have hml2 : (m : Int) < (pl : Int) + 9 := by omega
              clear hcb' hset hf' hf2 hBs hB' hfm hq
              go_wp2_with (go_at_call 16; refine (HSZ.out _).mono ?_; rintro e w' ⟨rfl, rfl⟩)
              go_roundw
              case rel => exact ⟨m + 1, _, by omega, by go_num, HSET.out, HF2.out, HBS.out⟩
              case measure => simp [intOf]; omega
            · obtain rfl : m = pl + 9 := by omega
              have HC' := hid hcb'
              have HF' := hid hf'
              have HB' := hid hB'
              obtain ⟨m9, hm9⟩ : ∃ m, pl + 9 = m := ⟨_, rfl⟩
              rw [hm9]
              have hml2 : decide ((m9 : Int) < (pl : Int) + 9) = false := by simp; omega
              clear hcb' hf' hB'
              go_wp2_with (go_at_call 16; refine (HSZ.out _).mono ?_; rintro e w' ⟨rfl, rfl⟩)
              go_roundw
              case rel => exact ⟨k + 1, f', by omega, by go_num, HC'.out, fun j hj => by rw [HF'.out j hj, H2E.out, HCF.out j]; omega, HB'.out⟩
              case measure => simp [intOf]; omega
        · obtain rfl : k = nl := by omega
          rw [List.take_of_length_le (by have := HNL.out; omega)] at hf
          have hfe : ∀ j, j < n → f j = Rs.in1 0 E j := fun j hj => by rw [hf j hj]; exact HON.out j
          have HCB := hid hcb
          have HF := hid hfe
          have HB := hid hB
          clear hcb hf hB hfe
          go_wp2_with fail
          go_loopw [12, 13] (fun s i wr => ∃ (k s' : Nat), k ≤ n ∧ i = .int .i64 (k : Int) ∧ s = .int .i64 (s' : Int) ∧ s' = min k E ∧ CBlk wr h n f ∧ Below w4.heap.size w4 wr) (fun _ i _ => n - (intOf i).toNat)
          case atStart => exact ⟨0, 0, by omega, rfl, rfl, by omega, HCB.out, HB.out⟩
          case round =>
            obtain ⟨k, s', hk, rfl, rfl, hse, hcb, hB⟩ := hrel
            by_cases hlt : k < n
            · have c0 := hcb.get hlt
              have hfk := HF.out k hlt
              have hhl := Blk.lt hcb
              have hki : (k : Int) < (n : Int) := by omega
              have hk0 : (0 : Int) ≤ (k : Int) := by omega
              have HCB := hid hcb
              have HB := hid hB
              by_cases hkE : k < E
              · have hf1 : f k = 1 := by rw [hfk]; unfold Rs.in1; rw [if_pos ⟨Nat.zero_le _, hkE⟩]
                rw [hf1] at c0
                have g1 : decide (k < E) = true := by simp; omega
                have g2 : decide (E ≤ k) = false := by simp; omega
                clear hcb hB hfk hf1
                go_wp2_with fail
                go_roundw
                case rel => exact ⟨k + 1, s' + 1, by omega, by go_num, by go_num, by omega, HCB.out, HB.out⟩
                case measure => simp [intOf]; omega
              · have hf1 : f k = 0 := by rw [hfk]; unfold Rs.in1; rw [if_neg (by omega)]
                rw [hf1] at c0
                have g1 : decide (k < E) = false := by simp; omega
                have g2 : decide (E ≤ k) = true := by simp; omega
                clear hcb hB hfk hf1
                go_wp2_with fail
                go_roundw
                case rel => exact ⟨k + 1, s', by omega, by go_num, by go_num, by omega, HCB.out, HB.out⟩
                case measure => simp [intOf]; omega
            · obtain rfl : k = n := by omega
              have hse2 : s' = E := by omega
              clear hse
              subst hse2
              have HB := hid hB
              clear hcb hB
              go_wp2_with fail
              go_ret
              exact ⟨rfl, HB4.out.trans (HB.out.mono HB4.out.size)⟩
end Go.Proofs.Ytgpkjlaplmdnaaa
