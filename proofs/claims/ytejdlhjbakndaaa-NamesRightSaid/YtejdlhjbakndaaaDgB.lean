/- diag: the first that isn't nought, which of two findings stands ahead: walks. -/
import Derived.Test.YtejdlhjbakndaaaDgA
set_option linter.unusedVariables false
namespace Go.Proofs.Ytejdlhjbakndaaa
open Go.RowKit
theorem grow3 (w : World) (a b c : Obj) : (((w.alloc a).alloc b).drew).alloc c = Sort.grow (w.drewN 1) #[a, b, c] := by
  simp only [Sort.alloc_eq_grow, Sort.grow_grow, Sort.drew_grow]; rfl
set_option maxRecDepth 100000 in
set_option maxHeartbeats 4000000 in
theorem cor_any (a b c : Int) (A : Option Addr) (w : World) (hr : Rd w A [.int .i64 a, .int .i64 b, .int .i64 c]) :
    Calls Try.prog 44 #[.slice A 3 3] w fun e w' => e = .returned (.int .i64 (or3 a b c)) ∧ w' = w := by
  obtain ⟨g, o, rfl, hg, c0⟩ := hr 0 _ rfl
  obtain ⟨g', o', e1, -, c1⟩ := hr 1 _ rfl
  obtain ⟨g'', o'', e2, -, c2⟩ := hr 2 _ rfl
  injection e1 with e1; injection e1 with e1 e1'; subst e1 e1'
  injection e2 with e2; injection e2 with e2 e2'; subst e2 e2'
  have HC := hid (And.intro c0 (And.intro c1 c2))
  clear c0 c1 c2 hr
  go_enter Try.func44, Try.ntmps44
  go_wp2_with fail
  go_loopw [8] (fun i wr => ∃ k : Nat, k ≤ 3 ∧ i = .int .i64 (k : Int) ∧ (0 < k → a = 0) ∧ (1 < k → b = 0) ∧ (2 < k → c = 0) ∧ wr = w) (fun i _ => 3 - (intOf i).toNat)
  case atStart => exact ⟨0, by omega, rfl, by omega, by omega, by omega, rfl⟩
  case round =>
    obtain ⟨k, hk, rfl, h0, h1, h2, rfl⟩ := hrel
    obtain ⟨c0, c1, c2⟩ := HC.out
    rcases (by omega : k = 0 ∨ k = 1 ∨ k = 2 ∨ k = 3) with rfl | rfl | rfl | rfl
    · simp only [Nat.add_zero] at c0
      by_cases ha : a = 0
      · subst ha
        have hq : or3 0 b c = if b ≠ 0 then b else c := rfl
        go_wp2_with fail
        go_roundw
        case rel => exact ⟨1, by simp⟩
        case measure => simp [intOf]
      · have hq : or3 a b c = a := by unfold or3; rw [if_pos ha]
        have hb : (a != 0) = true := by simpa using ha
        go_wp2_with fail
        go_ret
        exact ⟨by rw [hq]; rfl, rfl⟩
    · obtain rfl : a = 0 := h0 (by omega)
      by_cases ha : b = 0
      · subst ha
        go_wp2_with fail
        go_roundw
        case rel => exact ⟨2, by simp⟩
        case measure => simp [intOf]
      · have hq : or3 0 b c = b := by unfold or3; simp [ha]
        have hb : (b != 0) = true := by simpa using ha
        go_wp2_with fail
        go_ret
        exact ⟨rfl, rfl⟩
    · obtain rfl : a = 0 := h0 (by omega)
      obtain rfl : b = 0 := h1 (by omega)
      by_cases ha : c = 0
      · subst ha
        go_wp2_with fail
        go_roundw
        case rel => exact ⟨3, by simp⟩
        case measure => simp [intOf]
      · have hq : or3 0 0 c = c := by unfold or3; simp
        have hb : (c != 0) = true := by simpa using ha
        go_wp2_with fail
        go_ret
        exact ⟨rfl, rfl⟩
    · obtain rfl : a = 0 := h0 (by omega)
      obtain rfl : b = 0 := h1 (by omega)
      obtain rfl : c = 0 := h2 (by omega)
      go_wp2_with fail
      go_ret
      exact ⟨rfl, rfl⟩
set_option maxRecDepth 100000 in
set_option maxHeartbeats 4000000 in
theorem dcompare_any (x y : Dg.D) (w : World) :
    Calls Try.prog 51 #[.agg (dC x).toArray, .agg (dC y).toArray] w fun e w' => e = .returned (.int .i64 (cD x y)) ∧ ∃ q os, w' = Sort.grow (w.drewN q) os := by
  obtain ⟨s1, e1, t1⟩ := x
  obtain ⟨s2, e2, t2⟩ := y
  have hcd : cD (s1, e1, t1) (s2, e2, t2) = or3 (cI s1 s2) (cI e1 e2) (cS t1 t2) := rfl
  rw [hcd]
  show Calls _ _ #[.agg #[.int .i64 s1, .int .i64 e1, .string t1], .agg #[.int .i64 s2, .int .i64 e2, .string t2]] w _
  have hci := fun W => cmpi_any s1 s2 W
  have hce := fun W => cmpe_any e1 e2 W
  have hcs := fun W => cmps_any t1 t2 W
  have hor := fun A W h => cor_any (cI s1 s2) (cI e1 e2) (cS t1 t2) A W h
  have HCI := hid hci
  have HCE := hid hce
  have HCS := hid hcs
  have HOR := hid hor
  clear hci hce hcs hor hcd
  generalize cI s1 s2 = r1 at *
  generalize cI e1 e2 = r2 at *
  generalize cS t1 t2 = r3 at *
  go_enter Try.func51, Try.ntmps51
  go_wp2_with fail
  have hx := (Blk.new w 53 #[.int .i64 s1, .int .i64 e1, .string t1]).alloc (.cells #[.int .i64 s2, .int .i64 e2, .string t2] 53)
  have hy := Blk.new (w.alloc (.cells #[.int .i64 s1, .int .i64 e1, .string t1] 53)) 53 #[.int .i64 s2, .int .i64 e2, .string t2]
  rw [World.size_alloc] at hy
  obtain ⟨w2, hW⟩ : ∃ w2, (w.alloc (.cells #[.int .i64 s1, .int .i64 e1, .string t1] 53)).alloc (.cells #[.int .i64 s2, .int .i64 e2, .string t2] 53) = w2 := ⟨_, rfl⟩
  rw [hW] at hx hy ⊢
  have HW := hid hW
  clear hW
  have c0 := hx.cell 0
  have c1 := hx.cell 1
  have c2 := hx.cell 2
  have d0 := hy.cell 0
  have d1 := hy.cell 1
  have d2 := hy.cell 2
  simp only [List.getElem?_toArray, List.getElem?_cons_zero, List.getElem?_cons_succ] at c0 c1 c2 d0 d1 d2
  clear hx hy
  go_still_tail 15, (by kernel_rfl)
  still_call (HCI.out _)
  repeat still_step
  still_call (HCE.out _)
  repeat still_step
  still_call (HCS.out _)
  repeat still_step
  refine wpStill_nil ?_
  go_wp2_with (go_at_call 44; refine (HOR.out (some ⟨w2.heap.size, 0, none⟩) (w2.drew.alloc (.cells #[.int .i64 r1, .int .i64 r2, .int .i64 r3] 3)) (Rd.new w2.drew 3 #[.int .i64 r1, .int .i64 r2, .int .i64 r3])).mono ?_; rintro e w' ⟨rfl, rfl⟩)
  go_ret
  refine ⟨rfl, 1, #[.cells #[.int .i64 s1, .int .i64 e1, .string t1] 53, .cells #[.int .i64 s2, .int .i64 e2, .string t2] 53, .cells #[.int .i64 r1, .int .i64 r2, .int .i64 r3] 3], ?_⟩
  rw [← HW.out]
  exact grow3 _ _ _ _
theorem cD_bounds (x y : Dg.D) : -1 ≤ cD x y ∧ cD x y ≤ 1 := by
  unfold cD or3
  have h1 := cI_ways x.1 y.1
  have h2 := cI_ways x.2.1 y.2.1
  have h3 := cS_ways x.2.2 y.2.2
  constructor <;> (split <;> (try split) <;> omega)
theorem grow_below (w : World) (q : Nat) (os : Array Obj) : Below w.heap.size w (Sort.grow (w.drewN q) os) :=
  ⟨rfl, rfl, rfl, by show w.heap.size ≤ (w.heap ++ os).size; simp, fun k hk => by show (w.heap ++ os)[k]? = w.heap[k]?; rw [Array.getElem?_append_left hk]⟩
set_option maxRecDepth 100000 in
set_option maxHeartbeats 4000000 in
theorem rless_any (x y : Dg.D) (w : World) :
    Calls Try.prog 52 #[.agg (dC x).toArray, .agg (dC y).toArray] w fun e w' => e = .returned (.bool (Dg.ltb x y)) ∧ Below w.heap.size w w' := by
  obtain ⟨s1, e1, t1⟩ := x
  obtain ⟨s2, e2, t2⟩ := y
  simp only [dC]
  show Calls _ _ #[.agg #[.int .i64 s1, .int .i64 e1, .string t1], .agg #[.int .i64 s2, .int .i64 e2, .string t2]] w _
  have hb := bw_a (bw_a (Below.refl _ w) (.cells #[.int .i64 s1, .int .i64 e1, .string t1] 53)) (.cells #[.int .i64 s2, .int .i64 e2, .string t2] 53)
  have HB := hid hb
  clear hb
  by_cases h1 : s1 = s2
  · subst h1
    by_cases h2 : e1 = e2
    · subst h2
      have hr : Dg.ltb (s1, e1, t1) (s1, e1, t2) = Op.bytesLess t1.toList t2.toList := by
        rw [less_eq, Lib.toList_data, Lib.toList_data]; simp [Dg.ltb]
      rw [hr]
      clear hr
      obtain ⟨r, hr⟩ : ∃ r, Op.bytesLess t1.toList t2.toList = r := ⟨_, rfl⟩
      rw [hr]
      go_enter Try.func52, Try.ntmps52
      go_wp2_with fail
      all_goals (go_ret; exact ⟨rfl, HB.out⟩)
    · have hr : Dg.ltb (s1, e1, t1) (s1, e2, t2) = decide (e1 < e2) := by simp [Dg.ltb, h2]
      rw [hr]
      have hb : (e1 != e2) = true := by simpa using h2
      go_enter Try.func52, Try.ntmps52
      go_wp2_with fail
      all_goals (go_ret; exact ⟨rfl, HB.out⟩)
  · have hr : Dg.ltb (s1, e1, t1) (s2, e2, t2) = decide (s1 < s2) := by simp [Dg.ltb, h1]
    rw [hr]
    have hb : (s1 != s2) = true := by simpa using h1
    go_enter Try.func52, Try.ntmps52
    go_wp2_with fail
    all_goals (go_ret; exact ⟨rfl, HB.out⟩)
end Go.Proofs.Ytejdlhjbakndaaa
