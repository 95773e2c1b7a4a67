/- schema.Word. · schema.Kind. · What must be whatever is asked (schema). · The document's rows, fields and Find. -/
import Derived.Test.YtmcebepfoleknaaM6
import Derived.Test.YtmcebepfoleknaaM2
import Derived.Test.YtmcebepfoleknaaSc2
import Derived.Test.YtmcebepfoleknaaV2
import Derived.Test.YtmcebepfoleknaaM3
import Derived.Deep.RegionHeld3
import Derived.Deep.AppendLies
import Derived.OwnWalk
import Derived.Laws.Pointers
import Derived.Deep.QuietTactic
import Derived.BigQuiet
set_option linter.unusedVariables false
namespace Go.Proofs.Ytmcebepfoleknaa
open Go.RowKit
end Go.Proofs.Ytmcebepfoleknaa
set_option linter.unusedVariables false
namespace Go.Proofs.Ytmcebepfoleknaa
open Go.RowKit
end Go.Proofs.Ytmcebepfoleknaa
set_option linter.unusedVariables false
namespace Go.Proofs.Ytmcebepfoleknaa
open Go.RowKit
end Go.Proofs.Ytmcebepfoleknaa
set_option linter.unusedVariables false
namespace Go.Proofs.Ytmcebepfoleknaa
open Go.RowKit
def rowC (r : SRow) : List Value := [.int .i64 (r.num : Nat), .int .i64 (r.typ : Nat), .int .i64 (r.slot : Nat), .int .i64 (r.since : Nat)]
theorem sln_lit (w : World) (t : TypeId) (xs : List Value) (cs : Array Value) (n size : Nat) (h : cs.toList = xs) (hl : xs.length = n * size) (hm : n ≤ 1000) : SlN (w.alloc (.cells cs t)) (some ⟨w.heap.size, 0, none⟩) n n size xs :=
  ⟨hl, Nat.le_refl _, by omega, (fun h => by cases h), by rw [← h]; exact Rd.new w t cs⟩
/-- Rows of the document. -/
def RowsR (w : World) (k : Int) (e : Ending) (w' : World) : Prop := ∃ A c, e = .returned (.slice A (ofK k).length c) ∧ SlN w' A (ofK k).length c 4 ((ofK k).flatMap rowC) ∧ Below w.heap.size w w'
theorem rowsR_lit (w : World) (k : Int) (n : Nat) (cs : Array Value) (t : TypeId) (hn : (ofK k).length = n) (hm : n ≤ 1000) (hc : cs.toList = (ofK k).flatMap rowC) : RowsR w k (.returned (.slice (some ⟨w.heap.size, 0, none⟩) n n)) (w.alloc (.cells cs t)) := by
  subst hn
  refine ⟨_, _, rfl, sln_lit w t _ cs _ 4 hc ?_ hm, bw_a (Below.refl _ w) _⟩
  exact flatMap_length rowC 4 _ (fun _ _ => rfl)
set_option maxRecDepth 100000 in
set_option maxHeartbeats 2000000 in
theorem rrows_any (k : Int) (w : World) (hk0 : 0 ≤ k) (hk : k ≤ 255) : Calls Try.prog 59 #[.int .u8 k] w (RowsR w k) := by
  have hcase : k = 1 ∨ k = 2 ∨ k = 3 ∨ k = 4 ∨ k = 5 ∨ k = 6 ∨ k = 7 ∨ k = 8 ∨ k = 9 ∨ k = 10 ∨ (k = 0 ∨ 10 < k) := by omega
  rcases hcase with rfl | rfl | rfl | rfl | rfl | rfl | rfl | rfl | rfl | rfl | hk2
  · go_enter Try.func59, Try.ntmps59
    go_wp2
    go_ret
    exact rowsR_lit w 1 _ _ _ (by decide +kernel) (by omega) (by kernel_rfl)
  · go_enter Try.func59, Try.ntmps59
    go_wp2
    go_ret
    exact rowsR_lit w 2 _ _ _ (by decide +kernel) (by omega) (by kernel_rfl)
  · go_enter Try.func59, Try.ntmps59
    go_wp2
    go_ret
    exact rowsR_lit w 3 _ _ _ (by decide +kernel) (by omega) (by kernel_rfl)
  · go_enter Try.func59, Try.ntmps59
    go_wp2
    go_ret
    exact rowsR_lit w 4 _ _ _ (by decide +kernel) (by omega) (by kernel_rfl)
  · go_enter Try.func59, Try.ntmps59
    go_wp2
    go_ret
    exact rowsR_lit w 5 _ _ _ (by decide +kernel) (by omega) (by kernel_rfl)
  · go_enter Try.func59, Try.ntmps59
    go_wp2
    go_ret
    exact rowsR_lit w 6 _ _ _ (by decide +kernel) (by omega) (by kernel_rfl)
  · go_enter Try.func59, Try.ntmps59
    go_wp2
    go_ret
    exact rowsR_lit w 7 _ _ _ (by decide +kernel) (by omega) (by kernel_rfl)
  · go_enter Try.func59, Try.ntmps59
    go_wp2
    go_ret
    exact rowsR_lit w 8 _ _ _ (by decide +kernel) (by omega) (by kernel_rfl)
  · go_enter Try.func59, Try.ntmps59
    go_wp2
    go_ret
    exact rowsR_lit w 9 _ _ _ (by decide +kernel) (by omega) (by kernel_rfl)
  · go_enter Try.func59, Try.ntmps59
    go_wp2
    go_ret
    exact rowsR_lit w 10 _ _ _ (by decide +kernel) (by omega) (by kernel_rfl)
  · have hof : ofK k = [] := by
      unfold ofK
      rw [List.filter_eq_nil_iff]
      intro r hr
      have h2 := List.all_eq_true.1 (show ROWS.all (fun r => decide (1 ≤ r.kind ∧ r.kind ≤ 10)) = true by decide) r hr
      simp at h2 ⊢
      omega
    have hR : RowsR w k (.returned (.slice none 0 0)) w := ⟨none, 0, by rw [hof]; rfl, by rw [hof]; exact ⟨rfl, Nat.le_refl _, by show (0:Nat) ≤ _; omega, fun _ => rfl, Rd.nil_ w none⟩, Below.refl _ _⟩
    have HR := hid hR
    clear hR hof
    have n1 : (k == 1) = false := by simp; omega
    have n2 : (k == 2) = false := by simp; omega
    have n3 : (k == 3) = false := by simp; omega
    have n4 : (k == 4) = false := by simp; omega
    have n5 : (k == 5) = false := by simp; omega
    have n6 : (k == 6) = false := by simp; omega
    have n7 : (k == 7) = false := by simp; omega
    have n8 : (k == 8) = false := by simp; omega
    have n9 : (k == 9) = false := by simp; omega
    have n10 : (k == 10) = false := by simp; omega
    go_enter Try.func59, Try.ntmps59
    go_wp2
    go_ret
    exact HR.out
/-- The document's fields of a kind in a version. -/
def OfR (w : World) (k v : Int) (e : Ending) (w' : World) : Prop := ∃ A c, e = .returned (.slice A (ofL k v).length c) ∧ SlN w' A (ofL k v).length c 3 ((ofL k v).flatMap specC) ∧ Below w.heap.size w w'
def accR (k v : Int) (j : Nat) : List SRow := ((ofK k).take j).filter fun r => decide ((r.since : Int) ≤ v)
theorem accR_has (k v : Int) (j : Nat) (hj : j < (ofK k).length) (h : ((ofK k)[j].since : Int) ≤ v) : accR k v (j + 1) = accR k v j ++ [(ofK k)[j]] := by
  unfold accR
  rw [List.take_succ_eq_append_getElem hj, List.filter_append, List.filter_cons_of_pos (by simpa using h)]; rfl
theorem accR_not (k v : Int) (j : Nat) (hj : j < (ofK k).length) (h : ¬ ((ofK k)[j].since : Int) ≤ v) : accR k v (j + 1) = accR k v j := by
  unfold accR
  rw [List.take_succ_eq_append_getElem hj, List.filter_append, List.filter_cons_of_neg (by simpa using h), List.filter_nil, List.append_nil]
theorem accR_len (k v : Int) (j : Nat) : (accR k v j).length ≤ j := by
  unfold accR
  have h := List.length_filter_le (fun r : SRow => decide ((r.since : Int) ≤ v)) ((ofK k).take j)
  rw [List.length_take] at h
  omega
theorem ofK_len (k : Int) : (ofK k).length ≤ 40 := List.length_filter_le _ _
set_option maxRecDepth 100000 in
set_option maxHeartbeats 4000000 in
theorem r8of_any (k v : Int) (w : World) (hk0 : 0 ≤ k) (hk : k ≤ 255) (hv1 : -9223372036854775808 ≤ v) (hv2 : v ≤ 9223372036854775807) : Calls Try.prog 31 #[.int .u8 k, .int .i64 v] w (OfR w k v) := by
  have hnil : (v < 1 ∨ 3 < v) → OfR w k v (.returned (.slice none 0 0)) w := fun h => by
    have h0 : kn v = [] := by rcases kn_one v with rfl | rfl | rfl | ⟨-, h0⟩ <;> first | exact h0 | omega
    have hof := ofL_nil k v h0
    exact ⟨none, 0, by rw [hof]; rfl, by rw [hof]; exact ⟨rfl, Nat.le_refl _, by show (0:Nat) ≤ _; omega, fun _ => rfl, Rd.nil_ w none⟩, Below.refl _ _⟩
  have HNIL := hid hnil
  clear hnil
  by_cases hlo : v < 1
  · go_enter Try.func31, Try.ntmps31
    go_wp2
    go_ret
    exact HNIL.out (.inl hlo)
  by_cases hhi : 3 < v
  · go_enter Try.func31, Try.ntmps31
    go_wp2
    go_ret
    exact HNIL.out (.inr hhi)
  have hin := ofL_in k v hhi
  have HIN := hid hin
  have HROWS := hid (rrows_any k w hk0 hk)
  obtain ⟨i5, hi5, hi50, hi51, hi52⟩ := info_parts Try.infoSpec
  have hk40 := ofK_len k
  have hhas := accR_has k v
  have hnot := accR_not k v
  have hall : accR k v (ofK k).length = ofL k v := by rw [hin]; unfold accR; rw [List.take_length]
  have HALL := hid hall
  have HHAS := hid hhas
  have HNOT := hid hnot
  clear hin hall hhas hnot HNIL
  obtain ⟨R, hR⟩ : ∃ R, OfR w k v = R := ⟨_, rfl⟩
  rw [hR]
  have HR := hid hR
  clear hR
  go_enter Try.func31, Try.ntmps31
  go_wp2_with fail
  refine HROWS.out.mono ?_
  rintro e w1 ⟨A, c, rfl, hs1, hb1⟩
  obtain ⟨m, hm⟩ : ∃ m, (ofK k).length = m := ⟨_, rfl⟩
  rw [hm] at hs1 HALL hk40
  rw [hm]
  have HM := hid hm
  have HS1 := hid hs1
  have HB1 := hid hb1
  clear hm hs1 hb1 HROWS
  go_wp2_with fail
  go_loopw [5, 7] (fun vv i wr => ∃ j : Nat, j ≤ m ∧ i = .int .i64 (j : Int) ∧ wr.ownsRow w1.heap.size 42 3 vv (accR k v j).length ((accR k v j).flatMap specC) ∧ Below w1.heap.size w1 wr) (fun _ i _ => m - (intOf i).toNat)
  case atStart => exact ⟨0, by omega, rfl, World.ownsRow_nil _ _ _ _, Below.refl _ _⟩
  case round =>
    obtain ⟨j, hj, rfl, ho, hB⟩ := hrel
    by_cases hlt : j < m
    · have hjl : j < (ofK k).length := by have := HM.out; omega
      have hn0 : ((ofK k).flatMap rowC)[j * 4 + 0]? = _ := flatMap_get rowC 4 (ofK k) j 0 hjl (fun _ _ => rfl) (by omega)
      have hn1 : ((ofK k).flatMap rowC)[j * 4 + 1]? = _ := flatMap_get rowC 4 (ofK k) j 1 hjl (fun _ _ => rfl) (by omega)
      have hn2 : ((ofK k).flatMap rowC)[j * 4 + 2]? = _ := flatMap_get rowC 4 (ofK k) j 2 hjl (fun _ _ => rfl) (by omega)
      have hn3 : ((ofK k).flatMap rowC)[j * 4 + 3]? = _ := flatMap_get rowC 4 (ofK k) j 3 hjl (fun _ _ => rfl) (by omega)
      have hhas := HHAS.out j hjl
      have hnot := HNOT.out j hjl
      have hal := accR_len k v j
      obtain ⟨b, off, rfl, hbw, t0⟩ := HS1.out.rd _ _ hn0
      have u1 := HS1.out.rd.addr _ _ hn1
      have u2 := HS1.out.rd.addr _ _ hn2
      have u3 := HS1.out.rd.addr _ _ hn3
      rw [addr_add] at u1 u2 u3
      simp only [Nat.add_zero, ← Nat.add_assoc] at t0 u1 u2 u3
      have t0 := (hB.cell (p := ⟨b, off + j * 4, none⟩) hbw).trans t0
      have t1 := (hB.cell (p := ⟨b, off + j * 4 + 1, none⟩) hbw).trans u1
      have t2 := (hB.cell (p := ⟨b, off + j * 4 + 2, none⟩) hbw).trans u2
      have t3 := (hB.cell (p := ⟨b, off + j * 4 + 3, none⟩) hbw).trans u3
      have hji : (j : Int) < (m : Int) := by omega
      have hj0 : (0 : Int) ≤ (j : Int) := by omega
      clear hn0 hn1 hn2 hn3 u1 u2 u3
      generalize (ofK k)[j] = r at *
      obtain ⟨rk, si, nu, ty, sl⟩ := r
      simp only at t0 t1 t2 t3 hhas hnot
      have HO := hid ho
      have HBB := hid hB
      have HHJ := hid hhas
      have HNJ := hid hnot
      clear ho hB hhas hnot
      by_cases hsi : (si : Int) ≤ v
      · have HHJ2 := hid (HHJ.out hsi)
        have hlen := hal
        have hBs := HBB.out.size
        have hob := HO.out
        have ab : u5.ownBlock ≠ some b := fun e => by have := (hob.lt b e).1; omega
        clear HHJ HNJ
        generalize accR k v j = P at *
        generalize hpl : P.length = pl at *
        generalize hpc : P.flatMap specC = pc at *
        have hn5 : pl + 1 ≤ maxLen := by simp only [maxLen]; omega
        have hb5 : (pl + 1) * 24 ≤ 140737488355328 := by omega
        have HPL := hid hpl
        have HPC := hid hpc
        clear hpl hpc HO
        go_wp2_with fail
        go_region_held3 (fun w' => w'.cell? ⟨b, off + j * 4, none⟩ = some (.int .i64 (nu : Int)) ∧ w'.cell? ⟨b, off + j * 4 + 1, none⟩ = some (.int .i64 (ty : Int)) ∧ w'.cell? ⟨b, off + j * 4 + 2, none⟩ = some (.int .i64 (sl : Int)))
          (first
            | go_keep
            | (go_split_ands
               refine ⟨?_, ?_, ?_⟩
               · (rw [hgrow.cell_far _ (by simp; omega) (Ne.symm ab)]; assumption)
               · (rw [hgrow.cell_far _ (by simp; omega) (Ne.symm ab)]; assumption)
               · (rw [hgrow.cell_far _ (by simp; omega) (Ne.symm ab)]; assumption)))
          ((refine step_append_lies _ (by rfl) _ _ _ (by rfl) w1.heap.size 42 i5 _ 3 24 Try.underlying57 hi5 hi50 hi51 hi52 rfl (by omega) u5 pl pc (by rfl) ((hob.alloc _).drew)
              ⟨wr.heap.size, 0, none⟩ 1 1 [.int .i64 (nu : Int), .int .i64 (ty : Int), .int .i64 (sl : Int)] (by rfl) (by rfl) (World.news_of_block (cs := #[.int .i64 (nu : Int), .int .i64 (ty : Int), .int .i64 (sl : Int)]) (t := 42) (fr := (0, 0)) (heap_alloc_new wr _)) (by simp [Value.oneCell'])
              (by omega) hn5 hb5 (by simp; omega) (wr.heap.size + 1) (by simp) ?_; intro gg cap w5 hown1 hgrow hat hlt5))
        have hB5 : Below w1.heap.size w1 w5 := bw_g (bw_d (bw_a HBB.out _) 1) hgrow (fun g hg => (hob.lt g hg).1)
        have HF := hid (And.intro hown1 hB5)
        clear hown1 hgrow hat hlt5 hB5 hob
        go_wp2_with fail
        refine ⟨⟨j + 1, by omega, by go_num, ?_, HF.out.2⟩, by simp [intOf] <;> omega⟩
        rw [HHJ2.out, List.length_append, List.flatMap_append, HPL.out, HPC.out]
        simpa [specC] using HF.out.1
      · go_wp2_with fail
        exact ⟨⟨j + 1, by omega, by go_num, by rw [HNJ.out (by omega)]; exact HO.out, HBB.out⟩, by simp [intOf] <;> omega⟩
    · obtain rfl : j = m := by omega
      rw [HALL.out] at ho
      obtain ⟨A2, c2, rfl, hs2⟩ := SlN.of_own (by omega) ho
      have HS2 := hid hs2
      have HBB := hid hB
      clear ho hs2 hB
      go_wp2_with fail
      rw [← HR.out]
      exact ⟨A2, c2, rfl, HS2.out, HB1.out.trans (HBB.out.mono HB1.out.size)⟩
end Go.Proofs.Ytmcebepfoleknaa
