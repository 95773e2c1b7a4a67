/- schema.Word. · schema.Kind. · What must be whatever is asked (schema). · The document's rows, fields and Find. -/
import Derived.Test.YtmcebepfoleknaaM6
import Derived.Test.YtmcebepfoleknaaM2
import Derived.Test.YtmcebepfoleknaaSc2
import Derived.Test.YtmcebepfoleknaaV2
import Derived.Test.YtmcebepfoleknaaM3
import Derived.Deep.RegionHeld3
import Derived.Deep.AppendLies
import Derived.OwnWalk
import Derived.Laws.Pointers
import Derived.Deep.QuietTactic
import Derived.BigQuiet
set_option linter.unusedVariables false
namespace Go.Proofs.Ytmcebepfoleknaa
open Go.RowKit
def wordA (k : Nat) : ByteArray := match k with
  | 1 => ⟨#[104, 101, 108, 108, 111]⟩ | 2 => ⟨#[97, 99, 107]⟩ | 3 => ⟨#[115, 117, 98, 109, 105, 116]⟩ | 4 => ⟨#[115, 116, 97, 114, 116]⟩ | 5 => ⟨#[99, 111, 109, 109, 97, 110, 100]⟩
  | 6 => ⟨#[114, 101, 112, 108, 121]⟩ | 7 => ⟨#[99, 97, 110, 99, 101, 108]⟩ | 8 => ⟨#[113, 117, 101, 114, 121]⟩ | 9 => ⟨#[115, 116, 97, 116, 117, 115]⟩ | 10 => ⟨#[101, 114, 114, 111, 114]⟩ | _ => ⟨#[]⟩
end Go.Proofs.Ytmcebepfoleknaa
set_option linter.unusedVariables false
namespace Go.Proofs.Ytmcebepfoleknaa
open Go.RowKit
def kindN (b : ByteArray) : Nat := if wordA 1 = b then 1 else if wordA 2 = b then 2 else if wordA 3 = b then 3 else if wordA 4 = b then 4 else if wordA 5 = b then 5 else if wordA 6 = b then 6 else if wordA 7 = b then 7 else if wordA 8 = b then 8 else if wordA 9 = b then 9 else if wordA 10 = b then 10 else 0
theorem kindN_some (b : ByteArray) (j : Nat) (h1 : 1 ≤ j) (h2 : j ≤ 10) (h : wordA j = b) (hno : ∀ i, 1 ≤ i → i < j → wordA i ≠ b) : kindN b = j := by
  have hj : j = 1 ∨ j = 2 ∨ j = 3 ∨ j = 4 ∨ j = 5 ∨ j = 6 ∨ j = 7 ∨ j = 8 ∨ j = 9 ∨ j = 10 := by omega
  unfold kindN
  rcases hj with rfl | rfl | rfl | rfl | rfl | rfl | rfl | rfl | rfl | rfl
  · rw [if_pos h]
  · rw [if_neg (hno 1 (by omega) (by omega)), if_pos h]
  · rw [if_neg (hno 1 (by omega) (by omega)), if_neg (hno 2 (by omega) (by omega)), if_pos h]
  · rw [if_neg (hno 1 (by omega) (by omega)), if_neg (hno 2 (by omega) (by omega)), if_neg (hno 3 (by omega) (by omega)), if_pos h]
  · rw [if_neg (hno 1 (by omega) (by omega)), if_neg (hno 2 (by omega) (by omega)), if_neg (hno 3 (by omega) (by omega)), if_neg (hno 4 (by omega) (by omega)), if_pos h]
  · rw [if_neg (hno 1 (by omega) (by omega)), if_neg (hno 2 (by omega) (by omega)), if_neg (hno 3 (by omega) (by omega)), if_neg (hno 4 (by omega) (by omega)), if_neg (hno 5 (by omega) (by omega)), if_pos h]
  · rw [if_neg (hno 1 (by omega) (by omega)), if_neg (hno 2 (by omega) (by omega)), if_neg (hno 3 (by omega) (by omega)), if_neg (hno 4 (by omega) (by omega)), if_neg (hno 5 (by omega) (by omega)), if_neg (hno 6 (by omega) (by omega)), if_pos h]
  · rw [if_neg (hno 1 (by omega) (by omega)), if_neg (hno 2 (by omega) (by omega)), if_neg (hno 3 (by omega) (by omega)), if_neg (hno 4 (by omega) (by omega)), if_neg (hno 5 (by omega) (by omega)), if_neg (hno 6 (by omega) (by omega)), if_neg (hno 7 (by omega) (by omega)), if_pos h]
  · rw [if_neg (hno 1 (by omega) (by omega)), if_neg (hno 2 (by omega) (by omega)), if_neg (hno 3 (by omega) (by omega)), if_neg (hno 4 (by omega) (by omega)), if_neg (hno 5 (by omega) (by omega)), if_neg (hno 6 (by omega) (by omega)), if_neg (hno 7 (by omega) (by omega)), if_neg (hno 8 (by omega) (by omega)), if_pos h]
  · rw [if_neg (hno 1 (by omega) (by omega)), if_neg (hno 2 (by omega) (by omega)), if_neg (hno 3 (by omega) (by omega)), if_neg (hno 4 (by omega) (by omega)), if_neg (hno 5 (by omega) (by omega)), if_neg (hno 6 (by omega) (by omega)), if_neg (hno 7 (by omega) (by omega)), if_neg (hno 8 (by omega) (by omega)), if_neg (hno 9 (by omega) (by omega)), if_pos h]
theorem kindN_none (b : ByteArray) (hno : ∀ i, 1 ≤ i → i < 11 → wordA i ≠ b) : kindN b = 0 := by
  unfold kindN
  rw [if_neg (hno 1 (by omega) (by omega)), if_neg (hno 2 (by omega) (by omega)), if_neg (hno 3 (by omega) (by omega)), if_neg (hno 4 (by omega) (by omega)), if_neg (hno 5 (by omega) (by omega)), if_neg (hno 6 (by omega) (by omega)), if_neg (hno 7 (by omega) (by omega)), if_neg (hno 8 (by omega) (by omega)), if_neg (hno 9 (by omega) (by omega)), if_neg (hno 10 (by omega) (by omega))]
theorem bstr_ne {q b : ByteArray} (h : q ≠ b) : (q.toList == b.toList) = false := by
  obtain ⟨⟨x⟩⟩ := q
  obtain ⟨⟨y⟩⟩ := b
  have h2 : x ≠ y := fun e => h (by rw [e])
  simpa [ByteArray.toList_eq] using h2
end Go.Proofs.Ytmcebepfoleknaa
set_option linter.unusedVariables false
namespace Go.Proofs.Ytmcebepfoleknaa
open Go.RowKit
theorem row_slice {w : World} {base e size n : Nat} {v : Value} {xs : List Value} (h : w.ownsRow base e size v n xs) : ∃ A c, v = .slice A n c := by
  rcases h.2 with ⟨rfl, h2⟩ | ⟨g, cap, cur, rfl, _⟩
  · exact ⟨none, 0, by rw [h2]⟩
  · exact ⟨_, _, rfl⟩
theorem l8_of1 (W : World) : Calls Try.prog 52 #[.int .u8 6, .int .i64 3] W fun e w' => ∃ A c, e = .returned (.tuple #[.slice A 7 c, .bool true]) ∧ Below W.heap.size W w' :=
  ((callsIn_wide (n := 4)).1 (sof2_in 4 (by omega) 6 3 W (by omega) (by omega))).mono fun e w' ⟨vv, he, ho, hb⟩ => by
    have hl : (ofL 6 3).length = 7 := by decide
    rw [hl] at he ho
    obtain ⟨A, c, rfl⟩ := row_slice ho
    exact ⟨A, c, he, hb⟩
theorem l8_of2 (W : World) : Calls Try.prog 52 #[.int .u8 8, .int .i64 1] W fun e w' => ∃ A c, e = .returned (.tuple #[.slice A 0 c, .bool false]) ∧ Below W.heap.size W w' :=
  ((callsIn_wide (n := 4)).1 (sof2_in 4 (by omega) 8 1 W (by omega) (by omega))).mono fun e w' ⟨vv, he, ho, hb⟩ => by
    have hl : (ofL 8 1).length = 0 := by decide
    rw [hl] at he ho
    obtain ⟨A, c, rfl⟩ := row_slice ho
    exact ⟨A, c, he, hb⟩
theorem l8_kinds (W : World) : Calls Try.prog 104 #[.int .i64 1] W fun e w' => ∃ A c, e = .returned (.slice A 9 c) ∧ Below W.heap.size W w' :=
  ((callsIn_wide (n := 4)).1 (skinds_in 4 (by omega) 1 W (by omega) (by omega))).mono fun e w' ⟨vv, he, ho, hb⟩ => by
    have hl : (kinds 1).length = 9 := by decide
    rw [hl] at ho
    obtain ⟨A, c, rfl⟩ := row_slice ho
    exact ⟨A, c, he, hb⟩
theorem l8_wire (W : World) : Calls Try.prog 115 #[.int .i64 5] W fun e w' => e = .returned (.tuple #[.int .u8 5, .bool true]) ∧ w' = W := swire_any 5 W
theorem l8_most (W : World) : Calls Try.prog 71 #[.int .i64 9] W fun e w' => e = .returned (.int .i64 7000) ∧ w' = W := smost_any 9 W
end Go.Proofs.Ytmcebepfoleknaa
set_option linter.unusedVariables false
namespace Go.Proofs.Ytmcebepfoleknaa
open Go.RowKit
def rowC (r : SRow) : List Value := [.int .i64 (r.num : Nat), .int .i64 (r.typ : Nat), .int .i64 (r.slot : Nat), .int .i64 (r.since : Nat)]
theorem sln_lit (w : World) (t : TypeId) (xs : List Value) (cs : Array Value) (n size : Nat) (h : cs.toList = xs) (hl : xs.length = n * size) (hm : n ≤ 1000) : SlN (w.alloc (.cells cs t)) (some ⟨w.heap.size, 0, none⟩) n n size xs :=
  ⟨hl, Nat.le_refl _, by omega, (fun h => by cases h), by rw [← h]; exact Rd.new w t cs⟩
/-- Rows of the document. -/
def RowsR (w : World) (k : Int) (e : Ending) (w' : World) : Prop := ∃ A c, e = .returned (.slice A (ofK k).length c) ∧ SlN w' A (ofK k).length c 4 ((ofK k).flatMap rowC) ∧ Below w.heap.size w w'
theorem rowsR_lit (w : World) (k : Int) (n : Nat) (cs : Array Value) (t : TypeId) (hn : (ofK k).length = n) (hm : n ≤ 1000) (hc : cs.toList = (ofK k).flatMap rowC) : RowsR w k (.returned (.slice (some ⟨w.heap.size, 0, none⟩) n n)) (w.alloc (.cells cs t)) := by
  subst hn
  refine ⟨_, _, rfl, sln_lit w t _ cs _ 4 hc ?_ hm, bw_a (Below.refl _ w) _⟩
  exact flatMap_length rowC 4 _ (fun _ _ => rfl)
set_option maxRecDepth 100000 in
set_option maxHeartbeats 2000000 in
theorem rrows_any (k : Int) (w : World) (hk0 : 0 ≤ k) (hk : k ≤ 255) : Calls Try.prog 59 #[.int .u8 k] w (RowsR w k) := by
  have hcase : k = 1 ∨ k = 2 ∨ k = 3 ∨ k = 4 ∨ k = 5 ∨ k = 6 ∨ k = 7 ∨ k = 8 ∨ k = 9 ∨ k = 10 ∨ (k = 0 ∨ 10 < k) := by omega
  rcases hcase with rfl | rfl | rfl | rfl | rfl | rfl | rfl | rfl | rfl | rfl | hk2
  · go_enter Try.func59, Try.ntmps59
    go_wp2
    go_ret
    exact rowsR_lit w 1 _ _ _ (by decide +kernel) (by omega) (by kernel_rfl)
  · go_enter Try.func59, Try.ntmps59
    go_wp2
    go_ret
    exact rowsR_lit w 2 _ _ _ (by decide +kernel) (by omega) (by kernel_rfl)
  · go_enter Try.func59, Try.ntmps59
    go_wp2
    go_ret
    exact rowsR_lit w 3 _ _ _ (by decide +kernel) (by omega) (by kernel_rfl)
  · go_enter Try.func59, Try.ntmps59
    go_wp2
    go_ret
    exact rowsR_lit w 4 _ _ _ (by decide +kernel) (by omega) (by kernel_rfl)
  · go_enter Try.func59, Try.ntmps59
    go_wp2
    go_ret
    exact rowsR_lit w 5 _ _ _ (by decide +kernel) (by omega) (by kernel_rfl)
  · go_enter Try.func59, Try.ntmps59
    go_wp2
    go_ret
    exact rowsR_lit w 6 _ _ _ (by decide +kernel) (by omega) (by kernel_rfl)
  · go_enter Try.func59, Try.ntmps59
    go_wp2
    go_ret
    exact rowsR_lit w 7 _ _ _ (by decide +kernel) (by omega) (by kernel_rfl)
  · go_enter Try.func59, Try.ntmps59
    go_wp2
    go_ret
    exact rowsR_lit w 8 _ _ _ (by decide +kernel) (by omega) (by kernel_rfl)
  · go_enter Try.func59, Try.ntmps59
    go_wp2
    go_ret
    exact rowsR_lit w 9 _ _ _ (by decide +kernel) (by omega) (by kernel_rfl)
  · go_enter Try.func59, Try.ntmps59
    go_wp2
    go_ret
    exact rowsR_lit w 10 _ _ _ (by decide +kernel) (by omega) (by kernel_rfl)
  · have hof : ofK k = [] := by
      unfold ofK
      rw [List.filter_eq_nil_iff]
      intro r hr
      have h2 := List.all_eq_true.1 (show ROWS.all (fun r => decide (1 ≤ r.kind ∧ r.kind ≤ 10)) = true by decide) r hr
      simp at h2 ⊢
      omega
    have hR : RowsR w k (.returned (.slice none 0 0)) w := ⟨none, 0, by rw [hof]; rfl, by rw [hof]; exact ⟨rfl, Nat.le_refl _, by show (0:Nat) ≤ _; omega, fun _ => rfl, Rd.nil_ w none⟩, Below.refl _ _⟩
    have HR := hid hR
    clear hR hof
    have n1 : (k == 1) = false := by simp; omega
    have n2 : (k == 2) = false := by simp; omega
    have n3 : (k == 3) = false := by simp; omega
    have n4 : (k == 4) = false := by simp; omega
    have n5 : (k == 5) = false := by simp; omega
    have n6 : (k == 6) = false := by simp; omega
    have n7 : (k == 7) = false := by simp; omega
    have n8 : (k == 8) = false := by simp; omega
    have n9 : (k == 9) = false := by simp; omega
    have n10 : (k == 10) = false := by simp; omega
    go_enter Try.func59, Try.ntmps59
    go_wp2
    go_ret
    exact HR.out
/-- The document's fields of a kind in a version. -/
def OfR (w : World) (k v : Int) (e : Ending) (w' : World) : Prop := ∃ A c, e = .returned (.slice A (ofL k v).length c) ∧ SlN w' A (ofL k v).length c 3 ((ofL k v).flatMap specC) ∧ Below w.heap.size w w'
def accR (k v : Int) (j : Nat) : List SRow := ((ofK k).take j).filter fun r => decide ((r.since : Int) ≤ v)
theorem accR_has (k v : Int) (j : Nat) (hj : j < (ofK k).length) (h : ((ofK k)[j].since : Int) ≤ v) : accR k v (j + 1) = accR k v j ++ [(ofK k)[j]] := by
  unfold accR
  rw [List.take_succ_eq_append_getElem hj, List.filter_append, List.filter_cons_of_pos (by simpa using h)]; rfl
theorem accR_not (k v : Int) (j : Nat) (hj : j < (ofK k).length) (h : ¬ ((ofK k)[j].since : Int) ≤ v) : accR k v (j + 1) = accR k v j := by
  unfold accR
  rw [List.take_succ_eq_append_getElem hj, List.filter_append, List.filter_cons_of_neg (by simpa using h), List.filter_nil, List.append_nil]
theorem accR_len (k v : Int) (j : Nat) : (accR k v j).length ≤ j := by
  unfold accR
  have h := List.length_filter_le (fun r : SRow => decide ((r.since : Int) ≤ v)) ((ofK k).take j)
  rw [List.length_take] at h
  omega
theorem ofK_len (k : Int) : (ofK k).length ≤ 40 := List.length_filter_le _ _
theorem specC_len3 (l : List SRow) : (l.flatMap specC).length = l.length * 3 := flatMap_length specC 3 l (fun _ _ => rfl)
set_option maxRecDepth 100000 in
set_option maxHeartbeats 4000000 in
theorem r8of_any (k v : Int) (w : World) (hk0 : 0 ≤ k) (hk : k ≤ 255) (hv1 : -9223372036854775808 ≤ v) (hv2 : v ≤ 9223372036854775807) : Calls Try.prog 31 #[.int .u8 k, .int .i64 v] w (OfR w k v) := by
  have hnil : (v < 1 ∨ 3 < v) → OfR w k v (.returned (.slice none 0 0)) w := fun h => by
    have h0 : kn v = [] := by rcases kn_one v with rfl | rfl | rfl | ⟨-, h0⟩ <;> first | exact h0 | omega
    have hof := ofL_nil k v h0
    exact ⟨none, 0, by rw [hof]; rfl, by rw [hof]; exact ⟨rfl, Nat.le_refl _, by show (0:Nat) ≤ _; omega, fun _ => rfl, Rd.nil_ w none⟩, Below.refl _ _⟩
  have HNIL := hid hnil
  clear hnil
  by_cases hlo : v < 1
  · go_enter Try.func31, Try.ntmps31
    go_wp2
    go_ret
    exact HNIL.out (.inl hlo)
  by_cases hhi : 3 < v
  · go_enter Try.func31, Try.ntmps31
    go_wp2
    go_ret
    exact HNIL.out (.inr hhi)
  have hin := ofL_in k v hhi
  have HIN := hid hin
  have HROWS := hid (rrows_any k w hk0 hk)
  obtain ⟨i5, hi5, hi50, hi51, hi52⟩ := info_parts Try.infoSpec
  have hk40 := ofK_len k
  have hhas := accR_has k v
  have hnot := accR_not k v
  have hall : accR k v (ofK k).length = ofL k v := by rw [hin]; unfold accR; rw [List.take_length]
  have HALL := hid hall
  have HHAS := hid hhas
  have HNOT := hid hnot
  clear hin hall hhas hnot HNIL
  obtain ⟨R, hR⟩ : ∃ R, OfR w k v = R := ⟨_, rfl⟩
  rw [hR]
  have HR := hid hR
  clear hR
  go_enter Try.func31, Try.ntmps31
  go_wp2_with fail
  refine HROWS.out.mono ?_
  rintro e w1 ⟨A, c, rfl, hs1, hb1⟩
  obtain ⟨m, hm⟩ : ∃ m, (ofK k).length = m := ⟨_, rfl⟩
  rw [hm] at hs1 HALL hk40
  rw [hm]
  have HM := hid hm
  have HS1 := hid hs1
  have HB1 := hid hb1
  clear hm hs1 hb1 HROWS
  go_wp2_with fail
  go_loopw [5, 7] (fun vv i wr => ∃ j : Nat, j ≤ m ∧ i = .int .i64 (j : Int) ∧ wr.ownsRow w1.heap.size 42 3 vv (accR k v j).length ((accR k v j).flatMap specC) ∧ Below w1.heap.size w1 wr) (fun _ i _ => m - (intOf i).toNat)
  case atStart => exact ⟨0, by omega, rfl, World.ownsRow_nil _ _ _ _, Below.refl _ _⟩
  case round =>
    obtain ⟨j, hj, rfl, ho, hB⟩ := hrel
    by_cases hlt : j < m
    · have hjl : j < (ofK k).length := by have := HM.out; omega
      have hn0 : ((ofK k).flatMap rowC)[j * 4 + 0]? = _ := flatMap_get rowC 4 (ofK k) j 0 hjl (fun _ _ => rfl) (by omega)
      have hn1 : ((ofK k).flatMap rowC)[j * 4 + 1]? = _ := flatMap_get rowC 4 (ofK k) j 1 hjl (fun _ _ => rfl) (by omega)
      have hn2 : ((ofK k).flatMap rowC)[j * 4 + 2]? = _ := flatMap_get rowC 4 (ofK k) j 2 hjl (fun _ _ => rfl) (by omega)
      have hn3 : ((ofK k).flatMap rowC)[j * 4 + 3]? = _ := flatMap_get rowC 4 (ofK k) j 3 hjl (fun _ _ => rfl) (by omega)
      have hhas := HHAS.out j hjl
      have hnot := HNOT.out j hjl
      have hal := accR_len k v j
      obtain ⟨b, off, rfl, hbw, t0⟩ := HS1.out.rd _ _ hn0
      have u1 := HS1.out.rd.addr _ _ hn1
      have u2 := HS1.out.rd.addr _ _ hn2
      have u3 := HS1.out.rd.addr _ _ hn3
      rw [addr_add] at u1 u2 u3
      simp only [Nat.add_zero, ← Nat.add_assoc] at t0 u1 u2 u3
      have t0 := (hB.cell (p := ⟨b, off + j * 4, none⟩) hbw).trans t0
      have t1 := (hB.cell (p := ⟨b, off + j * 4 + 1, none⟩) hbw).trans u1
      have t2 := (hB.cell (p := ⟨b, off + j * 4 + 2, none⟩) hbw).trans u2
      have t3 := (hB.cell (p := ⟨b, off + j * 4 + 3, none⟩) hbw).trans u3
      have hji : (j : Int) < (m : Int) := by omega
      have hj0 : (0 : Int) ≤ (j : Int) := by omega
      clear hn0 hn1 hn2 hn3 u1 u2 u3
      generalize (ofK k)[j] = r at *
      obtain ⟨rk, si, nu, ty, sl⟩ := r
      simp only at t0 t1 t2 t3 hhas hnot
      have HO := hid ho
      have HBB := hid hB
      have HHJ := hid hhas
      have HNJ := hid hnot
      clear ho hB hhas hnot
      by_cases hsi : (si : Int) ≤ v
      · have HHJ2 := hid (HHJ.out hsi)
        have hlen := hal
        have hBs := HBB.out.size
        have hob := HO.out
        have ab : u5.ownBlock ≠ some b := fun e => by have := (hob.lt b e).1; omega
        clear HHJ HNJ
        generalize accR k v j = P at *
        generalize hpl : P.length = pl at *
        generalize hpc : P.flatMap specC = pc at *
        have hn5 : pl + 1 ≤ maxLen := by simp only [maxLen]; omega
        have hb5 : (pl + 1) * 24 ≤ 140737488355328 := by omega
        have HPL := hid hpl
        have HPC := hid hpc
        clear hpl hpc HO
        go_wp2_with fail
        go_region_held3 (fun w' => w'.cell? ⟨b, off + j * 4, none⟩ = some (.int .i64 (nu : Int)) ∧ w'.cell? ⟨b, off + j * 4 + 1, none⟩ = some (.int .i64 (ty : Int)) ∧ w'.cell? ⟨b, off + j * 4 + 2, none⟩ = some (.int .i64 (sl : Int)))
          (first
            | go_keep
            | (go_split_ands
               refine ⟨?_, ?_, ?_⟩
               · (rw [hgrow.cell_far _ (by simp; omega) (Ne.symm ab)]; assumption)
               · (rw [hgrow.cell_far _ (by simp; omega) (Ne.symm ab)]; assumption)
               · (rw [hgrow.cell_far _ (by simp; omega) (Ne.symm ab)]; assumption)))
          ((refine step_append_lies _ (by rfl) _ _ _ (by rfl) w1.heap.size 42 i5 _ 3 24 Try.underlying57 hi5 hi50 hi51 hi52 rfl (by omega) u5 pl pc (by rfl) ((hob.alloc _).drew)
              ⟨wr.heap.size, 0, none⟩ 1 1 [.int .i64 (nu : Int), .int .i64 (ty : Int), .int .i64 (sl : Int)] (by rfl) (by rfl) (World.news_of_block (cs := #[.int .i64 (nu : Int), .int .i64 (ty : Int), .int .i64 (sl : Int)]) (t := 42) (fr := (0, 0)) (heap_alloc_new wr _)) (by simp [Value.oneCell'])
              (by omega) hn5 hb5 (by simp; omega) (wr.heap.size + 1) (by simp) ?_; intro gg cap w5 hown1 hgrow hat hlt5))
        have hB5 : Below w1.heap.size w1 w5 := bw_g (bw_d (bw_a HBB.out _) 1) hgrow (fun g hg => (hob.lt g hg).1)
        have HF := hid (And.intro hown1 hB5)
        clear hown1 hgrow hat hlt5 hB5 hob
        go_wp2_with fail
        refine ⟨⟨j + 1, by omega, by go_num, ?_, HF.out.2⟩, by simp [intOf] <;> omega⟩
        rw [HHJ2.out, List.length_append, List.flatMap_append, HPL.out, HPC.out]
        simpa [specC] using HF.out.1
      · go_wp2_with fail
        exact ⟨⟨j + 1, by omega, by go_num, by rw [HNJ.out (by omega)]; exact HO.out, HBB.out⟩, by simp [intOf] <;> omega⟩
    · obtain rfl : j = m := by omega
      rw [HALL.out] at ho
      obtain ⟨A2, c2, rfl, hs2⟩ := SlN.of_own (by omega) ho
      have HS2 := hid hs2
      have HBB := hid hB
      clear ho hs2 hB
      go_wp2_with fail
      rw [← HR.out]
      exact ⟨A2, c2, rfl, HS2.out, HB1.out.trans (HBB.out.mono HB1.out.size)⟩
set_option maxRecDepth 100000 in
set_option maxHeartbeats 2000000 in
theorem r8find_any (k v n : Int) (w : World) (hk0 : 0 ≤ k) (hk : k ≤ 255) (hv1 : -9223372036854775808 ≤ v) (hv2 : v ≤ 9223372036854775807) : Calls Try.prog 67 #[.int .u8 k, .int .i64 v, .int .i64 n] w fun e w' => e = .returned (.tuple #[specO (finS k v n), .bool (finS k v n).isSome]) ∧ Below w.heap.size w w' := by
  have hof := fun W => r8of_any k v W hk0 hk hv1 hv2
  have hfs := finS_of k v n
  have HOF := hid hof
  obtain ⟨R, hR⟩ : ∃ R : Ending → World → Prop, R = fun e w' => e = .returned (.tuple #[specO (finS k v n), .bool (finS k v n).isSome]) ∧ Below w.heap.size w w' := ⟨_, rfl⟩
  rw [← hR]
  have HR := hid hR
  have HFS := hid hfs
  clear hR hof hfs
  go_enter Try.func67, Try.ntmps67
  go_wp2_with fail
  obtain ⟨s, hsz⟩ : ∃ s, w.heap.size = s := ⟨_, rfl⟩
  have hk0' := Blk.new w 42 #[.int .i64 0, .int .i64 0, .int .i64 0]
  have hb0 := bw_a (Below.refl w.heap.size w) (.cells #[.int .i64 0, .int .i64 0, .int .i64 0] 42)
  rw [hsz] at hk0' hb0 ⊢
  generalize w.alloc _ = w0 at *
  refine (HOF.out w0).mono ?_
  rintro e w1 ⟨A, c, rfl, hs1, hb1⟩
  have hk1 := hk0'.below hb1 hk0'.lt
  have hb01 : Below s w w1 := hb0.trans (hb1.mono (Nat.le_of_lt hk0'.lt))
  have hq40 := ofL_le40 k v
  obtain ⟨L, hL⟩ : ∃ L, ofL k v = L := ⟨_, rfl⟩
  rw [hL] at hs1 HFS hq40
  rw [hL]
  clear hL hb1 hk0' hb0 HOF
  obtain ⟨m, hm⟩ : ∃ m, L.length = m := ⟨_, rfl⟩
  rw [hm] at hs1 hq40
  rw [hm]
  have HM := hid hm
  have HS1 := hid hs1
  have HK1 := hid hk1
  have HB1 := hid hb01
  have hf0 := hk1.frozen 0
  have hf1 := hk1.frozen 1
  have hf2 := hk1.frozen 2
  have c0 := hk1.cell 0
  have c1 := hk1.cell 1
  have c2 := hk1.cell 2
  simp only [List.getElem?_toArray, List.getElem?_cons_zero, List.getElem?_cons_succ] at c0 c1 c2
  clear hm hs1 hk1 hb01
  go_wp2_with fail
  have hend := fun (x y z : Value) => ((HK1.out.set_ 0 x).set_ 1 y).set_ 2 z
  have hendb := fun (x y z : Value) => ((((Chg.refl (fun q => q = s) w1).set_ (.inl rfl) 0 x).set_ (.inl rfl) 1 y).set_ (.inl rfl) 2 z).below (B := s) (fun q hq => by omega) (by have := HK1.out.lt; omega)
  have HEND := hid hend
  have HENDB := hid hendb
  clear hend hendb
  go_loopw [9] (fun i wr => ∃ j : Nat, j ≤ m ∧ i = .int .i64 (j : Int) ∧ (L.take j).find? (fun r => decide ((r.num : Int) = n)) = none ∧ wr = w1) (fun i _ => m - (intOf i).toNat)
  case atStart => exact ⟨0, by omega, rfl, rfl, rfl⟩
  case round =>
    obtain ⟨j, hj, rfl, hno, rfl⟩ := hrel
    by_cases hlt : j < m
    · have hjl : j < L.length := by have := HM.out; omega
      have hn0 : (L.flatMap specC)[j * 3 + 0]? = _ := flatMap_get specC 3 L j 0 hjl (fun _ _ => rfl) (by omega)
      have hn1 : (L.flatMap specC)[j * 3 + 1]? = _ := flatMap_get specC 3 L j 1 hjl (fun _ _ => rfl) (by omega)
      have hn2 : (L.flatMap specC)[j * 3 + 2]? = _ := flatMap_get specC 3 L j 2 hjl (fun _ _ => rfl) (by omega)
      have hfound : ((L[j].num : Int) = n) → L.find? (fun r => decide ((r.num : Int) = n)) = some L[j] := fun h => by
        have h1 : L = L.take j ++ (L[j] :: L.drop (j + 1)) := by rw [List.getElem_cons_drop, List.take_append_drop]
        conv => lhs; rw [h1]
        rw [List.find?_append, hno, Option.none_or, List.find?_cons_of_pos (by simpa using h)]
      have hnext : ¬ ((L[j].num : Int) = n) → (L.take (j + 1)).find? (fun r => decide ((r.num : Int) = n)) = none := fun h => by
        rw [List.take_succ_eq_append_getElem hjl, List.find?_append, hno]
        simp [h]
      obtain ⟨b, off, rfl, hbw, t0⟩ := HS1.out.rd _ _ hn0
      have t1 := HS1.out.rd.addr _ _ hn1
      have t2 := HS1.out.rd.addr _ _ hn2
      rw [addr_add] at t1 t2
      simp only [Nat.add_zero, ← Nat.add_assoc] at t0 t1 t2
      have hji : (j : Int) < (m : Int) := by omega
      have hj0 : (0 : Int) ≤ (j : Int) := by omega
      clear hn0 hn1 hn2 hno
      generalize L[j] = r at *
      obtain ⟨rk, si, nu, ty, sl⟩ := r
      simp only at t0 t1 t2 hfound hnext
      have HFO := hid hfound
      have HNX := hid hnext
      clear hfound hnext
      by_cases hnu : (nu : Int) = n
      · have hnb : ((nu : Int) == n) = true := by simpa using hnu
        have hfin := HFO.out hnu
        rw [← HFS.out] at hfin
        have HFIN := hid hfin
        clear hfin HFO HNX hnu
        go_wp2_with fail
        have hbk := HEND.out (.int .i64 (nu : Nat)) (.int .i64 (ty : Nat)) (.int .i64 (sl : Nat))
        have hbb := HENDB.out (.int .i64 (nu : Nat)) (.int .i64 (ty : Nat)) (.int .i64 (sl : Nat))
        have g0 := hbk.cell 0
        have g1 := hbk.cell 1
        have g2 := hbk.cell 2
        generalize World.setCell (World.setCell _ _ _) _ _ = W9 at *
        simp at g0 g1 g2
        refine bodyPost_ret (v := .tuple #[.agg #[.int .i64 (nu : Nat), .int .i64 (ty : Nat), .int .i64 (sl : Nat)], .bool true]) (by simp [results, Try.results67, go_sem, g0, g1, g2]) rfl ?_
        rw [HR.out, HFIN.out, hsz]
        exact ⟨rfl, HB1.out.trans hbb⟩
      · have hnb : ((nu : Int) == n) = false := by simpa using hnu
        have hnx := HNX.out hnu
        have HNX2 := hid hnx
        clear hnx HFO HNX hnu
        go_wp2_with fail
        exact ⟨⟨j + 1, by omega, by go_num, HNX2.out, trivial⟩, by simp [intOf] <;> omega⟩
    · obtain rfl : j = m := by omega
      rw [List.take_of_length_le (by have := HM.out; omega), ← HFS.out] at hno
      have HNO := hid hno
      clear hno
      go_wp2_with fail
      have hbk := HEND.out (.int .i64 0) (.int .i64 0) (.int .i64 0)
      have hbb := HENDB.out (.int .i64 0) (.int .i64 0) (.int .i64 0)
      have g0 := hbk.cell 0
      have g1 := hbk.cell 1
      have g2 := hbk.cell 2
      generalize World.setCell (World.setCell _ _ _) _ _ = W9 at *
      simp at g0 g1 g2
      refine bodyPost_ret (v := .tuple #[.agg #[.int .i64 0, .int .i64 0, .int .i64 0], .bool false]) (by simp [results, Try.results67, go_sem, g0, g1, g2]) rfl ?_
      rw [HR.out, HNO.out, hsz]
      exact ⟨rfl, HB1.out.trans hbb⟩
end Go.Proofs.Ytmcebepfoleknaa
