/- schema.Word. · schema.Kind. · What must be whatever is asked (schema). · The document's rows, fields and Find. -/
import Derived.Test.YtnfodgjihdoncaaM6
import Derived.Test.YtnfodgjihdoncaaM2
import Derived.Test.YtnfodgjihdoncaaSc2
import Derived.Test.YtnfodgjihdoncaaV2
import Derived.Test.YtnfodgjihdoncaaM3
import Derived.Deep.RegionHeld3
import Derived.Deep.AppendLies
import Derived.OwnWalk
import Derived.Laws.Pointers
import Derived.Deep.QuietTactic
import Derived.BigQuiet
set_option linter.unusedVariables false
namespace Go.Proofs.Ytnfodgjihdoncaa
open Go.RowKit
def wordA (k : Nat) : ByteArray := match k with
  | 1 => ⟨#[104, 101, 108, 108, 111]⟩ | 2 => ⟨#[97, 99, 107]⟩ | 3 => ⟨#[115, 117, 98, 109, 105, 116]⟩ | 4 => ⟨#[115, 116, 97, 114, 116]⟩ | 5 => ⟨#[99, 111, 109, 109, 97, 110, 100]⟩
  | 6 => ⟨#[114, 101, 112, 108, 121]⟩ | 7 => ⟨#[99, 97, 110, 99, 101, 108]⟩ | 8 => ⟨#[113, 117, 101, 114, 121]⟩ | 9 => ⟨#[115, 116, 97, 116, 117, 115]⟩ | 10 => ⟨#[101, 114, 114, 111, 114]⟩ | _ => ⟨#[]⟩
end Go.Proofs.Ytnfodgjihdoncaa
set_option linter.unusedVariables false
namespace Go.Proofs.Ytnfodgjihdoncaa
open Go.RowKit
def kindN (b : ByteArray) : Nat := if wordA 1 = b then 1 else if wordA 2 = b then 2 else if wordA 3 = b then 3 else if wordA 4 = b then 4 else if wordA 5 = b then 5 else if wordA 6 = b then 6 else if wordA 7 = b then 7 else if wordA 8 = b then 8 else if wordA 9 = b then 9 else if wordA 10 = b then 10 else 0
theorem kindN_some (b : ByteArray) (j : Nat) (h1 : 1 ≤ j) (h2 : j ≤ 10) (h : wordA j = b) (hno : ∀ i, 1 ≤ i → i < j → wordA i ≠ b) : kindN b = j := by
  have hj : j = 1 ∨ j = 2 ∨ j = 3 ∨ j = 4 ∨ j = 5 ∨ j = 6 ∨ j = 7 ∨ j = 8 ∨ j = 9 ∨ j = 10 := by omega
  unfold kindN
  rcases hj with rfl | rfl | rfl | rfl | rfl | rfl | rfl | rfl | rfl | rfl
  · rw [if_pos h]
  · rw [if_neg (hno 1 (by omega) (by omega)), if_pos h]
  · rw [if_neg (hno 1 (by omega) (by omega)), if_neg (hno 2 (by omega) (by omega)), if_pos h]
  · rw [if_neg (hno 1 (by omega) (by omega)), if_neg (hno 2 (by omega) (by omega)), if_neg (hno 3 (by omega) (by omega)), if_pos h]
  · rw [if_neg (hno 1 (by omega) (by omega)), if_neg (hno 2 (by omega) (by omega)), if_neg (hno 3 (by omega) (by omega)), if_neg (hno 4 (by omega) (by omega)), if_pos h]
  · rw [if_neg (hno 1 (by omega) (by omega)), if_neg (hno 2 (by omega) (by omega)), if_neg (hno 3 (by omega) (by omega)), if_neg (hno 4 (by omega) (by omega)), if_neg (hno 5 (by omega) (by omega)), if_pos h]
  · rw [if_neg (hno 1 (by omega) (by omega)), if_neg (hno 2 (by omega) (by omega)), if_neg (hno 3 (by omega) (by omega)), if_neg (hno 4 (by omega) (by omega)), if_neg (hno 5 (by omega) (by omega)), if_neg (hno 6 (by omega) (by omega)), if_pos h]
  · rw [if_neg (hno 1 (by omega) (by omega)), if_neg (hno 2 (by omega) (by omega)), if_neg (hno 3 (by omega) (by omega)), if_neg (hno 4 (by omega) (by omega)), if_neg (hno 5 (by omega) (by omega)), if_neg (hno 6 (by omega) (by omega)), if_neg (hno 7 (by omega) (by omega)), if_pos h]
  · rw [if_neg (hno 1 (by omega) (by omega)), if_neg (hno 2 (by omega) (by omega)), if_neg (hno 3 (by omega) (by omega)), if_neg (hno 4 (by omega) (by omega)), if_neg (hno 5 (by omega) (by omega)), if_neg (hno 6 (by omega) (by omega)), if_neg (hno 7 (by omega) (by omega)), if_neg (hno 8 (by omega) (by omega)), if_pos h]
  · rw [if_neg (hno 1 (by omega) (by omega)), if_neg (hno 2 (by omega) (by omega)), if_neg (hno 3 (by omega) (by omega)), if_neg (hno 4 (by omega) (by omega)), if_neg (hno 5 (by omega) (by omega)), if_neg (hno 6 (by omega) (by omega)), if_neg (hno 7 (by omega) (by omega)), if_neg (hno 8 (by omega) (by omega)), if_neg (hno 9 (by omega) (by omega)), if_pos h]
theorem kindN_none (b : ByteArray) (hno : ∀ i, 1 ≤ i → i < 11 → wordA i ≠ b) : kindN b = 0 := by
  unfold kindN
  rw [if_neg (hno 1 (by omega) (by omega)), if_neg (hno 2 (by omega) (by omega)), if_neg (hno 3 (by omega) (by omega)), if_neg (hno 4 (by omega) (by omega)), if_neg (hno 5 (by omega) (by omega)), if_neg (hno 6 (by omega) (by omega)), if_neg (hno 7 (by omega) (by omega)), if_neg (hno 8 (by omega) (by omega)), if_neg (hno 9 (by omega) (by omega)), if_neg (hno 10 (by omega) (by omega))]
theorem bstr_ne {q b : ByteArray} (h : q ≠ b) : (q.toList == b.toList) = false := by
  obtain ⟨⟨x⟩⟩ := q
  obtain ⟨⟨y⟩⟩ := b
  have h2 : x ≠ y := fun e => h (by rw [e])
  simpa [ByteArray.toList_eq] using h2
end Go.Proofs.Ytnfodgjihdoncaa
set_option linter.unusedVariables false
namespace Go.Proofs.Ytnfodgjihdoncaa
open Go.RowKit
theorem row_slice {w : World} {base e size n : Nat} {v : Value} {xs : List Value} (h : w.ownsRow base e size v n xs) : ∃ A c, v = .slice A n c := by
  rcases h.2 with ⟨rfl, h2⟩ | ⟨g, cap, cur, rfl, _⟩
  · exact ⟨none, 0, by rw [h2]⟩
  · exact ⟨_, _, rfl⟩
theorem l8_of1 (W : World) : Calls Try.prog 74 #[.int .u8 6, .int .i64 3] W fun e w' => ∃ A c, e = .returned (.tuple #[.slice A 7 c, .bool true]) ∧ Below W.heap.size W w' :=
  ((callsIn_wide (n := 4)).1 (sof2_in 4 (by omega) 6 3 W (by omega) (by omega))).mono fun e w' ⟨vv, he, ho, hb⟩ => by
    have hl : (ofL 6 3).length = 7 := by decide
    rw [hl] at he ho
    obtain ⟨A, c, rfl⟩ := row_slice ho
    exact ⟨A, c, he, hb⟩
theorem l8_of2 (W : World) : Calls Try.prog 74 #[.int .u8 8, .int .i64 1] W fun e w' => ∃ A c, e = .returned (.tuple #[.slice A 0 c, .bool false]) ∧ Below W.heap.size W w' :=
  ((callsIn_wide (n := 4)).1 (sof2_in 4 (by omega) 8 1 W (by omega) (by omega))).mono fun e w' ⟨vv, he, ho, hb⟩ => by
    have hl : (ofL 8 1).length = 0 := by decide
    rw [hl] at he ho
    obtain ⟨A, c, rfl⟩ := row_slice ho
    exact ⟨A, c, he, hb⟩
theorem l8_wire (W : World) : Calls Try.prog 120 #[.int .i64 5] W fun e w' => e = .returned (.tuple #[.int .u8 5, .bool true]) ∧ w' = W := swire_any 5 W
theorem l8_most (W : World) : Calls Try.prog 96 #[.int .i64 9] W fun e w' => e = .returned (.int .i64 7000) ∧ w' = W := smost_any 9 W
end Go.Proofs.Ytnfodgjihdoncaa
set_option linter.unusedVariables false
namespace Go.Proofs.Ytnfodgjihdoncaa
open Go.RowKit
def rowC (r : SRow) : List Value := [.int .i64 (r.num : Nat), .int .i64 (r.typ : Nat), .int .i64 (r.slot : Nat), .int .i64 (r.since : Nat)]
theorem sln_lit (w : World) (t : TypeId) (xs : List Value) (cs : Array Value) (n size : Nat) (h : cs.toList = xs) (hl : xs.length = n * size) (hm : n ≤ 1000) : SlN (w.alloc (.cells cs t)) (some ⟨w.heap.size, 0, none⟩) n n size xs :=
  ⟨hl, Nat.le_refl _, by omega, (fun h => by cases h), by rw [← h]; exact Rd.new w t cs⟩
/-- Rows of the document. -/
def RowsR (w : World) (k : Int) (e : Ending) (w' : World) : Prop := ∃ A c, e = .returned (.slice A (ofK k).length c) ∧ SlN w' A (ofK k).length c 4 ((ofK k).flatMap rowC) ∧ Below w.heap.size w w'
theorem rowsR_lit (w : World) (k : Int) (n : Nat) (cs : Array Value) (t : TypeId) (hn : (ofK k).length = n) (hm : n ≤ 1000) (hc : cs.toList = (ofK k).flatMap rowC) : RowsR w k (.returned (.slice (some ⟨w.heap.size, 0, none⟩) n n)) (w.alloc (.cells cs t)) := by
  subst hn
  refine ⟨_, _, rfl, sln_lit w t _ cs _ 4 hc ?_ hm, bw_a (Below.refl _ w) _⟩
  exact flatMap_length rowC 4 _ (fun _ _ => rfl)
/-- The document's fields of a kind in a version. -/
def OfR (w : World) (k v : Int) (e : Ending) (w' : World) : Prop := ∃ A c, e = .returned (.slice A (ofL k v).length c) ∧ SlN w' A (ofL k v).length c 3 ((ofL k v).flatMap specC) ∧ Below w.heap.size w w'
def accR (k v : Int) (j : Nat) : List SRow := ((ofK k).take j).filter fun r => decide ((r.since : Int) ≤ v)
theorem accR_has (k v : Int) (j : Nat) (hj : j < (ofK k).length) (h : ((ofK k)[j].since : Int) ≤ v) : accR k v (j + 1) = accR k v j ++ [(ofK k)[j]] := by
  unfold accR
  rw [List.take_succ_eq_append_getElem hj, List.filter_append, List.filter_cons_of_pos (by simpa using h)]; rfl
theorem accR_not (k v : Int) (j : Nat) (hj : j < (ofK k).length) (h : ¬ ((ofK k)[j].since : Int) ≤ v) : accR k v (j + 1) = accR k v j := by
  unfold accR
  rw [List.take_succ_eq_append_getElem hj, List.filter_append, List.filter_cons_of_neg (by simpa using h), List.filter_nil, List.append_nil]
theorem accR_len (k v : Int) (j : Nat) : (accR k v j).length ≤ j := by
  unfold accR
  have h := List.length_filter_le (fun r : SRow => decide ((r.since : Int) ≤ v)) ((ofK k).take j)
  rw [List.length_take] at h
  omega
theorem ofK_len (k : Int) : (ofK k).length ≤ 40 := List.length_filter_le _ _
theorem specC_len3 (l : List SRow) : (l.flatMap specC).length = l.length * 3 := flatMap_length specC 3 l (fun _ _ => rfl)
end Go.Proofs.Ytnfodgjihdoncaa
