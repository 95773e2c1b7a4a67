/- schema.Kind. -/
import Derived.Test.YtefoccpgnijamaaSchWord
set_option linter.unusedVariables false
namespace Go.Proofs.Ytefoccpgnijamaa
open Go.RowKit
def kindN (b : ByteArray) : Nat := if wordA 1 = b then 1 else if wordA 2 = b then 2 else if wordA 3 = b then 3 else if wordA 4 = b then 4 else if wordA 5 = b then 5 else if wordA 6 = b then 6 else if wordA 7 = b then 7 else if wordA 8 = b then 8 else if wordA 9 = b then 9 else if wordA 10 = b then 10 else 0
theorem kindN_some (b : ByteArray) (j : Nat) (h1 : 1 ≤ j) (h2 : j ≤ 10) (h : wordA j = b) (hno : ∀ i, 1 ≤ i → i < j → wordA i ≠ b) : kindN b = j := by
  have hj : j = 1 ∨ j = 2 ∨ j = 3 ∨ j = 4 ∨ j = 5 ∨ j = 6 ∨ j = 7 ∨ j = 8 ∨ j = 9 ∨ j = 10 := by omega
  unfold kindN
  rcases hj with rfl | rfl | rfl | rfl | rfl | rfl | rfl | rfl | rfl | rfl
  · rw [if_pos h]
  · rw [if_neg (hno 1 (by omega) (by omega)), if_pos h]
  · rw [if_neg (hno 1 (by omega) (by omega)), if_neg (hno 2 (by omega) (by omega)), if_pos h]
  · rw [if_neg (hno 1 (by omega) (by omega)), if_neg (hno 2 (by omega) (by omega)), if_neg (hno 3 (by omega) (by omega)), if_pos h]
  · rw [if_neg (hno 1 (by omega) (by omega)), if_neg (hno 2 (by omega) (by omega)), if_neg (hno 3 (by omega) (by omega)), if_neg (hno 4 (by omega) (by omega)), if_pos h]
  · rw [if_neg (hno 1 (by omega) (by omega)), if_neg (hno 2 (by omega) (by omega)), if_neg (hno 3 (by omega) (by omega)), if_neg (hno 4 (by omega) (by omega)), if_neg (hno 5 (by omega) (by omega)), if_pos h]
  · rw [if_neg (hno 1 (by omega) (by omega)), if_neg (hno 2 (by omega) (by omega)), if_neg (hno 3 (by omega) (by omega)), if_neg (hno 4 (by omega) (by omega)), if_neg (hno 5 (by omega) (by omega)), if_neg (hno 6 (by omega) (by omega)), if_pos h]
  · rw [if_neg (hno 1 (by omega) (by omega)), if_neg (hno 2 (by omega) (by omega)), if_neg (hno 3 (by omega) (by omega)), if_neg (hno 4 (by omega) (by omega)), if_neg (hno 5 (by omega) (by omega)), if_neg (hno 6 (by omega) (by omega)), if_neg (hno 7 (by omega) (by omega)), if_pos h]
  · rw [if_neg (hno 1 (by omega) (by omega)), if_neg (hno 2 (by omega) (by omega)), if_neg (hno 3 (by omega) (by omega)), if_neg (hno 4 (by omega) (by omega)), if_neg (hno 5 (by omega) (by omega)), if_neg (hno 6 (by omega) (by omega)), if_neg (hno 7 (by omega) (by omega)), if_neg (hno 8 (by omega) (by omega)), if_pos h]
  · rw [if_neg (hno 1 (by omega) (by omega)), if_neg (hno 2 (by omega) (by omega)), if_neg (hno 3 (by omega) (by omega)), if_neg (hno 4 (by omega) (by omega)), if_neg (hno 5 (by omega) (by omega)), if_neg (hno 6 (by omega) (by omega)), if_neg (hno 7 (by omega) (by omega)), if_neg (hno 8 (by omega) (by omega)), if_neg (hno 9 (by omega) (by omega)), if_pos h]
theorem kindN_none (b : ByteArray) (hno : ∀ i, 1 ≤ i → i < 11 → wordA i ≠ b) : kindN b = 0 := by
  unfold kindN
  rw [if_neg (hno 1 (by omega) (by omega)), if_neg (hno 2 (by omega) (by omega)), if_neg (hno 3 (by omega) (by omega)), if_neg (hno 4 (by omega) (by omega)), if_neg (hno 5 (by omega) (by omega)), if_neg (hno 6 (by omega) (by omega)), if_neg (hno 7 (by omega) (by omega)), if_neg (hno 8 (by omega) (by omega)), if_neg (hno 9 (by omega) (by omega)), if_neg (hno 10 (by omega) (by omega))]
theorem bstr_ne {q b : ByteArray} (h : q ≠ b) : (q.toList == b.toList) = false := by
  obtain ⟨⟨x⟩⟩ := q
  obtain ⟨⟨y⟩⟩ := b
  have h2 : x ≠ y := fun e => h (by rw [e])
  simpa [ByteArray.toList_eq] using h2
set_option maxRecDepth 100000 in
set_option maxHeartbeats 2000000 in
theorem skind_any (b : ByteArray) (w : World) : Calls Try.prog 36 #[.string b] w fun e w' => e = .returned (.tuple #[.int .u8 (kindN b : Nat), .bool (decide (kindN b ≠ 0))]) ∧ Below w.heap.size w w' := by
  go_enter Try.func36, Try.ntmps36
  go_wp2_with fail
  go_loopw [4] (fun i wr => ∃ j : Nat, 1 ≤ j ∧ j ≤ 11 ∧ i = .int .u8 (j : Int) ∧ (∀ i, 1 ≤ i → i < j → wordA i ≠ b) ∧ Below w.heap.size w wr) (fun i _ => 11 - (intOf i).toNat)
  case atStart => exact ⟨1, by omega, by omega, rfl, fun i h1 h2 => by omega, Below.refl _ _⟩
  case round =>
    obtain ⟨j, hj1, hj2, rfl, hno, hB⟩ := hrel
    by_cases hlt : j ≤ 10
    · have hji : (j : Int) ≤ 10 := by omega
      have hw := fun W => sword_any j (by omega) W
      have hs := kindN_some b j hj1 hlt
      have HW := hid hw
      have HS := hid hs
      have HNO := hid hno
      have HB := hid hB
      clear hw hs hno hB
      generalize hq : wordA j = q at *
      have HQ := hid hq
      clear hq
      by_cases he : q = b
      · subst he
        go_wp2_with fail
        refine (HW.out _).mono ?_
        rintro e w1 ⟨rfl, hb1⟩
        go_wp2_with fail
        have hk := HS.out (by first | trivial | rfl) HNO.out
        refine bodyPost_ret (v := .tuple #[.int .u8 (j : Nat), .bool true]) (by simp [results, Try.results36, go_sem]) rfl ⟨?_, HB.out.trans (hb1.mono HB.out.size)⟩
        rw [hk]
        have hd : decide (j ≠ 0) = true := decide_eq_true (by omega)
        rw [hd]
      · have heb : (q.toList == b.toList) = false := bstr_ne he
        go_wp2_with fail
        refine (HW.out _).mono ?_
        rintro e w1 ⟨rfl, hb1⟩
        go_wp2_with fail
        have hno2 : ∀ i, 1 ≤ i → i < j + 1 → wordA i ≠ b := fun i h1 h2 => by
          by_cases h3 : i = j
          · rw [h3, HQ.out]; exact he
          · exact HNO.out i h1 (by omega)
        refine ⟨⟨j + 1, by omega, by omega, by go_num, hno2, HB.out.trans (hb1.mono HB.out.size)⟩, ?_⟩
        simp [intOf]
        omega
    · obtain rfl : j = 11 := by omega
      have hk := kindN_none b hno
      have HK := hid hk
      clear hno hk
      go_wp2_with fail
      refine bodyPost_ret (v := .tuple #[.int .u8 0, .bool false]) (by simp [results, Try.results36, go_sem]) rfl ⟨?_, hB⟩
      rw [HK.out]
      rfl
end Go.Proofs.Ytefoccpgnijamaa
