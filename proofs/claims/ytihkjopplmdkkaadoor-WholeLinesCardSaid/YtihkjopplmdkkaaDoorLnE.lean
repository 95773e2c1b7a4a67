/- Lines that are alike (the law's same): a walk. -/
import Derived.Test.YtihkjopplmdkkaaDoorLnD
import Derived.Deep.RegionHeld3
set_option linter.unusedVariables false
namespace Go.Proofs.YtihkjopplmdkkaaDoor
open Go.RowKit
theorem flat3 {α : Type} (f : α → List Value) (hf : ∀ a, (f a).length = 3) (X : List α) (k : Nat) (hk : k < X.length) (i : Nat) (hi : i < 3) : (X.flatMap f)[k * 3 + i]? = (f X[k])[i]? := by
  induction X generalizing k with
  | nil => simp at hk
  | cons a r ih =>
    rw [List.flatMap_cons]
    cases k with
    | zero => rw [List.getElem?_append_left (by rw [hf]; omega)]; simp
    | succ k =>
      rw [List.getElem?_append_right (by rw [hf]; omega), hf, show (k + 1) * 3 + i - 3 = k * 3 + i by omega, ih k (by simpa using hk)]; rfl
/-- A line of a row. -/
theorem row3_at {w : World} {B e n c : Nat} {A : Option Addr} {X : List (Nat × Nat × List UInt8)} (h : w.ownsRow B e 3 (.slice A n c) n (X.flatMap lcC)) (hn : X.length = n) (k : Nat) (hk : k < X.length) :
    ∃ g o, A = some ⟨g, o, none⟩ ∧ g < w.heap.size ∧ B ≤ g ∧ w.cell? ⟨g, o + k * 3, none⟩ = some (.int .i64 (X[k].1 : Int)) ∧ w.cell? ⟨g, o + k * 3 + 1, none⟩ = some (.int .i64 (X[k].2.1 : Int)) ∧ w.cell? ⟨g, o + k * 3 + 2, none⟩ = some (.string ⟨X[k].2.2.toArray⟩) := by
  obtain ⟨g, rfl⟩ : ∃ g, A = some ⟨g, 0, none⟩ := by
    rcases h.2 with ⟨h1, h2⟩ | ⟨g, cap, cur, h1, -⟩
    · injection h1; omega
    · injection h1 with h1; exact ⟨g, h1⟩
  have hl := h.lt g rfl
  have hf := fun i hi => flat3 lcC (fun _ => rfl) X k hk i hi
  have c0 := (h.cellAt (k * 3) (by omega)).trans (hf 0 (by omega))
  have c1 := (h.cellAt (k * 3 + 1) (by omega)).trans (hf 1 (by omega))
  have c2 := (h.cellAt (k * 3 + 2) (by omega)).trans (hf 2 (by omega))
  exact ⟨g, 0, rfl, hl.2, hl.1, by rw [Nat.zero_add, c0]; rfl, by rw [Nat.zero_add, c1]; rfl, by rw [Nat.zero_add, c2]; rfl⟩
set_option maxRecDepth 100000 in
set_option maxHeartbeats 4000000 in
theorem lsame_yes (X : List (Nat × Nat × List UInt8)) (n : Nat) (A B : Option Addr) (c d B1 B2 : Nat) (w : World) (hn : X.length = n) (hl : n ≤ 10000000) (hA : w.ownsRow B1 39 3 (.slice A n c) n (X.flatMap lcC)) (hB : w.ownsRow B2 57 3 (.slice B n d) n (X.flatMap lcC)) :
    Calls Tryd.prog 14 #[.slice A n c, .slice B n d, .bool true] w fun e w' => e = .returned (.bool true) ∧ Below w.heap.size w w' := by
  have HN := hid hn
  have HA := hid hA
  have HB := hid hB
  clear hn hA hB
  go_enter Tryd.func14, Tryd.ntmps14
  go_wp2_with fail
  go_loopw [7] (fun i wr => ∃ k : Nat, k ≤ n ∧ i = .int .i64 (k : Int) ∧ Below w.heap.size w wr) (fun i _ => n - (intOf i).toNat)
  case atStart => exact ⟨0, by omega, rfl, Below.refl _ _⟩
  case round =>
    obtain ⟨k, hk, rfl, hB⟩ := hrel
    by_cases hlt : k < n
    · have hkl : k < X.length := by have := HN.out; omega
      obtain ⟨b1, o1, rfl, hb1, -, s0, s1, s2⟩ := row3_at (own_below HA.out hB) HN.out k hkl
      obtain ⟨b2, o2, rfl, hb2, -, t0, t1, t2⟩ := row3_at (own_below HB.out hB) HN.out k hkl
      generalize X[k] = f at *
      obtain ⟨fn, fc, ft⟩ := f
      simp only at s0 s1 s2 t0 t1 t2
      generalize (⟨ft.toArray⟩ : ByteArray) = x at *
      have hki : (k : Int) < (n : Int) := by omega
      have hk0 : (0 : Int) ≤ (k : Int) := by omega
      have hkn : k < n := hlt
      have HBE := hid hB
      clear hB hkl
      go_wp2_with fail
      go_quiet (fail)
      go_wp2_with fail
      go_roundw
      case rel => exact ⟨k + 1, by omega, by go_num, bw_d HBE.out _⟩
      case measure => simp [intOf]; omega
    · obtain rfl : k = n := by omega
      have HBE := hid hB
      clear hB
      go_wp2_with fail
      go_ret
      exact ⟨rfl, HBE.out⟩
end Go.Proofs.YtihkjopplmdkkaaDoor
