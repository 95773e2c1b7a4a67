/- What must be whatever is asked: layer 14; frames awake. -/
import Derived.Test.YtgiealcfhlcpoaaRsRow
import Derived.Test.YtgiealcfhlcpoaaFrRefR
import Derived.Test.YtgiealcfhlcpoaaFrU
set_option linter.unusedVariables false
namespace Go.Proofs.Ytgiealcfhlcpoaa
open Go.RowKit
theorem AllR.go {w w' : World} {fin : Bool} {bs : List UInt8} {e : Ending} {l : List Fnd} {k n : Nat} (h : AllR w fin bs e w') (hw : Rs.wk fin bs 0 = (l, k)) (hn : l.length = n) : ∃ A c, e = .returned (.tuple #[.slice A n c, .int .i64 (k : Int)]) ∧ FdRow w.heap.size w' (.slice A n c) l ∧ Below w.heap.size w w' := by
  unfold AllR at h
  rw [hw] at h
  simp only [hn] at h
  exact h
theorem l14_put (W : World) (A : Option Addr) (c : Nat) (h : Sl W A c (([1] : List UInt8).map bv)) : Calls Try.prog 7 #[.agg #[.int .u8 7, .slice A 1 c]] W fun e w' => ∃ A' c', e = .returned (.slice A' 10 c') ∧ Sl w' A' c' ((Fr.put 7 [1]).map bv) ∧ Below W.heap.size W w' := by
  refine Calls.mono (rfput_any 7 [1] 1 A c W rfl (by omega) h) ?_
  rintro e w1 ⟨v1, rfl, ho1, hb1⟩
  obtain ⟨A1, c1, rfl, -, hs⟩ := Sl.of_own ho1
  exact ⟨A1, c1, rfl, hs, hb1⟩
theorem l14_join (W : World) (A B : Option Addr) (c d : Nat) (hA : Sl W A c (([0, 197] : List UInt8).map bv)) (hB : Sl W B d ((Fr.put 7 [1]).map bv)) : Calls Try.prog 15 #[.slice A 2 c, .slice B 10 d] W fun e w' => ∃ A' c', e = .returned (.slice A' 12 c') ∧ Sl w' A' c' (([0, 197] ++ Fr.put 7 [1]).map bv) ∧ Below W.heap.size W w' := by
  refine Calls.mono (rjoin2_any [0, 197] (Fr.put 7 [1]) 2 10 A B c d W rfl (by rw [Fr.put_len]; rfl) (by omega) hA hB) ?_
  rintro e w1 ⟨A1, c1, rfl, hs, -, hb⟩
  exact ⟨A1, c1, rfl, hs, hb⟩
theorem l14_len : ([0, 197] ++ Fr.put 7 [1]).length = 12 := by rw [List.length_append, Fr.put_len]; rfl
theorem l14_all (W : World) (A : Option Addr) (c : Nat) (h : Sl W A c (([0, 197] ++ Fr.put 7 [1]).map bv)) : Calls Try.prog 9 #[.slice A 12 c] W fun e w' => ∃ g o c', e = .returned (.tuple #[.slice (some ⟨g, o, none⟩) 1 c', .int .i64 12]) ∧ 1 ≤ c' ∧ g < w'.heap.size ∧ w'.cell? ⟨g, o, none⟩ = some (.int .i64 2) ∧ w'.cell? ⟨g, o + 1, none⟩ = some (.int .u8 7) ∧ Below W.heap.size W w' := by
  refine (sall_any _ 12 A c W l14_len (by omega) h).mono ?_
  intro e w' hr
  obtain ⟨A', c', rfl, hrow, hb⟩ := hr.go l14_wk rfl
  obtain ⟨b, off, Ap, cp, rfl, hbl, t0, t1, -, -, hc, -⟩ := hrow.get rfl 0 (by decide)
  exact ⟨b, off, c', rfl, hc, hbl, t0, t1, hb⟩
theorem l14_all2 (W : World) (N : Nat) (hN : W.heap.size = N) : Calls Try.prog 9 #[.slice (some ⟨N, 0, none⟩) 3 3] (W.alloc (.cells #[.int .u8 197, .int .u8 154, .int .u8 1] 5)) fun e w' => ∃ A c', e = .returned (.tuple #[.slice A 0 c', .int .i64 0]) ∧ Below W.heap.size W w' := by
  subst hN
  refine (sall_any [197, 154, 1] 3 _ 3 _ rfl (by omega) (lit_sl W 5 [197, 154, 1] #[.int .u8 197, .int .u8 154, .int .u8 1] 3 rfl (by omega) rfl)).mono ?_
  intro e w' hr
  obtain ⟨A', c', rfl, -, hb⟩ := hr.go l14_wk2 rfl
  exact ⟨A', c', rfl, bw_t (bw_a (Below.refl _ W) _) hb⟩
theorem l7_put (W : World) (A : Option Addr) (c : Nat) (h : Sl W A c (([1] : List UInt8).map bv)) : Calls Try.prog 22 #[.agg #[.int .u8 3, .slice A 1 c]] W fun e w' => ∃ A' c', e = .returned (.tuple #[.slice A' 10 c', .int .i64 0]) ∧ Sl w' A' c' ((Fr.put 3 [1]).map bv) ∧ Below W.heap.size W w' := by
  refine Calls.mono (fput_any 3 [1] 1 A c W rfl (by omega) h) ?_
  rintro e w1 ⟨v1, rfl, ho1, hb1⟩
  obtain ⟨A1, c1, rfl, -, hs⟩ := Sl.of_own ho1
  exact ⟨A1, c1, rfl, hs, hb1⟩
theorem l7_all (W : World) (A : Option Addr) (c : Nat) (h : Sl W A c (([0] ++ Fr.put 3 [1]).map bv)) : Calls Try.prog 9 #[.slice A 11 c] W fun e w' => ∃ g o c', e = .returned (.tuple #[.slice (some ⟨g, o, none⟩) 1 c', .int .i64 11]) ∧ 1 ≤ c' ∧ g < w'.heap.size ∧ w'.cell? ⟨g, o, none⟩ = some (.int .i64 1) ∧ Below W.heap.size W w' := by
  refine (sall_any _ 11 A c W (by rw [List.length_append, Fr.put_len]; rfl) (by omega) h).mono ?_
  intro e w' hr
  obtain ⟨A', c', rfl, hrow, hb⟩ := hr.go l14_wk4 rfl
  obtain ⟨b, off, Ap, cp, rfl, hbl, t0, t1, -, -, hc, -⟩ := hrow.get rfl 0 (by decide)
  exact ⟨b, off, c', rfl, hc, hbl, t0, hb⟩
end Go.Proofs.Ytgiealcfhlcpoaa
