/- diag: findings compared; Same, small, Of: walks. -/
import Derived.Test.YtejdlhjbakndaaaDgK
import Derived.Test.YtejdlhjbakndaaaM6
import Derived.Laws.StructEq
import Derived.Deep.QuietTactic
import Derived.BigQuiet
set_option linter.unusedVariables false
namespace Go.Proofs.Ytejdlhjbakndaaa
open Go.RowKit
set_option maxRecDepth 100000 in
theorem deql (x y : Dg.D) (w : World) : (binOp .eql 53 (.agg #[.int .i64 x.1, .int .i64 x.2.1, .string x.2.2]) (.agg #[.int .i64 y.1, .int .i64 y.2.1, .string y.2.2])).run Try.prog w = .ok (.bool (decide (x = y))) w := by
  obtain ⟨a1, a2, a3⟩ := x
  obtain ⟨b1, b2, b3⟩ := y
  have u3 := Try.underlying3
  have g3 := Try.isAgg3
  have z3 := Try.sizeOf3
  have u4 := Try.underlying9
  have g4 := Try.isAgg9
  have z4 := Try.sizeOf9
  have u5 := Try.underlying51
  have g5 := Try.isAgg51
  have z5 := Try.sizeOf51
  have hS : Try.prog.underlying 53 = some (.struct (Try.prog.fieldsOf 53)) := by kernel_rfl
  have hp : Try.prog.stoodInHeld 53 = false := by kernel_rfl
  rw [run_eql_struct, show (10000 : Nat) = 9999 + 1 from rfl, run_equalIn_struct w 9999 _ _ _ hS hp]
  simp only [Program.fieldsOf, Try.underlying53]
  go_simp
  by_cases h1 : a1 = b1
  case neg => simp [h1]
  by_cases h2 : a2 = b2
  case neg => simp [h1, h2]
  by_cases h3 : a3 = b3
  case neg =>
    have h3' : ¬ a3.toList = b3.toList := fun h => h3 (Dg.bext (by rw [Lib.toList_data, Lib.toList_data] at h; exact h))
    simp [h1, h2, h3, h3']
  simp [h1, h2, h3]
set_option maxRecDepth 100000 in
theorem dneq (x y : Dg.D) (w : World) : (binOp .neq 53 (.agg #[.int .i64 x.1, .int .i64 x.2.1, .string x.2.2]) (.agg #[.int .i64 y.1, .int .i64 y.2.1, .string y.2.2])).run Try.prog w = .ok (.bool (!decide (x = y))) w := by
  have h := deql x y w
  rw [run_eql_struct] at h
  rw [run_neq_struct]
  generalize (Op.equalIn 10000 53 (.agg #[.int .i64 x.1, .int .i64 x.2.1, .string x.2.2]) (.agg #[.int .i64 y.1, .int .i64 y.2.1, .string y.2.2])).run Try.prog w = r at h ⊢
  cases r with
  | ok b w1 => simp only [Result.andThen_ok] at h ⊢; injection h with h1 h2; injection h1 with h1; rw [h1, h2]
  | halt x w1 => simp [Result.andThen] at h
/-- Are they few, and short? -/
def smD (X : List Dg.D) : Bool := decide (X.length ≤ 60) && X.all fun x => decide (x.2.2.size ≤ 500)
set_option maxRecDepth 100000 in
set_option maxHeartbeats 4000000 in
theorem same24_any (X Y : List Dg.D) (n m : Nat) (A B : Option Addr) (c d : Nat) (w : World) (hn : X.length = n) (hm : Y.length = m) (hl : n ≤ 1000000) (hl2 : m ≤ 1000000) (hs : SlN w A n c 3 (X.flatMap dC)) (ht : SlN w B m d 3 (Y.flatMap dC)) :
    Calls Try.prog 11 #[.slice A n c, .slice B m d] w fun e w' => e = .returned (.bool (decide (X = Y))) ∧ Below w.heap.size w w' := by
  have HN := hid hn
  have HM := hid hm
  have HS := hid hs
  have HT := hid ht
  by_cases hnm : n = m
  case neg =>
    have hr : decide (X = Y) = false := by simp; intro e; rw [e] at hn; omega
    rw [hr]
    have hne : ((n : Int) != (m : Int)) = true := by simp; omega
    clear hn hm hs ht
    go_enter Try.func11, Try.ntmps11
    go_wp2_with fail
    go_ret
    exact ⟨rfl, Below.refl _ _⟩
  subst hnm
  have hne : ((n : Int) != (n : Int)) = false := by simp
  have hb0 := Below.refl w.heap.size w
  have HB0 := hid hb0
  clear hn hm hs ht hb0
  go_enter Try.func11, Try.ntmps11
  go_wp2_with fail
  go_loopw [5] (fun i wr => ∃ k : Nat, k ≤ n ∧ i = .int .i64 (k : Int) ∧ X.take k = Y.take k ∧ Below w.heap.size w wr) (fun i _ => n - (intOf i).toNat)
  case atStart => exact ⟨0, by omega, rfl, by simp, HB0.out⟩
  case round =>
    obtain ⟨k, hk, rfl, htk, hbe⟩ := hrel
    have HTK := hid htk
    have HBE := hid hbe
    clear htk hbe
    by_cases hlt : k < n
    · have hkl : k < X.length := by have := HN.out; omega
      have hky : k < Y.length := by have := HM.out; omega
      obtain ⟨g, o, rfl, hg, c0, c1, c2⟩ := dRow_at (HS.out.below HBE.out) k hkl
      obtain ⟨g', o', rfl, hg', d0, d1, d2⟩ := dRow_at (HT.out.below HBE.out) k hky
      have HTX := hid (show X.take (k + 1) = X.take k ++ [X[k]] from List.take_succ_eq_append_getElem hkl)
      have HTY := hid (show Y.take (k + 1) = Y.take k ++ [Y[k]] from List.take_succ_eq_append_getElem hky)
      have HXK := hid (show X[k]? = some X[k] from List.getElem?_eq_getElem hkl)
      have HYK := hid (show Y[k]? = some Y[k] from List.getElem?_eq_getElem hky)
      generalize X[k] = x at *
      generalize Y[k] = y at *
      have hki : (k : Int) < (n : Int) := by omega
      have hk0 : (0 : Int) ≤ (k : Int) := by omega
      have hq := fun W => dneq x y W
      by_cases hxy : x = y
      · have hde : (!decide (x = y)) = false := by simp [hxy]
        rw [hde] at hq
        have HE := hid (show X.take (k + 1) = Y.take (k + 1) by rw [HTX.out, HTY.out, HTK.out, hxy])
        clear hxy hde
        go_wp2_with fail
        go_quiet (fail)
        go_wp2_with fail
        go_roundw
        case rel => exact ⟨k + 1, by omega, by go_num, HE.out, bw_d HBE.out _⟩
        case measure => simp [intOf] <;> omega
      · have hde : (!decide (x = y)) = true := by simp [hxy]
        rw [hde] at hq
        have HE := hid (show decide (X = Y) = false by
          simp only [decide_eq_false_iff_not]
          intro e
          have h1 := HXK.out
          rw [e, HYK.out] at h1
          exact hxy (Option.some.inj h1).symm)
        clear hxy hde
        go_wp2_with fail
        go_quiet (fail)
        go_wp2_with fail
        go_ret
        exact ⟨by rw [HE.out]; rfl, bw_d HBE.out _⟩
    · obtain rfl : k = n := by omega
      have HE := hid (show decide (X = Y) = true by
        have h := HTK.out
        rw [List.take_of_length_le (by have := HN.out; omega), List.take_of_length_le (by have := HM.out; omega)] at h
        simp [h])
      go_wp2_with fail
      go_ret
      exact ⟨by rw [HE.out]; rfl, HBE.out⟩
end Go.Proofs.Ytejdlhjbakndaaa
