/- varint.sevens: the iterator's contract. -/
import Derived.Test.YtfbmdeegcoocnaaProg
import Derived.Test.YtfbmdeegcoocnaaMath
import Derived.Test.YtfbmdeegcoocnaaBase
import Derived.RangeFuncNested
import Derived.RangeFuncBound
import Derived.RangeFuncCalls
import Derived.RangeFuncLeaves
import Derived.RangeFuncBox
import Derived.Shelf.Abstract
import Derived.Shelf.RegionOpen
import Derived.WalkKit
import Derived.OwnWalkIn
import Derived.TacticsInMore
import Derived.LoopNIn
import Derived.LoopIn
import Derived.Maps.AppendAt
set_option linter.unusedVariables false
namespace Go.Proofs.Ytfbmdeegcoocnaa
open Go.RowKit Go.Shelf
attribute [local go_sem] Oper.semAt_some

abbrev Sev : Type := { p : Nat × Bool // p.1 < 128 }
abbrev sevEnc (x : Sev) : Array Value := #[.int .u8 (x.1.1 : Int), .bool x.1.2]
def sevs (n : Nat) : List Sev := if h : n < 128 then [⟨(n, false), h⟩] else ⟨(n % 128, true), by omega⟩ :: sevs (n / 128)
  termination_by n
  decreasing_by omega

theorem sevens_in (F : Fence) (k : Nat) (hf : F.fn 92) (hro : F.round = none) (n : Int) (w : World) :
    CallsIn F k Try.prog 92 #[.int .u64 n] w fun e w' => e = .returned (.func (.func 108) #[] #[.pointer (some ⟨w.heap.size, 0, none⟩)]) ∧ w' = w.alloc (.cells #[.int .u64 n] 37) := by
  refine callsIn_of_wp Try.func92 rfl hf ?_ hro
  simp only [Try.ntmps92, List.size_toArray, List.length_cons, List.length_nil, Nat.reduceAdd, Nat.reduceSub, Array.replicate_succ, Array.replicate_zero, List.push_toArray, List.append_toArray, List.nil_append, List.cons_append]
  gi_wp2
  go_ret
  exact ⟨rfl, rfl⟩

set_option maxRecDepth 100000 in
set_option maxHeartbeats 1000000 in
theorem sevens1_in (F : Fence) (k : Nat) (hf : F.fn 108) (hro : F.round = none) (hn : 1 ≤ k) (l Bn n₀ : Nat) (n : Nat) (hn64 : n ≤ 18446744073709551615) (J Jx : List Sev → World → Prop)
    (hY : ∀ pre x W, J pre W → pre.length < (sevs n).length → YieldAt F (k - 1) Try.prog l (sevEnc x) W fun e W' =>
      (e = .returned (.bool true) ∧ J (pre ++ [x]) W' ∧ Below n₀ W W') ∨ (e = .returned (.bool false) ∧ Jx (pre ++ [x]) W'))
    (W : World) (hBn : W.cell? ⟨Bn, 0, none⟩ = some (.int .u64 (n : Int))) (h0 : J [] W) :
    CallsIn F k Try.prog 108 #[.func (.yield l) #[] #[], .pointer (some ⟨Bn, 0, none⟩)] W fun e W' => (∃ v, e = .returned v) ∧
      ((∃ ys, ys = sevs n ∧ J ys W') ∨ (∃ pre, pre <+: sevs n ∧ Jx pre W')) := by
  refine callsIn_of_wp Try.func108 rfl hf ?_ hro
  simp only [Try.ntmps108, List.size_toArray, List.length_cons, List.length_nil, Nat.reduceAdd, Nat.reduceSub, Array.replicate_succ, Array.replicate_zero, List.push_toArray, List.append_toArray, List.nil_append, List.cons_append]
  gi_wp2
  gi_loopw [3] (fun p wr => ∃ (pre : List Sev) (m : Nat), p = .int .u64 (m : Int) ∧ m ≤ n ∧ sevs n = pre ++ sevs m ∧ J pre wr)
    (fun p _ => (intOf p).toNat)
  case atStart =>
    exact ⟨[], n, rfl, by omega, rfl, h0⟩
  case round =>
    obtain ⟨pre, m, rfl, hm, hx, hJs⟩ := hrel
    have HX := hid hx
    clear hx
    by_cases hlt : m < 128
    · have e : sevs m = [⟨(m, false), hlt⟩] := by rw [sevs, dif_pos hlt]
      obtain ⟨fn, tmps, assign, body, hy, hR⟩ := hY pre ⟨(m, false), hlt⟩ wr hJs (by rw [HX.out, e]; simp)
      have E := hid e
      clear e
      dsimp only [sevEnc] at hy
      gi_wp2
      refine hR.mono ?_
      rintro e W3 (⟨rfl, hJ3, hk3⟩ | ⟨rfl, hJx3⟩)
      · gi_wp2
        refine bodyPost_ret (results_none rfl _ _ _) rfl ?_
        exact ⟨⟨_, rfl⟩, .inl ⟨_, by rw [HX.out, E.out], hJ3⟩⟩
      · gi_wp2
        refine bodyPost_ret (results_none rfl _ _ _) rfl ?_
        exact ⟨⟨_, rfl⟩, .inr ⟨_, by rw [HX.out, E.out]; exact List.prefix_rfl, hJx3⟩⟩
    · have e : sevs m = ⟨(m % 128, true), by omega⟩ :: sevs (m / 128) := by rw [sevs, dif_neg hlt]
      obtain ⟨fn, tmps, assign, body, hy, hR⟩ := hY pre ⟨(m % 128, true), by omega⟩ wr hJs (by rw [HX.out, e]; simp)
      have E := hid e
      clear e
      dsimp only [sevEnc] at hy
      rw [show ((m % 128 : Nat) : Int) = (m : Int) % 128 from by omega] at hy
      gi_wp2
      refine hR.mono ?_
      rintro e W3 (⟨rfl, hJ3, hk3⟩ | ⟨rfl, hJx3⟩)
      · gi_wp2
        go_roundw
        case rel => exact ⟨pre ++ [⟨(m % 128, true), by omega⟩], m / 128, by rw [show (m : Int) / 128 = ((m / 128 : Nat) : Int) from by omega], by omega, by rw [HX.out, E.out]; simp, hJ3⟩
        case measure => simp [intOf]; omega
      · gi_wp2
        refine bodyPost_ret (results_none rfl _ _ _) rfl ?_
        exact ⟨⟨_, rfl⟩, .inr ⟨_, by rw [HX.out, E.out]; exact ⟨sevs (m / 128), by simp⟩, hJx3⟩⟩

theorem sevens_stops (F : Fence) (k : Nat) (hf : F.fn 108) (hro : F.round = none) (hn : 1 ≤ k) (Bn n₀ : Nat) (n : Nat) (hn64 : n ≤ 18446744073709551615) (w : World) (hBn : Bn < w.heap.size)
    (hc : w.cell? ⟨Bn, 0, none⟩ = some (.int .u64 (n : Int))) :
    SeqStopsK F k Try.prog 108 #[.pointer (some ⟨Bn, 0, none⟩)] sevEnc (Below n₀) (fun ys => ys = sevs n) (fun pre => pre <+: sevs n) (sevs n).length w := fun l J Jx W hW _ _ hY h0 =>
  sevens1_in F k hf hro hn l Bn n₀ n hn64 J Jx hY W ((hW.cell (p := ⟨Bn, 0, none⟩) hBn).trans hc) h0

end Go.Proofs.Ytfbmdeegcoocnaa
