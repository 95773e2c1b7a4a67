/- slices.Chunk of bytes. -/
import Derived.Test.YtnfodgjihdoncaaFdProg
import Derived.Sort.QuietIn
set_option linter.unusedVariables false
namespace Go.Proofs.Ytnfodgjihdoncaa
open Go.RowKit Go.Shelf
attribute [local go_sem] Oper.semAt_some
set_option maxRecDepth 100000 in
set_option maxHeartbeats 1000000 in
theorem fchunk_in (m : Nat) (A : Option Addr) (n c : Nat) (q : Nat) (hq : 1 ≤ q) (w : World) :
    CallsIn Fence.wide m Try.prog 57 #[.slice A n c, .int .i64 (q : Int)] w fun e w' => e = .returned (.func (.func 84) #[] #[.pointer (some ⟨w.heap.size, 0, none⟩), .pointer (some ⟨w.heap.size + 1, 0, none⟩)]) ∧ w' = (w.alloc (.cells #[.slice A n c] 30)).alloc (.cells #[.int .i64 (q : Int)] 3) := by
  have hq1 : ¬ (q : Int) < 1 := by omega
  refine callsIn_of_wp Try.func57 rfl trivial ?_ rfl
  simp only [Try.ntmps57, List.size_toArray, List.length_cons, List.length_nil, Nat.reduceAdd, Nat.reduceSub, Array.replicate_succ, Array.replicate_zero, List.push_toArray, List.append_toArray, List.nil_append, List.cons_append]
  gi_wp2
  go_ret
  exact ⟨rfl, rfl⟩
/-- How many pieces there are. -/
def ckN (n q : Nat) : Nat := (n + q - 1) / q
/-- A piece. -/
def ckV (b off n q j : Nat) : Array Value := #[.slice (some ⟨b, off + q * j, none⟩) (min q (n - q * j)) (min q (n - q * j))]
theorem ck_in {n q j : Nat} (hq : 1 ≤ q) : j < ckN n q ↔ q * j < n := by
  unfold ckN
  rw [Nat.lt_div_iff_mul_lt (by omega), Nat.mul_comm j q]
  omega
set_option maxRecDepth 100000 in
set_option maxHeartbeats 4000000 in
theorem fchunk1_in (m : Nat) (hm : 1 ≤ m) (l Bs Bn : Nat) (b off n c q : Nat) (hq : 1 ≤ q) (hq2 : q ≤ 100000) (hnc : n ≤ c) (hc : c ≤ 9223372036854775807) (hn2 : n ≤ 1000000) (J : Nat → World → Prop) (Jx : World → Prop) (hJc : ∀ j W, J j W → W.cell? ⟨Bs, 0, none⟩ = some (.slice (some ⟨b, off, none⟩) n c) ∧ W.cell? ⟨Bn, 0, none⟩ = some (.int .i64 (q : Int))) (hJd : ∀ j W k, J j W → J j (W.drewN k))
    (hY : ∀ j W, j < ckN n q → J j W → YieldAt Fence.wide (m - 1) Try.prog l (ckV b off n q j) W fun e W' => (e = .returned (.bool true) ∧ J (j + 1) W') ∨ (e = .returned (.bool false) ∧ Jx W'))
    (W : World) (h0 : J 0 W) :
    CallsIn Fence.wide m Try.prog 84 #[.func (.yield l) #[] #[], .pointer (some ⟨Bs, 0, none⟩), .pointer (some ⟨Bn, 0, none⟩)] W fun e W' => (∃ v, e = .returned v) ∧ (J (ckN n q) W' ∨ Jx W') := by
  have HY := hid hY
  have HJC := hid hJc
  have HJD := hid hJd
  clear hY hJc hJd
  refine callsIn_of_wp Try.func84 rfl trivial ?_ rfl
  simp only [Try.ntmps84, List.size_toArray, List.length_cons, List.length_nil, Nat.reduceAdd, Nat.reduceSub, Array.replicate_succ, Array.replicate_zero, List.push_toArray, List.append_toArray, List.nil_append, List.cons_append]
  gi_wp2
  gi_loopw [4] (fun p wr => ∃ (j i : Nat), p = .int .i64 (i : Int) ∧ i = q * j ∧ j ≤ ckN n q ∧ J j wr) (fun p _ => n - (intOf p).toNat)
  case atStart => exact ⟨0, 0, rfl, by simp, by omega, h0⟩
  case round =>
    obtain ⟨j, i, rfl, hij, hj, hJ⟩ := hrel
    have hc := HJC.out j wr hJ
    have hc3 := fun k => HJC.out j _ (HJD.out j wr k hJ)
    obtain ⟨hc1, hc2⟩ := hc
    have HJ := hid hJ
    have HIJ := hid hij
    clear hJ hij
    by_cases hlt : i < n
    · have hjn : j < ckN n q := (ck_in hq).2 (by rw [← HIJ.out]; exact hlt)
      have hi1 : (i : Int) < (n : Int) := by omega
      have hi2 : (i : Int) ≤ (c : Int) := by omega
      have hi3 : ¬ (i : Int) = (c : Int) := by omega
      have hi4 : ¬ i = c := by omega
      have hi5 : i ≤ c := by omega
      gi_wp2
      gi_quiet (fail)
      have he : (min (q : Int) ((n - i : Nat) : Int)) = ((min q (n - i) : Nat) : Int) := by omega
      rw [he]
      obtain ⟨fn, tmps, assign, body, hy, hR⟩ := HY.out j _ hjn (HJD.out j wr nq HJ.out)
      unfold ckV at hy
      rw [← HIJ.out] at hy
      have he1 : 1 ≤ min q (n - i) := by omega
      have he2 : i + min q (n - i) ≤ n := by omega
      generalize min q (n - i) = e at *
      clear he
      have hs1 : IntKind.i64.wrap ((i : Int) + (e : Int)) = ((i + e : Nat) : Int) := by rw [IntWalk.i64_in _ (by omega)]; omega
      obtain ⟨hc3, hc4⟩ := hc3 nq
      gi_wp2
      refine hR.mono ?_
      rintro e0 W3 (⟨rfl, hJ3⟩ | ⟨rfl, hJx3⟩)
      · obtain ⟨hc5, hc6⟩ := HJC.out (j + 1) W3 hJ3
        have hs2 : IntKind.i64.wrap ((i : Int) + (q : Int)) = ((i + q : Nat) : Int) := by rw [IntWalk.i64_in _ (by omega)]; omega
        have HJ3 := hid hJ3
        clear hJ3
        gi_wp2
        go_roundw
        case rel => exact ⟨j + 1, i + q, by go_num, by rw [HIJ.out, Nat.mul_succ], by omega, HJ3.out⟩
        case measure => simp [intOf]; omega
      · have HJX := hid hJx3
        clear hJx3
        gi_wp2
        refine bodyPost_ret (results_none rfl _ _ _) rfl ?_
        exact ⟨⟨_, rfl⟩, .inr HJX.out⟩
    · have hi1 : ¬ (i : Int) < (n : Int) := by omega
      have hjn : j = ckN n q := by
        have : ¬ j < ckN n q := fun h => by have := (ck_in hq).1 h; have := HIJ.out; omega
        omega
      subst hjn
      gi_wp2
      go_end0
      exact ⟨⟨_, rfl⟩, .inl HJ.out⟩
end Go.Proofs.Ytnfodgjihdoncaa
