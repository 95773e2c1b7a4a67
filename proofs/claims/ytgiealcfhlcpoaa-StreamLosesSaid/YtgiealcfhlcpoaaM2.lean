/- varint.Get and the document's Get. · varint.All and the document's All. · varint.sevens: the iterator's contract. · varint.Put: a range over a function. · Numbers of four and eight bytes: the document's Fix and Unfix, the program's number, Get32, Get64. · The document's Put (layer 1) and Fix (layer 2): rows that grow by append. · tag.lowest, tag.fixed, Fix32, Fix64: a range over a function. · The document's comparisons of lists: Same (bytes), Nums (numbers). · The functions of layers 1 and 2 that only compute with numbers, and the document's. · tag.Make, Split, Width, and the document's. -/
import Derived.Test.YtgiealcfhlcpoaaProg
import Derived.Test.YtgiealcfhlcpoaaM1
import Derived.Deep.LoopGhost
import Derived.Maps.AppendAt
import Derived.RangeFuncNested
import Derived.RangeFuncBound
import Derived.RangeFuncCalls
import Derived.RangeFuncLeaves
import Derived.RangeFuncBox
import Derived.Shelf.Abstract
import Derived.Shelf.RegionOpen
import Derived.WalkKit
import Derived.OwnWalkIn
import Derived.TacticsInMore
import Derived.LoopNIn
import Derived.LoopIn
import Derived.Deep.QuietTactic
import Derived.BigQuiet
import Derived.Lib.Strings
import Derived.Lib.Slices
import Derived.Lib.Small
import Derived.Lib.Walk
import Derived.Lib.BitFns
set_option linter.unusedVariables false
namespace Go.Proofs.Ytgiealcfhlcpoaa
open Go.RowKit
end Go.Proofs.Ytgiealcfhlcpoaa
set_option linter.unusedVariables false
namespace Go.Proofs.Ytgiealcfhlcpoaa
open Go.RowKit
theorem Try.info87 : (Try.prog.info? 87).map (fun i => (i.zero, i.size, i.bytes)) = some (some (.int .u64 0), 1, 8) := by kernel_rfl
theorem BRd.drop {w : World} {b off : Nat} {bs : List UInt8} (h : BRd w (some ⟨b, off, none⟩) bs) (k : Nat) : BRd w (some ⟨b, off + k, none⟩) (bs.drop k) := by
  intro j u hj
  rw [List.map_drop, List.getElem?_drop] at hj
  obtain ⟨b', off', he, hlt, hc⟩ := h (k + j) u hj
  injection he with he; injection he with h1 h2; subst h1; subst h2
  exact ⟨b, off + k, rfl, hlt, by rw [Nat.add_assoc]; exact hc⟩
end Go.Proofs.Ytgiealcfhlcpoaa
set_option linter.unusedVariables false
namespace Go.Proofs.Ytgiealcfhlcpoaa
open Go.RowKit Go.Shelf
attribute [local go_sem] Oper.semAt_some

abbrev Sev : Type := { p : Nat × Bool // p.1 < 128 }
abbrev sevEnc (x : Sev) : Array Value := #[.int .u8 (x.1.1 : Int), .bool x.1.2]
def sevs (n : Nat) : List Sev := if h : n < 128 then [⟨(n, false), h⟩] else ⟨(n % 128, true), by omega⟩ :: sevs (n / 128)
  termination_by n
  decreasing_by omega

end Go.Proofs.Ytgiealcfhlcpoaa
set_option linter.unusedVariables false
namespace Go.Proofs.Ytgiealcfhlcpoaa
open Go.RowKit Go.Shelf
attribute [local go_sem] Oper.semAt_some

def sevB (x : Sev) : UInt8 := if x.1.2 then UInt8.ofNat (x.1.1 + 128) else UInt8.ofNat x.1.1
def putN (n : Nat) : List UInt8 := (sevs n).map sevB

theorem sevs_length (k : Nat) : ∀ n, n < 128 ^ (k + 1) → (sevs n).length ≤ k + 1 := by
  induction k with
  | zero => intro n h; rw [sevs, dif_pos (by simpa using h)]; simp
  | succ k ih =>
    intro n h
    rw [sevs]
    split
    · simp
    · have := ih (n / 128) (by rw [Nat.div_lt_iff_lt_mul (by omega), ← Nat.pow_succ]; exact h)
      simp; omega
theorem sevs_length10 {n : Nat} (h : n ≤ 18446744073709551615) : (sevs n).length ≤ 10 := sevs_length 9 n (by omega)
theorem sevs_pos (n : Nat) : 0 < (sevs n).length := by rw [sevs]; split <;> simp
abbrev sevBs (xs : List Sev) : List Value := xs.map fun x => bv (sevB x)

end Go.Proofs.Ytgiealcfhlcpoaa
set_option linter.unusedVariables false
namespace Go.Proofs.Ytgiealcfhlcpoaa
open Go.RowKit
/-- so many bytes of a number, the lowest first -/
def fixN : Nat → Nat → List UInt8
  | 0, _ => []
  | k + 1, n => b8 (n % 256) :: fixN k (n / 256)
def unfixN : List UInt8 → Nat
  | [] => 0
  | x :: r => x.toNat + 256 * unfixN r
theorem length_fixN (k : Nat) : ∀ n, (fixN k n).length = k := by induction k with | zero => intro n; rfl | succ k ih => intro n; simp [fixN, ih]
theorem unfix_fix (k : Nat) : ∀ n, n < 256 ^ k → unfixN (fixN k n) = n := by
  induction k with
  | zero => intro n h; simp at h; simp [fixN, unfixN, h]
  | succ k ih =>
    intro n h
    have h2 : n / 256 < 256 ^ k := by rw [Nat.pow_succ] at h; omega
    simp only [fixN, unfixN, ih _ h2, b8_toNat (show n % 256 < 256 by omega)]
    omega
theorem unfixN_lt (l : List UInt8) : unfixN l < 256 ^ l.length := by
  induction l with
  | nil => simp [unfixN]
  | cons x r ih => have := x.toNat_lt; simp only [unfixN, List.length_cons, Nat.pow_succ]; omega
theorem unfixN_snoc (l : List UInt8) (x : UInt8) : unfixN (l ++ [x]) = unfixN l + x.toNat * 256 ^ l.length := by
  induction l with
  | nil => simp [unfixN]
  | cons y r ih => simp only [List.cons_append, unfixN, ih, List.length_cons, Nat.pow_succ, Nat.mul_add]; rw [Nat.mul_comm (256 ^ r.length) 256, Nat.mul_left_comm x.toNat 256]; omega
theorem unfixN_take {bs : List UInt8} {k : Nat} (h : k < bs.length) : unfixN (bs.take (k + 1)) = unfixN (bs.take k) + bs[k].toNat * 256 ^ k := by
  rw [List.take_succ_eq_append_getElem h, unfixN_snoc, List.length_take, Nat.min_eq_left (by omega)]
theorem unfixN_take_lt (bs : List UInt8) (k : Nat) (h : k ≤ bs.length) : unfixN (bs.take k) < 256 ^ k := by
  have := unfixN_lt (bs.take k)
  rwa [List.length_take, Nat.min_eq_left h] at this
theorem pow256 {k : Nat} (h : k ≤ 8) : (256 : Nat) ^ k ≤ 18446744073709551616 := by
  have : (256 : Nat) ^ k ≤ 256 ^ 8 := Nat.pow_le_pow_right (by omega) h
  omega
theorem number_wrap {bs : List UInt8} {k : Nat} (h : k < bs.length) (hk : k < 8) :
    IntKind.u64.wrap ((unfixN (bs.take k) : Int) + IntKind.u64.wrap ((bs[k].toNat : Int) * 2 ^ (8 * k))) = (unfixN (bs.take (k + 1)) : Int) := by
  have h1 := unfixN_take h
  have h2 := unfixN_take_lt bs (k + 1) (by omega)
  have h3 := pow256 (k := k + 1) (by omega)
  have e : (bs[k].toNat : Int) * 2 ^ (8 * k) = ((bs[k].toNat * 256 ^ k : Nat) : Int) := by rw [show (256 : Nat) ^ k = 2 ^ (8 * k) from by rw [Nat.pow_mul]]; simp
  rw [e]
  generalize bs[k].toNat * 256 ^ k = z at *
  rw [IntWalk.u64_in (z : Int) (by omega), IntWalk.u64_in _ (by omega)]
  omega

set_option maxRecDepth 100000 in
set_option maxHeartbeats 400000 in
theorem number_any (bs : List UInt8) (A : Option Addr) (c k : Nat) (w : World) (hk1 : 1 ≤ k) (hk : k ≤ 8) (hR : Sl w A c (bs.map bv)) :
    Calls Try.prog 43 #[.slice A bs.length c, .int .i64 (k : Int)] w fun e w' => e = .returned (.tuple #[.int .u64 (if bs.length < k then 0 else unfixN (bs.take k)), .int .i64 (if bs.length < k then 4 else 0)]) ∧ w = w' := by
  have hc := hR.cap
  have hs := hR.small
  simp only [List.length_map] at hc
  by_cases hlt : bs.length < k
  · go_enter Try.func43, Try.ntmps43
    go_wp2
    go_ret2
    exact ⟨by simp, rfl⟩
  · have hle : k ≤ bs.length := by omega
    obtain ⟨b, off, rfl, hb, _⟩ := BRd.at_ hR.rd (k := 0) (by omega)
    go_enter Try.func43, Try.ntmps43
    go_wp2
    go_loop [6, 7, 8, 17] (fun n _ _ i => ∃ j : Nat, j ≤ k ∧ i = .int .i64 j ∧ n = .int .u64 (unfixN (bs.take j) : Int)) (fun _ _ _ i => k - (intOf i).toNat)
    case atStart => exact ⟨0, by omega, rfl, by simp [unfixN]⟩
    case round =>
      obtain ⟨j, hj, rfl, rfl⟩ := hrel
      by_cases hjk : j < k
      · have hn := number_wrap (bs := bs) (k := j) (by omega) (by omega)
        obtain ⟨b', off', he, hb', hcell⟩ := BRd.at_ hR.rd (k := j) (by omega)
        injection he with he
        injection he with he1 he2
        subst he1
        subst he2
        have hx := (bs[j]'(by omega)).toNat_lt
        generalize (bs[j]'(by omega)).toNat = y at *
        have HN := hid hn
        clear hn
        go_wp2
        go_round
        case rel => exact ⟨j + 1, by omega, by go_num, by rw [← HN.out]⟩
        case measure => simp [intOf] <;> omega
      · obtain rfl : j = k := by omega
        go_wp2
        go_ret2
        exact ⟨by simp, rfl⟩

set_option maxRecDepth 100000 in
set_option maxHeartbeats 400000 in
theorem get32_any (bs : List UInt8) (A : Option Addr) (c : Nat) (w : World) (hR : Sl w A c (bs.map bv)) :
    Calls Try.prog 40 #[.slice A bs.length c] w fun e w' => e = .returned (.tuple #[.int .u32 (if bs.length < 4 then 0 else unfixN (bs.take 4)), .int .i64 (if bs.length < 4 then 4 else 0)]) ∧ w = w' := by
  have hv : 0 ≤ (if bs.length < 4 then 0 else (unfixN (bs.take 4) : Int)) ∧ (if bs.length < 4 then 0 else (unfixN (bs.take 4) : Int)) ≤ 4294967295 := by
    split
    · omega
    · have := unfixN_take_lt bs 4 (by omega); omega
  have hc : Calls Try.prog 43 #[.slice A bs.length c, .int .i64 4] w _ := number_any bs A c 4 w (by omega) (by omega) hR
  generalize (if bs.length < 4 then 0 else (unfixN (bs.take 4) : Int)) = v at *
  generalize (if bs.length < 4 then (4 : Int) else 0) = u at *
  have HC := hid hc
  clear hc
  go_enter Try.func40, Try.ntmps40
  go_wp2_with (go_at_call 43; refine HC.out.mono ?_; rintro e w' ⟨rfl, rfl⟩)
  go_ret2
  exact ⟨rfl, rfl⟩
theorem unfixN_drop {bs : List UInt8} {k j : Nat} (h : j < k) (hk : k ≤ bs.length) : unfixN ((bs.take k).drop j) = (bs[j]'(by omega)).toNat + 256 * unfixN ((bs.take k).drop (j + 1)) := by
  rw [List.drop_eq_getElem_cons (by rw [List.length_take]; omega), unfixN]
  simp
theorem unfixN_drop_lt (bs : List UInt8) (k j : Nat) (hk : k ≤ bs.length) : unfixN ((bs.take k).drop j) < 256 ^ (k - j) := by
  have := unfixN_lt ((bs.take k).drop j)
  rwa [List.length_drop, List.length_take, Nat.min_eq_left hk] at this
end Go.Proofs.Ytgiealcfhlcpoaa
set_option linter.unusedVariables false
namespace Go.Proofs.Ytgiealcfhlcpoaa
open Go.RowKit
theorem putN_small {n : Nat} (h : n < 128) : putN n = [b8 n] := by simp [putN, sevs, h, sevB, b8]
theorem putN_big {n : Nat} (h : ¬ n < 128) : putN n = b8 (n % 128 + 128) :: putN (n / 128) := by
  rw [putN, sevs, dif_neg h]; simp [sevB, putN, b8]
theorem putN_length (k : Nat) (n : Nat) (h : n < 128 ^ (k + 1)) : (putN n).length ≤ k + 1 := by simpa [putN] using sevs_length k n h
theorem putN_length10 {n : Nat} (h : n ≤ 18446744073709551615) : (putN n).length ≤ 10 := putN_length 9 n (by omega)

end Go.Proofs.Ytgiealcfhlcpoaa
set_option linter.unusedVariables false
namespace Go.Proofs.Ytgiealcfhlcpoaa
open Go.RowKit Go.Shelf
attribute [local go_sem] Oper.semAt_some
abbrev Byt : Type := { p : Nat // p < 256 }
abbrev bytEnc (x : Byt) : Array Value := #[.int .u8 (x.1 : Int)]
def lows (n k : Nat) : List Byt := (List.range k).map fun i => ⟨n / 2 ^ (8 * i) % 256, by omega⟩
theorem lows_succ (n k : Nat) : lows n (k + 1) = lows n k ++ [⟨n / 2 ^ (8 * k) % 256, by omega⟩] := by simp [lows, List.range_succ]
theorem lows_pre (n : Nat) {j k : Nat} (h : j ≤ k) : lows n j <+: lows n k := by
  obtain ⟨d, rfl⟩ : ∃ d, k = j + d := ⟨k - j, by omega⟩
  clear h
  induction d with
  | zero => exact List.prefix_rfl
  | succ d ih => rw [← Nat.add_assoc, lows_succ]; exact ih.trans (List.prefix_append _ _)
theorem lows_length (n k : Nat) : (lows n k).length = k := by simp [lows]
theorem lows_fix (n k : Nat) : (lows n k).map (fun x => b8 x.1) = fixN k n := by
  induction k generalizing n with
  | zero => rfl
  | succ k ih =>
    rw [fixN, ← ih (n / 256)]
    simp only [lows, List.range_succ_eq_map, List.map_cons, List.map_map]
    congr 1
    · simp
    · apply List.map_congr_left
      intro i _
      simp only [Function.comp]
      rw [show 8 * (i + 1) = 8 + 8 * i from by omega, Nat.pow_add, ← Nat.div_div_eq_div_mul]

theorem lowest_in (F : Fence) (m : Nat) (hf : F.fn 44) (hro : F.round = none) (n k : Int) (w : World) :
    CallsIn F m Try.prog 44 #[.int .u64 n, .int .i64 k] w fun e w' => e = .returned (.func (.func 46) #[] #[.pointer (some ⟨w.heap.size + 1, 0, none⟩), .pointer (some ⟨w.heap.size, 0, none⟩)]) ∧ w' = (w.alloc (.cells #[.int .u64 n] 87)).alloc (.cells #[.int .i64 k] 3) := by
  refine callsIn_of_wp Try.func44 rfl hf ?_ hro
  simp only [Try.ntmps44, List.size_toArray, List.length_cons, List.length_nil, Nat.reduceAdd, Nat.reduceSub, Array.replicate_succ, Array.replicate_zero, List.push_toArray, List.append_toArray, List.nil_append, List.cons_append]
  gi_wp2
  go_ret
  exact ⟨rfl, rfl⟩
/-- What a round must keep: block B lies as it lay. -/
def KB (B : Nat) (o : Obj) (A A' : World) : Prop := A.heap[B]? = some o → A'.heap[B]? = some o
theorem KB.t {B : Nat} {o : Obj} {A A' A'' : World} (h : KB B o A A') (h' : KB B o A' A'') : KB B o A A'' := fun hA => h' (h hA)
theorem KB.b {B N : Nat} {o : Obj} (hB : B < N) (W : World) (l : Nat) (p p' : Obj) (hl : N ≤ l) (_ : W.heap[l]? = some p) (_ : p.isCells = false) (_ : p.isWalk = false) : KB B o W (W.putObj l p') :=
  fun hA => (World.putObj_heap_other (by omega)).trans hA
set_option maxRecDepth 100000 in
set_option maxHeartbeats 1000000 in
theorem lowest1_in (F : Fence) (m : Nat) (hf : F.fn 46) (hro : F.round = none) (hm : 1 ≤ m) (l B1 B2 : Nat) (n k : Nat) (hn64 : n ≤ 18446744073709551615) (hk : k ≤ 8) (J Jx : List Byt → World → Prop)
    (hY : ∀ pre x W, J pre W → pre.length < (lows n k).length → YieldAt F (m - 1) Try.prog l (bytEnc x) W fun e W' =>
      (e = .returned (.bool true) ∧ J (pre ++ [x]) W' ∧ KB B2 (.cells #[.int .u64 (n : Int)] 87 (0, 0)) W W') ∨ (e = .returned (.bool false) ∧ Jx (pre ++ [x]) W'))
    (W : World) (hB1c : W.cell? ⟨B1, 0, none⟩ = some (.int .i64 (k : Int))) (hB2c : Boxed W B2 87 (.int .u64 (n : Int))) (h0 : J [] W) :
    CallsIn F m Try.prog 46 #[.func (.yield l) #[] #[], .pointer (some ⟨B1, 0, none⟩), .pointer (some ⟨B2, 0, none⟩)] W fun e W' => (∃ v, e = .returned v) ∧
      ((∃ ys, ys = lows n k ∧ J ys W') ∨ (∃ pre, pre <+: lows n k ∧ Jx pre W')) := by
  refine callsIn_of_wp Try.func46 rfl hf ?_ hro
  simp only [Try.ntmps46, List.size_toArray, List.length_cons, List.length_nil, Nat.reduceAdd, Nat.reduceSub, Array.replicate_succ, Array.replicate_zero, List.push_toArray, List.append_toArray, List.nil_append, List.cons_append]
  gi_wp2
  gi_loopw [4, 6] (fun _ p wr => ∃ (j : Nat), p = .int .i64 (j : Int) ∧ j ≤ k ∧ J (lows n j) wr ∧ Boxed wr B2 87 (.int .u64 (n : Int)))
    (fun _ p _ => k - (intOf p).toNat)
  case atStart =>
    exact ⟨0, rfl, by omega, h0, hB2c⟩
  case round =>
    obtain ⟨j, rfl, hj, hJs, hbx⟩ := hrel
    have hc2 := hbx.cell
    by_cases hlt : j < k
    · obtain ⟨fn, tmps, assign, body, hy, hR⟩ := hY (lows n j) ⟨n / 2 ^ (8 * j) % 256, by omega⟩ wr hJs (by rw [lows_length, lows_length]; omega)
      dsimp only [bytEnc] at hy
      rw [show ((n / 2 ^ (8 * j) % 256 : Nat) : Int) = (n : Int) / 2 ^ (8 * j) % 256 from by simp] at hy
      gi_wp2
      refine hR.mono ?_
      rintro e W3 (⟨rfl, hJ3, hk3⟩ | ⟨rfl, hJx3⟩)
      · gi_wp2
        go_roundw
        case rel => exact ⟨j + 1, by go_num, by omega, by rw [lows_succ]; exact hJ3, hk3 hbx⟩
        case measure => simp [intOf] <;> omega
      · gi_wp2
        refine bodyPost_ret (results_none rfl _ _ _) rfl ?_
        exact ⟨⟨_, rfl⟩, .inr ⟨_, by rw [← lows_succ]; exact lows_pre n (by omega), hJx3⟩⟩
    · obtain rfl : j = k := by omega
      gi_wp2
      go_end0
      exact ⟨⟨_, rfl⟩, .inl ⟨_, rfl, hJs⟩⟩
theorem lowest_stops (F : Fence) (m : Nat) (hf : F.fn 46) (hro : F.round = none) (hm : 1 ≤ m) (B1 B2 : Nat) (n k : Nat) (hn64 : n ≤ 18446744073709551615) (hk : k ≤ 8) (w : World)
    (h1 : Boxed w B1 3 (.int .i64 (k : Int))) (h2 : Boxed w B2 87 (.int .u64 (n : Int))) :
    SeqStopsK F m Try.prog 46 #[.pointer (some ⟨B1, 0, none⟩), .pointer (some ⟨B2, 0, none⟩)] bytEnc (KB B2 (.cells #[.int .u64 (n : Int)] 87 (0, 0))) (fun ys => ys = lows n k) (fun pre => pre <+: lows n k) (lows n k).length w := fun l J Jx W hW _ _ hY h0 =>
  lowest1_in F m hf hro hm l B1 B2 n k hn64 hk J Jx hY W ((hW.cell (p := ⟨B1, 0, none⟩) h1.lt).trans h1.cell) ((hW.block B2 h2.lt).trans h2) h0

def bytBs (xs : List Byt) : List Value := xs.map fun x => bv (b8 x.1)
set_option maxRecDepth 100000 in
set_option maxHeartbeats 2000000 in
theorem fixed_in (F : Fence) (m : Nat) (hf1 : F.fn 41) (hf2 : F.fn 44) (hf3 : F.fn 46) (hro : F.round = none) (hm : 3 ≤ m) (n k : Nat) (hn64 : n ≤ 18446744073709551615) (hk : k ≤ 8) (w : World) :
    CallsIn F m Try.prog 41 #[.int .u64 (n : Int), .int .i64 (k : Int)] w fun e W' => ∃ v, e = .returned v ∧ W'.ownsRow w.heap.size 5 1 v (fixN k n).length ((fixN k n).map bv) ∧ Below w.heap.size w W' := by
  have h1 : 1 ≤ m := by omega
  obtain ⟨i0, hi, hz0, hz1, hz2⟩ := info_parts Try.info5
  have hmk : ∀ u : World, (Instr.makeSlice 25 (.int .i64 0) (.int .i64 (k : Int))).run Try.prog u = .ok (.slice (some ⟨u.heap.size, 0, none⟩) 0 k) (u.alloc (.cells (madeCells #[.int .u8 0] k) 5)) := fun u => by
    have h := run_make (P := Try.prog) u 25 5 i0 (.int .u8 0) Try.underlying25 hi hz0 .i64 .i64 0 (k : Int) (by omega) (by omega) (by rw [hz2]; omega) (by omega)
    simpa [hz1, Value.cells] using h
  refine callsIn_of_wp_marks Try.func41 rfl hf1 ?_ hro
  simp only [Try.ntmps41, List.size_toArray, List.length_cons, List.length_nil, Nat.reduceAdd, Nat.reduceSub, Array.replicate_succ, Array.replicate_zero, List.push_toArray, List.append_toArray, List.nil_append, List.cons_append]
  gi_wp2_with (gi_at_call 44; refine (lowest_in F (m - 1) hf2 hro _ _ _).mono ?_; rintro e w' ⟨rfl, rfl⟩)
  generalize hW0 : (w.alloc _) = Wa
  have bO := Boxed.new Wa 25 (.slice (some ⟨w.heap.size, 0, none⟩) 0 k)
  have bN := Boxed.new (Wa.alloc (.cells #[.slice (some ⟨w.heap.size, 0, none⟩) 0 k] 25)) 87 (.int .u64 (n : Int))
  have bK := Boxed.new ((Wa.alloc (.cells #[.slice (some ⟨w.heap.size, 0, none⟩) 0 k] 25)).alloc (.cells #[.int .u64 (n : Int)] 87)) 3 (.int .i64 (k : Int))
  have hz : Wa.heap.size = w.heap.size + 1 := by rw [← hW0]; simp
  rw [World.size_alloc, World.size_alloc, hz] at bK
  rw [World.size_alloc, hz] at bN
  rw [hz] at bO
  have hrow : Wa.ownsRow w.heap.size 5 1 (.slice (some ⟨w.heap.size, 0, none⟩) 0 k) 0 [] := by
    rw [← hW0]; exact World.ownsRow_made _ _ _ (Nat.le_refl _) (by simp only [maxLen]; omega) (by rw [size_madeCells]; omega)
  have hBa : Below w.heap.size w Wa := by rw [← hW0]; exact (Below.refl _ w).alloc (Nat.le_refl _) _
  have hB0 := ((hBa.alloc hBa.size (.cells #[.slice (some ⟨w.heap.size, 0, none⟩) 0 k] 25)).alloc (by simp; omega) (.cells #[.int .u64 (n : Int)] 87)).alloc (by simp; omega) (.cells #[.int .i64 (k : Int)] 3)
  clear hW0
  refine wpIn_rangeFunc_ownG hro h1 (gf := 46) (lb := #[.pointer (some ⟨w.heap.size + 1 + 1 + 1, 0, none⟩), .pointer (some ⟨w.heap.size + 1 + 1, 0, none⟩)]) rfl hf3 (enters_of Try.func46 (by kernel_rfl) rfl)
    (lowest_stops F (m - 1) hf3 hro (by omega) (w.heap.size + 1 + 1 + 1) (w.heap.size + 1 + 1) n k hn64 hk _ bK (bN.alloc _)) KB.t (KB.b (by simp; omega)) (Below.refl _ _) (fun _ => rfl)
    (fun pre W => (∃ v, Boxed W (w.heap.size + 1) 25 v ∧ W.ownsRow w.heap.size 5 1 v pre.length (bytBs pre) ∧ True) ∧ Below w.heap.size w W)
    (fun _ _ _ => False)
    (OwnFrom.and (Own.from (holdsRow_own w.heap.size (w.heap.size + 1) 25 5 1 (fun pre => pre.length) bytBs (fun _ _ => True)) _) (ownFrom_below (Nat.le_refl _) (by simp; omega)))
    (fun _ _ _ _ _ hs _ _ => hs)
    ⟨⟨_, (bO.alloc _).alloc _, ((hrow.alloc _).alloc _).alloc _, trivial⟩, hB0⟩
    (fun x => { tmps := #[.int .u64 (n : Int), .int .i64 (k : Int), undef, undef, .slice none 0 0, .pointer (some ⟨w.heap.size + 1, 0, none⟩), .int .u8 (x.1 : Int), .int .i64 (k : Int), .slice (some ⟨w.heap.size, 0, none⟩) 0 k, .int .u64 (n : Int), .int .i64 (k : Int), .func (.func 46) #[] #[.pointer (some ⟨w.heap.size + 1 + 1 + 1, 0, none⟩), .pointer (some ⟨w.heap.size + 1 + 1, 0, none⟩)], .int .u8 (x.1 : Int), undef, undef, undef, undef, undef], defers := [] }) ?assign ?body ?done ?stop
  case assign =>
    intro l x W K hK
    gi_wp2
    exact hK
  case body =>
    rintro l pre ⟨a, ha⟩ W ⟨⟨v, hv, hrow, _⟩, hB⟩ hlt
    have hc := hv.cell
    rw [lows_length] at hlt
    have HB := hid (bv_b8 a ha)
    gi_wp2_with (gi_at_builtin; refine wpListIn_append_own _ rfl _ _ 25 rfl w.heap.size 5 i0 (.int .u8 0) 1 1 Try.underlying25 hi hz0 hz1 hz2 rfl (by decide) _ _ _ rfl (hrow.alloc _) ⟨W.heap.size, 0, none⟩ 1 1 [.int .u8 (a : Int)] rfl rfl (cell_one_new _ _ _) (by simp [Value.oneCell']) (by simp only [maxLen]; omega) (by omega) (by have := hB.size; simp; omega) ?_; intro v' w1 hown' hgrow _; obtain ⟨g', cap', rfl⟩ := ownsRow_succ hown'; obtain ⟨hv1, hv2, hr2, hk2, hb2⟩ := hv.appended (by decide) hrow hB.size (by omega) hown' hgrow; have hc1 := hv1.cell; have hf1 := hv1.frozen)
    have hkb : KB (w.heap.size + 1 + 1) (.cells #[.int .u64 (n : Int)] 87 (0, 0)) W (w1.setCell ⟨w.heap.size + 1, 0, none⟩ (.slice (some ⟨g', 0, none⟩) (pre.length + 1) cap')) := fun hA =>
      Boxed.other (((show Boxed W _ _ _ from hA).alloc _).kept hgrow (Boxed.not_row hA (by decide) hrow)) (by omega) _
    have he : bytBs (pre ++ [⟨a, ha⟩]) = bytBs pre ++ [.int .u8 (a : Int)] := by simp only [bytBs, List.map_append, List.map_cons, List.map_nil, HB.out]
    exact ⟨hk2.from _, hkb, ⟨_, hv2, by rw [he, List.length_append]; exact hr2⟩, hB.trans hb2⟩
  case done =>
    rintro D xs W hD rfl ⟨⟨v, hv, hrow, _⟩, hB⟩ hK
    have hc := hv.cell
    gi_wp2
    refine ⟨by simp, .inl ⟨_, _, rfl, run_takeDeferred hK, ?_⟩⟩
    have hlf := lows_fix n k
    have hl2 : (fixN k n).map bv = bytBs (lows n k) := by rw [← hlf, List.map_map]; rfl
    exact ⟨_, results_tmp rfl _ _ _, v, rfl, by have h := ownsRow_putObj hrow (.deferred none) hK rfl; rw [lows_length] at h; rw [hl2, length_fixN]; exact h, hB.trans (belowK_b (w := w) (Nat.le_refl _) W D _ _ (by simp at hD; omega) hK rfl rfl)⟩
  case stop =>
    rintro D c pre W _ _ h _
    exact h.elim
theorem fixed_any (n k : Nat) (hn64 : n ≤ 18446744073709551615) (hk : k ≤ 8) (w : World) :
    Calls Try.prog 41 #[.int .u64 (n : Int), .int .i64 (k : Int)] w fun e W' => ∃ A c, e = .returned (.slice A (fixN k n).length c) ∧ Sl W' A c ((fixN k n).map bv) ∧ Below w.heap.size w W' :=
  ((callsIn_wide (n := 3)).1 (fixed_in Fence.wide 3 trivial trivial trivial rfl (Nat.le_refl _) n k hn64 hk w)).mono fun _ _ ⟨_, he, ho, hb⟩ => let ⟨A, c, hv, _, hs⟩ := Sl.of_own ho; ⟨A, c, by rw [he, hv], hs, hb⟩
set_option maxRecDepth 100000 in
set_option maxHeartbeats 400000 in
theorem fix32_any (n : Nat) (hn : n ≤ 4294967295) (w : World) :
    Calls Try.prog 36 #[.int .u32 (n : Int)] w fun e W' => ∃ A c, e = .returned (.slice A 4 c) ∧ Sl W' A c ((fixN 4 n).map bv) ∧ Below w.heap.size w W' := by
  have hc : Calls Try.prog 41 #[.int .u64 (n : Int), .int .i64 4] w _ := fixed_any n 4 (by omega) (by omega) w
  rw [length_fixN] at hc
  have HC := hid hc
  clear hc
  go_enter Try.func36, Try.ntmps36
  go_wp2_with (go_at_call 41; refine HC.out.mono ?_; rintro e w' ⟨A, c, rfl, hs, hb⟩)
  go_ret
  exact ⟨A, c, rfl, hs, hb⟩
end Go.Proofs.Ytgiealcfhlcpoaa
set_option linter.unusedVariables false
namespace Go.Proofs.Ytgiealcfhlcpoaa
open Go.RowKit

set_option maxRecDepth 100000 in
set_option maxHeartbeats 1000000 in
theorem same_any (xs ys : List UInt8) (A B : Option Addr) (c d : Nat) (w : World) (hl : xs.length ≤ 9223372036854775807) (hA : BRd w A xs) (hB : BRd w B ys) :
    Calls Try.prog 14 #[.slice A xs.length c, .slice B ys.length d] w fun e w' => e = .returned (.bool (decide (xs = ys))) ∧ ∃ n, w' = w.drewN n := by
  by_cases hne : xs.length = ys.length
  · have hnb : ((xs.length : Int) != (ys.length : Int)) = false := by simp [hne]
    have HNE := hid hne
    clear hne
    go_enter Try.func14, Try.ntmps14
    go_wp2
    go_loopw [5] (fun i wr => ∃ k n : Nat, k ≤ xs.length ∧ i = .int .i64 k ∧ wr = w.drewN n ∧ xs.take k = ys.take k) (fun i _ => xs.length - (intOf i).toNat)
    case atStart => exact ⟨0, 0, by omega, rfl, rfl, by simp⟩
    case round =>
      obtain ⟨k, n, hk, rfl, rfl, ht⟩ := hrel
      have HT := hid ht
      clear ht
      by_cases hlt : k < xs.length
      · have hlt2 : k < ys.length := by have := HNE.out; omega
        obtain ⟨b1, o1, rfl, hb1, hc1⟩ := hA.at_ hlt
        obtain ⟨b2, o2, rfl, hb2, hc2⟩ := hB.at_ hlt2
        by_cases hxy : xs[k] = ys[k]
        · rw [hxy] at hc1
          generalize hy : (ys[k].toNat : Int) = y at hc1 hc2
          clear hy
          go_wp2
          go_quiet (fail)
          go_wp2
          go_roundw
          case rel => exact ⟨k + 1, _, by omega, by go_num, rfl, by rw [List.take_succ_eq_append_getElem hlt, List.take_succ_eq_append_getElem hlt2, HT.out, hxy]⟩
          case measure => simp [intOf]; omega
        · have hne : ((xs[k].toNat : Int) != (ys[k].toNat : Int)) = true := by
            rw [bne_iff_ne]; intro h; exact hxy (UInt8.toNat_inj.1 (by omega))
          generalize (xs[k].toNat : Int) = x at *
          generalize (ys[k].toNat : Int) = y at *
          go_wp2
          go_quiet (fail)
          go_wp2
          go_ret
          exact ⟨ret_bool (by simp [ne_of_get hlt hlt2 hxy]), _, World.drewN_drewN ..⟩
      · go_wp2
        go_ret
        exact ⟨ret_bool (by simp [eq_of_take HNE.out (by omega) HT.out]), _, rfl⟩
  · have hnb : ((xs.length : Int) != (ys.length : Int)) = true := by rw [bne_iff_ne]; omega
    go_enter Try.func14, Try.ntmps14
    go_wp2
    go_ret
    exact ⟨ret_bool (by simp; rintro rfl; exact hne rfl), 0, rfl⟩
theorem same_at (xs ys : List UInt8) (n m : Nat) (A B : Option Addr) (c d : Nat) (w : World) (hn : xs.length = n) (hm : ys.length = m) (hl : n ≤ 9223372036854775807) (hA : BRd w A xs) (hB : BRd w B ys) :
    Calls Try.prog 14 #[.slice A n c, .slice B m d] w fun e w' => e = .returned (.bool (decide (xs = ys))) ∧ ∃ n, w' = w.drewN n := by
  subst hn; subst hm; exact same_any xs ys A B c d w hl hA hB
end Go.Proofs.Ytgiealcfhlcpoaa
set_option linter.unusedVariables false
namespace Go.Proofs.Ytgiealcfhlcpoaa
open Go.RowKit
def zig (n : Int) : Int := if 0 ≤ n then 2 * n else 2 * (-(n + 1)) + 1
def zag (n : Int) : Int := if n % 2 = 0 then n / 2 else -(n / 2) - 1
theorem zag_zig (n : Int) : zag (zig n) = n := by unfold zig zag; split <;> split <;> omega
theorem zig_zag (n : Int) (h : 0 ≤ n) : zig (zag n) = n := by unfold zig zag; split <;> split <;> omega
theorem zig_range (n : Int) (h1 : -9223372036854775808 ≤ n) (h2 : n ≤ 9223372036854775807) : 0 ≤ zig n ∧ zig n ≤ 18446744073709551615 := by unfold zig; split <;> omega
theorem zag_range (n : Int) (h1 : 0 ≤ n) (h2 : n ≤ 18446744073709551615) : -9223372036854775808 ≤ zag n ∧ zag n ≤ 9223372036854775807 := by unfold zag; split <;> omega
/-- How many bytes a number has. -/
def sizeN (n : Nat) : Nat := if n < 128 then 1 else 1 + sizeN (n / 128)
  termination_by n
  decreasing_by omega
theorem bitLenAux_le (f : Nat) : ∀ x k, x < 2 ^ f → (Lib.bitLenAux f x ≤ k ↔ x < 2 ^ k) := by
  induction f with
  | zero => intro x k h; have : 0 < 2 ^ k := Nat.pow_pos (by omega); simp [Lib.bitLenAux]; omega
  | succ f ih =>
    intro x k h
    rw [Lib.bitLenAux]
    split
    · have : 0 < 2 ^ k := Nat.pow_pos (by omega)
      constructor <;> intros <;> omega
    · cases k with
      | zero => simp; omega
      | succ k => have := ih (x / 2) k (by rw [Nat.pow_succ] at h; omega); rw [Nat.pow_succ]; omega
theorem sizeN_pos (n : Nat) : 1 ≤ sizeN n := by rw [sizeN]; split <;> omega
theorem sizeN_le (k : Nat) : ∀ n, sizeN n ≤ k + 1 ↔ n < 128 ^ (k + 1) := by
  induction k with
  | zero => intro n; rw [sizeN]; have := sizeN_pos (n / 128); split <;> simp <;> omega
  | succ k ih =>
    intro n
    have := ih (n / 128)
    rw [sizeN, Nat.pow_succ]
    have hp : 0 < 128 ^ (k + 1) := Nat.pow_pos (by omega)
    split <;> omega
theorem bitLen_size {n : Nat} (h : n ≤ 18446744073709551615) : (max (Lib.bitLen n) 1 + 6) / 7 = sizeN n := by
  have h0 := sizeN_pos n
  have hb : ∀ k, Lib.bitLen n ≤ 7 * (k + 1) ↔ sizeN n ≤ k + 1 := fun k => by
    rw [sizeN_le, show (128 : Nat) ^ (k + 1) = 2 ^ (7 * (k + 1)) from by rw [Nat.pow_mul]]
    exact bitLenAux_le 64 n _ (by omega)
  have h1 := hb (sizeN n - 1)
  by_cases h2 : sizeN n = 1
  · omega
  · have h3 := hb (sizeN n - 2)
    omega
theorem bitLen_shift (n s : Nat) (hn : n ≤ 18446744073709551615) (h : 0 < n / 2 ^ s) : Lib.bitLen n = s + Lib.bitLen (n / 2 ^ s) := by
  have hp : 0 < 2 ^ s := Nat.pow_pos (by omega)
  have hle : n / 2 ^ s ≤ n := Nat.div_le_self _ _
  have key : ∀ k, Lib.bitLen n ≤ s + k ↔ Lib.bitLen (n / 2 ^ s) ≤ k := fun k => by
    unfold Lib.bitLen
    rw [bitLenAux_le 64 n _ (by omega), bitLenAux_le 64 _ _ (by omega), Nat.div_lt_iff_lt_mul hp, Nat.pow_add, Nat.mul_comm]
  have h1 := key (Lib.bitLen (n / 2 ^ s))
  have h2 := key (Lib.bitLen n - s)
  have h3 : ¬ Lib.bitLen n ≤ s := fun hle' => by
    have := (bitLenAux_le 64 n s (by omega)).1 hle'
    rw [Nat.div_eq_of_lt this] at h
    omega
  omega
theorem len8_shift (x i : Int) (s : Nat) (h0 : 0 ≤ x) (h1 : x ≤ 18446744073709551615) (hi : i.toNat = x.toNat / 2 ^ s) (h2 : 0 ≤ i) (h3 : i ≤ 255) (h4 : s = 0 ∨ 1 ≤ i) :
    (s : Int) + Lib.len8 i = (Lib.bitLen x.toNat : Int) := by
  have e := Lib.len8_eq ⟨i.toNat, by omega⟩
  simp only [Int.toNat_of_nonneg h2] at e
  rw [e, hi]
  rcases h4 with rfl | h4
  · simp
  · rw [bitLen_shift x.toNat s (by omega) (by omega)]
    omega
theorem len8_range (i : Int) (h2 : 0 ≤ i) (h3 : i ≤ 255) : 0 ≤ Lib.len8 i ∧ Lib.len8 i ≤ 8 := by
  have e := Lib.len8_eq ⟨i.toNat, by omega⟩
  have e2 := Lib.bitLen_le8 ⟨i.toNat, by omega⟩
  simp only [Int.toNat_of_nonneg h2] at e
  simp only at e2
  omega
end Go.Proofs.Ytgiealcfhlcpoaa
set_option linter.unusedVariables false
namespace Go.Proofs.Ytgiealcfhlcpoaa
open Go.RowKit
def wireB (w : Int) : Bool := decide (w = 0 ∨ w = 1 ∨ w = 2 ∨ w = 5)
def widthN (w : Int) : Int := if w = 1 then 8 else if w = 5 then 4 else 0
/-- Make: the tag and the error. -/
def mk (num wire : Int) : Int × Int := if num < 1 ∨ 536870911 < num then (0, 1) else if wireB wire = false then (0, 7) else (8 * num + wire, 0)
def spl (n : Int) : Int × Int × Int := if n / 8 < 1 ∨ 536870911 < n / 8 then (0, 0, 1) else if wireB (n % 8) = false then (0, 0, 7) else (n / 8, n % 8, 0)
theorem mk_bad {n x : Int} (h : 1 ≤ n) (h' : n ≤ 536870911) (hw : wireB x = false) : mk n x = (0, 7) := by unfold mk; rw [if_neg (by omega), if_pos hw]
theorem mk_ok {n x : Int} (h : 1 ≤ n) (h' : n ≤ 536870911) (hw : wireB x = true) : mk n x = (8 * n + x, 0) := by unfold mk; rw [if_neg (by omega), if_neg (by simp [hw])]
theorem spl_bad {n : Int} (h : 1 ≤ n / 8) (h' : n / 8 ≤ 536870911) (hw : wireB (n % 8) = false) : spl n = (0, 0, 7) := by unfold spl; rw [if_neg (by omega), if_pos hw]
theorem spl_ok {n : Int} (h : 1 ≤ n / 8) (h' : n / 8 ≤ 536870911) (hw : wireB (n % 8) = true) : spl n = (n / 8, n % 8, 0) := by unfold spl; rw [if_neg (by omega), if_neg (by simp [hw])]
theorem wireB_lt {x : Int} (h : wireB x = true) : 0 ≤ x ∧ x ≤ 5 := by simp [wireB] at h; omega

end Go.Proofs.Ytgiealcfhlcpoaa
