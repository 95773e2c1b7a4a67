/- varint.Get and the document's Get. · varint.All and the document's All. · varint.sevens: the iterator's contract. · varint.Put: a range over a function. · Numbers of four and eight bytes: the document's Fix and Unfix, the program's number, Get32, Get64. · The document's Put (layer 1) and Fix (layer 2): rows that grow by append. · tag.lowest, tag.fixed, Fix32, Fix64: a range over a function. · The document's comparisons of lists: Same (bytes), Nums (numbers). · The functions of layers 1 and 2 that only compute with numbers, and the document's. · tag.Make, Split, Width, and the document's. -/
import Derived.Test.YtmcebepfoleknaaProg
import Derived.Test.YtmcebepfoleknaaM1
import Derived.Deep.LoopGhost
import Derived.Maps.AppendAt
import Derived.RangeFuncNested
import Derived.RangeFuncBound
import Derived.RangeFuncCalls
import Derived.RangeFuncLeaves
import Derived.RangeFuncBox
import Derived.Shelf.Abstract
import Derived.Shelf.RegionOpen
import Derived.WalkKit
import Derived.OwnWalkIn
import Derived.TacticsInMore
import Derived.LoopNIn
import Derived.LoopIn
import Derived.Deep.QuietTactic
import Derived.BigQuiet
import Derived.Lib.Strings
import Derived.Lib.Slices
import Derived.Lib.Small
import Derived.Lib.Walk
import Derived.Lib.BitFns
set_option linter.unusedVariables false
namespace Go.Proofs.Ytmcebepfoleknaa
open Go.RowKit
set_option maxRecDepth 100000 in
set_option maxHeartbeats 400000 in
theorem get_any (bs : List UInt8) (A : Option Addr) (c : Nat) (w : World) (hl : bs.length ≤ 9223372036854775807) (hR : BRd w A bs) :
    Calls Try.prog 141 #[.slice A bs.length c] w fun e w' => e = .returned (.tuple #[.int .u64 (M.get bs).1, .int .i64 (M.get bs).2.1, .int .i64 (M.get bs).2.2]) ∧ w = w' := by
  go_enter Try.func141, Try.ntmps141
  go_wp2
  go_step3
  go_wp2
  go_step3
  go_wp2
  go_loop [5, 6, 7, 8, 9, 12] (fun n s _ _ _ i => ∃ k acc : Nat, k ≤ bs.length ∧ k ≤ 9 ∧ i = .int .i64 k ∧ n = .int .u64 acc ∧ s = .int .i64 0 ∧ acc < 128 ^ k ∧ M.get bs = M.getF k acc (bs.drop k))
    (fun _ _ _ _ _ i => bs.length - (intOf i).toNat)
  case atStart => exact ⟨0, 0, by omega, by omega, rfl, rfl, rfl, by simp, by simp [M.get]⟩
  case round =>
    obtain ⟨k, acc, hk, hk9, rfl, rfl, rfl, hacc, hget⟩ := hrel
    have HG := hid hget
    clear hget
    have HA := hid hacc
    clear hacc
    by_cases hlt : k < bs.length
    · have hs := M.getF_at (acc := acc) hlt
      obtain ⟨b, off, rfl, hb, hc⟩ := hR.at_ hlt
      have hx := bs[k].toNat_lt
      generalize bs[k].toNat = y at *
      have HS := hid hs
      clear hs
      by_cases h9 : k = 9
      · subst h9
        by_cases y1 : 128 ≤ y
        · go_wp2
          go_ret3
          rw [HG.out, HS.out]
          exact ⟨by simp [y1], rfl⟩
        by_cases y2 : 1 < y
        · go_wp2
          go_ret3
          rw [HG.out, HS.out]
          exact ⟨by simp [y1, y2], rfl⟩
        · go_wp2
          go_ret3
          rw [M.get_wrap9 HA.out (by omega), HG.out, HS.out]
          exact ⟨by simp [y1, y2], rfl⟩
      · have h9' : k < 9 := by omega
        by_cases y1 : y < 128
        · have hk0 : ((k : Int) + 1 == 0) = false := by simp; omega
          go_wp2
          go_ret3
          rw [M.get_wrap hk9 HA.out y1 (by omega)]
          rw [HG.out, HS.out]
          exact ⟨by simp [h9, y1], rfl⟩
        · go_wp2
          go_round
          case rel => exact ⟨k + 1, acc + (y - 128) * 128 ^ k, by omega, by omega, by go_num, by rw [M.get_wrap' h9' HA.out (by omega) (by omega)], rfl, M.get_acc HA.out (by omega), by rw [HG.out, HS.out, if_neg h9, if_neg y1]⟩
          case measure => simp [intOf]; omega
    · have hs := M.getF_end (acc := acc) (show bs.length ≤ k by omega)
      have HS := hid hs
      clear hs
      go_wp2
      go_ret3
      rw [HG.out, HS.out]
      exact ⟨rfl, rfl⟩

end Go.Proofs.Ytmcebepfoleknaa
set_option linter.unusedVariables false
namespace Go.Proofs.Ytmcebepfoleknaa
open Go.RowKit
theorem Try.info24 : (Try.prog.info? 24).map (fun i => (i.zero, i.size, i.bytes)) = some (some (.int .u64 0), 1, 8) := by kernel_rfl
theorem get_at (bs : List UInt8) (n : Nat) (A : Option Addr) (c : Nat) (w : World) (hn : bs.length = n) (hl : n ≤ 9223372036854775807) (hR : BRd w A bs) :
    Calls Try.prog 141 #[.slice A n c] w fun e w' => e = .returned (.tuple #[.int .u64 (M.get bs).1, .int .i64 (M.get bs).2.1, .int .i64 (M.get bs).2.2]) ∧ w = w' := by
  subst hn; exact get_any bs A c w hl hR
theorem BRd.drop {w : World} {b off : Nat} {bs : List UInt8} (h : BRd w (some ⟨b, off, none⟩) bs) (k : Nat) : BRd w (some ⟨b, off + k, none⟩) (bs.drop k) := by
  intro j u hj
  rw [List.map_drop, List.getElem?_drop] at hj
  obtain ⟨b', off', he, hlt, hc⟩ := h (k + j) u hj
  injection he with he; injection he with h1 h2; subst h1; subst h2
  exact ⟨b, off + k, rfl, hlt, by rw [Nat.add_assoc]; exact hc⟩
end Go.Proofs.Ytmcebepfoleknaa
set_option linter.unusedVariables false
namespace Go.Proofs.Ytmcebepfoleknaa
open Go.RowKit Go.Shelf
attribute [local go_sem] Oper.semAt_some

abbrev Sev : Type := { p : Nat × Bool // p.1 < 128 }
def sevs (n : Nat) : List Sev := if h : n < 128 then [⟨(n, false), h⟩] else ⟨(n % 128, true), by omega⟩ :: sevs (n / 128)
  termination_by n
  decreasing_by omega

end Go.Proofs.Ytmcebepfoleknaa
set_option linter.unusedVariables false
namespace Go.Proofs.Ytmcebepfoleknaa
open Go.RowKit Go.Shelf
attribute [local go_sem] Oper.semAt_some

def sevB (x : Sev) : UInt8 := if x.1.2 then UInt8.ofNat (x.1.1 + 128) else UInt8.ofNat x.1.1
def putN (n : Nat) : List UInt8 := (sevs n).map sevB

end Go.Proofs.Ytmcebepfoleknaa
set_option linter.unusedVariables false
namespace Go.Proofs.Ytmcebepfoleknaa
open Go.RowKit
/-- so many bytes of a number, the lowest first -/
def fixN : Nat → Nat → List UInt8
  | 0, _ => []
  | k + 1, n => b8 (n % 256) :: fixN k (n / 256)
def unfixN : List UInt8 → Nat
  | [] => 0
  | x :: r => x.toNat + 256 * unfixN r
theorem length_fixN (k : Nat) : ∀ n, (fixN k n).length = k := by induction k with | zero => intro n; rfl | succ k ih => intro n; simp [fixN, ih]
theorem unfixN_lt (l : List UInt8) : unfixN l < 256 ^ l.length := by
  induction l with
  | nil => simp [unfixN]
  | cons x r ih => have := x.toNat_lt; simp only [unfixN, List.length_cons, Nat.pow_succ]; omega
theorem unfixN_snoc (l : List UInt8) (x : UInt8) : unfixN (l ++ [x]) = unfixN l + x.toNat * 256 ^ l.length := by
  induction l with
  | nil => simp [unfixN]
  | cons y r ih => simp only [List.cons_append, unfixN, ih, List.length_cons, Nat.pow_succ, Nat.mul_add]; rw [Nat.mul_comm (256 ^ r.length) 256, Nat.mul_left_comm x.toNat 256]; omega
theorem unfixN_take {bs : List UInt8} {k : Nat} (h : k < bs.length) : unfixN (bs.take (k + 1)) = unfixN (bs.take k) + bs[k].toNat * 256 ^ k := by
  rw [List.take_succ_eq_append_getElem h, unfixN_snoc, List.length_take, Nat.min_eq_left (by omega)]
theorem unfixN_take_lt (bs : List UInt8) (k : Nat) (h : k ≤ bs.length) : unfixN (bs.take k) < 256 ^ k := by
  have := unfixN_lt (bs.take k)
  rwa [List.length_take, Nat.min_eq_left h] at this
theorem pow256 {k : Nat} (h : k ≤ 8) : (256 : Nat) ^ k ≤ 18446744073709551616 := by
  have : (256 : Nat) ^ k ≤ 256 ^ 8 := Nat.pow_le_pow_right (by omega) h
  omega
theorem number_wrap {bs : List UInt8} {k : Nat} (h : k < bs.length) (hk : k < 8) :
    IntKind.u64.wrap ((unfixN (bs.take k) : Int) + IntKind.u64.wrap ((bs[k].toNat : Int) * 2 ^ (8 * k))) = (unfixN (bs.take (k + 1)) : Int) := by
  have h1 := unfixN_take h
  have h2 := unfixN_take_lt bs (k + 1) (by omega)
  have h3 := pow256 (k := k + 1) (by omega)
  have e : (bs[k].toNat : Int) * 2 ^ (8 * k) = ((bs[k].toNat * 256 ^ k : Nat) : Int) := by rw [show (256 : Nat) ^ k = 2 ^ (8 * k) from by rw [Nat.pow_mul]]; simp
  rw [e]
  generalize bs[k].toNat * 256 ^ k = z at *
  rw [IntWalk.u64_in (z : Int) (by omega), IntWalk.u64_in _ (by omega)]
  omega

set_option maxRecDepth 100000 in
set_option maxHeartbeats 400000 in
theorem number_any (bs : List UInt8) (A : Option Addr) (c k : Nat) (w : World) (hk1 : 1 ≤ k) (hk : k ≤ 8) (hR : Sl w A c (bs.map bv)) :
    Calls Try.prog 147 #[.slice A bs.length c, .int .i64 (k : Int)] w fun e w' => e = .returned (.tuple #[.int .u64 (if bs.length < k then 0 else unfixN (bs.take k)), .int .i64 (if bs.length < k then 4 else 0)]) ∧ w = w' := by
  have hc := hR.cap
  have hs := hR.small
  simp only [List.length_map] at hc
  by_cases hlt : bs.length < k
  · go_enter Try.func147, Try.ntmps147
    go_wp2
    go_ret2
    exact ⟨by simp, rfl⟩
  · have hle : k ≤ bs.length := by omega
    obtain ⟨b, off, rfl, hb, _⟩ := BRd.at_ hR.rd (k := 0) (by omega)
    go_enter Try.func147, Try.ntmps147
    go_wp2
    go_loop [6, 7, 8, 17] (fun n _ _ i => ∃ j : Nat, j ≤ k ∧ i = .int .i64 j ∧ n = .int .u64 (unfixN (bs.take j) : Int)) (fun _ _ _ i => k - (intOf i).toNat)
    case atStart => exact ⟨0, by omega, rfl, by simp [unfixN]⟩
    case round =>
      obtain ⟨j, hj, rfl, rfl⟩ := hrel
      by_cases hjk : j < k
      · have hn := number_wrap (bs := bs) (k := j) (by omega) (by omega)
        obtain ⟨b', off', he, hb', hcell⟩ := BRd.at_ hR.rd (k := j) (by omega)
        injection he with he
        injection he with he1 he2
        subst he1
        subst he2
        have hx := (bs[j]'(by omega)).toNat_lt
        generalize (bs[j]'(by omega)).toNat = y at *
        have HN := hid hn
        clear hn
        go_wp2
        go_round
        case rel => exact ⟨j + 1, by omega, by go_num, by rw [← HN.out]⟩
        case measure => simp [intOf] <;> omega
      · obtain rfl : j = k := by omega
        go_wp2
        go_ret2
        exact ⟨by simp, rfl⟩

set_option maxRecDepth 100000 in
set_option maxHeartbeats 400000 in
theorem get32_any (bs : List UInt8) (A : Option Addr) (c : Nat) (w : World) (hR : Sl w A c (bs.map bv)) :
    Calls Try.prog 145 #[.slice A bs.length c] w fun e w' => e = .returned (.tuple #[.int .u32 (if bs.length < 4 then 0 else unfixN (bs.take 4)), .int .i64 (if bs.length < 4 then 4 else 0)]) ∧ w = w' := by
  have hv : 0 ≤ (if bs.length < 4 then 0 else (unfixN (bs.take 4) : Int)) ∧ (if bs.length < 4 then 0 else (unfixN (bs.take 4) : Int)) ≤ 4294967295 := by
    split
    · omega
    · have := unfixN_take_lt bs 4 (by omega); omega
  have hc : Calls Try.prog 147 #[.slice A bs.length c, .int .i64 4] w _ := number_any bs A c 4 w (by omega) (by omega) hR
  generalize (if bs.length < 4 then 0 else (unfixN (bs.take 4) : Int)) = v at *
  generalize (if bs.length < 4 then (4 : Int) else 0) = u at *
  have HC := hid hc
  clear hc
  go_enter Try.func145, Try.ntmps145
  go_wp2_with (go_at_call 147; refine HC.out.mono ?_; rintro e w' ⟨rfl, rfl⟩)
  go_ret2
  exact ⟨rfl, rfl⟩
set_option maxRecDepth 100000 in
set_option maxHeartbeats 400000 in
theorem get64_any (bs : List UInt8) (A : Option Addr) (c : Nat) (w : World) (hR : Sl w A c (bs.map bv)) :
    Calls Try.prog 143 #[.slice A bs.length c] w fun e w' => e = .returned (.tuple #[.int .u64 (if bs.length < 8 then 0 else unfixN (bs.take 8)), .int .i64 (if bs.length < 8 then 4 else 0)]) ∧ w = w' := by
  have hc : Calls Try.prog 147 #[.slice A bs.length c, .int .i64 8] w _ := number_any bs A c 8 w (by omega) (by omega) hR
  generalize (if bs.length < 8 then 0 else (unfixN (bs.take 8) : Int)) = v at *
  generalize (if bs.length < 8 then (4 : Int) else 0) = u at *
  have HC := hid hc
  clear hc
  go_enter Try.func143, Try.ntmps143
  go_wp2_with (go_at_call 147; refine HC.out.mono ?_; rintro e w' ⟨rfl, rfl⟩)
  go_ret2
  exact ⟨rfl, rfl⟩

end Go.Proofs.Ytmcebepfoleknaa
set_option linter.unusedVariables false
namespace Go.Proofs.Ytmcebepfoleknaa
open Go.RowKit
theorem putN_small {n : Nat} (h : n < 128) : putN n = [b8 n] := by simp [putN, sevs, h, sevB, b8]
theorem putN_big {n : Nat} (h : ¬ n < 128) : putN n = b8 (n % 128 + 128) :: putN (n / 128) := by
  rw [putN, sevs, dif_neg h]; simp [sevB, putN, b8]
end Go.Proofs.Ytmcebepfoleknaa
set_option linter.unusedVariables false
namespace Go.Proofs.Ytmcebepfoleknaa
open Go.RowKit Go.Shelf
attribute [local go_sem] Oper.semAt_some
/-- What a round must keep: block B lies as it lay. -/
def KB (B : Nat) (o : Obj) (A A' : World) : Prop := A.heap[B]? = some o → A'.heap[B]? = some o
theorem KB.t {B : Nat} {o : Obj} {A A' A'' : World} (h : KB B o A A') (h' : KB B o A' A'') : KB B o A A'' := fun hA => h' (h hA)
theorem KB.b {B N : Nat} {o : Obj} (hB : B < N) (W : World) (l : Nat) (p p' : Obj) (hl : N ≤ l) (_ : W.heap[l]? = some p) (_ : p.isCells = false) (_ : p.isWalk = false) : KB B o W (W.putObj l p') :=
  fun hA => (World.putObj_heap_other (by omega)).trans hA
end Go.Proofs.Ytmcebepfoleknaa
set_option linter.unusedVariables false
namespace Go.Proofs.Ytmcebepfoleknaa
open Go.RowKit

end Go.Proofs.Ytmcebepfoleknaa
set_option linter.unusedVariables false
namespace Go.Proofs.Ytmcebepfoleknaa
open Go.RowKit
def zig (n : Int) : Int := if 0 ≤ n then 2 * n else 2 * (-(n + 1)) + 1
def zag (n : Int) : Int := if n % 2 = 0 then n / 2 else -(n / 2) - 1
set_option maxRecDepth 100000 in
set_option maxHeartbeats 400000 in
theorem zag_any (n : Int) (w : World) (h1 : 0 ≤ n) (h2 : n ≤ 18446744073709551615) :
    Calls Try.prog 72 #[.int .u64 n] w fun e w' => e = .returned (.int .i64 (zag n)) ∧ w = w' := by
  by_cases h : n % 2 = 0
  all_goals
    go_enter Try.func72, Try.ntmps72
    go_wp2
    all_goals go_ret
    all_goals exact ⟨ret_int (by unfold zag; split <;> omega), rfl⟩

/-- How many bytes a number has. -/
def sizeN (n : Nat) : Nat := if n < 128 then 1 else 1 + sizeN (n / 128)
  termination_by n
  decreasing_by omega
end Go.Proofs.Ytmcebepfoleknaa
set_option linter.unusedVariables false
namespace Go.Proofs.Ytmcebepfoleknaa
open Go.RowKit
def wireB (w : Int) : Bool := decide (w = 0 ∨ w = 1 ∨ w = 2 ∨ w = 5)
def widthN (w : Int) : Int := if w = 1 then 8 else if w = 5 then 4 else 0
/-- Make: the tag and the error. -/
def mk (num wire : Int) : Int × Int := if num < 1 ∨ 536870911 < num then (0, 1) else if wireB wire = false then (0, 7) else (8 * num + wire, 0)
def spl (n : Int) : Int × Int × Int := if n / 8 < 1 ∨ 536870911 < n / 8 then (0, 0, 1) else if wireB (n % 8) = false then (0, 0, 7) else (n / 8, n % 8, 0)
theorem mk_ok {n x : Int} (h : 1 ≤ n) (h' : n ≤ 536870911) (hw : wireB x = true) : mk n x = (8 * n + x, 0) := by unfold mk; rw [if_neg (by omega), if_neg (by simp [hw])]
theorem spl_bad {n : Int} (h : 1 ≤ n / 8) (h' : n / 8 ≤ 536870911) (hw : wireB (n % 8) = false) : spl n = (0, 0, 7) := by unfold spl; rw [if_neg (by omega), if_pos hw]
theorem spl_ok {n : Int} (h : 1 ≤ n / 8) (h' : n / 8 ≤ 536870911) (hw : wireB (n % 8) = true) : spl n = (n / 8, n % 8, 0) := by unfold spl; rw [if_neg (by omega), if_neg (by simp [hw])]
set_option maxRecDepth 100000 in
set_option maxHeartbeats 400000 in
theorem width_any (x : Int) (w : World) (h1 : 0 ≤ x) (h2 : x ≤ 255) :
    Calls Try.prog 112 #[.int .u8 x] w fun e w' => e = .returned (.tuple #[.int .i64 (widthN x), .bool (wireB x)]) ∧ w = w' := by
  by_cases a0 : x = 0
  · subst a0
    go_enter Try.func112, Try.ntmps112
    go_wp2
    go_ret2
    exact ⟨by simp [widthN, wireB], rfl⟩
  by_cases a1 : x = 1
  · subst a1
    go_enter Try.func112, Try.ntmps112
    go_wp2
    go_ret2
    exact ⟨by simp [widthN, wireB], rfl⟩
  by_cases a2 : x = 2
  · subst a2
    go_enter Try.func112, Try.ntmps112
    go_wp2
    go_ret2
    exact ⟨by simp [widthN, wireB], rfl⟩
  by_cases a5 : x = 5
  · subst a5
    go_enter Try.func112, Try.ntmps112
    go_wp2
    go_ret2
    exact ⟨by simp [widthN, wireB], rfl⟩
  · have e0 : (x == 0) = false := by simpa using a0
    have e1 : (x == 1) = false := by simpa using a1
    have e2 : (x == 2) = false := by simpa using a2
    have e5 : (x == 5) = false := by simpa using a5
    go_enter Try.func112, Try.ntmps112
    go_wp2
    go_ret2
    exact ⟨by simp [widthN, wireB, a0, a1, a2, a5], rfl⟩
set_option maxRecDepth 100000 in
set_option maxHeartbeats 400000 in
theorem split_any (n : Int) (w : World) (h1 : 0 ≤ n) (h2 : n ≤ 18446744073709551615) :
    Calls Try.prog 140 #[.int .u64 n] w fun e w' => e = .returned (.tuple #[.int .i64 (spl n).1, .int .u8 (spl n).2.1, .int .i64 (spl n).2.2]) ∧ w = w' := by
  by_cases a : n / 8 < 1
  · go_enter Try.func140, Try.ntmps140
    go_wp2
    go_ret3
    exact ⟨by simp [spl, a], rfl⟩
  by_cases b : 536870911 < n / 8
  · go_enter Try.func140, Try.ntmps140
    go_wp2
    go_ret3
    exact ⟨by simp [spl, b], rfl⟩
  cases hw : wireB (n % 8)
  all_goals
    go_enter Try.func140, Try.ntmps140
    go_wp2_with (go_at_call 112; refine (width_any _ _ (by omega) (by omega)).mono ?_; rintro e w' ⟨rfl, rfl⟩)
    go_ret3
    first | rw [spl_bad (by omega) (by omega) hw] | rw [spl_ok (by omega) (by omega) hw]
    exact ⟨rfl, rfl⟩
end Go.Proofs.Ytmcebepfoleknaa
