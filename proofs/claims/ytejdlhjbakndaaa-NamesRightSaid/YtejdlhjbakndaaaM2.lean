/- varint.Get and the document's Get. · varint.All and the document's All. · varint.sevens: the iterator's contract. · varint.Put: a range over a function. · Numbers of four and eight bytes: the document's Fix and Unfix, the program's number, Get32, Get64. · The document's Put (layer 1) and Fix (layer 2): rows that grow by append. · tag.lowest, tag.fixed, Fix32, Fix64: a range over a function. · The document's comparisons of lists: Same (bytes), Nums (numbers). · The functions of layers 1 and 2 that only compute with numbers, and the document's. · tag.Make, Split, Width, and the document's. -/
import Derived.Test.YtejdlhjbakndaaaProg
import Derived.Test.YtejdlhjbakndaaaM1
import Derived.Deep.LoopGhost
import Derived.Maps.AppendAt
import Derived.RangeFuncNested
import Derived.RangeFuncBound
import Derived.RangeFuncCalls
import Derived.RangeFuncLeaves
import Derived.RangeFuncBox
import Derived.Shelf.Abstract
import Derived.Shelf.RegionOpen
import Derived.WalkKit
import Derived.OwnWalkIn
import Derived.TacticsInMore
import Derived.LoopNIn
import Derived.LoopIn
import Derived.Deep.QuietTactic
import Derived.BigQuiet
import Derived.Lib.Strings
import Derived.Lib.Slices
import Derived.Lib.Small
import Derived.Lib.Walk
import Derived.Lib.BitFns
set_option linter.unusedVariables false
namespace Go.Proofs.Ytejdlhjbakndaaa
open Go.RowKit
end Go.Proofs.Ytejdlhjbakndaaa
set_option linter.unusedVariables false
namespace Go.Proofs.Ytejdlhjbakndaaa
open Go.RowKit
theorem Try.info102 : (Try.prog.info? 102).map (fun i => (i.zero, i.size, i.bytes)) = some (some (.int .u64 0), 1, 8) := by kernel_rfl
theorem BRd.drop {w : World} {b off : Nat} {bs : List UInt8} (h : BRd w (some ⟨b, off, none⟩) bs) (k : Nat) : BRd w (some ⟨b, off + k, none⟩) (bs.drop k) := by
  intro j u hj
  rw [List.map_drop, List.getElem?_drop] at hj
  obtain ⟨b', off', he, hlt, hc⟩ := h (k + j) u hj
  injection he with he; injection he with h1 h2; subst h1; subst h2
  exact ⟨b, off + k, rfl, hlt, by rw [Nat.add_assoc]; exact hc⟩
end Go.Proofs.Ytejdlhjbakndaaa
set_option linter.unusedVariables false
namespace Go.Proofs.Ytejdlhjbakndaaa
open Go.RowKit Go.Shelf
attribute [local go_sem] Oper.semAt_some

abbrev Sev : Type := { p : Nat × Bool // p.1 < 128 }
abbrev sevEnc (x : Sev) : Array Value := #[.int .u8 (x.1.1 : Int), .bool x.1.2]
def sevs (n : Nat) : List Sev := if h : n < 128 then [⟨(n, false), h⟩] else ⟨(n % 128, true), by omega⟩ :: sevs (n / 128)
  termination_by n
  decreasing_by omega

end Go.Proofs.Ytejdlhjbakndaaa
set_option linter.unusedVariables false
namespace Go.Proofs.Ytejdlhjbakndaaa
open Go.RowKit Go.Shelf
attribute [local go_sem] Oper.semAt_some

def sevB (x : Sev) : UInt8 := if x.1.2 then UInt8.ofNat (x.1.1 + 128) else UInt8.ofNat x.1.1
def putN (n : Nat) : List UInt8 := (sevs n).map sevB

theorem sevs_length (k : Nat) : ∀ n, n < 128 ^ (k + 1) → (sevs n).length ≤ k + 1 := by
  induction k with
  | zero => intro n h; rw [sevs, dif_pos (by simpa using h)]; simp
  | succ k ih =>
    intro n h
    rw [sevs]
    split
    · simp
    · have := ih (n / 128) (by rw [Nat.div_lt_iff_lt_mul (by omega), ← Nat.pow_succ]; exact h)
      simp; omega
theorem sevs_length10 {n : Nat} (h : n ≤ 18446744073709551615) : (sevs n).length ≤ 10 := sevs_length 9 n (by omega)
theorem sevs_pos (n : Nat) : 0 < (sevs n).length := by rw [sevs]; split <;> simp
abbrev sevBs (xs : List Sev) : List Value := xs.map fun x => bv (sevB x)

end Go.Proofs.Ytejdlhjbakndaaa
set_option linter.unusedVariables false
namespace Go.Proofs.Ytejdlhjbakndaaa
open Go.RowKit
/-- so many bytes of a number, the lowest first -/
def fixN : Nat → Nat → List UInt8
  | 0, _ => []
  | k + 1, n => b8 (n % 256) :: fixN k (n / 256)
def unfixN : List UInt8 → Nat
  | [] => 0
  | x :: r => x.toNat + 256 * unfixN r
theorem length_fixN (k : Nat) : ∀ n, (fixN k n).length = k := by induction k with | zero => intro n; rfl | succ k ih => intro n; simp [fixN, ih]
theorem unfix_fix (k : Nat) : ∀ n, n < 256 ^ k → unfixN (fixN k n) = n := by
  induction k with
  | zero => intro n h; simp at h; simp [fixN, unfixN, h]
  | succ k ih =>
    intro n h
    have h2 : n / 256 < 256 ^ k := by rw [Nat.pow_succ] at h; omega
    simp only [fixN, unfixN, ih _ h2, b8_toNat (show n % 256 < 256 by omega)]
    omega
theorem unfixN_lt (l : List UInt8) : unfixN l < 256 ^ l.length := by
  induction l with
  | nil => simp [unfixN]
  | cons x r ih => have := x.toNat_lt; simp only [unfixN, List.length_cons, Nat.pow_succ]; omega
theorem unfixN_snoc (l : List UInt8) (x : UInt8) : unfixN (l ++ [x]) = unfixN l + x.toNat * 256 ^ l.length := by
  induction l with
  | nil => simp [unfixN]
  | cons y r ih => simp only [List.cons_append, unfixN, ih, List.length_cons, Nat.pow_succ, Nat.mul_add]; rw [Nat.mul_comm (256 ^ r.length) 256, Nat.mul_left_comm x.toNat 256]; omega
theorem unfixN_take {bs : List UInt8} {k : Nat} (h : k < bs.length) : unfixN (bs.take (k + 1)) = unfixN (bs.take k) + bs[k].toNat * 256 ^ k := by
  rw [List.take_succ_eq_append_getElem h, unfixN_snoc, List.length_take, Nat.min_eq_left (by omega)]
theorem unfixN_take_lt (bs : List UInt8) (k : Nat) (h : k ≤ bs.length) : unfixN (bs.take k) < 256 ^ k := by
  have := unfixN_lt (bs.take k)
  rwa [List.length_take, Nat.min_eq_left h] at this
theorem pow256 {k : Nat} (h : k ≤ 8) : (256 : Nat) ^ k ≤ 18446744073709551616 := by
  have : (256 : Nat) ^ k ≤ 256 ^ 8 := Nat.pow_le_pow_right (by omega) h
  omega
theorem number_wrap {bs : List UInt8} {k : Nat} (h : k < bs.length) (hk : k < 8) :
    IntKind.u64.wrap ((unfixN (bs.take k) : Int) + IntKind.u64.wrap ((bs[k].toNat : Int) * 2 ^ (8 * k))) = (unfixN (bs.take (k + 1)) : Int) := by
  have h1 := unfixN_take h
  have h2 := unfixN_take_lt bs (k + 1) (by omega)
  have h3 := pow256 (k := k + 1) (by omega)
  have e : (bs[k].toNat : Int) * 2 ^ (8 * k) = ((bs[k].toNat * 256 ^ k : Nat) : Int) := by rw [show (256 : Nat) ^ k = 2 ^ (8 * k) from by rw [Nat.pow_mul]]; simp
  rw [e]
  generalize bs[k].toNat * 256 ^ k = z at *
  rw [IntWalk.u64_in (z : Int) (by omega), IntWalk.u64_in _ (by omega)]
  omega

theorem unfixN_drop {bs : List UInt8} {k j : Nat} (h : j < k) (hk : k ≤ bs.length) : unfixN ((bs.take k).drop j) = (bs[j]'(by omega)).toNat + 256 * unfixN ((bs.take k).drop (j + 1)) := by
  rw [List.drop_eq_getElem_cons (by rw [List.length_take]; omega), unfixN]
  simp
theorem unfixN_drop_lt (bs : List UInt8) (k j : Nat) (hk : k ≤ bs.length) : unfixN ((bs.take k).drop j) < 256 ^ (k - j) := by
  have := unfixN_lt ((bs.take k).drop j)
  rwa [List.length_drop, List.length_take, Nat.min_eq_left hk] at this
end Go.Proofs.Ytejdlhjbakndaaa
set_option linter.unusedVariables false
namespace Go.Proofs.Ytejdlhjbakndaaa
open Go.RowKit
theorem putN_small {n : Nat} (h : n < 128) : putN n = [b8 n] := by simp [putN, sevs, h, sevB, b8]
theorem putN_big {n : Nat} (h : ¬ n < 128) : putN n = b8 (n % 128 + 128) :: putN (n / 128) := by
  rw [putN, sevs, dif_neg h]; simp [sevB, putN, b8]
theorem putN_length (k : Nat) (n : Nat) (h : n < 128 ^ (k + 1)) : (putN n).length ≤ k + 1 := by simpa [putN] using sevs_length k n h
theorem putN_length10 {n : Nat} (h : n ≤ 18446744073709551615) : (putN n).length ≤ 10 := putN_length 9 n (by omega)

end Go.Proofs.Ytejdlhjbakndaaa
set_option linter.unusedVariables false
namespace Go.Proofs.Ytejdlhjbakndaaa
open Go.RowKit Go.Shelf
attribute [local go_sem] Oper.semAt_some
abbrev Byt : Type := { p : Nat // p < 256 }
abbrev bytEnc (x : Byt) : Array Value := #[.int .u8 (x.1 : Int)]
def lows (n k : Nat) : List Byt := (List.range k).map fun i => ⟨n / 2 ^ (8 * i) % 256, by omega⟩
theorem lows_succ (n k : Nat) : lows n (k + 1) = lows n k ++ [⟨n / 2 ^ (8 * k) % 256, by omega⟩] := by simp [lows, List.range_succ]
theorem lows_pre (n : Nat) {j k : Nat} (h : j ≤ k) : lows n j <+: lows n k := by
  obtain ⟨d, rfl⟩ : ∃ d, k = j + d := ⟨k - j, by omega⟩
  clear h
  induction d with
  | zero => exact List.prefix_rfl
  | succ d ih => rw [← Nat.add_assoc, lows_succ]; exact ih.trans (List.prefix_append _ _)
theorem lows_length (n k : Nat) : (lows n k).length = k := by simp [lows]
theorem lows_fix (n k : Nat) : (lows n k).map (fun x => b8 x.1) = fixN k n := by
  induction k generalizing n with
  | zero => rfl
  | succ k ih =>
    rw [fixN, ← ih (n / 256)]
    simp only [lows, List.range_succ_eq_map, List.map_cons, List.map_map]
    congr 1
    · simp
    · apply List.map_congr_left
      intro i _
      simp only [Function.comp]
      rw [show 8 * (i + 1) = 8 + 8 * i from by omega, Nat.pow_add, ← Nat.div_div_eq_div_mul]

/-- What a round must keep: block B lies as it lay. -/
def KB (B : Nat) (o : Obj) (A A' : World) : Prop := A.heap[B]? = some o → A'.heap[B]? = some o
theorem KB.t {B : Nat} {o : Obj} {A A' A'' : World} (h : KB B o A A') (h' : KB B o A' A'') : KB B o A A'' := fun hA => h' (h hA)
theorem KB.b {B N : Nat} {o : Obj} (hB : B < N) (W : World) (l : Nat) (p p' : Obj) (hl : N ≤ l) (_ : W.heap[l]? = some p) (_ : p.isCells = false) (_ : p.isWalk = false) : KB B o W (W.putObj l p') :=
  fun hA => (World.putObj_heap_other (by omega)).trans hA
def bytBs (xs : List Byt) : List Value := xs.map fun x => bv (b8 x.1)
end Go.Proofs.Ytejdlhjbakndaaa
set_option linter.unusedVariables false
namespace Go.Proofs.Ytejdlhjbakndaaa
open Go.RowKit

end Go.Proofs.Ytejdlhjbakndaaa
set_option linter.unusedVariables false
namespace Go.Proofs.Ytejdlhjbakndaaa
open Go.RowKit
def zig (n : Int) : Int := if 0 ≤ n then 2 * n else 2 * (-(n + 1)) + 1
def zag (n : Int) : Int := if n % 2 = 0 then n / 2 else -(n / 2) - 1
theorem zag_zig (n : Int) : zag (zig n) = n := by unfold zig zag; split <;> split <;> omega
theorem zig_zag (n : Int) (h : 0 ≤ n) : zig (zag n) = n := by unfold zig zag; split <;> split <;> omega
theorem zig_range (n : Int) (h1 : -9223372036854775808 ≤ n) (h2 : n ≤ 9223372036854775807) : 0 ≤ zig n ∧ zig n ≤ 18446744073709551615 := by unfold zig; split <;> omega
theorem zag_range (n : Int) (h1 : 0 ≤ n) (h2 : n ≤ 18446744073709551615) : -9223372036854775808 ≤ zag n ∧ zag n ≤ 9223372036854775807 := by unfold zag; split <;> omega
/-- How many bytes a number has. -/
def sizeN (n : Nat) : Nat := if n < 128 then 1 else 1 + sizeN (n / 128)
  termination_by n
  decreasing_by omega
theorem bitLenAux_le (f : Nat) : ∀ x k, x < 2 ^ f → (Lib.bitLenAux f x ≤ k ↔ x < 2 ^ k) := by
  induction f with
  | zero => intro x k h; have : 0 < 2 ^ k := Nat.pow_pos (by omega); simp [Lib.bitLenAux]; omega
  | succ f ih =>
    intro x k h
    rw [Lib.bitLenAux]
    split
    · have : 0 < 2 ^ k := Nat.pow_pos (by omega)
      constructor <;> intros <;> omega
    · cases k with
      | zero => simp; omega
      | succ k => have := ih (x / 2) k (by rw [Nat.pow_succ] at h; omega); rw [Nat.pow_succ]; omega
theorem sizeN_pos (n : Nat) : 1 ≤ sizeN n := by rw [sizeN]; split <;> omega
theorem sizeN_le (k : Nat) : ∀ n, sizeN n ≤ k + 1 ↔ n < 128 ^ (k + 1) := by
  induction k with
  | zero => intro n; rw [sizeN]; have := sizeN_pos (n / 128); split <;> simp <;> omega
  | succ k ih =>
    intro n
    have := ih (n / 128)
    rw [sizeN, Nat.pow_succ]
    have hp : 0 < 128 ^ (k + 1) := Nat.pow_pos (by omega)
    split <;> omega
theorem bitLen_size {n : Nat} (h : n ≤ 18446744073709551615) : (max (Lib.bitLen n) 1 + 6) / 7 = sizeN n := by
  have h0 := sizeN_pos n
  have hb : ∀ k, Lib.bitLen n ≤ 7 * (k + 1) ↔ sizeN n ≤ k + 1 := fun k => by
    rw [sizeN_le, show (128 : Nat) ^ (k + 1) = 2 ^ (7 * (k + 1)) from by rw [Nat.pow_mul]]
    exact bitLenAux_le 64 n _ (by omega)
  have h1 := hb (sizeN n - 1)
  by_cases h2 : sizeN n = 1
  · omega
  · have h3 := hb (sizeN n - 2)
    omega
theorem bitLen_shift (n s : Nat) (hn : n ≤ 18446744073709551615) (h : 0 < n / 2 ^ s) : Lib.bitLen n = s + Lib.bitLen (n / 2 ^ s) := by
  have hp : 0 < 2 ^ s := Nat.pow_pos (by omega)
  have hle : n / 2 ^ s ≤ n := Nat.div_le_self _ _
  have key : ∀ k, Lib.bitLen n ≤ s + k ↔ Lib.bitLen (n / 2 ^ s) ≤ k := fun k => by
    unfold Lib.bitLen
    rw [bitLenAux_le 64 n _ (by omega), bitLenAux_le 64 _ _ (by omega), Nat.div_lt_iff_lt_mul hp, Nat.pow_add, Nat.mul_comm]
  have h1 := key (Lib.bitLen (n / 2 ^ s))
  have h2 := key (Lib.bitLen n - s)
  have h3 : ¬ Lib.bitLen n ≤ s := fun hle' => by
    have := (bitLenAux_le 64 n s (by omega)).1 hle'
    rw [Nat.div_eq_of_lt this] at h
    omega
  omega
theorem len8_shift (x i : Int) (s : Nat) (h0 : 0 ≤ x) (h1 : x ≤ 18446744073709551615) (hi : i.toNat = x.toNat / 2 ^ s) (h2 : 0 ≤ i) (h3 : i ≤ 255) (h4 : s = 0 ∨ 1 ≤ i) :
    (s : Int) + Lib.len8 i = (Lib.bitLen x.toNat : Int) := by
  have e := Lib.len8_eq ⟨i.toNat, by omega⟩
  simp only [Int.toNat_of_nonneg h2] at e
  rw [e, hi]
  rcases h4 with rfl | h4
  · simp
  · rw [bitLen_shift x.toNat s (by omega) (by omega)]
    omega
theorem len8_range (i : Int) (h2 : 0 ≤ i) (h3 : i ≤ 255) : 0 ≤ Lib.len8 i ∧ Lib.len8 i ≤ 8 := by
  have e := Lib.len8_eq ⟨i.toNat, by omega⟩
  have e2 := Lib.bitLen_le8 ⟨i.toNat, by omega⟩
  simp only [Int.toNat_of_nonneg h2] at e
  simp only at e2
  omega
set_option maxRecDepth 100000 in
set_option maxHeartbeats 2000000 in
theorem len64_any (x : Int) (w : World) (h0 : 0 ≤ x) (h1 : x ≤ 18446744073709551615) :
    Calls Try.prog 70 #[.int .u64 x] w fun e w' => e = .returned (.int .i64 (Lib.bitLen x.toNat)) ∧ w = w' := by
  have u9 := Try.underlying9
  by_cases c0 : 4294967296 ≤ x
  · by_cases c1 : 65536 ≤ x / 4294967296
    · by_cases c2 : 256 ≤ x / 4294967296 / 65536
      · have ix := Lib.run_index_len8tab (P := Try.prog) w 9 .u8 (x / 4294967296 / 65536 / 256) u9 (by omega) (by omega)
        have lr := len8_range (x / 4294967296 / 65536 / 256) (by omega) (by omega)
        have lv := hid (len8_shift x (x / 4294967296 / 65536 / 256) 56 h0 h1 (by omega) (by omega) (by omega) (.inr (by omega)))
        generalize Lib.len8 (x / 4294967296 / 65536 / 256) = y at *
        go_enter Try.func70, Try.ntmps70
        go_wp2
        go_ret
        exact ⟨ret_int (by have := lv.out; omega), rfl⟩
      · have ix := Lib.run_index_len8tab (P := Try.prog) w 9 .u8 (x / 4294967296 / 65536) u9 (by omega) (by omega)
        have lr := len8_range (x / 4294967296 / 65536) (by omega) (by omega)
        have lv := hid (len8_shift x (x / 4294967296 / 65536) 48 h0 h1 (by omega) (by omega) (by omega) (.inr (by omega)))
        generalize Lib.len8 (x / 4294967296 / 65536) = y at *
        go_enter Try.func70, Try.ntmps70
        go_wp2
        go_ret
        exact ⟨ret_int (by have := lv.out; omega), rfl⟩
    · by_cases c2 : 256 ≤ x / 4294967296
      · have ix := Lib.run_index_len8tab (P := Try.prog) w 9 .u8 (x / 4294967296 / 256) u9 (by omega) (by omega)
        have lr := len8_range (x / 4294967296 / 256) (by omega) (by omega)
        have lv := hid (len8_shift x (x / 4294967296 / 256) 40 h0 h1 (by omega) (by omega) (by omega) (.inr (by omega)))
        generalize Lib.len8 (x / 4294967296 / 256) = y at *
        go_enter Try.func70, Try.ntmps70
        go_wp2
        go_ret
        exact ⟨ret_int (by have := lv.out; omega), rfl⟩
      · have ix := Lib.run_index_len8tab (P := Try.prog) w 9 .u8 (x / 4294967296) u9 (by omega) (by omega)
        have lr := len8_range (x / 4294967296) (by omega) (by omega)
        have lv := hid (len8_shift x (x / 4294967296) 32 h0 h1 (by omega) (by omega) (by omega) (.inr (by omega)))
        generalize Lib.len8 (x / 4294967296) = y at *
        go_enter Try.func70, Try.ntmps70
        go_wp2
        go_ret
        exact ⟨ret_int (by have := lv.out; omega), rfl⟩
  · by_cases c1 : 65536 ≤ x
    · by_cases c2 : 256 ≤ x / 65536
      · have ix := Lib.run_index_len8tab (P := Try.prog) w 9 .u8 (x / 65536 / 256) u9 (by omega) (by omega)
        have lr := len8_range (x / 65536 / 256) (by omega) (by omega)
        have lv := hid (len8_shift x (x / 65536 / 256) 24 h0 h1 (by omega) (by omega) (by omega) (.inr (by omega)))
        generalize Lib.len8 (x / 65536 / 256) = y at *
        go_enter Try.func70, Try.ntmps70
        go_wp2
        go_ret
        exact ⟨ret_int (by have := lv.out; omega), rfl⟩
      · have ix := Lib.run_index_len8tab (P := Try.prog) w 9 .u8 (x / 65536) u9 (by omega) (by omega)
        have lr := len8_range (x / 65536) (by omega) (by omega)
        have lv := hid (len8_shift x (x / 65536) 16 h0 h1 (by omega) (by omega) (by omega) (.inr (by omega)))
        generalize Lib.len8 (x / 65536) = y at *
        go_enter Try.func70, Try.ntmps70
        go_wp2
        go_ret
        exact ⟨ret_int (by have := lv.out; omega), rfl⟩
    · by_cases c2 : 256 ≤ x
      · have ix := Lib.run_index_len8tab (P := Try.prog) w 9 .u8 (x / 256) u9 (by omega) (by omega)
        have lr := len8_range (x / 256) (by omega) (by omega)
        have lv := hid (len8_shift x (x / 256) 8 h0 h1 (by omega) (by omega) (by omega) (.inr (by omega)))
        generalize Lib.len8 (x / 256) = y at *
        go_enter Try.func70, Try.ntmps70
        go_wp2
        go_ret
        exact ⟨ret_int (by have := lv.out; omega), rfl⟩
      · have ix := Lib.run_index_len8tab (P := Try.prog) w 9 .u8 (x) u9 (by omega) (by omega)
        have lr := len8_range (x) (by omega) (by omega)
        have lv := hid (len8_shift x (x) 0 h0 h1 (by omega) (by omega) (by omega) (.inl rfl))
        generalize Lib.len8 (x) = y at *
        go_enter Try.func70, Try.ntmps70
        go_wp2
        go_ret
        exact ⟨ret_int (by have := lv.out; omega), rfl⟩
end Go.Proofs.Ytejdlhjbakndaaa
set_option linter.unusedVariables false
namespace Go.Proofs.Ytejdlhjbakndaaa
open Go.RowKit
def wireB (w : Int) : Bool := decide (w = 0 ∨ w = 1 ∨ w = 2 ∨ w = 5)
def widthN (w : Int) : Int := if w = 1 then 8 else if w = 5 then 4 else 0
/-- Make: the tag and the error. -/
def mk (num wire : Int) : Int × Int := if num < 1 ∨ 536870911 < num then (0, 1) else if wireB wire = false then (0, 7) else (8 * num + wire, 0)
def spl (n : Int) : Int × Int × Int := if n / 8 < 1 ∨ 536870911 < n / 8 then (0, 0, 1) else if wireB (n % 8) = false then (0, 0, 7) else (n / 8, n % 8, 0)
theorem mk_bad {n x : Int} (h : 1 ≤ n) (h' : n ≤ 536870911) (hw : wireB x = false) : mk n x = (0, 7) := by unfold mk; rw [if_neg (by omega), if_pos hw]
theorem mk_ok {n x : Int} (h : 1 ≤ n) (h' : n ≤ 536870911) (hw : wireB x = true) : mk n x = (8 * n + x, 0) := by unfold mk; rw [if_neg (by omega), if_neg (by simp [hw])]
theorem spl_bad {n : Int} (h : 1 ≤ n / 8) (h' : n / 8 ≤ 536870911) (hw : wireB (n % 8) = false) : spl n = (0, 0, 7) := by unfold spl; rw [if_neg (by omega), if_pos hw]
theorem spl_ok {n : Int} (h : 1 ≤ n / 8) (h' : n / 8 ≤ 536870911) (hw : wireB (n % 8) = true) : spl n = (n / 8, n % 8, 0) := by unfold spl; rw [if_neg (by omega), if_neg (by simp [hw])]
theorem wireB_lt {x : Int} (h : wireB x = true) : 0 ≤ x ∧ x ≤ 5 := by simp [wireB] at h; omega

end Go.Proofs.Ytejdlhjbakndaaa
