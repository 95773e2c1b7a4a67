/- Numbers of four and eight bytes: the document's Fix and Unfix, the program's number, Get32, Get64. -/
import Derived.Test.YtolafcmaikjioaaProg
import Derived.Test.YtolafcmaikjioaaBase
import Derived.Maps.AppendAt
set_option linter.unusedVariables false
namespace Go.Proofs.Ytolafcmaikjioaa
open Go.RowKit
/-- so many bytes of a number, the lowest first -/
def fixN : Nat → Nat → List UInt8
  | 0, _ => []
  | k + 1, n => b8 (n % 256) :: fixN k (n / 256)
def unfixN : List UInt8 → Nat
  | [] => 0
  | x :: r => x.toNat + 256 * unfixN r
theorem length_fixN (k : Nat) : ∀ n, (fixN k n).length = k := by induction k with | zero => intro n; rfl | succ k ih => intro n; simp [fixN, ih]
theorem unfix_fix (k : Nat) : ∀ n, n < 256 ^ k → unfixN (fixN k n) = n := by
  induction k with
  | zero => intro n h; simp at h; simp [fixN, unfixN, h]
  | succ k ih =>
    intro n h
    have h2 : n / 256 < 256 ^ k := by rw [Nat.pow_succ] at h; omega
    simp only [fixN, unfixN, ih _ h2, b8_toNat (show n % 256 < 256 by omega)]
    omega
theorem unfixN_lt (l : List UInt8) : unfixN l < 256 ^ l.length := by
  induction l with
  | nil => simp [unfixN]
  | cons x r ih => have := x.toNat_lt; simp only [unfixN, List.length_cons, Nat.pow_succ]; omega
theorem unfixN_snoc (l : List UInt8) (x : UInt8) : unfixN (l ++ [x]) = unfixN l + x.toNat * 256 ^ l.length := by
  induction l with
  | nil => simp [unfixN]
  | cons y r ih => simp only [List.cons_append, unfixN, ih, List.length_cons, Nat.pow_succ, Nat.mul_add]; rw [Nat.mul_comm (256 ^ r.length) 256, Nat.mul_left_comm x.toNat 256]; omega
theorem unfixN_take {bs : List UInt8} {k : Nat} (h : k < bs.length) : unfixN (bs.take (k + 1)) = unfixN (bs.take k) + bs[k].toNat * 256 ^ k := by
  rw [List.take_succ_eq_append_getElem h, unfixN_snoc, List.length_take, Nat.min_eq_left (by omega)]
theorem unfixN_take_lt (bs : List UInt8) (k : Nat) (h : k ≤ bs.length) : unfixN (bs.take k) < 256 ^ k := by
  have := unfixN_lt (bs.take k)
  rwa [List.length_take, Nat.min_eq_left h] at this
theorem pow256 {k : Nat} (h : k ≤ 8) : (256 : Nat) ^ k ≤ 18446744073709551616 := by
  have : (256 : Nat) ^ k ≤ 256 ^ 8 := Nat.pow_le_pow_right (by omega) h
  omega
theorem number_wrap {bs : List UInt8} {k : Nat} (h : k < bs.length) (hk : k < 8) :
    IntKind.u64.wrap ((unfixN (bs.take k) : Int) + IntKind.u64.wrap ((bs[k].toNat : Int) * 2 ^ (8 * k))) = (unfixN (bs.take (k + 1)) : Int) := by
  have h1 := unfixN_take h
  have h2 := unfixN_take_lt bs (k + 1) (by omega)
  have h3 := pow256 (k := k + 1) (by omega)
  have e : (bs[k].toNat : Int) * 2 ^ (8 * k) = ((bs[k].toNat * 256 ^ k : Nat) : Int) := by rw [show (256 : Nat) ^ k = 2 ^ (8 * k) from by rw [Nat.pow_mul]]; simp
  rw [e]
  generalize bs[k].toNat * 256 ^ k = z at *
  rw [IntWalk.u64_in (z : Int) (by omega), IntWalk.u64_in _ (by omega)]
  omega

set_option maxRecDepth 100000 in
set_option maxHeartbeats 400000 in
theorem number_any (bs : List UInt8) (A : Option Addr) (c k : Nat) (w : World) (hk1 : 1 ≤ k) (hk : k ≤ 8) (hR : Sl w A c (bs.map bv)) :
    Calls Try.prog 46 #[.slice A bs.length c, .int .i64 (k : Int)] w fun e w' => e = .returned (.tuple #[.int .u64 (if bs.length < k then 0 else unfixN (bs.take k)), .int .i64 (if bs.length < k then 4 else 0)]) ∧ w = w' := by
  have hc := hR.cap
  have hs := hR.small
  simp only [List.length_map] at hc
  by_cases hlt : bs.length < k
  · go_enter Try.func46, Try.ntmps46
    go_wp2
    go_ret2
    exact ⟨by simp, rfl⟩
  · have hle : k ≤ bs.length := by omega
    obtain ⟨b, off, rfl, hb, _⟩ := BRd.at_ hR.rd (k := 0) (by omega)
    go_enter Try.func46, Try.ntmps46
    go_wp2
    go_loop [6, 7, 8, 17] (fun n _ _ i => ∃ j : Nat, j ≤ k ∧ i = .int .i64 j ∧ n = .int .u64 (unfixN (bs.take j) : Int)) (fun _ _ _ i => k - (intOf i).toNat)
    case atStart => exact ⟨0, by omega, rfl, by simp [unfixN]⟩
    case round =>
      obtain ⟨j, hj, rfl, rfl⟩ := hrel
      by_cases hjk : j < k
      · have hn := number_wrap (bs := bs) (k := j) (by omega) (by omega)
        obtain ⟨b', off', he, hb', hcell⟩ := BRd.at_ hR.rd (k := j) (by omega)
        injection he with he
        injection he with he1 he2
        subst he1
        subst he2
        have hx := (bs[j]'(by omega)).toNat_lt
        generalize (bs[j]'(by omega)).toNat = y at *
        have HN := hid hn
        clear hn
        go_wp2
        go_round
        case rel => exact ⟨j + 1, by omega, by go_num, by rw [← HN.out]⟩
        case measure => simp [intOf] <;> omega
      · obtain rfl : j = k := by omega
        go_wp2
        go_ret2
        exact ⟨by simp, rfl⟩

set_option maxRecDepth 100000 in
set_option maxHeartbeats 400000 in
theorem get32_any (bs : List UInt8) (A : Option Addr) (c : Nat) (w : World) (hR : Sl w A c (bs.map bv)) :
    Calls Try.prog 39 #[.slice A bs.length c] w fun e w' => e = .returned (.tuple #[.int .u32 (if bs.length < 4 then 0 else unfixN (bs.take 4)), .int .i64 (if bs.length < 4 then 4 else 0)]) ∧ w = w' := by
  have hv : 0 ≤ (if bs.length < 4 then 0 else (unfixN (bs.take 4) : Int)) ∧ (if bs.length < 4 then 0 else (unfixN (bs.take 4) : Int)) ≤ 4294967295 := by
    split
    · omega
    · have := unfixN_take_lt bs 4 (by omega); omega
  have hc : Calls Try.prog 46 #[.slice A bs.length c, .int .i64 4] w _ := number_any bs A c 4 w (by omega) (by omega) hR
  generalize (if bs.length < 4 then 0 else (unfixN (bs.take 4) : Int)) = v at *
  generalize (if bs.length < 4 then (4 : Int) else 0) = u at *
  have HC := hid hc
  clear hc
  go_enter Try.func39, Try.ntmps39
  go_wp2_with (go_at_call 46; refine HC.out.mono ?_; rintro e w' ⟨rfl, rfl⟩)
  go_ret2
  exact ⟨rfl, rfl⟩
theorem unfixN_drop {bs : List UInt8} {k j : Nat} (h : j < k) (hk : k ≤ bs.length) : unfixN ((bs.take k).drop j) = (bs[j]'(by omega)).toNat + 256 * unfixN ((bs.take k).drop (j + 1)) := by
  rw [List.drop_eq_getElem_cons (by rw [List.length_take]; omega), unfixN]
  simp
theorem unfixN_drop_lt (bs : List UInt8) (k j : Nat) (hk : k ≤ bs.length) : unfixN ((bs.take k).drop j) < 256 ^ (k - j) := by
  have := unfixN_lt ((bs.take k).drop j)
  rwa [List.length_drop, List.length_take, Nat.min_eq_left hk] at this
end Go.Proofs.Ytolafcmaikjioaa
