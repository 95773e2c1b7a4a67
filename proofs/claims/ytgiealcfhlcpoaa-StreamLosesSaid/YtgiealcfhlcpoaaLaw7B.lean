/- The walk of CrcBurst. -/
import Derived.Test.YtgiealcfhlcpoaaLaw7A
import Derived.RegionTactic
import Derived.ChangeAlike
set_option linter.unusedVariables false
namespace Go.Proofs.Ytgiealcfhlcpoaa
open Go.RowKit
/-- A row of bytes in a block that may be written. -/
structure RowB (W : World) (g : Nat) (cur : Array Value) (bs : List UInt8) : Prop where
  blk : Blk W g 5 cur
  len : bs.length ≤ cur.size
  get : ∀ k (h : k < bs.length), cur[k]? = some (bv bs[k])
theorem RowB.of_own {W : World} {B n : Nat} {v : Value} {bs : List UInt8} (h : W.ownsRow B 5 1 v n (bs.map bv)) (h0 : 0 < n) : ∃ g c cur, v = .slice (some ⟨g, 0, none⟩) n c ∧ B ≤ g ∧ n ≤ c ∧ c ≤ 9223372036854775807 ∧ bs.length = n ∧ RowB W g cur bs := by
  have hn : bs.length = n := by simpa using h.1
  rcases h.2 with ⟨rfl, hx⟩ | ⟨g, cap, cur, rfl, hb, hg, hnc, hcm, hcs, htake⟩
  · omega
  · refine ⟨g, cap, cur, rfl, hb, hnc, hcm, hn, hg, by omega, fun k hk => ?_⟩
    have h1 := h.cells (g := g) rfl k (bv bs[k]) (by simp [hk])
    rw [addr_add] at h1
    have h2 : W.cell? ⟨g, k, none⟩ = cur[k]? := Blk.cell hg k
    rw [← h2]
    simpa using h1
theorem RowB.sl {W : World} {g c : Nat} {cur : Array Value} {bs : List UInt8} (h : RowB W g cur bs) (hc : bs.length ≤ c) (hm : c ≤ 9223372036854775807) : Sl W (some ⟨g, 0, none⟩) c (bs.map bv) := by
  refine ⟨by simpa using hc, hm, (fun h => by cases h), fun k u hk => ⟨g, 0, rfl, h.blk.lt, ?_⟩⟩
  have hk2 : k < bs.length := by have := (List.getElem?_eq_some_iff.1 hk).1; simpa using this
  rw [Nat.zero_add, h.blk.cell, h.get k hk2]
  rw [List.getElem?_map, List.getElem?_eq_getElem hk2] at hk
  exact hk
theorem RowB.set_ {W : World} {g : Nat} {cur : Array Value} {bs : List UInt8} (h : RowB W g cur bs) (j : Nat) (x : UInt8) : RowB (W.setCell ⟨g, j, none⟩ (bv x)) g (cur.setIfInBounds j (bv x)) (bs.set j x) := by
  refine ⟨h.blk.set_ j _, by simpa using h.len, fun k hk => ?_⟩
  rw [List.length_set] at hk
  have hl := h.len
  by_cases e : j = k
  · subst e
    rw [Array.getElem?_setIfInBounds_self_of_lt (by omega)]
    simp
  · rw [Array.getElem?_setIfInBounds_ne e, h.get k hk, List.getElem_set_ne e]
theorem bits_flip (x : UInt8) (m : Nat) (hm : m < 8) : Value.int .u8 (Go.bits .xor .u8 (x.toNat : Int) (2 ^ m % 256)) = bv (UInt8.ofNat (x.toNat ^^^ 2 ^ m)) := by
  have hp : 2 ^ m < 256 := by
    have := Nat.pow_lt_pow_right (a := 2) (by omega) (show m < 8 from hm)
    omega
  have hx := x.toNat_lt
  have hl := Nat.xor_lt_two_pow (n := 8) (x := x.toNat) (y := 2 ^ m) hx hp
  have e : ((2 : Int) ^ m % 256) = ((2 ^ m : Nat) : Int) := by
    have h1 : ((2 ^ m : Nat) : Int) = (2 : Int) ^ m := by simp
    rw [← h1]
    generalize 2 ^ m = q at *
    omega
  rw [e, u8_xor_nat _ _ (by omega) hp]
  simp only [bv]
  rw [UInt8.toNat_ofNat', Nat.mod_eq_of_lt hl]
theorem below_drew' {B : Nat} {a b : World} (h : Below B a b) : Below B a b.drew := ⟨h.os, h.tape, h.output, h.size, h.block⟩
end Go.Proofs.Ytgiealcfhlcpoaa
