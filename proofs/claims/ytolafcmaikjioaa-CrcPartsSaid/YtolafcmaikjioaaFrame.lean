/- Opening the arguments of a statement: what came in, as lists. -/
import Derived.Test.YtolafcmaikjioaaBase
import Derived.ProofKit
import Derived.OpenShut
import Derived.ChangeOld
import Derived.Below
set_option linter.unusedVariables false
namespace Go.Proofs.Ytolafcmaikjioaa
open Go.ChangeShapes Go.WideShapes Go.ChangeAt Go.RowKit

theorem wf_u64 {n : Int} (h : (Lit.int .u64 n).wf = true) : 0 ≤ n ∧ n ≤ 18446744073709551615 := by simpa [Lit.wf, IntKind.min, IntKind.max, IntKind.signed, IntKind.bits] using h
theorem wf_i64 {n : Int} (h : (Lit.int .i64 n).wf = true) : -9223372036854775808 ≤ n ∧ n ≤ 9223372036854775807 := by simpa [Lit.wf, IntKind.min, IntKind.max, IntKind.signed, IntKind.bits] using h
theorem wf_u32 {n : Int} (h : (Lit.int .u32 n).wf = true) : 0 ≤ n ∧ n ≤ 4294967295 := by simpa [Lit.wf, IntKind.min, IntKind.max, IntKind.signed, IntKind.bits] using h
theorem wf_u8 {n : Int} (h : (Lit.int .u8 n).wf = true) : 0 ≤ n ∧ n ≤ 255 := by simpa [Lit.wf, IntKind.min, IntKind.max, IntKind.signed, IntKind.bits] using h

section
variable {H : Type} {enc : TypeId × Value → H} {P : Program} {W : World} {base : Nat} {spare : Nat → Bool} {held : Bool} {t e : TypeId} {A : Option Addr} {len cap : Nat} {d : DataW H} {p : List MemPlace}
/-- a slice of integers that came in, its elements -/
theorem ints_of {k : IntKind} (ht : P.underlying t = some (.slice e)) (he : P.underlying e = some (.int k)) (hc : P.cellsOf e = 1) (h : DataW.Trod enc P W base spare held t (.slice A len cap) d p) :
    ∃ zs : List Int, zs.length = len ∧ (∀ n ∈ zs, (Lit.int k n).wf = true) ∧ Sl W A cap (zs.map (Value.int k)) := by
  obtain ⟨fuel, hf⟩ := h
  rcases open_ints ht he hc hf with ⟨hcs, _⟩ | ⟨x, l, c, zs, hcs, _, hl, hm, hz, _, hcell, hwz⟩
  · simp [Value.cells] at hcs
    obtain ⟨rfl, rfl, rfl⟩ := hcs
    exact ⟨[], rfl, by simp, Sl.nil_ W⟩
  · simp [Value.cells] at hcs
    obtain ⟨rfl, rfl, rfl⟩ := hcs
    have hzl : len ≤ zs.length := by rw [hz]; split <;> omega
    refine ⟨zs.take len, by rw [List.length_take]; omega, fun n hn => hwz n (List.mem_of_mem_take hn), ⟨by simp; omega, hm, (fun h => by cases h), fun j u hj => ?_⟩⟩
    rw [List.getElem?_map, List.getElem?_take] at hj
    split at hj
    · rename_i hjl
      have hc := hcell j (by omega)
      rw [List.getElem?_eq_getElem (by omega)] at hj
      simp only [Option.map_some, Option.some.injEq] at hj
      rw [List.getD_eq_getElem?_getD, List.getElem?_eq_getElem (by omega), Option.getD_some, hj] at hc
      have hlt := World.block_lt_of_cell? W _ hc
      obtain ⟨b, off, spot⟩ := x
      cases spot with
      | none => exact ⟨b, off, rfl, by rwa [addr_add] at hlt, by rwa [addr_add] at hc⟩
      | some s =>
        have h0 := hcell 0 (by omega)
        simp [World.cell?, Addr.add] at h0
        split at h0 <;> simp at h0
    · cases hj
/-- bytes that came in -/
theorem bytes_of (ht : P.underlying t = some (.slice e)) (he : P.underlying e = some (.int .u8)) (hc : P.cellsOf e = 1) (h : DataW.Trod enc P W base spare held t (.slice A len cap) d p) :
    ∃ bs : List UInt8, bs.length = len ∧ Sl W A cap (bs.map bv) := by
  obtain ⟨zs, hl, hw, hs⟩ := ints_of ht he hc h
  refine ⟨zs.map fun z => b8 z.toNat, by simpa using hl, ?_⟩
  have e : (zs.map fun z => b8 z.toNat).map bv = zs.map (Value.int .u8) := by
    rw [List.map_map]
    apply List.map_congr_left
    intro z hz
    have := wf_u8 (hw z hz)
    simp only [Function.comp]
    rw [bv_b8 _ (by omega), Int.toNat_of_nonneg this.1]
  rw [e]; exact hs
/-- numbers that came in -/
theorem nums_of (ht : P.underlying t = some (.slice e)) (he : P.underlying e = some (.int .u64)) (hc : P.cellsOf e = 1) (h : DataW.Trod enc P W base spare held t (.slice A len cap) d p) :
    ∃ ns : List Nat, ns.length = len ∧ (∀ n ∈ ns, n ≤ 18446744073709551615) ∧ Sl W A cap (ns.map nv) := by
  obtain ⟨zs, hl, hw, hs⟩ := ints_of ht he hc h
  refine ⟨zs.map Int.toNat, by simpa using hl, ?_, ?_⟩
  · intro n hn
    obtain ⟨z, hz, rfl⟩ := List.mem_map.1 hn
    have := wf_u64 (hw z hz)
    omega
  · have e : (zs.map Int.toNat).map nv = zs.map (Value.int .u64) := by
      rw [List.map_map]
      apply List.map_congr_left
      intro z hz
      have := wf_u64 (hw z hz)
      simp only [Function.comp, nv]
      rw [Int.toNat_of_nonneg this.1]
    rw [e]; exact hs
end
end Go.Proofs.Ytolafcmaikjioaa
