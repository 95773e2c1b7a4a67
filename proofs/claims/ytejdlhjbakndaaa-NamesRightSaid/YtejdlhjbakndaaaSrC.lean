/- scalar: what stands for a byte within quotes (within), Quote, Put: walks. -/
import Derived.Test.YtejdlhjbakndaaaProg
import Derived.Test.YtejdlhjbakndaaaM1
import Derived.Test.YtejdlhjbakndaaaSrMath
import Derived.Test.YtejdlhjbakndaaaSrA
import Derived.Test.YtejdlhjbakndaaaSrB
import Derived.Test.YtejdlhjbakndaaaUt
import Derived.Lib.Walk
import Derived.WalkSmall
import Derived.Deep.RegionHeld3
import Derived.Deep.AppendLies
import Derived.Deep.RegionLaw
import Derived.BigRegion
import Derived.Laws.BytesArg
import Derived.IntWalk
set_option linter.unusedVariables false
namespace Go.Proofs.Ytejdlhjbakndaaa
open Go.RowKit
theorem conv_ow {P : Program} {w : World} {B t : Nat} {src dst e : TypeId} {v : Value} {n : Nat} {vs : List UInt8} (hrow : w.ownsRow B t 1 v n (vs.map bv)) (hs : P.underlying src = some (.slice e)) (he : P.underlying e = some (.int .u8)) (hd : P.underlying dst = some .string) :
    ∃ s : ByteArray, s.data.toList = vs ∧ (convert src dst v).run P w = .ok (.string s) w := by
  obtain ⟨A, c, rfl, hn, hsl⟩ := Sl.of_own hrow
  rw [List.length_map] at hn
  subst hn
  cases A with
  | none =>
    obtain hnil := hsl.rd.none_nil
    obtain rfl : vs = [] := by simpa using hnil
    obtain rfl := hsl.nil0 rfl
    refine ⟨⟨#[]⟩, rfl, ?_⟩
    exact run_convert_bytes_nil w src e hs he 0 0 dst hd
  | some a =>
    refine ⟨⟨vs.toArray⟩, by simp, ?_⟩
    exact run_convert_bytes_back _ src dst e _ _ vs hs he hd fun j hj => by
      have := hsl.rd.addr j (bv vs[j]) (by simp [hj])
      simpa [bv] using this
theorem bv92 : bv 92 = .int .u8 92 := rfl
theorem bv110 : bv 110 = .int .u8 110 := rfl
theorem bv116 : bv 116 = .int .u8 116 := rfl
theorem bv120 : bv 120 = .int .u8 120 := rfl
theorem ix_dig : ∀ k : Nat, k < 16 → ∀ w : World, (Instr.index 9 (.string ⟨#[48, 49, 50, 51, 52, 53, 54, 55, 56, 57, 97, 98, 99, 100, 101, 102]⟩) (.int .i64 (k : Int))).run Try.prog w = .ok (.int .u8 ((hxD k).toNat : Int)) w
  | 0, _ => fun w => by kernel_rfl
  | 1, _ => fun w => by kernel_rfl
  | 2, _ => fun w => by kernel_rfl
  | 3, _ => fun w => by kernel_rfl
  | 4, _ => fun w => by kernel_rfl
  | 5, _ => fun w => by kernel_rfl
  | 6, _ => fun w => by kernel_rfl
  | 7, _ => fun w => by kernel_rfl
  | 8, _ => fun w => by kernel_rfl
  | 9, _ => fun w => by kernel_rfl
  | 10, _ => fun w => by kernel_rfl
  | 11, _ => fun w => by kernel_rfl
  | 12, _ => fun w => by kernel_rfl
  | 13, _ => fun w => by kernel_rfl
  | 14, _ => fun w => by kernel_rfl
  | 15, _ => fun w => by kernel_rfl
  | k + 16, h => absurd h (by omega)
theorem dig_at : ∀ k : Nat, k < 16 → ∀ h : k < 16, (((⟨#[48, 49, 50, 51, 52, 53, 54, 55, 56, 57, 97, 98, 99, 100, 101, 102]⟩ : ByteArray)[k]'h).toNat : Int) = ((hxD k).toNat : Int) := by
  intro k _ h
  have : ∀ k : Fin 16, (((⟨#[48, 49, 50, 51, 52, 53, 54, 55, 56, 57, 97, 98, 99, 100, 101, 102]⟩ : ByteArray)[k.1]'k.2).toNat : Int) = ((hxD k.1).toNat : Int) := by decide +kernel
  exact this ⟨k, h⟩
theorem bw_new {B : Nat} {w w1 : World} {o : Obj} {v : Value} {t n : Nat} {xs : List Value} (hB : B ≤ w.heap.size) (hrow : w.ownsRow B t 1 v n xs) (hg : (w.alloc o).grownBy w1 v.ownBlock) : Below B w w1 :=
  ((Below.refl B w).alloc hB o).grown hg (by simp; omega) fun k ek => (hrow.lt k ek).1
end Go.Proofs.Ytejdlhjbakndaaa
