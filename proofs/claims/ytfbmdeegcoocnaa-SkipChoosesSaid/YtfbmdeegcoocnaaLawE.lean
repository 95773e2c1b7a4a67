/- The walks of layer 2's statements. -/
import Derived.Test.YtfbmdeegcoocnaaLawD
set_option linter.unusedVariables false
namespace Go.Proofs.Ytfbmdeegcoocnaa
open Go.RowKit
theorem get32_at (bs : List UInt8) (n : Nat) (A : Option Addr) (c : Nat) (w : World) (u v : Int) (hn : bs.length = n) (hR : Sl w A c (bs.map bv)) (hu : u = if n < 4 then 0 else (unfixN (bs.take 4) : Int)) (hv : v = if n < 4 then 4 else 0) :
    Calls Try.prog 72 #[.slice A n c] w fun e w' => e = .returned (.tuple #[.int .u32 u, .int .i64 v]) ∧ w = w' := by
  subst hn; subst hu; subst hv; exact get32_any bs A c w hR
theorem get64_at (bs : List UInt8) (n : Nat) (A : Option Addr) (c : Nat) (w : World) (u v : Int) (hn : bs.length = n) (hR : Sl w A c (bs.map bv)) (hu : u = if n < 8 then 0 else (unfixN (bs.take 8) : Int)) (hv : v = if n < 8 then 4 else 0) :
    Calls Try.prog 115 #[.slice A n c] w fun e w' => e = .returned (.tuple #[.int .u64 u, .int .i64 v]) ∧ w = w' := by
  subst hn; subst hu; subst hv; exact get64_any bs A c w hR
theorem live_get32 (W : World) (N : Nat) (hN : W.heap.size = N) : Calls Try.prog 72 #[.slice (some ⟨N, 0, none⟩) 5 5] (W.alloc (.cells #[.int .u8 2, .int .u8 1, .int .u8 0, .int .u8 0, .int .u8 9] 5)) fun e w' => e = .returned (.tuple #[.int .u32 258, .int .i64 0]) ∧ W.alloc (.cells #[.int .u8 2, .int .u8 1, .int .u8 0, .int .u8 0, .int .u8 9] 5) = w' := by
  subst hN
  exact get32_at [2, 1, 0, 0, 9] 5 _ 5 _ _ _ rfl ⟨by simp, by omega, (fun h => by cases h), Rd.new W 5 #[.int .u8 2, .int .u8 1, .int .u8 0, .int .u8 0, .int .u8 9]⟩ (by decide) (by decide)
theorem live_get64 (W : World) (N : Nat) (hN : W.heap.size = N) : Calls Try.prog 115 #[.slice (some ⟨N, 0, none⟩) 8 8] (W.alloc (.cells #[.int .u8 2, .int .u8 1, .int .u8 0, .int .u8 0, .int .u8 0, .int .u8 0, .int .u8 0, .int .u8 0] 5)) fun e w' => e = .returned (.tuple #[.int .u64 258, .int .i64 0]) ∧ W.alloc (.cells #[.int .u8 2, .int .u8 1, .int .u8 0, .int .u8 0, .int .u8 0, .int .u8 0, .int .u8 0, .int .u8 0] 5) = w' := by
  subst hN
  exact get64_at [2, 1, 0, 0, 0, 0, 0, 0] 8 _ 8 _ _ _ rfl ⟨by simp, by omega, (fun h => by cases h), Rd.new W 5 #[.int .u8 2, .int .u8 1, .int .u8 0, .int .u8 0, .int .u8 0, .int .u8 0, .int .u8 0, .int .u8 0]⟩ (by decide) (by decide)
theorem headL12 : headL 1 2 = [10] := by
  unfold headL
  rw [show mk 1 2 = (10, 0) from by decide]
  simp [putN_small (show 10 < 128 by omega)]; decide
theorem headL25 : headL 2 5 = [21] := by
  unfold headL
  rw [show mk 2 5 = (21, 0) from by decide]
  simp [putN_small (show 21 < 128 by omega)]; decide
theorem mk_eq (n x : Int) : mk n x = mk n x := rfl
end Go.Proofs.Ytfbmdeegcoocnaa
