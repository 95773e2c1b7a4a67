/- Names: a mention (a step's number and a name) as a map's key. -/
import Derived.Test.YtejdlhjbakndaaaNmP
import Derived.DeepKeys4
set_option linter.unusedVariables false
namespace Go.Proofs.Ytejdlhjbakndaaa
open Go.RowKit
theorem mnLaidOut : laidOutB Try.prog = true := by kernel_rfl
def mnC (x : Nat × ByteArray) : List Value := [.int .i64 (x.1 : Int), .string x.2]
theorem mnLaw : Maps.Keyed Try.prog 61 :=
  Maps.Keyed.of_law (deep_law_laid mnLaidOut (m := 4) (by omega) (of_decide_eq_true (by kernel_rfl)) (by kernel_rfl) (by kernel_rfl))
theorem mnZero (w : World) : (zeroValue 77).run Try.prog w = .ok (.agg #[]) w := by kernel_rfl
theorem mnKey (x : Nat × ByteArray) (h1 : x.1 ≤ 9223372036854775807) (h2 : x.2.size ≤ 9223372036854775807) : ∃ kl, keyOf Try.prog 61 (.agg (mnC x).toArray) = some kl := by
  obtain ⟨s, t⟩ := x
  simp only at h1 h2
  refine ⟨.string (keyBytes [.int .i64 (s : Int), .string t.data.toList]), ?_⟩
  have c0 : Try.prog.cellsOf 61 = 2 := by kernel_rfl
  have c1 : Try.prog.cellsOf 3 = 1 := by kernel_rfl
  have c3 : Try.prog.cellsOf 9 = 1 := by kernel_rfl
  have hkt : Try.prog.keyType 61 = true := by kernel_rfl
  have w1 : (Lit.int .i64 (s : Int)).wf = true := WalkArith.wf_i64 (by omega)
  obtain ⟨m, hm⟩ : ∃ m, Try.prog.types.size = m + 1 := Nat.exists_eq_succ_of_ne_zero (of_decide_eq_true (by kernel_rfl))
  have hl : Try.prog.keyLits (Try.prog.types.size + 1) 61 [.int .i64 (s : Int), .string t] = some [.int .i64 (s : Int), .string t.data.toList] := by
    rw [hm]
    simp [Program.keyLits, Try.underlying61, Try.underlying3, Try.underlying9, c0, c1, c3, w1, maxLen, h2]
  have hf : (Value.agg (mnC (s, t)).toArray).formed Try.prog 61 = true := by simp [Value.formed, Try.underlying61, c0, mnC]
  unfold keyOf
  rw [Try.underlying61]
  simp only
  rw [hkt, hf, if_pos (by rfl)]
  show Option.map _ (Try.prog.keyLits _ _ [.int .i64 (s : Int), .string t]) = _
  rw [hl]
  rfl
end Go.Proofs.Ytejdlhjbakndaaa
