/- Slices of bytes that are cut: one name for where they lie, whatever the capacity is. -/
import Derived.Test.YtgiealcfhlcpoaaM4
set_option linter.unusedVariables false
namespace Go.Proofs.Ytgiealcfhlcpoaa
open Go.RowKit
theorem run_cut_l (A : Option Addr) (n c l : Nat) (kl : IntKind) (w : World) (h : l ≤ n) : (Instr.slice 25 (.slice A n c) (some (.int kl (l : Int))) none none).run Try.prog w = .ok (.slice (cutA A c l) (n - l) (c - l)) w := by
  have h' : (l : Int) ≤ (n : Int) := by omega
  simp [go_sem, h', cutA]
theorem run_cut_lh (A : Option Addr) (n c l m : Nat) (kl km : IntKind) (w : World) (h : l ≤ m) (h2 : m ≤ c) : (Instr.slice 25 (.slice A n c) (some (.int kl (l : Int))) (some (.int km (m : Int))) none).run Try.prog w = .ok (.slice (cutA A c l) (m - l) (c - l)) w := by
  have h' : (l : Int) ≤ (m : Int) := by omega
  have h2' : (m : Int) ≤ (c : Int) := by omega
  simp [go_sem, h', h2', cutA]
end Go.Proofs.Ytgiealcfhlcpoaa
