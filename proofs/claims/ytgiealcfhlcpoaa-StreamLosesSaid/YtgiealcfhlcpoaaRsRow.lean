/- A row of frames that were found, read. -/
import Derived.Test.YtgiealcfhlcpoaaRsPass
set_option linter.unusedVariables false
namespace Go.Proofs.Ytgiealcfhlcpoaa
open Go.RowKit
theorem FdRow.get {B : Nat} {w : World} {A : Option Addr} {n c : Nat} {l : List Fnd} (h : FdRow B w (.slice A n c) l) (hn : l.length = n) (j : Nat) (hj : j < l.length) :
    ∃ b off Ap cp, A = some ⟨b, off, none⟩ ∧ b < w.heap.size ∧ w.cell? ⟨b, off + j * 3, none⟩ = some (.int .i64 (l[j].at_ : Int)) ∧ w.cell? ⟨b, off + j * 3 + 1, none⟩ = some (.int .u8 (l[j].ty.toNat : Int)) ∧ w.cell? ⟨b, off + j * 3 + 2, none⟩ = some (.slice Ap l[j].pl.length cp) ∧ Pay B w Ap cp l[j].pl ∧ n ≤ c ∧ c ≤ 9223372036854775807 := by
  obtain ⟨fs, rfl, ho, hp⟩ := h
  rw [List.length_map] at hj hn
  subst hn
  have hsl := own_slg (by omega) ho
  have hn0 : (fs.flatMap fdC)[j * 3 + 0]? = _ := flatMap_get fdC 3 fs j 0 hj (fun _ _ => rfl) (by omega)
  have hn1 : (fs.flatMap fdC)[j * 3 + 1]? = _ := flatMap_get fdC 3 fs j 1 hj (fun _ _ => rfl) (by omega)
  have hn2 : (fs.flatMap fdC)[j * 3 + 2]? = _ := flatMap_get fdC 3 fs j 2 hj (fun _ _ => rfl) (by omega)
  obtain ⟨b, off, rfl, hb, t0⟩ := hsl.rd _ _ hn0
  have t1 := hsl.rd.addr _ _ hn1
  have t2 := hsl.rd.addr _ _ hn2
  rw [addr_add] at t1 t2
  simp only [Nat.add_zero, ← Nat.add_assoc] at t0 t1 t2
  simp only [List.getElem_map]
  exact ⟨b, off, fs[j].A, fs[j].c, rfl, hb, t0, t1, t2, hp _ (List.getElem_mem hj), hsl.cap, hsl.small⟩
theorem l14_wk : Rs.wk false ([0, 197] ++ Fr.put 7 [1]) 0 = ([⟨2, 7, [1]⟩], 12) := by kernel_rfl
theorem l14_wk2 : Rs.wk false [197, 154, 1] 0 = ([], 0) := by kernel_rfl
theorem l14_wk3 : Rs.wk true [197, 154] 0 = ([], 2) := by kernel_rfl
theorem l14_wk4 : Rs.wk false ([0] ++ Fr.put 3 [1]) 0 = ([⟨1, 3, [1]⟩], 11) := by kernel_rfl
theorem l14_wh : (Rs.whole ([0, 197] ++ Fr.put 7 [1]) 12).length = 1 := by kernel_rfl
theorem l14_gp : Rs.psum (Rs.gaps [⟨2, 7, [1]⟩] 12) = 2 := by kernel_rfl
theorem l14_e0 : Fr.rE [0] = 3 := by kernel_rfl
end Go.Proofs.Ytgiealcfhlcpoaa
