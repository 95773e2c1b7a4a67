/- A listed package-level table of integers: what the reading gives the walk. -/
import Derived.Test.YtepbfgniocjagaaDoorM1
import Derived.ProofKit
import Derived.OpenShut
import Derived.LaidMore
set_option linter.unusedVariables false
namespace Go.Proofs.YtepbfgniocjagaaDoor
open Go.ChangeShapes Go.WideShapes Go.ChangeAt Go.RowKit
section
variable {H : Type} {enc : TypeId × Value → H} {P : Program} {W : World} {base : Nat} {spare : Nat → Bool} {held : Bool} {t e : TypeId} {fuel : Nat} {p : List MemPlace}
theorem ints_array {k : IntKind} {n : Nat} {zs : List Int} {cs : List Value} (ht : P.underlying t = some (.array n e)) (he : P.underlying e = some (.int k)) (hc : P.cellsOf e = 1) (ha : P.cellsOf t = n)
    (hd : DataW.trod enc P W base spare held fuel t cs = some (.agg (zs.map fun z => .lit (.int k z)), p)) : cs = zs.map (Value.int k) := by
  obtain ⟨xs, m, _, hx, hlen, hn, hel⟩ := DataW.trod_array ht hd
  rw [ha] at hlen
  simp only [Prod.mk.injEq, DataW.agg.injEq] at hx
  have hzl : zs.length = n := by have := congrArg List.length hx.1; simpa [hn] using this
  apply List.ext_getElem (by simp [hzl, hlen])
  intro i h1 h2
  have hi : i < n := by omega
  have hz : i < zs.length := by omega
  have hxi : i < xs.length := by omega
  have g := hel i hi
  rw [hc, List.getElem?_eq_getElem hxi, Nat.mul_one, List.drop_eq_getElem_cons h1, List.take_succ_cons, List.take_zero] at g
  obtain ⟨z, e1, e2, _⟩ := DataW.trod_int he g
  have e3 : (xs[i]).1 = .lit (.int k zs[i]) := by
    have := congrArg (fun l => l[i]?) hx.1
    simp [hz, hxi] at this
    exact this.symm
  rw [e2] at e3
  simp at e3
  injection e1 with e1
  rw [e1, List.getElem_map, e3]
end
theorem var_rd {P : Program} {W : World} {v : String} {g : Nat} {cs : Array Value} {xs : List Value} (hg : P.globalNamed v = some g) (hv : W.var? P v = some cs) (hx : cs.toList = xs) : Rd W (some ⟨g, 0, none⟩) xs := by
  intro k u hk
  have h := World.var?_cell hg hv k
  rw [← Array.getElem?_toList, hx, hk] at h
  exact ⟨g, 0, rfl, World.block_lt_of_cell? W _ h, by rw [Nat.zero_add]; exact h⟩
end Go.Proofs.YtepbfgniocjagaaDoor
