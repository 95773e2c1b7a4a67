/- tag.lowest, tag.fixed, Fix32, Fix64: a range over a function. -/
import Derived.Test.YtapgjkbodfpdaaaDoorSevens
import Derived.Test.YtapgjkbodfpdaaaDoorRefPut
set_option linter.unusedVariables false
namespace Go.Proofs.YtapgjkbodfpdaaaDoor
open Go.RowKit Go.Shelf
attribute [local go_sem] Oper.semAt_some
abbrev Byt : Type := { p : Nat // p < 256 }
abbrev bytEnc (x : Byt) : Array Value := #[.int .u8 (x.1 : Int)]
def lows (n k : Nat) : List Byt := (List.range k).map fun i => ⟨n / 2 ^ (8 * i) % 256, by omega⟩
theorem lows_succ (n k : Nat) : lows n (k + 1) = lows n k ++ [⟨n / 2 ^ (8 * k) % 256, by omega⟩] := by simp [lows, List.range_succ]
theorem lows_pre (n : Nat) {j k : Nat} (h : j ≤ k) : lows n j <+: lows n k := by
  obtain ⟨d, rfl⟩ : ∃ d, k = j + d := ⟨k - j, by omega⟩
  clear h
  induction d with
  | zero => exact List.prefix_rfl
  | succ d ih => rw [← Nat.add_assoc, lows_succ]; exact ih.trans (List.prefix_append _ _)
theorem lows_length (n k : Nat) : (lows n k).length = k := by simp [lows]
theorem lows_fix (n k : Nat) : (lows n k).map (fun x => b8 x.1) = fixN k n := by
  induction k generalizing n with
  | zero => rfl
  | succ k ih =>
    rw [fixN, ← ih (n / 256)]
    simp only [lows, List.range_succ_eq_map, List.map_cons, List.map_map]
    congr 1
    · simp
    · apply List.map_congr_left
      intro i _
      simp only [Function.comp]
      rw [show 8 * (i + 1) = 8 + 8 * i from by omega, Nat.pow_add, ← Nat.div_div_eq_div_mul]

/-- What a round must keep: block B lies as it lay. -/
def KB (B : Nat) (o : Obj) (A A' : World) : Prop := A.heap[B]? = some o → A'.heap[B]? = some o
theorem KB.t {B : Nat} {o : Obj} {A A' A'' : World} (h : KB B o A A') (h' : KB B o A' A'') : KB B o A A'' := fun hA => h' (h hA)
theorem KB.b {B N : Nat} {o : Obj} (hB : B < N) (W : World) (l : Nat) (p p' : Obj) (hl : N ≤ l) (_ : W.heap[l]? = some p) (_ : p.isCells = false) (_ : p.isWalk = false) : KB B o W (W.putObj l p') :=
  fun hA => (World.putObj_heap_other (by omega)).trans hA
def bytBs (xs : List Byt) : List Value := xs.map fun x => bv (b8 x.1)
end Go.Proofs.YtapgjkbodfpdaaaDoor
