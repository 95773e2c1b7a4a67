/- schema.Kinds: the kinds that a version has. -/
import Derived.Test.YtehjibbjkadoiaaSchOf
set_option linter.unusedVariables false
namespace Go.Proofs.Ytehjibbjkadoiaa
open Go.RowKit Go.Shelf
attribute [local go_sem] Oper.semAt_some
def kdStep (a : List Nat × Nat) (r : SRow) : List Nat × Nat := (if r.kind = a.2 then a.1 else a.1 ++ [r.kind], r.kind)
def kdS (v : Int) (j : Nat) : List Nat × Nat := ((kn v).take j).foldl kdStep ([], 0)
def kinds (v : Int) : List Nat := ((kn v).foldl kdStep ([], 0)).1
def kvN (k : Nat) : Value := .int .u8 (k : Nat)
theorem kdS_next (v : Int) (j : Nat) (hj : j < (kn v).length) : kdS v (j + 1) = kdStep (kdS v j) (knAt v j) := by
  unfold kdS
  rw [knAt_take v j hj, List.foldl_append]
  rfl
theorem kdS_all (v : Int) : (kdS v (kn v).length).1 = kinds v := by
  unfold kdS kinds
  rw [List.take_length]
theorem kdS_len (v : Int) : ∀ j, j ≤ (kn v).length → (kdS v j).1.length ≤ j
  | 0, _ => by simp [kdS]
  | j + 1, h => by
    have ih := kdS_len v j (by omega)
    rw [kdS_next v j (by omega)]
    unfold kdStep
    simp only
    split
    · omega
    · rw [List.length_append]; simp; omega
/-- What holds between two rounds of Kinds. -/
structure KiJ (s : Nat) (w : World) (v : Int) (L : List Nat) (last : Nat) (vv : Value) (W : World) : Prop where
  r0 : Blk W s 34 #[vv]
  r1 : Blk W (s + 1) 5 #[.int .u8 (last : Nat)]
  r2 : Blk W (s + 2) 3 #[.int .i64 v]
  row : W.ownsRow (s + 8) 5 1 vv L.length (L.map kvN)
  bel : Below s w W
theorem KiJ.keep {s : Nat} {w W W' : World} {v : Int} {L : List Nat} {last : Nat} {vv : Value} {S : Nat → Prop} (h : KiJ s w v L last vv W) (hc : Chg S W W') (hS : ∀ q, S q → s + 3 ≤ q ∧ q < s + 8) : KiJ s w v L last vv W' := by
  have g := h.r2.lt
  exact ⟨hc.blk h.r0 (fun hq => by have := hS _ hq; omega), hc.blk h.r1 (fun hq => by have := hS _ hq; omega), hc.blk h.r2 (fun hq => by have := hS _ hq; omega), own_chgS h.row hc (fun g hg hk => by have := (h.row.lt g hg).1; have := hS _ hk; omega), h.bel.trans (hc.below (B := s) (fun q hq => by have := hS q hq; omega) (by omega))⟩
theorem KiJ.last {s : Nat} {w W : World} {v : Int} {L : List Nat} {last : Nat} {vv : Value} (h : KiJ s w v L last vv W) (r : Nat) : KiJ s w v L r vv (W.setCell ⟨s + 1, 0, none⟩ (.int .u8 (r : Nat))) ∧ Chg (fun q => q = s + 1) W (W.setCell ⟨s + 1, 0, none⟩ (.int .u8 (r : Nat))) := by
  have hc : Chg (fun q => q = s + 1) W (W.setCell ⟨s + 1, 0, none⟩ (.int .u8 (r : Nat))) := (Chg.refl (fun q => q = s + 1) W).set_ (.inl rfl) 0 _
  have g := h.r2.lt
  exact ⟨⟨hc.blk h.r0 (by omega), by simpa using h.r1.set_ 0 (.int .u8 (r : Nat)), hc.blk h.r2 (by omega), own_chgS h.row hc (fun g hg hk => by have := (h.row.lt g hg).1; omega), h.bel.trans (hc.below (fun q hq => by omega) (by omega))⟩, hc⟩
theorem KiJ.step {s : Nat} {w W w1 : World} {v : Int} {L : List Nat} {last r : Nat} {vv v' : Value} {o : Obj} (h : KiJ s w v L last vv W) (hg : (W.alloc o).grownBy w1 vv.ownBlock)
    (ho' : w1.ownsRow (s + 8) 5 1 v' (L.length + 1) (L.map kvN ++ [kvN r])) : KiJ s w v (L ++ [r]) last v' (w1.setCell ⟨s, 0, none⟩ v') ∧ Chg (fun q => q = s ∨ s + 8 ≤ q) W (w1.setCell ⟨s, 0, none⟩ v') := by
  have hb1 : Chg (fun q => s + 8 ≤ q) W w1 := ((Chg.refl _ W).alloc o).trans (Chg.of_grown hg fun g e => (h.row.lt g e).1)
  have hc1 : Chg (fun q => q = s ∨ s + 8 ≤ q) W w1 := hb1.mono fun q _ hq => .inr hq
  have hc : Chg (fun q => q = s ∨ s + 8 ≤ q) W (w1.setCell ⟨s, 0, none⟩ v') := hc1.set_ (.inl (.inl rfl)) 0 v'
  have hv1 : Blk w1 s 34 #[vv] := hb1.blk h.r0 (by omega)
  have hv2 := hv1.set_ 0 v'
  have g := h.r2.lt
  refine ⟨⟨by simpa using hv2, hc.blk h.r1 (by omega), hc.blk h.r2 (by omega), ?_, h.bel.trans (hc.below (fun q hq => by omega) (by omega))⟩, hc⟩
  have h2 := own_chgS ho' ((Chg.refl (fun q => q = s) w1).set_ (.inl rfl) 0 v') (fun g hg' hk => by have := (ho'.lt g hg').1; omega)
  rw [List.length_append, List.map_append]
  simpa using h2
end Go.Proofs.Ytehjibbjkadoiaa
