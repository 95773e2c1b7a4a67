/- What came in: bytes, and structs of five fields of a cell each. -/
import Derived.Test.YtefoccpgnijamaaM3
set_option linter.unusedVariables false
namespace Go.Proofs.Ytefoccpgnijamaa
open Go.ChangeShapes Go.WideShapes Go.ChangeAt Go.RowKit
section
variable {P : Program} {W : World} {t e : TypeId}
theorem opens_bytes (ht : P.underlying t = some (.slice e)) (he : P.underlying e = some (.int .u8)) (hc : P.cellsOf e = 1) :
    Opens P W t (fun s : SlV UInt8 => [.slice s.A s.xs.length s.c]) (fun s => Sl W s.A s.c (s.xs.map bv)) :=
  (opens_slice (size := 1) ht hc (by omega) (fun _ => rfl) (opens_int he)).map (fun s => ⟨s.A, s.c, s.xs.map fun z => b8 z.toNat⟩) fun s hs => by
    refine ⟨by simp, ?_⟩
    have h2 := hs.2
    have e : (s.xs.map fun z => b8 z.toNat).map bv = s.xs.flatMap fun n => [.int .u8 n] := by
      rw [List.map_map, show (s.xs.flatMap fun n => [Value.int .u8 n]) = s.xs.map (Value.int .u8) from (List.map_eq_flatMap ..).symm]
      apply List.map_congr_left
      intro z hz
      have := wf_u8 (hs.1 z hz)
      simp only [Function.comp]
      rw [bv_b8 _ (by omega), Int.toNat_of_nonneg this.1]
    show Sl W s.A s.c ((s.xs.map fun z => b8 z.toNat).map bv)
    rw [e]
    exact ⟨by rw [h2.len, Nat.mul_one]; exact h2.cap, h2.small, h2.nil0, h2.rd⟩
theorem opens_struct5 {α0 α1 α2 α3 α4 : Type} {f0 f1 f2 f3 f4 : Field} {e0 : α0 → Value} {ok0 : α0 → Prop} {e1 : α1 → Value} {ok1 : α1 → Prop} {e2 : α2 → Value} {ok2 : α2 → Prop} {e3 : α3 → Value} {ok3 : α3 → Prop} {e4 : α4 → Value} {ok4 : α4 → Prop}
    (ht : P.underlying t = some (.struct #[f0, f1, f2, f3, f4])) (hC : P.cellsOf t = 5) (ho : f0.offset = 0 ∧ f1.offset = 1 ∧ f2.offset = 2 ∧ f3.offset = 3 ∧ f4.offset = 4)
    (hc : P.cellsOf f0.type = 1 ∧ P.cellsOf f1.type = 1 ∧ P.cellsOf f2.type = 1 ∧ P.cellsOf f3.type = 1 ∧ P.cellsOf f4.type = 1)
    (h0 : Opens P W f0.type (fun a => [e0 a]) ok0) (h1 : Opens P W f1.type (fun a => [e1 a]) ok1) (h2 : Opens P W f2.type (fun a => [e2 a]) ok2) (h3 : Opens P W f3.type (fun a => [e3 a]) ok3) (h4 : Opens P W f4.type (fun a => [e4 a]) ok4) :
    Opens P W t (fun p : α0 × α1 × α2 × α3 × α4 => [e0 p.1, e1 p.2.1, e2 p.2.2.1, e3 p.2.2.2.1, e4 p.2.2.2.2]) (fun p => ok0 p.1 ∧ ok1 p.2.1 ∧ ok2 p.2.2.1 ∧ ok3 p.2.2.2.1 ∧ ok4 p.2.2.2.2) := by
  obtain ⟨o0, o1, o2, o3, o4⟩ := ho
  obtain ⟨c0, c1, c2, c3, c4⟩ := hc
  intro H en base spare held fuel cs x h
  obtain ⟨xs, n, _, _, hl, hlen, hf⟩ := DataW.trod_struct ht h
  have g0 := hf 0 f0 rfl
  have g1 := hf 1 f1 rfl
  have g2 := hf 2 f2 rfl
  have g3 := hf 3 f3 rfl
  have g4 := hf 4 f4 rfl
  rw [o0, c0, List.getElem?_eq_getElem (by rw [hlen]; show 0 < 5; omega)] at g0
  rw [o1, c1, List.getElem?_eq_getElem (by rw [hlen]; show 1 < 5; omega)] at g1
  rw [o2, c2, List.getElem?_eq_getElem (by rw [hlen]; show 2 < 5; omega)] at g2
  rw [o3, c3, List.getElem?_eq_getElem (by rw [hlen]; show 3 < 5; omega)] at g3
  rw [o4, c4, List.getElem?_eq_getElem (by rw [hlen]; show 4 < 5; omega)] at g4
  rw [hC] at hl
  obtain ⟨a0, k0, w0⟩ := h0 _ _ _ _ _ _ _ _ g0
  obtain ⟨a1, k1, w1⟩ := h1 _ _ _ _ _ _ _ _ g1
  obtain ⟨a2, k2, w2⟩ := h2 _ _ _ _ _ _ _ _ g2
  obtain ⟨a3, k3, w3⟩ := h3 _ _ _ _ _ _ _ _ g3
  obtain ⟨a4, k4, w4⟩ := h4 _ _ _ _ _ _ _ _ g4
  refine ⟨(a0, a1, a2, a3, a4), ?_, w0, w1, w2, w3, w4⟩
  clear g0 g1 g2 g3 g4 hf h0 h1 h2 h3 h4 h
  match cs, hl with
  | [x0, x1, x2, x3, x4], _ => simp at k0 k1 k2 k3 k4; subst k0 k1 k2 k3 k4; rfl
end
end Go.Proofs.Ytefoccpgnijamaa
