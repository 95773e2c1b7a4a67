/- A finding as an argument; the library's table that strconv reads. -/
import Derived.Test.YtdbbapedimnjhaaDoorDgK
import Derived.Test.YtdbbapedimnjhaaDoorM3
import Derived.ProofKit
import Derived.OpenShut
set_option linter.unusedVariables false
namespace Go.Proofs.YtdbbapedimnjhaaDoor
open Go.ChangeShapes Go.WideShapes Go.ChangeAt Go.RowKit
theorem len_tri {α : Type} {cs : List α} (h : cs.length = 3) : ∃ a b c, cs = [a, b, c] := by
  cases cs with
  | nil => simp at h
  | cons a r => cases r with
    | nil => simp at h
    | cons b r => cases r with
      | nil => simp at h
      | cons c r => cases r with
        | nil => exact ⟨a, b, c, rfl⟩
        | cons d r => simp at h
theorem opens_tri {P : Program} {W : World} {t : TypeId} {α β γ : Type} {f0 f1 f2 : Field} {e0 : α → Value} {ok0 : α → Prop} {e1 : β → Value} {ok1 : β → Prop} {e2 : γ → Value} {ok2 : γ → Prop} (ht : P.underlying t = some (.struct #[f0, f1, f2]))
    (o0 : f0.offset = 0) (o1 : f1.offset = 1) (o2 : f2.offset = 2) (c0 : P.cellsOf f0.type = 1) (c1 : P.cellsOf f1.type = 1) (c2 : P.cellsOf f2.type = 1) (hC : P.cellsOf t = 3)
    (h0 : Opens P W f0.type (fun a => [e0 a]) ok0) (h1 : Opens P W f1.type (fun a => [e1 a]) ok1) (h2 : Opens P W f2.type (fun a => [e2 a]) ok2) :
    Opens P W t (fun p : α × β × γ => [e0 p.1, e1 p.2.1, e2 p.2.2]) (fun p => ok0 p.1 ∧ ok1 p.2.1 ∧ ok2 p.2.2) := by
  intro H en base spare held fuel cs x h
  obtain ⟨xs, n, _, _, hl, hlen, hf⟩ := DataW.trod_struct ht h
  have g0 := hf 0 f0 rfl
  have g1 := hf 1 f1 rfl
  have g2 := hf 2 f2 rfl
  rw [o0, c0, List.drop_zero, List.getElem?_eq_getElem (by rw [hlen]; show 0 < 3; omega)] at g0
  rw [o1, c1, List.getElem?_eq_getElem (by rw [hlen]; show 1 < 3; omega)] at g1
  rw [o2, c2, List.getElem?_eq_getElem (by rw [hlen]; show 2 < 3; omega)] at g2
  obtain ⟨a, ha, hoa⟩ := h0 _ _ _ _ _ _ _ _ g0
  obtain ⟨b, hb, hob⟩ := h1 _ _ _ _ _ _ _ _ g1
  obtain ⟨c, hc, hoc⟩ := h2 _ _ _ _ _ _ _ _ g2
  obtain ⟨x0, x1, x2, rfl⟩ := len_tri (hl.trans hC)
  refine ⟨(a, b, c), ?_, hoa, hob, hoc⟩
  have ha' : x0 = e0 a := by simpa using ha
  have hb' : x1 = e1 b := by simpa using hb
  have hc' : x2 = e2 c := by simpa using hc
  rw [ha', hb', hc']

theorem openDg (W : World) : Opens Tryd.prog W 25 dC DOk :=
  (opens_tri (e0 := fun n : Int => .int .i64 n) (e1 := fun n : Int => .int .i64 n) (e2 := fun s : ByteArray => .string s) Tryd.underlying25 rfl rfl rfl (by kernel_rfl) (by kernel_rfl) (by kernel_rfl) (by kernel_rfl)
    (opens_int Tryd.underlying3) (opens_int Tryd.underlying23) (opens_string Tryd.underlying9)).map
    (fun p => (p.1, p.2.1, p.2.2)) fun p hp => ⟨rfl, wf_i64 hp.1, wf_i64 hp.2.1, hp.2.2⟩
end Go.Proofs.YtdbbapedimnjhaaDoor
