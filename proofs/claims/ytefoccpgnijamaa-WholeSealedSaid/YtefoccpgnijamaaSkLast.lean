/- skip.Last. -/
import Derived.Test.YtefoccpgnijamaaSkOf
set_option linter.unusedVariables false
namespace Go.Proofs.Ytefoccpgnijamaa
open Go.RowKit
/-- The last field of a number and a wire type. -/
def lastK (l : List FV) (num x : Int) : Option FV := (l.filter fun f => decide (f.num = num) && decide (f.w = x)).getLast?
theorem lastK_hit (l : List FV) (num x : Int) (j : Nat) (hj : j < l.length) (h0 : (l.drop (j + 1)).filter (fun f => decide (f.num = num) && decide (f.w = x)) = []) (h1 : l[j].num = num) (h2 : l[j].w = x) : lastK l num x = some l[j] := by
  unfold lastK
  have e : l = l.take j ++ (l[j] :: l.drop (j + 1)) := by rw [← List.drop_eq_getElem_cons hj, List.take_append_drop]
  have e2 : l.filter (fun f => decide (f.num = num) && decide (f.w = x)) = (l.take j).filter (fun f => decide (f.num = num) && decide (f.w = x)) ++ [l[j]] := by
    conv => lhs; rw [e]
    rw [List.filter_append, List.filter_cons_of_pos (by simp [h1, h2]), h0]
  rw [e2]
  simp
theorem lastK_miss (l : List FV) (num x : Int) (j : Nat) (hj : j < l.length) (h0 : (l.drop (j + 1)).filter (fun f => decide (f.num = num) && decide (f.w = x)) = []) (h1 : ¬ (l[j].num = num ∧ l[j].w = x)) : (l.drop j).filter (fun f => decide (f.num = num) && decide (f.w = x)) = [] := by
  rw [List.drop_eq_getElem_cons hj, List.filter_cons_of_neg (by simpa using h1), h0]
theorem set5 {W : World} {z : Nat} {t : TypeId} {x0 x1 x2 x3 x4 : Value} (h : Blk W z t #[x0, x1, x2, x3, x4]) (y0 y1 y2 y3 y4 : Value) :
    Blk (((((W.setCell ⟨z, 0, none⟩ y0).setCell ⟨z, 1, none⟩ y1).setCell ⟨z, 2, none⟩ y2).setCell ⟨z, 3, none⟩ y3).setCell ⟨z, 4, none⟩ y4) z t #[y0, y1, y2, y3, y4] ∧
    Chg (fun k => k = z) W (((((W.setCell ⟨z, 0, none⟩ y0).setCell ⟨z, 1, none⟩ y1).setCell ⟨z, 2, none⟩ y2).setCell ⟨z, 3, none⟩ y3).setCell ⟨z, 4, none⟩ y4) := by
  refine ⟨by simpa using ((((h.set_ 0 y0).set_ 1 y1).set_ 2 y2).set_ 3 y3).set_ 4 y4, (((((Chg.refl (fun k => k = z) W).set_ (.inl rfl) 0 y0).set_ (.inl rfl) 1 y1).set_ (.inl rfl) 2 y2).set_ (.inl rfl) 3 y3).set_ (.inl rfl) 4 y4⟩
end Go.Proofs.Ytefoccpgnijamaa
