/- What is found of a stream that goes on. -/
import Derived.Test.YtnfodgjihdoncaaRsM2
set_option linter.unusedVariables false
namespace Go.Proofs.Ytnfodgjihdoncaa
open Go.RowKit
theorem Rs.grow (bs more : List UInt8) (q : Nat) (hq : q ≤ bs.length) : Rs.wk false (bs ++ more) q = ((Rs.wk false bs q).1 ++ (Rs.wk false (bs ++ more) (Rs.wk false bs q).2).1, (Rs.wk false (bs ++ more) (Rs.wk false bs q).2).2) := by
  refine Rs.wk_ind false bs (fun q r => q ≤ bs.length → Rs.wk false (bs ++ more) q = (r.1 ++ (Rs.wk false (bs ++ more) r.2).1, (Rs.wk false (bs ++ more) r.2).2)) ?_ ?_ ?_ ?_ q hq
  · intro q _ _; simp
  · intro q r hlt h0 ih _
    have hd : (bs ++ more).drop q = bs.drop q ++ more := List.drop_append_of_le_length (by omega)
    have ha := Fr.rE_app (bs := bs.drop q) more (by omega)
    have hx := ha.2 h0
    have hle := (Rs.ok_mk hlt h0).2.2
    rw [Rs.wk_ok (by rw [List.length_append]; omega) (by rw [hd, ha.1]; exact h0), hd, hx.1, hx.2.1, hx.2.2, ih hle]
    simp
  · intro q _ _ _ _; simp
  · intro q r hlt h0 h4 ih _
    have hd : (bs ++ more).drop q = bs.drop q ++ more := List.drop_append_of_le_length (by omega)
    have h44 : Fr.rE (bs.drop q) ≠ 4 := fun h => h4 ⟨h, rfl⟩
    have ha := Fr.rE_app (bs := bs.drop q) more h44
    rw [Rs.wk_no (by rw [List.length_append]; omega) (by rw [hd, ha.1]; exact h0) (by rw [hd, ha.1]; exact h4)]
    exact ih (by omega)
def Fnd.shift (k : Nat) (f : Fnd) : Fnd := ⟨k + f.at_, f.ty, f.pl⟩
theorem Rs.shift (fin : Bool) (xa bs : List UInt8) (q : Nat) : Rs.wk fin (xa ++ bs) (xa.length + q) = ((Rs.wk fin bs q).1.map (Fnd.shift xa.length), xa.length + (Rs.wk fin bs q).2) := by
  refine Rs.wk_ind fin bs (fun q r => Rs.wk fin (xa ++ bs) (xa.length + q) = (r.1.map (Fnd.shift xa.length), xa.length + r.2)) ?_ ?_ ?_ ?_ q
  · intro q h
    rw [Rs.wk_end _ _ _ (by rw [List.length_append]; omega)]; rfl
  · intro q r hlt h0 ih
    have hd : (xa ++ bs).drop (xa.length + q) = bs.drop q := by rw [List.drop_append]; simp
    rw [Rs.wk_ok (by rw [List.length_append]; omega) (by rw [hd]; exact h0), hd, show xa.length + q + (Fr.ln (bs.drop q) + 9) = xa.length + (q + (Fr.ln (bs.drop q) + 9)) from by omega, ih]
    rfl
  · rintro q hlt h4 rfl
    have hd : (xa ++ bs).drop (xa.length + q) = bs.drop q := by rw [List.drop_append]; simp
    rw [Rs.wk_short (by rw [List.length_append]; omega) (by rw [hd]; exact h4)]
    rfl
  · intro q r hlt h0 h4 ih
    have hd : (xa ++ bs).drop (xa.length + q) = bs.drop q := by rw [List.drop_append]; simp
    rw [Rs.wk_no (by rw [List.length_append]; omega) (by rw [hd]; exact h0) (by rw [hd]; exact h4), show xa.length + q + 1 = xa.length + (q + 1) from by omega, ih]
theorem Rs.split (xa bs : List UInt8) (h : (Rs.wk false xa 0).2 = xa.length) : Rs.wk false (xa ++ bs) 0 = ((Rs.wk false xa 0).1 ++ (Rs.wk false bs 0).1.map (Fnd.shift xa.length), xa.length + (Rs.wk false bs 0).2) := by
  rw [Rs.grow xa bs 0 (Nat.zero_le _), h]
  have hs := Rs.shift false xa bs 0
  rw [Nat.add_zero] at hs
  rw [hs]
end Go.Proofs.Ytnfodgjihdoncaa
