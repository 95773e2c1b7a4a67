/- A stream of which one frame has lost some bytes: mathematics. -/
import Derived.Test.YtabklpgimjmdlaaJnAll
set_option linter.unusedVariables false
namespace Go.Proofs.Ytabklpgimjmdlaa
open Go.RowKit
theorem Lo.skip (fin : Bool) (xs js bs : List UInt8) (hc : Jn.clean js) : Rs.wk fin (xs ++ (js ++ bs)) xs.length = Rs.wk fin (xs ++ (js ++ bs)) (xs ++ js).length := by
  induction js generalizing xs with
  | nil => simp
  | cons x js ih =>
    have hd : (xs ++ ((x :: js) ++ bs)).drop xs.length = x :: (js ++ bs) := by rw [List.drop_append]; simp
    have h3 := Fr.rE_first x (js ++ bs) (hc x (List.mem_cons_self ..))
    have hi := ih (xs ++ [x]) (fun y hy => hc y (List.mem_cons_of_mem _ hy))
    rw [Rs.wk_no (by simp) (by rw [hd, h3]; omega) (by rw [hd, h3]; omega)]
    have he : xs ++ ((x :: js) ++ bs) = xs ++ [x] ++ (js ++ bs) := by simp
    rw [he]
    rw [show xs.length + 1 = (xs ++ [x]).length by simp, hi]
    simp
theorem Lo.rows (fin : Bool) (l : List (UInt8 × List UInt8)) (R : List UInt8) : ∀ xs : List UInt8, (∀ f ∈ l, f.2.length ≤ 8192) → (Rs.wk fin (xs ++ (Rs.rows l ++ R)) xs.length).1 = Rs.at_ xs.length l ++ (Rs.wk fin (xs ++ (Rs.rows l ++ R)) (xs ++ Rs.rows l).length).1 := by
  induction l with
  | nil => intro xs _; simp [Rs.rows, Rs.at_]
  | cons f l ih =>
    intro xs hl
    have hd : (xs ++ (Rs.rows (f :: l) ++ R)).drop xs.length = Fr.put f.1 f.2 ++ (Rs.rows l ++ R) := by rw [List.drop_append]; simp [Rs.rows]
    have h8 := hl f (List.mem_cons_self ..)
    obtain ⟨h0, ht, hpl, hln⟩ := Fr.rE_put f.1 f.2 (Rs.rows l ++ R) h8
    have hpn := Fr.put_len f.1 f.2
    have hi := ih (xs ++ Fr.put f.1 f.2) (fun g hg => hl g (List.mem_cons_of_mem _ hg))
    have he : xs ++ (Rs.rows (f :: l) ++ R) = xs ++ Fr.put f.1 f.2 ++ (Rs.rows l ++ R) := by simp [Rs.rows]
    have hlen : (xs ++ Fr.put f.1 f.2).length = xs.length + (f.2.length + 9) := by rw [List.length_append, hpn]
    rw [Rs.wk_ok (by rw [he, List.length_append]; omega) (by rw [hd]; exact h0), hd, ht, hpl, hln, he, ← hlen]
    simp only
    rw [hi, hlen]
    simp [Rs.at_, Rs.rows]
/-- What is left of a frame of which some bytes are lost. -/
def Lo.left (f : UInt8 × List UInt8) (fr n : Nat) : List UInt8 := (Fr.put f.1 f.2).take fr ++ (Fr.put f.1 f.2).drop (fr + n)
theorem Lo.lost (a c : List (UInt8 × List UInt8)) (f : UInt8 × List UInt8) (fr n : Nat) (ha : ∀ g ∈ a, g.2.length ≤ 8192) (hc : ∀ g ∈ c, g.2.length ≤ 8192) (hf : Jn.clean ((Fr.put f.1 f.2).drop 1)) (hn : 1 ≤ n) :
    (∃ g ∈ (Rs.wk true (Rs.rows a ++ (Lo.left f fr n ++ Rs.rows c)) 0).1, g.at_ = (Rs.rows a).length ∧ 0 < fr) ∨ (Rs.wk true (Rs.rows a ++ (Lo.left f fr n ++ Rs.rows c)) 0).1 = Rs.at_ 0 a ++ Rs.at_ (Rs.rows a ++ Lo.left f fr n).length c := by
  have h1 := Lo.rows true a (Lo.left f fr n ++ Rs.rows c) [] ha
  simp only [List.nil_append, List.length_nil] at h1
  have h3 := Lo.rows true c [] (Rs.rows a ++ Lo.left f fr n) hc
  rw [List.append_nil, Rs.wk_end true _ ((Rs.rows a ++ Lo.left f fr n) ++ Rs.rows c).length (by simp), List.append_nil, List.append_assoc] at h3
  have key : ∀ D : List UInt8, Jn.clean (D.drop 1) → (0 < fr ∨ Jn.clean D) → Lo.left f fr n = D → (∃ g ∈ (Rs.wk true (Rs.rows a ++ (D ++ Rs.rows c)) 0).1, g.at_ = (Rs.rows a).length ∧ 0 < fr) ∨ (Rs.wk true (Rs.rows a ++ (D ++ Rs.rows c)) (Rs.rows a).length).1 = (Rs.wk true (Rs.rows a ++ (D ++ Rs.rows c)) (Rs.rows a ++ D).length).1 := by
    intro D hd1 hor hD
    rw [hD] at h1
    by_cases hcl : Jn.clean D
    · exact .inr (by rw [Lo.skip true _ D _ hcl])
    · have hfr : 0 < fr := hor.resolve_right hcl
      cases D with
      | nil => exact absurd (fun x hx => by simp at hx) hcl
      | cons x D' =>
        have hlt : (Rs.rows a).length < (Rs.rows a ++ ((x :: D') ++ Rs.rows c)).length := by simp
        by_cases h0 : Fr.rE ((Rs.rows a ++ ((x :: D') ++ Rs.rows c)).drop (Rs.rows a).length) = 0
        · refine .inl ⟨⟨(Rs.rows a).length, Fr.ty ((Rs.rows a ++ ((x :: D') ++ Rs.rows c)).drop (Rs.rows a).length), Fr.pl ((Rs.rows a ++ ((x :: D') ++ Rs.rows c)).drop (Rs.rows a).length)⟩, ?_, rfl, hfr⟩
          rw [h1, Rs.wk_ok hlt h0]
          simp
        · refine .inr ?_
          rw [Rs.wk_no hlt h0 (by simp)]
          have he : Rs.rows a ++ ((x :: D') ++ Rs.rows c) = (Rs.rows a ++ [x]) ++ (D' ++ Rs.rows c) := by simp
          have hs := Lo.skip true (Rs.rows a ++ [x]) D' (Rs.rows c) (by simpa using hd1)
          rw [he, show (Rs.rows a).length + 1 = (Rs.rows a ++ [x]).length by simp, hs]
          simp
  have hcd : ∀ x ∈ (Fr.put f.1 f.2).drop 1, x ≠ 197 := hf
  have hleft1 : Jn.clean ((Lo.left f fr n).drop 1) := by
    intro x hx
    unfold Lo.left at hx
    by_cases h0 : fr = 0
    · subst h0
      rw [List.take_zero, List.nil_append, List.drop_drop] at hx
      exact hcd x (by
        have : (Fr.put f.1 f.2).drop (0 + n + 1) = ((Fr.put f.1 f.2).drop 1).drop n := by rw [List.drop_drop]; congr 1; omega
        rw [this] at hx
        exact List.mem_of_mem_drop hx)
    · rw [List.drop_append] at hx
      rcases List.mem_append.1 hx with hx | hx
      · rw [List.drop_take] at hx
        exact hcd x (List.mem_of_mem_take hx)
      · have hx := List.mem_of_mem_drop hx
        have : (Fr.put f.1 f.2).drop (fr + n) = ((Fr.put f.1 f.2).drop 1).drop (fr + n - 1) := by rw [List.drop_drop]; congr 1; omega
        rw [this] at hx
        exact hcd x (List.mem_of_mem_drop hx)
  have hor : 0 < fr ∨ Jn.clean (Lo.left f fr n) := by
    by_cases h0 : fr = 0
    · refine .inr ?_
      subst h0
      intro x hx
      unfold Lo.left at hx
      rw [List.take_zero, List.nil_append] at hx
      have : (Fr.put f.1 f.2).drop (0 + n) = ((Fr.put f.1 f.2).drop 1).drop (n - 1) := by rw [List.drop_drop]; congr 1; omega
      rw [this] at hx
      exact hcd x (List.mem_of_mem_drop hx)
    · exact .inl (by omega)
  rcases key _ hleft1 hor rfl with h | h
  · exact .inl h
  · refine .inr ?_
    rw [h1, h, h3]
/-- What is found, frame by frame, wherever it is. -/
theorem Lo.get (a c : List (UInt8 × List UInt8)) (p q j : Nat) (hj : j < (a ++ c).length) : ∃ P, (Rs.at_ p a ++ Rs.at_ q c)[j]'(by rw [List.length_append, Rs.at_len, Rs.at_len, ← List.length_append]; exact hj) = ⟨P, (a ++ c)[j].1, (a ++ c)[j].2⟩ := by
  by_cases h : j < a.length
  · refine ⟨p + (Rs.rows (a.take j)).length, ?_⟩
    rw [List.getElem_append_left (by rw [Rs.at_len]; exact h), Rs.at_get a p j h]
    simp only [List.getElem_append_left h]
  · have hj' : j - a.length < c.length := by rw [List.length_append] at hj; omega
    refine ⟨q + (Rs.rows (c.take (j - a.length))).length, ?_⟩
    rw [List.getElem_append_right (by rw [Rs.at_len]; omega)]
    have h2 := Rs.at_get c q (j - a.length) hj'
    simp only [Rs.at_len] at h2 ⊢
    rw [h2]
    simp only [List.getElem_append_right (Nat.le_of_not_lt h)]
end Go.Proofs.Ytabklpgimjmdlaa
