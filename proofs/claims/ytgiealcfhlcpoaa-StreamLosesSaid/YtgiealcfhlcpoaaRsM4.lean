/- What is found of a stream: sums, what isn't known yet, junk, a frame in a frame. -/
import Derived.Test.YtgiealcfhlcpoaaRsMa
import Derived.Test.YtgiealcfhlcpoaaRsPass
set_option linter.unusedVariables false
namespace Go.Proofs.Ytgiealcfhlcpoaa
open Go.RowKit
/-- How many bytes frames have, in all. -/
def Rs.tot (l : List Fnd) : Nat := (l.map Fnd.size).sum
theorem Rs.tot_snoc (l : List Fnd) (f : Fnd) : Rs.tot (l ++ [f]) = Rs.tot l + f.size := by unfold Rs.tot; simp
theorem Rs.psum_app (a b : List (Nat × Nat)) : Rs.psum (a ++ b) = Rs.psum a + Rs.psum b := by unfold Rs.psum; simp
theorem Rs.psum_gap (b e : Nat) : Rs.psum (Rs.gap b e) = e - b := by
  unfold Rs.gap Rs.psum
  split
  · simp
  · simp; omega
/-- Gaps and frames are all bytes. -/
theorem Rs.psum_tot' (fin : Bool) (bs : List UInt8) (q : Nat) : ∀ s : List (Nat × Nat) × Nat, s.2 ≤ q → Rs.psum ((Rs.wk fin bs q).1.foldl Rs.gstep s).1 + Rs.psum (Rs.gap ((Rs.wk fin bs q).1.foldl Rs.gstep s).2 (Rs.wk fin bs q).2) + Rs.tot (Rs.wk fin bs q).1 + s.2 = Rs.psum s.1 + (Rs.wk fin bs q).2 := by
  refine Rs.wk_ind fin bs (fun q r => ∀ s : List (Nat × Nat) × Nat, s.2 ≤ q → Rs.psum (r.1.foldl Rs.gstep s).1 + Rs.psum (Rs.gap (r.1.foldl Rs.gstep s).2 r.2) + Rs.tot r.1 + s.2 = Rs.psum s.1 + r.2) ?_ ?_ ?_ ?_ q
  · intro q hq s hs
    simp only [List.foldl_nil, Rs.psum_gap, Rs.tot, List.map_nil, List.sum_nil]; omega
  · intro q r hlt h0 ih s hs
    have hsz : (⟨q, Fr.ty (bs.drop q), Fr.pl (bs.drop q)⟩ : Fnd).size = Fr.ln (bs.drop q) + 9 := by unfold Fnd.size; rw [(Rs.ok_mk hlt h0).2.1]
    have h := ih (Rs.gstep s ⟨q, Fr.ty (bs.drop q), Fr.pl (bs.drop q)⟩) (by unfold Rs.gstep; simp only; rw [hsz]; omega)
    simp only [List.foldl_cons]
    have ht : Rs.tot (⟨q, Fr.ty (bs.drop q), Fr.pl (bs.drop q)⟩ :: r.1) = (Fr.ln (bs.drop q) + 9) + Rs.tot r.1 := by unfold Rs.tot; rw [List.map_cons, List.sum_cons, hsz]
    rw [ht]
    have h1 : (Rs.gstep s ⟨q, Fr.ty (bs.drop q), Fr.pl (bs.drop q)⟩).2 = q + (Fr.ln (bs.drop q) + 9) := by unfold Rs.gstep; simp only; rw [hsz]
    have h2 : Rs.psum (Rs.gstep s ⟨q, Fr.ty (bs.drop q), Fr.pl (bs.drop q)⟩).1 = Rs.psum s.1 + (q - s.2) := by unfold Rs.gstep; simp only; rw [Rs.psum_app, Rs.psum_gap]
    rw [h1, h2] at h
    generalize Rs.psum (List.foldl Rs.gstep (Rs.gstep s ⟨q, Fr.ty (bs.drop q), Fr.pl (bs.drop q)⟩) r.1).1 = x1 at *
    generalize Rs.psum (Rs.gap (List.foldl Rs.gstep (Rs.gstep s ⟨q, Fr.ty (bs.drop q), Fr.pl (bs.drop q)⟩) r.1).2 r.2) = x2 at *
    omega
  · intro q hlt h4 hf s hs
    simp only [List.foldl_nil, Rs.psum_gap, Rs.tot, List.map_nil, List.sum_nil]; omega
  · intro q r hlt h0 h4 ih s hs
    exact ih s (by omega)
theorem Rs.psum_tot (fin : Bool) (bs : List UInt8) : Rs.psum (Rs.gaps (Rs.wk fin bs 0).1 (Rs.wk fin bs 0).2) + Rs.tot (Rs.wk fin bs 0).1 = (Rs.wk fin bs 0).2 := by
  have h := Rs.psum_tot' fin bs 0 ([], 0) (Nat.le_refl _)
  unfold Rs.gaps Rs.gs
  rw [Rs.psum_app]
  have e : Rs.psum [] = 0 := rfl
  rw [e] at h
  omega
/-- What isn't known yet is short. -/
theorem Rs.wk_known (bs : List UInt8) (q : Nat) (hq : q ≤ bs.length) : (Rs.wk false bs q).2 = bs.length ∨ ((Rs.wk false bs q).2 < bs.length ∧ Fr.rE (bs.drop (Rs.wk false bs q).2) = 4) := by
  refine Rs.wk_ind false bs (fun q r => q ≤ bs.length → r.2 = bs.length ∨ (r.2 < bs.length ∧ Fr.rE (bs.drop r.2) = 4)) ?_ ?_ ?_ ?_ q hq
  · intro q h1 h2; left; exact Nat.le_antisymm h2 h1
  · intro q r hlt h0 ih h
    exact ih (by have := (Rs.ok_mk hlt h0).2.2; omega)
  · intro q hlt h4 _ _
    exact .inr ⟨hlt, h4⟩
  · intro q r hlt h0 h4 ih _
    exact ih (by omega)
/-- Junk in which no frame begins, or could, is passed over. -/
theorem Rs.junk (xs bs : List UInt8) (q : Nat) (hq : q ≤ xs.length) (h : ∀ i, q ≤ i → i < xs.length → Fr.rE ((xs ++ bs).drop i) ≠ 0 ∧ Fr.rE ((xs ++ bs).drop i) ≠ 4) : Rs.wk false (xs ++ bs) q = Rs.wk false (xs ++ bs) xs.length := by
  obtain ⟨k, hk⟩ : ∃ k, xs.length - q = k := ⟨_, rfl⟩
  induction k generalizing q with
  | zero => rw [show q = xs.length from by omega]
  | succ k ih =>
    have h1 := h q (Nat.le_refl _) (by omega)
    rw [Rs.wk_no (by rw [List.length_append]; omega) h1.1 (fun h2 => h1.2 h2.1)]
    exact ih (q + 1) (by omega) (fun i hi hl => h i (by omega) hl) (by omega)
/-- Frames, one behind the other. -/
def Rs.rows : List (UInt8 × List UInt8) → List UInt8
  | [] => []
  | f :: l => Fr.put f.1 f.2 ++ Rs.rows l
theorem Rs.rows_snoc (l : List (UInt8 × List UInt8)) (f : UInt8 × List UInt8) : Rs.rows (l ++ [f]) = Rs.rows l ++ Fr.put f.1 f.2 := by
  induction l with
  | nil => simp [Rs.rows]
  | cons g l ih => simp [Rs.rows, ih]
def Rs.at_ : Nat → List (UInt8 × List UInt8) → List Fnd
  | _, [] => []
  | p, f :: l => ⟨p, f.1, f.2⟩ :: Rs.at_ (p + (f.2.length + 9)) l
theorem Rs.at_len (l : List (UInt8 × List UInt8)) : ∀ p, (Rs.at_ p l).length = l.length := by
  induction l with
  | nil => intro p; rfl
  | cons f l ih => intro p; simp [Rs.at_, ih]
theorem Rs.rows_wk (l : List (UInt8 × List UInt8)) : ∀ xs : List UInt8, (∀ f ∈ l, f.2.length ≤ 8192) → Rs.wk false (xs ++ Rs.rows l) xs.length = (Rs.at_ xs.length l, (xs ++ Rs.rows l).length) := by
  induction l with
  | nil => intro xs _; rw [Rs.wk_end _ _ _ (by simp [Rs.rows])]; simp [Rs.rows, Rs.at_]
  | cons f l ih =>
    intro xs hl
    have hd : (xs ++ Rs.rows (f :: l)).drop xs.length = Fr.put f.1 f.2 ++ Rs.rows l := by rw [List.drop_append]; simp [Rs.rows]
    have h8 := hl f (List.mem_cons_self ..)
    obtain ⟨h0, ht, hpl, hln⟩ := Fr.rE_put f.1 f.2 (Rs.rows l) h8
    have hpn := Fr.put_len f.1 f.2
    have hi := ih (xs ++ Fr.put f.1 f.2) (fun g hg => hl g (List.mem_cons_of_mem _ hg))
    have he : xs ++ Rs.rows (f :: l) = xs ++ Fr.put f.1 f.2 ++ Rs.rows l := by simp [Rs.rows]
    have hlen : (xs ++ Fr.put f.1 f.2).length = xs.length + (f.2.length + 9) := by rw [List.length_append, hpn]
    rw [Rs.wk_ok (by rw [he, List.length_append]; omega) (by rw [hd]; exact h0), hd, ht, hpl, hln, he, ← hlen, hi, hlen]
    rfl
/-- Where the next one stands. -/
theorem Rs.at_get (l : List (UInt8 × List UInt8)) : ∀ (p j : Nat) (hj : j < l.length), (Rs.at_ p l)[j]'(by rw [Rs.at_len]; exact hj) = ⟨p + (Rs.rows (l.take j)).length, l[j].1, l[j].2⟩ := by
  induction l with
  | nil => intro p j hj; exact absurd hj (by simp)
  | cons f l ih =>
    intro p j hj
    cases j with
    | zero => simp [Rs.at_, Rs.rows]
    | succ j =>
      have h := ih (p + (f.2.length + 9)) j (by simpa using hj)
      simp only [Rs.at_, List.getElem_cons_succ, List.take_succ_cons, Rs.rows, List.length_append, Fr.put_len]
      rw [h]
      simp only [Fnd.mk.injEq, and_true]
      omega
/-- What doesn't begin with the first byte begins no frame. -/
theorem Fr.rE_first (x : UInt8) (r : List UInt8) (h : x ≠ 197) : Fr.rE (x :: r) = 3 := by
  have : Fr.hE (x :: r) = 3 := by unfold Fr.hE; simp [h]
  unfold Fr.rE
  rw [this]; rfl
theorem Fr.rE_second (x : UInt8) (r : List UInt8) (h : x ≠ 154) : Fr.rE (197 :: x :: r) = 3 := by
  have : Fr.hE (197 :: x :: r) = 3 := by unfold Fr.hE; simp [h]
  unfold Fr.rE
  rw [this]; rfl
/-- A frame in a frame whose first byte is spoilt. -/
theorem Rs.nested (t o lo hi : UInt8) (p r : List UInt8) (hp : p.length ≤ 8192) (ho : o ≠ 197) (hlo : lo ≠ 197) (hhi : hi ≠ 197) : ∃ l, (Rs.wk false (0 :: 154 :: o :: lo :: hi :: (Fr.put t p ++ r)) 0).1 = ⟨5, t, p⟩ :: l := by
  have h5 := Rs.junk [0, 154, o, lo, hi] (Fr.put t p ++ r) 0 (by simp) (by
    intro i _ hi'
    have : i = 0 ∨ i = 1 ∨ i = 2 ∨ i = 3 ∨ i = 4 := by simp at hi'; omega
    rcases this with rfl | rfl | rfl | rfl | rfl
    · rw [show ([0, 154, o, lo, hi] ++ (Fr.put t p ++ r)).drop 0 = 0 :: (154 :: o :: lo :: hi :: (Fr.put t p ++ r)) from rfl, Fr.rE_first _ _ (by decide)]; decide
    · rw [show ([0, 154, o, lo, hi] ++ (Fr.put t p ++ r)).drop 1 = 154 :: (o :: lo :: hi :: (Fr.put t p ++ r)) from rfl, Fr.rE_first _ _ (by decide)]; decide
    · rw [show ([0, 154, o, lo, hi] ++ (Fr.put t p ++ r)).drop 2 = o :: (lo :: hi :: (Fr.put t p ++ r)) from rfl, Fr.rE_first _ _ ho]; decide
    · rw [show ([0, 154, o, lo, hi] ++ (Fr.put t p ++ r)).drop 3 = lo :: (hi :: (Fr.put t p ++ r)) from rfl, Fr.rE_first _ _ hlo]; decide
    · rw [show ([0, 154, o, lo, hi] ++ (Fr.put t p ++ r)).drop 4 = hi :: (Fr.put t p ++ r) from rfl, Fr.rE_first _ _ hhi]; decide)
  obtain ⟨h0, ht, hpl, hln⟩ := Fr.rE_put t p r hp
  have hpn := Fr.put_len t p
  have he : 0 :: 154 :: o :: lo :: hi :: (Fr.put t p ++ r) = [0, 154, o, lo, hi] ++ (Fr.put t p ++ r) := rfl
  have hd : ([0, 154, o, lo, hi] ++ (Fr.put t p ++ r)).drop 5 = Fr.put t p ++ r := rfl
  rw [he, h5, show ([0, 154, o, lo, hi] : List UInt8).length = 5 from rfl, Rs.wk_ok (by rw [List.length_append, List.length_append, hpn]; simp; omega) (by rw [hd]; exact h0), hd, ht, hpl]
  exact ⟨_, rfl⟩
end Go.Proofs.Ytgiealcfhlcpoaa
