/- Names: mentions, one by one: what the first so many tell: plain lists. -/
import Derived.Test.YtejdlhjbakndaaaNmI
import Derived.Test.YtejdlhjbakndaaaNmB
set_option linter.unusedVariables false
namespace Go.Proofs.Ytejdlhjbakndaaa
open Go.RowKit
namespace Nm
theorem mnStep_fst (i : Nat) (l : List ByteArray) : ∀ t ∈ mnStep i l, t.1 = i := by
  intro t ht
  unfold mnStep at ht
  obtain ⟨k, -, rfl⟩ := List.mem_map.1 ht
  rfl
theorem mnStep_names (i : Nat) (l : List ByteArray) : (mnStep i l).map (fun t => t.2.1) = l := by
  unfold mnStep
  rw [List.map_map]
  apply List.ext_getElem
  · simp
  · intro k h1 h2
    simp [List.getD_eq_getElem?_getD, h2]
theorem mnAll_fst : ∀ (X : List StV) (a : Nat), ∀ t ∈ mnAll a X, a ≤ t.1 ∧ t.1 < a + X.length
  | [], a, t, h => by simp [mnAll] at h
  | x :: r, a, t, h => by
    rw [mnAll, List.mem_append] at h
    rcases h with h | h
    · have := mnStep_fst a x.af.xs t h; simp; omega
    · have := mnAll_fst r (a + 1) t h; simp; omega
/-- Where a mention stands. -/
theorem mn_get (X : List StV) : ∀ (j : Nat), j < (mnAll 0 X).length → ∃ (i k : Nat) (hi : i < X.length) (hk : k < X[i].af.xs.length), j = mnB X i + k ∧ (mnAll 0 X).getD j (0, ⟨#[]⟩, false) = (i, X[i].af.xs[k], inB (X[i].af.xs.take k) X[i].af.xs[k]) := by
  have hw : ∀ (n : Nat) (hn : n ≤ X.length) (j : Nat), j < mnB X n → ∃ (i k : Nat) (hi : i < X.length) (hk : k < X[i].af.xs.length), j = mnB X i + k := by
    intro n
    induction n with
    | zero => intro hn j hj; simp [mnB, mnAll] at hj
    | succ n ih =>
      intro hn j hj
      have hn' : n < X.length := by omega
      rw [mnB_next X n hn'] at hj
      by_cases h : j < mnB X n
      · exact ih (by omega) j h
      · exact ⟨n, j - mnB X n, hn', by omega, by omega⟩
  intro j hj
  obtain ⟨i, k, hi, hk, he⟩ := hw X.length (Nat.le_refl _) j (by rw [mnB_all]; exact hj)
  refine ⟨i, k, hi, hk, he, ?_⟩
  obtain ⟨h1, h2⟩ := mn_at X i k hi hk
  subst he
  rw [List.getD_eq_getElem?_getD, List.getElem?_eq_getElem h1, h2]; rfl
theorem mnAll_le : ∀ (X : List StV) (a : Nat), (∀ x ∈ X, x.af.xs.length ≤ 70) → (mnAll a X).length ≤ 70 * X.length
  | [], a, _ => by simp [mnAll]
  | x :: r, a, h => by
    have h1 := h x (by simp)
    have h2 := mnAll_le r (a + 1) (fun y hy => h y (List.mem_cons_of_mem _ hy))
    rw [mnAll, List.length_append, mnStep_len, List.length_cons]; omega
/-- What the program asks of one name, what the document asks: alike. -/
theorem ms_pro (N acc : List ByteArray) (s : ByteArray) : msAdd N acc s = if inB (N ++ acc) s = true then acc else acc ++ [s] := by
  have e : inB (N ++ acc) s = (inB N s || inB acc s) := by unfold inB; rw [List.any_append]
  rw [e]
  unfold msAdd ixI
  by_cases h : s ∈ N
  · have := ix_lt.2 h
    rw [inB_yes h, if_pos this, if_neg (by omega)]
    simp
  · have hn : ¬ ix N s < N.length := fun g => h (ix_lt.1 g)
    rw [inB_no h, if_neg hn]
    by_cases h2 : inB acc s = true
    · simp [h2]
    · simp [h2]
def msF (N : List ByteArray) (X : List StV) (j : Nat) : List ByteArray := ((mnAll 0 X).take j).foldl (fun a m => msAdd N a m.2.1) []
theorem msF_zero (N : List ByteArray) (X : List StV) : msF N X 0 = [] := rfl
theorem msF_next (N : List ByteArray) (X : List StV) (j : Nat) (hj : j < (mnAll 0 X).length) : msF N X (j + 1) = msAdd N (msF N X j) ((mnAll 0 X).getD j (0, ⟨#[]⟩, false)).2.1 := by
  unfold msF
  rw [List.take_succ_eq_append_getElem hj, List.foldl_append, List.getD_eq_getElem?_getD, List.getElem?_eq_getElem hj]; rfl
theorem msF_len (N : List ByteArray) (X : List StV) : ∀ j, (msF N X j).length ≤ j
  | 0 => by simp [msF]
  | j + 1 => by
    have h := msF_len N X j
    by_cases hj : j < (mnAll 0 X).length
    · rw [msF_next N X j hj]
      have := msAdd_len N (msF N X j) ((mnAll 0 X).getD j (0, ⟨#[]⟩, false)).2.1
      omega
    · have e : msF N X (j + 1) = msF N X j := by unfold msF; rw [List.take_of_length_le (by omega), List.take_of_length_le (by omega)]
      rw [e]; omega
theorem ms_fold (N : List ByteArray) : ∀ (X : List StV) (a : Nat) (acc : List ByteArray), (mnAll a X).foldl (fun a m => msAdd N a m.2.1) acc = X.foldl (fun a x => msRow N a x.af.xs) acc
  | [], a, acc => rfl
  | x :: r, a, acc => by
    rw [mnAll, List.foldl_append, List.foldl_cons, ms_fold N r]
    congr 1
    unfold msRow
    rw [← List.foldl_map (f := fun t : Nat × ByteArray × Bool => t.2.1) (g := fun a s => msAdd N a s), mnStep_names]
theorem msF_all (N : List ByteArray) (X : List StV) : msF N X (mnAll 0 X).length = msAll N X := by
  unfold msF msAll
  rw [List.take_of_length_le (Nat.le_refl _), ms_fold]
/-- The names that stand in a step's After among the first mentions. -/
def ahd (X : List StV) (j i : Nat) : List ByteArray := (((mnAll 0 X).take j).filter (fun t => decide (t.1 = i))).map (fun t => t.2.1)
theorem flt_step (i : Nat) (l : List ByteArray) (k : Nat) : ((mnStep i l).take k).filter (fun t => decide (t.1 = i)) = (mnStep i l).take k := by
  apply List.filter_eq_self.2
  intro t ht
  simp [mnStep_fst i l t (List.mem_of_mem_take ht)]
theorem flt_none (X : List StV) (a i : Nat) (h : ∀ t ∈ mnAll a X, t.1 ≠ i) : (mnAll a X).filter (fun t => decide (t.1 = i)) = [] := by
  apply List.filter_eq_nil_iff.2
  intro t ht
  simp [h t ht]
theorem ahd_at (X : List StV) (i k : Nat) (hi : i < X.length) (hk : k ≤ X[i].af.xs.length) : ahd X (mnB X i + k) i = X[i].af.xs.take k := by
  unfold ahd
  have e := mnAll_cut X 0 i hi
  rw [Nat.zero_add] at e
  rw [e, List.take_append, show mnB X i + k - (mnAll 0 (X.take i)).length = k by unfold mnB; omega, List.take_of_length_le (by unfold mnB; omega), List.take_append, show k - (mnStep i X[i].af.xs).length = 0 by rw [mnStep_len]; omega, List.take_zero, List.append_nil, List.filter_append, flt_none, List.nil_append, flt_step, List.map_take, mnStep_names]
  intro t ht hh
  have := mnAll_fst _ _ t ht
  rw [List.length_take] at this
  omega
theorem ahd_all (X : List StV) (i : Nat) (hi : i < X.length) : ahd X (mnAll 0 X).length i = X[i].af.xs := by
  unfold ahd
  have e := mnAll_cut X 0 i hi
  rw [Nat.zero_add] at e
  rw [List.take_of_length_le (Nat.le_refl _), e, List.filter_append, List.filter_append, flt_none, flt_none, List.append_nil, List.nil_append]
  · have h := flt_step i X[i].af.xs (mnStep i X[i].af.xs).length
    rw [List.take_of_length_le (Nat.le_refl _)] at h
    rw [h, mnStep_names]
  · intro t ht hh
    have := mnAll_fst _ _ t ht
    omega
  · intro t ht hh
    have := mnAll_fst _ _ t ht
    rw [List.length_take] at this
    omega
theorem ahd_next (X : List StV) (j i : Nat) (hj : j < (mnAll 0 X).length) : ahd X (j + 1) i = if ((mnAll 0 X).getD j (0, ⟨#[]⟩, false)).1 = i then ahd X j i ++ [((mnAll 0 X).getD j (0, ⟨#[]⟩, false)).2.1] else ahd X j i := by
  unfold ahd
  rw [List.take_succ_eq_append_getElem hj, List.getD_eq_getElem?_getD, List.getElem?_eq_getElem hj, List.filter_append, List.map_append]
  by_cases h : (mnAll 0 X)[j].1 = i
  · simp [h]
  · simp [h]
/-- Rows of references behind the first mentions. -/
def rfF (N : List ByteArray) (X : List StV) (j : Nat) : List (List Nat) := (List.range X.length).map fun i => rfRow N i (ahd X j i)
theorem rfF_len (N : List ByteArray) (X : List StV) (j : Nat) : (rfF N X j).length = X.length := by simp [rfF]
theorem rfF_at (N : List ByteArray) (X : List StV) (j i : Nat) (hi : i < X.length) : (rfF N X j)[i]'(by rw [rfF_len]; exact hi) = rfRow N i (ahd X j i) := by simp [rfF]
/-- All rows. -/
def rfAll (N : List ByteArray) : Nat → List StV → List (List Nat)
  | _, [] => []
  | i, x :: r => rfRow N i x.af.xs :: rfAll N (i + 1) r
theorem rfAll_len (N : List ByteArray) : ∀ (X : List StV) (a : Nat), (rfAll N a X).length = X.length
  | [], a => rfl
  | x :: r, a => by rw [rfAll, List.length_cons, rfAll_len N r, List.length_cons]
theorem rfAll_at (N : List ByteArray) : ∀ (X : List StV) (a i : Nat) (hi : i < X.length), (rfAll N a X)[i]'(by rw [rfAll_len]; exact hi) = rfRow N (a + i) X[i].af.xs
  | [], a, i, h => absurd h (Nat.not_lt_zero _)
  | x :: r, a, 0, _ => rfl
  | x :: r, a, i + 1, h => by
    have := rfAll_at N r (a + 1) i (by simpa using h)
    simp only [rfAll, List.getElem_cons_succ]
    rw [this, show a + 1 + i = a + (i + 1) by omega]
theorem rfF_all (N : List ByteArray) (X : List StV) : rfF N X (mnAll 0 X).length = rfAll N 0 X := by
  apply List.ext_getElem
  · rw [rfF_len, rfAll_len]
  · intro i h1 h2
    have hi : i < X.length := by rw [rfF_len] at h1; exact h1
    rw [rfF_at N X _ i hi, ahd_all X i hi, rfAll_at N X 0 i hi, Nat.zero_add]
theorem rfF_zero (N : List ByteArray) (X : List StV) : rfF N X 0 = List.replicate X.length [] := by
  apply List.ext_getElem
  · rw [rfF_len, List.length_replicate]
  · intro i h1 h2
    have hi : i < X.length := by rw [rfF_len] at h1; exact h1
    rw [rfF_at N X _ i hi]
    simp [ahd, rfRow]
/-- One mention more. -/
theorem rfF_next (N : List ByteArray) (X : List StV) (i k : Nat) (hi : i < X.length) (hk : k < X[i].af.xs.length) :
    rfF N X (mnB X i + k + 1) = if ix N X[i].af.xs[k] < N.length ∧ ix N X[i].af.xs[k] ≠ i ∧ inB (X[i].af.xs.take k) X[i].af.xs[k] = false then (rfF N X (mnB X i + k)).set i ((rfF N X (mnB X i + k)).getD i [] ++ [ix N X[i].af.xs[k]]) else rfF N X (mnB X i + k) := by
  obtain ⟨h1, h2⟩ := mn_at X i k hi hk
  have hd : (mnAll 0 X).getD (mnB X i + k) (0, ⟨#[]⟩, false) = (i, X[i].af.xs[k], inB (X[i].af.xs.take k) X[i].af.xs[k]) := by
    rw [List.getD_eq_getElem?_getD, List.getElem?_eq_getElem h1, h2]; rfl
  have hat := ahd_at X i k hi (Nat.le_of_lt hk)
  have hrow := rf_pro N i X[i].af.xs k hk
  have hs : ∀ i', i' ≠ i → ahd X (mnB X i + k + 1) i' = ahd X (mnB X i + k) i' := fun i' hne => by
    rw [ahd_next X _ i' h1, hd, if_neg (fun e => hne e.symm)]
  have hs2 : ahd X (mnB X i + k + 1) i = X[i].af.xs.take (k + 1) := by
    have := ahd_at X i (k + 1) hi hk
    rw [← Nat.add_assoc] at this
    exact this
  have hgd : (rfF N X (mnB X i + k)).getD i [] = rfRow N i (X[i].af.xs.take k) := by
    rw [List.getD_eq_getElem?_getD, List.getElem?_eq_getElem (by rw [rfF_len]; exact hi), rfF_at N X _ i hi, hat]; rfl
  apply List.ext_getElem
  · split
    · rw [List.length_set, rfF_len, rfF_len]
    · rw [rfF_len, rfF_len]
  · intro i' g1 g2
    have hi' : i' < X.length := by rw [rfF_len] at g1; exact g1
    rw [rfF_at N X _ i' hi']
    by_cases he : i' = i
    · subst he
      rw [hs2, hrow]
      split
      · rw [List.getElem_set_self, hgd]
      · rw [rfF_at N X _ i' hi', hat]
    · rw [hs i' he]
      split
      · rw [List.getElem_set_ne (fun e => he e.symm), rfF_at N X _ i' hi']
      · rw [rfF_at N X _ i' hi']
end Nm
/-- What a map of names tells of which. -/
def PlH (N : List ByteArray) (D : DataW Unit) : Prop := ∀ (x : ByteArray) (kl : Lit), keyOf Try.prog 9 (.string x) = some kl → Maps.has D kl = Nm.inB N x
theorem PlF.plH {N : List ByteArray} {D : DataW Unit} (h : PlF N D) : PlH N D := fun x kl hk => (h x kl hk).1
theorem PlH.put {N : List ByteArray} {D : DataW Unit} (h : PlH N D) (x : ByteArray) (kl : Lit) (hk : keyOf Try.prog 9 (.string x) = some kl) (hM : Maps.IsMap D) (d : DataW Unit) : PlH (N ++ [x]) (D.put kl d) := fun y kl' hk' => by
  by_cases he : kl' = kl
  · subst he
    have hv := plKeyed.inj hk' hk
    have hyx : y = x := by injection hv
    subst hyx
    rw [Maps.has_put_same hM (plKeyed.key hk), Nm.inB_app]; simp
  · have hne : ¬ x = y := fun e => he (by rw [← e] at hk'; exact Option.some.inj (hk'.symm.trans hk))
    rw [Maps.has_put_other he, h y kl' hk', Nm.inB_app]; simp [hne]
end Go.Proofs.Ytejdlhjbakndaaa
