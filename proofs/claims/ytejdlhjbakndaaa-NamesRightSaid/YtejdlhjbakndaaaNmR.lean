/- Names: if nothing is wrong each name stands for one other step: plain lists. -/
import Derived.Test.YtejdlhjbakndaaaNmV
set_option linter.unusedVariables false
namespace Go.Proofs.Ytejdlhjbakndaaa
open Go.RowKit
namespace Nm
theorem srt_none {l : List Dg.D} (h : (Dg.srt l).length = 0) : l = [] := by
  have h0 : Dg.srt l = [] := List.eq_nil_of_length_eq_zero h
  apply List.eq_nil_iff_forall_not_mem.2
  intro z hz
  have := Dg.srt_mem.2 hz
  rw [h0] at this
  cases this
theorem head_ok {D : DfV} (h : chHead D = []) : D.st.xs.length ≠ 0 ∧ rgB D.nm = true := by
  unfold chHead at h
  obtain ⟨h1, h2⟩ := List.append_eq_nil_iff.1 h
  constructor
  · intro e; rw [if_pos e] at h1; cases h1
  · by_cases e : rgB D.nm = true
    · exact e
    · rw [if_neg e] at h2; cases h2
theorem ref_ok (N : List ByteArray) : ∀ (X : List StV) (a : Nat), chRef N a X = [] → ∀ (i : Nat) (hi : i < X.length), chStep N (a + i) X[i] = [] ∧ (mnStep (a + i) X[i].af.xs).flatMap (chMen N X[i].nm) = []
  | [], a, _, i, hi => absurd hi (Nat.not_lt_zero _)
  | x :: r, a, h, i, hi => by
    rw [chRef] at h
    obtain ⟨h1, h2⟩ := List.append_eq_nil_iff.1 h
    cases i with
    | zero => exact List.append_eq_nil_iff.1 h1
    | succ i =>
      have := ref_ok N r (a + 1) h2 i (by simpa using hi)
      simp only [List.getElem_cons_succ]
      rw [show a + (i + 1) = a + 1 + i by omega]
      exact this
theorem step_ok {N : List ByteArray} {i : Nat} {x : StV} (h : chStep N i x = []) : rgB x.nm = true ∧ ¬ ixI N x.nm < (i : Int) := by
  unfold chStep at h
  obtain ⟨h1, h2⟩ := List.append_eq_nil_iff.1 h
  obtain ⟨h3, -⟩ := List.append_eq_nil_iff.1 h1
  obtain ⟨h5, -⟩ := List.append_eq_nil_iff.1 h3
  constructor
  · by_cases e : rgB x.nm = true
    · exact e
    · rw [if_neg e] at h5; cases h5
  · intro e; rw [if_pos e] at h2; cases h2
theorem men_none {N : List ByteArray} {i : Nat} {nm : ByteArray} {l : List ByteArray} (h : (mnStep i l).flatMap (chMen N nm) = []) (k : Nat) (hk : k < l.length) : ix N l[k] < N.length ∧ l[k] ≠ nm ∧ inB (l.take k) l[k] = false := by
  have hm : (i, l[k], inB (l.take k) l[k]) ∈ mnStep i l := by
    unfold mnStep
    refine List.mem_map.2 ⟨k, List.mem_range.2 hk, ?_⟩
    simp [List.getD_eq_getElem?_getD, hk]
  have h0 := List.flatMap_eq_nil_iff.1 h _ hm
  unfold chMen at h0
  simp only at h0
  obtain ⟨h1, h2⟩ := List.append_eq_nil_iff.1 h0
  obtain ⟨h3, h4⟩ := List.append_eq_nil_iff.1 h1
  refine ⟨?_, ?_, ?_⟩
  · by_cases e : ix N l[k] < N.length
    · exact e
    · exfalso
      rw [if_pos (by unfold ixI; rw [if_neg e]; omega)] at h3; cases h3
  · intro e; rw [if_pos e] at h4; cases h4
  · cases hb : inB (l.take k) l[k] with
    | false => rfl
    | true => rw [if_pos hb] at h2; cases h2
/-- All of a definition of which nothing is wrong. -/
structure Rt (D : DfV) : Prop where
  n0 : D.st.xs.length ≠ 0
  nm : rgB D.nm = true
  st : ∀ (i : Nat) (hi : i < D.st.xs.length), rgB D.st.xs[i].nm = true
  un : ∀ (i k : Nat) (hi : i < D.st.xs.length) (hk : k < i), D.st.xs[k].nm ≠ D.st.xs[i].nm
  rl : ∀ (i : Nat) (hi : i < D.st.xs.length), (rfRow (nms D.st.xs) i D.st.xs[i].af.xs).length = D.st.xs[i].af.xs.length
  rf : ∀ (i k : Nat) (hi : i < D.st.xs.length) (hk : k < D.st.xs[i].af.xs.length), ∃ (j : Nat) (hj : j < D.st.xs.length), (rfRow (nms D.st.xs) i D.st.xs[i].af.xs)[k]? = some j ∧ j ≠ i ∧ D.st.xs[j].nm = D.st.xs[i].af.xs[k]
  ms : msAll (nms D.st.xs) D.st.xs = []
theorem rt_of {D : DfV} (h : (Dg.srt (chHead D ++ chRef (nms D.st.xs) 0 D.st.xs)).length = 0) : Rt D := by
  have h0 := srt_none h
  obtain ⟨hh, hr⟩ := List.append_eq_nil_iff.1 h0
  obtain ⟨n0, hnm⟩ := head_ok hh
  have hal := ref_ok (nms D.st.xs) D.st.xs 0 hr
  simp only [Nat.zero_add] at hal
  have hmen := fun (i : Nat) (hi : i < D.st.xs.length) (k : Nat) (hk : k < D.st.xs[i].af.xs.length) => men_none (hal i hi).2 k hk
  have hixn : ∀ (i : Nat) (hi : i < D.st.xs.length) (k : Nat) (hk : k < D.st.xs[i].af.xs.length), ∃ hj : ix (nms D.st.xs) D.st.xs[i].af.xs[k] < D.st.xs.length, D.st.xs[ix (nms D.st.xs) D.st.xs[i].af.xs[k]].nm = D.st.xs[i].af.xs[k] := fun i hi k hk => by
    have h1 := (hmen i hi k hk).1
    have h2 := ix_at h1
    rw [nms_len] at h1
    refine ⟨h1, ?_⟩
    rw [← nms_at D.st.xs _ h1]; exact h2
  have hne : ∀ (i : Nat) (hi : i < D.st.xs.length) (k : Nat) (hk : k < D.st.xs[i].af.xs.length), ix (nms D.st.xs) D.st.xs[i].af.xs[k] ≠ i := fun i hi k hk e => by
    obtain ⟨hj, h2⟩ := hixn i hi k hk
    have h3 := (hmen i hi k hk).2.1
    apply h3
    rw [← h2]
    simp only [e]
  have hrow : ∀ (i : Nat) (hi : i < D.st.xs.length) (k : Nat), k ≤ D.st.xs[i].af.xs.length → rfRow (nms D.st.xs) i (D.st.xs[i].af.xs.take k) = (D.st.xs[i].af.xs.take k).map (ix (nms D.st.xs)) := fun i hi k => by
    induction k with
    | zero => intro _; simp [rfRow]
    | succ k ih =>
      intro hk
      have hk' : k < D.st.xs[i].af.xs.length := by omega
      rw [rf_pro _ _ _ _ hk', if_pos ⟨(hmen i hi k hk').1, hne i hi k hk', (hmen i hi k hk').2.2⟩, ih (by omega), List.take_succ_eq_append_getElem hk', List.map_append]
      rfl
  have hrow2 : ∀ (i : Nat) (hi : i < D.st.xs.length), rfRow (nms D.st.xs) i D.st.xs[i].af.xs = D.st.xs[i].af.xs.map (ix (nms D.st.xs)) := fun i hi => by
    have h1 := hrow i hi D.st.xs[i].af.xs.length (Nat.le_refl _)
    rwa [List.take_of_length_le (Nat.le_refl _)] at h1
  refine ⟨n0, hnm, fun i hi => (step_ok (hal i hi).1).1, fun i k hi hk e => ?_, fun i hi => by rw [hrow2 i hi, List.length_map], fun i k hi hk => ?_, ?_⟩
  · have h1 := (step_ok (hal i hi).1).2
    apply h1
    have hk2 : k < D.st.xs.length := by omega
    have hmem : D.st.xs[i].nm ∈ nms D.st.xs := by rw [← nms_at D.st.xs i hi]; exact List.getElem_mem _
    have hlt := ix_lt.2 hmem
    unfold ixI
    rw [if_pos hlt]
    have hle : ix (nms D.st.xs) D.st.xs[i].nm ≤ k := by
      apply Decidable.byContradiction
      intro hgt
      have := List.not_of_lt_findIdx (p := fun x => decide (x = D.st.xs[i].nm)) (xs := nms D.st.xs) (i := k) (by unfold ix at hgt; omega)
      rw [nms_at D.st.xs k hk2] at this
      simp [e] at this
    omega
  · obtain ⟨hj, h2⟩ := hixn i hi k hk
    exact ⟨_, hj, by rw [hrow2 i hi, List.getElem?_map, List.getElem?_eq_getElem hk]; rfl, hne i hi k hk, h2⟩
  · rw [← msF_all]
    have : ∀ j, j ≤ (mnAll 0 D.st.xs).length → msF (nms D.st.xs) D.st.xs j = [] := fun j => by
      induction j with
      | zero => intro _; rfl
      | succ j ih =>
        intro hj
        obtain ⟨i, k, hi, hk, -, hgd⟩ := mn_get D.st.xs j (by omega)
        rw [msF_next _ _ j (by omega), ih (by omega), hgd]
        unfold msAdd
        rw [if_neg]
        rintro ⟨h1, -⟩
        unfold ixI at h1
        rw [if_pos (hmen i hi k hk).1] at h1
        omega
    exact this _ (Nat.le_refl _)
end Nm
end Go.Proofs.Ytejdlhjbakndaaa
