/- Names: mentions, counted through: plain lists; what the set of them tells. -/
import Derived.Test.YtejdlhjbakndaaaNmC
import Derived.Test.YtejdlhjbakndaaaNmK
set_option linter.unusedVariables false
namespace Go.Proofs.Ytejdlhjbakndaaa
open Go.RowKit
namespace Nm
theorem mnAll_cut : ∀ (X : List StV) (a i : Nat) (hi : i < X.length), mnAll a X = mnAll a (X.take i) ++ (mnStep (a + i) X[i].af.xs ++ mnAll (a + i + 1) (X.drop (i + 1)))
  | [], a, i, h => absurd h (Nat.not_lt_zero _)
  | x :: r, a, 0, _ => by simp [mnAll]
  | x :: r, a, i + 1, h => by
    rw [mnAll, mnAll_cut r (a + 1) i (by simpa using h), List.take_succ_cons, mnAll, List.append_assoc]
    simp only [List.getElem_cons_succ, List.drop_succ_cons]
    rw [show a + 1 + i = a + (i + 1) by omega]
/-- How many mentions stand ahead of a step's. -/
def mnB (X : List StV) (i : Nat) : Nat := (mnAll 0 (X.take i)).length
theorem mnB_next (X : List StV) (i : Nat) (hi : i < X.length) : mnB X (i + 1) = mnB X i + X[i].af.xs.length := by
  unfold mnB
  rw [List.take_succ_eq_append_getElem hi, mnAll_snoc, List.length_append, mnStep_len]
theorem mnB_all (X : List StV) : mnB X X.length = (mnAll 0 X).length := by unfold mnB; rw [List.take_of_length_le (Nat.le_refl _)]
theorem mn_at (X : List StV) (i k : Nat) (hi : i < X.length) (hk : k < X[i].af.xs.length) : ∃ h : mnB X i + k < (mnAll 0 X).length, (mnAll 0 X)[mnB X i + k] = (i, X[i].af.xs[k], inB (X[i].af.xs.take k) X[i].af.xs[k]) := by
  have e := mnAll_cut X 0 i hi
  have hl : mnB X i + k < (mnAll 0 X).length := by
    rw [e, List.length_append, List.length_append, mnStep_len]; unfold mnB; omega
  refine ⟨hl, ?_⟩
  have h1 : (mnAll 0 X)[mnB X i + k]? = some (i, X[i].af.xs[k], inB (X[i].af.xs.take k) X[i].af.xs[k]) := by
    rw [e, List.getElem?_append_right (by unfold mnB; omega), show mnB X i + k - (mnAll 0 (X.take i)).length = k by unfold mnB; omega, List.getElem?_append_left (by rw [mnStep_len]; exact hk)]
    unfold mnStep
    rw [List.getElem?_map, List.getElem?_range hk]
    simp [List.getD_eq_getElem?_getD, List.getElem?_eq_getElem hk]
  rw [List.getElem?_eq_getElem hl] at h1
  exact Option.some.inj h1
/-- A step's After. -/
def afL (X : List StV) (i : Nat) : List ByteArray := ((X[i]?).map fun x => x.af.xs).getD []
theorem afL_at (X : List StV) (i : Nat) (hi : i < X.length) : afL X i = X[i].af.xs := by unfold afL; rw [List.getElem?_eq_getElem hi]; rfl
/-- Does a mention stand among the first so many? -/
def seenB (X : List StV) (i k : Nat) (x : Nat × ByteArray) : Bool := (decide (x.1 < i) && inB (afL X x.1) x.2) || (decide (x.1 = i) && inB ((afL X i).take k) x.2)
theorem seen_zero (X : List StV) (x : Nat × ByteArray) : seenB X 0 0 x = false := by simp [seenB, inB]
theorem seen_here (X : List StV) (i k : Nat) (hi : i < X.length) (s : ByteArray) : seenB X i k (i, s) = inB (X[i].af.xs.take k) s := by
  unfold seenB
  rw [afL_at X i hi]
  simp
theorem seen_next (X : List StV) (i k : Nat) (hi : i < X.length) (hk : k < X[i].af.xs.length) (x : Nat × ByteArray) : seenB X i (k + 1) x = (seenB X i k x || decide ((i, X[i].af.xs[k]) = x)) := by
  obtain ⟨a, s⟩ := x
  unfold seenB
  rw [afL_at X i hi, List.take_succ_eq_append_getElem hk, inB_app]
  by_cases h : a = i
  · subst h; simp
  · have h2 : ¬ i = a := fun e => h e.symm
    simp [h, h2]
theorem seen_step (X : List StV) (i : Nat) (hi : i < X.length) (x : Nat × ByteArray) : seenB X (i + 1) 0 x = seenB X i X[i].af.xs.length x := by
  obtain ⟨a, s⟩ := x
  unfold seenB
  simp only [List.take_zero]
  by_cases h : a = i
  · subst h
    rw [afL_at X a hi]
    simp [inB]
  · by_cases h3 : a < i
    · have h4 : a < i + 1 := by omega
      simp [h, h3, h4, inB]
    · have h4 : ¬ a < i + 1 := by omega
      simp [h, h3, h4, inB]
end Nm
/-- What the set tells. -/
def SnF (X : List StV) (i k : Nat) (D : DataW Unit) : Prop := ∀ (x : Nat × ByteArray) (kl : Lit), keyOf Try.prog 61 (.agg (mnC x).toArray) = some kl → Maps.has D kl = Nm.seenB X i k x
theorem SnF.put {X : List StV} {i k : Nat} {D : DataW Unit} (h : SnF X i k D) (hi : i < X.length) (hk : k < X[i].af.xs.length) (kl : Lit) (hkl : keyOf Try.prog 61 (.agg (mnC (i, X[i].af.xs[k])).toArray) = some kl) (hM : Maps.IsMap D) (d : DataW Unit) : SnF X i (k + 1) (D.put kl d) := fun y kl' hk' => by
  rw [Nm.seen_next X i k hi hk]
  by_cases he : kl' = kl
  · subst he
    have hx := mnLaw.inj hk' hkl
    have hyx : y = (i, X[i].af.xs[k]) := by
      obtain ⟨a, b⟩ := y
      simp [mnC] at hx
      obtain ⟨r1, r2⟩ := hx
      rw [r2, show a = i by omega]
    rw [Maps.has_put_same hM (mnLaw.key hkl), hyx]
    simp
  · have hne : ¬ (i, X[i].af.xs[k]) = y := fun e => he (by rw [← e] at hk'; exact Option.some.inj (hk'.symm.trans hkl))
    rw [Maps.has_put_other he, h y kl' hk']
    simp [hne]
end Go.Proofs.Ytejdlhjbakndaaa
