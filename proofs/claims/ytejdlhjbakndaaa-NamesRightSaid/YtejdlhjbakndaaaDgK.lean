/- A finding as a map's key; a row of findings. -/
import Derived.Test.YtejdlhjbakndaaaDgB
import Derived.Maps.OwnSet
import Derived.DeepKeys4
set_option linter.unusedVariables false
namespace Go.Proofs.Ytejdlhjbakndaaa
open Go.RowKit
theorem Try.infoDg : (Try.prog.info? 53).map (fun i => (i.zero, i.size, i.bytes)) = some (some (.agg #[.int .i64 0, .int .i64 0, .string ⟨#[]⟩]), 3, 32) := by kernel_rfl
/-- What a finding must be: its numbers are ints, its text has a length. -/
def DOk (x : Dg.D) : Prop := (-9223372036854775808 ≤ x.1 ∧ x.1 ≤ 9223372036854775807) ∧ (-9223372036854775808 ≤ x.2.1 ∧ x.2.1 ≤ 9223372036854775807) ∧ x.2.2.size ≤ 9223372036854775807
theorem dgLaidOut : laidOutB Try.prog = true := by kernel_rfl
theorem dgLaw : Maps.Keyed Try.prog 53 :=
  Maps.Keyed.of_law (deep_law_laid dgLaidOut (m := 4) (by omega) (of_decide_eq_true (by kernel_rfl)) (by kernel_rfl) (by kernel_rfl))
theorem dgZero (w : World) : (zeroValue 77).run Try.prog w = .ok (.agg #[]) w := by kernel_rfl
theorem dgKey (x : Dg.D) (h : DOk x) : ∃ kl, keyOf Try.prog 53 (.agg (dC x).toArray) = some kl := by
  obtain ⟨s, e, t⟩ := x
  obtain ⟨⟨h1, h2⟩, ⟨h3, h4⟩, h5⟩ := h
  simp only at h1 h2 h3 h4 h5
  refine ⟨.string (keyBytes [.int .i64 s, .int .i64 e, .string t.data.toList]), ?_⟩
  have c0 : Try.prog.cellsOf 53 = 3 := by kernel_rfl
  have c1 : Try.prog.cellsOf 3 = 1 := by kernel_rfl
  have c2 : Try.prog.cellsOf 51 = 1 := by kernel_rfl
  have c3 : Try.prog.cellsOf 9 = 1 := by kernel_rfl
  have hkt : Try.prog.keyType 53 = true := by kernel_rfl
  have w1 : (Lit.int .i64 s).wf = true := WalkArith.wf_i64 ⟨h1, h2⟩
  have w2 : (Lit.int .i64 e).wf = true := WalkArith.wf_i64 ⟨h3, h4⟩
  obtain ⟨m, hm⟩ : ∃ m, Try.prog.types.size = m + 1 := Nat.exists_eq_succ_of_ne_zero (of_decide_eq_true (by kernel_rfl))
  have hl : Try.prog.keyLits (Try.prog.types.size + 1) 53 [.int .i64 s, .int .i64 e, .string t] = some [.int .i64 s, .int .i64 e, .string t.data.toList] := by
    rw [hm]
    simp [Program.keyLits, Try.underlying53, Try.underlying3, Try.underlying51, Try.underlying9, c0, c1, c2, c3, w1, w2, maxLen, h5]
  have hf : (Value.agg (dC (s, e, t)).toArray).formed Try.prog 53 = true := by simp [Value.formed, Try.underlying53, c0, dC]
  unfold keyOf
  rw [Try.underlying53]
  simp only
  rw [hkt, hf, if_pos (by rfl)]
  show Option.map _ (Try.prog.keyLits _ _ [.int .i64 s, .int .i64 e, .string t]) = _
  rw [hl]
  rfl
theorem flatN {α : Type} (f : α → List Value) (m : Nat) (hf : ∀ x, (f x).length = m) : ∀ (X : List α) (k : Nat) (hk : k < X.length) (i : Nat), i < m → (X.flatMap f)[k * m + i]? = (f X[k])[i]?
  | [], k, hk, _, _ => by simp at hk
  | x :: X, 0, _, i, hi => by
    rw [List.flatMap_cons, List.getElem?_append_left (by rw [hf]; omega)]; simp
  | x :: X, k + 1, hk, i, hi => by
    rw [List.flatMap_cons, List.getElem?_append_right (by rw [hf, Nat.succ_mul]; omega), hf, show (k + 1) * m + i - m = k * m + i by rw [Nat.succ_mul]; omega]
    exact flatN f m hf X k (by simpa using hk) i hi
/-- One of a row. -/
theorem dRow_at {w : World} {A : Option Addr} {n c : Nat} {X : List Dg.D} (h : SlN w A n c 3 (X.flatMap dC)) (k : Nat) (hk : k < X.length) : ∃ g o, A = some ⟨g, o, none⟩ ∧ g < w.heap.size ∧ w.cell? ⟨g, o + k * 3, none⟩ = some (.int .i64 X[k].1) ∧ w.cell? ⟨g, o + k * 3 + 1, none⟩ = some (.int .i64 X[k].2.1) ∧ w.cell? ⟨g, o + k * 3 + 2, none⟩ = some (.string X[k].2.2) := by
  have hf : ∀ i (hi : i < 3), (X.flatMap dC)[k * 3 + i]? = (dC X[k])[i]? := fun i hi => flatN dC 3 (fun _ => rfl) X k hk i hi
  obtain ⟨g, o, h1, h2, h3⟩ := h.rd (k * 3 + 0) _ (hf 0 (by omega))
  obtain ⟨g', o', h4, h5, h6⟩ := h.rd (k * 3 + 1) _ (hf 1 (by omega))
  obtain ⟨g'', o'', h7, h8, h9⟩ := h.rd (k * 3 + 2) _ (hf 2 (by omega))
  have e1 := h1.symm.trans h4
  have e2 := h1.symm.trans h7
  injection e1 with e1
  injection e1 with e1 e1'
  injection e2 with e2
  injection e2 with e2 e2'
  subst e1 e1' e2 e2'
  exact ⟨g, o, h1, h2, h3, h6, h9⟩
theorem dflat_len (X : List Dg.D) : (X.flatMap dC).length = X.length * 3 := by
  induction X with
  | nil => rfl
  | cons x X ih => rw [List.flatMap_cons, List.length_append, ih, dC_len, List.length_cons]; omega
theorem dflat_one (X : List Dg.D) : ∀ v ∈ X.flatMap dC, v.oneCell' = true := fun v hv => by
  obtain ⟨x, -, h⟩ := List.mem_flatMap.1 hv
  exact dC_one x v h
end Go.Proofs.Ytejdlhjbakndaaa
