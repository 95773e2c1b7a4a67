/- Names: what is wrong with a definition's: plain lists. -/
import Derived.Test.YtejdlhjbakndaaaNmM
import Derived.Test.YtejdlhjbakndaaaDgMath
set_option linter.unusedVariables false
namespace Go.Proofs.Ytejdlhjbakndaaa
open Go.RowKit
namespace Nm
/-- A step's mentions: its number, the name, whether it stood there already. -/
def mnStep (i : Nat) (l : List ByteArray) : List (Nat × ByteArray × Bool) := (List.range l.length).map fun k => (i, l.getD k ⟨#[]⟩, inB (l.take k) (l.getD k ⟨#[]⟩))
def mnAll : Nat → List StV → List (Nat × ByteArray × Bool)
  | _, [] => []
  | i, x :: r => mnStep i x.af.xs ++ mnAll (i + 1) r
theorem mnStep_len (i : Nat) (l : List ByteArray) : (mnStep i l).length = l.length := by simp [mnStep]
theorem mnAll_snoc (X : List StV) (x : StV) : ∀ i, mnAll i (X ++ [x]) = mnAll i X ++ mnStep (i + X.length) x.af.xs := by
  induction X with
  | nil => intro i; simp [mnAll]
  | cons y r ih => intro i; rw [List.cons_append, mnAll, ih, mnAll, List.append_assoc, List.length_cons, show i + 1 + r.length = i + (r.length + 1) by omega]
/-- What is wrong with a step's own names. -/
def chStep (N : List ByteArray) (i : Nat) (x : StV) : List Dg.D :=
  (if rgB x.nm then [] else [((i : Int), 18, x.nm)]) ++ (if rgB x.ac then [] else [((i : Int), 18, x.ac)]) ++ (if x.un.size ≠ 0 ∧ rgB x.un = false then [((i : Int), 18, x.un)] else []) ++ (if ixI N x.nm < (i : Int) then [((i : Int), 6, x.nm)] else [])
/-- What is wrong with a mention. -/
def chMen (N : List ByteArray) (nm : ByteArray) (m : Nat × ByteArray × Bool) : List Dg.D :=
  (if ixI N m.2.1 < 0 then [((m.1 : Int), 5, m.2.1)] else []) ++ (if m.2.1 = nm then [((m.1 : Int), 8, m.2.1)] else []) ++ (if m.2.2 = true then [((m.1 : Int), 6, m.2.1)] else [])
def chHead (D : DfV) : List Dg.D := (if D.st.xs.length = 0 then [(-1, 17, ⟨#[]⟩)] else []) ++ (if rgB D.nm then [] else [(-1, 18, D.nm)])
/-- The document's order. -/
def chRef (N : List ByteArray) : Nat → List StV → List Dg.D
  | _, [] => []
  | i, x :: r => chStep N i x ++ (mnStep i x.af.xs).flatMap (chMen N x.nm) ++ chRef N (i + 1) r
/-- The program's: the steps first, the mentions then. -/
def chA (N : List ByteArray) : Nat → List StV → List Dg.D
  | _, [] => []
  | i, x :: r => chStep N i x ++ chA N (i + 1) r
def chB (N : List ByteArray) : Nat → List StV → List Dg.D
  | _, [] => []
  | i, x :: r => (mnStep i x.af.xs).flatMap (chMen N x.nm) ++ chB N (i + 1) r
theorem ch_mem (N : List ByteArray) (d : Dg.D) : ∀ (X : List StV) (i : Nat), d ∈ chRef N i X ↔ d ∈ chA N i X ∨ d ∈ chB N i X
  | [], i => by simp [chRef, chA, chB]
  | x :: r, i => by
    rw [chRef, chA, chB, List.mem_append, List.mem_append, List.mem_append, List.mem_append, ch_mem N d r (i + 1)]
    constructor
    · rintro ((h | h) | (h | h))
      · exact .inl (.inl h)
      · exact .inr (.inl h)
      · exact .inl (.inr h)
      · exact .inr (.inr h)
    · rintro ((h | h) | (h | h))
      · exact .inl (.inl h)
      · exact .inr (.inl h)
      · exact .inl (.inr h)
      · exact .inr (.inr h)
/-- Sorted, both are alike. -/
theorem ch_srt (D : DfV) : Dg.srt (chHead D ++ chA (nms D.st.xs) 0 D.st.xs ++ chB (nms D.st.xs) 0 D.st.xs) = Dg.srt (chHead D ++ chRef (nms D.st.xs) 0 D.st.xs) := by
  apply Dg.srt_ext
  intro d
  rw [List.mem_append, List.mem_append, List.mem_append, ch_mem]
  constructor
  · rintro ((h | h) | h)
    · exact .inl h
    · exact .inr (.inl h)
    · exact .inr (.inr h)
  · rintro (h | h | h)
    · exact .inl (.inl h)
    · exact .inl (.inr h)
    · exact .inr h
/-- All mentions, with their step's own name. -/
theorem chB_all (N : List ByteArray) : ∀ (X : List StV) (i : Nat), (∀ j (hj : j < X.length), N[i + j]? = some X[j].nm) → chB N i X = (mnAll i X).flatMap fun m => chMen N (N.getD m.1 ⟨#[]⟩) m
  | [], i, _ => by simp [chB, mnAll]
  | x :: r, i, h => by
    have h0 := h 0 (by simp)
    rw [chB, mnAll, List.flatMap_append, chB_all N r (i + 1) (fun j hj => by have := h (j + 1) (by simpa using hj); rw [show i + (j + 1) = i + 1 + j by omega] at this; simpa using this)]
    congr 1
    have hx : N.getD i ⟨#[]⟩ = x.nm := by rw [List.getD_eq_getElem?_getD, show i = i + 0 from rfl, h0]; rfl
    unfold mnStep
    rw [List.flatMap_map, List.flatMap_map]
    congr 1
    funext k
    simp only
    rw [hx]
theorem nms_getQ (X : List StV) (j : Nat) (hj : j < X.length) : (nms X)[0 + j]? = some X[j].nm := by
  rw [Nat.zero_add, List.getElem?_eq_getElem (by rw [nms_len]; exact hj), nms_at X j hj]
end Nm
end Go.Proofs.Ytejdlhjbakndaaa
