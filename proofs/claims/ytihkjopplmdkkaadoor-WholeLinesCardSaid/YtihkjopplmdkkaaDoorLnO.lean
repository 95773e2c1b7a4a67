/- Lines that came in; how long what is put together is. -/
import Derived.Test.YtihkjopplmdkkaaDoorLnK
import Derived.Test.YtihkjopplmdkkaaDoorM3
set_option linter.unusedVariables false
namespace Go.Proofs.YtihkjopplmdkkaaDoor
open Go.ChangeShapes Go.WideShapes Go.ChangeAt Go.RowKit
theorem len3 {α : Type} {cs : List α} (h : cs.length = 3) : ∃ a b c, cs = [a, b, c] := by
  cases cs with
  | nil => simp at h
  | cons a r => cases r with
    | nil => simp at h
    | cons b r => cases r with
      | nil => simp at h
      | cons c r => cases r with
        | nil => exact ⟨a, b, c, rfl⟩
        | cons d r => simp at h
theorem opens_three {P : Program} {W : World} {t : TypeId} {α β γ : Type} {f0 f1 f2 : Field} {e0 : α → Value} {ok0 : α → Prop} {e1 : β → Value} {ok1 : β → Prop} {e2 : γ → Value} {ok2 : γ → Prop} (ht : P.underlying t = some (.struct #[f0, f1, f2]))
    (o0 : f0.offset = 0) (o1 : f1.offset = 1) (o2 : f2.offset = 2) (c0 : P.cellsOf f0.type = 1) (c1 : P.cellsOf f1.type = 1) (c2 : P.cellsOf f2.type = 1) (hC : P.cellsOf t = 3)
    (h0 : Opens P W f0.type (fun a => [e0 a]) ok0) (h1 : Opens P W f1.type (fun a => [e1 a]) ok1) (h2 : Opens P W f2.type (fun a => [e2 a]) ok2) :
    Opens P W t (fun p : α × β × γ => [e0 p.1, e1 p.2.1, e2 p.2.2]) (fun p => ok0 p.1 ∧ ok1 p.2.1 ∧ ok2 p.2.2) := by
  intro H en base spare held fuel cs x h
  obtain ⟨xs, n, _, _, hl, hlen, hf⟩ := DataW.trod_struct ht h
  have g0 := hf 0 f0 rfl
  have g1 := hf 1 f1 rfl
  have g2 := hf 2 f2 rfl
  rw [o0, c0, List.drop_zero, List.getElem?_eq_getElem (by rw [hlen]; show 0 < 3; omega)] at g0
  rw [o1, c1, List.getElem?_eq_getElem (by rw [hlen]; show 1 < 3; omega)] at g1
  rw [o2, c2, List.getElem?_eq_getElem (by rw [hlen]; show 2 < 3; omega)] at g2
  obtain ⟨a, ha, hoa⟩ := h0 _ _ _ _ _ _ _ _ g0
  obtain ⟨b, hb, hob⟩ := h1 _ _ _ _ _ _ _ _ g1
  obtain ⟨c, hc, hoc⟩ := h2 _ _ _ _ _ _ _ _ g2
  obtain ⟨x0, x1, x2, rfl⟩ := len3 (hl.trans hC)
  refine ⟨(a, b, c), ?_, hoa, hob, hoc⟩
  have ha' : x0 = e0 a := by simpa using ha
  have hb' : x1 = e1 b := by simpa using hb
  have hc' : x2 = e2 c := by simpa using hc
  rw [ha', hb', hc']
theorem openLn (W : World) : Opens Tryd.prog W 39 lcI (fun r => True) :=
  (opens_three (e0 := fun n : Int => .int .i64 n) (e1 := fun n : Int => .int .i64 n) (e2 := fun s : ByteArray => .string s) Tryd.underlying39 rfl rfl rfl (by kernel_rfl) (by kernel_rfl) (by kernel_rfl) (by kernel_rfl)
    (opens_int Tryd.underlying3) (opens_int Tryd.underlying3) (opens_string Tryd.underlying9)).map
    (fun p => (p.1, p.2.1, p.2.2.data.toList)) fun p hp => ⟨by simp only [lcI], trivial⟩
theorem lcI_len (r : Int × Int × List UInt8) : (lcI r).length = 3 := rfl
/-- How long lines are, each with its line feed. -/
def smL (X : List (List UInt8)) : Nat := (X.map fun l => l.length + 1).sum
theorem smL_cons (l : List UInt8) (X : List (List UInt8)) : smL (l :: X) = l.length + 1 + smL X := by simp [smL]
theorem smL_app (X Y : List (List UInt8)) : smL (X ++ Y) = smL X + smL Y := by simp [smL]
theorem lns_sum (n : Nat) (bs : List UInt8) (hn : bs.length ≤ n) : smL (lnsL bs) ≤ bs.length + 1 := by
  induction n generalizing bs with
  | zero =>
    obtain rfl : bs = [] := List.eq_nil_of_length_eq_zero (by omega)
    rw [spl_nil]; simp [smL]
  | succ n ih =>
    cases bs with
    | nil => rw [spl_nil]; simp [smL]
    | cons c r =>
      have hlt := lnB_lt c r
      rw [spl_cons, smL_cons]
      rcases ln_ways (c :: r) with ⟨h1, h2, -⟩ | ⟨h1, -⟩
      · rw [h1, h2, spl_nil]; simp [smL]
      · have h3 := congrArg List.length h1
        rw [List.length_append, List.length_cons (a := (10 : UInt8))] at h3
        have := ih (lnB (c :: r)) (by simp at hn; omega)
        omega
theorem yR_sum (bs : List UInt8) (j : Nat) (hj : j ≤ (lnsL bs).length) : smL (yR bs j) ≤ smL ((lnsL bs).take j) := by
  induction j with
  | zero => simp [yR, smL]
  | succ j ih =>
    have := ih (by omega)
    rw [yR, List.take_succ_eq_append_getElem (by omega), smL_app, smL_app]
    have hat : atLn bs j = (lnsL bs)[j] := by unfold atLn; rw [List.getD_eq_getElem?_getD, List.getElem?_eq_getElem (by omega)]; rfl
    rw [hat]
    have hs := stripL_le (lnsL bs)[j]
    split
    · simp [smL]; simp [smL] at this; omega
    · simp only [smL_cons]; omega
theorem flat_sm (X : List (List UInt8)) : (X.flatMap fun l => l ++ [10]).length = smL X := by
  induction X with
  | nil => rfl
  | cons l r ih => rw [List.flatMap_cons, List.length_append, ih, smL_cons]; simp
theorem jn_len {bs : List UInt8} {X : List (Nat × Nat × List UInt8)} {a : Int} (h : allL bs = (X, 0, a)) (hc : ∀ r ∈ X, r.2.1 ≤ 100) : (jnL X).length ≤ bs.length + 1 := by
  obtain ⟨-, -, rfl, -⟩ := allL_zero h
  rw [jn_yR hc, flat_sm]
  have h1 := yR_sum bs (lnsL bs).length (Nat.le_refl _)
  rw [List.take_of_length_le (Nat.le_refl _)] at h1
  have := lns_sum bs.length bs (Nat.le_refl _)
  omega
/-- What a line has is no longer than the text. -/
theorem row_le {bs : List UInt8} {r : Nat × Nat × List UInt8} (h : r ∈ (allL bs).1) : r.2.2.length ≤ bs.length ∧ r.2.1 ≤ bs.length := by
  have key : ∀ j, r ∈ acR bs j → r.2.2.length ≤ bs.length ∧ r.2.1 ≤ bs.length := fun j => by
    induction j with
    | zero => intro h; simp [acR] at h
    | succ j ih =>
      intro h
      rw [acR] at h
      rcases List.mem_append.1 h with h | h
      · exact ih h
      · unfold lnOne at h
        split at h
        · simp at h
        · obtain rfl := List.mem_singleton.1 h
          have h1 := stripL_le (atLn bs j)
          have h2 := tlB_le (stripL (atLn bs j))
          have h3 := atLn_le bs j
          simp only
          omega
  unfold allL at h
  split at h
  · simp at h
  · split at h
    · simp at h
    · exact key _ h
theorem allL_bad {bs : List UInt8} {X : List (Nat × Nat × List UInt8)} {er at' : Int} (h : allL bs = (X, er, at')) (hne : er ≠ 0) : X = [] := by
  unfold allL at h
  split at h
  · injection h with h; exact h.symm
  · split at h
    · injection h with h; exact h.symm
    · injection h with _ h; injection h with h; exact absurd h.symm hne
end Go.Proofs.YtihkjopplmdkkaaDoor
