/- What is found of a stream: in order; each byte is passed over or a frame's. -/
import Derived.Test.YtgiealcfhlcpoaaRsM4
set_option linter.unusedVariables false
namespace Go.Proofs.Ytgiealcfhlcpoaa
open Go.RowKit
theorem w64_in (n : Int) (h : -9223372036854775808 ≤ n ∧ n ≤ 9223372036854775807) : wrap64 n = n := by unfold wrap64; omega
/-- Frames in order, from a place on, up to a place. -/
def Rs.ord : Nat → List Fnd → Nat → Prop
  | p, [], E => p ≤ E
  | p, f :: l, E => p ≤ f.at_ ∧ Rs.ord (f.at_ + f.size) l E
theorem Rs.ord_mono {p q E : Nat} {l : List Fnd} (h : Rs.ord q l E) (hp : p ≤ q) : Rs.ord p l E := by
  cases l with
  | nil => exact Nat.le_trans hp h
  | cons f l => exact ⟨Nat.le_trans hp h.1, h.2⟩
theorem Rs.ord_le {E : Nat} (l : List Fnd) : ∀ p, Rs.ord p l E → p ≤ E := by
  induction l with
  | nil => intro p h; exact h
  | cons f l ih => intro p h; have := ih _ h.2; have := h.1; omega
theorem Rs.wk_ord (fin : Bool) (bs : List UInt8) (q : Nat) : Rs.ord q (Rs.wk fin bs q).1 (Rs.wk fin bs q).2 := by
  refine Rs.wk_ind fin bs (fun q r => Rs.ord q r.1 r.2) ?_ ?_ ?_ ?_ q
  · intro q _; exact Nat.le_refl _
  · intro q r hlt h0 ih
    have hsz : (⟨q, Fr.ty (bs.drop q), Fr.pl (bs.drop q)⟩ : Fnd).size = Fr.ln (bs.drop q) + 9 := by unfold Fnd.size; rw [(Rs.ok_mk hlt h0).2.1]
    exact ⟨Nat.le_refl _, by rw [hsz]; exact ih⟩
  · intro q _ _ _; exact Nat.le_refl _
  · intro q r _ _ _ ih; exact Rs.ord_mono ih (by omega)
/-- What is found is the bytes there. -/
theorem Rs.ok_put {bs : List UInt8} {f : Fnd} (h : Rs.ok bs f) : ((bs.drop f.at_).take (f.pl.length + 9)) = Fr.put f.ty f.pl ∧ f.pl.length ≤ 8192 ∧ f.at_ + (f.pl.length + 9) ≤ bs.length := by
  obtain ⟨h0, h1, h2, h3⟩ := h
  obtain ⟨e1, e2, e3, e4⟩ := Fr.rE_ok h0
  rw [← h2] at e2
  refine ⟨?_, by omega, h3⟩
  rw [e1, ← h1, ← h2]
  exact List.take_left' (by rw [Fr.put_len])
def Rs.in1 (b e k : Nat) : Nat := if b ≤ k ∧ k < e then 1 else 0
/-- In how many gaps, and frames, a byte lies. -/
def Rs.cg (l : List (Nat × Nat)) (k : Nat) : Nat := (l.map fun g => Rs.in1 g.1 g.2 k).sum
def Rs.cf (l : List Fnd) (k : Nat) : Nat := (l.map fun f => Rs.in1 f.at_ (f.at_ + f.size) k).sum
theorem Rs.cg_snoc (l : List (Nat × Nat)) (g : Nat × Nat) (k : Nat) : Rs.cg (l ++ [g]) k = Rs.cg l k + Rs.in1 g.1 g.2 k := by unfold Rs.cg; simp
theorem Rs.cf_snoc (l : List Fnd) (f : Fnd) (k : Nat) : Rs.cf (l ++ [f]) k = Rs.cf l k + Rs.in1 f.at_ (f.at_ + f.size) k := by unfold Rs.cf; simp
theorem Rs.cg_app (a b : List (Nat × Nat)) (k : Nat) : Rs.cg (a ++ b) k = Rs.cg a k + Rs.cg b k := by unfold Rs.cg; simp
theorem Rs.cg_gap (b e k : Nat) : Rs.cg (Rs.gap b e) k = Rs.in1 b e k := by
  unfold Rs.gap Rs.cg Rs.in1
  split
  · simp
  · rw [if_neg (by omega)]; rfl
theorem Rs.in1_self (b k : Nat) : Rs.in1 b b k = 0 := by unfold Rs.in1; rw [if_neg (by omega)]
theorem Rs.in1_succ (b e k : Nat) (h : b ≤ e) : Rs.in1 b (e + 1) k = Rs.in1 b e k + (if k = e then 1 else 0) := by
  unfold Rs.in1
  split
  · split
    · rw [if_neg (by omega)]
    · rw [if_pos (by omega)]
  · rw [if_neg (by omega), if_neg (by omega)]
theorem Rs.in1_join (a b c k : Nat) (h1 : a ≤ b) (h2 : b ≤ c) : Rs.in1 a b k + Rs.in1 b c k = Rs.in1 a c k := by
  unfold Rs.in1
  by_cases h : k < b
  · by_cases ha : a ≤ k
    · rw [if_pos ⟨ha, h⟩, if_neg (by omega), if_pos (by omega)]
    · rw [if_neg (by omega), if_neg (by omega), if_neg (by omega)]
  · by_cases hc : k < c
    · rw [if_neg (by omega), if_pos (by omega), if_pos (by omega)]
    · rw [if_neg (by omega), if_neg (by omega), if_neg (by omega)]
/-- Gaps and frames are all bytes, each once. -/
theorem Rs.once' (fin : Bool) (bs : List UInt8) (k q : Nat) : ∀ s : List (Nat × Nat) × Nat, s.2 ≤ q → Rs.cg ((Rs.wk fin bs q).1.foldl Rs.gstep s).1 k + Rs.cg (Rs.gap ((Rs.wk fin bs q).1.foldl Rs.gstep s).2 (Rs.wk fin bs q).2) k + Rs.cf (Rs.wk fin bs q).1 k + Rs.in1 0 s.2 k = Rs.cg s.1 k + Rs.in1 0 (Rs.wk fin bs q).2 k := by
  refine Rs.wk_ind fin bs (fun q r => ∀ s : List (Nat × Nat) × Nat, s.2 ≤ q → Rs.cg (r.1.foldl Rs.gstep s).1 k + Rs.cg (Rs.gap (r.1.foldl Rs.gstep s).2 r.2) k + Rs.cf r.1 k + Rs.in1 0 s.2 k = Rs.cg s.1 k + Rs.in1 0 r.2 k) ?_ ?_ ?_ ?_ q
  · intro q hq s hs
    have := Rs.in1_join 0 s.2 q k (by omega) hs
    simp only [List.foldl_nil, Rs.cg_gap, Rs.cf, List.map_nil, List.sum_nil]; omega
  · intro q r hlt h0 ih s hs
    have hsz : (⟨q, Fr.ty (bs.drop q), Fr.pl (bs.drop q)⟩ : Fnd).size = Fr.ln (bs.drop q) + 9 := by unfold Fnd.size; rw [(Rs.ok_mk hlt h0).2.1]
    have h := ih (Rs.gstep s ⟨q, Fr.ty (bs.drop q), Fr.pl (bs.drop q)⟩) (by unfold Rs.gstep; simp only; rw [hsz]; omega)
    simp only [List.foldl_cons]
    have ht : Rs.cf (⟨q, Fr.ty (bs.drop q), Fr.pl (bs.drop q)⟩ :: r.1) k = Rs.in1 q (q + (Fr.ln (bs.drop q) + 9)) k + Rs.cf r.1 k := by unfold Rs.cf; rw [List.map_cons, List.sum_cons, hsz]
    rw [ht]
    have h1 : (Rs.gstep s ⟨q, Fr.ty (bs.drop q), Fr.pl (bs.drop q)⟩).2 = q + (Fr.ln (bs.drop q) + 9) := by unfold Rs.gstep; simp only; rw [hsz]
    have h2 : Rs.cg (Rs.gstep s ⟨q, Fr.ty (bs.drop q), Fr.pl (bs.drop q)⟩).1 k = Rs.cg s.1 k + Rs.in1 s.2 q k := by unfold Rs.gstep; simp only; rw [Rs.cg_app, Rs.cg_gap]
    rw [h1, h2] at h
    have j1 := Rs.in1_join 0 s.2 q k (by omega) hs
    have j2 := Rs.in1_join 0 q (q + (Fr.ln (bs.drop q) + 9)) k (by omega) (by omega)
    generalize Rs.cg (List.foldl Rs.gstep (Rs.gstep s ⟨q, Fr.ty (bs.drop q), Fr.pl (bs.drop q)⟩) r.1).1 k = x1 at *
    generalize Rs.cg (Rs.gap (List.foldl Rs.gstep (Rs.gstep s ⟨q, Fr.ty (bs.drop q), Fr.pl (bs.drop q)⟩) r.1).2 r.2) k = x2 at *
    omega
  · intro q hlt h4 hf s hs
    have := Rs.in1_join 0 s.2 q k (by omega) hs
    simp only [List.foldl_nil, Rs.cg_gap, Rs.cf, List.map_nil, List.sum_nil]; omega
  · intro q r hlt h0 h4 ih s hs
    exact ih s (by omega)
theorem Rs.once (fin : Bool) (bs : List UInt8) (k : Nat) : Rs.cg (Rs.gaps (Rs.wk fin bs 0).1 (Rs.wk fin bs 0).2) k + Rs.cf (Rs.wk fin bs 0).1 k = Rs.in1 0 (Rs.wk fin bs 0).2 k := by
  have h := Rs.once' fin bs k 0 ([], 0) (Nat.le_refl _)
  unfold Rs.gaps Rs.gs
  rw [Rs.cg_app]
  have e : Rs.cg [] k = 0 := rfl
  rw [e] at h
  have e2 : Rs.in1 0 0 k = 0 := Rs.in1_self 0 k
  simp only [e2] at h
  omega
/-- Gaps lie apart. -/
def Rs.apart : Nat → List (Nat × Nat) → Prop
  | _, [] => True
  | p, g :: l => p ≤ g.1 ∧ Rs.apart (g.2 + 1) l
theorem Rs.apart_mono {p q : Nat} {l : List (Nat × Nat)} (h : Rs.apart q l) (hp : p ≤ q) : Rs.apart p l := by
  cases l with
  | nil => trivial
  | cons f l => exact ⟨Nat.le_trans hp h.1, h.2⟩
/-- Gaps, written from the front. -/
def Rs.gl : Nat → List Fnd → Nat → List (Nat × Nat)
  | p, [], E => Rs.gap p E
  | p, f :: l, E => Rs.gap p f.at_ ++ Rs.gl (f.at_ + f.size) l E
theorem Rs.gl_eq (l : List Fnd) (E : Nat) : ∀ s : List (Nat × Nat) × Nat, (l.foldl Rs.gstep s).1 ++ Rs.gap (l.foldl Rs.gstep s).2 E = s.1 ++ Rs.gl s.2 l E := by
  induction l with
  | nil => intro s; rfl
  | cons f l ih => intro s; rw [List.foldl_cons, ih]; simp [Rs.gl, Rs.gstep]
theorem Rs.gaps_gl (l : List Fnd) (E : Nat) : Rs.gaps l E = Rs.gl 0 l E := by
  have := Rs.gl_eq l E ([], 0)
  unfold Rs.gaps Rs.gs
  simpa using this
theorem Rs.gap_apart (p e : Nat) (l : List (Nat × Nat)) (hp : p ≤ e) (h : Rs.apart (e + 1) l) : Rs.apart p (Rs.gap p e ++ l) := by
  unfold Rs.gap
  split
  · exact ⟨Nat.le_refl _, h⟩
  · exact Rs.apart_mono h (by omega)
theorem Rs.gl_apart (l : List Fnd) (E : Nat) : ∀ p, Rs.ord p l E → Rs.apart p (Rs.gl p l E) := by
  induction l with
  | nil =>
    intro p h
    have := Rs.gap_apart p E [] h trivial
    rwa [List.append_nil] at this
  | cons f l ih =>
    intro p h
    exact Rs.gap_apart p f.at_ _ h.1 (Rs.apart_mono (ih _ h.2) (by unfold Fnd.size; omega))
theorem Rs.apart_get {l : List (Nat × Nat)} : ∀ {p : Nat}, Rs.apart p l → ∀ (i : Nat) (h : i + 1 < l.length), l[i].2 < l[i + 1].1 := by
  induction l with
  | nil => intro p _ i h; exact absurd h (by simp)
  | cons g l ih =>
    intro p hp i h
    cases i with
    | zero =>
      cases l with
      | nil => exact absurd h (by simp)
      | cons g2 l => exact hp.2.1
    | succ i =>
      have := ih hp.2 i (by simpa using h)
      simpa using this
theorem Rs.gaps_apart (fin : Bool) (bs : List UInt8) : Rs.apart 0 (Rs.gaps (Rs.wk fin bs 0).1 (Rs.wk fin bs 0).2) := by
  rw [Rs.gaps_gl]
  exact Rs.gl_apart _ _ 0 (Rs.wk_ord fin bs 0)
/-- A row of counts. -/
def cntA (n : Nat) (f : Nat → Nat) : List Value := (List.range n).map fun k => .int .i64 (f k : Int)
theorem cntA_len (n : Nat) (f : Nat → Nat) : (cntA n f).length = n := by simp [cntA]
theorem cntA_get {n : Nat} {f : Nat → Nat} {k : Nat} (h : k < n) : (cntA n f)[k]? = some (.int .i64 (f k : Int)) := by simp [cntA, h]
theorem cntA_set (n : Nat) (f : Nat → Nat) (k : Nat) : (cntA n f).set k (.int .i64 ((f k + 1 : Nat) : Int)) = cntA n (fun j => if j = k then f j + 1 else f j) := by
  apply List.ext_getElem?
  intro j
  by_cases hj : j < n
  · rw [List.getElem?_set]
    by_cases e : k = j
    · subst e
      rw [if_pos rfl, if_pos (by rw [cntA_len]; exact hj), cntA_get hj, if_pos rfl]
    · rw [if_neg e, cntA_get hj, cntA_get hj, if_neg (fun h => e h.symm)]
  · rw [List.getElem?_eq_none (by rw [List.length_set, cntA_len]; omega), List.getElem?_eq_none (by rw [cntA_len]; omega)]
theorem cntA_zero (n : Nat) : List.replicate n (.int .i64 0 : Value) = cntA n (fun _ => 0) := by
  apply List.ext_getElem?
  intro j
  by_cases hj : j < n
  · rw [cntA_get hj]; simp [hj]
  · rw [List.getElem?_eq_none (by simp; omega), List.getElem?_eq_none (by rw [cntA_len]; omega)]
end Go.Proofs.Ytgiealcfhlcpoaa
