/- What was put is a text, and clean: plain mathematics of layers 17 and 18. -/
import Derived.Test.YtihkjopplmdkkaaDoorLnU
set_option linter.unusedVariables false
namespace Go.Proofs.YtihkjopplmdkkaaDoor
open Go.RowKit
theorem VT_ascii {l : List UInt8} (h : ∀ c ∈ l, c.toNat < 128) : VT l := by
  induction l with
  | nil => exact VT_nil
  | cons c r ih => exact VT_app (VT_one (h c (List.mem_cons_self ..))) (ih fun d hd => h d (List.mem_cons_of_mem _ hd))
theorem hx_lt (n : Nat) (h : n < 16) : (hxD n).toNat < 128 ∧ hidN (hxD n).toNat = false := by
  have : ∀ k : Fin 16, (hxD k.1).toNat < 128 ∧ hidN (hxD k.1).toNat = false := by decide +kernel
  exact this ⟨n, h⟩
theorem qB_ascii {c : UInt8} (h : c.toNat < 128) : ∀ d ∈ qB c, d.toNat < 128 := by
  unfold qB
  split
  · intro d hd; simp at hd; rcases hd with rfl | rfl; decide; exact h
  · split
    · decide
    · split
      · decide
      · split
        · obtain ⟨a1, -⟩ := hx_lt (c.toNat / 16) (by omega)
          obtain ⟨b1, -⟩ := hx_lt (c.toNat % 16) (by omega)
          intro d hd
          simp at hd
          rcases hd with rfl | rfl | rfl | rfl
          · decide
          · decide
          · exact a1
          · exact b1
        · intro d hd; simp at hd; rw [hd]; exact h
theorem qB_big {c : UInt8} (h : 128 ≤ c.toNat) : qB c = [c] := by
  unfold qB
  rw [if_neg (by omega), if_neg (by omega), if_neg (by omega), if_neg (by simp [hidN]; omega)]
theorem qB_clean (c : UInt8) : ∀ d ∈ qB c, hidN d.toNat = false := by
  unfold qB
  split
  · rename_i h
    intro d hd
    simp at hd
    rcases hd with rfl | rfl
    · decide
    · rcases h with h | h <;> rw [h] <;> decide
  · split
    · decide
    · split
      · decide
      · split
        · have hc := c.toNat_lt
          obtain ⟨-, a1⟩ := hx_lt (c.toNat / 16) (by omega)
          obtain ⟨-, b1⟩ := hx_lt (c.toNat % 16) (by omega)
          intro d hd
          simp at hd
          rcases hd with rfl | rfl | rfl | rfl
          · decide
          · decide
          · exact a1
          · exact b1
        · rename_i h; intro d hd; simp at hd; rw [hd]; simpa using h
theorem pu_clean (t : List UInt8) : dirtyL (puL t) = false := by
  unfold dirtyL puL
  rw [List.any_eq_false]
  split
  · rename_i h
    have h' : plF 0 t = t.length := by unfold plB at h; simp at h; exact h.2
    have key : ∀ (j : Nat) (l : List UInt8), plF j l = l.length → ∀ c ∈ l, ¬ hidN c.toNat = true := fun j l => by
      induction l generalizing j with
      | nil => simp
      | cons c r ih =>
        intro h
        cases hp : pkN j c.toNat with
        | false => rw [plF_stop hp] at h; simp at h
        | true =>
          rw [plF_more hp] at h
          intro d hd
          rcases List.mem_cons.1 hd with rfl | hd
          · unfold pkN alN at hp; simp at hp; simp [hidN]; omega
          · exact ih _ (by simpa using h) d hd
    exact key 0 t h'
  · intro c hc
    unfold quB at hc
    rcases List.mem_append.1 hc with hc | hc
    · rcases List.mem_cons.1 hc with rfl | hc
      · decide
      · obtain ⟨d, -, hd⟩ := List.mem_flatMap.1 hc
        rw [qB_clean d c hd]; simp
    · obtain rfl := List.mem_singleton.1 hc
      decide
theorem VT_text {l : List Nat} (h : ∀ n ∈ l, runeI (n : Int) = true) : VT (textB l) := by
  have := scan_text l h [] 0
  rw [List.append_nil] at this
  unfold VT
  rw [this, scan_nil]
theorem flat_big {l : List UInt8} (h : ∀ c ∈ l, 128 ≤ c.toNat) : l.flatMap qB = l := by
  induction l with
  | nil => rfl
  | cons c r ih => rw [List.flatMap_cons, qB_big (h c (List.mem_cons_self ..)), ih fun d hd => h d (List.mem_cons_of_mem _ hd)]; rfl
theorem rune_big {n : Nat} (h : ¬ n < 128) (hn : n ≤ 1114111) : ∀ c ∈ runeB n, 128 ≤ c.toNat := by
  unfold runeB
  rw [if_neg h]
  split
  · intro c hc; simp at hc; rcases hc with rfl | rfl <;> rw [b8_toNat (by omega)] <;> omega
  · split
    · intro c hc; simp at hc; rcases hc with rfl | rfl | rfl <;> rw [b8_toNat (by omega)] <;> omega
    · intro c hc; simp at hc; rcases hc with rfl | rfl | rfl | rfl <;> rw [b8_toNat (by omega)] <;> omega
theorem rune_q {n : Nat} (h : runeI (n : Int) = true) : VT ((runeB n).flatMap qB) := by
  by_cases h1 : n < 128
  · have e : runeB n = [b8 n] := by unfold runeB; rw [if_pos h1]
    rw [e, List.flatMap_cons, List.flatMap_nil, List.append_nil]
    exact VT_ascii (qB_ascii (by rw [b8_toNat (by omega)]; exact h1))
  · have hn : n ≤ 1114111 := by unfold runeI at h; simp at h; omega
    rw [flat_big (rune_big h1 hn)]
    have := VT_text (l := [n]) (by simpa using h)
    simpa [textB] using this
theorem VT_pu {t : List UInt8} (h : VT t) : VT (puL t) := by
  unfold puL
  split
  · exact h
  · unfold quB
    refine VT_app (VT_app (a := [34]) (VT_one (by decide)) ?_) (VT_one (by decide))
    have ht := scan_none h
    have hr := scan_runes t 0
    rw [← ht]
    generalize (scan t 0).1 = l at *
    clear ht h
    induction l with
    | nil => exact VT_nil
    | cons n r ih =>
      rw [textB]
      show VT ((runeB n ++ textB r).flatMap qB)
      rw [List.flatMap_append]
      exact VT_app (rune_q (hr n (List.mem_cons_self ..))) (ih fun m hm => hr m (List.mem_cons_of_mem _ hm))
/-- Lines of texts that were put, each moved in, a remark behind. -/
def wlL (m : List UInt8) (T : List (Nat × List UInt8)) : List (List UInt8) := T.map fun p => List.replicate p.1 32 ++ (puL p.2 ++ 32 :: 35 :: m)
theorem wl_one (n : Nat) (p : Nat × List UInt8) (m : List UInt8) : lnOne n (List.replicate p.1 32 ++ (puL p.2 ++ 32 :: 35 :: m)) = [(n, p.1, puL p.2)] := by
  obtain ⟨h1, h2⟩ := strip_put p.1 p.2 m
  obtain ⟨⟨c, r, hc, -⟩, -⟩ := pu_ends p.2
  rw [lnOne_some (by rw [h1, hc]; simp), h1, h2]
  simp
theorem wl_rows (n : Nat) (m : List UInt8) (T : List (Nat × List UInt8)) : (rwL n (wlL m T)).length = T.length ∧ ∀ k (hk : k < T.length) (hk' : k < (rwL n (wlL m T)).length), (rwL n (wlL m T))[k] = (n + k + 1, T[k].1, puL T[k].2) := by
  induction T generalizing n with
  | nil => exact ⟨rfl, fun k hk => absurd hk (by simp)⟩
  | cons p r ih =>
    obtain ⟨i1, i2⟩ := ih (n + 1)
    have e : rwL n (wlL m (p :: r)) = (n + 1, p.1, puL p.2) :: rwL (n + 1) (wlL m r) := by
      unfold wlL
      rw [List.map_cons, rwL, wl_one]; rfl
    rw [e]
    refine ⟨by simp [i1], fun k hk hk' => ?_⟩
    cases k with
    | zero => rfl
    | succ k =>
      have := i2 k (by simpa using hk) (by rw [i1]; simpa using hk)
      simp only [List.getElem_cons_succ]
      rw [this, show n + 1 + k + 1 = n + (k + 1) + 1 by omega]
theorem clean_no10 {l : List UInt8} (h : dirtyL l = false) : ∀ c ∈ l, c.toNat ≠ 10 := fun c hc h10 => by
  unfold dirtyL at h
  rw [List.any_eq_false] at h
  exact h c hc (by rw [h10]; decide)
/-- Such lines are read as they were. -/
theorem all_put {m : List UInt8} (hm : VT m) (hd : dirtyL m = false) {T : List (Nat × List UInt8)} (hT : ∀ p ∈ T, VT p.2) :
    ∃ X, allL ((wlL m T).flatMap fun l => l ++ [10]) = (X, 0, 0) ∧ X.length = T.length ∧ ∀ k (hk : k < T.length) (hk' : k < X.length), X[k] = (k + 1, T[k].1, puL T[k].2) := by
  have hdl : ∀ l ∈ wlL m T, dirtyL l = false := fun l hl => by
    obtain ⟨p, -, rfl⟩ := List.mem_map.1 hl
    have h1 := pu_clean p.2
    unfold dirtyL at h1 hd ⊢
    rw [List.any_append, List.any_append, List.any_cons, List.any_cons, h1, hd]
    simp [hidN]
  have h10 : ∀ l ∈ wlL m T, ∀ c ∈ l, c.toNat ≠ 10 := fun l hl => clean_no10 (hdl l hl)
  have hv : VT ((wlL m T).flatMap fun l => l ++ [10]) := by
    rw [VT_lines h10]
    intro l hl
    obtain ⟨p, hp, rfl⟩ := List.mem_map.1 hl
    exact VT_app (VT_ascii fun c hc => by rw [List.eq_of_mem_replicate hc]; decide) (VT_app (VT_pu (hT p hp)) (VT_app (VT_one (c := 32) (by decide)) (VT_app (VT_one (c := 35) (by decide)) hm)))
  obtain ⟨w1, w2⟩ := wl_rows 0 m T
  rcases allL_lines (bs := (wlL m T).flatMap fun l => l ++ [10]) with ⟨-, -, b3⟩ | ⟨-, b2, -⟩ | ⟨b1, -⟩
  · rw [lnsL_flat h10] at b3
    exact ⟨_, b3, w1, fun k hk hk' => by rw [w2 k hk hk', Nat.zero_add]⟩
  · rw [lnsL_flat h10] at b2; exact absurd hdl b2
  · exact absurd hv b1
end Go.Proofs.YtihkjopplmdkkaaDoor
