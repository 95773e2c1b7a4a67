/- The walk of WholeHeads. -/
import Derived.Test.YtfbmdeegcoocnaaLawF
import Derived.Deep.RegionHeld3
import Derived.Test.YtfbmdeegcoocnaaOpens
import Derived.Deep.QuietTactic
import Derived.BigQuiet
set_option linter.unusedVariables false
namespace Go.Proofs.Ytfbmdeegcoocnaa
open Go.RowKit
theorem own_drewN {w : World} {base e size n : Nat} {v : Value} {xs : List Value} (h : w.ownsRow base e size v n xs) (k : Nat) : (w.drewN k).ownsRow base e size v n xs := h
theorem Sl.of_own' {w : World} {base e : Nat} {A : Option Addr} {n m c : Nat} {xs : List Value} (h : w.ownsRow base e 1 (.slice A n c) m xs) : Sl w A c xs := by
  obtain ⟨A', c', hv, _, hs⟩ := Sl.of_own h
  injection hv with h1 h2 h3
  subst h1; subst h3; exact hs
theorem SlN.of_own {w : World} {base e size n : Nat} {v : Value} {xs : List Value} (hsz : 0 < size) (h : w.ownsRow base e size v n xs) : ∃ A c, v = .slice A n c ∧ SlN w A n c size xs := by
  rcases h.2 with ⟨rfl, rfl⟩ | ⟨g, cap, cur, rfl, hb, hg, hnc, hcm, hcs, htake⟩
  · have hx : xs = [] := List.eq_nil_of_length_eq_zero (by simpa using h.1)
    subst hx
    exact ⟨none, 0, rfl, ⟨by simp, by omega, by omega, fun _ => rfl, Rd.nil_ w _⟩⟩
  · refine ⟨_, cap, rfl, ⟨h.1, hnc, hcm, (fun h => by cases h), fun k u hk => ⟨g, 0, rfl, (Array.getElem?_eq_some_iff.1 hg).1, ?_⟩⟩⟩
    have := h.cells (g := g) rfl k u hk
    rwa [addr_add] at this
abbrev Hd : Type := Int × Nat
def hdv (h : Hd) : List Value := [.int .i64 h.1, .int .u8 (h.2 : Int)]
def okH (h : Hd) : Bool := decide ((mk h.1 (h.2 : Int)).2 = 0)
def flatH (l : List Hd) : List UInt8 := l.flatMap fun h => headL h.1 (h.2 : Int)
theorem flatH_snoc (l : List Hd) (h : Hd) : flatH (l ++ [h]) = flatH l ++ headL h.1 (h.2 : Int) := by simp [flatH]
theorem headL_length {h : Hd} (hx : h.2 ≤ 255) : (headL h.1 (h.2 : Int)).length ≤ 10 := by
  unfold headL; split
  · exact putN_length10 (by have := mk_facts h.1 (h.2 : Int) (by omega) (by omega); omega)
  · simp
theorem flatH_length {l : List Hd} (hx : ∀ h ∈ l, h.2 ≤ 255) : (flatH l).length ≤ 10 * l.length := by
  induction l with
  | nil => simp [flatH]
  | cons h l ih =>
    have h1 := headL_length (hx h (by simp))
    have h2 := ih fun g hg => hx g (by simp [hg])
    have e : flatH (h :: l) = headL h.1 (h.2 : Int) ++ flatH l := rfl
    rw [e, List.length_append, List.length_cons]; omega
theorem make_q (n x : Int) (w : World) (h1 : 0 ≤ x) (h2 : x ≤ 255) :
    Calls Try.prog 63 #[.int .i64 n, .int .u8 x] w fun e w' => e = .returned (.tuple #[.int .u64 (mk n x).1, .int .i64 (mk n x).2]) ∧ w' = w :=
  (make_any n x w h1 h2).mono fun _ _ ⟨h, h'⟩ => ⟨h, h'.symm⟩
theorem headL_pos {n x : Int} (h : (mk n x).2 = 0) : 0 < (headL n x).length := by unfold headL; rw [if_pos h, putN_size]; exact sizeN_pos _
theorem headL_nil {n x : Int} (h : (mk n x).2 ≠ 0) : headL n x = [] := by unfold headL; rw [if_neg h]
def tg (h : Hd) : Nat := (mk h.1 (h.2 : Int)).1.toNat
theorem flatH_flat (l : List Hd) : flatH l = flat ((l.filter okH).map tg) := by
  induction l with
  | nil => rfl
  | cons h l ih =>
    have e : flatH (h :: l) = headL h.1 (h.2 : Int) ++ flatH l := rfl
    rw [e, List.filter_cons]
    by_cases hk : okH h = true
    · rw [if_pos hk, List.map_cons, flat_cons, ← ih]
      congr 1
      unfold headL tg
      rw [if_pos (by simpa [okH] using hk)]
    · rw [if_neg hk, ← ih, headL_nil (by simpa [okH] using hk)]; rfl
theorem tg_le {h : Hd} (hx : h.2 ≤ 255) : tg h ≤ 18446744073709551615 := by unfold tg; have := mk_facts h.1 (h.2 : Int) (by omega) (by omega); omega
theorem spl_tg {h : Hd} (hx : h.2 ≤ 255) (hk : okH h = true) : spl (tg h : Int) = (h.1, (h.2 : Int), 0) := by
  have hm : (mk h.1 (h.2 : Int)).2 = 0 := by simpa [okH] using hk
  have hf := mk_facts h.1 (h.2 : Int) (by omega) (by omega)
  unfold tg
  rw [Int.toNat_of_nonneg hf.1]
  exact spl_mk hm
end Go.Proofs.Ytfbmdeegcoocnaa
