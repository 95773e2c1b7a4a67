/- What WholeTexts asks of its callees, at plain variables. -/
import Derived.Test.YtapgjkbodfpdaaaDoorLiveT
import Derived.Test.YtapgjkbodfpdaaaDoorTextsMath
import Derived.Test.YtapgjkbodfpdaaaDoorLaw3A
import Derived.Test.YtapgjkbodfpdaaaDoorLaw3C
set_option linter.unusedVariables false
namespace Go.Proofs.YtapgjkbodfpdaaaDoor
open Go.RowKit
section
variable {T : List (List UInt8)} {E : List UInt8} {w : World} {q : Nat} {A : Option Addr} {c : Nat}
theorem wt_read (j p n p' : Nat) (hT : ∀ t ∈ T, t.length ≤ 1000) (hj : j < T.length) (hE : encs T = E) (hp : (encs (T.take j)).length = p) (hp' : (encs (T.take (j + 1))).length = p') (hn : T[j].length = n)
    (h : Rin 50 w q A c E p) :
    Calls Tryd.prog 8 #[.pointer (some ⟨q, 0, none⟩), .int .i64 1000] w fun e w' => ∃ A' c', e = .returned (.tuple #[.slice A' n c', .agg #[.int .i64 0, .int .i64 0]]) ∧ Sl w' A' c' (T[j].map bv) ∧ (∀ q', Far A E.length q' → Far A' n q') ∧ Rin 50 w' q A c E p' ∧ Only q w w' := by
  have h1 := ibytesm_any 1000 w q A c E p (by omega) (by omega) h
  subst hE hp hp' hn
  rw [encs_read T j hj hT] at h1
  exact h1.mono fun e w' ⟨A', c', he, hs, hfa, hr, ho⟩ => ⟨A', c', he, hs, hfa, hr, ho⟩
theorem wt_cut (j p N : Nat) (hT : ∀ t ∈ T, t.length ≤ 1000) (hE : (encs T).take N = E) (hN : N < (encs T).length) (hp : (encs (T.take j)).length = p) (hpN : p ≤ N)
    (h : Rin 50 w q A c E p) :
    Calls Tryd.prog 8 #[.pointer (some ⟨q, 0, none⟩), .int .i64 1000] w fun e w' => ∃ A' c' m er pl, e = .returned (.tuple #[.slice A' m c', .agg #[.int .i64 (er : Nat), .int .i64 (pl : Nat)]]) ∧ Only q w w' ∧ j < T.length ∧
      (er = 4 ∨ (er = 0 ∧ ∃ p', (encs (T.take (j + 1))).length = p' ∧ p' ≤ N ∧ Rin 50 w' q A c E p')) := by
  have h1 := ibytesm_any 1000 w q A c E p (by omega) (by omega) h
  subst hE hp
  obtain ⟨hj, h4 | ⟨h0, hle⟩⟩ := encs_cut T j N hN hpN hT
  · exact h1.mono fun e w' ⟨A', c', he, hs, hfa, hr, ho⟩ => ⟨A', c', _, _, _, he, ho, hj, .inl h4⟩
  · rw [h0] at h1
    exact h1.mono fun e w' ⟨A', c', he, hs, hfa, hr, ho⟩ => ⟨A', c', _, _, _, he, ho, hj, .inr ⟨rfl, _, rfl, hle, hr⟩⟩
end
theorem wt_runes (xs : List Int) (n : Nat) (s : ByteArray) (w : World) (hx : txBad xs = none) (hn : xs.length = n) (hl : n ≤ 100) (hs : s.data.toList = txB xs) :
    Calls Tryd.prog 9 #[.string s] w fun e w' => ∃ A c, e = .returned (.tuple #[.slice A n c, .agg #[.int .i64 0, .int .i64 0]]) ∧ IRd w' A xs ∧ Below w.heap.size w w' := by
  have hall := txBad_all hx
  have hb : txB xs = textB (xs.map Int.toNat) := by rw [txB, if_pos hx]
  have hr : ∀ n ∈ xs.map Int.toNat, runeI (n : Int) = true := by
    intro n hn
    obtain ⟨x, hx, rfl⟩ := List.mem_map.1 hn
    have h := hall x hx
    have h0 : 0 ≤ x := by simp [runeI] at h; omega
    rwa [show ((x.toNat : Nat) : Int) = x from by omega]
  have hsc := scan_textB hr
  have hle := textB_le (xs.map Int.toNat)
  rw [List.length_map] at hle
  refine (runes_any s (txB xs) w hs (by rw [hb]; omega)).mono ?_
  rintro e w' ⟨v, he, hrow, hB⟩
  rw [hb] at he hrow
  have hru : runesOf (textB (xs.map Int.toNat)) = xs.map Int.toNat := by unfold runesOf; rw [hsc]; rfl
  have hbe : badE (textB (xs.map Int.toNat)) = 0 := by unfold badE; rw [hsc]; rfl
  have hba : badA (textB (xs.map Int.toNat)) = 0 := by unfold badA; rw [hsc]; rfl
  rw [hru] at hrow
  rw [hbe, hba] at he
  obtain ⟨A, c, rfl, hlen, hsl⟩ := Sl.of_own hrow
  refine ⟨A, c, ?_, ?_, hB⟩
  · rw [he, List.length_map, hn]; rfl
  · unfold IRd
    have := hsl.rd
    rwa [rv_iv, map_nat hall] at this
end Go.Proofs.YtapgjkbodfpdaaaDoor
