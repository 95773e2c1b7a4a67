/- The walk of UtfBack. -/
import Derived.Test.YtapgjkbodfpdaaaDoorProg
import Derived.Test.YtapgjkbodfpdaaaDoorBase
import Derived.Test.YtapgjkbodfpdaaaDoorLaw3B
set_option linter.unusedVariables false
namespace Go.Proofs.YtapgjkbodfpdaaaDoor
open Go.RowKit
theorem txBad_all {l : List Int} (h : txBad l = none) : ∀ n ∈ l, runeI n = true := by
  unfold txBad at h
  rw [List.findIdx?_eq_none_iff] at h
  intro n hn
  have := h n hn
  simpa using this
theorem map_nat {l : List Int} (h : ∀ n ∈ l, runeI n = true) : (l.map Int.toNat).map Int.ofNat = l := by
  rw [List.map_map]
  conv => rhs; rw [← List.map_id l]
  apply List.map_congr_left
  intro n hn
  have := h n hn
  simp [runeI] at this
  show ((n.toNat : Nat) : Int) = n
  omega
theorem txBad_ofNat {L : List Nat} (h : ∀ n ∈ L, runeI (n : Int) = true) : txBad (L.map Int.ofNat) = none := by
  apply txBad_none
  intro j hj
  rw [List.getElem_map]
  exact h _ (List.getElem_mem _)
theorem scan_textB {L : List Nat} (h : ∀ n ∈ L, runeI (n : Int) = true) : scan (textB L) 0 = (L, none) := by
  have := scan_text L h [] 0
  rw [List.append_nil, scan_nil] at this
  simpa using this
theorem text_of (L : List Nat) (h : ∀ n ∈ L, runeI (n : Int) = true) : txB (L.map Int.ofNat) = textB L ∧ txE (L.map Int.ofNat) = 0 ∧ txA (L.map Int.ofNat) = 0 := by
  have hb := txBad_ofNat h
  have e : (L.map Int.ofNat).map Int.toNat = L := by rw [List.map_map]; conv => rhs; rw [← List.map_id L]
                                                     apply List.map_congr_left; intro n _; rfl
  exact ⟨by rw [txB, if_pos hb, e], by rw [txE, if_pos hb], by rw [txA, hb]; rfl⟩
end Go.Proofs.YtapgjkbodfpdaaaDoor
