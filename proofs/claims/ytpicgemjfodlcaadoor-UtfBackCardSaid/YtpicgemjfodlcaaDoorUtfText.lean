/- utf.Text: a walk. -/
import Derived.Test.YtpicgemjfodlcaaDoorProg
import Derived.Test.YtpicgemjfodlcaaDoorBase
import Derived.Test.YtpicgemjfodlcaaDoorUtfPut
import Derived.Test.YtpicgemjfodlcaaDoorSame32
import Derived.WalkSmall
import Derived.Laws.BytesArg
set_option linter.unusedVariables false
namespace Go.Proofs.YtpicgemjfodlcaaDoor
open Go.RowKit
/-- The place of the first number that is no rune. -/
def txBad (l : List Int) : Option Nat := l.findIdx? fun n => !runeI n
def txB (l : List Int) : List UInt8 := if txBad l = none then textB (l.map Int.toNat) else []
def txE (l : List Int) : Nat := if txBad l = none then 0 else 1
def txA (l : List Int) : Nat := (txBad l).getD 0
theorem txBad_some {l : List Int} {k : Nat} (hk : k < l.length) (h : ∀ j (hj : j < k), runeI (l[j]'(by omega)) = true) (hb : runeI l[k] = false) : txBad l = some k := by
  unfold txBad
  rw [List.findIdx?_eq_some_iff_getElem]
  exact ⟨hk, by simp [hb], fun j hj => by simp [h j hj]⟩
theorem txBad_none {l : List Int} (h : ∀ j (hj : j < l.length), runeI l[j] = true) : txBad l = none := by
  unfold txBad
  rw [List.findIdx?_eq_none_iff]
  intro n hn
  obtain ⟨i, hi, rfl⟩ := List.getElem_of_mem hn
  simp [h i hi]
theorem textB_snoc (l : List Int) {k : Nat} (hk : k < l.length) : textB ((l.take (k + 1)).map Int.toNat) = textB ((l.take k).map Int.toNat) ++ runeB l[k].toNat := by
  rw [List.take_succ_eq_append_getElem hk, List.map_append, textB_append]; simp [textB]
theorem conv_own {P : Program} {w : World} {B t : Nat} {src dst e : TypeId} {v : Value} {n : Nat} {vs : List UInt8} (hrow : w.ownsRow B t 1 v n (vs.map bv)) (hs : P.underlying src = some (.slice e)) (he : P.underlying e = some (.int .u8)) (hd : P.underlying dst = some .string) :
    ∃ s : ByteArray, s.data.toList = vs ∧ (convert src dst v).run P w = .ok (.string s) w := by
  obtain ⟨A, c, rfl, hn, hsl⟩ := Sl.of_own hrow
  rw [List.length_map] at hn
  subst hn
  cases A with
  | none =>
    obtain hnil := hsl.rd.none_nil
    obtain rfl : vs = [] := by simpa using hnil
    obtain rfl := hsl.nil0 rfl
    refine ⟨⟨#[]⟩, rfl, ?_⟩
    exact run_convert_bytes_nil w src e hs he 0 0 dst hd
  | some a =>
    refine ⟨⟨vs.toArray⟩, by simp, ?_⟩
    exact run_convert_bytes_back _ src dst e _ _ vs hs he hd fun j hj => by
      have := hsl.rd.addr j (bv vs[j]) (by simp [hj])
      simpa [bv] using this
end Go.Proofs.YtpicgemjfodlcaaDoor
