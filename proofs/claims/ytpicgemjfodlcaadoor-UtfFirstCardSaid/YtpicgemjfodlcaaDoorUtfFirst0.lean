/- utf.First: a walk. -/
import Derived.Test.YtpicgemjfodlcaaDoorProg
import Derived.Test.YtpicgemjfodlcaaDoorBase
import Derived.Test.YtpicgemjfodlcaaDoorHasPrefix
import Derived.Test.YtpicgemjfodlcaaDoorDecode
import Derived.Test.YtpicgemjfodlcaaDoorScan
import Derived.WalkSmall
set_option linter.unusedVariables false
namespace Go.Proofs.YtpicgemjfodlcaaDoor
open Go.RowKit
theorem ext_drop (s : ByteArray) (bs : List UInt8) (p e : Nat) (hs : s.data.toList = bs) (he : bs.length ≤ e) : (s.extract p e).data.toList = bs.drop p := by
  subst hs
  simp only [ByteArray.data_extract, Array.toList_extract, List.extract_eq_take_drop]
  exact List.take_of_length_le (by rw [List.length_drop]; omega)
theorem below_iter (w : World) (s : ByteArray) (p : Nat) : Below w.heap.size w (w.iter s p) := (Below.refl _ w).alloc (Nat.le_refl _) _
theorem prefix_good {c : UInt8} {r : List UInt8} (h : (oneL (c :: r)).1 ≠ 0) : (Utf8.encode ((oneL (c :: r)).2 : Int)).data.toList.isPrefixOf (c :: r) = true := by
  obtain ⟨h1, h2⟩ := one_forth h
  rw [encode_rune h1, ← h2]
  simp [List.isPrefixOf_iff_prefix, List.take_prefix]
theorem prefix_bad {c : UInt8} {r : List UInt8} (h : (oneL (c :: r)).1 = 0) : (Utf8.encode 65533).data.toList.isPrefixOf (c :: r) = false := by
  have hr : runeI ((65533 : Nat) : Int) = true := by decide
  have he := encode_rune hr
  rw [show ((65533 : Nat) : Int) = 65533 from rfl] at he
  rw [he]
  cases hp : (runeB 65533).isPrefixOf (c :: r)
  · rfl
  · obtain ⟨t, ht⟩ := List.isPrefixOf_iff_prefix.1 hp
    have := one_back hr t
    rw [ht] at this
    rw [this] at h
    have hpos := runeB_pos 65533
    simp only at h
    omega
end Go.Proofs.YtpicgemjfodlcaaDoor
