/- Reading a message: mathematics. -/
import Derived.Test.YtmcebepfoleknaaLenSet
set_option linter.unusedVariables false
namespace Go.Proofs.Ytmcebepfoleknaa
open Go.RowKit
/-- The row to which a field of bytes belongs. -/
def ownR (L : List SRow) (num w : Int) : Option SRow := L.find? fun r => decide ((r.num : Int) = num) && decide (((wireN (r.typ : Int) : Nat) : Int) = w)
/-- A field's bytes as a string. -/
def rfS (f : RF × Nat) : ByteArray := ⟨f.1.xs.toArray⟩
/-- A message behind fields: the message and the fields that belong to none, or what is wrong, and where. -/
def decF (L : List SRow) : MV → List (RF × Nat) → MV × List (RF × Nat) × Int × Nat
  | M, [] => (M, [], 0, 0)
  | M, f :: fs => match ownR L f.1.num f.1.w with
    | none => ((decF L M fs).1, f :: (decF L M fs).2.1, (decF L M fs).2.2)
    | some r => if setE M (r.typ : Int) (r.slot : Int) (rfS f) = 0 then decF L (setM M (r.typ : Int) (r.slot : Int) f.1.n (rfS f)) fs else (ZM, [], setE M (r.typ : Int) (r.slot : Int) (rfS f), f.2)
theorem decF_none {L : List SRow} {M : MV} {f : RF × Nat} {fs : List (RF × Nat)} (h : ownR L f.1.num f.1.w = none) : decF L M (f :: fs) = ((decF L M fs).1, f :: (decF L M fs).2.1, (decF L M fs).2.2) := by
  rw [decF, h]
theorem decF_ok {L : List SRow} {M : MV} {f : RF × Nat} {fs : List (RF × Nat)} {r : SRow} (h : ownR L f.1.num f.1.w = some r) (he : setE M (r.typ : Int) (r.slot : Int) (rfS f) = 0) : decF L M (f :: fs) = decF L (setM M (r.typ : Int) (r.slot : Int) f.1.n (rfS f)) fs := by
  rw [decF, h]; simp only; rw [if_pos he]
theorem decF_bad {L : List SRow} {M : MV} {f : RF × Nat} {fs : List (RF × Nat)} {r : SRow} (h : ownR L f.1.num f.1.w = some r) (he : setE M (r.typ : Int) (r.slot : Int) (rfS f) ≠ 0) : decF L M (f :: fs) = (ZM, [], setE M (r.typ : Int) (r.slot : Int) (rfS f), f.2) := by
  rw [decF, h]; simp only; rw [if_neg he]
/-- A message without where its list lies. -/
def MV.z (m : MV) : MV := { m with A := none, c := 0 }
theorem setE_z (m : MV) (A : Option Addr) (c : Nat) (t i : Int) (s : ByteArray) : setE { m with A := A, c := c } t i s = setE m t i s := rfl
/-- Setting makes a list longer by one at most. -/
theorem setM_len (m : MV) (t i : Int) (n : Nat) (s : ByteArray) (hl : m.l.length ≤ 64) : (setM m t i n s).l.length ≤ 64 := by
  unfold setM
  split
  · simp [ZM]
  · rename_i he
    split
    · exact hl
    · split
      · exact hl
      · rename_i h1 h2
        simp only [List.length_append, List.length_cons, List.length_nil]
        unfold setE at he
        by_cases hp : plB t i = false
        · rw [if_pos hp] at he; simp at he
        · rw [if_neg hp, if_neg h1, if_neg h2] at he
          by_cases h64 : 64 ≤ m.l.length
          · rw [if_pos h64] at he; simp at he
          · omega
end Go.Proofs.Ytmcebepfoleknaa
