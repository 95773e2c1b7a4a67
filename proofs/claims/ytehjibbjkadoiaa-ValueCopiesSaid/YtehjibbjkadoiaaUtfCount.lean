/- utf.Count, utf.Check, utf.Plain: walks. -/
import Derived.Test.YtehjibbjkadoiaaProg
import Derived.Test.YtehjibbjkadoiaaM1
import Derived.Test.YtehjibbjkadoiaaUtfFirst0
import Derived.WalkSmall
set_option linter.unusedVariables false
namespace Go.Proofs.Ytehjibbjkadoiaa
open Go.RowKit
def countI (bs : List UInt8) : Int := if (scan bs 0).2 = none then ((scan bs 0).1.length : Int) else -1
theorem drop_cons {bs : List UInt8} {p n : Nat} (hn : bs.length = n) (hp : p < n) : ∃ c r, bs.drop p = c :: r := by
  cases hq : bs.drop p with
  | nil => have := congrArg List.length hq; simp at this; omega
  | cons c r => exact ⟨c, r, rfl⟩
theorem scan_len (k : Nat) (bs : List UInt8) (a : Nat) (hk : bs.length ≤ k) : (scan bs a).1.length ≤ bs.length := by
  induction k generalizing bs a with
  | zero =>
    obtain rfl : bs = [] := List.eq_nil_of_length_eq_zero (by omega)
    simp [scan_nil]
  | succ k ih =>
    cases bs with
    | nil => simp [scan_nil]
    | cons c r =>
      by_cases ho : (oneL (c :: r)).1 = 0
      · rw [scan_bad ho]; simp
      · have := ih ((c :: r).drop (oneL (c :: r)).1) (a + (oneL (c :: r)).1) (by simp at hk ⊢; omega)
        rw [scan_more ho]
        simp only [List.length_cons, List.length_drop] at this ⊢
        omega
set_option maxRecDepth 100000 in
set_option maxHeartbeats 1000000 in
theorem check_any (s : ByteArray) (bs : List UInt8) (most : Int) (w : World) (hs : s.data.toList = bs) (hl : bs.length ≤ 9223372036854775807) (h1 : -9223372036854775808 ≤ most) (h2 : most ≤ 9223372036854775807) :
    Calls Try.prog 77 #[.string s, .int .i64 most] w fun e w' => e = .returned (.int .i64 (checkI bs.length (scan bs 0).2 most)) ∧ Below w.heap.size w w' := by
  have hsz : s.size = bs.length := by rw [← hs]; simp
  have HF := hid (first_any s bs w hs hl)
  have HSB := hid hs
  clear hs
  generalize (scan bs 0).2 = f at *
  generalize hn : bs.length = n at *
  by_cases hm : most < n
  · go_enter Try.func77, Try.ntmps77
    go_wp2
    go_ret
    exact ⟨ret_int (by simp [checkI, hm]), Below.refl _ _⟩
  · cases f with
    | none =>
      go_enter Try.func77, Try.ntmps77
      go_wp2_with fail
      refine HF.out.mono ?_
      rintro e w1 ⟨rfl, hb1⟩
      simp only [placeI]
      go_wp2
      go_ret
      exact ⟨ret_int (by simp [checkI, hm]), hb1⟩
    | some k =>
      go_enter Try.func77, Try.ntmps77
      go_wp2_with fail
      refine HF.out.mono ?_
      rintro e w1 ⟨rfl, hb1⟩
      simp only [placeI]
      go_wp2
      go_ret
      exact ⟨ret_int (by simp [checkI, hm]), hb1⟩
def plainB (bs : List UInt8) : Bool := bs.all fun c => decide (32 ≤ c.toNat ∧ c.toNat ≤ 126)
theorem decode_low (s : ByteArray) (bs : List UInt8) (p : Nat) (c : UInt8) (r : List UInt8) (hs : s.data.toList = bs) (hd : bs.drop p = c :: r) (h : c.toNat < 128) : Utf8.decode s p = (c.toNat, 1) := by
  rw [decode_at s bs p c r hs hd]
  have e : oneL (c :: r) = (1, c.toNat) := by simp only [oneL]; rw [if_pos h]
  rw [e]; rfl
theorem decode_hi (s : ByteArray) (bs : List UInt8) (p : Nat) (c : UInt8) (r : List UInt8) (hs : s.data.toList = bs) (hd : bs.drop p = c :: r) (h : ¬ c.toNat < 128) : 128 ≤ (Utf8.decode s p).1 ∧ (Utf8.decode s p).1 ≤ 2147483647 := by
  have hp : p < s.size := by
    have h1 : s.size = bs.length := by rw [← hs]; simp
    have h2 := congrArg List.length hd
    simp at h2; omega
  refine ⟨(decode_high s p hp ?_).1, decode_le s p⟩
  have hg : (bs.drop p)[0]? = some (s[p]'hp) := by
    rw [List.getElem?_drop, ← hs, Array.getElem?_toList]; exact Array.getElem?_eq_getElem _
  rw [hd] at hg
  simp at hg
  rw [← hg]; omega
theorem plain_take {bs : List UInt8} {p : Nat} {c : UInt8} {r : List UInt8} (hd : bs.drop p = c :: r) : plainB (bs.take (p + 1)) = (plainB (bs.take p) && decide (32 ≤ c.toNat ∧ c.toNat ≤ 126)) := by
  have hp : p < bs.length := by have h2 := congrArg List.length hd; simp at h2; omega
  have hc : bs[p] = c := by
    have := List.drop_eq_getElem_cons hp
    rw [hd] at this; injection this with h _; exact h.symm
  rw [List.take_succ_eq_append_getElem hp, plainB, List.all_append, hc]
  simp [plainB]
theorem plain_not {bs : List UInt8} {p : Nat} {c : UInt8} {r : List UInt8} (hd : bs.drop p = c :: r) (h : ¬ (32 ≤ c.toNat ∧ c.toNat ≤ 126)) : plainB bs = false := by
  have e : bs = bs.take p ++ c :: r := by rw [← hd, List.take_append_drop]
  rw [e, plainB, List.all_append, List.all_cons]
  simp [h]
end Go.Proofs.Ytehjibbjkadoiaa
