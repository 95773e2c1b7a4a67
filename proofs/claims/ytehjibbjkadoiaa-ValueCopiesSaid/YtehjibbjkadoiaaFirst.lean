/- The document's First and Check (layer 3). -/
import Derived.Test.YtehjibbjkadoiaaProg
import Derived.Test.YtehjibbjkadoiaaM1
import Derived.Test.YtehjibbjkadoiaaOne
set_option linter.unusedVariables false
namespace Go.Proofs.Ytehjibbjkadoiaa
open Go.RowKit
theorem tl_le {k n l : Nat} {r : List UInt8} : (tl k n l r).1 ≤ r.length + 1 := by
  unfold tl
  split
  · simp
  · split
    · simp
    · split <;> simp; omega
theorem oneL_le (bs : List UInt8) : (oneL bs).1 ≤ bs.length := by
  cases bs with
  | nil => simp [oneL]
  | cons c r =>
    have h1 := @tl_le 1 (c.toNat - 192) 128 r
    have h2 := @tl_le 2 (c.toNat - 224) 2048 r
    have h3 := @tl_le 3 (c.toNat - 240) 65536 r
    simp only [oneL, List.length_cons]
    (repeat' split) <;> simp <;> omega
/-- The runes ahead of the first bytes that are none's, and where those begin. -/
def scan (bs : List UInt8) (at' : Nat) : List Nat × Option Nat :=
  match bs with
  | [] => ([], none)
  | c :: r =>
    if _h : (oneL (c :: r)).1 = 0 then ([], some at') else
    let q := scan ((c :: r).drop (oneL (c :: r)).1) (at' + (oneL (c :: r)).1)
    ((oneL (c :: r)).2 :: q.1, q.2)
  termination_by bs.length
  decreasing_by simp; omega
theorem scan_nil (a : Nat) : scan [] a = ([], none) := by rw [scan]
theorem scan_bad {c : UInt8} {r : List UInt8} {a : Nat} (h : (oneL (c :: r)).1 = 0) : scan (c :: r) a = ([], some a) := by rw [scan, dif_pos h]
theorem scan_more {c : UInt8} {r : List UInt8} {a : Nat} (h : (oneL (c :: r)).1 ≠ 0) : scan (c :: r) a = ((oneL (c :: r)).2 :: (scan ((c :: r).drop (oneL (c :: r)).1) (a + (oneL (c :: r)).1)).1, (scan ((c :: r).drop (oneL (c :: r)).1) (a + (oneL (c :: r)).1)).2) := by rw [scan, dif_neg h]
def placeI : Option Nat → Int
  | none => -1
  | some n => n

set_option maxRecDepth 100000 in
set_option maxHeartbeats 1000000 in
theorem rfirst_any (s : ByteArray) (bs : List UInt8) (w : World) (hs : s.data.toList = bs) (hl : bs.length ≤ 9223372036854775807) :
    Calls Try.prog 95 #[.string s] w fun e w' => e = .returned (.int .i64 (placeI (scan bs 0).2)) ∧ w = w' := by
  have hsz : s.size = bs.length := by rw [← hs]; simp
  have HSB := hid hs
  clear hs
  generalize hn : bs.length = n at *
  have HN := hid hn
  clear hn
  go_enter Try.func95, Try.ntmps95
  go_wp2
  go_loop [2, 3, 4, 5] (fun _ a _ _ => ∃ k : Nat, k ≤ n ∧ a = .int .i64 (k : Int) ∧ (scan bs 0).2 = (scan (bs.drop k) k).2) (fun _ a _ _ => n - (intOf a).toNat)
  case atStart => exact ⟨0, by omega, rfl, by simp⟩
  case round =>
    obtain ⟨k, hk, rfl, hsc⟩ := hrel
    have HC := hid hsc
    clear hsc
    by_cases hlt : k < n
    · obtain ⟨c, r, hd⟩ : ∃ c r, bs.drop k = c :: r := by
        cases hq : bs.drop k with
        | nil => have := congrArg List.length hq; have := HN.out; simp at *; omega
        | cons c r => exact ⟨c, r, rfl⟩
      have ho := oneL_le (bs.drop k)
      rw [List.length_drop, HN.out, hd] at ho
      have HD := hid hd
      clear hd
      go_wp2_with fail
      refine (one_any s bs r k c _ HSB.out (by have := HN.out; omega) HD.out).mono ?_
      rintro e w1 ⟨rfl, rfl⟩
      have hb := @scan_bad c r k
      have hm := @scan_more c r k
      generalize hq : oneL (c :: r) = q at *
      obtain ⟨o, v⟩ := q
      simp only at ho hb hm
      have HQ := hid hq
      have HB := hid hb
      have HM := hid hm
      clear hq hb hm
      by_cases ho0 : o = 0
      · subst ho0
        go_wp2
        go_ret
        rw [HC.out, HD.out, HB.out (by first | trivial | rfl)]
        exact ⟨rfl, rfl⟩
      · have t0 : ((o : Int) == 0) = false := by simp; omega
        go_wp2
        go_round
        case rel => exact ⟨k + o, by omega, by go_num, by rw [HC.out, HD.out, HM.out ho0, ← HD.out, List.drop_drop]⟩
        case measure => simp [intOf] <;> omega
    · go_wp2
      go_ret
      rw [HC.out, List.drop_eq_nil_of_le (by have := HN.out; omega), scan_nil]
      exact ⟨rfl, rfl⟩
def checkI (n : Nat) (bad : Option Nat) (most : Int) : Int := if most < n then 2 else if bad.isSome then 9 else 0
set_option maxRecDepth 100000 in
set_option maxHeartbeats 1000000 in
theorem rcheck_any (s : ByteArray) (bs : List UInt8) (most : Int) (w : World) (hs : s.data.toList = bs) (hl : bs.length ≤ 9223372036854775807) (h1 : -9223372036854775808 ≤ most) (h2 : most ≤ 9223372036854775807) :
    Calls Try.prog 81 #[.string s, .int .i64 most] w fun e w' => e = .returned (.int .i64 (checkI bs.length (scan bs 0).2 most)) ∧ w = w' := by
  have hsz : s.size = bs.length := by rw [← hs]; simp
  have HF := hid (rfirst_any s bs w hs hl)
  have HSB := hid hs
  clear hs
  generalize (scan bs 0).2 = f at *
  generalize hn : bs.length = n at *
  by_cases hm : most < n
  · go_enter Try.func81, Try.ntmps81
    go_wp2
    go_ret
    simp [checkI, hm]
  · cases f with
    | none =>
      go_enter Try.func81, Try.ntmps81
      go_wp2_with fail
      refine HF.out.mono ?_
      rintro e w1 ⟨rfl, rfl⟩
      simp only [placeI]
      go_wp2
      go_ret
      simp [checkI, hm]
    | some k =>
      go_enter Try.func81, Try.ntmps81
      go_wp2_with fail
      refine HF.out.mono ?_
      rintro e w1 ⟨rfl, rfl⟩
      simp only [placeI]
      go_wp2
      go_ret
      simp [checkI, hm]
end Go.Proofs.Ytehjibbjkadoiaa
