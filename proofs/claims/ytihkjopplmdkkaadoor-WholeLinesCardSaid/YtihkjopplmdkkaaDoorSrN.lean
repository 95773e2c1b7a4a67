/- scalar: Digits, Number: walks (over the library's contracts). -/
import Derived.Test.YtihkjopplmdkkaaDoorSrShelf
import Derived.Test.YtihkjopplmdkkaaDoorSrTab
import Derived.Test.YtihkjopplmdkkaaDoorSrB
import Derived.Lib.AppendIntMem
import Derived.Lib.AtoiErrMem
set_option linter.unusedVariables false
namespace Go.Proofs.YtihkjopplmdkkaaDoor
open Go.RowKit
/-- A number's digits. -/
def dgL (n : Int) : List UInt8 := if 0 ≤ n ∧ n ≤ 999999999 then Lib.itoa n else []
set_option maxRecDepth 100000 in
set_option maxHeartbeats 1000000 in
theorem digits_any (n : Int) (w : World) (h0 : -9223372036854775808 ≤ n) (h1 : n ≤ 9223372036854775807) (hT : Tab18 w) :
    Calls Tryd.prog 32 #[.int .i64 n] w fun e w' => e = .returned (.string ⟨(dgL n).toArray⟩) ∧ Below w.heap.size w w' := by
  have HI := hid (Tryd.strconv_Itoa n h0 h1 w hT.pow)
  by_cases a1 : n < 0
  · have hd : dgL n = [] := by rw [dgL, if_neg (by omega)]
    rw [hd]
    go_enter Tryd.func32, Tryd.ntmps32
    go_wp2_with fail
    go_ret
    exact ⟨rfl, Below.refl _ _⟩
  by_cases a2 : n ≤ 999999999
  · have hd : dgL n = Lib.itoa n := by rw [dgL, if_pos (by omega)]
    rw [hd]
    generalize Lib.itoa n = l at *
    go_enter Tryd.func32, Tryd.ntmps32
    go_wp2_with (go_at_call 56; refine HI.out.mono ?_; rintro e w1 ⟨rfl, hg⟩; have HG := hid hg; clear hg)
    go_ret
    obtain ⟨k, os, rfl⟩ := HG.out
    exact ⟨rfl, Lib.below_grow _ _ (Nat.le_refl _) _ _⟩
  · have hd : dgL n = [] := by rw [dgL, if_neg (by omega)]
    rw [hd]
    go_enter Tryd.func32, Tryd.ntmps32
    go_wp2_with fail
    go_ret
    exact ⟨rfl, Below.refl _ _⟩
/-- What Number tells. -/
def nmF (bs : List UInt8) : Int × Int := match Lib.atoiAll bs with
  | .ok v => if dgL v = bs then (v, 0) else (0, 3)
  | _ => (0, 3)
theorem str_ne {s : ByteArray} {bs l : List UInt8} (hs : s.data.toList = bs) (h : l ≠ bs) : (l == s.toList) = false := by
  rw [str_list hs]; simpa using h
theorem str_eq {s : ByteArray} {bs l : List UInt8} (hs : s.data.toList = bs) (h : l = bs) : (l == s.toList) = true := by
  rw [str_list hs]; simpa using h
theorem atoiAll_bd {bs : List UInt8} {v : Int} (h : Lib.atoiAll bs = .ok v) : -9223372036854775808 ≤ v ∧ v ≤ 9223372036854775807 := by
  cases bs with
  | nil => simp [Lib.atoiAll] at h
  | cons c r =>
    simp only [Lib.atoiAll] at h
    split at h
    · cases h
    · cases h
    · split at h
      · cases h
      · split at h
        · cases h
        · injection h with h
          split at h <;> omega
set_option maxRecDepth 100000 in
set_option maxHeartbeats 2000000 in
theorem snumber_any (s : ByteArray) (bs : List UInt8) (w : World) (hs : s.data.toList = bs) (hl : bs.length ≤ 100000) (hT : Tab18 w) :
    Calls Tryd.prog 33 #[.string s] w fun e w' => e = .returned (.tuple #[.int .i64 (nmF bs).1, .int .i64 (nmF bs).2]) ∧ Below w.heap.size w w' := by
  have hnm : nmF bs = match Lib.atoiAll bs with
    | .ok v => if dgL v = bs then (v, 0) else (0, 3)
    | _ => (0, 3) := rfl
  have hsz : s.size = bs.length := by rw [Lib.size_eq, hs]
  cases ha : Lib.atoiAll bs with
  | ok v =>
    have hbd := atoiAll_bd ha
    obtain ⟨hb1, hb2⟩ := hbd
    have HA := hid (Tryd.strconv_Atoi_ok s (by omega) v (by rw [hs]; exact ha) w)
    have HD := hid fun w' (h : Below w.heap.size w w') => digits_any v w' hb1 hb2 (hT.below h)
    rw [ha] at hnm
    simp only at hnm
    by_cases heq : dgL v = bs
    · rw [if_pos heq] at hnm
      rw [hnm]
      have hse := str_eq hs heq
      generalize dgL v = l at *
      clear hs ha hnm heq
      have hse' : (l != s.toList) = false := by rw [bne, hse]; rfl
      go_enter Tryd.func33, Tryd.ntmps33
      go_wp2_with fail
      refine HA.out.mono ?_
      rintro e w1 ⟨rfl, hg⟩
      have hb : Below w.heap.size w w1 := by rcases hg with rfl | ⟨t, rfl⟩; exact Below.refl _ _; exact Lib.bytesWorld_below _ _ _
      clear hg
      go_wp2_with (go_at_call 32; refine (HD.out _ hb).mono ?_; rintro e w2 ⟨rfl, hb2⟩)
      go_ret2
      exact ⟨rfl, bw_t hb hb2⟩
    · rw [if_neg heq] at hnm
      rw [hnm]
      have hse := str_ne hs heq
      generalize dgL v = l at *
      clear hs ha hnm heq
      have hse' : (l != s.toList) = true := by rw [bne, hse]; rfl
      go_enter Tryd.func33, Tryd.ntmps33
      go_wp2_with fail
      refine HA.out.mono ?_
      rintro e w1 ⟨rfl, hg⟩
      have hb : Below w.heap.size w w1 := by rcases hg with rfl | ⟨t, rfl⟩; exact Below.refl _ _; exact Lib.bytesWorld_below _ _ _
      clear hg
      go_wp2_with (go_at_call 32; refine (HD.out _ hb).mono ?_; rintro e w2 ⟨rfl, hb2⟩)
      go_ret2
      exact ⟨rfl, bw_t hb hb2⟩
  | «syntax» =>
    obtain ⟨tp, p, hv⟩ := hT.synt
    have HA := hid (Tryd.strconv_Atoi_syntax_var s (by omega) (by rw [hs]; exact ha) tp p w hv)
    rw [ha] at hnm
    simp only at hnm
    rw [hnm]
    clear hs ha hnm hv
    go_enter Tryd.func33, Tryd.ntmps33
    go_wp2_with fail
    refine HA.out.mono ?_
    rintro e w1 ⟨N, rfl, -, -, hb⟩
    go_wp2_with fail
    go_ret2
    exact ⟨rfl, hb⟩
  | range =>
    obtain ⟨tp, p, hv⟩ := hT.range
    have HA := hid (Tryd.strconv_Atoi_range_var s (by omega) (by rw [hs]; exact ha) tp p w hv)
    rw [ha] at hnm
    simp only at hnm
    rw [hnm]
    clear hs ha hnm hv
    go_enter Tryd.func33, Tryd.ntmps33
    go_wp2_with fail
    refine HA.out.mono ?_
    rintro e w1 ⟨N, rfl, -, -, hb⟩
    go_wp2_with fail
    go_ret2
    exact ⟨rfl, hb⟩
end Go.Proofs.YtihkjopplmdkkaaDoor
