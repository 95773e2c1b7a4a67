/- What is wrong with a field: value's upTo, list, wrong. · The document's one, Place, Default. -/
import Derived.Test.YtehjibbjkadoiaaVKept
import Derived.Test.YtehjibbjkadoiaaUtfCount
import Derived.Test.YtehjibbjkadoiaaSchPlain
import Derived.Deep.RegionHeld3
set_option linter.unusedVariables false
namespace Go.Proofs.Ytehjibbjkadoiaa
open Go.RowKit
/-- What is wrong with a text of so many bytes at most. -/
def chk (s : ByteArray) (most : Int) : Int := checkI s.data.toList.length (scan s.data.toList 0).2 most
def txtE (most : Int) : List ByteArray → Int
  | [] => 0
  | s :: r => if chk s most = 0 then txtE most r else chk s most
def lstE (l : List ByteArray) : Int := if 64 < l.length then 2 else txtE 64 l
def wrongE (m : MV) (t i : Int) : Int :=
  if t = 1 ∨ t = 5 then (if 4294967295 < m.num i then 1 else 0) else if t = 4 then (if 1 < m.num i then 1 else 0) else if 7 ≤ t ∧ t ≤ 9 then chk (m.text i) (mostN t : Nat) else if t = 10 then lstE m.l else 0
theorem txtE_at {l : List ByteArray} {most : Int} {j : Nat} (h : j < l.length) : txtE most (l.drop j) = if chk l[j] most = 0 then txtE most (l.drop (j + 1)) else chk l[j] most := by
  rw [List.drop_eq_getElem_cons h, txtE]
theorem txtE_end {l : List ByteArray} {most : Int} {j : Nat} (h : l.length ≤ j) : txtE most (l.drop j) = 0 := by
  rw [List.drop_eq_nil_of_le h, txtE]
set_option maxRecDepth 100000 in
set_option maxHeartbeats 1000000 in
theorem vupto_any (a b : Nat) (w : World) : Calls Try.prog 76 #[.int .u64 (a : Int), .int .u64 (b : Int)] w fun e w' => e = .returned (.int .i64 (if a < b then 1 else 0)) ∧ w' = w := by
  by_cases h : a < b
  · rw [if_pos h]
    go_enter Try.func76, Try.ntmps76
    go_wp2
    go_ret
    exact ⟨rfl, rfl⟩
  · rw [if_neg h]
    go_enter Try.func76, Try.ntmps76
    go_wp2
    go_ret
    exact ⟨rfl, rfl⟩
theorem uchk_any (s : ByteArray) (most : Int) (w : World) (hl : s.size ≤ 9223372036854775807) (h1 : -9223372036854775808 ≤ most) (h2 : most ≤ 9223372036854775807) :
    Calls Try.prog 77 #[.string s, .int .i64 most] w fun e w' => e = .returned (.int .i64 (chk s most)) ∧ Below w.heap.size w w' := check_any s s.data.toList most w rfl (by simpa using hl) h1 h2
theorem rchk_any (s : ByteArray) (most : Int) (w : World) (hl : s.size ≤ 9223372036854775807) (h1 : -9223372036854775808 ≤ most) (h2 : most ≤ 9223372036854775807) :
    Calls Try.prog 81 #[.string s, .int .i64 most] w fun e w' => e = .returned (.int .i64 (chk s most)) ∧ w = w' := rcheck_any s s.data.toList most w rfl (by simpa using hl) h1 h2
theorem smost10 (w : World) : Calls Try.prog 78 #[.int .i64 10] w fun e w' => e = .returned (.int .i64 64) ∧ w' = w := smost_any 10 w
set_option maxRecDepth 100000 in
set_option maxHeartbeats 2000000 in
theorem vlist_any (l : List ByteArray) (n : Nat) (A : Option Addr) (c : Nat) (w : World) (hn : l.length = n) (hs : Sl w A c (l.map sv)) (he : ∀ x ∈ l, x.size ≤ 9223372036854775807) :
    Calls Try.prog 79 #[.slice A n c] w fun e w' => e = .returned (.int .i64 (lstE l)) ∧ Below w.heap.size w w' := by
  have hc1 : n ≤ 9223372036854775807 := by have g1 := hs.cap; have g2 := hs.small; rw [List.length_map] at g1; omega
  obtain ⟨R, hR⟩ : ∃ R, lstE l = R := ⟨_, rfl⟩
  rw [hR]
  have hR2 := hR
  unfold lstE at hR2
  rw [hn] at hR2
  clear hR
  by_cases hb : 64 < n
  · rw [if_pos hb] at hR2
    subst hR2
    clear hs he hn
    go_enter Try.func79, Try.ntmps79
    go_wp2
    go_ret
    exact ⟨rfl, Below.refl _ _⟩
  rw [if_neg hb] at hR2
  have HR := hid hR2
  have HN := hid hn
  have HS := hid hs
  have HE := hid he
  have HM := hid (fun W => smost10 W)
  clear hR2 hn hs he
  go_enter Try.func79, Try.ntmps79
  go_wp2_with fail
  go_loopw [11] (fun i wr => ∃ j : Nat, j ≤ n ∧ i = .int .i64 (j : Int) ∧ txtE 64 l = txtE 64 (l.drop j) ∧ Below w.heap.size w wr) (fun i _ => n - (intOf i).toNat)
  case atStart => exact ⟨0, by omega, rfl, rfl, Below.refl _ _⟩
  case round =>
    obtain ⟨j, hj, rfl, hte, hB⟩ := hrel
    by_cases hlt : j < n
    · have hj1 : j < l.length := by have := HN.out; omega
      have hat := txtE_at (most := 64) hj1
      rw [← hte, HR.out] at hat
      obtain ⟨b, off, rfl, hbw, t0⟩ := HS.out.rd j (sv l[j]) (by simp [hj1])
      have t0 := (hB.cell (p := ⟨b, off + j, none⟩) hbw).trans t0
      have hck := fun W => uchk_any l[j] 64 W (HE.out _ (List.getElem_mem hj1)) (by omega) (by omega)
      have hji : (j : Int) < (n : Int) := by omega
      have hj0 : (0 : Int) ≤ (j : Int) := by omega
      unfold sv at t0
      generalize l[j] = x at *
      generalize chk x 64 = q at *
      have HCK := hid hck
      have HAT := hid hat
      have HBB := hid hB
      clear hck hat hB hte
      go_wp2_with fail
      refine (HM.out _).mono ?_
      rintro e w2 ⟨rfl, rfl⟩
      go_wp2_with fail
      refine (HCK.out _).mono ?_
      rintro e w3 ⟨rfl, hb3⟩
      have HB3 := hid (HBB.out.trans (hb3.mono HBB.out.size))
      clear hb3
      by_cases hq : q = 0
      · subst hq
        have hnx := HAT.out
        rw [if_pos rfl] at hnx
        have HNX := hid hnx
        clear hnx
        go_wp2_with fail
        exact ⟨⟨j + 1, by omega, by go_num, by rw [HR.out]; exact HNX.out, HB3.out⟩, by simp [intOf] <;> omega⟩
      · have hqb : (q != 0) = true := by simpa using hq
        have hnx := HAT.out
        rw [if_neg hq] at hnx
        have HNX := hid hnx
        clear hnx hq
        go_wp2_with fail
        go_ret
        exact ⟨by rw [HNX.out]; rfl, HB3.out⟩
    · obtain rfl : j = n := by omega
      rw [txtE_end (by have := HN.out; omega), HR.out] at hte
      have HT := hid hte
      clear hte
      go_wp2_with fail
      go_ret
      exact ⟨by rw [HT.out]; rfl, hB⟩
end Go.Proofs.Ytehjibbjkadoiaa
