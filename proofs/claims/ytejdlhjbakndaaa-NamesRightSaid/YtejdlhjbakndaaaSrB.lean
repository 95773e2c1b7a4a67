/- scalar: Plain, what closes quotes, Cut, Put's test, digits behind \x, signs: walks. -/
import Derived.Test.YtejdlhjbakndaaaProg
import Derived.Test.YtejdlhjbakndaaaM1
import Derived.Test.YtejdlhjbakndaaaSrMath
import Derived.Test.YtejdlhjbakndaaaSrA
import Derived.Test.YtejdlhjbakndaaaUt
import Derived.Lib.Walk
import Derived.WalkSmall
import Derived.Deep.QuietTactic
import Derived.BigQuiet
import Derived.IntWalk
set_option linter.unusedVariables false
namespace Go.Proofs.Ytejdlhjbakndaaa
open Go.RowKit
theorem str_nil {s : ByteArray} (h : s.data.toList = []) : s = ⟨#[]⟩ := by
  cases s with | mk d => cases d with | mk l => simp at h; subst h; rfl
theorem str_ext {s t : ByteArray} {bs : List UInt8} (h : s.data.toList = bs) (k : t.data.toList = bs) : s = t := by
  cases s with | mk d => cases t with | mk e => cases d with | mk l => cases e with | mk m => simp at h k; rw [h, k]
theorem str_mk (s : ByteArray) (bs : List UInt8) (h : s.data.toList = bs) : s = ⟨bs.toArray⟩ := str_ext h (by simp)
theorem str_list {s : ByteArray} {bs : List UInt8} (h : s.data.toList = bs) : s.toList = bs := by rw [Lib.toList_data]; exact h
set_option maxRecDepth 100000 in
set_option maxHeartbeats 1000000 in
theorem sPlain_any (s : ByteArray) (bs : List UInt8) (w : World) (hs : s.data.toList = bs) (hl : bs.length ≤ 9223372036854775807) :
    Calls Try.prog 37 #[.string s] w fun e w' => e = .returned (.bool (plB bs)) ∧ w = w' := by
  have HC := hid fun w => splain_any s bs w hs hl
  cases bs with
  | nil =>
    obtain rfl := str_nil hs
    clear hs
    go_enter Try.func37, Try.ntmps37
    go_wp2_with fail
    go_ret
    exact ⟨ret_bool (by simp [plB]), rfl⟩
  | cons c r =>
    have hsz : s.size = (c :: r).length := by rw [← hs]; simp
    have hsl := str_list hs
    have h0 : s.toList.isEmpty = false := by rw [hsl]; rfl
    have h1 : (s.toList == []) = false := by rw [hsl]; rfl
    have hp : plB (c :: r) = decide ((plF 0 (c :: r) : Int) = ((c :: r).length : Int)) := by
      simp only [plB]; rw [decide_eq_decide]; constructor
      · intro h; rw [h.2]
      · intro h; exact ⟨by simp, by omega⟩
    have HP := hid hp
    clear hp hs hsl
    generalize (c :: r).length = n at *
    generalize plF 0 (c :: r) = m at *
    go_enter Try.func37, Try.ntmps37
    go_wp2_with (go_at_call 53; refine (HC.out _).mono ?_; rintro e w1 ⟨rfl, rfl⟩)
    go_ret
    exact ⟨ret_bool (by first | exact HP.out.symm | (rw [HP.out]; simp) | (rw [HP.out, Bool.eq_iff_iff]; simp)), rfl⟩
theorem clF_tk {i : Nat} {c : UInt8} {r : List UInt8} : clF true i (c :: r) = clF false (i + 1) r := by rw [clF, if_pos rfl]
theorem clF_34 {i : Nat} {c : UInt8} {r : List UInt8} (h : c.toNat = 34) : clF false i (c :: r) = i + 2 := by rw [clF, if_neg (by simp), if_pos h]
theorem clF_no {i : Nat} {c : UInt8} {r : List UInt8} (h : c.toNat ≠ 34) : clF false i (c :: r) = clF (decide (c.toNat = 92)) (i + 1) r := by rw [clF, if_neg (by simp), if_neg h]
theorem clF_nil (tk : Bool) (i : Nat) : clF tk i [] = 0 := by rw [clF]
def cutE (n : Nat) : Int := if n = 0 then 3 else 0
theorem pre_34 (c : UInt8) (r : List UInt8) : List.isPrefixOf [34] (c :: r) = decide (c.toNat = 34) := by
  rw [List.isPrefixOf, List.isPrefixOf, Bool.and_true, Bool.eq_iff_iff]
  simp only [beq_iff_eq, decide_eq_true_eq]
  constructor
  · rintro rfl; rfl
  · intro h; rw [← b8_self c, h]; rfl
end Go.Proofs.Ytejdlhjbakndaaa
