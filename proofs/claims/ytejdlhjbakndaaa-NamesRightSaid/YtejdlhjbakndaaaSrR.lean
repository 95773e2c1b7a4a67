/- The document's plain, Plain, hex, Quote, Put, Cut (layer 18): walks. -/
import Derived.Test.YtejdlhjbakndaaaProg
import Derived.Test.YtejdlhjbakndaaaM1
import Derived.Test.YtejdlhjbakndaaaSrMath
import Derived.Test.YtejdlhjbakndaaaSrA
import Derived.Test.YtejdlhjbakndaaaSrB
import Derived.Test.YtejdlhjbakndaaaUt
import Derived.Lib.Walk
import Derived.WalkSmall
import Derived.Deep.QuietTactic
import Derived.BigQuiet
import Derived.IntWalk
set_option linter.unusedVariables false
namespace Go.Proofs.Ytejdlhjbakndaaa
open Go.RowKit
def pk2 (f : Bool) (n : Nat) : Bool := alN n || (n == 45 && !f)
theorem pk2_pk (j n : Nat) : pk2 (decide (j = 0)) n = pkN j n := by
  unfold pk2 pkN; congr 1; congr 1; rw [Bool.eq_iff_iff]; simp; omega
set_option maxRecDepth 100000 in
set_option maxHeartbeats 4000000 in
theorem rp18_any (n : Nat) (f : Bool) (w : World) (hn : n < 256) :
    Calls Try.prog 54 #[.int .u8 (n : Int), .bool f] w fun e w' => e = .returned (.bool (pk2 f n)) ∧ w' = w := by
  have hp : pk2 f n = (decide (97 ≤ n ∧ n ≤ 122 ∨ 65 ≤ n ∧ n ≤ 90 ∨ 48 ≤ n ∧ n ≤ 57 ∨ n = 46 ∨ n = 95 ∨ n = 47 ∨ n = 43 ∨ n = 64) || (n == 45 && !f)) := rfl
  have HP := hid hp
  clear hp
  by_cases a1 : 97 ≤ n ∧ n ≤ 122
  · have HQ := hid (show pk2 f n = true from by rw [HP.out]; simp; omega)
    obtain ⟨b1, b2⟩ := a1
    go_enter Try.func54, Try.ntmps54
    go_wp2
    go_ret
    exact ⟨ret_bool HQ.out.symm, rfl⟩
  by_cases a2 : 65 ≤ n ∧ n ≤ 90
  · have HQ := hid (show pk2 f n = true from by rw [HP.out]; simp; omega)
    obtain ⟨b1, b2⟩ := a2
    go_enter Try.func54, Try.ntmps54
    go_wp2
    go_ret
    exact ⟨ret_bool HQ.out.symm, rfl⟩
  by_cases a3 : 48 ≤ n ∧ n ≤ 57
  · have HQ := hid (show pk2 f n = true from by rw [HP.out]; simp; omega)
    obtain ⟨b1, b2⟩ := a3
    go_enter Try.func54, Try.ntmps54
    go_wp2
    go_ret
    exact ⟨ret_bool HQ.out.symm, rfl⟩
  have q1 : (decide ((97 : Int) ≤ (n : Int)) && decide ((n : Int) ≤ 122)) = false := by simp; omega
  have q2 : (decide ((65 : Int) ≤ (n : Int)) && decide ((n : Int) ≤ 90)) = false := by simp; omega
  have q3 : (decide ((48 : Int) ≤ (n : Int)) && decide ((n : Int) ≤ 57)) = false := by simp; omega
  by_cases a4 : n = 46 ∨ n = 95 ∨ n = 47 ∨ n = 43 ∨ n = 64
  · have HQ := hid (show pk2 f n = true from by rw [HP.out]; simp; omega)
    clear HP a1 a2 a3 q1 q2 q3
    rcases a4 with rfl | rfl | rfl | rfl | rfl
    all_goals
      go_enter Try.func54, Try.ntmps54
      go_wp2
      go_ret
      exact ⟨ret_bool HQ.out.symm, rfl⟩
  · have r1 : ((n : Int) == 46) = false := by simp; omega
    have r2 : ((n : Int) == 95) = false := by simp; omega
    have r3 : ((n : Int) == 47) = false := by simp; omega
    have r4 : ((n : Int) == 43) = false := by simp; omega
    have r5 : ((n : Int) == 64) = false := by simp; omega
    have HQ := hid (show pk2 f n = (n == 45 && !f) from by rw [HP.out]; simp; omega)
    clear HP a4
    by_cases h45 : n = 45
    · subst h45
      clear q1 q2 q3 r1 r2 r3 r4 r5 a1 a2 a3
      cases f
      all_goals
        go_enter Try.func54, Try.ntmps54
        go_wp2
        go_ret
        exact ⟨ret_bool HQ.out.symm, rfl⟩
    · have r6 : ((n : Int) == 45) = false := by simp; omega
      have HQ2 := hid (show pk2 f n = false from by rw [HQ.out]; simp [h45])
      clear HQ
      have h4 : n < 48 ∨ (57 < n ∧ n < 65) ∨ (90 < n ∧ n < 97) ∨ 122 < n := by omega
      clear a1 a2 a3
      rcases h4 with h4 | ⟨h4, h5⟩ | ⟨h4, h5⟩ | h4
      all_goals
        go_enter Try.func54, Try.ntmps54
        go_wp2
        go_ret
        exact ⟨ret_bool HQ2.out.symm, rfl⟩
set_option maxRecDepth 100000 in
set_option maxHeartbeats 2000000 in
theorem rPlain_any (s : ByteArray) (bs : List UInt8) (w : World) (hs : s.data.toList = bs) (hl : bs.length ≤ 9223372036854775807) :
    Calls Try.prog 38 #[.string s] w fun e w' => e = .returned (.bool (plB bs)) ∧ w = w' := by
  have hsz : s.size = bs.length := by rw [Lib.size_eq, hs]
  have HSB := hid hs
  clear hs
  have hpl : plB bs = decide (0 < bs.length ∧ plF 0 bs = bs.length) := by
    unfold plB; rw [decide_eq_decide]; rw [List.length_pos_iff]
  have HPL := hid hpl
  clear hpl
  generalize hn : bs.length = n at *
  have HN := hid hn
  clear hn
  go_enter Try.func38, Try.ntmps38
  go_wp2
  go_loop [3] (fun i => ∃ k : Nat, k ≤ n ∧ i = .int .i64 (k : Int) ∧ plF 0 bs = k + plF k (bs.drop k)) (fun i => n - (intOf i).toNat)
  case atStart => exact ⟨0, by omega, rfl, by simp⟩
  case round =>
    obtain ⟨k, hk, rfl, hsc⟩ := hrel
    have HC := hid hsc
    clear hsc
    by_cases hlt : k < n
    · obtain ⟨c, r, hd⟩ := str_cons HN.out hlt
      obtain ⟨hi, hg⟩ := str_at HSB.out hd
      have hx := c.toNat_lt
      have hdn := drop_next hd
      have hm := @plF_more k c r
      have hs := @plF_stop k c r
      have hrl : bs.length = k + 1 + r.length := by have := congrArg List.length hd; simp at this; have := HN.out; omega
      have hp2 := pk2_pk k c.toNat
      have hcall := fun f w => rp18_any c.toNat f w hx
      generalize c.toNat = x at *
      have HD := hid hd
      have HDN := hid hdn
      have HM := hid hm
      have HS := hid hs
      have HP2 := hid hp2
      have HRL := hid hrl
      clear hd hdn hm hs hp2 hrl
      by_cases hp : pkN k x = true
      · have hcl : ∀ w, Calls Try.prog 54 #[.int .u8 (x : Int), .bool (decide (k = 0))] w fun e w' => e = .returned (.bool true) ∧ w' = w := fun w => by have := hcall (decide (k = 0)) w; rwa [HP2.out, hp] at this
        have HP := hid hp
        clear hp hcall
        by_cases hk0 : k = 0
        · rw [show decide (k = 0) = true from by simp [hk0]] at hcl
          have HCL := hid hcl
          have t0 : ((k : Int) == 0) = true := by simp [hk0]
          clear hcl hk0
          go_wp2_with (go_at_call 54; refine (HCL.out _).mono ?_; rintro e w1 ⟨rfl, rfl⟩)
          go_round
          case rel => exact ⟨k + 1, by omega, by go_num, by rw [HC.out, HD.out, HM.out HP.out, HDN.out]; omega⟩
          case measure => simp [intOf] <;> omega
        · rw [show decide (k = 0) = false from by simp [hk0]] at hcl
          have HCL := hid hcl
          have t0 : ((k : Int) == 0) = false := by simp; omega
          clear hcl
          go_wp2_with (go_at_call 54; refine (HCL.out _).mono ?_; rintro e w1 ⟨rfl, rfl⟩)
          go_round
          case rel => exact ⟨k + 1, by omega, by go_num, by rw [HC.out, HD.out, HM.out HP.out, HDN.out]; omega⟩
          case measure => simp [intOf] <;> omega
      · have hp' : pkN k x = false := by simpa using hp
        have hcl : ∀ w, Calls Try.prog 54 #[.int .u8 (x : Int), .bool (decide (k = 0))] w fun e w' => e = .returned (.bool false) ∧ w' = w := fun w => by have := hcall (decide (k = 0)) w; rwa [HP2.out, hp'] at this
        have HP := hid hp'
        have hfin : plB bs = false := by rw [HPL.out, HC.out, HD.out, HS.out hp']; simp; omega
        have HF := hid hfin
        clear hp hp' hcall hfin
        by_cases hk0 : k = 0
        · rw [show decide (k = 0) = true from by simp [hk0]] at hcl
          have HCL := hid hcl
          have t0 : ((k : Int) == 0) = true := by simp [hk0]
          clear hcl hk0
          go_wp2_with (go_at_call 54; refine (HCL.out _).mono ?_; rintro e w1 ⟨rfl, rfl⟩)
          go_ret
          exact ⟨ret_bool HF.out.symm, rfl⟩
        · rw [show decide (k = 0) = false from by simp [hk0]] at hcl
          have HCL := hid hcl
          have t0 : ((k : Int) == 0) = false := by simp; omega
          clear hcl
          go_wp2_with (go_at_call 54; refine (HCL.out _).mono ?_; rintro e w1 ⟨rfl, rfl⟩)
          go_ret
          exact ⟨ret_bool HF.out.symm, rfl⟩
    · have hfin : plB bs = decide (0 < n) := by
        rw [HPL.out, HC.out, List.drop_eq_nil_of_le (by have := HN.out; omega), plF]
        rw [decide_eq_decide]; omega
      have HF := hid hfin
      clear hfin
      go_wp2
      go_ret
      exact ⟨ret_bool (by first | exact HF.out.symm | (rw [HF.out]; simp)), rfl⟩
def hxI (n : Nat) : Int := match hxN n with | some a => (a : Int) | none => -1
end Go.Proofs.Ytejdlhjbakndaaa
