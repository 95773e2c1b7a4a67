/- scalar: which bytes are plain, what closes quotes, what a sign stands for: walks. -/
import Derived.Test.YtejdlhjbakndaaaProg
import Derived.Test.YtejdlhjbakndaaaM1
import Derived.Test.YtejdlhjbakndaaaSrMath
import Derived.Lib.Bytealg
import Derived.Lib.Strings
import Derived.Lib.Walk
import Derived.WalkSmall
import Derived.Deep.QuietTactic
import Derived.BigQuiet
import Derived.IntWalk
set_option linter.unusedVariables false
namespace Go.Proofs.Ytejdlhjbakndaaa
open Go.RowKit
/-- The byte at a place of a string. -/
theorem str_at {s : ByteArray} {bs : List UInt8} {k : Nat} {c : UInt8} {r : List UInt8} (hs : s.data.toList = bs) (hd : bs.drop k = c :: r) : ∃ h : k < s.size, ((s[k]'h).toNat : Int) = (c.toNat : Int) := by
  have hk : k < bs.length := by have := congrArg List.length hd; simp at this; omega
  have hz : s.size = bs.length := by rw [← hs]; simp
  refine ⟨by omega, ?_⟩
  have h1 : bs[k] = c := by
    have := List.drop_eq_getElem_cons hk
    rw [hd] at this; injection this with h _; exact h.symm
  have h2 : s[k]'(by omega) = bs[k] := by
    subst hs; simp [ByteArray.getElem_eq_getElem_data]
  rw [h2, h1]
theorem str_cons {bs : List UInt8} {k n : Nat} (hn : bs.length = n) (hk : k < n) : ∃ c r, bs.drop k = c :: r := by
  cases h : bs.drop k with
  | nil => have := congrArg List.length h; simp at this; omega
  | cons c r => exact ⟨c, r, rfl⟩
theorem drop_next {bs : List UInt8} {k : Nat} {c : UInt8} {r : List UInt8} (hd : bs.drop k = c :: r) : bs.drop (k + 1) = r := by
  have : (bs.drop k).drop 1 = bs.drop (k + 1) := by rw [List.drop_drop]
  rw [← this, hd]; rfl
theorem u8_back (x : UInt8) : ((x.toNat : Int)).toNat.toUInt8 = x := by rw [Int.toNat_natCast]; exact UInt8.ofNat_toNat
theorem ix_signs : ∀ n < 256, decide (0 ≤ Lib.indexByte [46, 95, 47, 43, 64] (UInt8.ofNat n)) = decide (n = 46 ∨ n = 95 ∨ n = 47 ∨ n = 43 ∨ n = 64) := by decide +kernel
theorem ix_hex : ∀ n < 256, Lib.indexByte [48, 49, 50, 51, 52, 53, 54, 55, 56, 57, 97, 98, 99, 100, 101, 102] (UInt8.ofNat n) = (match hxN n with | some a => (a : Int) | none => -1) := by decide +kernel
set_option maxRecDepth 100000 in
set_option maxHeartbeats 1000000 in
theorem ixlite_any (s : ByteArray) (x : UInt8) (n : Nat) (w : World) (hn : x.toNat = n) :
    Calls Try.prog 80 #[.string s, .int .u8 (n : Int)] w fun e w' => e = .returned (.int .i64 (Lib.indexByte s.data.toList x)) ∧ w = w' := by
  have hx : ((n : Int)).toNat.toUInt8 = x := by rw [← hn]; exact u8_back x
  have HX := hid hx
  clear hx hn
  go_enter Try.func80, Try.ntmps80
  go_wp2
  rw [run_callFunc_extern Try.func82 (by kernel_rfl) (by kernel_rfl) (by kernel_rfl) (e := Extern.BytealgIndexByte.indexByte) (by kernel_rfl), Lib.run_indexByteString, HX.out]
  simp only [Result.andThen]
  rw [Oper.upon_value]
  go_wp2
  go_ret
  exact ⟨rfl, rfl⟩
set_option maxRecDepth 100000 in
set_option maxHeartbeats 1000000 in
theorem ixb_any (s : ByteArray) (x : UInt8) (n : Nat) (w : World) (hn : x.toNat = n) :
    Calls Try.prog 74 #[.string s, .int .u8 (n : Int)] w fun e w' => e = .returned (.int .i64 (Lib.indexByte s.data.toList x)) ∧ w = w' := by
  have HC := hid fun w => ixlite_any s x n w hn
  clear hn
  go_enter Try.func74, Try.ntmps74
  go_wp2_with fail
  refine (HC.out _).mono ?_
  rintro e w1 ⟨rfl, rfl⟩
  go_wp2
  go_ret
  exact ⟨rfl, rfl⟩
theorem ix_hex' {x : UInt8} {n : Nat} (hn : x.toNat = n) : Lib.indexByte [48, 49, 50, 51, 52, 53, 54, 55, 56, 57, 97, 98, 99, 100, 101, 102] x = (match hxN n with | some a => (a : Int) | none => -1) := by
  have h := ix_hex n (by have := x.toNat_lt; omega)
  rw [← hn, UInt8.ofNat_toNat] at h; rw [← hn]; exact h
theorem ix_signs' {x : UInt8} {n : Nat} (hn : x.toNat = n) : decide (0 ≤ Lib.indexByte [46, 95, 47, 43, 64] x) = decide (n = 46 ∨ n = 95 ∨ n = 47 ∨ n = 43 ∨ n = 64) := by
  have h := ix_signs n (by have := x.toNat_lt; omega)
  rw [← hn, UInt8.ofNat_toNat] at h; rw [← hn]; exact h
set_option maxRecDepth 100000 in
set_option maxHeartbeats 2000000 in
theorem alone_any (x : UInt8) (n : Nat) (w : World) (hn : x.toNat = n) :
    Calls Try.prog 60 #[.int .u8 (n : Int)] w fun e w' => e = .returned (.bool (alN n)) ∧ w = w' := by
  have hc : ∀ w, Calls Try.prog 74 #[.string ⟨#[46, 95, 47, 43, 64]⟩, .int .u8 (n : Int)] w fun e w' => e = .returned (.int .i64 (Lib.indexByte [46, 95, 47, 43, 64] x)) ∧ w = w' := fun w => ixb_any ⟨#[46, 95, 47, 43, 64]⟩ x n w hn
  have h1 := ix_signs' hn
  have hlt : n < 256 := by have := x.toNat_lt; omega
  clear hn
  generalize hj : Lib.indexByte [46, 95, 47, 43, 64] x = j at *
  have HC := hid hc
  have HS := hid h1
  clear hj h1 hc
  by_cases a : 97 ≤ n ∧ n ≤ 122 ∨ 65 ≤ n ∧ n ≤ 90 ∨ 48 ≤ n ∧ n ≤ 57
  · have ha : alN n = true := by simp only [alN, decide_eq_true_eq]; omega
    have HA := hid ha
    clear ha
    rcases a with a | a | a
    all_goals
      obtain ⟨a1, a2⟩ := a
      go_enter Try.func60, Try.ntmps60
      go_wp2
      go_ret
      exact ⟨ret_bool HA.out.symm, rfl⟩
  · have ha : alN n = decide (0 ≤ j) := by rw [HS.out]; simp only [alN, decide_eq_decide]; omega
    have HA := hid ha
    clear ha
    have q1 : (decide ((97 : Int) ≤ (n : Int)) && decide ((n : Int) ≤ 122)) = false := by simp; omega
    by_cases b1 : 97 ≤ n
    all_goals by_cases b2 : 65 ≤ n
    all_goals by_cases b3 : 48 ≤ n
    all_goals first | (exfalso; omega) | skip
    all_goals
      go_enter Try.func60, Try.ntmps60
      go_wp2_with (go_at_call 74; refine (HC.out _).mono ?_; rintro e w1 ⟨rfl, rfl⟩)
      go_ret
      exact ⟨ret_bool (by have h := HA.out; first | exact h.symm | (rw [h, Bool.eq_iff_iff]; simp <;> omega)), rfl⟩
set_option maxRecDepth 100000 in
set_option maxHeartbeats 2000000 in
theorem splain_any (s : ByteArray) (bs : List UInt8) (w : World) (hs : s.data.toList = bs) (hl : bs.length ≤ 9223372036854775807) :
    Calls Try.prog 53 #[.string s] w fun e w' => e = .returned (.int .i64 (plF 0 bs : Nat)) ∧ w = w' := by
  have hsz : s.size = bs.length := by rw [← hs]; simp
  have HSB := hid hs
  clear hs
  generalize hn : bs.length = n at *
  have HN := hid hn
  clear hn
  go_enter Try.func53, Try.ntmps53
  go_wp2
  go_step3
  go_wp2
  go_step3
  go_wp2
  go_loop [3, 4, 8] (fun m _ i => ∃ k : Nat, k ≤ n ∧ m = .int .i64 (k : Int) ∧ i = .int .i64 (k : Int) ∧ plF 0 bs = k + plF k (bs.drop k)) (fun _ _ i => n - (intOf i).toNat)
  case atStart => exact ⟨0, by omega, rfl, rfl, by simp⟩
  case round =>
    obtain ⟨k, hk, rfl, rfl, hsc⟩ := hrel
    have HC := hid hsc
    clear hsc
    by_cases hlt : k < n
    · obtain ⟨c, r, hd⟩ := str_cons HN.out hlt
      obtain ⟨hi, hg⟩ := str_at HSB.out hd
      have hx := c.toNat_lt
      have hdn := drop_next hd
      have hm := @plF_more k c r
      have hs := @plF_stop k c r
      have hal := fun w => alone_any c c.toNat w rfl
      generalize c.toNat = x at *
      have HD := hid hd
      have HDN := hid hdn
      have HM := hid hm
      have HS := hid hs
      have HAL := hid hal
      clear hd hdn hm hs hal
      by_cases ha : alN x = true
      · have hp : pkN k x = true := by simp [pkN, ha]
        have HP := hid hp
        have hal2 : ∀ w, Calls Try.prog 60 #[.int .u8 (x : Int)] w fun e w' => e = .returned (.bool true) ∧ w = w' := fun w => by have := HAL.out w; rwa [ha] at this
        have HAL2 := hid hal2
        clear hp hal2 ha
        go_wp2_with fail
        refine (HAL2.out _).mono ?_
        rintro e w1 ⟨rfl, rfl⟩
        go_wp2
        go_round
        case rel => exact ⟨k + 1, by omega, by go_num, by go_num, by rw [HC.out, HD.out, HM.out HP.out, HDN.out]; omega⟩
        case measure => simp [intOf] <;> omega
      · have hal2 : ∀ w, Calls Try.prog 60 #[.int .u8 (x : Int)] w fun e w' => e = .returned (.bool false) ∧ w = w' := fun w => by have := HAL.out w; rwa [show alN x = false from by simpa using ha] at this
        have HA := hid (show alN x = false from by simpa using ha)
        have HAL2 := hid hal2
        clear hal2 ha
        by_cases h45 : x = 45
        · by_cases hk0 : 0 < k
          · have HP := hid (show pkN k x = true from by simp [pkN, h45, hk0])
            subst h45
            go_wp2_with fail
            refine (HAL2.out _).mono ?_
            rintro e w1 ⟨rfl, rfl⟩
            go_wp2
            go_round
            case rel => exact ⟨k + 1, by omega, by go_num, by go_num, by rw [HC.out, HD.out, HM.out HP.out, HDN.out]; omega⟩
            case measure => simp [intOf] <;> omega
          · obtain rfl : k = 0 := by omega
            have HP := hid (show pkN 0 x = false from by simp [pkN, HA.out])
            subst h45
            go_wp2_with fail
            refine (HAL2.out _).mono ?_
            rintro e w1 ⟨rfl, rfl⟩
            go_wp2
            rw [Exit.noGoto_ret]
            go_ret
            exact ⟨ret_int (by rw [HC.out, HD.out, HS.out HP.out]; rfl), rfl⟩
        · have HP := hid (show pkN k x = false from by simp [pkN, HA.out, h45])
          have q45 : ((x : Int) == 45) = false := by simp; omega
          go_wp2_with fail
          refine (HAL2.out _).mono ?_
          rintro e w1 ⟨rfl, rfl⟩
          go_wp2
          rw [Exit.noGoto_ret]
          go_ret
          exact ⟨ret_int (by rw [HC.out, HD.out, HS.out HP.out]; rfl), rfl⟩
    · go_wp2
      go_ret
      exact ⟨ret_int (by rw [HC.out, List.drop_eq_nil_of_le (by have := HN.out; omega), plF]; rfl), rfl⟩
end Go.Proofs.Ytejdlhjbakndaaa
