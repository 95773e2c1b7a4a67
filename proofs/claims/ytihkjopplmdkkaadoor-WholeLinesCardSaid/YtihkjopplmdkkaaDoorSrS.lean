/- The document's Quote, Put, Cut (layer 18): walks. -/
import Derived.Test.YtihkjopplmdkkaaDoorProg
import Derived.Test.YtihkjopplmdkkaaDoorM1
import Derived.Test.YtihkjopplmdkkaaDoorSrMath
import Derived.Test.YtihkjopplmdkkaaDoorSrA
import Derived.Test.YtihkjopplmdkkaaDoorSrB
import Derived.Test.YtihkjopplmdkkaaDoorSrC
import Derived.Test.YtihkjopplmdkkaaDoorSrD
import Derived.Test.YtihkjopplmdkkaaDoorSrR
import Derived.Test.YtihkjopplmdkkaaDoorUt
import Derived.Lib.Walk
import Derived.WalkSmall
import Derived.Deep.QuietTactic
import Derived.BigQuiet
import Derived.IntWalk
set_option linter.unusedVariables false
namespace Go.Proofs.YtihkjopplmdkkaaDoor
open Go.RowKit
set_option maxRecDepth 100000 in
set_option maxHeartbeats 4000000 in
theorem rCut_any (s : ByteArray) (bs : List UInt8) (w : World) (hs : s.data.toList = bs) (hl : bs.length ≤ 100000) :
    Calls Tryd.prog 24 #[.string s] w fun e w' => e = .returned (.tuple #[.int .i64 (cutN bs : Nat), .int .i64 (cutE (cutN bs))]) ∧ w = w' := by
  cases bs with
  | nil =>
    obtain rfl := str_nil hs
    clear hs
    go_enter Tryd.func24, Tryd.ntmps24
    go_wp2
    go_ret2
    exact ⟨rfl, rfl⟩
  | cons c0 r0 =>
    have hsz : s.size = r0.length + 1 := by rw [Lib.size_eq, hs]; simp
    have hsl := str_list hs
    have h0 : s.toList.isEmpty = false := by rw [hsl]; rfl
    have h1 : (s.toList == []) = false := by rw [hsl]; rfl
    obtain ⟨hi0, hg0⟩ := str_at (k := 0) hs rfl
    have hcl := c0.toNat_lt
    simp only [List.length_cons] at hl
    clear hsl
    by_cases h34 : c0.toNat = 34
    · have hcut : cutN (c0 :: r0) = clF false 0 r0 := by rw [cutN, if_pos h34]
      have HCUT := hid hcut
      rw [h34] at hg0
      have HSB := hid hs
      have hdr : ∀ k, 1 ≤ k → (c0 :: r0).drop k = r0.drop (k - 1) := by
        intro k hk; obtain ⟨j, rfl⟩ : ∃ j, k = j + 1 := ⟨k - 1, by omega⟩; rfl
      have HDR := hid hdr
      clear hs hcut h34 hdr
      generalize hn : r0.length = n at *
      have HN := hid hn
      clear hn
      go_enter Tryd.func24, Tryd.ntmps24
      go_wp2
      go_loop [5] (fun i => ∃ k : Nat, 1 ≤ k ∧ k ≤ n + 2 ∧ i = .int .i64 (k : Int) ∧ clF false 0 r0 = clF false (k - 1) (r0.drop (k - 1))) (fun i => n + 2 - (intOf i).toNat)
      case atStart => exact ⟨1, by omega, by omega, rfl, by simp⟩
      case round =>
        obtain ⟨k, hk1, hk, rfl, hsc⟩ := hrel
        have HC := hid hsc
        clear hsc
        by_cases hlt : k < n + 1
        · obtain ⟨c, r, hd⟩ := str_cons HN.out (show k - 1 < n by omega)
          obtain ⟨hi, hg⟩ := str_at (k := k) HSB.out (by rw [HDR.out k hk1]; exact hd)
          have hx := c.toNat_lt
          have hdn := drop_next hd
          have e34 := @clF_34 (k - 1) c r
          have hno := @clF_no (k - 1) c r
          generalize c.toNat = x at *
          have HD := hid hd
          have HDN := hid hdn
          have H34 := hid e34
          have HNO := hid hno
          clear hd hdn e34 hno
          by_cases h : x = 34
          · have hfin : cutN (c0 :: r0) = k + 1 := by rw [HCUT.out, HC.out, HD.out, H34.out h]; omega
            have HF := hid hfin
            have q : ((x : Int) == 34) = true := by simp [h]
            have q' : ((x : Int) != 34) = false := by simp [h]
            clear h hfin
            go_wp2
            go_ret2
            exact ⟨by rw [HF.out]; simp [cutE], rfl⟩
          · have q : ((x : Int) == 34) = false := by simp; omega
            have q' : ((x : Int) != 34) = true := by simp; omega
            by_cases h2 : x = 92
            · have q2 : ((x : Int) == 92) = true := by simp [h2]
              have hstep : clF false 0 r0 = clF false (k + 1) (r0.drop (k + 1)) := by
                rw [HC.out, HD.out, HNO.out h, show decide (x = 92) = true from by simp [h2]]
                have e1 : r0.drop (k + 1) = r.drop 1 := by rw [← HDN.out, List.drop_drop]; congr 1; omega
                rw [e1, show k - 1 + 1 = k from by omega]
                cases r with
                | nil => simp [clF_nil]
                | cons d q => rw [clF_tk]; rfl
              have HST := hid hstep
              clear hstep h2
              go_wp2
              go_round
              case rel => exact ⟨k + 2, by omega, by omega, by go_num, by rw [HST.out]; rfl⟩
              case measure => simp [intOf] <;> omega
            · have q2 : ((x : Int) == 92) = false := by simp; omega
              have hstep : clF false 0 r0 = clF false (k + 1 - 1) (r0.drop (k + 1 - 1)) := by
                rw [HC.out, HD.out, HNO.out h, show decide (x = 92) = false from by simp [h2]]
                have e1 : r0.drop (k + 1 - 1) = r := by rw [← HDN.out]; congr 1; omega
                rw [e1, show k - 1 + 1 = k + 1 - 1 from by omega]
              have HST := hid hstep
              clear hstep
              go_wp2
              go_round
              case rel => exact ⟨k + 1, by omega, by omega, by go_num, HST.out⟩
              case measure => simp [intOf] <;> omega
        · have hfin : cutN (c0 :: r0) = 0 := by rw [HCUT.out, HC.out, List.drop_eq_nil_of_le (by have := HN.out; omega), clF_nil]
          have HF := hid hfin
          have q : decide (n + 1 ≤ k) = true := by simp; omega
          clear hfin
          go_wp2
          go_ret2
          exact ⟨by rw [HF.out]; rfl, rfl⟩
    · have hcut : cutN (c0 :: r0) = plF 0 (c0 :: r0) := by rw [cutN, if_neg h34]
      have HCUT := hid hcut
      have HSB := hid hs
      clear hs hcut
      have hln : (c0 :: r0).length = r0.length + 1 := rfl
      generalize hbs : c0 :: r0 = bs at *
      generalize c0.toNat = x0 at *
      have q : ((x0 : Int) == 34) = false := by simp; omega
      have q' : ((x0 : Int) != 34) = true := by simp; omega
      clear hbs h34
      generalize r0.length = m at *
      obtain ⟨n, hnm⟩ : ∃ n, m + 1 = n := ⟨_, rfl⟩
      rw [hnm] at hsz hln
      have HN := hid hln
      have hn1 : 0 < n := by omega
      have hnl : n ≤ 100000 := by omega
      clear hln hnm
      go_enter Tryd.func24, Tryd.ntmps24
      go_wp2
      go_loop [4] (fun i => ∃ k : Nat, k ≤ n ∧ i = .int .i64 (k : Int) ∧ plF 0 bs = k + plF k (bs.drop k)) (fun i => n - (intOf i).toNat)
      case atStart => exact ⟨0, by omega, rfl, by simp⟩
      case round =>
        obtain ⟨k, hk, rfl, hsc⟩ := hrel
        have HC := hid hsc
        clear hsc
        have hend : ∀ z, plF 0 bs = z → cutN bs = z := fun z h => by rw [HCUT.out, h]
        by_cases hlt : k < n
        · obtain ⟨c, r, hd⟩ := str_cons HN.out hlt
          obtain ⟨hi, hg⟩ := str_at HSB.out hd
          have hx := c.toNat_lt
          have hdn := drop_next hd
          have hm := @plF_more k c r
          have hs := @plF_stop k c r
          have hp2 := pk2_pk k c.toNat
          have hcall := fun f w => rp18_any c.toNat f w hx
          generalize c.toNat = x at *
          have HD := hid hd
          have HDN := hid hdn
          have HM := hid hm
          have HS := hid hs
          have HP2 := hid hp2
          have HE := hid hend
          clear hd hdn hm hs hp2 hend
          by_cases hp : pkN k x = true
          · have hcl : ∀ w, Calls Tryd.prog 54 #[.int .u8 (x : Int), .bool (decide (k = 0))] w fun e w' => e = .returned (.bool true) ∧ w' = w := fun w => by have := hcall (decide (k = 0)) w; rwa [HP2.out, hp] at this
            have HP := hid hp
            clear hp hcall
            by_cases hk0 : k = 0
            · rw [show decide (k = 0) = true from by simp [hk0]] at hcl
              have HCL := hid hcl
              have t0 : ((k : Int) == 0) = true := by simp [hk0]
              clear hcl hk0
              go_wp2_with (go_at_call 54; refine (HCL.out _).mono ?_; rintro e w1 ⟨rfl, rfl⟩)
              go_round
              case rel => exact ⟨k + 1, by omega, by go_num, by have h := HC.out; rw [HD.out, HM.out HP.out] at h; rw [HDN.out]; omega⟩
              case measure => simp [intOf] <;> omega
            · rw [show decide (k = 0) = false from by simp [hk0]] at hcl
              have HCL := hid hcl
              have t0 : ((k : Int) == 0) = false := by simp; omega
              clear hcl
              go_wp2_with (go_at_call 54; refine (HCL.out _).mono ?_; rintro e w1 ⟨rfl, rfl⟩)
              go_round
              case rel => exact ⟨k + 1, by omega, by go_num, by have h := HC.out; rw [HD.out, HM.out HP.out] at h; rw [HDN.out]; omega⟩
              case measure => simp [intOf] <;> omega
          · have hp' : pkN k x = false := by simpa using hp
            have hcl : ∀ w, Calls Tryd.prog 54 #[.int .u8 (x : Int), .bool (decide (k = 0))] w fun e w' => e = .returned (.bool false) ∧ w' = w := fun w => by have := hcall (decide (k = 0)) w; rwa [HP2.out, hp'] at this
            have HF := hid (HE.out k (by rw [HC.out, HD.out, HS.out hp']; rfl))
            clear hp hp' hcall
            by_cases hk0 : k = 0
            · rw [show decide (k = 0) = true from by simp [hk0]] at hcl
              have HCL := hid hcl
              have t0 : ((k : Int) == 0) = true := by simp [hk0]
              have HF2 := hid (show cutN bs = 0 from by rw [HF.out, hk0])
              clear hcl hk0
              go_wp2_with (go_at_call 54; refine (HCL.out _).mono ?_; rintro e w1 ⟨rfl, rfl⟩)
              go_ret2
              exact ⟨by rw [HF2.out]; rfl, rfl⟩
            · rw [show decide (k = 0) = false from by simp [hk0]] at hcl
              have HCL := hid hcl
              have t0 : ((k : Int) == 0) = false := by simp; omega
              clear hcl
              go_wp2_with (go_at_call 54; refine (HCL.out _).mono ?_; rintro e w1 ⟨rfl, rfl⟩)
              go_ret2
              exact ⟨by rw [HF.out, cutE, if_neg hk0]; rfl, rfl⟩
        · have HF := hid (hend n (by rw [HC.out, List.drop_eq_nil_of_le (by have := HN.out; omega), plF]; omega))
          obtain rfl : k = n := by omega
          have t0 : ((k : Int) == 0) = false := by simp; omega
          have hk0 : k ≠ 0 := by omega
          clear hend
          go_wp2
          go_ret2
          exact ⟨by rw [HF.out, cutE, if_neg hk0]; rfl, rfl⟩
end Go.Proofs.YtihkjopplmdkkaaDoor
