/- frame.measure, Read, Same; bytes.Equal. -/
import Derived.Test.YtgiealcfhlcpoaaFrFn
set_option linter.unusedVariables false
namespace Go.Proofs.Ytgiealcfhlcpoaa
open Go.RowKit
def Fr.mS (bs : List UInt8) : Nat := if Fr.hE bs = 0 then Fr.ln bs + 9 else 0
theorem Fr.n8 {x : UInt8} {k : Nat} (hk : k < 256) : x = UInt8.ofNat k ↔ x.toNat = k := by
  constructor
  · rintro rfl; rw [UInt8.toNat_ofNat']; omega
  · intro h; rw [← h]; exact UInt8.ofNat_toNat.symm
theorem Fr.hE_form {bs : List UInt8} (h : (0 < bs.length ∧ (bs.getD 0 0).toNat ≠ 197) ∨ (1 < bs.length ∧ (bs.getD 1 0).toNat ≠ 154)) : Fr.hE bs = 3 := by
  unfold Fr.hE
  by_cases h0 : 0 < bs.length ∧ bs.getD 0 0 ≠ 197
  · rw [if_pos h0]
  · rw [if_neg h0, if_pos]
    rcases h with ⟨h1, h2⟩ | ⟨h1, h2⟩
    · exact absurd ⟨h1, fun e => h2 (by rw [e]; rfl)⟩ h0
    · exact ⟨h1, fun e => h2 (by rw [e]; rfl)⟩
theorem Fr.hE_five {bs : List UInt8} (h0 : 0 < bs.length → (bs.getD 0 0).toNat = 197) (h1 : 1 < bs.length → (bs.getD 1 0).toNat = 154) : Fr.hE bs = if bs.length < 5 then 4 else if 8192 < Fr.ln bs then 2 else 0 := by
  unfold Fr.hE
  rw [if_neg, if_neg]
  · rintro ⟨a, b⟩; exact b ((Fr.n8 (k := 154) (by omega)).2 (h1 a))
  · rintro ⟨a, b⟩; exact b ((Fr.n8 (k := 197) (by omega)).2 (h0 a))
set_option maxRecDepth 100000 in
set_option maxHeartbeats 4000000 in
theorem fmeasure_any (bs : List UInt8) (n : Nat) (A : Option Addr) (c : Nat) (w : World) (hn : bs.length = n) (hl : n ≤ 9223372036854775807) (hR : BRd w A bs) :
    Calls Try.prog 34 #[.slice A n c] w fun e w' => e = .returned (.tuple #[.int .i64 (Fr.mS bs : Nat), .int .i64 (Fr.hE bs : Nat)]) ∧ w = w' := by
  have HN := hid hn
  have HR := hid hR
  clear hn hR
  go_enter Try.func34, Try.ntmps34
  go_wp2
  go_step3
  go_wp2
  go_step3
  go_wp2
  go_loop [4, 5, 6, 7, 10, 15, 28] (fun s e _ _ i _ _ => ∃ (k : Nat), k ≤ n ∧ i = .int .i64 (k : Int) ∧ k ≤ 4 ∧ s = .int .i64 0 ∧ e = .int .i64 4 ∧ (0 < k → (bs.getD 0 0).toNat = 197) ∧ (1 < k → (bs.getD 1 0).toNat = 154)) (fun _ _ _ _ i _ _ => n - (intOf i).toNat)
  case atStart => exact ⟨0, by omega, rfl, by omega, rfl, rfl, by omega, by omega⟩
  case round =>
    obtain ⟨k, hk, rfl, hk4, rfl, rfl, m0, m1⟩ := hrel
    by_cases hlt : k < n
    · have hkl : k < bs.length := by have := HN.out; omega
      obtain ⟨b, off, rfl, hbl, hc⟩ := HR.out.at_ hkl
      have hgd : bs.getD k 0 = bs[k] := by simp [List.getD, hkl]
      have hx := bs[k].toNat_lt
      have hgd2 : (bs.getD k 0).toNat = bs[k].toNat := by rw [hgd]
      clear hgd
      rcases (by omega : k = 0 ∨ k = 1 ∨ (2 ≤ k ∧ k ≤ 3) ∨ k = 4) with h | h | h | h
      · have e0 : ((k : Int) == 0) = true := by simp [h]
        have e1 : ((k : Int) == 1) = false := by simp [h]
        have e4 : ((k : Int) == 4) = false := by simp [h]
        have HK := hid h
        have M0 := hid m0
        clear m0 m1 h
        by_cases hx0 : bs[k].toNat = 197
        · have hv : (((bs[k].toNat : Nat) : Int) != 197) = false := by simp [hx0]
          have HX := hid (hgd2.trans hx0)
          clear hx0 hgd2
          generalize bs[k].toNat = x at *
          go_wp2
          go_round
          case rel =>
            have hx := HX.out
            rw [HK.out] at hx
            exact ⟨k + 1, by omega, by go_num, by have := HK.out; omega, rfl, rfl, fun _ => hx, fun h => by have := HK.out; omega⟩
          case measure => simp [intOf]; omega
        · have hv : (((bs[k].toNat : Nat) : Int) != 197) = true := by simp; omega
          have hE := Fr.hE_form (bs := bs) (.inl ⟨by have := HK.out; omega, by rw [← HK.out, hgd2]; exact hx0⟩)
          have hS : Fr.mS bs = 0 := by unfold Fr.mS; rw [if_neg (by omega)]
          have HE := hid hE
          have HS := hid hS
          clear hx0 hgd2 hE hS
          generalize bs[k].toNat = x at *
          go_wp2
          go_ret2
          rw [HE.out, HS.out]
          exact ⟨rfl, rfl⟩
      · have e0 : ((k : Int) == 0) = false := by simp [h]
        have e1 : ((k : Int) == 1) = true := by simp [h]
        have e4 : ((k : Int) == 4) = false := by simp [h]
        have HK := hid h
        have M0 := hid m0
        clear m0 m1 h
        by_cases hx0 : bs[k].toNat = 154
        · have hv : (((bs[k].toNat : Nat) : Int) != 154) = false := by simp [hx0]
          have HX := hid (hgd2.trans hx0)
          clear hx0 hgd2
          generalize bs[k].toNat = x at *
          go_wp2
          go_round
          case rel =>
            have hx := HX.out
            rw [HK.out] at hx
            exact ⟨k + 1, by omega, by go_num, by have := HK.out; omega, rfl, rfl, fun _ => M0.out (by have := HK.out; omega), fun _ => hx⟩
          case measure => simp [intOf]; omega
        · have hv : (((bs[k].toNat : Nat) : Int) != 154) = true := by simp; omega
          have hE := Fr.hE_form (bs := bs) (.inr ⟨by have := HK.out; omega, by rw [← HK.out, hgd2]; exact hx0⟩)
          have hS : Fr.mS bs = 0 := by unfold Fr.mS; rw [if_neg (by omega)]
          have HE := hid hE
          have HS := hid hS
          clear hx0 hgd2 hE hS
          generalize bs[k].toNat = x at *
          go_wp2
          go_ret2
          rw [HE.out, HS.out]
          exact ⟨rfl, rfl⟩
      · have e0 : ((k : Int) == 0) = false := by simp; omega
        have e1 : ((k : Int) == 1) = false := by simp; omega
        have e4 : ((k : Int) == 4) = false := by simp; omega
        have HK := hid h
        have M0 := hid m0
        have M1 := hid m1
        clear m0 m1 h hgd2
        generalize bs[k].toNat = x at *
        go_wp2
        go_round
        case rel => exact ⟨k + 1, by omega, by go_num, by have := HK.out; omega, rfl, rfl, fun _ => M0.out (by have := HK.out; omega), fun _ => M1.out (by have := HK.out; omega)⟩
        case measure => simp [intOf]; omega
      · have h3l : 3 < bs.length := by omega
        obtain ⟨b', off', hbb, -, hc3⟩ := HR.out.at_ h3l
        injection hbb with hbb
        injection hbb with hb1 hb2
        subst hb1
        subst hb2
        have e0 : ((k : Int) == 0) = false := by simp [h]
        have e1 : ((k : Int) == 1) = false := by simp [h]
        have e4 : ((k : Int) == 4) = true := by simp [h]
        have ek : (k : Int) - 1 = ((3 : Nat) : Int) := by omega
        have hln : Fr.ln bs = bs[3].toNat + 256 * bs[k].toNat := by
          have h3 : bs.getD 3 0 = bs[3] := by simp [List.getD, h3l]
          unfold Fr.ln
          rw [h3, ← hgd2, h]
        have hx3 := bs[3].toNat_lt
        have hor := i64_or_256 bs[3].toNat bs[k].toNat (by omega) (by omega)
        rw [← hln] at hor
        have hlb : Fr.ln bs ≤ 65535 := by omega
        have HK := hid h
        have M0 := hid m0
        have M1 := hid m1
        have HO := hid hor
        clear m0 m1 h hgd2 hln
        generalize bs[k].toNat = x at *
        generalize bs[3].toNat = y at *
        have h5 := Fr.hE_five (bs := bs) (fun _ => M0.out (by have := HK.out; omega)) (fun _ => M1.out (by have := HK.out; omega))
        rw [if_neg (by omega)] at h5
        have hS : Fr.mS bs = if Fr.hE bs = 0 then Fr.ln bs + 9 else 0 := rfl
        have hsz := fsize_any (Fr.ln bs : Nat) w (by omega) (by omega)
        generalize Fr.ln bs = L at *
        by_cases h8 : 8192 < L
        · rw [if_pos h8] at h5
          rw [if_neg (by omega)] at hS
          have HE := hid h5
          have HS := hid hS
          clear h5 hS
          have hz : Fr.size (L : Int) = 0 := by unfold Fr.size; rw [if_pos (.inr (by omega))]
          rw [hz] at hsz
          have HSZ := hid hsz
          clear hsz hz
          go_wp2_with (go_at_call 39; refine HSZ.out.mono ?_; rintro e w' ⟨rfl, rfl⟩)
          simp only [Exit.noGoto]
          go_ret2
          rw [HE.out, HS.out]
          exact ⟨rfl, rfl⟩
        · rw [if_neg h8] at h5
          rw [if_pos h5] at hS
          have HE := hid h5
          have HS := hid hS
          clear h5 hS
          have hz : Fr.size (L : Int) = (L : Int) + 9 := by unfold Fr.size; rw [if_neg (by omega)]
          rw [hz] at hsz
          have hb9 : ((L : Int) + 9 == 0) = false := by simp; omega
          have HSZ := hid hsz
          clear hsz hz
          go_wp2_with (go_at_call 39; refine HSZ.out.mono ?_; rintro e w' ⟨rfl, rfl⟩)
          simp only [Exit.noGoto]
          go_ret2
          rw [HE.out, HS.out]
          exact ⟨by simp, rfl⟩
    · obtain rfl : k = n := by omega
      have h5 := Fr.hE_five (bs := bs) (by rw [HN.out]; exact m0) (by rw [HN.out]; exact m1)
      rw [if_pos (by have := HN.out; omega)] at h5
      have hS : Fr.mS bs = 0 := by unfold Fr.mS; rw [if_neg (by omega)]
      have HE := hid h5
      have HS := hid hS
      clear h5 hS m0 m1
      go_wp2
      go_ret2
      rw [HE.out, HS.out]
      exact ⟨rfl, rfl⟩
end Go.Proofs.Ytgiealcfhlcpoaa
