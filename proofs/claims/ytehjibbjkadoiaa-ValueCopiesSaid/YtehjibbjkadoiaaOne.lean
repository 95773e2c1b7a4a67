/- The document's One (layer 3): a walk. -/
import Derived.Test.YtehjibbjkadoiaaProg
import Derived.Test.YtehjibbjkadoiaaM1
import Derived.Test.YtehjibbjkadoiaaRune
set_option linter.unusedVariables false
namespace Go.Proofs.Ytehjibbjkadoiaa
open Go.RowKit
theorem conts_at {r : List UInt8} {k k' m j : Nat} (hk : k = k' + 1) (hj : 1 ≤ j) (hr : j - 1 < r.length) :
    conts k m (r.drop (j - 1)) = if r[j - 1].toNat < 128 ∨ 192 ≤ r[j - 1].toNat then none else conts k' (m * 64 + r[j - 1].toNat - 128) (r.drop (j + 1 - 1)) := by
  subst hk
  rw [List.drop_eq_getElem_cons hr, conts, show j - 1 + 1 = j + 1 - 1 from by omega]
set_option maxRecDepth 100000 in
set_option maxHeartbeats 4000000 in
theorem one_any (s : ByteArray) (bs r : List UInt8) (at' : Nat) (c : UInt8) (w : World) (hs : s.data.toList = bs) (hl : bs.length ≤ 9223372036854775807) (hd : bs.drop at' = c :: r) :
    Calls Try.prog 109 #[.string s, .int .i64 (at' : Int)] w fun e w' => e = .returned (.tuple #[.int .i64 ((oneL (c :: r)).1 : Int), .int .i32 ((oneL (c :: r)).2 : Int)]) ∧ w = w' := by
  have hat : at' < bs.length := by
    have := congrArg List.length hd; simp at this; omega
  have hrl : bs.length = at' + 1 + r.length := by
    have := congrArg List.length hd; simp at this; omega
  have hsz : s.size = at' + 1 + r.length := by rw [← hrl, ← hs]; simp
  have hgen : ∀ j (h : at' + j < s.size), (c :: r)[j]? = some (s[at' + j]'h) := by
    intro j h
    rw [← hd, List.getElem?_drop, ← hs, Array.getElem?_toList]
    exact Array.getElem?_eq_getElem _
  have hg0 : ∀ h : at' < s.size, ((s[at']'h).toNat : Int) = (c.toNat : Int) := by
    intro h
    have := hgen 0 h; simp at this; rw [this]
  have hat2 : ∀ j, 1 ≤ j → ∀ (hj : j - 1 < r.length) (h : at' + j < s.size), ((s[at' + j]'h).toNat : Int) = (r[j - 1].toNat : Int) := by
    intro j h1 hj h
    have := hgen j h
    obtain ⟨i, rfl⟩ : ∃ i, j = i + 1 := ⟨j - 1, by omega⟩
    simp at this
    simp only [Nat.add_sub_cancel] at hj ⊢
    rw [List.getElem?_eq_getElem hj] at this
    injection this with this
    rw [this]
  have hx := c.toNat_lt
  have hi : at' < s.size := by omega
  have hg : ((s[at']'hi).toNat : Int) = (c.toNat : Int) := hg0 hi
  clear hgen hg0
  have hll : at' + 1 + r.length ≤ 9223372036854775807 := by omega
  generalize hcx : c.toNat = x at *
  have HD := hid hd
  have HSB := hid hs
  have HCX := hid hcx
  have HA2 := hid hat2
  clear hd hs hl hrl hat hat2
  by_cases a1 : x < 128
  · go_enter Try.func109, Try.ntmps109
    go_wp2
    go_ret2
    simp [oneL, hcx, a1]
  by_cases a2 : x < 192
  · go_enter Try.func109, Try.ntmps109
    go_wp2
    go_ret2
    simp [oneL, hcx, a1, a2]
  by_cases a3 : x < 224
  · have q0 : decide ((x : Int) < 128) = false := by simp; omega
    have q1 : decide ((192 : Int) ≤ (x : Int)) = true := by simp; omega
    have q2 : decide ((x : Int) < 224) = true := by simp; omega
    have hone : oneL (c :: r) = tl 1 (x - 192) 128 r := by simp only [oneL, hcx]; rw [if_neg a1, if_neg a2, if_pos a3]
    have HO := hid hone
    clear hone
    by_cases hlen : r.length < 1
    · go_enter Try.func109, Try.ntmps109
      go_wp2
      go_ret2
      rw [HO.out]; simp [tl, hlen]
    · go_enter Try.func109, Try.ntmps109
      go_wp2
      go_loop [4, 5, 8, 10, 11] (fun _ _ n i _ => ∃ j m : Nat, 1 ≤ j ∧ j ≤ 2 ∧ i = .int .i64 (j : Int) ∧ n = .int .i32 (m : Int) ∧ m < 32 * 64 ^ (j - 1) ∧ conts 1 (x - 192) r = conts (2 - j) m (r.drop (j - 1))) (fun _ _ _ i _ => 2 - (intOf i).toNat)
      case atStart => exact ⟨1, x - 192, by omega, by omega, rfl, by go_num, by omega, rfl⟩
      case round =>
        obtain ⟨j, m, hj1, hj2, rfl, rfl, hm, hcs⟩ := hrel
        have HC := hid hcs
        clear hcs
        by_cases hlt : j ≤ 1
        · have hjr : j - 1 < r.length := by omega
          have hm3 : m < 131072 := by
            have : (64 : Nat) ^ (j - 1) ≤ 64 ^ 2 := Nat.pow_le_pow_right (by omega) (by omega)
            omega
          have hpw : 32 * 64 ^ (j + 1 - 1) = 32 * 64 ^ (j - 1) * 64 := by rw [show j + 1 - 1 = (j - 1) + 1 from by omega, Nat.pow_succ, Nat.mul_assoc]
          have hmm : m * 64 + 64 ≤ 32 * 64 ^ (j - 1) * 64 := by omega
          have hab : at' + j < s.size := by omega
          have hgj : ((s[at' + j]'hab).toNat : Int) = (r[j - 1].toNat : Int) := HA2.out j hj1 hjr hab
          have hst : conts (2 - j) m (r.drop (j - 1)) = if r[j - 1].toNat < 128 ∨ 192 ≤ r[j - 1].toNat then none else conts (2 - (j + 1)) (m * 64 + r[j - 1].toNat - 128) (r.drop (j + 1 - 1)) := conts_at (k := 2 - j) (k' := 2 - (j + 1)) (by omega) hj1 hjr
          have hy := r[j - 1].toNat_lt
          generalize r[j - 1].toNat = y at *
          have HS := hid hst
          have HP := hid hpw
          have HM := hid hm
          clear hst hpw hm
          by_cases y1 : y < 128
          · go_wp2
            go_ret2
            rw [HO.out, tl, if_neg hlen, HC.out, HS.out, if_pos (.inl y1)]
            exact ⟨rfl, rfl⟩
          by_cases y2 : 192 ≤ y
          · go_wp2
            go_ret2
            rw [HO.out, tl, if_neg hlen, HC.out, HS.out, if_pos (.inr y2)]
            exact ⟨rfl, rfl⟩
          · go_wp2
            go_round
            case rel => exact ⟨j + 1, m * 64 + y - 128, by omega, by omega, by go_num, by go_num, by rw [HP.out]; omega, by rw [HC.out, HS.out, if_neg (by omega)]⟩
            case measure => simp [intOf] <;> omega
        · obtain rfl : j = 2 := by omega
          have hm3 : m < 8388608 := by omega
          have hfin : oneL (c :: r) = if m < 128 ∨ ¬ runeI m then (0, 0) else (2, m) := by
            rw [HO.out, tl, if_neg hlen, HC.out]; simp [conts]
          have HF := hid hfin
          clear hfin hm
          by_cases m1 : m < 128
          · go_wp2
            go_ret2
            rw [HF.out, if_pos (.inl m1)]
            exact ⟨rfl, rfl⟩
          · have p1 : decide ((m : Int) < 128) = false := by simp; omega
            have M1 := hid m1
            clear m1
            by_cases m2 : runeI m = true
            · go_wp2_with fail
              refine (rune_any (m : Int) _ (by omega) (by omega)).mono ?_
              rintro e w1 ⟨rfl, rfl⟩
              simp only [m2]
              have M2 := hid m2
              clear m2
              go_wp2
              go_ret2
              rw [HF.out, if_neg (by simp [M1.out, M2.out])]
              exact ⟨rfl, rfl⟩
            · have m3 : runeI m = false := by simpa using m2
              go_wp2_with fail
              refine (rune_any (m : Int) _ (by omega) (by omega)).mono ?_
              rintro e w1 ⟨rfl, rfl⟩
              simp only [m3]
              go_wp2
              go_ret2
              rw [HF.out, if_pos (by simp [m3])]
              exact ⟨rfl, rfl⟩
  by_cases a4 : x < 240
  · have q0 : decide ((x : Int) < 128) = false := by simp; omega
    have q1 : decide ((192 : Int) ≤ (x : Int)) = true := by simp; omega
    have q2 : decide ((x : Int) < 224) = false := by simp; omega
    have q3 : decide ((224 : Int) ≤ (x : Int)) = true := by simp; omega
    have q4 : decide ((x : Int) < 240) = true := by simp; omega
    have hone : oneL (c :: r) = tl 2 (x - 224) 2048 r := by simp only [oneL, hcx]; rw [if_neg a1, if_neg a2, if_neg a3, if_pos a4]
    have HO := hid hone
    clear hone
    by_cases hlen : r.length < 2
    · go_enter Try.func109, Try.ntmps109
      go_wp2
      go_ret2
      rw [HO.out]; simp [tl, hlen]
    · go_enter Try.func109, Try.ntmps109
      go_wp2
      go_loop [4, 5, 8, 10, 11] (fun _ _ n i _ => ∃ j m : Nat, 1 ≤ j ∧ j ≤ 3 ∧ i = .int .i64 (j : Int) ∧ n = .int .i32 (m : Int) ∧ m < 32 * 64 ^ (j - 1) ∧ conts 2 (x - 224) r = conts (3 - j) m (r.drop (j - 1))) (fun _ _ _ i _ => 3 - (intOf i).toNat)
      case atStart => exact ⟨1, x - 224, by omega, by omega, rfl, by go_num, by omega, rfl⟩
      case round =>
        obtain ⟨j, m, hj1, hj2, rfl, rfl, hm, hcs⟩ := hrel
        have HC := hid hcs
        clear hcs
        by_cases hlt : j ≤ 2
        · have hjr : j - 1 < r.length := by omega
          have hm3 : m < 131072 := by
            have : (64 : Nat) ^ (j - 1) ≤ 64 ^ 2 := Nat.pow_le_pow_right (by omega) (by omega)
            omega
          have hpw : 32 * 64 ^ (j + 1 - 1) = 32 * 64 ^ (j - 1) * 64 := by rw [show j + 1 - 1 = (j - 1) + 1 from by omega, Nat.pow_succ, Nat.mul_assoc]
          have hmm : m * 64 + 64 ≤ 32 * 64 ^ (j - 1) * 64 := by omega
          have hab : at' + j < s.size := by omega
          have hgj : ((s[at' + j]'hab).toNat : Int) = (r[j - 1].toNat : Int) := HA2.out j hj1 hjr hab
          have hst : conts (3 - j) m (r.drop (j - 1)) = if r[j - 1].toNat < 128 ∨ 192 ≤ r[j - 1].toNat then none else conts (3 - (j + 1)) (m * 64 + r[j - 1].toNat - 128) (r.drop (j + 1 - 1)) := conts_at (k := 3 - j) (k' := 3 - (j + 1)) (by omega) hj1 hjr
          have hy := r[j - 1].toNat_lt
          generalize r[j - 1].toNat = y at *
          have HS := hid hst
          have HP := hid hpw
          have HM := hid hm
          clear hst hpw hm
          by_cases y1 : y < 128
          · go_wp2
            go_ret2
            rw [HO.out, tl, if_neg hlen, HC.out, HS.out, if_pos (.inl y1)]
            exact ⟨rfl, rfl⟩
          by_cases y2 : 192 ≤ y
          · go_wp2
            go_ret2
            rw [HO.out, tl, if_neg hlen, HC.out, HS.out, if_pos (.inr y2)]
            exact ⟨rfl, rfl⟩
          · go_wp2
            go_round
            case rel => exact ⟨j + 1, m * 64 + y - 128, by omega, by omega, by go_num, by go_num, by rw [HP.out]; omega, by rw [HC.out, HS.out, if_neg (by omega)]⟩
            case measure => simp [intOf] <;> omega
        · obtain rfl : j = 3 := by omega
          have hm3 : m < 8388608 := by omega
          have hfin : oneL (c :: r) = if m < 2048 ∨ ¬ runeI m then (0, 0) else (3, m) := by
            rw [HO.out, tl, if_neg hlen, HC.out]; simp [conts]
          have HF := hid hfin
          clear hfin hm
          by_cases m1 : m < 2048
          · go_wp2
            go_ret2
            rw [HF.out, if_pos (.inl m1)]
            exact ⟨rfl, rfl⟩
          · have p1 : decide ((m : Int) < 2048) = false := by simp; omega
            have M1 := hid m1
            clear m1
            by_cases m2 : runeI m = true
            · go_wp2_with fail
              refine (rune_any (m : Int) _ (by omega) (by omega)).mono ?_
              rintro e w1 ⟨rfl, rfl⟩
              simp only [m2]
              have M2 := hid m2
              clear m2
              go_wp2
              go_ret2
              rw [HF.out, if_neg (by simp [M1.out, M2.out])]
              exact ⟨rfl, rfl⟩
            · have m3 : runeI m = false := by simpa using m2
              go_wp2_with fail
              refine (rune_any (m : Int) _ (by omega) (by omega)).mono ?_
              rintro e w1 ⟨rfl, rfl⟩
              simp only [m3]
              go_wp2
              go_ret2
              rw [HF.out, if_pos (by simp [m3])]
              exact ⟨rfl, rfl⟩
  by_cases a5 : x < 248
  · have q0 : decide ((x : Int) < 128) = false := by simp; omega
    have q1 : decide ((192 : Int) ≤ (x : Int)) = true := by simp; omega
    have q2 : decide ((x : Int) < 224) = false := by simp; omega
    have q3 : decide ((224 : Int) ≤ (x : Int)) = true := by simp; omega
    have q4 : decide ((x : Int) < 240) = false := by simp; omega
    have q5 : decide ((240 : Int) ≤ (x : Int)) = true := by simp; omega
    have q6 : decide ((x : Int) < 248) = true := by simp; omega
    have hone : oneL (c :: r) = tl 3 (x - 240) 65536 r := by simp only [oneL, hcx]; rw [if_neg a1, if_neg a2, if_neg a3, if_neg a4, if_pos a5]
    have HO := hid hone
    clear hone
    by_cases hlen : r.length < 3
    · go_enter Try.func109, Try.ntmps109
      go_wp2
      go_ret2
      rw [HO.out]; simp [tl, hlen]
    · go_enter Try.func109, Try.ntmps109
      go_wp2
      go_loop [4, 5, 8, 10, 11] (fun _ _ n i _ => ∃ j m : Nat, 1 ≤ j ∧ j ≤ 4 ∧ i = .int .i64 (j : Int) ∧ n = .int .i32 (m : Int) ∧ m < 32 * 64 ^ (j - 1) ∧ conts 3 (x - 240) r = conts (4 - j) m (r.drop (j - 1))) (fun _ _ _ i _ => 4 - (intOf i).toNat)
      case atStart => exact ⟨1, x - 240, by omega, by omega, rfl, by go_num, by omega, rfl⟩
      case round =>
        obtain ⟨j, m, hj1, hj2, rfl, rfl, hm, hcs⟩ := hrel
        have HC := hid hcs
        clear hcs
        by_cases hlt : j ≤ 3
        · have hjr : j - 1 < r.length := by omega
          have hm3 : m < 131072 := by
            have : (64 : Nat) ^ (j - 1) ≤ 64 ^ 2 := Nat.pow_le_pow_right (by omega) (by omega)
            omega
          have hpw : 32 * 64 ^ (j + 1 - 1) = 32 * 64 ^ (j - 1) * 64 := by rw [show j + 1 - 1 = (j - 1) + 1 from by omega, Nat.pow_succ, Nat.mul_assoc]
          have hmm : m * 64 + 64 ≤ 32 * 64 ^ (j - 1) * 64 := by omega
          have hab : at' + j < s.size := by omega
          have hgj : ((s[at' + j]'hab).toNat : Int) = (r[j - 1].toNat : Int) := HA2.out j hj1 hjr hab
          have hst : conts (4 - j) m (r.drop (j - 1)) = if r[j - 1].toNat < 128 ∨ 192 ≤ r[j - 1].toNat then none else conts (4 - (j + 1)) (m * 64 + r[j - 1].toNat - 128) (r.drop (j + 1 - 1)) := conts_at (k := 4 - j) (k' := 4 - (j + 1)) (by omega) hj1 hjr
          have hy := r[j - 1].toNat_lt
          generalize r[j - 1].toNat = y at *
          have HS := hid hst
          have HP := hid hpw
          have HM := hid hm
          clear hst hpw hm
          by_cases y1 : y < 128
          · go_wp2
            go_ret2
            rw [HO.out, tl, if_neg hlen, HC.out, HS.out, if_pos (.inl y1)]
            exact ⟨rfl, rfl⟩
          by_cases y2 : 192 ≤ y
          · go_wp2
            go_ret2
            rw [HO.out, tl, if_neg hlen, HC.out, HS.out, if_pos (.inr y2)]
            exact ⟨rfl, rfl⟩
          · go_wp2
            go_round
            case rel => exact ⟨j + 1, m * 64 + y - 128, by omega, by omega, by go_num, by go_num, by rw [HP.out]; omega, by rw [HC.out, HS.out, if_neg (by omega)]⟩
            case measure => simp [intOf] <;> omega
        · obtain rfl : j = 4 := by omega
          have hm3 : m < 8388608 := by omega
          have hfin : oneL (c :: r) = if m < 65536 ∨ ¬ runeI m then (0, 0) else (4, m) := by
            rw [HO.out, tl, if_neg hlen, HC.out]; simp [conts]
          have HF := hid hfin
          clear hfin hm
          by_cases m1 : m < 65536
          · go_wp2
            go_ret2
            rw [HF.out, if_pos (.inl m1)]
            exact ⟨rfl, rfl⟩
          · have p1 : decide ((m : Int) < 65536) = false := by simp; omega
            have M1 := hid m1
            clear m1
            by_cases m2 : runeI m = true
            · go_wp2_with fail
              refine (rune_any (m : Int) _ (by omega) (by omega)).mono ?_
              rintro e w1 ⟨rfl, rfl⟩
              simp only [m2]
              have M2 := hid m2
              clear m2
              go_wp2
              go_ret2
              rw [HF.out, if_neg (by simp [M1.out, M2.out])]
              exact ⟨rfl, rfl⟩
            · have m3 : runeI m = false := by simpa using m2
              go_wp2_with fail
              refine (rune_any (m : Int) _ (by omega) (by omega)).mono ?_
              rintro e w1 ⟨rfl, rfl⟩
              simp only [m3]
              go_wp2
              go_ret2
              rw [HF.out, if_pos (by simp [m3])]
              exact ⟨rfl, rfl⟩
  · go_enter Try.func109, Try.ntmps109
    go_wp2
    go_ret2
    simp only [oneL, hcx]; rw [if_neg a1, if_neg a2, if_neg a3, if_neg a4, if_neg a5]; simp
end Go.Proofs.Ytehjibbjkadoiaa
