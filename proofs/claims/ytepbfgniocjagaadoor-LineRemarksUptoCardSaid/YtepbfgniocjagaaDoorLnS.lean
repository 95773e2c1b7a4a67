/- line.Strip: a walk. -/
import Derived.Test.YtepbfgniocjagaaDoorLnA
set_option linter.unusedVariables false
namespace Go.Proofs.YtepbfgniocjagaaDoor
open Go.RowKit
set_option maxRecDepth 100000 in
set_option maxHeartbeats 4000000 in
theorem strip_any (s : ByteArray) (bs : List UInt8) (w : World) (hs : s.data.toList = bs) (hl : bs.length ≤ 9223372036854775807) :
    Calls Tryd.prog 22 #[.string s] w fun e w' => ∃ t : ByteArray, e = .returned (.string t) ∧ t.data.toList = stripL bs ∧ w = w' := by
  have hsz : s.size = bs.length := by rw [Lib.size_eq, hs]
  have HTR := hid fun (k : Nat) (hk : k ≤ bs.length) w => trimR_any (s.extract 0 k) (bs.take k) w (ext_take s bs k hs) (by rw [List.length_take]; omega)
  have HSB := hid hs
  clear hs
  have hsl : ∀ k, stN bs = k → stripL bs = trB (bs.take k) := fun k h => by rw [stripL, h]
  have hst0 : ∀ o, stE 0 32 false false bs = o → stN bs = o.getD bs.length := fun o h => by rw [stN, h]
  have HSL := hid hsl
  have HST0 := hid hst0
  clear hsl hst0
  generalize hn : bs.length = n at *
  have HN := hid hn
  clear hn
  go_enter Tryd.func22, Tryd.ntmps22
  go_wp2
  go_step3
  go_wp2
  go_step3
  go_wp2
  go_loop [3, 4, 5, 6, 7, 8, 13] (fun en ah q t _ _ i => ∃ (k a : Nat) (qb tb : Bool), k ≤ n ∧ a < 256 ∧ en = .int .i64 (n : Int) ∧ ah = .int .u8 (a : Int) ∧ q = .bool qb ∧ t = .bool tb ∧ i = .int .i64 (k : Int) ∧ stE 0 32 false false bs = stE k a qb tb (bs.drop k)) (fun _ _ _ _ _ _ i => n - (intOf i).toNat)
  case atStart => exact ⟨0, 32, false, false, by omega, by omega, rfl, rfl, rfl, rfl, rfl, by simp⟩
  case round =>
    obtain ⟨k, a, qb, tb, hk, ha, rfl, rfl, rfl, rfl, rfl, hsc⟩ := hrel
    have HC := hid hsc
    clear hsc
    by_cases hlt : k < n
    · obtain ⟨c, r, hd⟩ := str_cons HN.out hlt
      obtain ⟨hi, hg⟩ := str_at HSB.out hd
      have hx : c.toNat < 256 := c.toNat_lt
      have hdn := drop_next hd
      have hst : stE k a qb tb (c :: r) = if tb = true then stE (k + 1) c.toNat qb false r else if c.toNat = 34 then stE (k + 1) c.toNat (!qb) false r else
          if qb = true then stE (k + 1) c.toNat qb (decide (c.toNat = 92)) r else if c.toNat = 35 ∧ a = 32 then some k else stE (k + 1) c.toNat qb false r := by rw [stE]
      generalize c.toNat = x at *
      have HD := hid hd
      have HDN := hid hdn
      have HST := hid hst
      clear hd hdn hst
      cases tb with
      | true =>
        go_wp2
        go_round
        case rel => exact ⟨k + 1, x, qb, false, by omega, hx, rfl, rfl, rfl, rfl, by go_num, by rw [HC.out, HD.out, HST.out, if_pos rfl, HDN.out]⟩
        case measure => simp [intOf] <;> omega
      | false =>
        by_cases h34 : x = 34
        · have q34 : ((x : Int) == 34) = true := by simp [h34]
          have HS2 := hid (show stE k a qb false (c :: r) = stE (k + 1) x (!qb) false r from by rw [HST.out, if_neg (by simp), if_pos h34])
          clear h34
          go_wp2
          go_round
          case rel => exact ⟨k + 1, x, !qb, false, by omega, hx, rfl, rfl, rfl, rfl, by go_num, by rw [HC.out, HD.out, HS2.out, HDN.out]⟩
          case measure => simp [intOf] <;> omega
        · have q34 : ((x : Int) == 34) = false := by simp; omega
          cases qb with
          | true =>
            have HS2 := hid (show stE k a true false (c :: r) = stE (k + 1) x true (decide (x = 92)) r from by rw [HST.out, if_neg (by simp), if_neg h34, if_pos rfl])
            by_cases h92 : x = 92
            · have q92 : ((x : Int) == 92) = true := by simp [h92]
              have HS3 := hid (show stE k a true false (c :: r) = stE (k + 1) x true true r from by rw [HS2.out, show decide (x = 92) = true from by simp [h92]])
              clear h92
              go_wp2
              go_round
              case rel => exact ⟨k + 1, x, true, true, by omega, hx, rfl, rfl, rfl, rfl, by go_num, by rw [HC.out, HD.out, HS3.out, HDN.out]⟩
              case measure => simp [intOf] <;> omega
            · have q92 : ((x : Int) == 92) = false := by simp; omega
              have HS3 := hid (show stE k a true false (c :: r) = stE (k + 1) x true false r from by rw [HS2.out, show decide (x = 92) = false from by simp [h92]])
              go_wp2
              go_round
              case rel => exact ⟨k + 1, x, true, false, by omega, hx, rfl, rfl, rfl, rfl, by go_num, by rw [HC.out, HD.out, HS3.out, HDN.out]⟩
              case measure => simp [intOf] <;> omega
          | false =>
            by_cases h35 : x = 35 ∧ a = 32
            · have HS2 := hid (show stE k a false false (c :: r) = some k from by rw [HST.out, if_neg (by simp), if_neg h34, if_neg (by simp), if_pos h35])
              have HK := hid (HSL.out k (by rw [HST0.out (some k) (by rw [HC.out, HD.out, HS2.out])]; rfl))
              obtain ⟨rfl, rfl⟩ := h35
              have hkn : k ≤ n := by omega
              go_wp2_with (go_at_call 42; (with_reducible refine (HTR.out k hkn _).mono ?_); rintro e w1 ⟨t, rfl, ht, rfl⟩)
              first | go_ret | (rw [Exit.noGoto_ret]; go_ret)
              exact ⟨t, rfl, by rw [HK.out]; exact ht, rfl⟩
            · have HS2 := hid (show stE k a false false (c :: r) = stE (k + 1) x false false r from by rw [HST.out, if_neg (by simp), if_neg h34, if_neg (by simp), if_neg h35])
              by_cases h5 : x = 35
              · have q5 : ((x : Int) == 35) = true := by simp [h5]
                have q6 : ((a : Int) == 32) = false := by simp; omega
                clear h5 h35
                go_wp2
                go_round
                case rel => exact ⟨k + 1, x, false, false, by omega, hx, rfl, rfl, rfl, rfl, by go_num, by rw [HC.out, HD.out, HS2.out, HDN.out]⟩
                case measure => simp [intOf] <;> omega
              · have q5 : ((x : Int) == 35) = false := by simp; omega
                clear h35
                go_wp2
                go_round
                case rel => exact ⟨k + 1, x, false, false, by omega, hx, rfl, rfl, rfl, rfl, by go_num, by rw [HC.out, HD.out, HS2.out, HDN.out]⟩
                case measure => simp [intOf] <;> omega
    · have HK := hid (HSL.out n (by rw [HST0.out none (by rw [HC.out, List.drop_eq_nil_of_le (by have := HN.out; omega), stE])]; rfl))
      go_wp2_with (go_at_call 42; (with_reducible refine (HTR.out n (Nat.le_refl _) _).mono ?_); rintro e w1 ⟨t, rfl, ht, rfl⟩)
      first | go_ret | (rw [Exit.noGoto_ret]; go_ret)
      exact ⟨t, rfl, by rw [HK.out]; exact ht, rfl⟩
end Go.Proofs.YtepbfgniocjagaaDoor
