/- The document's Strip and Split (layer 17): walks. -/
import Derived.Test.YtepbfgniocjagaaDoorLnB
import Derived.Laws.AppendOwnNone
set_option linter.unusedVariables false
namespace Go.Proofs.YtepbfgniocjagaaDoor
open Go.RowKit
theorem stE_at {bs : List UInt8} {k : Nat} {q : Bool} {c : UInt8} {r : List UInt8} (hd : bs.drop k = c :: r) : stE k (ahd bs k) q false (bs.drop k) = if c.toNat = 34 then stE (k + 1) (ahd bs (k + 1)) (!q) false (bs.drop (k + 1)) else
    if q = true then stE (k + 1) (ahd bs (k + 1)) q (decide (c.toNat = 92)) (bs.drop (k + 1)) else if c.toNat = 35 ∧ ahd bs k = 32 then some k else stE (k + 1) (ahd bs (k + 1)) q false (bs.drop (k + 1)) := by
  rw [hd, stE, if_neg (by simp), ahd_next hd, drop_next hd]
theorem stE_skip {bs : List UInt8} {k : Nat} {q : Bool} : stE k (ahd bs k) q true (bs.drop k) = stE (k + 1) (ahd bs (k + 1)) q false (bs.drop (k + 1)) := by
  cases hd : bs.drop k with
  | nil =>
    have : bs.drop (k + 1) = [] := by rw [List.drop_eq_nil_iff] at hd ⊢; omega
    rw [this, stE, stE]
  | cons c r => rw [stE, if_pos rfl, ahd_next hd, drop_next hd]
theorem tr_take {bs : List UInt8} {m : Nat} {c : UInt8} {r : List UInt8} (hd : bs.drop m = c :: r) : trB (bs.take (m + 1)) = if c.toNat = 32 then trB (bs.take m) else bs.take (m + 1) := by
  have hk : m < bs.length := by have := congrArg List.length hd; simp at this; omega
  have hc : bs[m] = c := by
    have := List.drop_eq_getElem_cons hk
    rw [hd] at this; injection this with h _; exact h.symm
  rw [List.take_succ_eq_append_getElem hk, hc, trB_snoc]
set_option maxRecDepth 100000 in
set_option maxHeartbeats 4000000 in
theorem rstrip_any (s : ByteArray) (bs : List UInt8) (w : World) (hs : s.data.toList = bs) (hl : bs.length ≤ 100000000) :
    Calls Tryd.prog 25 #[.string s] w fun e w' => ∃ t : ByteArray, e = .returned (.string t) ∧ t.data.toList = stripL bs ∧ w = w' := by
  have hsz : s.size = bs.length := by rw [Lib.size_eq, hs]
  have HSB := hid hs
  have hsl : ∀ k, stN bs = k → stripL bs = trB (bs.take k) := fun k h => by rw [stripL, h]
  have hst0 : ∀ o, stE 0 32 false false bs = o → stN bs = o.getD bs.length := fun o h => by rw [stN, h]
  have HSL := hid hsl
  have HST0 := hid hst0
  have hext : ∀ k, (s.extract 0 k).data.toList = bs.take k := fun k => ext_take s bs k hs
  have HEXT := hid hext
  clear hsl hst0 hs hext
  generalize hn : bs.length = n at *
  have HN := hid hn
  clear hn
  go_enter Tryd.func25, Tryd.ntmps25
  go_wp2
  go_loop [3, 4, 5] (fun q en i => ∃ (k : Nat) (qb : Bool), k ≤ n + 1 ∧ en = .int .i64 (n : Int) ∧ q = .bool qb ∧ i = .int .i64 (k : Int) ∧ stE 0 32 false false bs = stE k (ahd bs k) qb false (bs.drop k)) (fun _ _ i => n + 1 - (intOf i).toNat)
  case atStart => exact ⟨0, false, by omega, rfl, rfl, rfl, rfl⟩
  case round =>
    obtain ⟨k, qb, hk, rfl, rfl, rfl, hsc⟩ := hrel
    have HC := hid hsc
    clear hsc
    have hend : ∀ (m : Nat) (q : Bool), True := fun _ _ => trivial
    clear hend
    by_cases hlt : k < n
    · obtain ⟨c, r, hd⟩ := str_cons HN.out hlt
      obtain ⟨hi, hg⟩ := str_at HSB.out hd
      have hx : c.toNat < 256 := c.toNat_lt
      have hst := stE_at (q := qb) hd
      have hah0 : k = 0 → ahd bs k = 32 := fun h => by rw [ahd, if_pos h]
      have hah1 : ∀ h : 0 < k, ∃ h2 : k - 1 < s.size, ((s[k - 1]'h2).toNat : Int) = (ahd bs k : Int) := by
        intro h
        obtain ⟨c', r', hd'⟩ := str_cons HN.out (show k - 1 < n by omega)
        obtain ⟨hi', hg'⟩ := str_at HSB.out hd'
        refine ⟨hi', ?_⟩
        rw [hg', ← ahd_next hd', show k - 1 + 1 = k from by omega]
      have hal : ahd bs k < 256 := by rw [ahd]; split; omega; exact UInt8.toNat_lt _
      have hskip := @stE_skip bs (k + 1) qb
      generalize c.toNat = x at *
      have HST := hid hst
      have HSK := hid hskip
      clear hd hst hskip
      by_cases h34 : x = 34
      · have q34 : ((x : Int) == 34) = true := by simp [h34]
        have q92 : ((x : Int) == 92) = false := by simp; omega
        have HS2 := hid (HC.out.trans (HST.out.trans (if_pos h34)))
        clear h34 hah0 hah1
        cases qb
        all_goals
          go_wp2
          go_round
          case rel => exact ⟨k + 1, _, by omega, rfl, rfl, by go_num, HS2.out⟩
          case measure => simp [intOf] <;> omega
      · have q34 : ((x : Int) == 34) = false := by simp; omega
        have hc2 := HC.out.trans (HST.out.trans (if_neg h34))
        cases qb with
        | true =>
          rw [if_pos rfl] at hc2
          have HC2 := hid hc2
          clear hc2 hah0 hah1
          by_cases h92 : x = 92
          · have q92 : ((x : Int) == 92) = true := by simp [h92]
            have HS3 := hid (show stE 0 32 false false bs = stE (k + 1 + 1) (ahd bs (k + 1 + 1)) true false (bs.drop (k + 1 + 1)) from by rw [HC2.out, show decide (x = 92) = true from by simp [h92], HSK.out])
            clear h92
            go_wp2
            go_round
            case rel => exact ⟨k + 1 + 1, true, by omega, rfl, rfl, by go_num, HS3.out⟩
            case measure => simp [intOf] <;> omega
          · have q92 : ((x : Int) == 92) = false := by simp; omega
            have q35 : True := trivial
            have HS3 := hid (show stE 0 32 false false bs = stE (k + 1) (ahd bs (k + 1)) true false (bs.drop (k + 1)) from by rw [HC2.out, show decide (x = 92) = false from by simp [h92]])
            by_cases h35 : x = 35
            · have q35 : ((x : Int) == 35) = true := by simp [h35]
              clear h35
              go_wp2
              go_round
              case rel => exact ⟨k + 1, true, by omega, rfl, rfl, by go_num, HS3.out⟩
              case measure => simp [intOf] <;> omega
            · have q35 : ((x : Int) == 35) = false := by simp; omega
              go_wp2
              go_round
              case rel => exact ⟨k + 1, true, by omega, rfl, rfl, by go_num, HS3.out⟩
              case measure => simp [intOf] <;> omega
        | false =>
          rw [if_neg (by simp)] at hc2
          by_cases h35 : x = 35
          · have q35 : ((x : Int) == 35) = true := by simp [h35]
            by_cases ha : ahd bs k = 32
            · rw [if_pos ⟨h35, ha⟩] at hc2
              have HK := hid (HSL.out k (by rw [HST0.out _ hc2]; rfl))
              have hkn : k ≤ n := by omega
              have hways : k = 0 ∨ 0 < k := by omega
              rcases hways with h0 | h0
              · have qk : ((k : Int) == 0) = true := by simp [h0]
                clear hc2 h35 hah0 hah1 h0 ha
                go_wp2
                go_loop [4] (fun en => ∃ m : Nat, m ≤ n ∧ en = .int .i64 (m : Int) ∧ stripL bs = trB (bs.take m)) (fun en => (intOf en).toNat)
                case atStart => exact ⟨k, by omega, rfl, HK.out⟩
                case round =>
                  obtain ⟨m, hm, rfl, hsm⟩ := hrel
                  have HM := hid hsm
                  clear hsm
                  cases m with
                  | zero =>
                    go_wp2
                    go_ret
                    exact ⟨_, rfl, by rw [HM.out, List.take_zero]; rfl, rfl⟩
                  | succ m =>
                    obtain ⟨c2, r2, hd2⟩ := str_cons HN.out (show m < n by omega)
                    obtain ⟨hi3, hg3⟩ := str_at HSB.out hd2
                    have hx2 : c2.toNat < 256 := c2.toNat_lt
                    have hsn := tr_take hd2
                    generalize c2.toNat = x2 at *
                    have HSN := hid hsn
                    clear hd2 hsn
                    by_cases h2 : x2 = 32
                    · have HS5 := hid (show stripL bs = trB (bs.take m) from by rw [HM.out, HSN.out, if_pos h2])
                      have q2 : ((x2 : Int) == 32) = true := by simp [h2]
                      clear h2
                      go_wp2
                      go_round
                      case rel => exact ⟨m, by omega, by go_num, HS5.out⟩
                      case measure => simp [intOf] <;> omega
                    · have HS5 := hid (show stripL bs = bs.take (m + 1) from by rw [HM.out, HSN.out, if_neg h2])
                      have q2 : ((x2 : Int) == 32) = false := by simp; omega
                      go_wp2
                      go_ret
                      exact ⟨_, rfl, by rw [HEXT.out, HS5.out], rfl⟩
              · obtain ⟨hi2, hg2⟩ := hah1 h0
                have qk : ((k : Int) == 0) = false := by simp; omega
                have qa : ((ahd bs k : Int) == 32) = true := by simp [ha]
                clear hc2 h35 hah0 hah1 ha
                generalize ahd bs k = ak at *
                go_wp2
                go_loop [4] (fun en => ∃ m : Nat, m ≤ n ∧ en = .int .i64 (m : Int) ∧ stripL bs = trB (bs.take m)) (fun en => (intOf en).toNat)
                case atStart => exact ⟨k, by omega, rfl, HK.out⟩
                case round =>
                  obtain ⟨m, hm, rfl, hsm⟩ := hrel
                  have HM := hid hsm
                  clear hsm
                  cases m with
                  | zero =>
                    go_wp2
                    go_ret
                    exact ⟨_, rfl, by rw [HM.out, List.take_zero]; rfl, rfl⟩
                  | succ m =>
                    obtain ⟨c2, r2, hd2⟩ := str_cons HN.out (show m < n by omega)
                    obtain ⟨hi3, hg3⟩ := str_at HSB.out hd2
                    have hx2 : c2.toNat < 256 := c2.toNat_lt
                    have hsn := tr_take hd2
                    generalize c2.toNat = x2 at *
                    have HSN := hid hsn
                    clear hd2 hsn
                    by_cases h2 : x2 = 32
                    · have HS5 := hid (show stripL bs = trB (bs.take m) from by rw [HM.out, HSN.out, if_pos h2])
                      have q2 : ((x2 : Int) == 32) = true := by simp [h2]
                      clear h2
                      go_wp2
                      go_round
                      case rel => exact ⟨m, by omega, by go_num, HS5.out⟩
                      case measure => simp [intOf] <;> omega
                    · have HS5 := hid (show stripL bs = bs.take (m + 1) from by rw [HM.out, HSN.out, if_neg h2])
                      have q2 : ((x2 : Int) == 32) = false := by simp; omega
                      go_wp2
                      go_ret
                      exact ⟨_, rfl, by rw [HEXT.out, HS5.out], rfl⟩
            · rw [if_neg (fun h => ha h.2)] at hc2
              have HC2 := hid hc2
              have hk0 : 0 < k := by
                by_cases h : k = 0
                · exact absurd (hah0 h) ha
                · omega
              obtain ⟨hi2, hg2⟩ := hah1 hk0
              have qa : ((ahd bs k : Int) == 32) = false := by simp; omega
              have qk : ((k : Int) == 0) = false := by simp; omega
              clear hc2 h35 hah0 hah1
              generalize ahd bs k = ak at *
              go_wp2
              go_round
              case rel => exact ⟨k + 1, false, by omega, rfl, rfl, by go_num, HC2.out⟩
              case measure => simp [intOf] <;> omega
          · have q35 : ((x : Int) == 35) = false := by simp; omega
            rw [if_neg (fun h => h35 h.1)] at hc2
            have HC2 := hid hc2
            clear hc2 hah0 hah1
            go_wp2
            go_round
            case rel => exact ⟨k + 1, false, by omega, rfl, rfl, by go_num, HC2.out⟩
            case measure => simp [intOf] <;> omega
    · have hnil : bs.drop k = [] := List.drop_eq_nil_of_le (by have := HN.out; omega)
      have HK := hid (HSL.out n (by rw [HST0.out none (by rw [HC.out, hnil, stE])]; rfl))
      clear hnil
      go_wp2
      go_loop [4] (fun en => ∃ m : Nat, m ≤ n ∧ en = .int .i64 (m : Int) ∧ stripL bs = trB (bs.take m)) (fun en => (intOf en).toNat)
      case atStart => exact ⟨n, by omega, rfl, HK.out⟩
      case round =>
        obtain ⟨m, hm, rfl, hsm⟩ := hrel
        have HM := hid hsm
        clear hsm
        cases m with
        | zero =>
          go_wp2
          go_ret
          exact ⟨_, rfl, by rw [HM.out, List.take_zero]; rfl, rfl⟩
        | succ m =>
          obtain ⟨c2, r2, hd2⟩ := str_cons HN.out (show m < n by omega)
          obtain ⟨hi3, hg3⟩ := str_at HSB.out hd2
          have hx2 : c2.toNat < 256 := c2.toNat_lt
          have hsn := tr_take hd2
          generalize c2.toNat = x2 at *
          have HSN := hid hsn
          clear hd2 hsn
          by_cases h2 : x2 = 32
          · have HS5 := hid (show stripL bs = trB (bs.take m) from by rw [HM.out, HSN.out, if_pos h2])
            have q2 : ((x2 : Int) == 32) = true := by simp [h2]
            clear h2
            go_wp2
            go_round
            case rel => exact ⟨m, by omega, by go_num, HS5.out⟩
            case measure => simp [intOf] <;> omega
          · have HS5 := hid (show stripL bs = bs.take (m + 1) from by rw [HM.out, HSN.out, if_neg h2])
            have q2 : ((x2 : Int) == 32) = false := by simp; omega
            go_wp2
            go_ret
            exact ⟨_, rfl, by rw [HEXT.out, HS5.out], rfl⟩
end Go.Proofs.YtepbfgniocjagaaDoor
