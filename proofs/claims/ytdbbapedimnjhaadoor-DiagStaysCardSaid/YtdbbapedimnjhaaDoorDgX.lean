/- diag: the document's words, digits: walks. -/
import Derived.Test.YtdbbapedimnjhaaDoorDgW
import Derived.Test.YtdbbapedimnjhaaDoorDgR
import Derived.Lib.ItoaNum
import Derived.Test.YtdbbapedimnjhaaDoorItoaSh
import Derived.Lib.Strings
import Derived.IntWalk
set_option linter.unusedVariables false
namespace Go.Proofs.YtdbbapedimnjhaaDoor
open Go.RowKit
set_option maxRecDepth 100000 in
set_option maxHeartbeats 4000000 in
theorem rwords_any (w : World) :
    Calls Tryd.prog 16 #[] w fun x w' => x = .returned (.agg WLIT) ∧ Below w.heap.size w w' := by
  have hb := bw_a (Below.refl _ w) (.cells WLIT 34)
  have HB := hid hb
  clear hb
  go_enter Tryd.func16, Tryd.ntmps16
  go_upto_region 0 with fail
  refine wp_region_lit ?_
  refine wpList_alloc_lit rfl 34 rfl _ (alloc21 w) ?_
  refine wpList_nil ?_
  go_upto_region 1 with fail
  refine wp_region_lit ?_
  refine wpList_build_lit rfl 34 _ rfl (.agg WLIT) (by kernel_rfl) ?_
  refine wpList_store_lit rfl 34 _ _ rfl (store21 w) ?_
  refine wpList_nil ?_
  go_wp2_with fail
  have hl := run_loadVar_new (P := Tryd.prog) w 34 WLIT 21 9 Tryd.underlying34 (by kernel_rfl)
  refine bodyPost_ret (v := .agg WLIT) ?_ rfl ⟨rfl, HB.out⟩
  simp [results, Tryd.results16, Act.put, asAddr, Result.andThen, hl]
/-- The error whose word it is. -/
def ErR (s : ByteArray) (e : Ending) : Prop := (∃ i : Nat, i < 21 ∧ e = .returned (.tuple #[.int .i64 (i : Int), .bool true]) ∧ WD.getD i ⟨#[]⟩ = s ∧ ∀ j < i, WD.getD j ⟨#[]⟩ ≠ s) ∨ (e = .returned (.tuple #[.int .i64 0, .bool false]) ∧ ∀ j < 21, WD.getD j ⟨#[]⟩ ≠ s)
theorem str_beq (a b : ByteArray) : (a.toList == b.toList) = decide (a = b) := by
  by_cases h : a = b
  · simp [h]
  · have h2 : ¬ a.toList = b.toList := fun e => h (Dg.bext (by rw [Lib.toList_data, Lib.toList_data] at e; exact e))
    simp [h, h2]
set_option maxRecDepth 100000 in
set_option maxHeartbeats 4000000 in
theorem derrno_any (s : ByteArray) (w : World) :
    Calls Tryd.prog 17 #[.string s] w fun e w' => ErR s e ∧ Below w.heap.size w w' := by
  have hb0 := Below.refl w.heap.size w
  have HB0 := hid hb0
  clear hb0
  go_enter Tryd.func17, Tryd.ntmps17
  go_wp2_with fail
  go_loopw [4] (fun i wr => ∃ k : Nat, k ≤ 21 ∧ i = .int .i64 (k : Int) ∧ (∀ j < k, WD.getD j ⟨#[]⟩ ≠ s) ∧ Below w.heap.size w wr) (fun i _ => 21 - (intOf i).toNat)
  case atStart => exact ⟨0, by omega, rfl, (fun j hj => by omega), HB0.out⟩
  case round =>
    obtain ⟨k, hk, rfl, hlow, hbe⟩ := hrel
    have HL := hid hlow
    have HB := hid hbe
    clear hlow hbe
    by_cases hlt : k < 21
    · have hki : (k : Int) ≤ 20 := by omega
      have hw := fun W => dword_any (k : Int) W (by omega) (by omega)
      rw [show wdB (k : Int) = WD.getD k ⟨#[]⟩ by unfold wdB; rw [if_pos (by omega)]; rfl] at hw
      obtain ⟨x, hx⟩ : ∃ x, WD.getD k ⟨#[]⟩ = x := ⟨_, rfl⟩
      rw [hx] at hw
      have HX := hid hx
      have HW := hid hw
      clear hx hw
      by_cases hxs : x = s
      · have he : (x.toList == s.toList) = true := by rw [str_beq]; simp [hxs]
        have HXS := hid hxs
        clear hxs
        go_wp2_with (go_at_call 19; refine (HW.out _).mono ?_; rintro e w1 ⟨rfl, hb1⟩; have HB1 := hid (bw_t HB.out hb1); clear hb1)
        refine bodyPost_ret (v := .tuple #[.int .i64 (k : Int), .bool true]) (by simp [results, Tryd.results17, go_sem]) rfl ?_
        exact ⟨.inl ⟨k, hlt, rfl, by rw [HX.out, HXS.out], HL.out⟩, HB1.out⟩
      · have he : (x.toList == s.toList) = false := by rw [str_beq]; simp [hxs]
        have HXS := hid hxs
        clear hxs
        go_wp2_with (go_at_call 19; refine (HW.out _).mono ?_; rintro e w1 ⟨rfl, hb1⟩; have HB1 := hid (bw_t HB.out hb1); clear hb1)
        go_roundw
        case rel =>
          refine ⟨k + 1, by omega, by go_num, fun j hj => ?_, HB1.out⟩
          rcases Nat.lt_or_ge j k with h | h
          · exact HL.out j h
          · obtain rfl : j = k := by omega
            rw [HX.out]; exact HXS.out
        case measure => simp [intOf] <;> omega
    · obtain rfl : k = 21 := by omega
      go_wp2_with fail
      refine bodyPost_ret (v := .tuple #[.int .i64 0, .bool false]) (by simp [results, Tryd.results17, go_sem]) rfl ?_
      exact ⟨.inr ⟨rfl, HL.out⟩, HB.out⟩
/-- A number's digits. -/
def dg24 (n : Int) : List UInt8 := if 0 ≤ n ∧ n ≤ 999999999 then Lib.decDigits n.toNat else []
theorem dg24_len {n : Int} : (dg24 n).length ≤ 9 := by
  unfold dg24
  split
  · rename_i h
    have key : ∀ (k u : Nat), u < 10 ^ (k + 1) → (Lib.decDigits u).length ≤ k + 1 := by
      intro k
      induction k with
      | zero => intro u hu; rw [Lib.decDigits, dif_pos (by omega)]; simp
      | succ k ih =>
        intro u hu
        rw [Lib.decDigits]
        split
        · simp
        · rw [List.length_append]
          have := ih (u / 10) (by rw [Nat.pow_succ] at hu; omega)
          simp; omega
    exact key 8 n.toNat (by omega)
  · simp
def PowT (w : World) : Prop := Lib.TabIs Tryd.prog w "internal/strconv.uint64pow10" .u64 Lib.pow10Tab
set_option maxRecDepth 100000 in
set_option maxHeartbeats 1000000 in
theorem digits24_any (n : Int) (w : World) (h0 : -9223372036854775808 ≤ n) (h1 : n ≤ 9223372036854775807) (hT : PowT w) :
    Calls Tryd.prog 23 #[.int .i64 n] w fun e w' => e = .returned (.string ⟨(dg24 n).toArray⟩) ∧ Below w.heap.size w w' := by
  have HI := hid (Tryd.strconv_Itoa n h0 h1 w hT)
  by_cases a1 : n < 0
  · have hd : dg24 n = [] := by rw [dg24, if_neg (by omega)]
    rw [hd]
    go_enter Tryd.func23, Tryd.ntmps23
    go_wp2_with fail
    go_ret
    exact ⟨rfl, Below.refl _ _⟩
  by_cases a2 : n ≤ 999999999
  · have hd : dg24 n = Lib.itoa n := by rw [dg24, if_pos (by omega), Lib.itoa, if_neg a1]
    rw [hd]
    generalize Lib.itoa n = l at *
    go_enter Tryd.func23, Tryd.ntmps23
    go_wp2_with (go_at_call 36; refine HI.out.mono ?_; rintro e w1 ⟨rfl, hg⟩; have HG := hid hg; clear hg)
    go_ret
    obtain ⟨k, os, rfl⟩ := HG.out
    exact ⟨rfl, grow_below _ _ _⟩
  · have hd : dg24 n = [] := by rw [dg24, if_neg (by omega)]
    rw [hd]
    go_enter Tryd.func23, Tryd.ntmps23
    go_wp2_with fail
    go_ret
    exact ⟨rfl, Below.refl _ _⟩
set_option maxRecDepth 100000 in
set_option maxHeartbeats 4000000 in
theorem rdigits24_any : ∀ (k : Nat) (n : Int) (w : World), n.toNat ≤ k → -9223372036854775808 ≤ n → n ≤ 9223372036854775807 →
    Calls Tryd.prog 25 #[.int .i64 n] w fun e w' => e = .returned (.string ⟨(dg24 n).toArray⟩) ∧ Below w.heap.size w w' := by
  intro k
  induction k with
  | zero =>
    intro n w hk h0 h1
    by_cases a1 : n < 0
    · have hd : dg24 n = [] := by rw [dg24, if_neg (by omega)]
      rw [hd]
      go_enter Tryd.func25, Tryd.ntmps25
      go_wp2_with fail
      go_ret
      exact ⟨rfl, Below.refl _ _⟩
    · obtain rfl : n = 0 := by omega
      go_enter Tryd.func25, Tryd.ntmps25
      go_wp2_with fail
      go_ret
      exact ⟨by rw [dg24, if_pos (by omega), Lib.decDigits]; rfl, Below.refl _ _⟩
  | succ k ih =>
    intro n w hk h0 h1
    by_cases a1 : n < 0
    · have hd : dg24 n = [] := by rw [dg24, if_neg (by omega)]
      rw [hd]
      go_enter Tryd.func25, Tryd.ntmps25
      go_wp2_with fail
      go_ret
      exact ⟨rfl, Below.refl _ _⟩
    by_cases a2 : 999999999 < n
    · have hd : dg24 n = [] := by rw [dg24, if_neg (by omega)]
      rw [hd]
      go_enter Tryd.func25, Tryd.ntmps25
      go_wp2_with fail
      go_ret
      exact ⟨rfl, Below.refl _ _⟩
    by_cases a3 : n < 10
    · rcases (by omega : n = 0 ∨ n = 1 ∨ n = 2 ∨ n = 3 ∨ n = 4 ∨ n = 5 ∨ n = 6 ∨ n = 7 ∨ n = 8 ∨ n = 9) with rfl | rfl | rfl | rfl | rfl | rfl | rfl | rfl | rfl | rfl
      all_goals
        go_enter Tryd.func25, Tryd.ntmps25
        go_wp2_with fail
        go_ret
        exact ⟨by rw [dg24, if_pos (by omega), Lib.decDigits]; rfl, Below.refl _ _⟩
    obtain ⟨m, rfl⟩ : ∃ m : Nat, n = m := ⟨n.toNat, by omega⟩
    have hd : dg24 (m : Int) = dg24 ((m / 10 : Nat) : Int) ++ dg24 ((m % 10 : Nat) : Int) := by
      rw [dg24, if_pos (by omega), dg24, if_pos (by omega), dg24, if_pos (by omega)]
      simp only [Int.toNat_natCast]
      rw [Lib.decDigits, dif_neg (by omega)]
      congr 1
      rw [Lib.decDigits, dif_pos (by omega)]
    have i1 := fun W => ih ((m / 10 : Nat) : Int) W (by omega) (by omega) (by omega)
    have i2 := fun W => ih ((m % 10 : Nat) : Int) W (by omega) (by omega) (by omega)
    have l1 : (dg24 ((m / 10 : Nat) : Int)).length ≤ 9 := dg24_len
    have l2 : (dg24 ((m % 10 : Nat) : Int)).length ≤ 9 := dg24_len
    rw [show ((m / 10 : Nat) : Int) = (m : Int) / 10 from by omega] at i1 l1 hd
    rw [show ((m % 10 : Nat) : Int) = (m : Int) % 10 from by omega] at i2 l2 hd
    have HD := hid hd
    have I1 := hid i1
    have I2 := hid i2
    clear i1 i2 hd ih
    generalize dg24 ((m : Int) / 10) = x at *
    generalize dg24 ((m : Int) % 10) = y at *
    have hs1 : (⟨x.toArray⟩ : ByteArray).size = x.length := by rw [Lib.size_eq]
    have hs2 : (⟨y.toArray⟩ : ByteArray).size = y.length := by rw [Lib.size_eq]
    have hc : ¬ 9223372036854775807 < (⟨x.toArray⟩ : ByteArray).size + (⟨y.toArray⟩ : ByteArray).size := by omega
    have hc2 : ¬ 9223372036854775807 < x.length + y.length := by omega
    go_enter Tryd.func25, Tryd.ntmps25
    go_wp2_with fail
    refine (I1.out _).mono ?_
    rintro e w1 ⟨rfl, hb1⟩
    have HB1 := hid hb1
    clear hb1
    go_wp2_with fail
    refine (I2.out _).mono ?_
    rintro e w2 ⟨rfl, hb2⟩
    have HB2 := hid (bw_t HB1.out hb2)
    clear hb2
    go_wp2_with fail
    go_ret
    have e : (⟨(x ++ y).toArray⟩ : ByteArray) = ⟨x.toArray⟩ ++ ⟨y.toArray⟩ := Dg.bext (by simp)
    exact ⟨by rw [HD.out, e]; try rfl, HB2.out⟩
end Go.Proofs.YtdbbapedimnjhaaDoor
