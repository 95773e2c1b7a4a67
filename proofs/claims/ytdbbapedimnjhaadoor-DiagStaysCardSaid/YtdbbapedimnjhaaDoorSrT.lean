/- The document's Quote and Put (layer 18): walks. -/
import Derived.Test.YtdbbapedimnjhaaDoorProg
import Derived.Test.YtdbbapedimnjhaaDoorM1
import Derived.Test.YtdbbapedimnjhaaDoorSrMath
import Derived.Test.YtdbbapedimnjhaaDoorSrA
import Derived.Test.YtdbbapedimnjhaaDoorSrB
import Derived.Test.YtdbbapedimnjhaaDoorSrC
import Derived.Test.YtdbbapedimnjhaaDoorSrD
import Derived.Test.YtdbbapedimnjhaaDoorSrR
import Derived.Test.YtdbbapedimnjhaaDoorUt
import Derived.Lib.Walk
import Derived.WalkSmall
import Derived.Deep.QuietTactic
import Derived.BigQuiet
import Derived.IntWalk
set_option linter.unusedVariables false
namespace Go.Proofs.YtdbbapedimnjhaaDoor
open Go.RowKit
theorem app_data (a b : ByteArray) : (a ++ b).data.toList = a.data.toList ++ b.data.toList := by simp
theorem app_size (a b : ByteArray) : (a ++ b).size = a.size + b.size := by simp
theorem dig_ext : ∀ k : Nat, k < 16 → ((⟨#[48, 49, 50, 51, 52, 53, 54, 55, 56, 57, 97, 98, 99, 100, 101, 102]⟩ : ByteArray).extract k (k + 1)).data.toList = [hxD k] := by decide +kernel
theorem ext_one {s : ByteArray} {bs : List UInt8} {k : Nat} {c : UInt8} {r : List UInt8} (hs : s.data.toList = bs) (hd : bs.drop k = c :: r) : (s.extract k (k + 1)).data.toList = [c] := by
  subst hs
  simp only [ByteArray.data_extract, Array.toList_extract, List.extract_eq_take_drop, hd]
  rw [show k + 1 - k = 1 from by omega]; rfl
set_option maxRecDepth 100000 in
set_option maxHeartbeats 4000000 in
theorem rQuote_any (s : ByteArray) (bs : List UInt8) (w : World) (hs : s.data.toList = bs) (hl : bs.length ≤ 10000) :
    Calls Tryd.prog 40 #[.string s] w fun e w' => ∃ t : ByteArray, e = .returned (.string t) ∧ t.data.toList = quB bs ∧ Below w.heap.size w w' := by
  have hsz : s.size = bs.length := by rw [Lib.size_eq, hs]
  have HSB := hid hs
  clear hs
  have hqe : quB bs = ([34] ++ bs.flatMap qB) ++ [34] := by simp [quB]
  have HQ := hid hqe
  clear hqe
  generalize hn : bs.length = n at *
  have HN := hid hn
  clear hn
  go_enter Tryd.func40, Tryd.ntmps40
  go_wp2
  go_loopw [3, 4, 5, 6] (fun v i _ _ wr => ∃ (k : Nat) (t : ByteArray), k ≤ n ∧ i = .int .i64 (k : Int) ∧ v = .string t ∧ t.data.toList = [34] ++ (bs.take k).flatMap qB ∧ Below w.heap.size w wr) (fun _ i _ _ _ => n - (intOf i).toNat)
  case atStart => exact ⟨0, ⟨#[34]⟩, by omega, rfl, rfl, by simp, Below.refl _ _⟩
  case round =>
    obtain ⟨k, t, hk, rfl, rfl, ht, hbr⟩ := hrel
    have hql := qB_le (bs.take k)
    have htl : (bs.take k).length ≤ k := List.length_take_le _ _
    have htz : t.size ≤ 4 * n + 1 := by rw [Lib.size_eq, ht, List.length_append, List.length_cons, List.length_nil]; omega
    have HT := hid ht
    clear ht hql htl
    by_cases hlt : k < n
    · obtain ⟨c, r, hd⟩ := str_cons HN.out hlt
      obtain ⟨hi, hg⟩ := str_at HSB.out hd
      have hx := c.toNat_lt
      have hsn := qB_snoc bs hd
      have hq : qB c = if c.toNat = 34 ∨ c.toNat = 92 then [92, c] else if c.toNat = 10 then [92, 110] else if c.toNat = 9 then [92, 116] else if hidN c.toNat = true then [92, 120, hxD (c.toNat / 16), hxD (c.toNat % 16)] else [c] := rfl
      have hone := ext_one HSB.out hd
      have hcb := b8_self c
      generalize c.toNat = x at *
      have hend : ∀ u : ByteArray, u.data.toList = qB c → (t ++ u).data.toList = [34] ++ (bs.take (k + 1)).flatMap qB := by
        intro u hu; rw [app_data, HT.out, hu, hsn, List.append_assoc]
      have hz1 : ¬ 9223372036854775807 < t.size + 1 := by omega
      have hz2 : ¬ 9223372036854775807 < t.size + 2 := by omega
      have HEND := hid hend
      have HQC := hid hq
      have HONE := hid hone
      have HCB := hid hcb
      clear hd hsn hq hone hcb hend
      by_cases a1 : x = 34
      · have hu := HEND.out ⟨#[92, 34]⟩ (by rw [HQC.out, if_pos (.inl a1), ← HCB.out, a1]; rfl)
        have HU := hid hu
        clear hu
        subst a1
        go_wp2
        go_roundw
        case rel => exact ⟨k + 1, _, by omega, by go_num, rfl, HU.out, hbr⟩
        case measure => simp [intOf] <;> omega
      by_cases a2 : x = 92
      · have hu := HEND.out ⟨#[92, 92]⟩ (by rw [HQC.out, if_pos (.inr a2), ← HCB.out, a2]; rfl)
        have HU := hid hu
        clear hu
        subst a2
        go_wp2
        go_roundw
        case rel => exact ⟨k + 1, _, by omega, by go_num, rfl, HU.out, hbr⟩
        case measure => simp [intOf] <;> omega
      have q1 : ((x : Int) == 34) = false := by simp; omega
      have q2 : ((x : Int) == 92) = false := by simp; omega
      have a12 : ¬ (x = 34 ∨ x = 92) := by omega
      by_cases a3 : x = 10
      · have hu := HEND.out ⟨#[92, 110]⟩ (by rw [HQC.out, if_neg a12, if_pos a3])
        have HU := hid hu
        clear hu
        subst a3
        go_wp2
        go_roundw
        case rel => exact ⟨k + 1, _, by omega, by go_num, rfl, HU.out, hbr⟩
        case measure => simp [intOf] <;> omega
      by_cases a4 : x = 9
      · have hu := HEND.out ⟨#[92, 116]⟩ (by rw [HQC.out, if_neg a12, if_neg a3, if_pos a4])
        have HU := hid hu
        clear hu
        subst a4
        go_wp2
        go_roundw
        case rel => exact ⟨k + 1, _, by omega, by go_num, rfl, HU.out, hbr⟩
        case measure => simp [intOf] <;> omega
      have q3 : ((x : Int) == 10) = false := by simp; omega
      have q4 : ((x : Int) == 9) = false := by simp; omega
      by_cases a5 : hidN x = true
      · have hk1 : x / 16 < 16 := by omega
        have hk2 : x % 16 < 16 := by omega
        have hd1 := dig_ext (x / 16) hk1
        have hd2 := dig_ext (x % 16) hk2
        have hqe : qB c = [92, 120, hxD (x / 16), hxD (x % 16)] := by rw [HQC.out, if_neg a12, if_neg a3, if_neg a4, if_pos a5]
        have hs1 : ((⟨#[48, 49, 50, 51, 52, 53, 54, 55, 56, 57, 97, 98, 99, 100, 101, 102]⟩ : ByteArray).extract (x / 16) (x / 16 + 1)).size = 1 := by rw [Lib.size_eq, hd1]; rfl
        have hs2 : ((⟨#[48, 49, 50, 51, 52, 53, 54, 55, 56, 57, 97, 98, 99, 100, 101, 102]⟩ : ByteArray).extract (x % 16) (x % 16 + 1)).size = 1 := by rw [Lib.size_eq, hd2]; rfl
        have hu : (t ++ ⟨#[92, 120]⟩ ++ (⟨#[48, 49, 50, 51, 52, 53, 54, 55, 56, 57, 97, 98, 99, 100, 101, 102]⟩ : ByteArray).extract (x / 16) (x / 16 + 1) ++ (⟨#[48, 49, 50, 51, 52, 53, 54, 55, 56, 57, 97, 98, 99, 100, 101, 102]⟩ : ByteArray).extract (x % 16) (x % 16 + 1)).data.toList = [34] ++ (bs.take (k + 1)).flatMap qB := by
          have := HEND.out (⟨#[92, 120]⟩ ++ (⟨#[48, 49, 50, 51, 52, 53, 54, 55, 56, 57, 97, 98, 99, 100, 101, 102]⟩ : ByteArray).extract (x / 16) (x / 16 + 1) ++ (⟨#[48, 49, 50, 51, 52, 53, 54, 55, 56, 57, 97, 98, 99, 100, 101, 102]⟩ : ByteArray).extract (x % 16) (x % 16 + 1)) (by rw [app_data, app_data, hd1, hd2, hqe]; rfl)
          rw [← this]; simp only [app_data, List.append_assoc]
        have HU := hid hu
        have hw3 : IntKind.u8.wrap ((x / 16 : Nat) : Int) = ((x / 16 : Nat) : Int) := IntWalk.u8_in _ (by omega)
        have hw4 : IntKind.u8.wrap ((x % 16 : Nat) : Int) = ((x % 16 : Nat) : Int) := IntWalk.u8_in _ (by omega)
        have hw5 : (x : Int).tdiv 16 = ((x / 16 : Nat) : Int) := by rw [Int.tdiv_eq_ediv_of_nonneg (by omega)]; omega
        have hw6 : (x : Int).tmod 16 = ((x % 16 : Nat) : Int) := by rw [Int.tmod_eq_emod_of_nonneg (by omega)]; omega
        have hw7 : IntKind.u8.wrap (((x / 16 : Nat) : Int) + 1) = ((x / 16 + 1 : Nat) : Int) := by rw [IntWalk.u8_in _ (by omega)]; omega
        have hw8 : IntKind.u8.wrap (((x % 16 : Nat) : Int) + 1) = ((x % 16 + 1 : Nat) : Int) := by rw [IntWalk.u8_in _ (by omega)]; omega
        have hs3 : (t ++ ⟨#[92, 120]⟩).size = t.size + 2 := by rw [app_size]; rfl
        have h5 : x < 32 ∨ x = 127 := by simpa [hidN] using a5
        rcases h5 with h5 | h5
        · clear hu hd1 hd2 hqe a5 HQC HEND
          generalize x / 16 = ka at *
          generalize x % 16 = kb at *
          generalize hu1 : (⟨#[48, 49, 50, 51, 52, 53, 54, 55, 56, 57, 97, 98, 99, 100, 101, 102]⟩ : ByteArray).extract ka (ka + 1) = U1 at *
          generalize hu2 : (⟨#[48, 49, 50, 51, 52, 53, 54, 55, 56, 57, 97, 98, 99, 100, 101, 102]⟩ : ByteArray).extract kb (kb + 1) = U2 at *
          have hs4 : (t ++ ⟨#[92, 120]⟩ ++ U1).size = t.size + 3 := by rw [app_size, hs3, hs1]
          have hz3 : ¬ 9223372036854775807 < t.size + 2 + 1 := by omega
          have hz4 : ¬ 9223372036854775807 < t.size + 3 + 1 := by omega
          have hl1 : ka + 1 ≤ 16 := by omega
          have hl2 : kb + 1 ≤ 16 := by omega
          clear hk1 hk2 a1 a2 a12 a3 a4
          go_wp2_with fail
          go_quiet (fail)
          go_wp2_with fail
          go_roundw
          case rel => exact ⟨k + 1, _, by omega, by go_num, rfl, HU.out, bw_d hbr _⟩
          case measure => simp [intOf] <;> omega
        · subst h5
          have hu' : (t ++ ⟨#[92, 120]⟩ ++ (⟨#[48, 49, 50, 51, 52, 53, 54, 55, 56, 57, 97, 98, 99, 100, 101, 102]⟩ : ByteArray).extract 7 8 ++ (⟨#[48, 49, 50, 51, 52, 53, 54, 55, 56, 57, 97, 98, 99, 100, 101, 102]⟩ : ByteArray).extract 15 16).data.toList = [34] ++ (bs.take (k + 1)).flatMap qB := hu
          have hs1' : ((⟨#[48, 49, 50, 51, 52, 53, 54, 55, 56, 57, 97, 98, 99, 100, 101, 102]⟩ : ByteArray).extract 7 8).size = 1 := hs1
          have hs4 : (t ++ ⟨#[92, 120]⟩ ++ (⟨#[48, 49, 50, 51, 52, 53, 54, 55, 56, 57, 97, 98, 99, 100, 101, 102]⟩ : ByteArray).extract 7 8).size = t.size + 3 := by rw [app_size, hs3, hs1']
          have hs2' : ((⟨#[48, 49, 50, 51, 52, 53, 54, 55, 56, 57, 97, 98, 99, 100, 101, 102]⟩ : ByteArray).extract 15 16).size = 1 := hs2
          have HU' := hid hu'
          have hz3 : ¬ 9223372036854775807 < t.size + 2 + 1 := by omega
          have hz4 : ¬ 9223372036854775807 < t.size + 3 + 1 := by omega
          clear hu hu' hd1 hd2 hqe a5 HQC HEND HU hs1 hs2 hw3 hw4 hw5 hw6 hw7 hw8 hk1 hk2 a1 a2 a12 a3 a4
          go_wp2_with fail
          go_quiet (fail)
          go_wp2_with fail
          go_roundw
          case rel => exact ⟨k + 1, _, by omega, by go_num, rfl, HU'.out, bw_d hbr _⟩
          case measure => simp [intOf] <;> omega
      · have hu := HEND.out (s.extract k (k + 1)) (by rw [HONE.out, HQC.out, if_neg a12, if_neg a3, if_neg a4, if_neg a5])
        have hs1 : (s.extract k (k + 1)).size = 1 := by rw [Lib.size_eq, HONE.out]; rfl
        have HU := hid hu
        have h5 : 32 ≤ x ∧ x ≠ 127 := by simp [hidN] at a5; omega
        obtain ⟨h5, h6⟩ := h5
        have q5 : ((x : Int) == 127) = false := by simp; omega
        clear hu a5
        go_wp2
        go_roundw
        case rel => exact ⟨k + 1, _, by omega, by go_num, rfl, HU.out, hbr⟩
        case measure => simp [intOf] <;> omega
    · obtain rfl : k = n := by omega
      have ht : bs.take k = bs := List.take_of_length_le (by have := HN.out; omega)
      have hz1 : ¬ 9223372036854775807 < t.size + 1 := by omega
      have hu : (t ++ ⟨#[34]⟩).data.toList = quB bs := by rw [app_data, HT.out, ht, HQ.out]
      have HU := hid hu
      clear hu ht
      go_wp2
      go_ret
      exact ⟨_, rfl, HU.out, hbr⟩
set_option maxRecDepth 100000 in
set_option maxHeartbeats 1000000 in
theorem rPut_any (s : ByteArray) (bs : List UInt8) (w : World) (hs : s.data.toList = bs) (hl : bs.length ≤ 10000) :
    Calls Tryd.prog 26 #[.string s] w fun e w' => ∃ t : ByteArray, e = .returned (.string t) ∧ t.data.toList = puL bs ∧ Below w.heap.size w w' := by
  have HP := hid fun w => rPlain_any s bs w hs (by omega)
  have HQ := hid fun w => rQuote_any s bs w hs hl
  have HS := hid hs
  clear hs
  have hpu : puL bs = if plB bs = true then bs else quB bs := rfl
  have HPU := hid hpu
  clear hpu
  generalize plB bs = p at *
  cases p with
  | true =>
    go_enter Tryd.func26, Tryd.ntmps26
    go_wp2_with (go_at_call 39; refine (HP.out _).mono ?_; rintro e w1 ⟨rfl, rfl⟩)
    go_ret
    exact ⟨s, rfl, by rw [HPU.out]; simp [HS.out], Below.refl _ _⟩
  | false =>
    go_enter Tryd.func26, Tryd.ntmps26
    go_wp2_with (first | (go_at_call 39; refine (HP.out _).mono ?_; rintro e w1 ⟨rfl, rfl⟩) | (go_at_call 40; refine (HQ.out _).mono ?_; rintro e w1 ⟨t, rfl, ht, hb⟩))
    go_ret
    exact ⟨t, rfl, by rw [HPU.out]; simp [ht], hb⟩
end Go.Proofs.YtdbbapedimnjhaaDoor
