/- scalar: Quote, Put, sign, unquoted, Read: walks. -/
import Derived.Test.YtdbbapedimnjhaaDoorProg
import Derived.Test.YtdbbapedimnjhaaDoorM1
import Derived.Test.YtdbbapedimnjhaaDoorSrMath
import Derived.Test.YtdbbapedimnjhaaDoorSrA
import Derived.Test.YtdbbapedimnjhaaDoorSrB
import Derived.Test.YtdbbapedimnjhaaDoorSrC
import Derived.Test.YtdbbapedimnjhaaDoorUt
import Derived.Lib.Walk
import Derived.WalkSmall
import Derived.IntWalk
set_option linter.unusedVariables false
namespace Go.Proofs.YtdbbapedimnjhaaDoor
open Go.RowKit
theorem qB_snoc (bs : List UInt8) {k : Nat} {c : UInt8} {r : List UInt8} (hd : bs.drop k = c :: r) : (bs.take (k + 1)).flatMap qB = (bs.take k).flatMap qB ++ qB c := by
  have hk : k < bs.length := by have := congrArg List.length hd; simp at this; omega
  have hc : bs[k] = c := by
    have := List.drop_eq_getElem_cons hk
    rw [hd] at this; injection this with h _; exact h.symm
  rw [List.take_succ_eq_append_getElem hk, List.flatMap_append, hc]; simp
theorem qB_le (l : List UInt8) : (l.flatMap qB).length ≤ 4 * l.length := by
  induction l with
  | nil => simp
  | cons c r ih => rw [List.flatMap_cons, List.length_append]; have := (qB_len c).2; simp only [List.length_cons]; omega
set_option maxRecDepth 100000 in
set_option maxHeartbeats 2000000 in
theorem sQuote_any (s : ByteArray) (bs : List UInt8) (w : World) (hs : s.data.toList = bs) (hl : bs.length ≤ 10000) :
    Calls Tryd.prog 38 #[.string s] w fun e w' => ∃ t : ByteArray, e = .returned (.string t) ∧ t.data.toList = quB bs ∧ Below w.heap.size w w' := by
  obtain ⟨i0, hi0, hz0, hz1, hz2⟩ := info_parts Tryd.info5
  have hsz : s.size = bs.length := by rw [Lib.size_eq, hs]
  have HSB := hid hs
  clear hs
  have hqe : quB bs = ([34] ++ bs.flatMap qB) ++ [34] := by simp [quB]
  have HQ := hid hqe
  clear hqe
  generalize hn : bs.length = n at *
  have HN := hid hn
  clear hn
  go_enter Tryd.func38, Tryd.ntmps38
  go_wp2_with fail
  generalize hW0 : w.alloc _ = W0
  have hz0' : W0.heap.size = w.heap.size + 1 := by rw [← hW0]; simp
  have hB0 : Below w.heap.size w W0 := by rw [← hW0]; exact (Below.refl _ w).alloc (Nat.le_refl _) _
  have hrow0 : W0.ownsRow w.heap.size 5 1 (.slice (some ⟨w.heap.size, 0, none⟩) 1 1) 1 (([34] : List UInt8).map bv) := by
    refine ⟨rfl, .inr ⟨w.heap.size, 1, #[.int .u8 34], rfl, Nat.le_refl _, by rw [← hW0]; exact heap_alloc_new w _, by omega, by simp only [maxLen]; omega, rfl, rfl⟩⟩
  clear hW0
  go_loopw [3, 4, 8] (fun v _ i wr => ∃ k : Nat, k ≤ n ∧ i = .int .i64 (k : Int) ∧ wr.ownsRow w.heap.size 5 1 v ([34] ++ (bs.take k).flatMap qB).length (([34] ++ (bs.take k).flatMap qB).map bv) ∧ Below w.heap.size w wr) (fun _ _ i _ => n - (intOf i).toNat)
  case atStart => exact ⟨0, by omega, rfl, by simpa using hrow0, hB0⟩
  case round =>
    obtain ⟨k, hk, rfl, hrow, hbr⟩ := hrel
    have hszr := hbr.size
    have hql := qB_le (bs.take k)
    have htl : (bs.take k).length ≤ k := List.length_take_le _ _
    by_cases hlt : k < n
    · obtain ⟨c, r, hd⟩ := str_cons HN.out hlt
      obtain ⟨hi, hg⟩ := str_at HSB.out hd
      have hx := c.toNat_lt
      have hsn := qB_snoc bs hd
      have hwi := fun v n xs (w' : World) => within_any c c.toNat v n w.heap.size xs w' rfl
      generalize hcx : c.toNat = x at *
      have HD := hid hd
      have HSN := hid hsn
      have HW := hid hwi
      have HR := hid hrow
      clear hd hsn hwi hrow hcx
      generalize hL : ([34] ++ (bs.take k).flatMap qB).length = m at *
      have hm : m ≤ 4 * n + 1 := by rw [← hL]; simp only [List.length_append, List.length_cons, List.length_nil]; omega
      have HLL := hid hL
      clear hL
      go_wp2_with fail
      refine (HW.out _ _ _ _ hszr (by omega) HR.out).mono ?_
      rintro e w1 ⟨v1, rfl, hown1, hb1⟩
      have HO := hid hown1
      clear hown1
      go_wp2
      go_roundw
      case rel =>
        refine ⟨k + 1, by omega, by go_num, ?_, hbr.trans hb1⟩
        have h := HO.out
        rw [← List.map_append, List.append_assoc, ← HSN.out] at h
        have hlen : m + (qB c).length = ([34] ++ (bs.take (k + 1)).flatMap qB).length := by rw [HSN.out, ← List.append_assoc, List.length_append, HLL.out]
        rw [hlen] at h
        exact h
      case measure => simp [intOf] <;> omega
    · obtain rfl : k = n := by omega
      have ht : bs.take k = bs := List.take_of_length_le (by have := HN.out; omega)
      rw [ht] at hrow hql
      have HR := hid hrow
      generalize hL : ([34] ++ bs.flatMap qB).length = m at *
      have hm : m ≤ 4 * k + 1 := by rw [← hL]; simp only [List.length_append, List.length_cons, List.length_nil]; have := HN.out; omega
      clear hL hrow
      go_wp2_with (at_builtin; refine wpList_append_rd rfl (.tmp 17) (.tmp 18) 46 rfl w.heap.size 5 i0 (.int .u8 0) 1 1 Tryd.underlying46 hi0 hz0 hz1 hz2 rfl (by decide) _ _ _ rfl (HR.out.alloc _) (some ⟨wr.heap.size, 0, none⟩) 1 1 [.int .u8 34] rfl rfl (Rd.new wr 5 #[.int .u8 34]) (fun h => by cases h) (by simp [Value.oneCell']) (by simp only [maxLen]; omega) (by omega) (by simp; omega) ?_; intro v1 w1 hown1 hgrow1)
      have hown2 : w1.ownsRow w.heap.size 5 1 v1 (m + 1) (quB bs |>.map bv) := by rw [HQ.out, List.map_append]; exact hown1
      obtain ⟨t, ht1, ht2⟩ := conv_ow (P := Tryd.prog) hown2 Tryd.underlying46 Tryd.underlying5 Tryd.underlying9
      have HT := hid ht1
      have hfin := bw_new hszr HR.out hgrow1
      clear ht1 hown1 hown2 hgrow1
      go_wp2
      rw [ht2]
      simp only [Result.andThen]
      go_wp2
      go_ret
      exact ⟨t, rfl, HT.out, hbr.trans hfin⟩
set_option maxRecDepth 100000 in
set_option maxHeartbeats 1000000 in
theorem sPut_any (s : ByteArray) (bs : List UInt8) (w : World) (hs : s.data.toList = bs) (hl : bs.length ≤ 10000) :
    Calls Tryd.prog 24 #[.string s] w fun e w' => ∃ t : ByteArray, e = .returned (.string t) ∧ t.data.toList = puL bs ∧ Below w.heap.size w w' := by
  have HP := hid fun w => sPlain_any s bs w hs (by omega)
  have HQ := hid fun w => sQuote_any s bs w hs hl
  have HS := hid hs
  clear hs
  have hpu : puL bs = if plB bs = true then bs else quB bs := rfl
  have HPU := hid hpu
  clear hpu
  generalize plB bs = p at *
  cases p with
  | true =>
    go_enter Tryd.func24, Tryd.ntmps24
    go_wp2_with (go_at_call 37; refine (HP.out _).mono ?_; rintro e w1 ⟨rfl, rfl⟩)
    go_ret
    exact ⟨s, rfl, by rw [HPU.out]; simp [HS.out], Below.refl _ _⟩
  | false =>
    go_enter Tryd.func24, Tryd.ntmps24
    go_wp2_with (first | (go_at_call 37; refine (HP.out _).mono ?_; rintro e w1 ⟨rfl, rfl⟩) | (go_at_call 38; refine (HQ.out _).mono ?_; rintro e w1 ⟨t, rfl, ht, hb⟩))
    go_ret
    exact ⟨t, rfl, by rw [HPU.out]; simp [ht], hb⟩
theorem sgF_one {c : UInt8} {r : List UInt8} (h1 : hidN c.toNat = false) (h2 : c.toNat ≠ 34) (h3 : c.toNat ≠ 92) : sgF (c :: r) = (c.toNat, 1) := by
  rw [sgF_cons, if_neg (by simp [h1, h2]), if_pos h3]
theorem sgF_no {c : UInt8} {r : List UInt8} (h : hidN c.toNat = true ∨ c.toNat = 34) : sgF (c :: r) = (0, 0) := by rw [sgF_cons, if_pos h]
theorem hid92 : hidN 92 = false := by decide
end Go.Proofs.YtdbbapedimnjhaaDoor
