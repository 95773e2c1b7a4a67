/- The document's Join of any two, and its Bytes. -/
import Derived.Test.YtapgjkbodfpdaaaRefTake
import Derived.Test.YtapgjkbodfpdaaaRefPut
set_option linter.unusedVariables false
namespace Go.Proofs.Ytapgjkbodfpdaaa
open Go.RowKit
set_option maxRecDepth 100000 in
set_option maxHeartbeats 1000000 in
theorem rjoin2_any (xs ys : List UInt8) (n m : Nat) (A B : Option Addr) (c d : Nat) (w : World) (hn : xs.length = n) (hm : ys.length = m) (hl : n + m ≤ 10000000) (hs : Sl w A c (xs.map bv)) (ht : Sl w B d (ys.map bv)) :
    Calls Try.prog 61 #[.slice A n c, .slice B m d] w fun e w' => ∃ A' c', e = .returned (.slice A' (n + m) c') ∧ Sl w' A' c' ((xs ++ ys).map bv) ∧ (∀ b o, A' = some ⟨b, o, none⟩ → w.heap.size ≤ b) ∧ Below w.heap.size w w' := by
  obtain ⟨i0, hi, hz0, hz1, hz2⟩ := info_parts Try.info5
  have hrd : BRd w A xs := hs.rd
  have hrd2 : BRd w B ys := ht.rd
  have HN := hid hn
  have HM := hid hm
  clear hn hm
  go_enter Try.func61, Try.ntmps61
  go_wp2
  go_loopw [5, 6] (fun v i wr => ∃ k : Nat, k ≤ n ∧ i = .int .i64 (k : Int) ∧ wr.ownsRow w.heap.size 5 1 v k ((xs.take k).map bv) ∧ Below w.heap.size w wr) (fun _ i _ => n - (intOf i).toNat)
  case atStart => exact ⟨0, by omega, rfl, World.ownsRow_nil _ _ _ _, Below.refl _ _⟩
  case round =>
    obtain ⟨k, hk, rfl, hrow, hB⟩ := hrel
    by_cases hlt : k < n
    · have hkl : k < xs.length := by have := HN.out; omega
      obtain ⟨b, off, rfl, hb, hc⟩ := BRd.at_ (hrd.below hB) hkl
      have htk : (xs.take (k + 1)).map bv = (xs.take k).map bv ++ [.int .u8 (xs[k].toNat : Int)] := by
        rw [List.take_succ_eq_append_getElem hkl, List.map_append]; rfl
      have HTK := hid htk
      clear htk
      have hx := xs[k].toNat_lt
      generalize xs[k].toNat = y at *
      have hszr := hB.size
      go_wp2_with (at_builtin; refine wpList_append_own _ rfl _ _ 29 rfl w.heap.size 5 i0 (.int .u8 0) 1 1 Try.underlying29 hi hz0 hz1 hz2 rfl (by decide) _ _ _ rfl (hrow.alloc _) ⟨wr.heap.size, 0, none⟩ 1 1 [.int .u8 (y : Int)] rfl rfl (cell_one_new _ _ _) (by simp [Value.oneCell']) (by simp only [maxLen]; omega) (by omega) (by simp; omega) ?_; intro v' w3 hown' hgrow' _)
      go_roundw
      case rel => exact ⟨k + 1, by omega, by go_num, by rw [HTK.out]; exact hown', (hB.alloc (by omega) _).grown hgrow' (by simp; omega) fun g eg => (hrow.lt g eg).1⟩
      case measure => simp [intOf]; omega
    · obtain rfl : k = n := by omega
      rw [List.take_of_length_le (by have := HN.out; omega)] at hrow
      go_wp2
      go_loopw [5, 7] (fun v i wr => ∃ j : Nat, j ≤ m ∧ i = .int .i64 (j : Int) ∧ wr.ownsRow w.heap.size 5 1 v (k + j) (xs.map bv ++ (ys.take j).map bv) ∧ Below w.heap.size w wr) (fun _ i _ => m - (intOf i).toNat)
      case atStart => exact ⟨0, by omega, rfl, by simpa using hrow, hB⟩
      case round =>
        obtain ⟨j, hj, rfl, hrow2, hB2⟩ := hrel
        by_cases hlt2 : j < m
        · have hjl : j < ys.length := by have := HM.out; omega
          obtain ⟨b, off, rfl, hb, hc⟩ := BRd.at_ (hrd2.below hB2) hjl
          have htk : xs.map bv ++ (ys.take (j + 1)).map bv = (xs.map bv ++ (ys.take j).map bv) ++ [.int .u8 (ys[j].toNat : Int)] := by
            rw [List.take_succ_eq_append_getElem hjl, List.map_append, List.append_assoc]; rfl
          have HTK := hid htk
          clear htk
          have hx := ys[j].toNat_lt
          generalize ys[j].toNat = y at *
          have hszr := hB2.size
          go_wp2_with (at_builtin; refine wpList_append_own _ rfl _ _ 29 rfl w.heap.size 5 i0 (.int .u8 0) 1 1 Try.underlying29 hi hz0 hz1 hz2 rfl (by decide) _ _ _ rfl (hrow2.alloc _) ⟨wr.heap.size, 0, none⟩ 1 1 [.int .u8 (y : Int)] rfl rfl (cell_one_new _ _ _) (by simp [Value.oneCell']) (by simp only [maxLen]; omega) (by omega) (by simp; omega) ?_; intro v' w3 hown' hgrow' _)
          go_roundw
          case rel => exact ⟨j + 1, by omega, by go_num, by rw [HTK.out, ← Nat.add_assoc]; exact hown', (hB2.alloc (by omega) _).grown hgrow' (by simp; omega) fun g eg => (hrow2.lt g eg).1⟩
          case measure => simp [intOf]; omega
        · obtain rfl : j = m := by omega
          rw [List.take_of_length_le (by have := HM.out; omega), ← List.map_append] at hrow2
          go_wp2
          go_ret
          obtain ⟨A', c', rfl, -, hsl⟩ := Sl.of_own hrow2
          exact ⟨A', c', rfl, hsl, fun b o he => (hrow2.lt b (by rw [he]; rfl)).1, hB2⟩
set_option maxRecDepth 100000 in
theorem rbytes_any (xs : List UInt8) (n : Nat) (A : Option Addr) (c : Nat) (w : World) (hn : xs.length = n) (hl : n ≤ 1000000) (hs : Sl w A c (xs.map bv)) :
    Calls Try.prog 60 #[.slice A n c] w fun e w' => ∃ A' c', e = .returned (.slice A' ((putN n).length + n) c') ∧ Sl w' A' c' ((putN n ++ xs).map bv) ∧ (∀ b o, A' = some ⟨b, o, none⟩ → w.heap.size ≤ b) ∧ Below w.heap.size w w' := by
  have HN := hid hn
  have HS := hid hs
  clear hn hs
  have hw9 : IntKind.u64.wrap (n : Int) = (n : Int) := IntWalk.u64_in _ (by omega)
  have hp10 : (putN n).length ≤ 10 := by unfold putN; rw [List.length_map]; exact sevs_length10 (by omega)
  generalize hpl : (putN n).length = pl at *
  have HPL := hid hpl
  clear hpl
  go_enter Try.func60, Try.ntmps60
  go_wp2_with fail
  refine (rput_any n w (by omega)).mono ?_
  rintro e w1 ⟨A1, c1, rfl, hs1, hb1⟩
  rw [HPL.out]
  have hs0 := HS.out.below hb1
  have HS1 := hid hs1
  have HS0 := hid hs0
  have HB1 := hid hb1
  clear hs1 hs0 hb1
  go_wp2_with fail
  refine (rjoin2_any (putN n) xs pl n A1 A c1 c w1 HPL.out HN.out (by omega) HS1.out HS0.out).mono ?_
  rintro e w2 ⟨A2, c2, rfl, hs2, hf2, hb2⟩
  go_wp2_with fail
  go_ret
  exact ⟨A2, c2, rfl, hs2, fun b o he => Nat.le_trans HB1.out.size (hf2 b o he), bw_t HB1.out hb2⟩
end Go.Proofs.Ytapgjkbodfpdaaa
