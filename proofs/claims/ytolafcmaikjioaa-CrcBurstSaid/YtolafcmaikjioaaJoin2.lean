/- The document's Join of any two, and its Bytes. -/
import Derived.Test.YtolafcmaikjioaaRefTake
import Derived.Test.YtolafcmaikjioaaRefPut
set_option linter.unusedVariables false
namespace Go.Proofs.Ytolafcmaikjioaa
open Go.RowKit
set_option maxRecDepth 100000 in
set_option maxHeartbeats 1000000 in
theorem rjoin2_own (xs ys : List UInt8) (n m : Nat) (A B : Option Addr) (c d : Nat) (w : World) (hn : xs.length = n) (hm : ys.length = m) (hl : n + m ≤ 10000000) (hs : Sl w A c (xs.map bv)) (ht : Sl w B d (ys.map bv)) :
    Calls Try.prog 41 #[.slice A n c, .slice B m d] w fun e w' => ∃ v, e = .returned v ∧ w'.ownsRow w.heap.size 5 1 v (n + m) ((xs ++ ys).map bv) ∧ Below w.heap.size w w' := by
  obtain ⟨i0, hi, hz0, hz1, hz2⟩ := info_parts Try.info5
  have hrd : BRd w A xs := hs.rd
  have hrd2 : BRd w B ys := ht.rd
  have HN := hid hn
  have HM := hid hm
  clear hn hm
  go_enter Try.func41, Try.ntmps41
  go_wp2
  go_loopw [5, 6] (fun v i wr => ∃ k : Nat, k ≤ n ∧ i = .int .i64 (k : Int) ∧ wr.ownsRow w.heap.size 5 1 v k ((xs.take k).map bv) ∧ Below w.heap.size w wr) (fun _ i _ => n - (intOf i).toNat)
  case atStart => exact ⟨0, by omega, rfl, World.ownsRow_nil _ _ _ _, Below.refl _ _⟩
  case round =>
    obtain ⟨k, hk, rfl, hrow, hB⟩ := hrel
    by_cases hlt : k < n
    · have hkl : k < xs.length := by have := HN.out; omega
      obtain ⟨b, off, rfl, hb, hc⟩ := BRd.at_ (hrd.below hB) hkl
      have htk : (xs.take (k + 1)).map bv = (xs.take k).map bv ++ [.int .u8 (xs[k].toNat : Int)] := by
        rw [List.take_succ_eq_append_getElem hkl, List.map_append]; rfl
      have HTK := hid htk
      clear htk
      have hx := xs[k].toNat_lt
      generalize xs[k].toNat = y at *
      have hszr := hB.size
      go_wp2_with (at_builtin; refine wpList_append_own _ rfl _ _ 22 rfl w.heap.size 5 i0 (.int .u8 0) 1 1 Try.underlying22 hi hz0 hz1 hz2 rfl (by decide) _ _ _ rfl (hrow.alloc _) ⟨wr.heap.size, 0, none⟩ 1 1 [.int .u8 (y : Int)] rfl rfl (cell_one_new _ _ _) (by simp [Value.oneCell']) (by simp only [maxLen]; omega) (by omega) (by simp; omega) ?_; intro v' w3 hown' hgrow' _)
      go_roundw
      case rel => exact ⟨k + 1, by omega, by go_num, by rw [HTK.out]; exact hown', (hB.alloc (by omega) _).grown hgrow' (by simp; omega) fun g eg => (hrow.lt g eg).1⟩
      case measure => simp [intOf]; omega
    · obtain rfl : k = n := by omega
      rw [List.take_of_length_le (by have := HN.out; omega)] at hrow
      go_wp2
      go_loopw [5, 7] (fun v i wr => ∃ j : Nat, j ≤ m ∧ i = .int .i64 (j : Int) ∧ wr.ownsRow w.heap.size 5 1 v (k + j) (xs.map bv ++ (ys.take j).map bv) ∧ Below w.heap.size w wr) (fun _ i _ => m - (intOf i).toNat)
      case atStart => exact ⟨0, by omega, rfl, by simpa using hrow, hB⟩
      case round =>
        obtain ⟨j, hj, rfl, hrow2, hB2⟩ := hrel
        by_cases hlt2 : j < m
        · have hjl : j < ys.length := by have := HM.out; omega
          obtain ⟨b, off, rfl, hb, hc⟩ := BRd.at_ (hrd2.below hB2) hjl
          have htk : xs.map bv ++ (ys.take (j + 1)).map bv = (xs.map bv ++ (ys.take j).map bv) ++ [.int .u8 (ys[j].toNat : Int)] := by
            rw [List.take_succ_eq_append_getElem hjl, List.map_append, List.append_assoc]; rfl
          have HTK := hid htk
          clear htk
          have hx := ys[j].toNat_lt
          generalize ys[j].toNat = y at *
          have hszr := hB2.size
          go_wp2_with (at_builtin; refine wpList_append_own _ rfl _ _ 22 rfl w.heap.size 5 i0 (.int .u8 0) 1 1 Try.underlying22 hi hz0 hz1 hz2 rfl (by decide) _ _ _ rfl (hrow2.alloc _) ⟨wr.heap.size, 0, none⟩ 1 1 [.int .u8 (y : Int)] rfl rfl (cell_one_new _ _ _) (by simp [Value.oneCell']) (by simp only [maxLen]; omega) (by omega) (by simp; omega) ?_; intro v' w3 hown' hgrow' _)
          go_roundw
          case rel => exact ⟨j + 1, by omega, by go_num, by rw [HTK.out, ← Nat.add_assoc]; exact hown', (hB2.alloc (by omega) _).grown hgrow' (by simp; omega) fun g eg => (hrow2.lt g eg).1⟩
          case measure => simp [intOf]; omega
        · obtain rfl : j = m := by omega
          rw [List.take_of_length_le (by have := HM.out; omega), ← List.map_append] at hrow2
          go_wp2
          go_ret
          exact ⟨_, rfl, hrow2, hB2⟩
theorem rjoin2_any (xs ys : List UInt8) (n m : Nat) (A B : Option Addr) (c d : Nat) (w : World) (hn : xs.length = n) (hm : ys.length = m) (hl : n + m ≤ 10000000) (hs : Sl w A c (xs.map bv)) (ht : Sl w B d (ys.map bv)) :
    Calls Try.prog 41 #[.slice A n c, .slice B m d] w fun e w' => ∃ A' c', e = .returned (.slice A' (n + m) c') ∧ Sl w' A' c' ((xs ++ ys).map bv) ∧ (∀ b o, A' = some ⟨b, o, none⟩ → w.heap.size ≤ b) ∧ Below w.heap.size w w' :=
  (rjoin2_own xs ys n m A B c d w hn hm hl hs ht).mono fun _ _ ⟨v, he, ho, hb⟩ => by
    obtain ⟨A', c', rfl, -, hsl⟩ := Sl.of_own ho
    exact ⟨A', c', he, hsl, fun b o he => (ho.lt b (by rw [he]; rfl)).1, hb⟩
end Go.Proofs.Ytolafcmaikjioaa
