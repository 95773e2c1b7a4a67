/- The document's reader: Fixed, Join, Take. -/
import Derived.Test.YtolafcmaikjioaaProg
import Derived.Test.YtolafcmaikjioaaBase
import Derived.Test.YtolafcmaikjioaaInfo8
import Derived.Test.YtolafcmaikjioaaRefSt
import Derived.Deep.RegionHeld3
set_option linter.unusedVariables false
namespace Go.Proofs.Ytolafcmaikjioaa
open Go.RowKit
set_option maxRecDepth 100000 in
set_option maxHeartbeats 1000000 in
theorem rjoin_any (xs : List UInt8) (n : Nat) (A : Option Addr) (c : Nat) (w : World) (hn : xs.length = n) (hl : n ≤ 100000) (hs : Sl w A c (xs.map bv)) :
    Calls Try.prog 41 #[.slice A n c, .slice none 0 0] w fun e w' => ∃ v, e = .returned v ∧ w'.ownsRow w.heap.size 5 1 v n (xs.map bv) ∧ Below w.heap.size w w' := by
  obtain ⟨i0, hi, hz0, hz1, hz2⟩ := info_parts Try.info5
  have hrd : BRd w A xs := hs.rd
  have HN := hid hn
  clear hn
  go_enter Try.func41, Try.ntmps41
  go_wp2
  go_loopw [5, 6] (fun v i wr => ∃ k : Nat, k ≤ n ∧ i = .int .i64 (k : Int) ∧ wr.ownsRow w.heap.size 5 1 v k ((xs.take k).map bv) ∧ Below w.heap.size w wr) (fun _ i _ => n - (intOf i).toNat)
  case atStart => exact ⟨0, by omega, rfl, World.ownsRow_nil _ _ _ _, Below.refl _ _⟩
  case round =>
    obtain ⟨k, hk, rfl, hrow, hB⟩ := hrel
    by_cases hlt : k < n
    · have hkl : k < xs.length := by have := HN.out; omega
      obtain ⟨b, off, rfl, hb, hc⟩ := BRd.at_ (hrd.below hB) hkl
      have htk : (xs.take (k + 1)).map bv = (xs.take k).map bv ++ [.int .u8 (xs[k].toNat : Int)] := by
        rw [List.take_succ_eq_append_getElem hkl, List.map_append]; rfl
      have HTK := hid htk
      clear htk
      have hx := xs[k].toNat_lt
      generalize xs[k].toNat = y at *
      have hszr := hB.size
      go_wp2_with (at_builtin; refine wpList_append_own _ rfl _ _ 22 rfl w.heap.size 5 i0 (.int .u8 0) 1 1 Try.underlying22 hi hz0 hz1 hz2 rfl (by decide) _ _ _ rfl (hrow.alloc _) ⟨wr.heap.size, 0, none⟩ 1 1 [.int .u8 (y : Int)] rfl rfl (cell_one_new _ _ _) (by simp [Value.oneCell']) (by simp only [maxLen]; omega) (by omega) (by simp; omega) ?_; intro v' w3 hown' hgrow' _)
      go_roundw
      case rel => exact ⟨k + 1, by omega, by go_num, by rw [HTK.out]; exact hown', (hB.alloc (by omega) _).grown hgrow' (by simp; omega) fun g eg => (hrow.lt g eg).1⟩
      case measure => simp [intOf]; omega
    · obtain rfl : k = n := by omega
      rw [List.take_of_length_le (by have := HN.out; omega)] at hrow
      go_wp2
      go_loopw [5, 7] (fun v i w' => i = .int .i64 0 ∧ w'.ownsRow w.heap.size 5 1 v k (xs.map bv) ∧ Below w.heap.size w w') (fun _ i _ => 0)
      case atStart => exact ⟨rfl, hrow, hB⟩
      case round =>
        obtain ⟨rfl, hrow2, hB2⟩ := hrel
        go_wp2
        go_ret
        exact ⟨_, rfl, hrow2, hB2⟩
end Go.Proofs.Ytolafcmaikjioaa
