/- The document's Bytes. · encode.Bytes and Size as plain contracts; the examples' messages. · What must be whatever is asked: layer 10; and of the theorem through the layers of stage 5. -/
import Derived.Test.YtnfodgjihdoncaaEn3
import Derived.Test.YtnfodgjihdoncaaEncRef
import Derived.Test.YtnfodgjihdoncaaV4
import Derived.Test.YtnfodgjihdoncaaLive9
set_option linter.unusedVariables false
namespace Go.Proofs.Ytnfodgjihdoncaa
open Go.RowKit
theorem ofL_le7 (k : Nat) (v : Int) : (ofL (k : Int) v).length ≤ 7 := by
  by_cases hv : 3 < v
  · rw [ofL_nil _ _ (kn_out v hv)]; simp
  have hk : (k = 0 ∨ 10 < k) ∨ k = 1 ∨ k = 2 ∨ k = 3 ∨ k = 4 ∨ k = 5 ∨ k = 6 ∨ k = 7 ∨ k = 8 ∨ k = 9 ∨ k = 10 := by omega
  rcases hk with h | rfl | rfl | rfl | rfl | rfl | rfl | rfl | rfl | rfl | rfl
  · rw [ofL_kind k v h]; simp
  all_goals
    rw [ofL_in _ _ hv]
    refine Nat.le_trans (List.length_filter_le _ _) ?_
    decide +kernel
theorem own_ne_blk {w : World} {B e sz n q : Nat} {v : Value} {xs : List Value} {t : TypeId} {cs : Array Value} (h : w.ownsRow B e sz v n xs) (hb : Blk w q t cs) (ht : t ≠ e) (g : Nat) (hg : v.ownBlock = some g) (hq : g = q) : False := by
  subst hq
  rcases h.2 with ⟨rfl, -⟩ | ⟨g1, cap, cur, rfl, -, hg1, -⟩
  · cases hg
  · have e1 : g1 = g := by simpa [Value.ownBlock] using hg
    subst e1
    have h2 := hg1.symm.trans hb
    injection h2 with h2
    injection h2 with _ h3
    exact ht h3.symm
end Go.Proofs.Ytnfodgjihdoncaa
set_option linter.unusedVariables false
namespace Go.Proofs.Ytnfodgjihdoncaa
open Go.RowKit
theorem ebytes_any (M : MV) (v : Int) (w : World) (hok : MvOk w M) (hsm : MvSm M) (hv1 : -9223372036854775808 ≤ v) (hv2 : v ≤ 9223372036854775807) :
    Calls Try.prog 16 #[mvV M, .int .i64 v] w (BytesR w M (ofL (M.k : Int) v)) := (callsIn_wide (n := 8)).1 (ebytes_in 8 (by omega) M v w hok hsm hv1 hv2)
theorem bytesR_sl {w w' : World} {M : MV} {L : List SRow} {e : Ending} (h : BytesR w M L e w') : ∃ A c, e = .returned (.tuple #[.slice A (encB M L).length c, .agg #[.int .i64 (chkV M L).1, .int .i64 (chkV M L).2]]) ∧ Sl w' A c ((encB M L).map bv) ∧ w'.ownsRow w.heap.size 5 1 (.slice A (encB M L).length c) (encB M L).length ((encB M L).map bv) ∧ Below w.heap.size w w' := by
  obtain ⟨vv, rfl, ho, hb⟩ := h
  obtain ⟨A, c, rfl⟩ := row_slice' ho
  exact ⟨A, c, rfl, Sl.of_own' ho, ho, hb⟩
def MH : MV := ⟨1, 1, 3, 0, 0, 0, 0, ⟨#[]⟩, ⟨#[]⟩, none, 0, []⟩
def MQ0 : MV := ⟨8, 0, 0, 0, 0, 0, 0, ⟨#[]⟩, ⟨#[]⟩, none, 0, []⟩
theorem mh_ok (w : World) : MvOk w MH := by
  refine ⟨by decide, fun i => ?_, fun i => ?_, fun x hx => by simp [MH] at hx, Sl.nil_ w⟩
  · unfold MV.num; split <;> decide
  · unfold MV.text; split <;> decide
theorem mq_ok (w : World) : MvOk w MQ0 := by
  refine ⟨by decide, fun i => ?_, fun i => ?_, fun x hx => by simp [MQ0] at hx, Sl.nil_ w⟩
  · unfold MV.num; split <;> decide
  · unfold MV.text; split <;> decide
theorem mh_sm : MvSm MH := ⟨by decide, fun i => by unfold MV.text; split <;> decide, fun s hs => by simp [MH] at hs⟩
theorem mq_sm : MvSm MQ0 := ⟨by decide, fun i => by unfold MV.text; split <;> decide, fun s hs => by simp [MQ0] at hs⟩
theorem mh_o : ofL ((1 : Nat) : Int) 1 = [⟨1, 1, 1, 1, 0⟩, ⟨1, 1, 2, 1, 1⟩, ⟨1, 1, 3, 7, 0⟩] := by decide +kernel
theorem mh_c : chkV MH (ofL (MH.k : Int) 1) = (0, 0) := by
  show chkV MH (ofL ((1 : Nat) : Int) 1) = _
  rw [mh_o]; decide +kernel
theorem put_small (n : Nat) (h : n < 128) : putN n = [b8 n] := by
  unfold putN
  rw [sevs, dif_pos h]
  simp [sevB, b8]
theorem mh_f (num i : Int) (k : Nat) (hd : dflB MH 1 i = false) (hk : MH.num i = k) (hk1 : k < 128) (h1 : 1 ≤ num) (h2 : num ≤ 15) : fldB MH num 1 i = [b8 (8 * num).toNat, b8 k] := by
  rw [fldB_in hd mh_sm h1 (by omega)]
  have hw : partW MH num 1 i = [(num, 0, k, [])] := by
    unfold partW
    rw [if_neg (by omega), if_neg (by omega), if_neg (by omega), hk]; rfl
  rw [hw, List.flatMap_cons, List.flatMap_nil, List.append_nil]
  show pB num 0 k [] = _
  unfold pB pTail
  rw [mk_ok h1 (by omega) rfl]
  simp only [Int.add_zero]
  rw [put_small _ (by omega), if_pos trivial, put_small _ hk1]
  rfl
theorem mh_b : encB MH (ofL (MH.k : Int) 1) = [8, 1, 16, 3] := by
  unfold encB
  rw [mh_c]
  show (if (0 : Int) = 0 then (ofL ((1 : Nat) : Int) 1).flatMap (fldR MH) else []) = _
  rw [if_pos rfl, mh_o]
  have f1 : fldR MH ⟨1, 1, 1, 1, 0⟩ = [8, 1] := by
    show fldB MH 1 1 0 = _
    rw [mh_f 1 0 1 (by decide +kernel) rfl (by omega) (by omega) (by omega)]; decide
  have f2 : fldR MH ⟨1, 1, 2, 1, 1⟩ = [16, 3] := by
    show fldB MH 2 1 1 = _
    rw [mh_f 2 1 3 (by decide +kernel) rfl (by omega) (by omega) (by omega)]; decide
  have f3 : fldR MH ⟨1, 1, 3, 7, 0⟩ = [] := by
    show fldB MH 3 7 0 = _
    unfold fldB
    rw [if_pos (by decide +kernel)]
  rw [List.flatMap_cons, List.flatMap_cons, List.flatMap_cons, List.flatMap_nil, f1, f2, f3]
  rfl
theorem mq_c2 : chkV MQ0 (ofL (MQ0.k : Int) 2) = (0, 0) := by
  show chkV MQ0 (ofL ((8 : Nat) : Int) 2) = _
  rw [l9_o2]; decide +kernel
theorem mq_b2 : encB MQ0 (ofL (MQ0.k : Int) 2) = [] := by
  unfold encB
  rw [mq_c2]
  show (if (0 : Int) = 0 then (ofL ((8 : Nat) : Int) 2).flatMap (fldR MQ0) else []) = _
  rw [if_pos rfl, l9_o2]
  have f1 : fldR MQ0 ⟨8, 2, 1, 2, 0⟩ = [] := by
    show fldB MQ0 1 2 0 = _
    unfold fldB
    rw [if_pos (by decide +kernel)]
  rw [List.flatMap_cons, List.flatMap_nil, f1]
  rfl
theorem mq_c1 : chkV MQ0 (ofL (MQ0.k : Int) 1) = (7, 0) := by
  show chkV MQ0 (ofL ((8 : Nat) : Int) 1) = _
  rw [l9_o1]; rfl
theorem mq_b1 : encB MQ0 (ofL (MQ0.k : Int) 1) = [] := by
  unfold encB
  rw [mq_c1]
  rfl
theorem l10_b1 (W : World) : Calls Try.prog 16 #[.agg #[.int .u8 1, .int .u64 1, .int .u64 3, .int .u64 0, .int .u64 0, .int .u64 0, .int .u64 0, .string ⟨#[]⟩, .string ⟨#[]⟩, .slice none 0 0], .int .i64 1] W fun e w' => ∃ A c, e = .returned (.tuple #[.slice A 4 c, .agg #[.int .i64 0, .int .i64 0]]) ∧ Sl w' A c (([8, 1, 16, 3] : List UInt8).map bv) ∧ w'.ownsRow W.heap.size 5 1 (.slice A 4 c) 4 (([8, 1, 16, 3] : List UInt8).map bv) ∧ Below W.heap.size W w' := by
  refine (ebytes_any MH 1 W (mh_ok W) mh_sm (by omega) (by omega)).mono fun e w' h => ?_
  have h := bytesR_sl h
  rw [mh_b, mh_c] at h
  exact h
theorem l10_b2 (W : World) : Calls Try.prog 16 #[.agg #[.int .u8 8, .int .u64 0, .int .u64 0, .int .u64 0, .int .u64 0, .int .u64 0, .int .u64 0, .string ⟨#[]⟩, .string ⟨#[]⟩, .slice none 0 0], .int .i64 2] W fun e w' => ∃ A c, e = .returned (.tuple #[.slice A 0 c, .agg #[.int .i64 0, .int .i64 0]]) ∧ Below W.heap.size W w' := by
  refine (ebytes_any MQ0 2 W (mq_ok W) mq_sm (by omega) (by omega)).mono fun e w' h => ?_
  have h := bytesR_sl h
  rw [mq_b2, mq_c2] at h
  obtain ⟨A, c, h1, -, -, h2⟩ := h
  exact ⟨A, c, h1, h2⟩
theorem l10_b3 (W : World) : Calls Try.prog 16 #[.agg #[.int .u8 8, .int .u64 0, .int .u64 0, .int .u64 0, .int .u64 0, .int .u64 0, .int .u64 0, .string ⟨#[]⟩, .string ⟨#[]⟩, .slice none 0 0], .int .i64 1] W fun e w' => ∃ A c, e = .returned (.tuple #[.slice A 0 c, .agg #[.int .i64 7, .int .i64 0]]) ∧ Below W.heap.size W w' := by
  refine (ebytes_any MQ0 1 W (mq_ok W) mq_sm (by omega) (by omega)).mono fun e w' h => ?_
  have h := bytesR_sl h
  rw [mq_b1, mq_c1] at h
  obtain ⟨A, c, h1, -, -, h2⟩ := h
  exact ⟨A, c, h1, h2⟩
end Go.Proofs.Ytnfodgjihdoncaa
namespace Go.Proofs.Ytnfodgjihdoncaa
open Go.RowKit
theorem enc_len (M : MV) (v : Int) (hn : ∀ i, M.num i ≤ 18446744073709551615) (h : MvSm M) : (encB M (ofL (M.k : Int) v)).length ≤ 5670000 := by
  unfold encB
  split
  · have h1 := fm_len (fldR M) 810000 (ofL (M.k : Int) v) (fun r _ => fld_len hn h)
    have h2 := ofL_le7 M.k v
    have h3 : 810000 * (ofL (M.k : Int) v).length ≤ 810000 * 7 := Nat.mul_le_mul_left _ h2
    omega
  · simp
end Go.Proofs.Ytnfodgjihdoncaa
set_option linter.unusedVariables false
namespace Go.Proofs.Ytnfodgjihdoncaa
open Go.RowKit
theorem l10_fd (W : World) : Calls Try.prog 80 #[.agg #[.int .u8 1, .int .u64 1, .int .u64 3, .int .u64 0, .int .u64 0, .int .u64 0, .int .u64 0, .string ⟨#[]⟩, .string ⟨#[]⟩, .slice none 0 0], .agg #[.int .i64 2, .int .i64 1, .int .i64 1]] W fun e w' => ∃ A c, e = .returned (.slice A 2 c) ∧ Below W.heap.size W w' := by
  have h := field_any MH 2 1 1 W (mh_ok W) mh_sm (by omega) (by omega)
  rw [mh_f 2 1 3 (by decide +kernel) rfl (by omega) (by omega) (by omega)] at h
  refine h.mono fun e w' h => ?_
  obtain ⟨A, c, h1, -, h2⟩ := h
  exact ⟨A, c, h1, h2⟩
theorem l10_ck (W : World) : Calls Try.prog 51 #[.agg #[.int .u8 1, .int .u64 1, .int .u64 3, .int .u64 0, .int .u64 0, .int .u64 0, .int .u64 0, .string ⟨#[]⟩, .string ⟨#[]⟩, .slice none 0 0], .int .i64 1] W fun e w' => e = .returned (.agg #[.int .i64 0, .int .i64 0]) ∧ Below W.heap.size W w' := by
  have h := vcheck_any MH 1 W (mh_ok W) (by omega) (by omega)
  rw [mh_c] at h; exact h
end Go.Proofs.Ytnfodgjihdoncaa
