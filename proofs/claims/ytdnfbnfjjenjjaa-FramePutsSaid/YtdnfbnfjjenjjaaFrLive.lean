/- What must be whatever is asked: layer 13. -/
import Derived.Test.YtdnfbnfjjenjjaaFrOf
set_option linter.unusedVariables false
namespace Go.Proofs.Ytdnfbnfjjenjjaa
open Go.RowKit
/-- Reading what was put. -/
theorem fread_ok (t : UInt8) (p m : List UInt8) (n k : Nat) (A : Option Addr) (c : Nat) (w : World) (hp : p.length = n) (hl : n ≤ 8192) (hk : n + 9 + m.length = k) (hS : Sl w A c ((Fr.put t p ++ m).map bv)) :
    Calls Try.prog 11 #[.slice A k c] w fun e w' => ∃ A' c', e = .returned (.tuple #[.agg #[.int .u8 (t.toNat : Int), .slice A' n c'], .int .i64 ((n + 9 : Nat) : Int), .int .i64 0]) ∧ Pay w.heap.size w' A' c' p ∧ Below w.heap.size w w' := by
  obtain ⟨h0, ht, hpl, hln⟩ := Fr.rE_put t p m (by omega)
  refine (fread_any (Fr.put t p ++ m) k A c w (by rw [List.length_append, Fr.put_len]; omega) hS).mono ?_
  rintro e w' ⟨(⟨-, A', c', rfl, hpay⟩ | ⟨hne, -⟩), hb⟩
  · rw [ht, hpl, hln, hp] at *
    exact ⟨A', c', rfl, hpay, hb⟩
  · exact absurd h0 hne
theorem fread_no (bs : List UInt8) (n k : Nat) (A : Option Addr) (c : Nat) (w : World) (hk : Fr.rE bs = k) (h0 : k ≠ 0) (hn : bs.length = n) (hS : Sl w A c (bs.map bv)) :
    Calls Try.prog 11 #[.slice A n c] w fun e w' => e = .returned (.tuple #[.agg #[.int .u8 0, .slice none 0 0], .int .i64 0, .int .i64 (k : Int)]) ∧ Below w.heap.size w w' := by
  refine (fread_any bs n A c w hn hS).mono ?_
  rintro e w' ⟨(⟨h, -⟩ | ⟨-, rfl⟩), hb⟩
  · exact absurd (hk.symm.trans h) h0
  · exact ⟨by rw [hk], hb⟩
def MH1 : MV := ⟨1, 1, 0, 0, 0, 0, 0, ⟨#[]⟩, ⟨#[]⟩, none, 0, []⟩
def MV0 : MV := ⟨0, 0, 0, 0, 0, 0, 0, ⟨#[]⟩, ⟨#[]⟩, none, 0, []⟩
theorem mh1_ok (w : World) : MvOk w MH1 := by
  refine ⟨by decide, fun i => ?_, fun i => ?_, fun x hx => by simp [MH1] at hx, Sl.nil_ w⟩
  · unfold MV.num; split <;> decide
  · unfold MV.text; split <;> decide
theorem mv0_ok (w : World) : MvOk w MV0 := by
  refine ⟨by decide, fun i => ?_, fun i => ?_, fun x hx => by simp [MV0] at hx, Sl.nil_ w⟩
  · unfold MV.num; split <;> decide
  · unfold MV.text; split <;> decide
theorem mh1_sm : MvSm MH1 := ⟨by decide, fun i => by unfold MV.text; split <;> decide, fun s hs => by simp [MH1] at hs⟩
theorem mv0_sm : MvSm MV0 := ⟨by decide, fun i => by unfold MV.text; split <;> decide, fun s hs => by simp [MV0] at hs⟩
theorem mh1_c : chkV MH1 (ofL (MH1.k : Int) 1) = (0, 0) := by
  show chkV MH1 (ofL ((1 : Nat) : Int) 1) = _
  rw [mh_o]; decide +kernel
theorem mv0_c : chkV MV0 (ofL (MV0.k : Int) 1) = (7, 0) := by
  show chkV MV0 (ofL ((0 : Nat) : Int) 1) = _
  rw [show ofL ((0 : Nat) : Int) 1 = [] from by decide +kernel]; rfl
theorem mh1_b : encB MH1 (ofL (MH1.k : Int) 1) = [8, 1] := by
  unfold encB
  rw [mh1_c]
  show (if (0 : Int) = 0 then (ofL ((1 : Nat) : Int) 1).flatMap (fldR MH1) else []) = _
  rw [if_pos rfl, mh_o]
  have f1 : fldR MH1 ⟨1, 1, 1, 1, 0⟩ = [8, 1] := by
    show fldB MH1 1 1 0 = _
    have hd : dflB MH1 1 0 = false := by decide +kernel
    rw [fldB_in hd mh1_sm (by omega) (by omega)]
    have hw : partW MH1 1 1 0 = [(1, 0, 1, [])] := by
      unfold partW
      rw [if_neg (by omega), if_neg (by omega), if_neg (by omega)]; rfl
    rw [hw, List.flatMap_cons, List.flatMap_nil, List.append_nil]
    show pB 1 0 1 [] = _
    unfold pB pTail
    rw [mk_ok (by omega) (by omega) rfl]
    simp only [Int.add_zero]
    rw [put_small _ (by omega), if_pos trivial, put_small _ (by omega)]
    decide
  have f2 : fldR MH1 ⟨1, 1, 2, 1, 1⟩ = [] := by
    show fldB MH1 2 1 1 = _
    unfold fldB
    rw [if_pos (by decide +kernel)]
  have f3 : fldR MH1 ⟨1, 1, 3, 7, 0⟩ = [] := by
    show fldB MH1 3 7 0 = _
    unfold fldB
    rw [if_pos (by decide +kernel)]
  rw [List.flatMap_cons, List.flatMap_cons, List.flatMap_cons, List.flatMap_nil, f1, f2, f3]
  rfl
theorem l13_of0 (W : World) : Calls Try.prog 15 #[.agg #[.int .u8 0, .int .u64 0, .int .u64 0, .int .u64 0, .int .u64 0, .int .u64 0, .int .u64 0, .string ⟨#[]⟩, .string ⟨#[]⟩, .slice none 0 0], .int .i64 1] W fun e w' => e = .returned (.tuple #[.agg #[.int .u8 0, .slice none 0 0], .agg #[.int .i64 7, .int .i64 0]]) ∧ Below W.heap.size W w' := by
  refine (fof_any MV0 1 W (mv0_ok W) mv0_sm (by omega) (by omega)).mono ?_
  rintro e w' ⟨h, hb⟩
  rw [mv0_c] at h
  rcases h with ⟨-, h⟩ | ⟨h, -⟩
  · exact ⟨h, hb⟩
  · exact absurd h (by decide)
theorem l13_of1 (W : World) : Calls Try.prog 15 #[.agg #[.int .u8 1, .int .u64 1, .int .u64 0, .int .u64 0, .int .u64 0, .int .u64 0, .int .u64 0, .string ⟨#[]⟩, .string ⟨#[]⟩, .slice none 0 0], .int .i64 1] W fun e w' => ∃ A c, e = .returned (.tuple #[.agg #[.int .u8 1, .slice A 2 c], .agg #[.int .i64 0, .int .i64 0]]) ∧ Sl w' A c (([8, 1] : List UInt8).map bv) ∧ Below W.heap.size W w' := by
  refine (fof_any MH1 1 W (mh1_ok W) mh1_sm (by omega) (by omega)).mono ?_
  rintro e w' ⟨h, hb⟩
  rw [mh1_c, mh1_b] at h
  rcases h with ⟨h, -⟩ | ⟨-, A, c, h, hs⟩
  · exact absurd rfl h
  · exact ⟨A, c, h, hs, hb⟩
theorem l13_e1 : Fr.rE [197, 155] = 3 := by decide +kernel
theorem l13_e2 : Fr.rE [197] = 4 := by decide +kernel
theorem l13_e3 : Fr.rE [197, 154, 0, 0, 255] = 2 := by decide +kernel
theorem l13_put (W : World) : Calls Try.prog 7 #[.agg #[.int .u8 8, .slice none 0 0]] W fun e w' => ∃ A c, e = .returned (.tuple #[.slice A 9 c, .int .i64 0]) ∧ w'.ownsRow W.heap.size 5 1 (.slice A 9 c) 9 ((Fr.put 8 []).map bv) ∧ Below W.heap.size W w' := by
  refine Calls.mono (fput_any 8 [] 0 none 0 W rfl (by omega) (Sl.nil_ W)) ?_
  rintro e w1 ⟨v1, rfl, ho1, hb1⟩
  obtain ⟨A1, c1, rfl⟩ := row_slice' ho1
  exact ⟨A1, c1, rfl, ho1, hb1⟩
theorem l13_r1 (W : World) (A : Option Addr) (c : Nat) (h : Sl W A c ((Fr.put 8 [] ++ [1]).map bv)) : Calls Try.prog 11 #[.slice A 10 c] W fun e w' => ∃ A' c', e = .returned (.tuple #[.agg #[.int .u8 8, .slice A' 0 c'], .int .i64 9, .int .i64 0]) ∧ Below W.heap.size W w' := by
  refine Calls.mono (fread_ok 8 [] [1] 0 10 A c W rfl (by omega) rfl h) ?_
  rintro e w1 ⟨A1, c1, rfl, -, hb1⟩
  exact ⟨A1, c1, rfl, hb1⟩
theorem l13_r2 (W : World) (N : Nat) (hN : W.heap.size = N) : Calls Try.prog 11 #[.slice (some ⟨N, 0, none⟩) 2 2] (W.alloc (.cells #[.int .u8 197, .int .u8 155] 5)) fun e w' => e = .returned (.tuple #[.agg #[.int .u8 0, .slice none 0 0], .int .i64 0, .int .i64 3]) ∧ Below W.heap.size W w' := by
  subst hN
  exact (fread_no [197, 155] 2 3 _ 2 _ l13_e1 (by omega) rfl (lit_sl W 5 [197, 155] #[.int .u8 197, .int .u8 155] 2 rfl (by omega) rfl)).mono fun e w' h => ⟨h.1, bw_t (bw_a (Below.refl _ W) _) h.2⟩
theorem l13_r3 (W : World) (N : Nat) (hN : W.heap.size = N) : Calls Try.prog 11 #[.slice (some ⟨N, 0, none⟩) 1 1] (W.alloc (.cells #[.int .u8 197] 5)) fun e w' => e = .returned (.tuple #[.agg #[.int .u8 0, .slice none 0 0], .int .i64 0, .int .i64 4]) ∧ Below W.heap.size W w' := by
  subst hN
  exact (fread_no [197] 1 4 _ 1 _ l13_e2 (by omega) rfl (lit_sl W 5 [197] #[.int .u8 197] 1 rfl (by omega) rfl)).mono fun e w' h => ⟨h.1, bw_t (bw_a (Below.refl _ W) _) h.2⟩
theorem l13_r4 (W : World) (N : Nat) (hN : W.heap.size = N) : Calls Try.prog 11 #[.slice (some ⟨N, 0, none⟩) 5 5] (W.alloc (.cells #[.int .u8 197, .int .u8 154, .int .u8 0, .int .u8 0, .int .u8 255] 5)) fun e w' => e = .returned (.tuple #[.agg #[.int .u8 0, .slice none 0 0], .int .i64 0, .int .i64 2]) ∧ Below W.heap.size W w' := by
  subst hN
  exact (fread_no [197, 154, 0, 0, 255] 5 2 _ 5 _ l13_e3 (by omega) rfl (lit_sl W 5 [197, 154, 0, 0, 255] #[.int .u8 197, .int .u8 154, .int .u8 0, .int .u8 0, .int .u8 255] 5 rfl (by omega) rfl)).mono fun e w' h => ⟨h.1, bw_t (bw_a (Below.refl _ W) _) h.2⟩
theorem l13_s0 (W : World) : Calls Try.prog 8 #[.int .i64 0] W fun e w' => e = .returned (.int .i64 9) ∧ W = w' := by
  have h := fsize_any 0 W (by omega) (by omega)
  rwa [show Fr.size 0 = 9 from by decide] at h
theorem l13_s1 (W : World) : Calls Try.prog 8 #[.int .i64 8193] W fun e w' => e = .returned (.int .i64 0) ∧ W = w' := by
  have h := fsize_any 8193 W (by omega) (by omega)
  rwa [show Fr.size 8193 = 0 from by decide] at h
end Go.Proofs.Ytdnfbnfjjenjjaa
