/- schema.rows: all fields, one by one. -/
import Derived.Test.YtehjibbjkadoiaaProg
import Derived.Test.YtehjibbjkadoiaaSchMath
import Derived.Test.YtehjibbjkadoiaaM6
import Derived.Test.YtehjibbjkadoiaaM2
set_option linter.unusedVariables false
namespace Go.Proofs.Ytehjibbjkadoiaa
open Go.RowKit Go.Shelf
attribute [local go_sem] Oper.semAt_some
def LIT : Array Value := #[.int .u8 1, .int .i64 1, .int .i64 1, .int .i64 1, .int .i64 0, .int .u8 1, .int .i64 1, .int .i64 2, .int .i64 1, .int .i64 1, .int .u8 1, .int .i64 1, .int .i64 3, .int .i64 7, .int .i64 0, .int .u8 2, .int .i64 1, .int .i64 1, .int .i64 1, .int .i64 0, .int .u8 2, .int .i64 1, .int .i64 2, .int .i64 6, .int .i64 1, .int .u8 2, .int .i64 2, .int .i64 3, .int .i64 7, .int .i64 0, .int .u8 3, .int .i64 1, .int .i64 1, .int .i64 7, .int .i64 0, .int .u8 3, .int .i64 1, .int .i64 2, .int .i64 9, .int .i64 1, .int .u8 3, .int .i64 3, .int .i64 3, .int .i64 4, .int .i64 0, .int .u8 4, .int .i64 1, .int .i64 1, .int .i64 7, .int .i64 0, .int .u8 4, .int .i64 1, .int .i64 2, .int .i64 2, .int .i64 0, .int .u8 4, .int .i64 2, .int .i64 3, .int .i64 7, .int .i64 1, .int .u8 4, .int .i64 3, .int .i64 4, .int .i64 10, .int .i64 0, .int .u8 5, .int .i64 1, .int .i64 1, .int .i64 2, .int .i64 0, .int .u8 5, .int .i64 1, .int .i64 2, .int .i64 1, .int .i64 1, .int .u8 5, .int .i64 1, .int .i64 3, .int .i64 7, .int .i64 0, .int .u8 5, .int .i64 1, .int .i64 4, .int .i64 1, .int .i64 2, .int .u8 5, .int .i64 1, .int .i64 5, .int .i64 4, .int .i64 3, .int .u8 5, .int .i64 2, .int .i64 6, .int .i64 2, .int .i64 4, .int .u8 5, .int .i64 3, .int .i64 7, .int .i64 10, .int .i64 0, .int .u8 6, .int .i64 1, .int .i64 1, .int .i64 2, .int .i64 0, .int .u8 6, .int .i64 1, .int .i64 2, .int .i64 1, .int .i64 1, .int .u8 6, .int .i64 1, .int .i64 3, .int .i64 1, .int .i64 2, .int .u8 6, .int .i64 1, .int .i64 4, .int .i64 4, .int .i64 3, .int .u8 6, .int .i64 1, .int .i64 5, .int .i64 1, .int .i64 4, .int .u8 6, .int .i64 2, .int .i64 6, .int .i64 8, .int .i64 0, .int .u8 6, .int .i64 3, .int .i64 7, .int .i64 3, .int .i64 5, .int .u8 7, .int .i64 1, .int .i64 1, .int .i64 2, .int .i64 0, .int .u8 7, .int .i64 2, .int .i64 2, .int .i64 8, .int .i64 0, .int .u8 8, .int .i64 2, .int .i64 1, .int .i64 2, .int .i64 0, .int .u8 9, .int .i64 1, .int .i64 1, .int .i64 2, .int .i64 0, .int .u8 9, .int .i64 1, .int .i64 2, .int .i64 1, .int .i64 1, .int .u8 9, .int .i64 1, .int .i64 3, .int .i64 1, .int .i64 2, .int .u8 9, .int .i64 2, .int .i64 4, .int .i64 10, .int .i64 0, .int .u8 9, .int .i64 3, .int .i64 5, .int .i64 5, .int .i64 3, .int .u8 9, .int .i64 3, .int .i64 6, .int .i64 3, .int .i64 4, .int .u8 10, .int .i64 1, .int .i64 1, .int .i64 1, .int .i64 0, .int .u8 10, .int .i64 1, .int .i64 2, .int .i64 8, .int .i64 0, .int .u8 10, .int .i64 2, .int .i64 3, .int .i64 2, .int .i64 1, .int .u8 10, .int .i64 3, .int .i64 4, .int .i64 6, .int .i64 2]
def rowV (r : SRow) : Value := .agg #[.int .u8 (r.kind : Nat), .int .i64 (r.since : Nat), .int .i64 (r.num : Nat), .int .i64 (r.typ : Nat), .int .i64 (r.slot : Nat)]
theorem lit_idx (W : World) : (j : Nat) → (h : j < 40) → (Instr.index 135 (.agg LIT) (.int .i64 (j : Nat))).run Try.prog W = .ok (rowV (rowAt j)) W
  | 0, _ => by as_aux_lemma => kernel_rfl
  | 1, _ => by as_aux_lemma => kernel_rfl
  | 2, _ => by as_aux_lemma => kernel_rfl
  | 3, _ => by as_aux_lemma => kernel_rfl
  | 4, _ => by as_aux_lemma => kernel_rfl
  | 5, _ => by as_aux_lemma => kernel_rfl
  | 6, _ => by as_aux_lemma => kernel_rfl
  | 7, _ => by as_aux_lemma => kernel_rfl
  | 8, _ => by as_aux_lemma => kernel_rfl
  | 9, _ => by as_aux_lemma => kernel_rfl
  | 10, _ => by as_aux_lemma => kernel_rfl
  | 11, _ => by as_aux_lemma => kernel_rfl
  | 12, _ => by as_aux_lemma => kernel_rfl
  | 13, _ => by as_aux_lemma => kernel_rfl
  | 14, _ => by as_aux_lemma => kernel_rfl
  | 15, _ => by as_aux_lemma => kernel_rfl
  | 16, _ => by as_aux_lemma => kernel_rfl
  | 17, _ => by as_aux_lemma => kernel_rfl
  | 18, _ => by as_aux_lemma => kernel_rfl
  | 19, _ => by as_aux_lemma => kernel_rfl
  | 20, _ => by as_aux_lemma => kernel_rfl
  | 21, _ => by as_aux_lemma => kernel_rfl
  | 22, _ => by as_aux_lemma => kernel_rfl
  | 23, _ => by as_aux_lemma => kernel_rfl
  | 24, _ => by as_aux_lemma => kernel_rfl
  | 25, _ => by as_aux_lemma => kernel_rfl
  | 26, _ => by as_aux_lemma => kernel_rfl
  | 27, _ => by as_aux_lemma => kernel_rfl
  | 28, _ => by as_aux_lemma => kernel_rfl
  | 29, _ => by as_aux_lemma => kernel_rfl
  | 30, _ => by as_aux_lemma => kernel_rfl
  | 31, _ => by as_aux_lemma => kernel_rfl
  | 32, _ => by as_aux_lemma => kernel_rfl
  | 33, _ => by as_aux_lemma => kernel_rfl
  | 34, _ => by as_aux_lemma => kernel_rfl
  | 35, _ => by as_aux_lemma => kernel_rfl
  | 36, _ => by as_aux_lemma => kernel_rfl
  | 37, _ => by as_aux_lemma => kernel_rfl
  | 38, _ => by as_aux_lemma => kernel_rfl
  | 39, _ => by as_aux_lemma => kernel_rfl
  | j + 40, h => absurd h (by omega)
theorem wpListIn_build_lit {F : Fence} {n : Nat} {P : Program} {w : World} {ops : Array Oper} {rest : List Oper} {o : Oper} {a : Act} {Q : Exit → Act → World → Prop} (hgd : o.guard = none) (t : TypeId) (parts : Array (Nat × Operand)) (ho : o.op = .build t parts)
    (v : Value) (hrun : (Instr.build t (parts.map fun (i, x) => (i, a.eval x))).run P w = .ok v w) (h : wpListIn F n P ops Q rest (a.put o.dst v) w) : wpListIn F n P ops Q (o :: rest) a w := by
  refine wpListIn_plain hgd fun K hK => ?_
  unfold Oper.wpIn
  refine ⟨?_, ?_⟩
  · simp [Oper.about, ho]
  · rw [Oper.semAt_plain F _ _ (by rw [ho]; intro c hc'; cases hc')]
    simp only [execOp, ho]
    rw [Sem.run_bind, hrun]
    exact hK _ _ h
set_option maxRecDepth 100000 in
set_option maxHeartbeats 4000000 in
theorem rows1_in (m : Nat) (hm : 1 ≤ m) (l : Nat) (J : Nat → World → Prop) (Jx : World → Prop) (hJn : ∀ j W W', J j W → Chg (fun _ => False) W W' → J j W')
    (hY : ∀ j W, j < 40 → J j W → YieldAt Fence.wide (m - 1) Try.prog l #[rowV (rowAt j)] W fun e W' => (e = .returned (.bool true) ∧ J (j + 1) W') ∨ (e = .returned (.bool false) ∧ Jx W'))
    (W : World) (h0 : J 0 W) :
    CallsIn Fence.wide m Try.prog 90 #[.func (.yield l) #[] #[]] W fun e W' => (∃ v, e = .returned v) ∧ (J 40 W' ∨ Jx W') := by
  have hidx := fun W j h => lit_idx W j h
  have HY := hid hY
  have HJN := hid hJn
  have HI := hid hidx
  clear hY hJn hidx
  refine callsIn_of_wp Try.func90 rfl trivial ?_ rfl
  simp only [Try.ntmps90, List.size_toArray, List.length_cons, List.length_nil, Nat.reduceAdd, Nat.reduceSub, Array.replicate_succ, Array.replicate_zero, List.push_toArray, List.append_toArray, List.nil_append, List.cons_append]
  gi_wp2_with (refine wpListIn_build_lit rfl 135 _ rfl (.agg LIT) (by as_aux_lemma => kernel_rfl) ?_)
  gi_loopw [3, 45] (fun _ p wr => ∃ (j : Nat), p = .int .i64 (j : Int) ∧ j ≤ 40 ∧ J j wr) (fun _ p _ => 40 - (intOf p).toNat)
  case atStart => exact ⟨0, rfl, by omega, h0⟩
  case round =>
    obtain ⟨j, rfl, hj, hJ⟩ := hrel
    by_cases hlt : j < 40
    · have hi := fun W => HI.out W j hlt
      unfold rowV at hi
      have hy0 := fun (W' : World) (hc : Chg (fun _ => False) wr W') => HY.out j W' hlt (HJN.out j wr W' hJ hc)
      unfold rowV at hy0
      generalize rowAt j = r at *
      obtain ⟨k, si, nu, ty, sl⟩ := r
      simp only at hi hy0
      obtain ⟨fn, tmps, assign, body, hy, hR⟩ := hy0 (wr.alloc (.cells #[.int .u8 (k : Nat), .int .i64 (si : Nat), .int .i64 (nu : Nat), .int .i64 (ty : Nat), .int .i64 (sl : Nat)] 116)) ((Chg.refl _ wr).alloc _)
      clear hy0
      gi_wp2
      refine hR.mono ?_
      rintro e W3 (⟨rfl, hJ3⟩ | ⟨rfl, hJx3⟩)
      · gi_wp2
        go_roundw
        case rel => exact ⟨j + 1, by go_num, by omega, hJ3⟩
        case measure => simp [intOf]; omega
      · gi_wp2
        refine bodyPost_ret (results_none rfl _ _ _) rfl ?_
        exact ⟨⟨_, rfl⟩, .inr hJx3⟩
    · obtain rfl : j = 40 := by omega
      gi_wp2
      go_end0
      exact ⟨⟨_, rfl⟩, .inl hJ⟩
end Go.Proofs.Ytehjibbjkadoiaa
