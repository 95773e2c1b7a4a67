/- The table of all fields: plain mathematics. · schema.rows: all fields, one by one. -/
import Derived.WalkKit
import Derived.Test.YtnfodgjihdoncaaProg
import Derived.Test.YtnfodgjihdoncaaM6
import Derived.Test.YtnfodgjihdoncaaM2
set_option linter.unusedVariables false
namespace Go.Proofs.Ytnfodgjihdoncaa
/-- A field of a kind, and the first version that has it. -/
structure SRow where
  kind : Nat
  since : Nat
  num : Nat
  typ : Nat
  slot : Nat
deriving DecidableEq, Inhabited
def ROWS : List SRow := [⟨1, 1, 1, 1, 0⟩, ⟨1, 1, 2, 1, 1⟩, ⟨1, 1, 3, 7, 0⟩, ⟨2, 1, 1, 1, 0⟩, ⟨2, 1, 2, 6, 1⟩, ⟨2, 2, 3, 7, 0⟩, ⟨3, 1, 1, 7, 0⟩, ⟨3, 1, 2, 9, 1⟩, ⟨3, 3, 3, 4, 0⟩, ⟨4, 1, 1, 7, 0⟩, ⟨4, 1, 2, 2, 0⟩, ⟨4, 2, 3, 7, 1⟩, ⟨4, 3, 4, 10, 0⟩, ⟨5, 1, 1, 2, 0⟩, ⟨5, 1, 2, 1, 1⟩, ⟨5, 1, 3, 7, 0⟩, ⟨5, 1, 4, 1, 2⟩, ⟨5, 1, 5, 4, 3⟩, ⟨5, 2, 6, 2, 4⟩, ⟨5, 3, 7, 10, 0⟩, ⟨6, 1, 1, 2, 0⟩, ⟨6, 1, 2, 1, 1⟩, ⟨6, 1, 3, 1, 2⟩, ⟨6, 1, 4, 4, 3⟩, ⟨6, 1, 5, 1, 4⟩, ⟨6, 2, 6, 8, 0⟩, ⟨6, 3, 7, 3, 5⟩, ⟨7, 1, 1, 2, 0⟩, ⟨7, 2, 2, 8, 0⟩, ⟨8, 2, 1, 2, 0⟩, ⟨9, 1, 1, 2, 0⟩, ⟨9, 1, 2, 1, 1⟩, ⟨9, 1, 3, 1, 2⟩, ⟨9, 2, 4, 10, 0⟩, ⟨9, 3, 5, 5, 3⟩, ⟨9, 3, 6, 3, 4⟩, ⟨10, 1, 1, 1, 0⟩, ⟨10, 1, 2, 8, 0⟩, ⟨10, 2, 3, 2, 1⟩, ⟨10, 3, 4, 6, 2⟩]
def rowAt (j : Nat) : SRow := ROWS.getD j default
theorem ROWS_len : ROWS.length = 40 := rfl
theorem rowAt_mem (j : Nat) (h : j < 40) : rowAt j ∈ ROWS := by
  have h2 : j < ROWS.length := h
  unfold rowAt
  rw [List.getD_eq_getElem?_getD, List.getElem?_eq_getElem h2]
  exact List.getElem_mem h2
theorem rows_all (p : SRow → Bool) (h : ROWS.all p = true) (j : Nat) (hj : j < 40) : p (rowAt j) = true := List.all_eq_true.1 h _ (rowAt_mem j hj)
/-- What a row may be. -/
theorem rowAt_ok (j : Nat) (hj : j < 40) : 1 ≤ (rowAt j).kind ∧ (rowAt j).kind ≤ 10 ∧ 1 ≤ (rowAt j).since ∧ (rowAt j).since ≤ 3 ∧ 1 ≤ (rowAt j).num ∧ (rowAt j).num ≤ 7 ∧ 1 ≤ (rowAt j).typ ∧ (rowAt j).typ ≤ 10 ∧ (rowAt j).slot ≤ 5 := by
  have h := rows_all (fun r => decide (1 ≤ r.kind ∧ r.kind ≤ 10 ∧ 1 ≤ r.since ∧ r.since ≤ 3 ∧ 1 ≤ r.num ∧ r.num ≤ 7 ∧ 1 ≤ r.typ ∧ r.typ ≤ 10 ∧ r.slot ≤ 5)) (by decide) j hj
  simpa using h
/-- The fields that a version has. -/
def kn (v : Int) : List SRow := if 3 < v then [] else ROWS.filter fun r => decide ((r.since : Int) ≤ v)
/-- How many of the first rows a version has. -/
def cnt (v : Int) (j : Nat) : Nat := ((ROWS.take j).filter fun r => decide ((r.since : Int) ≤ v)).length
theorem take_row (j : Nat) (hj : j < 40) : ROWS.take (j + 1) = ROWS.take j ++ [rowAt j] := by
  have h2 : j < ROWS.length := hj
  rw [List.take_succ_eq_append_getElem h2]
  congr 2
  unfold rowAt
  rw [List.getD_eq_getElem?_getD, List.getElem?_eq_getElem h2]
  rfl
theorem cnt_zero (v : Int) : cnt v 0 = 0 := rfl
theorem cnt_has (v : Int) (j : Nat) (hj : j < 40) (h : ((rowAt j).since : Int) ≤ v) : cnt v (j + 1) = cnt v j + 1 := by
  unfold cnt
  rw [take_row j hj, List.filter_append, List.filter_cons_of_pos (by simpa using h), List.length_append]
  rfl
theorem cnt_not (v : Int) (j : Nat) (hj : j < 40) (h : ¬ ((rowAt j).since : Int) ≤ v) : cnt v (j + 1) = cnt v j := by
  unfold cnt
  rw [take_row j hj, List.filter_append, List.filter_cons_of_neg (by simpa using h), List.filter_nil, List.append_nil]
theorem kn_in (v : Int) (hv : ¬ 3 < v) : kn v = ROWS.filter fun r => decide ((r.since : Int) ≤ v) := by unfold kn; rw [if_neg hv]
theorem kn_out (v : Int) (hv : 3 < v) : kn v = [] := by unfold kn; rw [if_pos hv]
theorem cnt_all (v : Int) (hv : ¬ 3 < v) : cnt v 40 = (kn v).length := by
  unfold cnt
  rw [kn_in v hv]
  rfl
theorem kn_split (v : Int) (hv : ¬ 3 < v) (j : Nat) (hj : j < 40) (h : ((rowAt j).since : Int) ≤ v) : (kn v)[cnt v j]? = some (rowAt j) := by
  have hsp : ROWS = ROWS.take j ++ (rowAt j :: ROWS.drop (j + 1)) := by
    have h1 := List.take_append_drop (j + 1) ROWS
    rw [take_row j hj, List.append_assoc] at h1
    exact h1.symm
  have h2 : kn v = (ROWS.take j).filter (fun r => decide ((r.since : Int) ≤ v)) ++ (rowAt j :: (ROWS.drop (j + 1)).filter fun r => decide ((r.since : Int) ≤ v)) := by
    rw [kn_in v hv]
    conv => lhs; rw [hsp]
    rw [List.filter_append, List.filter_cons_of_pos (by simpa using h)]
  rw [h2]
  unfold cnt
  rw [List.getElem?_append_right (Nat.le_refl _)]
  simp
theorem cnt_lt (v : Int) (hv : ¬ 3 < v) (j : Nat) (hj : j < 40) (h : ((rowAt j).since : Int) ≤ v) : cnt v j < (kn v).length := (List.getElem?_eq_some_iff.1 (kn_split v hv j hj h)).1
theorem kn_mem (v : Int) {r : SRow} (h : r ∈ kn v) : r ∈ ROWS := by
  unfold kn at h
  split at h
  · simp at h
  · exact (List.mem_filter.1 h).1
theorem kn_len (v : Int) : (kn v).length ≤ 40 := by
  unfold kn
  split
  · simp
  · exact List.length_filter_le _ _
/-- The fields of a kind that a version has. -/
def ofL (k : Int) (v : Int) : List SRow := (kn v).filter fun r => decide ((r.kind : Int) = k)
end Go.Proofs.Ytnfodgjihdoncaa
set_option linter.unusedVariables false
namespace Go.Proofs.Ytnfodgjihdoncaa
open Go.RowKit Go.Shelf
attribute [local go_sem] Oper.semAt_some
def LIT : Array Value := #[.int .u8 1, .int .i64 1, .int .i64 1, .int .i64 1, .int .i64 0, .int .u8 1, .int .i64 1, .int .i64 2, .int .i64 1, .int .i64 1, .int .u8 1, .int .i64 1, .int .i64 3, .int .i64 7, .int .i64 0, .int .u8 2, .int .i64 1, .int .i64 1, .int .i64 1, .int .i64 0, .int .u8 2, .int .i64 1, .int .i64 2, .int .i64 6, .int .i64 1, .int .u8 2, .int .i64 2, .int .i64 3, .int .i64 7, .int .i64 0, .int .u8 3, .int .i64 1, .int .i64 1, .int .i64 7, .int .i64 0, .int .u8 3, .int .i64 1, .int .i64 2, .int .i64 9, .int .i64 1, .int .u8 3, .int .i64 3, .int .i64 3, .int .i64 4, .int .i64 0, .int .u8 4, .int .i64 1, .int .i64 1, .int .i64 7, .int .i64 0, .int .u8 4, .int .i64 1, .int .i64 2, .int .i64 2, .int .i64 0, .int .u8 4, .int .i64 2, .int .i64 3, .int .i64 7, .int .i64 1, .int .u8 4, .int .i64 3, .int .i64 4, .int .i64 10, .int .i64 0, .int .u8 5, .int .i64 1, .int .i64 1, .int .i64 2, .int .i64 0, .int .u8 5, .int .i64 1, .int .i64 2, .int .i64 1, .int .i64 1, .int .u8 5, .int .i64 1, .int .i64 3, .int .i64 7, .int .i64 0, .int .u8 5, .int .i64 1, .int .i64 4, .int .i64 1, .int .i64 2, .int .u8 5, .int .i64 1, .int .i64 5, .int .i64 4, .int .i64 3, .int .u8 5, .int .i64 2, .int .i64 6, .int .i64 2, .int .i64 4, .int .u8 5, .int .i64 3, .int .i64 7, .int .i64 10, .int .i64 0, .int .u8 6, .int .i64 1, .int .i64 1, .int .i64 2, .int .i64 0, .int .u8 6, .int .i64 1, .int .i64 2, .int .i64 1, .int .i64 1, .int .u8 6, .int .i64 1, .int .i64 3, .int .i64 1, .int .i64 2, .int .u8 6, .int .i64 1, .int .i64 4, .int .i64 4, .int .i64 3, .int .u8 6, .int .i64 1, .int .i64 5, .int .i64 1, .int .i64 4, .int .u8 6, .int .i64 2, .int .i64 6, .int .i64 8, .int .i64 0, .int .u8 6, .int .i64 3, .int .i64 7, .int .i64 3, .int .i64 5, .int .u8 7, .int .i64 1, .int .i64 1, .int .i64 2, .int .i64 0, .int .u8 7, .int .i64 2, .int .i64 2, .int .i64 8, .int .i64 0, .int .u8 8, .int .i64 2, .int .i64 1, .int .i64 2, .int .i64 0, .int .u8 9, .int .i64 1, .int .i64 1, .int .i64 2, .int .i64 0, .int .u8 9, .int .i64 1, .int .i64 2, .int .i64 1, .int .i64 1, .int .u8 9, .int .i64 1, .int .i64 3, .int .i64 1, .int .i64 2, .int .u8 9, .int .i64 2, .int .i64 4, .int .i64 10, .int .i64 0, .int .u8 9, .int .i64 3, .int .i64 5, .int .i64 5, .int .i64 3, .int .u8 9, .int .i64 3, .int .i64 6, .int .i64 3, .int .i64 4, .int .u8 10, .int .i64 1, .int .i64 1, .int .i64 1, .int .i64 0, .int .u8 10, .int .i64 1, .int .i64 2, .int .i64 8, .int .i64 0, .int .u8 10, .int .i64 2, .int .i64 3, .int .i64 2, .int .i64 1, .int .u8 10, .int .i64 3, .int .i64 4, .int .i64 6, .int .i64 2]
def rowV (r : SRow) : Value := .agg #[.int .u8 (r.kind : Nat), .int .i64 (r.since : Nat), .int .i64 (r.num : Nat), .int .i64 (r.typ : Nat), .int .i64 (r.slot : Nat)]
theorem lit_idx (W : World) : (j : Nat) → (h : j < 40) → (Instr.index 205 (.agg LIT) (.int .i64 (j : Nat))).run Try.prog W = .ok (rowV (rowAt j)) W
  | 0, _ => by as_aux_lemma => kernel_rfl
  | 1, _ => by as_aux_lemma => kernel_rfl
  | 2, _ => by as_aux_lemma => kernel_rfl
  | 3, _ => by as_aux_lemma => kernel_rfl
  | 4, _ => by as_aux_lemma => kernel_rfl
  | 5, _ => by as_aux_lemma => kernel_rfl
  | 6, _ => by as_aux_lemma => kernel_rfl
  | 7, _ => by as_aux_lemma => kernel_rfl
  | 8, _ => by as_aux_lemma => kernel_rfl
  | 9, _ => by as_aux_lemma => kernel_rfl
  | 10, _ => by as_aux_lemma => kernel_rfl
  | 11, _ => by as_aux_lemma => kernel_rfl
  | 12, _ => by as_aux_lemma => kernel_rfl
  | 13, _ => by as_aux_lemma => kernel_rfl
  | 14, _ => by as_aux_lemma => kernel_rfl
  | 15, _ => by as_aux_lemma => kernel_rfl
  | 16, _ => by as_aux_lemma => kernel_rfl
  | 17, _ => by as_aux_lemma => kernel_rfl
  | 18, _ => by as_aux_lemma => kernel_rfl
  | 19, _ => by as_aux_lemma => kernel_rfl
  | 20, _ => by as_aux_lemma => kernel_rfl
  | 21, _ => by as_aux_lemma => kernel_rfl
  | 22, _ => by as_aux_lemma => kernel_rfl
  | 23, _ => by as_aux_lemma => kernel_rfl
  | 24, _ => by as_aux_lemma => kernel_rfl
  | 25, _ => by as_aux_lemma => kernel_rfl
  | 26, _ => by as_aux_lemma => kernel_rfl
  | 27, _ => by as_aux_lemma => kernel_rfl
  | 28, _ => by as_aux_lemma => kernel_rfl
  | 29, _ => by as_aux_lemma => kernel_rfl
  | 30, _ => by as_aux_lemma => kernel_rfl
  | 31, _ => by as_aux_lemma => kernel_rfl
  | 32, _ => by as_aux_lemma => kernel_rfl
  | 33, _ => by as_aux_lemma => kernel_rfl
  | 34, _ => by as_aux_lemma => kernel_rfl
  | 35, _ => by as_aux_lemma => kernel_rfl
  | 36, _ => by as_aux_lemma => kernel_rfl
  | 37, _ => by as_aux_lemma => kernel_rfl
  | 38, _ => by as_aux_lemma => kernel_rfl
  | 39, _ => by as_aux_lemma => kernel_rfl
  | j + 40, h => absurd h (by omega)
theorem wpListIn_build_lit {F : Fence} {n : Nat} {P : Program} {w : World} {ops : Array Oper} {rest : List Oper} {o : Oper} {a : Act} {Q : Exit → Act → World → Prop} (hgd : o.guard = none) (t : TypeId) (parts : Array (Nat × Operand)) (ho : o.op = .build t parts)
    (v : Value) (hrun : (Instr.build t (parts.map fun (i, x) => (i, a.eval x))).run P w = .ok v w) (h : wpListIn F n P ops Q rest (a.put o.dst v) w) : wpListIn F n P ops Q (o :: rest) a w := by
  refine wpListIn_plain hgd fun K hK => ?_
  unfold Oper.wpIn
  refine ⟨?_, ?_⟩
  · simp [Oper.about, ho]
  · rw [Oper.semAt_plain F _ _ (by rw [ho]; intro c hc'; cases hc')]
    simp only [execOp, ho]
    rw [Sem.run_bind, hrun]
    exact hK _ _ h
set_option maxRecDepth 100000 in
set_option maxHeartbeats 4000000 in
theorem rows1_in (m : Nat) (hm : 1 ≤ m) (l : Nat) (J : Nat → World → Prop) (Jx : World → Prop) (hJn : ∀ j W W', J j W → Chg (fun _ => False) W W' → J j W')
    (hY : ∀ j W, j < 40 → J j W → YieldAt Fence.wide (m - 1) Try.prog l #[rowV (rowAt j)] W fun e W' => (e = .returned (.bool true) ∧ J (j + 1) W') ∨ (e = .returned (.bool false) ∧ Jx W'))
    (W : World) (h0 : J 0 W) :
    CallsIn Fence.wide m Try.prog 133 #[.func (.yield l) #[] #[]] W fun e W' => (∃ v, e = .returned v) ∧ (J 40 W' ∨ Jx W') := by
  have hidx := fun W j h => lit_idx W j h
  have HY := hid hY
  have HJN := hid hJn
  have HI := hid hidx
  clear hY hJn hidx
  refine callsIn_of_wp Try.func133 rfl trivial ?_ rfl
  simp only [Try.ntmps133, List.size_toArray, List.length_cons, List.length_nil, Nat.reduceAdd, Nat.reduceSub, Array.replicate_succ, Array.replicate_zero, List.push_toArray, List.append_toArray, List.nil_append, List.cons_append]
  gi_wp2_with (refine wpListIn_build_lit rfl 205 _ rfl (.agg LIT) (by as_aux_lemma => kernel_rfl) ?_)
  gi_loopw [3, 45] (fun _ p wr => ∃ (j : Nat), p = .int .i64 (j : Int) ∧ j ≤ 40 ∧ J j wr) (fun _ p _ => 40 - (intOf p).toNat)
  case atStart => exact ⟨0, rfl, by omega, h0⟩
  case round =>
    obtain ⟨j, rfl, hj, hJ⟩ := hrel
    by_cases hlt : j < 40
    · have hi := fun W => HI.out W j hlt
      unfold rowV at hi
      have hy0 := fun (W' : World) (hc : Chg (fun _ => False) wr W') => HY.out j W' hlt (HJN.out j wr W' hJ hc)
      unfold rowV at hy0
      generalize rowAt j = r at *
      obtain ⟨k, si, nu, ty, sl⟩ := r
      simp only at hi hy0
      obtain ⟨fn, tmps, assign, body, hy, hR⟩ := hy0 (wr.alloc (.cells #[.int .u8 (k : Nat), .int .i64 (si : Nat), .int .i64 (nu : Nat), .int .i64 (ty : Nat), .int .i64 (sl : Nat)] 188)) ((Chg.refl _ wr).alloc _)
      clear hy0
      gi_wp2
      refine hR.mono ?_
      rintro e W3 (⟨rfl, hJ3⟩ | ⟨rfl, hJx3⟩)
      · gi_wp2
        go_roundw
        case rel => exact ⟨j + 1, by go_num, by omega, hJ3⟩
        case measure => simp [intOf]; omega
      · gi_wp2
        refine bodyPost_ret (results_none rfl _ _ _) rfl ?_
        exact ⟨⟨_, rfl⟩, .inr hJx3⟩
    · obtain rfl : j = 40 := by omega
      gi_wp2
      go_end0
      exact ⟨⟨_, rfl⟩, .inl hJ⟩
end Go.Proofs.Ytnfodgjihdoncaa
