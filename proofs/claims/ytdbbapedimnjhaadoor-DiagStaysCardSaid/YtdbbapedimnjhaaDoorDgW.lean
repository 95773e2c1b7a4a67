/- diag: an error's word: a walk. -/
import Derived.Test.YtdbbapedimnjhaaDoorDgK
import Derived.Deep.WholeRow
import Derived.Deep.DeepCutAuto
set_option linter.unusedVariables false
namespace Go.Proofs.YtdbbapedimnjhaaDoor
open Go.RowKit
/-- The words of errors. -/
def WD : List ByteArray := [⟨#[111, 107]⟩, ⟨#[114, 97, 110, 103, 101]⟩, ⟨#[108, 111, 110, 103]⟩, ⟨#[102, 111, 114, 109]⟩, ⟨#[115, 104, 111, 114, 116]⟩, ⟨#[110, 111, 110, 101]⟩, ⟨#[116, 119, 105, 99, 101]⟩, ⟨#[107, 105, 110, 100]⟩, ⟨#[111, 114, 100, 101, 114]⟩, ⟨#[117, 116, 102]⟩, ⟨#[119, 105, 114, 101]⟩, ⟨#[100, 101, 112, 116, 104]⟩, ⟨#[115, 117, 109]⟩, ⟨#[115, 116, 97, 116, 101]⟩, ⟨#[102, 117, 108, 108]⟩, ⟨#[118, 101, 114, 115, 105, 111, 110]⟩, ⟨#[99, 121, 99, 108, 101]⟩, ⟨#[101, 109, 112, 116, 121]⟩, ⟨#[110, 97, 109, 101]⟩, ⟨#[117, 110, 100, 111]⟩, ⟨#[108, 101, 102, 116]⟩]
def WLIT : Array Value := #[.string ⟨#[111, 107]⟩, .string ⟨#[114, 97, 110, 103, 101]⟩, .string ⟨#[108, 111, 110, 103]⟩, .string ⟨#[102, 111, 114, 109]⟩, .string ⟨#[115, 104, 111, 114, 116]⟩, .string ⟨#[110, 111, 110, 101]⟩, .string ⟨#[116, 119, 105, 99, 101]⟩, .string ⟨#[107, 105, 110, 100]⟩, .string ⟨#[111, 114, 100, 101, 114]⟩, .string ⟨#[117, 116, 102]⟩, .string ⟨#[119, 105, 114, 101]⟩, .string ⟨#[100, 101, 112, 116, 104]⟩, .string ⟨#[115, 117, 109]⟩, .string ⟨#[115, 116, 97, 116, 101]⟩, .string ⟨#[102, 117, 108, 108]⟩, .string ⟨#[118, 101, 114, 115, 105, 111, 110]⟩, .string ⟨#[99, 121, 99, 108, 101]⟩, .string ⟨#[101, 109, 112, 116, 121]⟩, .string ⟨#[110, 97, 109, 101]⟩, .string ⟨#[117, 110, 100, 111]⟩, .string ⟨#[108, 101, 102, 116]⟩]
def ZLIT : Array Value := #[.string ⟨#[]⟩, .string ⟨#[]⟩, .string ⟨#[]⟩, .string ⟨#[]⟩, .string ⟨#[]⟩, .string ⟨#[]⟩, .string ⟨#[]⟩, .string ⟨#[]⟩, .string ⟨#[]⟩, .string ⟨#[]⟩, .string ⟨#[]⟩, .string ⟨#[]⟩, .string ⟨#[]⟩, .string ⟨#[]⟩, .string ⟨#[]⟩, .string ⟨#[]⟩, .string ⟨#[]⟩, .string ⟨#[]⟩, .string ⟨#[]⟩, .string ⟨#[]⟩, .string ⟨#[]⟩]
def wdB (e : Int) : ByteArray := if 0 ≤ e ∧ e < 21 then WD.getD e.toNat ⟨#[]⟩ else ⟨#[]⟩
theorem wd_size (n : Nat) : (WD.getD n ⟨#[]⟩).size ≤ 7 := by
  rcases n with _ | _ | _ | _ | _ | _ | _ | _ | _ | _ | _ | _ | _ | _ | _ | _ | _ | _ | _ | _ | _ | n
  all_goals exact Nat.le_of_ble_eq_true rfl
theorem wdB_size (e : Int) : (wdB e).size ≤ 7 := by unfold wdB; split; exact wd_size _; exact Nat.le_of_ble_eq_true rfl
theorem wd_cells (n : Nat) (h : n < 21) : WLIT[n]? = some (.string (WD.getD n ⟨#[]⟩)) := by
  rcases n with _ | _ | _ | _ | _ | _ | _ | _ | _ | _ | _ | _ | _ | _ | _ | _ | _ | _ | _ | _ | _ | n
  all_goals first | rfl | (exfalso; omega)
theorem wpList_build_lit {P : Program} {w : World} {ops : Array Oper} {rest : List Oper} {o : Oper} {a : Act} {Q : Exit → Act → World → Prop} (hgd : o.guard = none) (t : TypeId) (parts : Array (Nat × Operand)) (ho : o.op = .build t parts)
    (v : Value) (hrun : (Instr.build t (parts.map fun (i, x) => (i, a.eval x))).run P w = .ok v w) (h : wpList P ops Q rest (a.put o.dst v) w) : wpList P ops Q (o :: rest) a w := by
  refine wpList_plain hgd fun K hK => ?_
  unfold Oper.wp
  simp only [execOp, ho]
  rw [Sem.run_bind, hrun]
  exact hK _ _ h
theorem wpList_alloc_lit {P : Program} {w : World} {ops : Array Oper} {rest : List Oper} {o : Oper} {a : Act} {Q : Exit → Act → World → Prop} (hgd : o.guard = none) (t : TypeId) (ho : o.op = .alloc t)
    (v : Value) {w2 : World} (hrun : (Instr.alloc t true (.tuple #[])).run P w = .ok v w2) (h : wpList P ops Q rest (a.put o.dst v) w2) : wpList P ops Q (o :: rest) a w := by
  refine wpList_plain hgd fun K hK => ?_
  unfold Oper.wp
  simp only [execOp, ho]
  rw [Sem.run_bind, hrun]
  exact hK _ _ h
theorem wpList_store_lit {P : Program} {w : World} {ops : Array Oper} {rest : List Oper} {o : Oper} {a : Act} {Q : Exit → Act → World → Prop} (hgd : o.guard = none) (t : TypeId) (p x : Operand) (ho : o.op = .store t p x)
    {w2 : World} (hrun : (Instr.storeAt t (a.eval p) (a.eval x)).run P w = .ok () w2) (h : wpList P ops Q rest (a.put o.dst undef) w2) : wpList P ops Q (o :: rest) a w := by
  refine wpList_plain hgd fun K hK => ?_
  unfold Oper.wp
  simp only [execOp, ho]
  rw [Sem.run_bind, hrun]
  exact hK _ _ h
theorem alloc21 (w : World) : (Instr.alloc 34 true (.tuple #[])).run Tryd.prog w = .ok (.pointer (some ⟨w.heap.size, 0, none⟩)) (w.alloc (.cells ZLIT 34)) := by kernel_rfl
theorem store21 (w : World) : (Instr.storeAt 34 (.pointer (some ⟨w.heap.size, 0, none⟩)) (.agg WLIT)).run Tryd.prog (w.alloc (.cells ZLIT 34)) = .ok () (w.alloc (.cells WLIT 34)) :=
  run_storeAt_new w 34 ZLIT WLIT (by kernel_rfl) (by kernel_rfl) (by kernel_rfl)
set_option maxRecDepth 100000 in
set_option maxHeartbeats 4000000 in
theorem dword_any (e : Int) (w : World) (h0 : -9223372036854775808 ≤ e) (h1 : e ≤ 9223372036854775807) :
    Calls Tryd.prog 19 #[.int .i64 e] w fun x w' => x = .returned (.string (wdB e)) ∧ Below w.heap.size w w' := by
  have hb := bw_a (Below.refl _ w) (.cells WLIT 34)
  have hk := Blk.new w 34 WLIT
  have HB := hid hb
  have HK := hid hk
  clear hb hk
  by_cases a1 : e < 0
  · have hw : wdB e = ⟨#[]⟩ := by unfold wdB; rw [if_neg (by omega)]
    rw [hw]
    go_enter Tryd.func19, Tryd.ntmps19
    go_upto_region 1 with fail
    refine wp_region_lit ?_
    refine wpList_build_lit rfl 34 _ rfl (.agg WLIT) (by kernel_rfl) ?_
    refine wpList_alloc_lit rfl 34 rfl _ (alloc21 w) ?_
    refine wpList_store_lit rfl 34 _ _ rfl (store21 w) ?_
    generalize w.alloc (.cells WLIT 34) = w1 at *
    go_wp2_with fail
    go_ret
    exact ⟨rfl, HB.out⟩
  by_cases a2 : 21 ≤ e
  · have hw : wdB e = ⟨#[]⟩ := by unfold wdB; rw [if_neg (by omega)]
    rw [hw]
    go_enter Tryd.func19, Tryd.ntmps19
    go_upto_region 1 with fail
    refine wp_region_lit ?_
    refine wpList_build_lit rfl 34 _ rfl (.agg WLIT) (by kernel_rfl) ?_
    refine wpList_alloc_lit rfl 34 rfl _ (alloc21 w) ?_
    refine wpList_store_lit rfl 34 _ _ rfl (store21 w) ?_
    generalize w.alloc (.cells WLIT 34) = w1 at *
    go_wp2_with fail
    go_ret
    exact ⟨rfl, HB.out⟩
  obtain ⟨n, rfl⟩ : ∃ n : Nat, e = n := ⟨e.toNat, by omega⟩
  have hn : n < 21 := by omega
  have hw : wdB (n : Int) = WD.getD n ⟨#[]⟩ := by unfold wdB; rw [if_pos (by omega)]; rfl
  rw [hw]
  have hc := wd_cells n hn
  have hcell := HK.out.cell n
  rw [hc] at hcell
  clear hc hw
  generalize WD.getD n ⟨#[]⟩ = x at *
  go_enter Tryd.func19, Tryd.ntmps19
  go_upto_region 1 with fail
  refine wp_region_lit ?_
  refine wpList_build_lit rfl 34 _ rfl (.agg WLIT) (by kernel_rfl) ?_
  refine wpList_alloc_lit rfl 34 rfl _ (alloc21 w) ?_
  refine wpList_store_lit rfl 34 _ _ rfl (store21 w) ?_
  generalize w.alloc (.cells WLIT 34) = w1 at *
  go_wp2_with fail
  go_ret
  exact ⟨rfl, HB.out⟩
end Go.Proofs.YtdbbapedimnjhaaDoor
