/- line.lines: a text's lines, one by one. -/
import Derived.Test.YtepbfgniocjagaaDoorLnB
import Derived.Test.YtepbfgniocjagaaDoorM6
import Derived.Sort.QuietIn
import Derived.Test.YtepbfgniocjagaaDoorM2
set_option linter.unusedVariables false
namespace Go.Proofs.YtepbfgniocjagaaDoor
open Go.RowKit
attribute [local go_sem] Oper.semAt_some
theorem cntL_le (bs : List UInt8) : cntL bs ≤ bs.length + 1 := by
  unfold cntL
  have : bs.countP (fun c => c.toNat == 10) ≤ bs.length := List.countP_le_length
  split <;> omega
/-- What a round is given. -/
def lnV (bs : List UInt8) (j : Nat) : Array Value := #[.int .i64 ((j + 1 : Nat) : Int), .string ⟨((lnsL bs).getD j []).toArray⟩]
theorem lines_in (m : Nat) (s : ByteArray) (w : World) :
    CallsIn Fence.wide m Tryd.prog 27 #[.string s] w fun e w' => e = .returned (.func (.func 47) #[] #[.pointer (some ⟨w.heap.size, 0, none⟩)]) ∧ w' = w.alloc (.cells #[.string s] 9) := by
  refine callsIn_of_wp Tryd.func27 rfl trivial ?_ rfl
  simp only [Tryd.ntmps27, List.size_toArray, List.length_cons, List.length_nil, Nat.reduceAdd, Nat.reduceSub, Array.replicate_succ, Array.replicate_zero, List.push_toArray, List.append_toArray, List.nil_append, List.cons_append]
  gi_wp2
  go_ret
  exact ⟨rfl, rfl⟩
set_option maxRecDepth 100000 in
set_option maxHeartbeats 4000000 in
theorem lines1_in (m : Nat) (hm : 1 ≤ m) (l Bs : Nat) (s : ByteArray) (bs : List UInt8) (hs : s.data.toList = bs) (hl : bs.length ≤ 10000000) (J : Nat → World → Prop) (Jx : World → Prop)
    (hJc : ∀ j W, J j W → W.cell? ⟨Bs, 0, none⟩ = some (.string s)) (hJn : ∀ j W W', J j W → Chg (fun _ => False) W W' → J j W')
    (hY : ∀ j W, j < (lnsL bs).length → J j W → YieldAt Fence.wide (m - 1) Tryd.prog l (lnV bs j) W fun e W' => (e = .returned (.bool true) ∧ J (j + 1) W') ∨ (e = .returned (.bool false) ∧ Jx W'))
    (W : World) (h0 : J 0 W) :
    CallsIn Fence.wide m Tryd.prog 47 #[.func (.yield l) #[] #[], .pointer (some ⟨Bs, 0, none⟩)] W fun e W' => (∃ v, e = .returned v) ∧ (J (lnsL bs).length W' ∨ Jx W') := by
  have hcn := cntL_spl bs.length bs (Nat.le_refl _)
  have hcl := cntL_le bs
  have hct := fun W => lcount_any s bs W hs (by omega)
  have hcu := fun (v : ByteArray) j (hv : v.data.toList = lft bs j) W => cutln_any v (lft bs j) W hv (by have := lft_le bs j; omega)
  have hat : ∀ j (t : ByteArray), j < (lnsL bs).length → t.data.toList = lnA (lft bs j) → t = ⟨((lnsL bs).getD j []).toArray⟩ := fun j t hj ht => str_ext ht (by rw [lft_at bs j hj, List.getD_eq_getElem?_getD, List.getElem?_eq_getElem hj]; rfl)
  have hl0 : s.data.toList = lft bs 0 := hs
  have hc0 := hJc 0 W h0
  rw [← hcn] at hct hcl
  have HCT := hid hct
  have HCU := hid hcu
  have HAT := hid hat
  have HY := hid hY
  have HJN := hid hJn
  have HJ0 := hid h0
  have HL0 := hid hl0
  clear hcn hct hcu hat hY hJn hJc h0 hl0 hs
  generalize (lnsL bs).length = N at *
  refine callsIn_of_wp Tryd.func47 rfl trivial ?_ rfl
  simp only [Tryd.ntmps47, List.size_toArray, List.length_cons, List.length_nil, Nat.reduceAdd, Nat.reduceSub, Array.replicate_succ, Array.replicate_zero, List.push_toArray, List.append_toArray, List.nil_append, List.cons_append]
  gi_wp2
  refine ⟨trivial, ?_⟩
  refine ((callsIn_wide (n := m - 1)).2 (HCT.out _)).mono ?_
  rintro e w1 ⟨rfl, rfl⟩
  gi_wp2
  gi_loopw [3, 11] (fun v p wr => ∃ (j : Nat) (u : ByteArray), v = .string u ∧ p = .int .i64 (j : Int) ∧ j ≤ N ∧ u.data.toList = lft bs j ∧ J j wr) (fun _ p _ => N - (intOf p).toNat)
  case atStart => exact ⟨0, s, rfl, rfl, by omega, HL0.out, HJ0.out⟩
  case round =>
    obtain ⟨j, u, rfl, rfl, hj, hu, hJ⟩ := hrel
    have HU := hid hu
    have HJ := hid hJ
    clear hu hJ
    by_cases hlt : j < N
    · have hji : (j : Int) < (N : Int) := by omega
      have hw : IntKind.i64.wrap ((j : Int) + 1) = (j : Int) + 1 := IntWalk.i64_in _ (by omega)
      gi_wp2
      refine ⟨trivial, ?_⟩
      refine ((callsIn_wide (n := m - 1)).2 (HCU.out u j HU.out _)).mono ?_
      rintro e w2 ⟨t, u2, f, rfl, ht, hu2, hb⟩
      have hJ2 := HJN.out j _ _ HJ.out (Chg.of_new hb)
      obtain ⟨fn, tmps, assign, body, hy, hR⟩ := HY.out j w2 hlt hJ2
      unfold lnV at hy
      rw [← HAT.out j t hlt ht, Int.natCast_add, Int.natCast_one] at hy
      have HR := hid hR
      have HU2 := hid hu2
      clear hJ2 hR ht hu2 hb
      gi_wp2
      refine HR.out.mono ?_
      rintro e0 W3 (⟨rfl, hJ3⟩ | ⟨rfl, hJx3⟩)
      · have HJ3 := hid hJ3
        clear hJ3
        gi_wp2
        go_roundw
        case rel => exact ⟨j + 1, u2, rfl, by go_num, by omega, HU2.out, HJ3.out⟩
        case measure => simp [intOf]; omega
      · have HJX := hid hJx3
        clear hJx3
        gi_wp2
        refine bodyPost_ret (results_none rfl _ _ _) rfl ?_
        exact ⟨⟨_, rfl⟩, .inr HJX.out⟩
    · obtain rfl : j = N := by omega
      gi_wp2
      go_end0
      exact ⟨⟨_, rfl⟩, .inl HJ.out⟩
end Go.Proofs.YtepbfgniocjagaaDoor
