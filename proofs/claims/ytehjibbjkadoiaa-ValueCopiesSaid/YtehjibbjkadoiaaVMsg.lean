/- Messages: what one holds, as plain data and in memory. · value's number, text, Int, Default. -/
import Derived.Test.YtehjibbjkadoiaaSchMore
import Derived.Test.YtehjibbjkadoiaaM3
import Derived.Test.YtehjibbjkadoiaaM4
set_option linter.unusedVariables false
namespace Go.Proofs.Ytehjibbjkadoiaa
open Go.RowKit
def sv (s : ByteArray) : Value := .string s
/-- A message. -/
structure MV where
  k : Nat
  n0 : Nat
  n1 : Nat
  n2 : Nat
  n3 : Nat
  n4 : Nat
  n5 : Nat
  s0 : ByteArray
  s1 : ByteArray
  A : Option Addr
  c : Nat
  l : List ByteArray
def MV.num (m : MV) : Int → Nat
  | 0 => m.n0
  | 1 => m.n1
  | 2 => m.n2
  | 3 => m.n3
  | 4 => m.n4
  | 5 => m.n5
  | _ => 0
def MV.text (m : MV) : Int → ByteArray
  | 0 => m.s0
  | 1 => m.s1
  | _ => ⟨#[]⟩
def mvA (m : MV) : Array Value := #[.int .u8 (m.k : Int), .int .u64 (m.n0 : Int), .int .u64 (m.n1 : Int), .int .u64 (m.n2 : Int), .int .u64 (m.n3 : Int), .int .u64 (m.n4 : Int), .int .u64 (m.n5 : Int), .string m.s0, .string m.s1, .slice m.A m.l.length m.c]
def mvV (m : MV) : Value := .agg (mvA m)
structure MvOk (w : World) (m : MV) : Prop where
  k : m.k ≤ 255
  n : ∀ i, m.num i ≤ 18446744073709551615
  s : ∀ i, (m.text i).size ≤ 9223372036854775807
  e : ∀ x ∈ m.l, x.size ≤ 9223372036854775807
  l : Sl w m.A m.c (m.l.map sv)
theorem MvOk.below {w w' : World} {m : MV} (h : MvOk w m) (hb : Below w.heap.size w w') : MvOk w' m := ⟨h.k, h.n, h.s, h.e, h.l.below hb⟩
theorem num_out (m : MV) (i : Int) (h : i < 0 ∨ 6 ≤ i) : m.num i = 0 := by
  unfold MV.num; split <;> first | omega | rfl
theorem text_out (m : MV) (i : Int) (h : i < 0 ∨ 2 ≤ i) : m.text i = ⟨#[]⟩ := by
  unfold MV.text; split <;> first | omega | rfl
/-- Has a field nothing? -/
def dflB (m : MV) (t i : Int) : Bool := if 1 ≤ t ∧ t ≤ 6 then decide (m.num i = 0) else if 7 ≤ t ∧ t ≤ 9 then decide (m.text i = ⟨#[]⟩) else if t = 10 then decide (m.l.length = 0) else true
set_option maxRecDepth 100000 in
set_option maxHeartbeats 1000000 in
theorem vnum_any (m : MV) (i : Int) (w : World) : Calls Try.prog 53 #[mvV m, .int .i64 i] w fun e w' => e = .returned (.int .u64 (m.num i : Nat)) ∧ Below w.heap.size w w' := by
  have hi : i < 0 ∨ 6 ≤ i ∨ i = 0 ∨ i = 1 ∨ i = 2 ∨ i = 3 ∨ i = 4 ∨ i = 5 := by omega
  rcases hi with hi | hi | rfl | rfl | rfl | rfl | rfl | rfl
  case' inl => have ho := hid (num_out m i (by omega))
  case' inr.inl => have ho := hid (num_out m i (by omega))
  all_goals
    unfold mvV mvA
    generalize m.l.length = len
    go_enter Try.func53, Try.ntmps53
    go_wp2
    go_ret
  · rw [ho.out]; exact ⟨rfl, bw_a (Below.refl _ w) _⟩
  · rw [ho.out]; exact ⟨rfl, bw_a (Below.refl _ w) _⟩
  all_goals exact ⟨rfl, bw_a (Below.refl _ w) _⟩
set_option maxRecDepth 100000 in
set_option maxHeartbeats 1000000 in
theorem vtext_any (m : MV) (i : Int) (w : World) : Calls Try.prog 54 #[mvV m, .int .i64 i] w fun e w' => e = .returned (.string (m.text i)) ∧ Below w.heap.size w w' := by
  have hi : i < 0 ∨ 2 ≤ i ∨ i = 0 ∨ i = 1 := by omega
  rcases hi with hi | hi | rfl | rfl
  case' inl => have ho := hid (text_out m i (by omega))
  case' inr.inl => have ho := hid (text_out m i (by omega))
  all_goals
    unfold mvV mvA
    generalize m.l.length = len
    go_enter Try.func54, Try.ntmps54
    go_wp2
    go_ret
  · rw [ho.out]; exact ⟨rfl, bw_a (Below.refl _ w) _⟩
  · rw [ho.out]; exact ⟨rfl, bw_a (Below.refl _ w) _⟩
  all_goals exact ⟨rfl, bw_a (Below.refl _ w) _⟩
set_option maxRecDepth 100000 in
set_option maxHeartbeats 1000000 in
theorem vint_any (m : MV) (i : Int) (w : World) : Calls Try.prog 33 #[mvV m, .int .i64 i] w fun e w' => e = .returned (.int .i64 (wrap64 (m.num i : Nat))) ∧ Below w.heap.size w w' := by
  have hn := fun W => vnum_any m i W
  unfold mvV mvA at *
  generalize m.l.length = len at *
  generalize m.num i = x at *
  have HN := hid hn
  clear hn
  go_enter Try.func33, Try.ntmps33
  go_wp2_with fail
  refine (HN.out _).mono ?_
  rintro e w1 ⟨rfl, hb1⟩
  have hb := (bw_a (Below.refl _ w) (.cells #[.int .u8 (m.k : Int), .int .u64 (m.n0 : Int), .int .u64 (m.n1 : Int), .int .u64 (m.n2 : Int), .int .u64 (m.n3 : Int), .int .u64 (m.n4 : Int), .int .u64 (m.n5 : Int), .string m.s0, .string m.s1, .slice m.A len m.c] 27))
  have HB := hid (bw_t hb hb1)
  clear hb hb1
  go_wp2_with fail
  go_ret
  exact ⟨rfl, HB.out⟩
theorem dfl_num (m : MV) (t i : Int) (h : 1 ≤ t ∧ t ≤ 6) : dflB m t i = decide (m.num i = 0) := by unfold dflB; rw [if_pos h]
theorem dfl_text (m : MV) (t i : Int) (h : 7 ≤ t ∧ t ≤ 9) : dflB m t i = decide (m.text i = ⟨#[]⟩) := by unfold dflB; rw [if_neg (by omega), if_pos h]
theorem dfl_list (m : MV) (i : Int) : dflB m 10 i = decide (m.l.length = 0) := by unfold dflB; rw [if_neg (by omega), if_neg (by omega), if_pos rfl]
theorem dfl_out (m : MV) (t i : Int) (h : t < 1 ∨ 10 < t) : dflB m t i = true := by unfold dflB; rw [if_neg (by omega), if_neg (by omega), if_neg (by omega)]
theorem bytes_nil (s : ByteArray) : (s = ⟨#[]⟩) ↔ s.toList = [] := by
  rw [ByteArray.toList_eq]
  obtain ⟨d⟩ := s
  simp
def MvBox (w : World) (len : Nat) (m : MV) : World := w.alloc (.cells #[.int .u8 (m.k : Int), .int .u64 (m.n0 : Int), .int .u64 (m.n1 : Int), .int .u64 (m.n2 : Int), .int .u64 (m.n3 : Int), .int .u64 (m.n4 : Int), .int .u64 (m.n5 : Int), .string m.s0, .string m.s1, .slice m.A len m.c] 27)
set_option maxRecDepth 100000 in
set_option maxHeartbeats 2000000 in
theorem vdef_any (m : MV) (num t i : Int) (w : World) : Calls Try.prog 31 #[mvV m, .agg #[.int .i64 num, .int .i64 t, .int .i64 i]] w fun e w' => e = .returned (.bool (dflB m t i)) ∧ Below w.heap.size w w' := by
  have hn := fun W => vnum_any m i W
  have ht := fun W => vtext_any m i W
  have hdn := dfl_num m t i
  have hdt := dfl_text m t i
  have hdl := dfl_list m i
  have hdo := dfl_out m t i
  have hb := fun len => bw_a (bw_a (Below.refl _ w) (.cells #[.int .u8 (m.k : Int), .int .u64 (m.n0 : Int), .int .u64 (m.n1 : Int), .int .u64 (m.n2 : Int), .int .u64 (m.n3 : Int), .int .u64 (m.n4 : Int), .int .u64 (m.n5 : Int), .string m.s0, .string m.s1, .slice m.A len m.c] 27)) (.cells #[.int .i64 num, .int .i64 t, .int .i64 i] 44)
  unfold mvV mvA at *
  generalize hlen : m.l.length = len at *
  generalize m.num i = x at *
  generalize m.text i = y at *
  have HN := hid hn
  have HT := hid ht
  have HB := hid (hb len)
  clear hn ht hb
  have hcase : (t = 1 ∨ t = 2 ∨ t = 3 ∨ t = 4 ∨ t = 5 ∨ t = 6) ∨ (t = 7 ∨ t = 8 ∨ t = 9) ∨ t = 10 ∨ (t < 1 ∨ 10 < t) := by omega
  rcases hcase with h | h | rfl | h
  · have hd := hdn (by omega)
    rw [hd]
    clear hdn hdt hdl hdo hd
    by_cases hx : x = 0
    · have hd : decide (x = 0) = true := by simpa using hx
      rw [hd]
      subst hx
      clear hd
      rcases h with rfl | rfl | rfl | rfl | rfl | rfl
      all_goals
        go_enter Try.func31, Try.ntmps31
        go_wp2_with fail
        refine (HN.out _).mono ?_
        rintro e w1 ⟨rfl, hb1⟩
        have HB1 := hid (bw_t HB.out hb1)
        clear hb1
        go_wp2_with fail
        go_ret
        exact ⟨rfl, HB1.out⟩
    · have hd : decide (x = 0) = false := by simpa using hx
      have hxb : ((x : Int) == 0) = false := by simp; omega
      rw [hd]
      clear hd
      rcases h with rfl | rfl | rfl | rfl | rfl | rfl
      all_goals
        go_enter Try.func31, Try.ntmps31
        go_wp2_with fail
        refine (HN.out _).mono ?_
        rintro e w1 ⟨rfl, hb1⟩
        have HB1 := hid (bw_t HB.out hb1)
        clear hb1
        go_wp2_with fail
        go_ret
        exact ⟨rfl, HB1.out⟩
  · have hd := hdt (by omega)
    rw [hd]
    clear hdn hdt hdl hdo hd
    by_cases hx : y = ⟨#[]⟩
    · have hd : decide (y = ⟨#[]⟩) = true := by simpa using hx
      rw [hd]
      subst hx
      clear hd
      rcases h with rfl | rfl | rfl
      all_goals
        go_enter Try.func31, Try.ntmps31
        go_wp2_with fail
        refine (HT.out _).mono ?_
        rintro e w1 ⟨rfl, hb1⟩
        have HB1 := hid (bw_t HB.out hb1)
        clear hb1
        go_wp2_with fail
        go_ret
        exact ⟨rfl, HB1.out⟩
    · have hd : decide (y = ⟨#[]⟩) = false := by simpa using hx
      have hx1 : ¬ y.toList = [] := fun h => hx ((bytes_nil y).2 h)
      have hx2 : (y.toList == []) = false := by simpa using hx1
      have hx3 : y.toList.isEmpty = false := by simpa using hx1
      have hx4 : (!y.toList.isEmpty) = true := by simpa using hx1
      rw [hd]
      have HX := hid hx
      clear hd hx
      rcases h with rfl | rfl | rfl
      all_goals
        go_enter Try.func31, Try.ntmps31
        go_wp2_with fail
        refine (HT.out _).mono ?_
        rintro e w1 ⟨rfl, hb1⟩
        have HB1 := hid (bw_t HB.out hb1)
        clear hb1
        go_wp2_with fail
        go_ret
        exact ⟨rfl, HB1.out⟩
  · rw [hdl]
    clear hdn hdt hdl hdo
    by_cases hx : len = 0
    · have hd : decide (len = 0) = true := by simpa using hx
      rw [hd]
      clear hd
      subst hx
      go_enter Try.func31, Try.ntmps31
      go_wp2_with fail
      go_ret
      exact ⟨rfl, HB.out⟩
    · have hd : decide (len = 0) = false := by simpa using hx
      have hxb : ((len : Int) == 0) = false := by simp; omega
      rw [hd]
      clear hd
      go_enter Try.func31, Try.ntmps31
      go_wp2_with fail
      go_ret
      exact ⟨rfl, HB.out⟩
  · rw [hdo h]
    clear hdn hdt hdl hdo
    have n1 : (t == 1) = false := by simp; omega
    have n2 : (t == 2) = false := by simp; omega
    have n3 : (t == 3) = false := by simp; omega
    have n4 : (t == 4) = false := by simp; omega
    have n5 : (t == 5) = false := by simp; omega
    have n6 : (t == 6) = false := by simp; omega
    have n7 : (t == 7) = false := by simp; omega
    have n8 : (t == 8) = false := by simp; omega
    have n9 : (t == 9) = false := by simp; omega
    have n10 : (t == 10) = false := by simp; omega
    go_enter Try.func31, Try.ntmps31
    go_wp2_with fail
    go_ret
    exact ⟨rfl, HB.out⟩
end Go.Proofs.Ytehjibbjkadoiaa
