/- Messages: what one holds, as plain data and in memory. · value's number, text, Int, Default. · Messages that are alike, and copies. · value's Same and Copy. · Which places belong to a field: value.marked. · A message without what belongs to no field: value.kept, and value.Clean. -/
import Derived.Test.YtnfodgjihdoncaaSc2
import Derived.Test.YtnfodgjihdoncaaM3
import Derived.Test.YtnfodgjihdoncaaM4
import Derived.WalkSpells
import Derived.Laws.StructEq
import Derived.Laws.Tables
import Derived.Laws.Cover2
import Derived.KernelRfl
import Derived.Lib.SliceRun
import Derived.Deep.QuietTactic
import Derived.BigQuiet
set_option linter.unusedVariables false
namespace Go.Proofs.Ytnfodgjihdoncaa
open Go.RowKit
def sv (s : ByteArray) : Value := .string s
/-- A message. -/
structure MV where
  k : Nat
  n0 : Nat
  n1 : Nat
  n2 : Nat
  n3 : Nat
  n4 : Nat
  n5 : Nat
  s0 : ByteArray
  s1 : ByteArray
  A : Option Addr
  c : Nat
  l : List ByteArray
def MV.num (m : MV) : Int → Nat
  | 0 => m.n0
  | 1 => m.n1
  | 2 => m.n2
  | 3 => m.n3
  | 4 => m.n4
  | 5 => m.n5
  | _ => 0
def MV.text (m : MV) : Int → ByteArray
  | 0 => m.s0
  | 1 => m.s1
  | _ => ⟨#[]⟩
def mvA (m : MV) : Array Value := #[.int .u8 (m.k : Int), .int .u64 (m.n0 : Int), .int .u64 (m.n1 : Int), .int .u64 (m.n2 : Int), .int .u64 (m.n3 : Int), .int .u64 (m.n4 : Int), .int .u64 (m.n5 : Int), .string m.s0, .string m.s1, .slice m.A m.l.length m.c]
def mvV (m : MV) : Value := .agg (mvA m)
structure MvOk (w : World) (m : MV) : Prop where
  k : m.k ≤ 255
  n : ∀ i, m.num i ≤ 18446744073709551615
  s : ∀ i, (m.text i).size ≤ 9223372036854775807
  e : ∀ x ∈ m.l, x.size ≤ 9223372036854775807
  l : Sl w m.A m.c (m.l.map sv)
theorem MvOk.below {w w' : World} {m : MV} (h : MvOk w m) (hb : Below w.heap.size w w') : MvOk w' m := ⟨h.k, h.n, h.s, h.e, h.l.below hb⟩
theorem num_out (m : MV) (i : Int) (h : i < 0 ∨ 6 ≤ i) : m.num i = 0 := by
  unfold MV.num; split <;> first | omega | rfl
theorem text_out (m : MV) (i : Int) (h : i < 0 ∨ 2 ≤ i) : m.text i = ⟨#[]⟩ := by
  unfold MV.text; split <;> first | omega | rfl
/-- Has a field nothing? -/
def dflB (m : MV) (t i : Int) : Bool := if 1 ≤ t ∧ t ≤ 6 then decide (m.num i = 0) else if 7 ≤ t ∧ t ≤ 9 then decide (m.text i = ⟨#[]⟩) else if t = 10 then decide (m.l.length = 0) else true
set_option maxRecDepth 100000 in
set_option maxHeartbeats 1000000 in
theorem vnum_any (m : MV) (i : Int) (w : World) : Calls Try.prog 99 #[mvV m, .int .i64 i] w fun e w' => e = .returned (.int .u64 (m.num i : Nat)) ∧ Below w.heap.size w w' := by
  have hi : i < 0 ∨ 6 ≤ i ∨ i = 0 ∨ i = 1 ∨ i = 2 ∨ i = 3 ∨ i = 4 ∨ i = 5 := by omega
  rcases hi with hi | hi | rfl | rfl | rfl | rfl | rfl | rfl
  case' inl => have ho := hid (num_out m i (by omega))
  case' inr.inl => have ho := hid (num_out m i (by omega))
  all_goals
    unfold mvV mvA
    generalize m.l.length = len
    go_enter Try.func99, Try.ntmps99
    go_wp2
    go_ret
  · rw [ho.out]; exact ⟨rfl, bw_a (Below.refl _ w) _⟩
  · rw [ho.out]; exact ⟨rfl, bw_a (Below.refl _ w) _⟩
  all_goals exact ⟨rfl, bw_a (Below.refl _ w) _⟩
set_option maxRecDepth 100000 in
set_option maxHeartbeats 1000000 in
theorem vtext_any (m : MV) (i : Int) (w : World) : Calls Try.prog 100 #[mvV m, .int .i64 i] w fun e w' => e = .returned (.string (m.text i)) ∧ Below w.heap.size w w' := by
  have hi : i < 0 ∨ 2 ≤ i ∨ i = 0 ∨ i = 1 := by omega
  rcases hi with hi | hi | rfl | rfl
  case' inl => have ho := hid (text_out m i (by omega))
  case' inr.inl => have ho := hid (text_out m i (by omega))
  all_goals
    unfold mvV mvA
    generalize m.l.length = len
    go_enter Try.func100, Try.ntmps100
    go_wp2
    go_ret
  · rw [ho.out]; exact ⟨rfl, bw_a (Below.refl _ w) _⟩
  · rw [ho.out]; exact ⟨rfl, bw_a (Below.refl _ w) _⟩
  all_goals exact ⟨rfl, bw_a (Below.refl _ w) _⟩
set_option maxRecDepth 100000 in
set_option maxHeartbeats 1000000 in
theorem vint_any (m : MV) (i : Int) (w : World) : Calls Try.prog 122 #[mvV m, .int .i64 i] w fun e w' => e = .returned (.int .i64 (wrap64 (m.num i : Nat))) ∧ Below w.heap.size w w' := by
  have hn := fun W => vnum_any m i W
  unfold mvV mvA at *
  generalize m.l.length = len at *
  generalize m.num i = x at *
  have HN := hid hn
  clear hn
  go_enter Try.func122, Try.ntmps122
  go_wp2_with fail
  refine (HN.out _).mono ?_
  rintro e w1 ⟨rfl, hb1⟩
  have hb := (bw_a (Below.refl _ w) (.cells #[.int .u8 (m.k : Int), .int .u64 (m.n0 : Int), .int .u64 (m.n1 : Int), .int .u64 (m.n2 : Int), .int .u64 (m.n3 : Int), .int .u64 (m.n4 : Int), .int .u64 (m.n5 : Int), .string m.s0, .string m.s1, .slice m.A len m.c] 27))
  have HB := hid (bw_t hb hb1)
  clear hb hb1
  go_wp2_with fail
  go_ret
  exact ⟨rfl, HB.out⟩
theorem dfl_num (m : MV) (t i : Int) (h : 1 ≤ t ∧ t ≤ 6) : dflB m t i = decide (m.num i = 0) := by unfold dflB; rw [if_pos h]
theorem dfl_text (m : MV) (t i : Int) (h : 7 ≤ t ∧ t ≤ 9) : dflB m t i = decide (m.text i = ⟨#[]⟩) := by unfold dflB; rw [if_neg (by omega), if_pos h]
theorem dfl_list (m : MV) (i : Int) : dflB m 10 i = decide (m.l.length = 0) := by unfold dflB; rw [if_neg (by omega), if_neg (by omega), if_pos rfl]
theorem dfl_out (m : MV) (t i : Int) (h : t < 1 ∨ 10 < t) : dflB m t i = true := by unfold dflB; rw [if_neg (by omega), if_neg (by omega), if_neg (by omega)]
theorem bytes_nil (s : ByteArray) : (s = ⟨#[]⟩) ↔ s.toList = [] := by
  rw [ByteArray.toList_eq]
  obtain ⟨d⟩ := s
  simp
def MvBox (w : World) (len : Nat) (m : MV) : World := w.alloc (.cells #[.int .u8 (m.k : Int), .int .u64 (m.n0 : Int), .int .u64 (m.n1 : Int), .int .u64 (m.n2 : Int), .int .u64 (m.n3 : Int), .int .u64 (m.n4 : Int), .int .u64 (m.n5 : Int), .string m.s0, .string m.s1, .slice m.A len m.c] 27)
set_option maxRecDepth 100000 in
set_option maxHeartbeats 2000000 in
theorem vdef_any (m : MV) (num t i : Int) (w : World) : Calls Try.prog 75 #[mvV m, .agg #[.int .i64 num, .int .i64 t, .int .i64 i]] w fun e w' => e = .returned (.bool (dflB m t i)) ∧ Below w.heap.size w w' := by
  have hn := fun W => vnum_any m i W
  have ht := fun W => vtext_any m i W
  have hdn := dfl_num m t i
  have hdt := dfl_text m t i
  have hdl := dfl_list m i
  have hdo := dfl_out m t i
  have hb := fun len => bw_a (bw_a (Below.refl _ w) (.cells #[.int .u8 (m.k : Int), .int .u64 (m.n0 : Int), .int .u64 (m.n1 : Int), .int .u64 (m.n2 : Int), .int .u64 (m.n3 : Int), .int .u64 (m.n4 : Int), .int .u64 (m.n5 : Int), .string m.s0, .string m.s1, .slice m.A len m.c] 27)) (.cells #[.int .i64 num, .int .i64 t, .int .i64 i] 93)
  unfold mvV mvA at *
  generalize hlen : m.l.length = len at *
  generalize m.num i = x at *
  generalize m.text i = y at *
  have HN := hid hn
  have HT := hid ht
  have HB := hid (hb len)
  clear hn ht hb
  have hcase : (t = 1 ∨ t = 2 ∨ t = 3 ∨ t = 4 ∨ t = 5 ∨ t = 6) ∨ (t = 7 ∨ t = 8 ∨ t = 9) ∨ t = 10 ∨ (t < 1 ∨ 10 < t) := by omega
  rcases hcase with h | h | rfl | h
  · have hd := hdn (by omega)
    rw [hd]
    clear hdn hdt hdl hdo hd
    by_cases hx : x = 0
    · have hd : decide (x = 0) = true := by simpa using hx
      rw [hd]
      subst hx
      clear hd
      rcases h with rfl | rfl | rfl | rfl | rfl | rfl
      all_goals
        go_enter Try.func75, Try.ntmps75
        go_wp2_with fail
        refine (HN.out _).mono ?_
        rintro e w1 ⟨rfl, hb1⟩
        have HB1 := hid (bw_t HB.out hb1)
        clear hb1
        go_wp2_with fail
        go_ret
        exact ⟨rfl, HB1.out⟩
    · have hd : decide (x = 0) = false := by simpa using hx
      have hxb : ((x : Int) == 0) = false := by simp; omega
      rw [hd]
      clear hd
      rcases h with rfl | rfl | rfl | rfl | rfl | rfl
      all_goals
        go_enter Try.func75, Try.ntmps75
        go_wp2_with fail
        refine (HN.out _).mono ?_
        rintro e w1 ⟨rfl, hb1⟩
        have HB1 := hid (bw_t HB.out hb1)
        clear hb1
        go_wp2_with fail
        go_ret
        exact ⟨rfl, HB1.out⟩
  · have hd := hdt (by omega)
    rw [hd]
    clear hdn hdt hdl hdo hd
    by_cases hx : y = ⟨#[]⟩
    · have hd : decide (y = ⟨#[]⟩) = true := by simpa using hx
      rw [hd]
      subst hx
      clear hd
      rcases h with rfl | rfl | rfl
      all_goals
        go_enter Try.func75, Try.ntmps75
        go_wp2_with fail
        refine (HT.out _).mono ?_
        rintro e w1 ⟨rfl, hb1⟩
        have HB1 := hid (bw_t HB.out hb1)
        clear hb1
        go_wp2_with fail
        go_ret
        exact ⟨rfl, HB1.out⟩
    · have hd : decide (y = ⟨#[]⟩) = false := by simpa using hx
      have hx1 : ¬ y.toList = [] := fun h => hx ((bytes_nil y).2 h)
      have hx2 : (y.toList == []) = false := by simpa using hx1
      have hx3 : y.toList.isEmpty = false := by simpa using hx1
      have hx4 : (!y.toList.isEmpty) = true := by simpa using hx1
      rw [hd]
      have HX := hid hx
      clear hd hx
      rcases h with rfl | rfl | rfl
      all_goals
        go_enter Try.func75, Try.ntmps75
        go_wp2_with fail
        refine (HT.out _).mono ?_
        rintro e w1 ⟨rfl, hb1⟩
        have HB1 := hid (bw_t HB.out hb1)
        clear hb1
        go_wp2_with fail
        go_ret
        exact ⟨rfl, HB1.out⟩
  · rw [hdl]
    clear hdn hdt hdl hdo
    by_cases hx : len = 0
    · have hd : decide (len = 0) = true := by simpa using hx
      rw [hd]
      clear hd
      subst hx
      go_enter Try.func75, Try.ntmps75
      go_wp2_with fail
      go_ret
      exact ⟨rfl, HB.out⟩
    · have hd : decide (len = 0) = false := by simpa using hx
      have hxb : ((len : Int) == 0) = false := by simp; omega
      rw [hd]
      clear hd
      go_enter Try.func75, Try.ntmps75
      go_wp2_with fail
      go_ret
      exact ⟨rfl, HB.out⟩
  · rw [hdo h]
    clear hdn hdt hdl hdo
    have n1 : (t == 1) = false := by simp; omega
    have n2 : (t == 2) = false := by simp; omega
    have n3 : (t == 3) = false := by simp; omega
    have n4 : (t == 4) = false := by simp; omega
    have n5 : (t == 5) = false := by simp; omega
    have n6 : (t == 6) = false := by simp; omega
    have n7 : (t == 7) = false := by simp; omega
    have n8 : (t == 8) = false := by simp; omega
    have n9 : (t == 9) = false := by simp; omega
    have n10 : (t == 10) = false := by simp; omega
    go_enter Try.func75, Try.ntmps75
    go_wp2_with fail
    go_ret
    exact ⟨rfl, HB.out⟩
end Go.Proofs.Ytnfodgjihdoncaa
set_option linter.unusedVariables false
namespace Go.Proofs.Ytnfodgjihdoncaa
open Go.RowKit
theorem eq_nums (a0 a1 a2 a3 a4 a5 b0 b1 b2 b3 b4 b5 : Nat) (W : World) : (binOp .eql 23 (.agg #[.int .u64 (a0 : Int), .int .u64 (a1 : Int), .int .u64 (a2 : Int), .int .u64 (a3 : Int), .int .u64 (a4 : Int), .int .u64 (a5 : Int)]) (.agg #[.int .u64 (b0 : Int), .int .u64 (b1 : Int), .int .u64 (b2 : Int), .int .u64 (b3 : Int), .int .u64 (b4 : Int), .int .u64 (b5 : Int)])).run Try.prog W = .ok (.bool (decide (a0 = b0 ∧ a1 = b1 ∧ a2 = b2 ∧ a3 = b3 ∧ a4 = b4 ∧ a5 = b5))) W := by
  have u3 := Try.underlying22
  have g3 := Try.isAgg22
  have z3 := Try.sizeOf22
  rw [run_eql_struct, show (10000 : Nat) = 9999 + 1 from rfl, Op.equalIn]
  simp only [Sem.run_bind, run_underlying Try.underlying23, Result.andThen_ok]
  simp only [Std.Legacy.Range.forIn_eq_forIn_range', Std.Legacy.Range.size, Nat.sub_zero, Nat.add_sub_cancel, Nat.div_one, List.range'_succ, List.range'_zero, List.forIn_cons, List.forIn_nil]
  go_simp
  by_cases h1 : a0 = b0
  case neg => (simp [h1]; try (intros; omega))
  by_cases h2 : a1 = b1
  case neg => (simp [h1, h2]; try (intros; omega))
  by_cases h3 : a2 = b2
  case neg => (simp [h1, h2, h3]; try (intros; omega))
  by_cases h4 : a3 = b3
  case neg => (simp [h1, h2, h3, h4]; try (intros; omega))
  by_cases h5 : a4 = b4
  case neg => (simp [h1, h2, h3, h4, h5]; try (intros; omega))
  by_cases h6 : a5 = b5
  case neg => (simp [h1, h2, h3, h4, h5, h6]; try (intros; omega))
  simp [h1, h2, h3, h4, h5, h6]
theorem bstr_iff (a b : ByteArray) : a.toList = b.toList ↔ a = b := by
  constructor
  · intro h
    rw [ByteArray.toList_eq, ByteArray.toList_eq] at h
    obtain ⟨⟨x⟩⟩ := a
    obtain ⟨⟨y⟩⟩ := b
    simp at h
    rw [h]
  · rintro rfl; rfl
theorem bstr_ne' {q b : ByteArray} (h : q ≠ b) : (q.toList == b.toList) = false := by
  have h2 := fun h2 => h ((bstr_iff q b).1 h2)
  simpa using h2
theorem eq_texts (a0 a1 b0 b1 : ByteArray) (W : World) : (binOp .eql 24 (.agg #[.string a0, .string a1]) (.agg #[.string b0, .string b1])).run Try.prog W = .ok (.bool (decide (a0 = b0 ∧ a1 = b1))) W := by
  have u3 := Try.underlying9
  have g3 := Try.isAgg9
  have z3 := Try.sizeOf9
  rw [run_eql_struct, show (10000 : Nat) = 9999 + 1 from rfl, Op.equalIn]
  simp only [Sem.run_bind, run_underlying Try.underlying24, Result.andThen_ok]
  simp only [Std.Legacy.Range.forIn_eq_forIn_range', Std.Legacy.Range.size, Nat.sub_zero, Nat.add_sub_cancel, Nat.div_one, List.range'_succ, List.range'_zero, List.forIn_cons, List.forIn_nil]
  go_simp
  by_cases h1 : a0 = b0
  case neg => have h1' : ¬ a0.toList = b0.toList := fun h => h1 ((bstr_iff a0 b0).1 h); simp [h1, h1']
  by_cases h2 : a1 = b1
  case neg => have h2' : ¬ a1.toList = b1.toList := fun h => h2 ((bstr_iff a1 b1).1 h); simp [h1, h2, h2']
  simp [h1, h2]
theorem Try.infoStr : (Try.prog.info? 9).map (fun i => (i.zero, i.size, i.bytes)) = some (some (.string ⟨#[]⟩), 1, 16) := by kernel_rfl
theorem sv_one (l : List ByteArray) : ∀ u ∈ l.map sv, u.oneCell' = true := by
  intro u hu; obtain ⟨b, _, rfl⟩ := List.mem_map.1 hu; simp [sv, Value.oneCell']
set_option maxRecDepth 100000 in
set_option maxHeartbeats 1000000 in
theorem sclone_any (l : List ByteArray) (n : Nat) (A : Option Addr) (c : Nat) (w : World) (hn : l.length = n) (hl : n ≤ 1000000) (hs : Sl w A c (l.map sv)) :
    Calls Try.prog 94 #[.slice A n c] w fun e w' => ∃ v, e = .returned v ∧ w'.ownsRow w.heap.size 9 1 v n (l.map sv) ∧ Below w.heap.size w w' := by
  obtain ⟨i0, hi, hz0, hz1, hz2⟩ := info_parts Try.infoStr
  cases A with
  | none =>
    have hnil := hs.rd.none_nil
    obtain rfl : l = [] := by simpa using hnil
    obtain rfl := hs.nil0 rfl
    obtain rfl : n = 0 := by simpa using hn.symm
    have hnil : ∀ W, (binOp .eql 25 (.slice none 0 0) (.slice none 0 0)).run Try.prog W = .ok (.bool true) W := fun W => Lib.run_eql_slice_nil W _ _ none 0 0 0 0 Try.underlying25
    go_enter Try.func94, Try.ntmps94
    go_wp2
    go_ret
    exact ⟨_, rfl, World.ownsRow_nil _ _ _ _, Below.refl _ _⟩
  | some a =>
    have hrow0 : (w.alloc (.cells #[] 9)).ownsRow w.heap.size 9 1 (.slice (some ⟨w.heap.size, 0, none⟩) 0 0) 0 [] := World.ownsRow_made w #[] 0 (Nat.le_refl _) (by decide) rfl
    have hsa : Sl (w.alloc (.cells #[] 9)) (some a) c (l.map sv) := hs.below ((Below.refl _ _).alloc (Nat.le_refl _) _)
    have HN := hid hn
    clear hn
    have hnil : ∀ W, (binOp .eql 25 (.slice (some a) n c) (.slice none 0 0)).run Try.prog W = .ok (.bool false) W := fun W => Lib.run_eql_slice_nil W _ _ (some a) n c 0 0 Try.underlying25
    go_enter Try.func94, Try.ntmps94
    go_wp2_with (at_builtin; refine wpList_append_rd rfl (.tmp 5) (.tmp 6) 25 rfl w.heap.size 9 i0 (.string ⟨#[]⟩) 1 16 Try.underlying25 hi hz0 hz1 hz2 rfl (by decide) _ _ _ rfl hrow0 (some a) n c (l.map sv) rfl (by rw [List.length_map, HN.out, Nat.mul_one]) hsa.rd hsa.nil0 (sv_one _) (by simp only [maxLen]; omega) (by omega) (by simp) ?_; intro v1 w3 hown1 hgrow1)
    go_ret
    rw [Nat.zero_add] at hown1
    exact ⟨_, rfl, hown1, bw_g (bw_a (Below.refl _ _) _) hgrow1 (fun k ek => (hrow0.lt k ek).1)⟩
theorem take_next {α : Type} {l l2 : List α} {j : Nat} (h1 : j < l.length) (h2 : j < l2.length) (h : l.take j = l2.take j) (he : l[j] = l2[j]) : l.take (j + 1) = l2.take (j + 1) := by
  rw [List.take_succ_eq_append_getElem h1, List.take_succ_eq_append_getElem h2, h, he]
set_option maxRecDepth 100000 in
set_option maxHeartbeats 2000000 in
theorem sequal_any (l l2 : List ByteArray) (n n2 : Nat) (A A2 : Option Addr) (c c2 : Nat) (w : World) (hn : l.length = n) (hn2 : l2.length = n2) (hs : Sl w A c (l.map sv)) (hs2 : Sl w A2 c2 (l2.map sv)) :
    Calls Try.prog 103 #[.slice A n c, .slice A2 n2 c2] w fun e w' => e = .returned (.bool (decide (l = l2))) ∧ ∃ q, w' = w.drewN q := by
  have hc1 : n ≤ 9223372036854775807 := by have g1 := hs.cap; have g2 := hs.small; rw [List.length_map] at g1; omega
  have hc2 : n2 ≤ 9223372036854775807 := by have g1 := hs2.cap; have g2 := hs2.small; rw [List.length_map] at g1; omega
  obtain ⟨R, hR⟩ : ∃ R, decide (l = l2) = R := ⟨_, rfl⟩
  rw [hR]
  have HR := hid hR
  have HN := hid hn
  have HN2 := hid hn2
  have HS := hid hs
  have HS2 := hid hs2
  clear hR hn hn2 hs hs2
  by_cases hne : n = n2
  · subst hne
    go_enter Try.func103, Try.ntmps103
    go_wp2_with fail
    go_loopw [13] (fun i wr => ∃ (j q : Nat), j ≤ n ∧ i = .int .i64 (j : Int) ∧ l.take j = l2.take j ∧ wr = w.drewN q) (fun i _ => n - (intOf i).toNat)
    case atStart => exact ⟨0, 0, by omega, rfl, rfl, rfl⟩
    case round =>
      obtain ⟨j, q, hj, rfl, heq, rfl⟩ := hrel
      by_cases hlt : j < n
      · have hj1 : j < l.length := by have := HN.out; omega
        have hj2 : j < l2.length := by have := HN2.out; omega
        obtain ⟨b, off, rfl, hbw, t0⟩ := HS.out.rd j (sv l[j]) (by simp [hj1])
        obtain ⟨d, of2, rfl, hdw, t1⟩ := HS2.out.rd j (sv l2[j]) (by simp [hj2])
        have hnx := take_next hj1 hj2 heq
        have hno : ¬ l[j] = l2[j] → l ≠ l2 := fun h e => by subst e; exact h rfl
        have hji : (j : Int) < (n : Int) := by omega
        have hj0 : (0 : Int) ≤ (j : Int) := by omega
        unfold sv at t0 t1
        generalize l[j] = x at *
        generalize l2[j] = y at *
        have HNX := hid hnx
        have HNO := hid hno
        clear hnx hno heq
        by_cases hxy : x = y
        · subst hxy
          have HX := hid (HNX.out rfl)
          clear HNX HNO
          go_wp2_with fail
          go_quiet (fail)
          go_wp2_with fail
          exact ⟨⟨j + 1, q + nq, by omega, by go_num, HX.out, rfl⟩, by simp [intOf] <;> omega⟩
        · have heb := bstr_ne' hxy
          have HX := hid (HNO.out hxy)
          clear HNX HNO hxy
          go_wp2_with fail
          go_quiet (fail)
          go_wp2_with fail
          go_ret
          exact ⟨by rw [← HR.out, decide_eq_false HX.out]; rfl, q + nq, World.drewN_drewN _ _ _⟩
      · obtain rfl : j = n := by omega
        have hll : l = l2 := by
          have h1 := heq
          rwa [List.take_of_length_le (by have := HN.out; omega), List.take_of_length_le (by have := HN2.out; omega)] at h1
        have HX := hid hll
        clear hll heq
        go_wp2_with fail
        go_ret
        exact ⟨by rw [← HR.out, decide_eq_true HX.out]; rfl, _, rfl⟩
  · have hneb : ((n : Int) != (n2 : Int)) = true := by simp; omega
    have hX : l ≠ l2 := fun e => hne (by rw [← HN.out, ← HN2.out, e])
    have HX := hid hX
    clear hX
    go_enter Try.func103, Try.ntmps103
    go_wp2_with fail
    go_ret
    exact ⟨by rw [← HR.out, decide_eq_false HX.out]; rfl, 0, rfl⟩
end Go.Proofs.Ytnfodgjihdoncaa
set_option linter.unusedVariables false
namespace Go.Proofs.Ytnfodgjihdoncaa
open Go.RowKit
theorem row_slice' {w : World} {base e size n : Nat} {v : Value} {xs : List Value} (h : w.ownsRow base e size v n xs) : ∃ A c, v = .slice A n c := by
  rcases h.2 with ⟨rfl, h2⟩ | ⟨g, cap, cur, rfl, _⟩
  · exact ⟨none, 0, by rw [h2]⟩
  · exact ⟨_, _, rfl⟩
/-- Are messages alike? -/
def sameN (a b : MV) : Prop := a.n0 = b.n0 ∧ a.n1 = b.n1 ∧ a.n2 = b.n2 ∧ a.n3 = b.n3 ∧ a.n4 = b.n4 ∧ a.n5 = b.n5
instance (a b : MV) : Decidable (sameN a b) := by unfold sameN; infer_instance
def sameT (a b : MV) : Prop := a.s0 = b.s0 ∧ a.s1 = b.s1
instance (a b : MV) : Decidable (sameT a b) := by unfold sameT; infer_instance
def sameB (a b : MV) : Bool := decide (a.k = b.k) && decide (sameN a b) && decide (sameT a b) && decide (a.l = b.l)
set_option maxRecDepth 100000 in
set_option maxHeartbeats 2000000 in
theorem vsame_any (a b : MV) (w : World) (ha : Sl w a.A a.c (a.l.map sv)) (hb : Sl w b.A b.c (b.l.map sv)) : Calls Try.prog 77 #[mvV a, mvV b] w fun e w' => e = .returned (.bool (sameB a b)) ∧ Below w.heap.size w w' := by
  have hq := fun (W : World) (hW : Below w.heap.size w W) => sequal_any a.l b.l a.l.length b.l.length a.A b.A a.c b.c W rfl rfl (ha.below hW) (hb.below hW)
  have hen := fun (W : World) => eq_nums a.n0 a.n1 a.n2 a.n3 a.n4 a.n5 b.n0 b.n1 b.n2 b.n3 b.n4 b.n5 W
  have het := fun (W : World) => eq_texts a.s0 a.s1 b.s0 b.s1 W
  have hen' : ∀ W, _ = Result.ok (Value.bool (decide (sameN a b))) W := hen
  have het' : ∀ W, _ = Result.ok (Value.bool (decide (sameT a b))) W := het
  have hS : sameB a b = (decide (a.k = b.k) && decide (sameN a b) && decide (sameT a b) && decide (a.l = b.l)) := rfl
  have hbb := fun (la lb : Nat) => bw_a (bw_a (Below.refl _ w) (.cells #[.int .u8 (a.k : Int), .int .u64 (a.n0 : Int), .int .u64 (a.n1 : Int), .int .u64 (a.n2 : Int), .int .u64 (a.n3 : Int), .int .u64 (a.n4 : Int), .int .u64 (a.n5 : Int), .string a.s0, .string a.s1, .slice a.A la a.c] 27)) (.cells #[.int .u8 (b.k : Int), .int .u64 (b.n0 : Int), .int .u64 (b.n1 : Int), .int .u64 (b.n2 : Int), .int .u64 (b.n3 : Int), .int .u64 (b.n4 : Int), .int .u64 (b.n5 : Int), .string b.s0, .string b.s1, .slice b.A lb b.c] 27)
  clear hen het ha hb
  generalize sameB a b = R at *
  generalize hdn : decide (sameN a b) = dn at *
  generalize hdt : decide (sameT a b) = dt at *
  generalize hdl : decide (a.l = b.l) = dl at *
  unfold mvV mvA
  generalize a.l.length = la at *
  generalize b.l.length = lb at *
  clear hdn hdt hdl
  have HS := hid hS
  have HQ := hid hq
  have HBB := hid (hbb la lb)
  clear hS hq hbb
  by_cases hk : a.k = b.k
  · have hkb : ((a.k : Int) == (b.k : Int)) = true := by simp [hk]
    have hkd : decide (a.k = b.k) = true := by simp [hk]
    rw [hkd] at HS
    clear hkd
    have HK := hid hk
    clear hk
    cases dn with
    | false =>
      have HS2 := hid (show R = false from by rw [HS.out]; rfl)
      go_enter Try.func77, Try.ntmps77
      go_wp2_with fail
      go_ret
      exact ⟨by rw [HS2.out]; rfl, HBB.out⟩
    | true =>
      cases dt with
      | false =>
        have HS2 := hid (show R = false from by rw [HS.out]; rfl)
        go_enter Try.func77, Try.ntmps77
        go_wp2_with fail
        go_ret
        exact ⟨by rw [HS2.out]; rfl, HBB.out⟩
      | true =>
        have HS2 := hid (show R = dl from by rw [HS.out]; rfl)
        go_enter Try.func77, Try.ntmps77
        go_wp2_with fail
        refine (HQ.out _ HBB.out).mono ?_
        rintro e w1 ⟨rfl, q, rfl⟩
        go_wp2_with fail
        go_ret
        exact ⟨by rw [HS2.out]; rfl, bw_d HBB.out q⟩
  · have hkb : ((a.k : Int) == (b.k : Int)) = false := by simp; omega
    have hkd : decide (a.k = b.k) = false := by simpa using hk
    rw [hkd] at HS
    have HS2 := hid (show R = false from by rw [HS.out]; rfl)
    clear hkd
    have HK := hid hk
    clear hk
    go_enter Try.func77, Try.ntmps77
    go_wp2_with fail
    go_ret
    exact ⟨by rw [HS2.out]; rfl, HBB.out⟩
/-- A message is stored. -/
theorem mstore {w : World} {p : Nat} {o0 o1 o2 o3 o4 o5 o6 o7 o8 o9 : Value} (h : Blk w p 27 #[o0, o1, o2, o3, o4, o5, o6, o7, o8, o9]) (x0 x1 x2 x3 x4 x5 x6 x7 x8 x9 : Value) :
    Blk ((((((((((w.setCell ⟨p, 0, none⟩ x0).setCell ⟨p, 1, none⟩ x1).setCell ⟨p, 2, none⟩ x2).setCell ⟨p, 3, none⟩ x3).setCell ⟨p, 4, none⟩ x4).setCell ⟨p, 5, none⟩ x5).setCell ⟨p, 6, none⟩ x6).setCell ⟨p, 7, none⟩ x7).setCell ⟨p, 8, none⟩ x8).setCell ⟨p, 9, none⟩ x9) p 27 #[x0, x1, x2, x3, x4, x5, x6, x7, x8, x9] ∧ Chg (fun q => q = p) w ((((((((((w.setCell ⟨p, 0, none⟩ x0).setCell ⟨p, 1, none⟩ x1).setCell ⟨p, 2, none⟩ x2).setCell ⟨p, 3, none⟩ x3).setCell ⟨p, 4, none⟩ x4).setCell ⟨p, 5, none⟩ x5).setCell ⟨p, 6, none⟩ x6).setCell ⟨p, 7, none⟩ x7).setCell ⟨p, 8, none⟩ x8).setCell ⟨p, 9, none⟩ x9) := by
  refine ⟨?_, ?_⟩
  · have h2 := ((((((((((h.set_ 0 x0).set_ 1 x1).set_ 2 x2).set_ 3 x3).set_ 4 x4).set_ 5 x5).set_ 6 x6).set_ 7 x7).set_ 8 x8).set_ 9 x9)
    simpa using h2
  · exact (((((((((((Chg.refl (fun q => q = p) w).set_ (.inl rfl) 0 x0).set_ (.inl rfl) 1 x1).set_ (.inl rfl) 2 x2).set_ (.inl rfl) 3 x3).set_ (.inl rfl) 4 x4).set_ (.inl rfl) 5 x5).set_ (.inl rfl) 6 x6).set_ (.inl rfl) 7 x7).set_ (.inl rfl) 8 x8).set_ (.inl rfl) 9 x9)
set_option maxRecDepth 100000 in
set_option maxHeartbeats 2000000 in
theorem vcopy_any (m : MV) (w : World) (hl : m.l.length ≤ 1000000) (hs : Sl w m.A m.c (m.l.map sv)) : Calls Try.prog 71 #[mvV m] w fun e w' => ∃ A' c', e = .returned (mvV { m with A := A', c := c' }) ∧ w'.ownsRow (w.heap.size + 2) 9 1 (.slice A' m.l.length c') m.l.length (m.l.map sv) ∧ Below w.heap.size w w' := by
  have hc := fun (W : World) (hW : Below w.heap.size w W) => sclone_any m.l m.l.length m.A m.c W rfl hl (hs.below hW)
  obtain ⟨k, n0, n1, n2, n3, n4, n5, s0, s1, A, c, l⟩ := m
  unfold mvV mvA
  simp only at hc hl ⊢
  generalize l.length = len at *
  have HC := hid hc
  clear hc hs
  go_enter Try.func71, Try.ntmps71
  go_wp2_with fail
  obtain ⟨s, hsz⟩ : ∃ s, w.heap.size = s := ⟨_, rfl⟩
  have hb0 := bw_a (bw_a (Below.refl w.heap.size w) (.cells #[.int .u8 (k : Int), .int .u64 (n0 : Int), .int .u64 (n1 : Int), .int .u64 (n2 : Int), .int .u64 (n3 : Int), .int .u64 (n4 : Int), .int .u64 (n5 : Int), .string s0, .string s1, .slice A len c] 27)) (.cells #[.int .u8 0, .int .u64 0, .int .u64 0, .int .u64 0, .int .u64 0, .int .u64 0, .int .u64 0, .string ⟨#[]⟩, .string ⟨#[]⟩, .slice none 0 0] 27)
  have hk0 := (Blk.new w 27 #[.int .u8 (k : Int), .int .u64 (n0 : Int), .int .u64 (n1 : Int), .int .u64 (n2 : Int), .int .u64 (n3 : Int), .int .u64 (n4 : Int), .int .u64 (n5 : Int), .string s0, .string s1, .slice A len c]).alloc (.cells #[.int .u8 0, .int .u64 0, .int .u64 0, .int .u64 0, .int .u64 0, .int .u64 0, .int .u64 0, .string ⟨#[]⟩, .string ⟨#[]⟩, .slice none 0 0] 27)
  have hk1 := Blk.new (w.alloc (.cells #[.int .u8 (k : Int), .int .u64 (n0 : Int), .int .u64 (n1 : Int), .int .u64 (n2 : Int), .int .u64 (n3 : Int), .int .u64 (n4 : Int), .int .u64 (n5 : Int), .string s0, .string s1, .slice A len c] 27)) 27 #[.int .u8 0, .int .u64 0, .int .u64 0, .int .u64 0, .int .u64 0, .int .u64 0, .int .u64 0, .string ⟨#[]⟩, .string ⟨#[]⟩, .slice none 0 0]
  rw [World.size_alloc] at hk1
  generalize (w.alloc _).alloc _ = W at *
  rw [hsz] at hk0 hk1 hb0 ⊢
  refine (HC.out W (by rw [hsz]; exact hb0)).mono ?_
  rintro e w1 ⟨v, rfl, ho, hb1⟩
  have hlt0 := hk0.lt
  have hlt1 := hk1.lt
  have hk0 := hk0.below hb1 hk0.lt
  have hk1 := hk1.below hb1 hk1.lt
  have c0 := hk0.cell 0
  have c1 := hk0.cell 1
  have c2 := hk0.cell 2
  have c3 := hk0.cell 3
  have c4 := hk0.cell 4
  have c5 := hk0.cell 5
  have c6 := hk0.cell 6
  have c7 := hk0.cell 7
  have c8 := hk0.cell 8
  have c9 := hk0.cell 9
  have f9 := hk0.frozen 9
  have g0 := hk1.frozen 0
  have d0 := hk1.cell 0
  have g1 := hk1.frozen 1
  have d1 := hk1.cell 1
  have g2 := hk1.frozen 2
  have d2 := hk1.cell 2
  have g3 := hk1.frozen 3
  have d3 := hk1.cell 3
  have g4 := hk1.frozen 4
  have d4 := hk1.cell 4
  have g5 := hk1.frozen 5
  have d5 := hk1.cell 5
  have g6 := hk1.frozen 6
  have d6 := hk1.cell 6
  have g7 := hk1.frozen 7
  have d7 := hk1.cell 7
  have g8 := hk1.frozen 8
  have d8 := hk1.cell 8
  have g9 := hk1.frozen 9
  have d9 := hk1.cell 9
  simp only [List.getElem?_toArray, List.getElem?_cons_zero, List.getElem?_cons_succ] at c0 c1 c2 c3 c4 c5 c6 c7 c8 c9 d0 d1 d2 d3 d4 d5 d6 d7 d8 d9
  obtain ⟨A', c', rfl⟩ : ∃ A' c', v = .slice A' len c' := row_slice' ho
  have hB1 := hb0.trans (hb1.mono (by have := hlt0; omega))
  have hend := mstore (hk1.far (p := ⟨s, 9, none⟩) (by simp) (.slice A' len c')) (.int .u8 (k : Int)) (.int .u64 (n0 : Int)) (.int .u64 (n1 : Int)) (.int .u64 (n2 : Int)) (.int .u64 (n3 : Int)) (.int .u64 (n4 : Int)) (.int .u64 (n5 : Int)) (.string s0) (.string s1) (.slice A' len c')
  have hc1 : Chg (fun q => q = s ∨ q = s + 1) w1 (w1.setCell ⟨s, 9, none⟩ (.slice A' len c')) := (Chg.refl _ w1).set_ (.inl (.inl rfl)) 9 _
  have ho2 := own_mono ho (show s + 2 ≤ W.heap.size by omega)
  have HO := hid ho2
  have HE := hid hend
  have HC1 := hid hc1
  have HB1 := hid hB1
  have hs2 : s + 2 ≤ w1.heap.size := Nat.le_trans (by omega) hb1.size
  clear ho ho2 hend hc1 hB1 hb1 hk0 hk1 HC hb0
  go_wp2_with fail
  have hbk := HE.out.1
  have hch := HC1.out.trans (HE.out.2.mono fun q _ hq => .inr hq)
  have ho3 := own_chgS HO.out hch (fun g hg hk => by have := (HO.out.lt g hg).1; omega)
  have hB3 := HB1.out.trans (hch.below (B := s) (fun q hq => by omega) (by omega))
  have r0 := hbk.cell 0
  have r1 := hbk.cell 1
  have r2 := hbk.cell 2
  have r3 := hbk.cell 3
  have r4 := hbk.cell 4
  have r5 := hbk.cell 5
  have r6 := hbk.cell 6
  have r7 := hbk.cell 7
  have r8 := hbk.cell 8
  have r9 := hbk.cell 9
  clear hch hbk HE HC1 HO HB1 c0 c1 c2 c3 c4 c5 c6 c7 c8 c9 f9 g0 g1 g2 g3 g4 g5 g6 g7 g8 g9 d0 d1 d2 d3 d4 d5 d6 d7 d8 d9
  generalize World.setCell (World.setCell _ _ _) _ _ = W9 at *
  simp only [List.getElem?_toArray, List.getElem?_cons_zero, List.getElem?_cons_succ] at r0 r1 r2 r3 r4 r5 r6 r7 r8 r9
  refine bodyPost_ret (v := .agg #[.int .u8 (k : Int), .int .u64 (n0 : Int), .int .u64 (n1 : Int), .int .u64 (n2 : Int), .int .u64 (n3 : Int), .int .u64 (n4 : Int), .int .u64 (n5 : Int), .string s0, .string s1, .slice A' len c']) (by simp [results, Try.results71, go_sem, r0, r1, r2, r3, r4, r5, r6, r7, r8, r9]) rfl ?_
  rw [hsz]
  exact ⟨A', c', rfl, ho3, hB3⟩
end Go.Proofs.Ytnfodgjihdoncaa
set_option linter.unusedVariables false
namespace Go.Proofs.Ytnfodgjihdoncaa
open Go.RowKit
def mkN (l : List SRow) (i : Nat) : Bool := l.any fun r => decide (r.typ ≤ 6 ∧ r.slot = i)
def mkS (l : List SRow) (i : Nat) : Bool := l.any fun r => decide ((7 ≤ r.typ ∧ r.typ ≤ 9) ∧ r.slot = i)
def mkL (l : List SRow) : Bool := l.any fun r => decide (r.typ = 10)
def mkA (l : List SRow) : Array Value := #[.bool (mkN l 0), .bool (mkN l 1), .bool (mkN l 2), .bool (mkN l 3), .bool (mkN l 4), .bool (mkN l 5), .bool (mkS l 0), .bool (mkS l 1), .bool (mkL l)]
theorem mkN_app (l : List SRow) (r : SRow) (i : Nat) : mkN (l ++ [r]) i = (mkN l i || decide (r.typ ≤ 6 ∧ r.slot = i)) := by unfold mkN; rw [List.any_append]; simp
theorem mkS_app (l : List SRow) (r : SRow) (i : Nat) : mkS (l ++ [r]) i = (mkS l i || decide ((7 ≤ r.typ ∧ r.typ ≤ 9) ∧ r.slot = i)) := by unfold mkS; rw [List.any_append]; simp
theorem mkL_app (l : List SRow) (r : SRow) : mkL (l ++ [r]) = (mkL l || decide (r.typ = 10)) := by unfold mkL; rw [List.any_append]; simp
theorem mkA_num (l : List SRow) (r : SRow) (h : r.typ ≤ 6) (hs : r.slot ≤ 5) : (mkA l).setIfInBounds r.slot (.bool true) = mkA (l ++ [r]) := by
  have hi : r.slot = 0 ∨ r.slot = 1 ∨ r.slot = 2 ∨ r.slot = 3 ∨ r.slot = 4 ∨ r.slot = 5 := by omega
  have h7 : ¬ (7 ≤ r.typ ∧ r.typ ≤ 9) := by omega
  have h10 : ¬ r.typ = 10 := by omega
  unfold mkA
  simp only [mkN_app, mkS_app, mkL_app]
  rcases hi with hi | hi | hi | hi | hi | hi <;> rw [hi] <;> simp [h, h7, h10]
theorem mkA_text (l : List SRow) (r : SRow) (h : 7 ≤ r.typ ∧ r.typ ≤ 9) (hs : r.slot ≤ 1) : (mkA l).setIfInBounds (6 + r.slot) (.bool true) = mkA (l ++ [r]) := by
  have hi : r.slot = 0 ∨ r.slot = 1 := by omega
  have h7 : ¬ r.typ ≤ 6 := by omega
  have h10 : ¬ r.typ = 10 := by omega
  unfold mkA
  simp only [mkN_app, mkS_app, mkL_app]
  rcases hi with hi | hi <;> rw [hi] <;> simp [h, h7, h10]
theorem mkA_list (l : List SRow) (r : SRow) (h : r.typ = 10) : (mkA l).setIfInBounds 8 (.bool true) = mkA (l ++ [r]) := by
  have h7 : ¬ r.typ ≤ 6 := by omega
  have h9 : ¬ (7 ≤ r.typ ∧ r.typ ≤ 9) := by omega
  unfold mkA
  simp only [mkN_app, mkS_app, mkL_app]
  simp [h]
theorem row_ok2 {r : SRow} (h : r ∈ ROWS) : 1 ≤ r.typ ∧ r.typ ≤ 10 ∧ r.slot ≤ 5 ∧ (7 ≤ r.typ → r.typ ≤ 9 → r.slot ≤ 1) := by
  have h := List.all_eq_true.1 (show ROWS.all (fun r => decide (1 ≤ r.typ ∧ r.typ ≤ 10 ∧ r.slot ≤ 5 ∧ (7 ≤ r.typ → r.typ ≤ 9 → r.slot ≤ 1))) = true by decide) r h
  simp at h
  omega
theorem mkA_cell (l : List SRow) (i : Nat) (h : i < 9) : ∃ b, (mkA l)[i]? = some (.bool b) := by
  have hi : i = 0 ∨ i = 1 ∨ i = 2 ∨ i = 3 ∨ i = 4 ∨ i = 5 ∨ i = 6 ∨ i = 7 ∨ i = 8 := by omega
  rcases hi with rfl | rfl | rfl | rfl | rfl | rfl | rfl | rfl | rfl <;> exact ⟨_, rfl⟩
set_option maxRecDepth 100000 in
set_option maxHeartbeats 4000000 in
theorem vmarked_any (k v : Int) (w : World) (hv1 : -9223372036854775808 ≤ v) (hv2 : v ≤ 9223372036854775807) : Calls Try.prog 104 #[.int .u8 k, .int .i64 v] w fun e w' => e = .returned (.agg (mkA (ofL k v))) ∧ Below w.heap.size w w' := by
  have hsof := fun W => ((callsIn_wide (n := 4)).1 (sof2_in 4 (by omega) k v W hv1 hv2))
  have hq40 := ofL_le40 k v
  have hmem : ∀ r ∈ ofL k v, r ∈ ROWS := fun r hr => ofL_mem k v hr
  generalize ofL k v = L at *
  have HMEM := hid hmem
  have HSOF := hid hsof
  clear hsof hmem
  obtain ⟨s, hsz⟩ : ∃ s, w.heap.size = s := ⟨_, rfl⟩
  rw [hsz]
  go_enter Try.func104, Try.ntmps104
  go_wp2_with fail
  have hz := #[Value.bool false, .bool false, .bool false, .bool false, .bool false, .bool false, .bool false, .bool false, .bool false]
  have hb0 := bw_a (bw_a (Below.refl w.heap.size w) (.cells (mkA []) 167)) (.cells (mkA []) 167)
  have hk0 := (Blk.new w 167 (mkA [])).alloc (.cells (mkA []) 167)
  have hk1 := Blk.new (w.alloc (.cells (mkA []) 167)) 167 (mkA [])
  rw [World.size_alloc] at hk1
  rw [hsz] at hk0 hk1 hb0
  have e0 : mkA [] = #[Value.bool false, .bool false, .bool false, .bool false, .bool false, .bool false, .bool false, .bool false, .bool false] := rfl
  rw [e0] at hk0 hk1 hb0
  clear e0 hz
  have hk1' : Blk _ (s + 1) 167 (mkA []) := hk1
  have hwz : ((w.alloc (.cells #[Value.bool false, .bool false, .bool false, .bool false, .bool false, .bool false, .bool false, .bool false, .bool false] 167)).alloc (.cells #[Value.bool false, .bool false, .bool false, .bool false, .bool false, .bool false, .bool false, .bool false, .bool false] 167)).heap.size = s + 2 := by simp [hsz]
  clear hk1
  generalize (w.alloc _).alloc _ = W at *
  refine (HSOF.out W).mono ?_
  rintro e w1 ⟨vv, rfl, ho, hb1⟩
  have hk0 := hk0.below hb1 hk0.lt
  have hk1 := hk1'.below hb1 hk1'.lt
  have hB1 := hb0.trans (hb1.mono (by omega))
  have hap : ∀ g, vv.ownBlock = some g → s + 3 ≤ g := fun g hg => by have := (ho.lt g hg).1; omega
  obtain ⟨A, c, rfl, hs1⟩ := SlN.of_own (by omega) ho
  obtain ⟨m, hm⟩ : ∃ m, L.length = m := ⟨_, rfl⟩
  rw [hm] at hs1 hq40 hap ⊢
  have hw1 : s + 2 ≤ w1.heap.size := by have := hb1.size; omega
  have HM := hid hm
  have HS1 := hid hs1
  have HK0 := hid hk0
  have HK1 := hid hk1
  have HB1 := hid hB1
  have HAP := hid hap
  clear hm hs1 hk0 hk1 hB1 hap hk1' hb0 hb1 ho HSOF hwz
  go_wp2_with fail
  go_loopw [18] (fun i wr => ∃ j : Nat, j ≤ m ∧ i = .int .i64 (j : Int) ∧ Blk wr (s + 1) 167 (mkA (L.take j)) ∧ Chg (fun q => q = s + 1) w1 wr) (fun i _ => m - (intOf i).toNat)
  case atStart => exact ⟨0, by omega, rfl, HK1.out, Chg.refl _ _⟩
  case round =>
    obtain ⟨j, hj, rfl, hk, hc⟩ := hrel
    by_cases hlt : j < m
    · have hjl : j < L.length := by have := HM.out; omega
      have hn0 : (L.flatMap specC)[j * 3 + 0]? = _ := flatMap_get specC 3 L j 0 hjl (fun _ _ => rfl) (by omega)
      have hn1 : (L.flatMap specC)[j * 3 + 1]? = _ := flatMap_get specC 3 L j 1 hjl (fun _ _ => rfl) (by omega)
      have hn2 : (L.flatMap specC)[j * 3 + 2]? = _ := flatMap_get specC 3 L j 2 hjl (fun _ _ => rfl) (by omega)
      obtain ⟨b, off, hA, hbw, t0⟩ := HS1.out.rd _ _ hn0
      subst hA
      have hbs : s + 3 ≤ b := HAP.out b rfl
      have t1 := HS1.out.rd.addr _ _ hn1
      have t2 := HS1.out.rd.addr _ _ hn2
      rw [addr_add] at t1 t2
      simp only [Nat.add_zero, ← Nat.add_assoc] at t0 t1 t2
      have hbb := hc.block b hbw (by omega)
      have t0 := (World.cell?_of_block (a := ⟨b, off + j * 3, none⟩) hbb).trans t0
      have t1 := (World.cell?_of_block (a := ⟨b, off + j * 3 + 1, none⟩) hbb).trans t1
      have t2 := (World.cell?_of_block (a := ⟨b, off + j * 3 + 2, none⟩) hbb).trans t2
      have hji : (j : Int) < (m : Int) := by omega
      have hj0 : (0 : Int) ≤ (j : Int) := by omega
      have hro := row_ok2 (HMEM.out L[j] (List.getElem_mem hjl))
      have hmn := mkA_num (L.take j) L[j]
      have hmt := mkA_text (L.take j) L[j]
      have hml := mkA_list (L.take j) L[j]
      have htk : L.take (j + 1) = L.take j ++ [L[j]] := List.take_succ_eq_append_getElem hjl
      rw [← htk] at hmn hmt hml
      have hcell := mkA_cell (L.take j)
      obtain ⟨Lj1, hLj1⟩ : ∃ x, L.take (j + 1) = x := ⟨_, rfl⟩
      rw [hLj1] at hmn hmt hml
      have HLJ := hid hLj1
      clear hLj1
      generalize L.take j = Lj at *
      clear hn0 hn1 hn2 htk hbb
      generalize L[j] = r at *
      obtain ⟨rk, si, nu, ty, sl⟩ := r
      simp only at t0 t1 t2 hro hmn hmt hml
      have hls := hk.lt
      have HKW := hid hk
      have HCW := hid hc
      have HMN := hid hmn
      have HMT := hid hmt
      have HML := hid hml
      have HCELL := hid hcell
      clear hmn hmt hml hc hk hcell
      obtain ⟨hro1, hro2, hro3, hro4⟩ := hro
      have hty : ty = 1 ∨ ty = 2 ∨ ty = 3 ∨ ty = 4 ∨ ty = 5 ∨ ty = 6 ∨ ty = 7 ∨ ty = 8 ∨ ty = 9 ∨ ty = 10 := by omega
      rcases hty with rfl | rfl | rfl | rfl | rfl | rfl | rfl | rfl | rfl | rfl
      · have hsI : (sl : Int) < 6 := by omega
        have hsI0 : (0 : Int) ≤ (sl : Int) := by omega
        obtain ⟨bb, hbb⟩ := HCELL.out sl (by omega)
        have q0 := (HKW.out.cell sl).trans hbb
        have q1 := HKW.out.frozen sl
        have hset := HMN.out (by omega) (by omega)
        have HSET := hid hset
        clear hset hbb
        go_wp2_with fail
        have hf := HKW.out.set_ sl (.bool true)
        rw [HSET.out] at hf
        exact ⟨⟨j + 1, by omega, by go_num, by rw [HLJ.out]; exact hf.alloc _, (HCW.out.set_ (.inl rfl) _ _).alloc _⟩, by simp [intOf] <;> omega⟩
      · have hsI : (sl : Int) < 6 := by omega
        have hsI0 : (0 : Int) ≤ (sl : Int) := by omega
        obtain ⟨bb, hbb⟩ := HCELL.out sl (by omega)
        have q0 := (HKW.out.cell sl).trans hbb
        have q1 := HKW.out.frozen sl
        have hset := HMN.out (by omega) (by omega)
        have HSET := hid hset
        clear hset hbb
        go_wp2_with fail
        have hf := HKW.out.set_ sl (.bool true)
        rw [HSET.out] at hf
        exact ⟨⟨j + 1, by omega, by go_num, by rw [HLJ.out]; exact hf.alloc _, (HCW.out.set_ (.inl rfl) _ _).alloc _⟩, by simp [intOf] <;> omega⟩
      · have hsI : (sl : Int) < 6 := by omega
        have hsI0 : (0 : Int) ≤ (sl : Int) := by omega
        obtain ⟨bb, hbb⟩ := HCELL.out sl (by omega)
        have q0 := (HKW.out.cell sl).trans hbb
        have q1 := HKW.out.frozen sl
        have hset := HMN.out (by omega) (by omega)
        have HSET := hid hset
        clear hset hbb
        go_wp2_with fail
        have hf := HKW.out.set_ sl (.bool true)
        rw [HSET.out] at hf
        exact ⟨⟨j + 1, by omega, by go_num, by rw [HLJ.out]; exact hf.alloc _, (HCW.out.set_ (.inl rfl) _ _).alloc _⟩, by simp [intOf] <;> omega⟩
      · have hsI : (sl : Int) < 6 := by omega
        have hsI0 : (0 : Int) ≤ (sl : Int) := by omega
        obtain ⟨bb, hbb⟩ := HCELL.out sl (by omega)
        have q0 := (HKW.out.cell sl).trans hbb
        have q1 := HKW.out.frozen sl
        have hset := HMN.out (by omega) (by omega)
        have HSET := hid hset
        clear hset hbb
        go_wp2_with fail
        have hf := HKW.out.set_ sl (.bool true)
        rw [HSET.out] at hf
        exact ⟨⟨j + 1, by omega, by go_num, by rw [HLJ.out]; exact hf.alloc _, (HCW.out.set_ (.inl rfl) _ _).alloc _⟩, by simp [intOf] <;> omega⟩
      · have hsI : (sl : Int) < 6 := by omega
        have hsI0 : (0 : Int) ≤ (sl : Int) := by omega
        obtain ⟨bb, hbb⟩ := HCELL.out sl (by omega)
        have q0 := (HKW.out.cell sl).trans hbb
        have q1 := HKW.out.frozen sl
        have hset := HMN.out (by omega) (by omega)
        have HSET := hid hset
        clear hset hbb
        go_wp2_with fail
        have hf := HKW.out.set_ sl (.bool true)
        rw [HSET.out] at hf
        exact ⟨⟨j + 1, by omega, by go_num, by rw [HLJ.out]; exact hf.alloc _, (HCW.out.set_ (.inl rfl) _ _).alloc _⟩, by simp [intOf] <;> omega⟩
      · have hsI : (sl : Int) < 6 := by omega
        have hsI0 : (0 : Int) ≤ (sl : Int) := by omega
        obtain ⟨bb, hbb⟩ := HCELL.out sl (by omega)
        have q0 := (HKW.out.cell sl).trans hbb
        have q1 := HKW.out.frozen sl
        have hset := HMN.out (by omega) (by omega)
        have HSET := hid hset
        clear hset hbb
        go_wp2_with fail
        have hf := HKW.out.set_ sl (.bool true)
        rw [HSET.out] at hf
        exact ⟨⟨j + 1, by omega, by go_num, by rw [HLJ.out]; exact hf.alloc _, (HCW.out.set_ (.inl rfl) _ _).alloc _⟩, by simp [intOf] <;> omega⟩
      · have hsI : (sl : Int) < 2 := by omega
        have hsI0 : (0 : Int) ≤ (sl : Int) := by omega
        obtain ⟨bb, hbb⟩ := HCELL.out (6 + sl) (by omega)
        have q0 := (HKW.out.cell (6 + sl)).trans hbb
        have q1 := HKW.out.frozen (6 + sl)
        have hset := HMT.out (by omega) (by omega)
        have HSET := hid hset
        clear hset hbb
        go_wp2_with fail
        have hf := HKW.out.set_ (6 + sl) (.bool true)
        rw [HSET.out] at hf
        exact ⟨⟨j + 1, by omega, by go_num, by rw [HLJ.out]; exact hf.alloc _, (HCW.out.set_ (.inl rfl) _ _).alloc _⟩, by simp [intOf] <;> omega⟩
      · have hsI : (sl : Int) < 2 := by omega
        have hsI0 : (0 : Int) ≤ (sl : Int) := by omega
        obtain ⟨bb, hbb⟩ := HCELL.out (6 + sl) (by omega)
        have q0 := (HKW.out.cell (6 + sl)).trans hbb
        have q1 := HKW.out.frozen (6 + sl)
        have hset := HMT.out (by omega) (by omega)
        have HSET := hid hset
        clear hset hbb
        go_wp2_with fail
        have hf := HKW.out.set_ (6 + sl) (.bool true)
        rw [HSET.out] at hf
        exact ⟨⟨j + 1, by omega, by go_num, by rw [HLJ.out]; exact hf.alloc _, (HCW.out.set_ (.inl rfl) _ _).alloc _⟩, by simp [intOf] <;> omega⟩
      · have hsI : (sl : Int) < 2 := by omega
        have hsI0 : (0 : Int) ≤ (sl : Int) := by omega
        obtain ⟨bb, hbb⟩ := HCELL.out (6 + sl) (by omega)
        have q0 := (HKW.out.cell (6 + sl)).trans hbb
        have q1 := HKW.out.frozen (6 + sl)
        have hset := HMT.out (by omega) (by omega)
        have HSET := hid hset
        clear hset hbb
        go_wp2_with fail
        have hf := HKW.out.set_ (6 + sl) (.bool true)
        rw [HSET.out] at hf
        exact ⟨⟨j + 1, by omega, by go_num, by rw [HLJ.out]; exact hf.alloc _, (HCW.out.set_ (.inl rfl) _ _).alloc _⟩, by simp [intOf] <;> omega⟩
      · obtain ⟨bb, hbb⟩ := HCELL.out 8 (by omega)
        have q0 := (HKW.out.cell 8).trans hbb
        have q1 := HKW.out.frozen 8
        have hset := HML.out rfl
        have HSET := hid hset
        clear hset hbb
        go_wp2_with fail
        have hf := HKW.out.set_ 8 (.bool true)
        rw [HSET.out] at hf
        exact ⟨⟨j + 1, by omega, by go_num, by rw [HLJ.out]; exact hf.alloc _, (HCW.out.set_ (.inl rfl) _ _).alloc _⟩, by simp [intOf] <;> omega⟩
    · obtain rfl : j = m := by omega
      rw [List.take_of_length_le (by have := HM.out; omega)] at hk
      have hk00 := hc.blk HK0.out (by omega)
      obtain ⟨b0, b1, b2, b3, b4, b5, b6, b7, b8, hmk⟩ : ∃ b0 b1 b2 b3 b4 b5 b6 b7 b8, mkA L = #[.bool b0, .bool b1, .bool b2, .bool b3, .bool b4, .bool b5, .bool b6, .bool b7, .bool b8] := ⟨_, _, _, _, _, _, _, _, _, rfl⟩
      rw [hmk] at hk
      have HMK := hid hmk
      clear hmk
      have c0 := hk.cell 0
      have d0 := hk00.cell 0
      have f0 := hk00.frozen 0
      have c1 := hk.cell 1
      have d1 := hk00.cell 1
      have f1 := hk00.frozen 1
      have c2 := hk.cell 2
      have d2 := hk00.cell 2
      have f2 := hk00.frozen 2
      have c3 := hk.cell 3
      have d3 := hk00.cell 3
      have f3 := hk00.frozen 3
      have c4 := hk.cell 4
      have d4 := hk00.cell 4
      have f4 := hk00.frozen 4
      have c5 := hk.cell 5
      have d5 := hk00.cell 5
      have f5 := hk00.frozen 5
      have c6 := hk.cell 6
      have d6 := hk00.cell 6
      have f6 := hk00.frozen 6
      have c7 := hk.cell 7
      have d7 := hk00.cell 7
      have f7 := hk00.frozen 7
      have c8 := hk.cell 8
      have d8 := hk00.cell 8
      have f8 := hk00.frozen 8
      simp only [List.getElem?_toArray, List.getElem?_cons_zero, List.getElem?_cons_succ] at c0 c1 c2 c3 c4 c5 c6 c7 c8 d0 d1 d2 d3 d4 d5 d6 d7 d8
      have hend := (((((((((hk00.set_ 0 (.bool b0)).set_ 1 (.bool b1)).set_ 2 (.bool b2)).set_ 3 (.bool b3)).set_ 4 (.bool b4)).set_ 5 (.bool b5)).set_ 6 (.bool b6)).set_ 7 (.bool b7)).set_ 8 (.bool b8))
      have hch : Chg (fun q => q = s) wr _ := ((((((((((Chg.refl (fun q => q = s) wr).set_ (.inl rfl) 0 (.bool b0)).set_ (.inl rfl) 1 (.bool b1)).set_ (.inl rfl) 2 (.bool b2)).set_ (.inl rfl) 3 (.bool b3)).set_ (.inl rfl) 4 (.bool b4)).set_ (.inl rfl) 5 (.bool b5)).set_ (.inl rfl) 6 (.bool b6)).set_ (.inl rfl) 7 (.bool b7)).set_ (.inl rfl) 8 (.bool b8))
      have hB := HB1.out.trans (hc.below (B := s) (fun q hq => by omega) (by omega))
      have hwr : s ≤ wr.heap.size := by have := hc.size; omega
      have HE := hid hend
      have HCH := hid hch
      have HB := hid hB
      clear hend hch hB hk hk00 hc
      go_wp2_with fail
      have hB := HB.out.trans (HCH.out.below (B := s) (fun q hq => by omega) hwr)
      have hend := HE.out
      have r0 := hend.cell 0
      have r1 := hend.cell 1
      have r2 := hend.cell 2
      have r3 := hend.cell 3
      have r4 := hend.cell 4
      have r5 := hend.cell 5
      have r6 := hend.cell 6
      have r7 := hend.cell 7
      have r8 := hend.cell 8
      clear hend HE HCH
      generalize World.setCell (World.setCell _ _ _) _ _ = W9 at *
      simp at r0 r1 r2 r3 r4 r5 r6 r7 r8
      refine bodyPost_ret (v := .agg #[.bool b0, .bool b1, .bool b2, .bool b3, .bool b4, .bool b5, .bool b6, .bool b7, .bool b8]) (by simp [results, Try.results104, go_sem, r0, r1, r2, r3, r4, r5, r6, r7, r8]) rfl ?_
      exact ⟨by rw [HMK.out], hB⟩
end Go.Proofs.Ytnfodgjihdoncaa
set_option linter.unusedVariables false
namespace Go.Proofs.Ytnfodgjihdoncaa
open Go.RowKit
def ka (b : Bool) (j i n : Nat) : Nat := if i < j then (if b then n else 0) else n
def kb (b : Bool) (j i : Nat) (s : ByteArray) : ByteArray := if i < j then (if b then s else ⟨#[]⟩) else s
/-- A message without what belongs to no field. -/
def keptM (L : List SRow) (m : MV) : MV := { k := m.k, n0 := ka (mkN L 0) 6 0 m.n0, n1 := ka (mkN L 1) 6 1 m.n1, n2 := ka (mkN L 2) 6 2 m.n2, n3 := ka (mkN L 3) 6 3 m.n3, n4 := ka (mkN L 4) 6 4 m.n4, n5 := ka (mkN L 5) 6 5 m.n5, s0 := kb (mkS L 0) 2 0 m.s0, s1 := kb (mkS L 1) 2 1 m.s1, A := if mkL L then m.A else none, c := if mkL L then m.c else 0, l := if mkL L then m.l else [] }
def kcN (L : List SRow) (m : MV) (len : Nat) (j : Nat) : Array Value := #[.int .u8 (m.k : Int), .int .u64 (ka (mkN L 0) j 0 m.n0 : Nat), .int .u64 (ka (mkN L 1) j 1 m.n1 : Nat), .int .u64 (ka (mkN L 2) j 2 m.n2 : Nat), .int .u64 (ka (mkN L 3) j 3 m.n3 : Nat), .int .u64 (ka (mkN L 4) j 4 m.n4 : Nat), .int .u64 (ka (mkN L 5) j 5 m.n5 : Nat), .string m.s0, .string m.s1, .slice m.A len m.c]
def kcS (L : List SRow) (m : MV) (len : Nat) (j : Nat) : Array Value := #[.int .u8 (m.k : Int), .int .u64 (ka (mkN L 0) 6 0 m.n0 : Nat), .int .u64 (ka (mkN L 1) 6 1 m.n1 : Nat), .int .u64 (ka (mkN L 2) 6 2 m.n2 : Nat), .int .u64 (ka (mkN L 3) 6 3 m.n3 : Nat), .int .u64 (ka (mkN L 4) 6 4 m.n4 : Nat), .int .u64 (ka (mkN L 5) 6 5 m.n5 : Nat), .string (kb (mkS L 0) j 0 m.s0), .string (kb (mkS L 1) j 1 m.s1), .slice m.A len m.c]
theorem kcN_keep (L : List SRow) (m : MV) (len j : Nat) (hj : j < 6) (h : mkN L j = true) : kcN L m len (j + 1) = kcN L m len j := by
  have hi : j = 0 ∨ j = 1 ∨ j = 2 ∨ j = 3 ∨ j = 4 ∨ j = 5 := by omega
  unfold kcN
  rcases hi with rfl | rfl | rfl | rfl | rfl | rfl <;> simp [ka, h]
theorem kcN_zero (L : List SRow) (m : MV) (len j : Nat) (hj : j < 6) (h : mkN L j = false) : (kcN L m len j).setIfInBounds (1 + j) (.int .u64 0) = kcN L m len (j + 1) := by
  have hi : j = 0 ∨ j = 1 ∨ j = 2 ∨ j = 3 ∨ j = 4 ∨ j = 5 := by omega
  unfold kcN
  rcases hi with rfl | rfl | rfl | rfl | rfl | rfl <;> simp [ka, h]
theorem kcS_keep (L : List SRow) (m : MV) (len j : Nat) (hj : j < 2) (h : mkS L j = true) : kcS L m len (j + 1) = kcS L m len j := by
  have hi : j = 0 ∨ j = 1 := by omega
  unfold kcS
  rcases hi with rfl | rfl <;> simp [kb, h]
theorem kcS_zero (L : List SRow) (m : MV) (len j : Nat) (hj : j < 2) (h : mkS L j = false) : (kcS L m len j).setIfInBounds (7 + j) (.string ⟨#[]⟩) = kcS L m len (j + 1) := by
  have hi : j = 0 ∨ j = 1 := by omega
  unfold kcS
  rcases hi with rfl | rfl <;> simp [kb, h]
theorem kc_start (L : List SRow) (m : MV) (len : Nat) : kcN L m len 0 = #[.int .u8 (m.k : Int), .int .u64 (m.n0 : Int), .int .u64 (m.n1 : Int), .int .u64 (m.n2 : Int), .int .u64 (m.n3 : Int), .int .u64 (m.n4 : Int), .int .u64 (m.n5 : Int), .string m.s0, .string m.s1, .slice m.A len m.c] := by
  unfold kcN; simp [ka]
theorem kc_mid (L : List SRow) (m : MV) (len : Nat) : kcS L m len 0 = kcN L m len 6 := by
  unfold kcN kcS; simp [kb]
theorem kc_endT (L : List SRow) (m : MV) (h : mkL L = true) : kcS L m m.l.length 2 = mvA (keptM L m) := by
  unfold kcS mvA keptM; simp [h]
theorem kc_endF (L : List SRow) (m : MV) (h : mkL L = false) : (kcS L m m.l.length 2).setIfInBounds 9 (.slice none 0 0) = mvA (keptM L m) := by
  unfold kcS mvA keptM; simp [h]
theorem kcN_cell (L : List SRow) (m : MV) (len j i : Nat) (h : i < 10) : ∃ u, (kcN L m len j)[i]? = some u := by
  have hi : i = 0 ∨ i = 1 ∨ i = 2 ∨ i = 3 ∨ i = 4 ∨ i = 5 ∨ i = 6 ∨ i = 7 ∨ i = 8 ∨ i = 9 := by omega
  rcases hi with rfl | rfl | rfl | rfl | rfl | rfl | rfl | rfl | rfl | rfl <;> exact ⟨_, rfl⟩
theorem kcS_cell (L : List SRow) (m : MV) (len j i : Nat) (h : i < 10) : ∃ u, (kcS L m len j)[i]? = some u := by
  have hi : i = 0 ∨ i = 1 ∨ i = 2 ∨ i = 3 ∨ i = 4 ∨ i = 5 ∨ i = 6 ∨ i = 7 ∨ i = 8 ∨ i = 9 := by omega
  rcases hi with rfl | rfl | rfl | rfl | rfl | rfl | rfl | rfl | rfl | rfl <;> exact ⟨_, rfl⟩
set_option maxRecDepth 100000 in
set_option maxHeartbeats 4000000 in
theorem vkept_any (m : MV) (v : Int) (w : World) (hv1 : -9223372036854775808 ≤ v) (hv2 : v ≤ 9223372036854775807) : Calls Try.prog 78 #[mvV m, .int .i64 v] w fun e w' => e = .returned (mvV (keptM (ofL (m.k : Int) v) m)) ∧ Below w.heap.size w w' := by
  have hmk := fun W => vmarked_any (m.k : Int) v W hv1 hv2
  have hst := kc_start (ofL (m.k : Int) v) m m.l.length
  have hmid := kc_mid (ofL (m.k : Int) v) m m.l.length
  have hnk := kcN_keep (ofL (m.k : Int) v) m m.l.length
  have hnz := kcN_zero (ofL (m.k : Int) v) m m.l.length
  have hsk := kcS_keep (ofL (m.k : Int) v) m m.l.length
  have hsz := kcS_zero (ofL (m.k : Int) v) m m.l.length
  have heT := kc_endT (ofL (m.k : Int) v) m
  have heF := kc_endF (ofL (m.k : Int) v) m
  have hnc := kcN_cell (ofL (m.k : Int) v) m m.l.length
  have hsc := kcS_cell (ofL (m.k : Int) v) m m.l.length
  obtain ⟨a1, a2, a3, a4, a5, a6, t7, t8, ad9, ln9, cp9, hx⟩ : ∃ (a1 a2 a3 a4 a5 a6 : Nat) (t7 t8 : ByteArray) (ad9 : Option Addr) (ln9 cp9 : Nat), mvA (keptM (ofL (m.k : Int) v) m) = #[.int .u8 (m.k : Int), .int .u64 (a1 : Int), .int .u64 (a2 : Int), .int .u64 (a3 : Int), .int .u64 (a4 : Int), .int .u64 (a5 : Int), .int .u64 (a6 : Int), .string t7, .string t8, .slice ad9 ln9 cp9] := ⟨_, _, _, _, _, _, _, _, _, _, _, rfl⟩
  have hvx : mvV (keptM (ofL (m.k : Int) v) m) = .agg #[.int .u8 (m.k : Int), .int .u64 (a1 : Int), .int .u64 (a2 : Int), .int .u64 (a3 : Int), .int .u64 (a4 : Int), .int .u64 (a5 : Int), .int .u64 (a6 : Int), .string t7, .string t8, .slice ad9 ln9 cp9] := by unfold mvV; rw [hx]
  rw [hvx]
  rw [hx] at heT heF
  clear hvx hx
  generalize ofL (m.k : Int) v = L at *
  unfold mkA at hmk
  generalize kcN L m m.l.length = kn at *
  generalize kcS L m m.l.length = ks at *
  generalize hb0 : mkN L 0 = b0 at *
  generalize hb1 : mkN L 1 = b1 at *
  generalize hb2 : mkN L 2 = b2 at *
  generalize hb3 : mkN L 3 = b3 at *
  generalize hb4 : mkN L 4 = b4 at *
  generalize hb5 : mkN L 5 = b5 at *
  generalize hb6 : mkS L 0 = b6 at *
  generalize hb7 : mkS L 1 = b7 at *
  generalize hb8 : mkL L = b8 at *
  unfold mvV mvA
  generalize m.l.length = len at *

  have hi0 : ∀ W, (Instr.index 164 (.agg #[.bool b0, .bool b1, .bool b2, .bool b3, .bool b4, .bool b5]) (.int .i64 0)).run Try.prog W = .ok (.bool b0) W := fun W => by kernel_rfl
  have hi1 : ∀ W, (Instr.index 164 (.agg #[.bool b0, .bool b1, .bool b2, .bool b3, .bool b4, .bool b5]) (.int .i64 1)).run Try.prog W = .ok (.bool b1) W := fun W => by kernel_rfl
  have hi2 : ∀ W, (Instr.index 164 (.agg #[.bool b0, .bool b1, .bool b2, .bool b3, .bool b4, .bool b5]) (.int .i64 2)).run Try.prog W = .ok (.bool b2) W := fun W => by kernel_rfl
  have hi3 : ∀ W, (Instr.index 164 (.agg #[.bool b0, .bool b1, .bool b2, .bool b3, .bool b4, .bool b5]) (.int .i64 3)).run Try.prog W = .ok (.bool b3) W := fun W => by kernel_rfl
  have hi4 : ∀ W, (Instr.index 164 (.agg #[.bool b0, .bool b1, .bool b2, .bool b3, .bool b4, .bool b5]) (.int .i64 4)).run Try.prog W = .ok (.bool b4) W := fun W => by kernel_rfl
  have hi5 : ∀ W, (Instr.index 164 (.agg #[.bool b0, .bool b1, .bool b2, .bool b3, .bool b4, .bool b5]) (.int .i64 5)).run Try.prog W = .ok (.bool b5) W := fun W => by kernel_rfl
  have hi6 : ∀ W, (Instr.index 165 (.agg #[.bool b6, .bool b7]) (.int .i64 0)).run Try.prog W = .ok (.bool b6) W := fun W => by kernel_rfl
  have hi7 : ∀ W, (Instr.index 165 (.agg #[.bool b6, .bool b7]) (.int .i64 1)).run Try.prog W = .ok (.bool b7) W := fun W => by kernel_rfl
  have hk0 := hnk 0 (by omega)
  have hz0 := hnz 0 (by omega)
  rw [hb0] at hk0 hz0
  have hk1 := hnk 1 (by omega)
  have hz1 := hnz 1 (by omega)
  rw [hb1] at hk1 hz1
  have hk2 := hnk 2 (by omega)
  have hz2 := hnz 2 (by omega)
  rw [hb2] at hk2 hz2
  have hk3 := hnk 3 (by omega)
  have hz3 := hnz 3 (by omega)
  rw [hb3] at hk3 hz3
  have hk4 := hnk 4 (by omega)
  have hz4 := hnz 4 (by omega)
  rw [hb4] at hk4 hz4
  have hk5 := hnk 5 (by omega)
  have hz5 := hnz 5 (by omega)
  rw [hb5] at hk5 hz5
  have hk6 := hsk 0 (by omega)
  have hz6 := hsz 0 (by omega)
  rw [hb6] at hk6 hz6
  have hk7 := hsk 1 (by omega)
  have hz7 := hsz 1 (by omega)
  rw [hb7] at hk7 hz7
  have HK0 := hid hk0
  have HZ0 := hid hz0
  have HI0 := hid hi0
  have HK1 := hid hk1
  have HZ1 := hid hz1
  have HI1 := hid hi1
  have HK2 := hid hk2
  have HZ2 := hid hz2
  have HI2 := hid hi2
  have HK3 := hid hk3
  have HZ3 := hid hz3
  have HI3 := hid hi3
  have HK4 := hid hk4
  have HZ4 := hid hz4
  have HI4 := hid hi4
  have HK5 := hid hk5
  have HZ5 := hid hz5
  have HI5 := hid hi5
  have HK6 := hid hk6
  have HZ6 := hid hz6
  have HI6 := hid hi6
  have HK7 := hid hk7
  have HZ7 := hid hz7
  have HI7 := hid hi7
  clear hk0 hz0 hi0 hk1 hz1 hi1 hk2 hz2 hi2 hk3 hz3 hi3 hk4 hz4 hi4 hk5 hz5 hi5 hk6 hz6 hi6 hk7 hz7 hi7 hnk hnz hsk hsz hb0 hb1 hb2 hb3 hb4 hb5 hb6 hb7 hb8
  have HMK := hid hmk
  have HST := hid hst
  have HMID := hid hmid
  have HET := hid heT
  have HEF := hid heF
  have HNC := hid hnc
  have HSC := hid hsc
  clear hmk hst hmid heT heF hnc hsc
  obtain ⟨s, hws⟩ : ∃ s, w.heap.size = s := ⟨_, rfl⟩
  rw [hws]
  go_enter Try.func78, Try.ntmps78
  go_wp2_with fail
  have hb0 := bw_a (bw_a (Below.refl w.heap.size w) (.cells #[.int .u8 (m.k : Int), .int .u64 (m.n0 : Int), .int .u64 (m.n1 : Int), .int .u64 (m.n2 : Int), .int .u64 (m.n3 : Int), .int .u64 (m.n4 : Int), .int .u64 (m.n5 : Int), .string m.s0, .string m.s1, .slice m.A len m.c] 27)) (.cells #[.int .u8 0, .int .u64 0, .int .u64 0, .int .u64 0, .int .u64 0, .int .u64 0, .int .u64 0, .string ⟨#[]⟩, .string ⟨#[]⟩, .slice none 0 0] 27)
  have hp0 := (Blk.new w 27 #[.int .u8 (m.k : Int), .int .u64 (m.n0 : Int), .int .u64 (m.n1 : Int), .int .u64 (m.n2 : Int), .int .u64 (m.n3 : Int), .int .u64 (m.n4 : Int), .int .u64 (m.n5 : Int), .string m.s0, .string m.s1, .slice m.A len m.c]).alloc (.cells #[.int .u8 0, .int .u64 0, .int .u64 0, .int .u64 0, .int .u64 0, .int .u64 0, .int .u64 0, .string ⟨#[]⟩, .string ⟨#[]⟩, .slice none 0 0] 27)
  have hp1 := Blk.new (w.alloc (.cells #[.int .u8 (m.k : Int), .int .u64 (m.n0 : Int), .int .u64 (m.n1 : Int), .int .u64 (m.n2 : Int), .int .u64 (m.n3 : Int), .int .u64 (m.n4 : Int), .int .u64 (m.n5 : Int), .string m.s0, .string m.s1, .slice m.A len m.c] 27)) 27 #[.int .u8 0, .int .u64 0, .int .u64 0, .int .u64 0, .int .u64 0, .int .u64 0, .int .u64 0, .string ⟨#[]⟩, .string ⟨#[]⟩, .slice none 0 0]
  rw [World.size_alloc] at hp1
  have hwz : ((w.alloc (.cells #[.int .u8 (m.k : Int), .int .u64 (m.n0 : Int), .int .u64 (m.n1 : Int), .int .u64 (m.n2 : Int), .int .u64 (m.n3 : Int), .int .u64 (m.n4 : Int), .int .u64 (m.n5 : Int), .string m.s0, .string m.s1, .slice m.A len m.c] 27)).alloc (.cells #[.int .u8 0, .int .u64 0, .int .u64 0, .int .u64 0, .int .u64 0, .int .u64 0, .int .u64 0, .string ⟨#[]⟩, .string ⟨#[]⟩, .slice none 0 0] 27)).heap.size = s + 2 := by simp [hws]
  rw [hws] at hb0 hp0 hp1
  generalize (w.alloc _).alloc _ = W at *
  refine (HMK.out W).mono ?_
  rintro e w1 ⟨rfl, hb1⟩
  have hw1 : s + 2 ≤ w1.heap.size := by have := hb1.size; omega
  have hp0 := hp0.below hb1 (by omega)
  have hp1 := hp1.below hb1 (by omega)
  have hB1 := hb0.trans (hb1.mono (by omega))
  clear hb0 hb1 hwz HMK
  obtain ⟨q, hq⟩ : ∃ q, w1.heap.size = q := ⟨_, rfl⟩
  have hqq : s + 2 ≤ q := by omega
  have HP0 := hid hp0
  have HP1 := hid hp1
  have HB1 := hid hB1
  clear hp0 hp1 hB1
  go_wp2_with fail
  obtain ⟨W2, hW2⟩ : ∃ W2, w1.alloc (.cells #[.bool b0, .bool b1, .bool b2, .bool b3, .bool b4, .bool b5, .bool b6, .bool b7, .bool b8] 167) = W2 := ⟨_, rfl⟩
  have hq2 : Blk W2 q 167 #[.bool b0, .bool b1, .bool b2, .bool b3, .bool b4, .bool b5, .bool b6, .bool b7, .bool b8] := by rw [← hW2, ← hq]; exact Blk.new w1 _ _
  have hp0 : Blk W2 s 27 (kn 0) := by rw [HST.out, ← hW2]; exact HP0.out.alloc _
  have hp1 : Blk W2 (s + 1) 27 #[.int .u8 0, .int .u64 0, .int .u64 0, .int .u64 0, .int .u64 0, .int .u64 0, .int .u64 0, .string ⟨#[]⟩, .string ⟨#[]⟩, .slice none 0 0] := by rw [← hW2]; exact HP1.out.alloc _
  have hB2 : Below s w W2 := by rw [← hW2]; exact HB1.out.alloc (by omega) _
  rw [hW2]
  have hszq : s + 2 ≤ W2.heap.size := by have := hq2.lt; omega
  have HQ2 := hid hq2
  have HP0 := hid hp0
  have HP1 := hid hp1
  have HB2 := hid hB2
  clear hW2 hq2 hp0 hp1 hB2 hw1 HB1 hq
  go_loopw [16] (fun i wr => ∃ j : Nat, j ≤ 6 ∧ i = .int .i64 (j : Int) ∧ Blk wr s 27 (kn j) ∧ Chg (fun g => g = s) W2 wr) (fun i _ => 6 - (intOf i).toNat)
  case atStart => exact ⟨0, by omega, rfl, HP0.out, Chg.refl _ _⟩
  case round =>
    obtain ⟨j, hj, he, hk, hc⟩ := hrel
    have hj6 : j = 0 ∨ j = 1 ∨ j = 2 ∨ j = 3 ∨ j = 4 ∨ j = 5 ∨ j = 6 := by omega
    rcases hj6 with rfl | rfl | rfl | rfl | rfl | rfl | rfl
    · have he2 : _ = Value.int .i64 0 := he
      subst he2
      obtain ⟨u, hu⟩ := HNC.out 0 1 (by omega)
      have q0 := (hk.cell 1).trans hu
      have q1 := hk.frozen 1
      have hidx := HI0.out
      have HK := hid hk
      have HC := hid hc
      clear hk hc hu he
      cases b0 with
      | true =>
        go_wp2_with fail
        exact ⟨⟨1, by omega, rfl, by rw [HK0.out rfl]; exact HK.out, HC.out⟩, by simp [intOf]⟩
      | false =>
        go_wp2_with fail
        have hf := HK.out.set_ (1 + 0) (.int .u64 0)
        rw [HZ0.out rfl] at hf
        exact ⟨⟨1, by omega, rfl, hf, HC.out.set_ (.inl rfl) _ _⟩, by simp [intOf]⟩
    · have he2 : _ = Value.int .i64 1 := he
      subst he2
      obtain ⟨u, hu⟩ := HNC.out 1 2 (by omega)
      have q0 := (hk.cell 2).trans hu
      have q1 := hk.frozen 2
      have hidx := HI1.out
      have HK := hid hk
      have HC := hid hc
      clear hk hc hu he
      cases b1 with
      | true =>
        go_wp2_with fail
        exact ⟨⟨2, by omega, rfl, by rw [HK1.out rfl]; exact HK.out, HC.out⟩, by simp [intOf]⟩
      | false =>
        go_wp2_with fail
        have hf := HK.out.set_ (1 + 1) (.int .u64 0)
        rw [HZ1.out rfl] at hf
        exact ⟨⟨2, by omega, rfl, hf, HC.out.set_ (.inl rfl) _ _⟩, by simp [intOf]⟩
    · have he2 : _ = Value.int .i64 2 := he
      subst he2
      obtain ⟨u, hu⟩ := HNC.out 2 3 (by omega)
      have q0 := (hk.cell 3).trans hu
      have q1 := hk.frozen 3
      have hidx := HI2.out
      have HK := hid hk
      have HC := hid hc
      clear hk hc hu he
      cases b2 with
      | true =>
        go_wp2_with fail
        exact ⟨⟨3, by omega, rfl, by rw [HK2.out rfl]; exact HK.out, HC.out⟩, by simp [intOf]⟩
      | false =>
        go_wp2_with fail
        have hf := HK.out.set_ (1 + 2) (.int .u64 0)
        rw [HZ2.out rfl] at hf
        exact ⟨⟨3, by omega, rfl, hf, HC.out.set_ (.inl rfl) _ _⟩, by simp [intOf]⟩
    · have he2 : _ = Value.int .i64 3 := he
      subst he2
      obtain ⟨u, hu⟩ := HNC.out 3 4 (by omega)
      have q0 := (hk.cell 4).trans hu
      have q1 := hk.frozen 4
      have hidx := HI3.out
      have HK := hid hk
      have HC := hid hc
      clear hk hc hu he
      cases b3 with
      | true =>
        go_wp2_with fail
        exact ⟨⟨4, by omega, rfl, by rw [HK3.out rfl]; exact HK.out, HC.out⟩, by simp [intOf]⟩
      | false =>
        go_wp2_with fail
        have hf := HK.out.set_ (1 + 3) (.int .u64 0)
        rw [HZ3.out rfl] at hf
        exact ⟨⟨4, by omega, rfl, hf, HC.out.set_ (.inl rfl) _ _⟩, by simp [intOf]⟩
    · have he2 : _ = Value.int .i64 4 := he
      subst he2
      obtain ⟨u, hu⟩ := HNC.out 4 5 (by omega)
      have q0 := (hk.cell 5).trans hu
      have q1 := hk.frozen 5
      have hidx := HI4.out
      have HK := hid hk
      have HC := hid hc
      clear hk hc hu he
      cases b4 with
      | true =>
        go_wp2_with fail
        exact ⟨⟨5, by omega, rfl, by rw [HK4.out rfl]; exact HK.out, HC.out⟩, by simp [intOf]⟩
      | false =>
        go_wp2_with fail
        have hf := HK.out.set_ (1 + 4) (.int .u64 0)
        rw [HZ4.out rfl] at hf
        exact ⟨⟨5, by omega, rfl, hf, HC.out.set_ (.inl rfl) _ _⟩, by simp [intOf]⟩
    · have he2 : _ = Value.int .i64 5 := he
      subst he2
      obtain ⟨u, hu⟩ := HNC.out 5 6 (by omega)
      have q0 := (hk.cell 6).trans hu
      have q1 := hk.frozen 6
      have hidx := HI5.out
      have HK := hid hk
      have HC := hid hc
      clear hk hc hu he
      cases b5 with
      | true =>
        go_wp2_with fail
        exact ⟨⟨6, by omega, rfl, by rw [HK5.out rfl]; exact HK.out, HC.out⟩, by simp [intOf]⟩
      | false =>
        go_wp2_with fail
        have hf := HK.out.set_ (1 + 5) (.int .u64 0)
        rw [HZ5.out rfl] at hf
        exact ⟨⟨6, by omega, rfl, hf, HC.out.set_ (.inl rfl) _ _⟩, by simp [intOf]⟩
    · have he2 : _ = Value.int .i64 6 := he
      subst he2
      clear he
      rw [← HMID.out] at hk
      have hqr := hc.blk HQ2.out (by omega)
      have d6 := hqr.cell 6
      have d7 := hqr.cell 7
      have d8 := hqr.cell 8
      simp only [List.getElem?_toArray, List.getElem?_cons_zero, List.getElem?_cons_succ] at d6 d7 d8
      have HK := hid hk
      have HC := hid hc
      have HQR := hid hqr
      clear hk hc hqr
      generalize wr = W3 at *
      go_wp2_with fail
      clear d6 d7 d8
      go_loopw [28] (fun i wr => ∃ j : Nat, j ≤ 2 ∧ i = .int .i64 (j : Int) ∧ Blk wr s 27 (ks j) ∧ Chg (fun g => g = s) W3 wr) (fun i _ => 2 - (intOf i).toNat)
      case atStart => exact ⟨0, by omega, rfl, HK.out, Chg.refl _ _⟩
      case round =>
        obtain ⟨j, hj, he, hk, hc⟩ := hrel
        have hj6 : j = 0 ∨ j = 1 ∨ j = 2 := by omega
        rcases hj6 with rfl | rfl | rfl
        · have he2 : _ = Value.int .i64 0 := he
          subst he2
          obtain ⟨u, hu⟩ := HSC.out 0 7 (by omega)
          have q0 := (hk.cell 7).trans hu
          have q1 := hk.frozen 7
          have hidx := HI6.out
          have HK := hid hk
          have HC3 := hid hc
          clear hk hc hu he
          cases b6 with
          | true =>
            go_wp2_with fail
            exact ⟨⟨1, by omega, rfl, by rw [HK6.out rfl]; exact HK.out, HC3.out⟩, by simp [intOf]⟩
          | false =>
            go_wp2_with fail
            have hf := HK.out.set_ (7 + 0) (.string ⟨#[]⟩)
            rw [HZ6.out rfl] at hf
            exact ⟨⟨1, by omega, rfl, hf, HC3.out.set_ (.inl rfl) _ _⟩, by simp [intOf]⟩
        · have he2 : _ = Value.int .i64 1 := he
          subst he2
          obtain ⟨u, hu⟩ := HSC.out 1 8 (by omega)
          have q0 := (hk.cell 8).trans hu
          have q1 := hk.frozen 8
          have hidx := HI7.out
          have HK := hid hk
          have HC3 := hid hc
          clear hk hc hu he
          cases b7 with
          | true =>
            go_wp2_with fail
            exact ⟨⟨2, by omega, rfl, by rw [HK7.out rfl]; exact HK.out, HC3.out⟩, by simp [intOf]⟩
          | false =>
            go_wp2_with fail
            have hf := HK.out.set_ (7 + 1) (.string ⟨#[]⟩)
            rw [HZ7.out rfl] at hf
            exact ⟨⟨2, by omega, rfl, hf, HC3.out.set_ (.inl rfl) _ _⟩, by simp [intOf]⟩
        · have he2 : _ = Value.int .i64 2 := he
          subst he2
          clear he
          have hqr := hc.blk HQR.out (by omega)
          have d8 := hqr.cell 8
          simp only [List.getElem?_toArray, List.getElem?_cons_zero, List.getElem?_cons_succ] at d8
          have hp1r := hc.blk (HC.out.blk HP1.out (by omega)) (by omega)
          have hbr := HB2.out.trans ((HC.out.trans hc).below (B := s) (fun g hg => by omega) (by omega))
          have HP1R := hid hp1r
          have HBR := hid hbr
          have hqs := hqr.lt
          cases b8 with
          | true =>
            rw [HET.out rfl] at hk
            have c0 := hk.cell 0
            have c1 := hk.cell 1
            have c2 := hk.cell 2
            have c3 := hk.cell 3
            have c4 := hk.cell 4
            have c5 := hk.cell 5
            have c6 := hk.cell 6
            have c7 := hk.cell 7
            have c8 := hk.cell 8
            have c9 := hk.cell 9
            simp only [List.getElem?_toArray, List.getElem?_cons_zero, List.getElem?_cons_succ] at c0 c1 c2 c3 c4 c5 c6 c7 c8 c9
            have d0 := hp1r.cell 0
            have d1 := hp1r.cell 1
            have d2 := hp1r.cell 2
            have d3 := hp1r.cell 3
            have d4 := hp1r.cell 4
            have d5 := hp1r.cell 5
            have d6 := hp1r.cell 6
            have d7 := hp1r.cell 7
            have d8 := hp1r.cell 8
            have d9 := hp1r.cell 9
            simp only [List.getElem?_toArray, List.getElem?_cons_zero, List.getElem?_cons_succ] at d0 d1 d2 d3 d4 d5 d6 d7 d8 d9
            have g0 := hp1r.frozen 0
            have g1 := hp1r.frozen 1
            have g2 := hp1r.frozen 2
            have g3 := hp1r.frozen 3
            have g4 := hp1r.frozen 4
            have g5 := hp1r.frozen 5
            have g6 := hp1r.frozen 6
            have g7 := hp1r.frozen 7
            have g8 := hp1r.frozen 8
            have g9 := hp1r.frozen 9
            have hend := (mstore HP1R.out (.int .u8 (m.k : Int)) (.int .u64 (a1 : Int)) (.int .u64 (a2 : Int)) (.int .u64 (a3 : Int)) (.int .u64 (a4 : Int)) (.int .u64 (a5 : Int)) (.int .u64 (a6 : Int)) (.string t7) (.string t8) (.slice ad9 ln9 cp9))
            have HE := hid hend
            clear hend hk hc hqr hp1r hbr
            go_wp2_with fail
            have hB := HBR.out.trans (HE.out.2.below (B := s) (fun g hg => by omega) (by have := HP1R.out.lt; omega))
            have hbk := HE.out.1
            have r0 := hbk.cell 0
            have r1 := hbk.cell 1
            have r2 := hbk.cell 2
            have r3 := hbk.cell 3
            have r4 := hbk.cell 4
            have r5 := hbk.cell 5
            have r6 := hbk.cell 6
            have r7 := hbk.cell 7
            have r8 := hbk.cell 8
            have r9 := hbk.cell 9
            simp only [List.getElem?_toArray, List.getElem?_cons_zero, List.getElem?_cons_succ] at r0 r1 r2 r3 r4 r5 r6 r7 r8 r9
            clear HE hbk
            generalize World.setCell (World.setCell _ _ _) _ _ = W9 at *
            clear HNC HSC HI0 HI1 HI2 HI3 HI4 HI5 HI6 HI7 HK0 HK1 HK2 HK3 HK4 HK5 HK6 HK7 HZ0 HZ1 HZ2 HZ3 HZ4 HZ5 HZ6 HZ7
            refine bodyPost_ret (v := .agg #[.int .u8 (m.k : Int), .int .u64 (a1 : Int), .int .u64 (a2 : Int), .int .u64 (a3 : Int), .int .u64 (a4 : Int), .int .u64 (a5 : Int), .int .u64 (a6 : Int), .string t7, .string t8, .slice ad9 ln9 cp9]) (by simp [results, Try.results78, go_sem, r0, r1, r2, r3, r4, r5, r6, r7, r8, r9]) rfl ?_
            exact ⟨rfl, hB⟩
          | false =>
            obtain ⟨u9, hu9⟩ := HSC.out 2 9 (by omega)
            have c9 := (hk.cell 9).trans hu9
            have e9 := hk.frozen 9
            have hk9 := hk.set_ 9 (.slice none 0 0)
            rw [HEF.out rfl] at hk9
            have hp9 := HP1R.out.far (p := ⟨s, 9, none⟩) (by simp) (.slice none 0 0)
            have hc9 : Chg (fun g => g = s) wr (wr.setCell ⟨s, 9, none⟩ (.slice none 0 0)) := (Chg.refl (fun g => g = s) wr).set_ (.inl rfl) 9 _
            have hb9 := HBR.out.trans (hc9.below (B := s) (fun g hg => by omega) (by have := HP1R.out.lt; omega))
            have HK9 := hid hk9
            have HP9 := hid hp9
            have HB9 := hid hb9
            have hlk := hk.lt
            clear hk hc hqr hp1r hbr hc9 hb9 hu9

            have k0 := hk9.cell 0
            have k1 := hk9.cell 1
            have k2 := hk9.cell 2
            have k3 := hk9.cell 3
            have k4 := hk9.cell 4
            have k5 := hk9.cell 5
            have k6 := hk9.cell 6
            have k7 := hk9.cell 7
            have k8 := hk9.cell 8
            have k9 := hk9.cell 9
            simp only [List.getElem?_toArray, List.getElem?_cons_zero, List.getElem?_cons_succ] at k0 k1 k2 k3 k4 k5 k6 k7 k8 k9
            have d0 := hp9.cell 0
            have d1 := hp9.cell 1
            have d2 := hp9.cell 2
            have d3 := hp9.cell 3
            have d4 := hp9.cell 4
            have d5 := hp9.cell 5
            have d6 := hp9.cell 6
            have d7 := hp9.cell 7
            have d8 := hp9.cell 8
            have d9 := hp9.cell 9
            simp only [List.getElem?_toArray, List.getElem?_cons_zero, List.getElem?_cons_succ] at d0 d1 d2 d3 d4 d5 d6 d7 d8 d9
            have g0 := hp9.frozen 0
            have g1 := hp9.frozen 1
            have g2 := hp9.frozen 2
            have g3 := hp9.frozen 3
            have g4 := hp9.frozen 4
            have g5 := hp9.frozen 5
            have g6 := hp9.frozen 6
            have g7 := hp9.frozen 7
            have g8 := hp9.frozen 8
            have g9 := hp9.frozen 9
            have hend := (mstore HP9.out (.int .u8 (m.k : Int)) (.int .u64 (a1 : Int)) (.int .u64 (a2 : Int)) (.int .u64 (a3 : Int)) (.int .u64 (a4 : Int)) (.int .u64 (a5 : Int)) (.int .u64 (a6 : Int)) (.string t7) (.string t8) (.slice ad9 ln9 cp9))
            have hl9 := hp9.lt
            have HE := hid hend
            clear hend hk9 hp9
            go_wp2_with fail
            have hB := HB9.out.trans (HE.out.2.below (B := s) (fun g hg => by omega) (by omega))
            have hbk := HE.out.1
            have r0 := hbk.cell 0
            have r1 := hbk.cell 1
            have r2 := hbk.cell 2
            have r3 := hbk.cell 3
            have r4 := hbk.cell 4
            have r5 := hbk.cell 5
            have r6 := hbk.cell 6
            have r7 := hbk.cell 7
            have r8 := hbk.cell 8
            have r9 := hbk.cell 9
            simp only [List.getElem?_toArray, List.getElem?_cons_zero, List.getElem?_cons_succ] at r0 r1 r2 r3 r4 r5 r6 r7 r8 r9
            clear HE hbk
            generalize World.setCell (World.setCell _ _ _) _ _ = W9 at *
            refine bodyPost_ret (v := .agg #[.int .u8 (m.k : Int), .int .u64 (a1 : Int), .int .u64 (a2 : Int), .int .u64 (a3 : Int), .int .u64 (a4 : Int), .int .u64 (a5 : Int), .int .u64 (a6 : Int), .string t7, .string t8, .slice ad9 ln9 cp9]) (by simp [results, Try.results78, go_sem, r0, r1, r2, r3, r4, r5, r6, r7, r8, r9]) rfl ?_
            exact ⟨rfl, hB⟩
end Go.Proofs.Ytnfodgjihdoncaa
