/- Messages that are alike, and copies. -/
import Derived.Test.YtehjibbjkadoiaaVMsg
import Derived.WalkSpells
import Derived.Laws.StructEq
import Derived.Laws.Tables
import Derived.Laws.Cover2
import Derived.KernelRfl
import Derived.Lib.SliceRun
import Derived.Deep.QuietTactic
import Derived.BigQuiet
set_option linter.unusedVariables false
namespace Go.Proofs.Ytehjibbjkadoiaa
open Go.RowKit
theorem eq_nums (a0 a1 a2 a3 a4 a5 b0 b1 b2 b3 b4 b5 : Nat) (W : World) : (binOp .eql 23 (.agg #[.int .u64 (a0 : Int), .int .u64 (a1 : Int), .int .u64 (a2 : Int), .int .u64 (a3 : Int), .int .u64 (a4 : Int), .int .u64 (a5 : Int)]) (.agg #[.int .u64 (b0 : Int), .int .u64 (b1 : Int), .int .u64 (b2 : Int), .int .u64 (b3 : Int), .int .u64 (b4 : Int), .int .u64 (b5 : Int)])).run Try.prog W = .ok (.bool (decide (a0 = b0 ∧ a1 = b1 ∧ a2 = b2 ∧ a3 = b3 ∧ a4 = b4 ∧ a5 = b5))) W := by
  have u3 := Try.underlying22
  have g3 := Try.isAgg22
  have z3 := Try.sizeOf22
  rw [run_eql_struct, show (10000 : Nat) = 9999 + 1 from rfl, Op.equalIn]
  simp only [Sem.run_bind, run_underlying Try.underlying23, Result.andThen_ok]
  simp only [Std.Legacy.Range.forIn_eq_forIn_range', Std.Legacy.Range.size, Nat.sub_zero, Nat.add_sub_cancel, Nat.div_one, List.range'_succ, List.range'_zero, List.forIn_cons, List.forIn_nil]
  go_simp
  by_cases h1 : a0 = b0
  case neg => (simp [h1]; try (intros; omega))
  by_cases h2 : a1 = b1
  case neg => (simp [h1, h2]; try (intros; omega))
  by_cases h3 : a2 = b2
  case neg => (simp [h1, h2, h3]; try (intros; omega))
  by_cases h4 : a3 = b3
  case neg => (simp [h1, h2, h3, h4]; try (intros; omega))
  by_cases h5 : a4 = b4
  case neg => (simp [h1, h2, h3, h4, h5]; try (intros; omega))
  by_cases h6 : a5 = b5
  case neg => (simp [h1, h2, h3, h4, h5, h6]; try (intros; omega))
  simp [h1, h2, h3, h4, h5, h6]
theorem bstr_iff (a b : ByteArray) : a.toList = b.toList ↔ a = b := by
  constructor
  · intro h
    rw [ByteArray.toList_eq, ByteArray.toList_eq] at h
    obtain ⟨⟨x⟩⟩ := a
    obtain ⟨⟨y⟩⟩ := b
    simp at h
    rw [h]
  · rintro rfl; rfl
theorem bstr_ne' {q b : ByteArray} (h : q ≠ b) : (q.toList == b.toList) = false := by
  have h2 := fun h2 => h ((bstr_iff q b).1 h2)
  simpa using h2
theorem eq_texts (a0 a1 b0 b1 : ByteArray) (W : World) : (binOp .eql 24 (.agg #[.string a0, .string a1]) (.agg #[.string b0, .string b1])).run Try.prog W = .ok (.bool (decide (a0 = b0 ∧ a1 = b1))) W := by
  have u3 := Try.underlying9
  have g3 := Try.isAgg9
  have z3 := Try.sizeOf9
  rw [run_eql_struct, show (10000 : Nat) = 9999 + 1 from rfl, Op.equalIn]
  simp only [Sem.run_bind, run_underlying Try.underlying24, Result.andThen_ok]
  simp only [Std.Legacy.Range.forIn_eq_forIn_range', Std.Legacy.Range.size, Nat.sub_zero, Nat.add_sub_cancel, Nat.div_one, List.range'_succ, List.range'_zero, List.forIn_cons, List.forIn_nil]
  go_simp
  by_cases h1 : a0 = b0
  case neg => have h1' : ¬ a0.toList = b0.toList := fun h => h1 ((bstr_iff a0 b0).1 h); simp [h1, h1']
  by_cases h2 : a1 = b1
  case neg => have h2' : ¬ a1.toList = b1.toList := fun h => h2 ((bstr_iff a1 b1).1 h); simp [h1, h2, h2']
  simp [h1, h2]
theorem Try.infoStr : (Try.prog.info? 9).map (fun i => (i.zero, i.size, i.bytes)) = some (some (.string ⟨#[]⟩), 1, 16) := by kernel_rfl
theorem sv_one (l : List ByteArray) : ∀ u ∈ l.map sv, u.oneCell' = true := by
  intro u hu; obtain ⟨b, _, rfl⟩ := List.mem_map.1 hu; simp [sv, Value.oneCell']
set_option maxRecDepth 100000 in
set_option maxHeartbeats 1000000 in
theorem sclone_any (l : List ByteArray) (n : Nat) (A : Option Addr) (c : Nat) (w : World) (hn : l.length = n) (hl : n ≤ 1000000) (hs : Sl w A c (l.map sv)) :
    Calls Try.prog 34 #[.slice A n c] w fun e w' => ∃ v, e = .returned v ∧ w'.ownsRow w.heap.size 9 1 v n (l.map sv) ∧ Below w.heap.size w w' := by
  obtain ⟨i0, hi, hz0, hz1, hz2⟩ := info_parts Try.infoStr
  cases A with
  | none =>
    have hnil := hs.rd.none_nil
    obtain rfl : l = [] := by simpa using hnil
    obtain rfl := hs.nil0 rfl
    obtain rfl : n = 0 := by simpa using hn.symm
    have hnil : ∀ W, (binOp .eql 25 (.slice none 0 0) (.slice none 0 0)).run Try.prog W = .ok (.bool true) W := fun W => Lib.run_eql_slice_nil W _ _ none 0 0 0 0 Try.underlying25
    go_enter Try.func34, Try.ntmps34
    go_wp2
    go_ret
    exact ⟨_, rfl, World.ownsRow_nil _ _ _ _, Below.refl _ _⟩
  | some a =>
    have hrow0 : (w.alloc (.cells #[] 9)).ownsRow w.heap.size 9 1 (.slice (some ⟨w.heap.size, 0, none⟩) 0 0) 0 [] := World.ownsRow_made w #[] 0 (Nat.le_refl _) (by decide) rfl
    have hsa : Sl (w.alloc (.cells #[] 9)) (some a) c (l.map sv) := hs.below ((Below.refl _ _).alloc (Nat.le_refl _) _)
    have HN := hid hn
    clear hn
    have hnil : ∀ W, (binOp .eql 25 (.slice (some a) n c) (.slice none 0 0)).run Try.prog W = .ok (.bool false) W := fun W => Lib.run_eql_slice_nil W _ _ (some a) n c 0 0 Try.underlying25
    go_enter Try.func34, Try.ntmps34
    go_wp2_with (at_builtin; refine wpList_append_rd rfl (.tmp 5) (.tmp 6) 25 rfl w.heap.size 9 i0 (.string ⟨#[]⟩) 1 16 Try.underlying25 hi hz0 hz1 hz2 rfl (by decide) _ _ _ rfl hrow0 (some a) n c (l.map sv) rfl (by rw [List.length_map, HN.out, Nat.mul_one]) hsa.rd hsa.nil0 (sv_one _) (by simp only [maxLen]; omega) (by omega) (by simp) ?_; intro v1 w3 hown1 hgrow1)
    go_ret
    rw [Nat.zero_add] at hown1
    exact ⟨_, rfl, hown1, bw_g (bw_a (Below.refl _ _) _) hgrow1 (fun k ek => (hrow0.lt k ek).1)⟩
theorem take_next {α : Type} {l l2 : List α} {j : Nat} (h1 : j < l.length) (h2 : j < l2.length) (h : l.take j = l2.take j) (he : l[j] = l2[j]) : l.take (j + 1) = l2.take (j + 1) := by
  rw [List.take_succ_eq_append_getElem h1, List.take_succ_eq_append_getElem h2, h, he]
set_option maxRecDepth 100000 in
set_option maxHeartbeats 2000000 in
theorem sequal_any (l l2 : List ByteArray) (n n2 : Nat) (A A2 : Option Addr) (c c2 : Nat) (w : World) (hn : l.length = n) (hn2 : l2.length = n2) (hs : Sl w A c (l.map sv)) (hs2 : Sl w A2 c2 (l2.map sv)) :
    Calls Try.prog 36 #[.slice A n c, .slice A2 n2 c2] w fun e w' => e = .returned (.bool (decide (l = l2))) ∧ ∃ q, w' = w.drewN q := by
  have hc1 : n ≤ 9223372036854775807 := by have g1 := hs.cap; have g2 := hs.small; rw [List.length_map] at g1; omega
  have hc2 : n2 ≤ 9223372036854775807 := by have g1 := hs2.cap; have g2 := hs2.small; rw [List.length_map] at g1; omega
  obtain ⟨R, hR⟩ : ∃ R, decide (l = l2) = R := ⟨_, rfl⟩
  rw [hR]
  have HR := hid hR
  have HN := hid hn
  have HN2 := hid hn2
  have HS := hid hs
  have HS2 := hid hs2
  clear hR hn hn2 hs hs2
  by_cases hne : n = n2
  · subst hne
    go_enter Try.func36, Try.ntmps36
    go_wp2_with fail
    go_loopw [13] (fun i wr => ∃ (j q : Nat), j ≤ n ∧ i = .int .i64 (j : Int) ∧ l.take j = l2.take j ∧ wr = w.drewN q) (fun i _ => n - (intOf i).toNat)
    case atStart => exact ⟨0, 0, by omega, rfl, rfl, rfl⟩
    case round =>
      obtain ⟨j, q, hj, rfl, heq, rfl⟩ := hrel
      by_cases hlt : j < n
      · have hj1 : j < l.length := by have := HN.out; omega
        have hj2 : j < l2.length := by have := HN2.out; omega
        obtain ⟨b, off, rfl, hbw, t0⟩ := HS.out.rd j (sv l[j]) (by simp [hj1])
        obtain ⟨d, of2, rfl, hdw, t1⟩ := HS2.out.rd j (sv l2[j]) (by simp [hj2])
        have hnx := take_next hj1 hj2 heq
        have hno : ¬ l[j] = l2[j] → l ≠ l2 := fun h e => by subst e; exact h rfl
        have hji : (j : Int) < (n : Int) := by omega
        have hj0 : (0 : Int) ≤ (j : Int) := by omega
        unfold sv at t0 t1
        generalize l[j] = x at *
        generalize l2[j] = y at *
        have HNX := hid hnx
        have HNO := hid hno
        clear hnx hno heq
        by_cases hxy : x = y
        · subst hxy
          have HX := hid (HNX.out rfl)
          clear HNX HNO
          go_wp2_with fail
          go_quiet (fail)
          go_wp2_with fail
          exact ⟨⟨j + 1, q + nq, by omega, by go_num, HX.out, rfl⟩, by simp [intOf] <;> omega⟩
        · have heb := bstr_ne' hxy
          have HX := hid (HNO.out hxy)
          clear HNX HNO hxy
          go_wp2_with fail
          go_quiet (fail)
          go_wp2_with fail
          go_ret
          exact ⟨by rw [← HR.out, decide_eq_false HX.out]; rfl, q + nq, World.drewN_drewN _ _ _⟩
      · obtain rfl : j = n := by omega
        have hll : l = l2 := by
          have h1 := heq
          rwa [List.take_of_length_le (by have := HN.out; omega), List.take_of_length_le (by have := HN2.out; omega)] at h1
        have HX := hid hll
        clear hll heq
        go_wp2_with fail
        go_ret
        exact ⟨by rw [← HR.out, decide_eq_true HX.out]; rfl, _, rfl⟩
  · have hneb : ((n : Int) != (n2 : Int)) = true := by simp; omega
    have hX : l ≠ l2 := fun e => hne (by rw [← HN.out, ← HN2.out, e])
    have HX := hid hX
    clear hX
    go_enter Try.func36, Try.ntmps36
    go_wp2_with fail
    go_ret
    exact ⟨by rw [← HR.out, decide_eq_false HX.out]; rfl, 0, rfl⟩
end Go.Proofs.Ytehjibbjkadoiaa
