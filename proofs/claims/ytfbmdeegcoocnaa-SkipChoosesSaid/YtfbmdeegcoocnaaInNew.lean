/- inlet.New, and what a reader that is nil answers. -/
import Derived.Test.YtfbmdeegcoocnaaProg
import Derived.Test.YtfbmdeegcoocnaaBase
import Derived.Test.YtfbmdeegcoocnaaInfo8
import Derived.Test.YtfbmdeegcoocnaaInBytes
import Derived.Lib.SliceRun
set_option linter.unusedVariables false
namespace Go.Proofs.Ytfbmdeegcoocnaa
open Go.RowKit
set_option maxRecDepth 100000 in
set_option maxHeartbeats 1000000 in
theorem clone_any (bs : List UInt8) (n : Nat) (A : Option Addr) (c : Nat) (w : World) (hn : bs.length = n) (hl : n ≤ 1000000) (hs : Sl w A c (bs.map bv)) :
    Calls Try.prog 70 #[.slice A n c] w fun e w' => ∃ v, e = .returned v ∧ w'.ownsRow w.heap.size 5 1 v n (bs.map bv) ∧ Below w.heap.size w w' := by
  obtain ⟨i0, hi, hz0, hz1, hz2⟩ := info_parts Try.info5
  cases A with
  | none =>
    have hnil := hs.rd.none_nil
    obtain rfl : bs = [] := by simpa using hnil
    obtain rfl := hs.nil0 rfl
    obtain rfl : n = 0 := by simpa using hn.symm
    have hnil : ∀ W, (binOp .eql 22 (.slice none 0 0) (.slice none 0 0)).run Try.prog W = .ok (.bool true) W := fun W => Lib.run_eql_slice_nil W _ _ none 0 0 0 0 Try.underlying22
    go_enter Try.func70, Try.ntmps70
    go_wp2
    go_ret
    exact ⟨_, rfl, World.ownsRow_nil _ _ _ _, Below.refl _ _⟩
  | some a =>
    have hrow0 : (w.alloc (.cells #[] 5)).ownsRow w.heap.size 5 1 (.slice (some ⟨w.heap.size, 0, none⟩) 0 0) 0 [] := World.ownsRow_made w #[] 0 (Nat.le_refl _) (by decide) rfl
    have hsa : Sl (w.alloc (.cells #[] 5)) (some a) c (bs.map bv) := hs.below ((Below.refl _ _).alloc (Nat.le_refl _) _)
    have HN := hid hn
    clear hn
    have hnil : ∀ W, (binOp .eql 22 (.slice (some a) n c) (.slice none 0 0)).run Try.prog W = .ok (.bool false) W := fun W => Lib.run_eql_slice_nil W _ _ (some a) n c 0 0 Try.underlying22
    go_enter Try.func70, Try.ntmps70
    go_wp2_with (at_builtin; refine wpList_append_rd rfl (.tmp 5) (.tmp 6) 22 rfl w.heap.size 5 i0 (.int .u8 0) 1 1 Try.underlying22 hi hz0 hz1 hz2 rfl (by decide) _ _ _ rfl hrow0 (some a) n c (bs.map bv) rfl (by rw [List.length_map, HN.out, Nat.mul_one]) hsa.rd hsa.nil0 (bv_one _) (by simp only [maxLen]; omega) (by omega) (by simp) ?_; intro v1 w3 hown1 hgrow1)
    go_ret
    rw [Nat.zero_add] at hown1
    exact ⟨_, rfl, hown1, bw_g (bw_a (Below.refl _ _) _) hgrow1 (fun k ek => (hrow0.lt k ek).1)⟩
set_option maxRecDepth 100000 in
set_option maxHeartbeats 1000000 in
theorem new_any (bs : List UInt8) (n : Nat) (A : Option Addr) (c : Nat) (w : World) (hn : bs.length = n) (hl : n ≤ 1000000) (hs : Sl w A c (bs.map bv)) :
    Calls Try.prog 45 #[.slice A n c] w fun e w' => ∃ q A' c', e = .returned (.pointer (some ⟨q, 0, none⟩)) ∧ Rin 113 w' q A' c' bs 0 ∧ w.heap.size ≤ q ∧ (∀ g, g < w.heap.size ∨ q ≤ g → Far A' bs.length g) ∧ Below w.heap.size w w' := by
  have hc := clone_any bs n A c w hn hl hs
  have HC := hid hc
  have HN := hid hn
  clear hc hn
  go_enter Try.func45, Try.ntmps45
  go_wp2_with fail
  refine HC.out.mono ?_
  rintro e w1 ⟨v, rfl, hown, hb⟩
  obtain ⟨A', c', rfl, -, hs'⟩ := Sl.of_own hown
  have hfar : ∀ g, g < w.heap.size ∨ w1.heap.size ≤ g → Far A' bs.length g := by
    intro g hg hpos b off he
    have hbk := hown.lt b (by subst he; rfl)
    omega
  have HS := hid hs'
  have HF := hid hfar
  have HB := hid hb
  clear hown hs' hfar hb
  go_wp2_with fail
  go_ret
  refine ⟨w1.heap.size, A', c', rfl, ⟨?_, HS.out.below ((Below.refl _ _).alloc (Nat.le_refl _) _), Nat.zero_le _, HF.out _ (.inr (Nat.le_refl _))⟩, HB.out.size, HF.out, bw_a HB.out _⟩
  rw [HN.out]
  exact Blk.new w1 _ _
set_option maxRecDepth 100000 in
theorem nil_told (fn : Fn) (f1 f2 : Array Value) (w : World) : Calls Try.prog 100 #[.pointer none, .func fn f1 f2] w fun e w' => e = .returned (.tuple #[.int .u64 0, .agg #[.int .i64 4, .int .i64 0]]) ∧ Below w.heap.size w w' := by
  go_enter Try.func100, Try.ntmps100
  go_wp2
  refine bodyPost_ret (v := .tuple #[.int .u64 0, .agg #[.int .i64 4, .int .i64 0]]) (by simp [results, Try.results100, go_sem]) rfl ⟨rfl, (Below.refl _ w).alloc (Nat.le_refl _) _⟩
set_option maxRecDepth 100000 in
theorem nil_tolds (fn : Fn) (f1 f2 : Array Value) (w : World) : Calls Try.prog 103 #[.pointer none, .func fn f1 f2] w fun e w' => e = .returned (.tuple #[.slice none 0 0, .agg #[.int .i64 4, .int .i64 0]]) ∧ Below w.heap.size w w' := by
  go_enter Try.func103, Try.ntmps103
  go_wp2
  refine bodyPost_ret (v := .tuple #[.slice none 0 0, .agg #[.int .i64 4, .int .i64 0]]) (by simp [results, Try.results103, go_sem]) rfl ⟨rfl, (Below.refl _ w).alloc (Nat.le_refl _) _⟩
set_option maxRecDepth 100000 in
set_option maxHeartbeats 1000000 in
theorem nil_varint (w : World) : Calls Try.prog 77 #[.pointer none] w fun e w' => e = .returned (.tuple #[.int .u64 0, .agg #[.int .i64 4, .int .i64 0]]) ∧ Below w.heap.size w w' := by
  have hmf := func_run (P := Try.prog)
  have hq : Blk (w.alloc (.cells #[.int .i64 0, .int .i64 0] 27)) w.heap.size 27 #[.int .i64 0, .int .i64 0] := Blk.new w _ _
  go_enter Try.func77, Try.ntmps77
  go_wp2_with fail
  refine (nil_told _ _ _ _).mono ?_
  rintro e w1 ⟨rfl, hb⟩
  have hq1 := hq.below hb (by simp)
  have hb1 := bw_t (bw_a (Below.refl _ w) _) hb
  have c0 : w1.cell? ⟨w.heap.size, 0, none⟩ = some (.int .i64 0) := hq1.cell 0
  have c1 : w1.cell? ⟨w.heap.size, 1, none⟩ = some (.int .i64 0) := hq1.cell 1
  have f0 := hq1.frozen 0
  have f1 := hq1.frozen 1
  have HB := hid hb1
  clear hq hq1 hb hb1
  go_wp2_with fail
  exact bodyPost_ret (v := .tuple #[.int .u64 0, .agg #[.int .i64 4, .int .i64 0]]) (by simp [results, Try.results77, go_sem, c0, c1]) rfl ⟨rfl, (HB.out.setCell (p := ⟨w.heap.size, 0, none⟩) (Nat.le_refl _) _).setCell (p := ⟨w.heap.size, 1, none⟩) (Nat.le_refl _) _⟩
end Go.Proofs.Ytfbmdeegcoocnaa
