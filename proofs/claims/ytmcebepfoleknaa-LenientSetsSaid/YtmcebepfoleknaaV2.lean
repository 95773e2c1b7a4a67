/- schema.Wire, schema.Most, and the document's. · What is wrong with a field: value's upTo, list, wrong. · The document's one, Place, Default. · What is wrong with a field (value.wrong); what stands in a place, has it nothing, what is wrong (the document's Place, Default, one). · What is wrong with a message: value.Check. -/
import Derived.Test.YtmcebepfoleknaaM6
import Derived.Test.YtmcebepfoleknaaM2
import Derived.Test.YtmcebepfoleknaaV1
import Derived.Test.YtmcebepfoleknaaUt
import Derived.Deep.RegionHeld3
set_option linter.unusedVariables false
namespace Go.Proofs.Ytmcebepfoleknaa
open Go.RowKit
def wireN (t : Int) : Nat := if t = 5 then 5 else if t = 6 then 1 else if 7 ≤ t ∧ t ≤ 10 then 2 else 0
def wireK (t : Int) : Bool := decide (1 ≤ t ∧ t ≤ 10)
def mostN (t : Int) : Nat := if t = 7 ∨ t = 10 then 64 else if t = 8 then 4096 else if t = 9 then 7000 else 0
def wireD (t : Int) : Nat := if t ≤ 4 then 0 else if t = 5 then 5 else if t = 6 then 1 else 2
set_option maxRecDepth 100000 in
theorem swire_any (t : Int) (w : World) : Calls Try.prog 115 #[.int .i64 t] w fun e w' => e = .returned (.tuple #[.int .u8 (wireN t : Nat), .bool (wireK t)]) ∧ w' = w := by
  by_cases hr : 1 ≤ t ∧ t ≤ 10
  · have h : t = 1 ∨ t = 2 ∨ t = 3 ∨ t = 4 ∨ t = 5 ∨ t = 6 ∨ t = 7 ∨ t = 8 ∨ t = 9 ∨ t = 10 := by omega
    clear hr
    rcases h with rfl | rfl | rfl | rfl | rfl | rfl | rfl | rfl | rfl | rfl
    · go_enter Try.func115, Try.ntmps115
      go_wp2
      refine bodyPost_ret (v := .tuple #[.int .u8 (wireN 1 : Nat), .bool (wireK 1)]) (by simp [results, Try.results115, go_sem, wireN, wireK]) rfl ⟨rfl, rfl⟩
    · go_enter Try.func115, Try.ntmps115
      go_wp2
      refine bodyPost_ret (v := .tuple #[.int .u8 (wireN 2 : Nat), .bool (wireK 2)]) (by simp [results, Try.results115, go_sem, wireN, wireK]) rfl ⟨rfl, rfl⟩
    · go_enter Try.func115, Try.ntmps115
      go_wp2
      refine bodyPost_ret (v := .tuple #[.int .u8 (wireN 3 : Nat), .bool (wireK 3)]) (by simp [results, Try.results115, go_sem, wireN, wireK]) rfl ⟨rfl, rfl⟩
    · go_enter Try.func115, Try.ntmps115
      go_wp2
      refine bodyPost_ret (v := .tuple #[.int .u8 (wireN 4 : Nat), .bool (wireK 4)]) (by simp [results, Try.results115, go_sem, wireN, wireK]) rfl ⟨rfl, rfl⟩
    · go_enter Try.func115, Try.ntmps115
      go_wp2
      refine bodyPost_ret (v := .tuple #[.int .u8 (wireN 5 : Nat), .bool (wireK 5)]) (by simp [results, Try.results115, go_sem, wireN, wireK]) rfl ⟨rfl, rfl⟩
    · go_enter Try.func115, Try.ntmps115
      go_wp2
      refine bodyPost_ret (v := .tuple #[.int .u8 (wireN 6 : Nat), .bool (wireK 6)]) (by simp [results, Try.results115, go_sem, wireN, wireK]) rfl ⟨rfl, rfl⟩
    · go_enter Try.func115, Try.ntmps115
      go_wp2
      refine bodyPost_ret (v := .tuple #[.int .u8 (wireN 7 : Nat), .bool (wireK 7)]) (by simp [results, Try.results115, go_sem, wireN, wireK]) rfl ⟨rfl, rfl⟩
    · go_enter Try.func115, Try.ntmps115
      go_wp2
      refine bodyPost_ret (v := .tuple #[.int .u8 (wireN 8 : Nat), .bool (wireK 8)]) (by simp [results, Try.results115, go_sem, wireN, wireK]) rfl ⟨rfl, rfl⟩
    · go_enter Try.func115, Try.ntmps115
      go_wp2
      refine bodyPost_ret (v := .tuple #[.int .u8 (wireN 9 : Nat), .bool (wireK 9)]) (by simp [results, Try.results115, go_sem, wireN, wireK]) rfl ⟨rfl, rfl⟩
    · go_enter Try.func115, Try.ntmps115
      go_wp2
      refine bodyPost_ret (v := .tuple #[.int .u8 (wireN 10 : Nat), .bool (wireK 10)]) (by simp [results, Try.results115, go_sem, wireN, wireK]) rfl ⟨rfl, rfl⟩
  · have hB : wireK t = false := decide_eq_false hr
    have hN : wireN t = 0 := by unfold wireN; rw [if_neg (by omega), if_neg (by omega), if_neg (by omega)]
    rw [hB, hN]
    have b1 : (t == 1) = false := by simp; omega
    have b2 : (t == 2) = false := by simp; omega
    have b3 : (t == 3) = false := by simp; omega
    have b4 : (t == 4) = false := by simp; omega
    have b5 : (t == 5) = false := by simp; omega
    have b6 : (t == 6) = false := by simp; omega
    have b7 : (t == 7) = false := by simp; omega
    have b8 : (t == 8) = false := by simp; omega
    have b9 : (t == 9) = false := by simp; omega
    have b10 : (t == 10) = false := by simp; omega
    clear hB hN hr
    go_enter Try.func115, Try.ntmps115
    go_wp2
    refine bodyPost_ret (v := .tuple #[.int .u8 0, .bool false]) (by simp [results, Try.results115, go_sem]) rfl ⟨rfl, rfl⟩
set_option maxRecDepth 100000 in
theorem smost_any (t : Int) (w : World) : Calls Try.prog 71 #[.int .i64 t] w fun e w' => e = .returned (.int .i64 (mostN t : Nat)) ∧ w' = w := by
  by_cases hr : 7 ≤ t ∧ t ≤ 10
  · have h : t = 7 ∨ t = 8 ∨ t = 9 ∨ t = 10 := by omega
    clear hr
    rcases h with rfl | rfl | rfl | rfl <;>
    · go_enter Try.func71, Try.ntmps71
      go_wp2
      go_ret
      exact ⟨rfl, rfl⟩
  · have hN : mostN t = 0 := by unfold mostN; rw [if_neg (by omega), if_neg (by omega), if_neg (by omega)]
    rw [hN]
    have b7 : (t == 7) = false := by simp; omega
    have b8 : (t == 8) = false := by simp; omega
    have b9 : (t == 9) = false := by simp; omega
    have b10 : (t == 10) = false := by simp; omega
    clear hN hr
    go_enter Try.func71, Try.ntmps71
    go_wp2
    go_ret
    exact ⟨rfl, rfl⟩
set_option maxRecDepth 100000 in
theorem rmost_any (t : Int) (w : World) : Calls Try.prog 49 #[.int .i64 t] w fun e w' => e = .returned (.int .i64 (mostN t : Nat)) ∧ w' = w := by
  by_cases hr : 7 ≤ t ∧ t ≤ 10
  · have h : t = 7 ∨ t = 8 ∨ t = 9 ∨ t = 10 := by omega
    clear hr
    rcases h with rfl | rfl | rfl | rfl <;>
    · go_enter Try.func49, Try.ntmps49
      go_wp2
      go_ret
      exact ⟨rfl, rfl⟩
  · have hN : mostN t = 0 := by unfold mostN; rw [if_neg (by omega), if_neg (by omega), if_neg (by omega)]
    rw [hN]
    have b7 : (t == 7) = false := by simp; omega
    have b8 : (t == 8) = false := by simp; omega
    have b9 : (t == 9) = false := by simp; omega
    have b10 : (t == 10) = false := by simp; omega
    clear hN hr
    go_enter Try.func49, Try.ntmps49
    go_wp2
    go_ret
    exact ⟨rfl, rfl⟩
end Go.Proofs.Ytmcebepfoleknaa
set_option linter.unusedVariables false
namespace Go.Proofs.Ytmcebepfoleknaa
open Go.RowKit
/-- What is wrong with a text of so many bytes at most. -/
def chk (s : ByteArray) (most : Int) : Int := checkI s.data.toList.length (scan s.data.toList 0).2 most
theorem uchk_any (s : ByteArray) (most : Int) (w : World) (hl : s.size ≤ 9223372036854775807) (h1 : -9223372036854775808 ≤ most) (h2 : most ≤ 9223372036854775807) :
    Calls Try.prog 70 #[.string s, .int .i64 most] w fun e w' => e = .returned (.int .i64 (chk s most)) ∧ Below w.heap.size w w' := check_any s s.data.toList most w rfl (by simpa using hl) h1 h2
theorem rchk_any (s : ByteArray) (most : Int) (w : World) (hl : s.size ≤ 9223372036854775807) (h1 : -9223372036854775808 ≤ most) (h2 : most ≤ 9223372036854775807) :
    Calls Try.prog 48 #[.string s, .int .i64 most] w fun e w' => e = .returned (.int .i64 (chk s most)) ∧ w = w' := rcheck_any s s.data.toList most w rfl (by simpa using hl) h1 h2
theorem smost10 (w : World) : Calls Try.prog 71 #[.int .i64 10] w fun e w' => e = .returned (.int .i64 64) ∧ w' = w := smost_any 10 w
end Go.Proofs.Ytmcebepfoleknaa
set_option linter.unusedVariables false
namespace Go.Proofs.Ytmcebepfoleknaa
open Go.RowKit
/-- A message and a field in boxes of their own. -/
structure Bx2 (w W : World) (s len : Nat) (m : MV) (num t i : Int) : Prop where
  z : W.heap.size = s + 2
  b0 : Blk W s 29 #[.int .u8 (m.k : Int), .int .u64 (m.n0 : Int), .int .u64 (m.n1 : Int), .int .u64 (m.n2 : Int), .int .u64 (m.n3 : Int), .int .u64 (m.n4 : Int), .int .u64 (m.n5 : Int), .string m.s0, .string m.s1, .slice m.A len m.c]
  b1 : Blk W (s + 1) 42 #[.int .i64 num, .int .i64 t, .int .i64 i]
  bel : Below s w W
theorem bx2 (w : World) (s len : Nat) (m : MV) (num t i : Int) (h : w.heap.size = s) : Bx2 w ((w.alloc (.cells #[.int .u8 (m.k : Int), .int .u64 (m.n0 : Int), .int .u64 (m.n1 : Int), .int .u64 (m.n2 : Int), .int .u64 (m.n3 : Int), .int .u64 (m.n4 : Int), .int .u64 (m.n5 : Int), .string m.s0, .string m.s1, .slice m.A len m.c] 29)).alloc (.cells #[.int .i64 num, .int .i64 t, .int .i64 i] 42)) s len m num t i := by
  refine ⟨by simp [h], ?_, ?_, ?_⟩
  · rw [← h]; exact (Blk.new w _ _).alloc _
  · have h1 := Blk.new (w.alloc (.cells #[.int .u8 (m.k : Int), .int .u64 (m.n0 : Int), .int .u64 (m.n1 : Int), .int .u64 (m.n2 : Int), .int .u64 (m.n3 : Int), .int .u64 (m.n4 : Int), .int .u64 (m.n5 : Int), .string m.s0, .string m.s1, .slice m.A len m.c] 29)) 42 #[.int .i64 num, .int .i64 t, .int .i64 i]
    rw [World.size_alloc, h] at h1; exact h1
  · rw [← h]; exact bw_a (bw_a (Below.refl _ w) _) _
end Go.Proofs.Ytmcebepfoleknaa
set_option linter.unusedVariables false
namespace Go.Proofs.Ytmcebepfoleknaa
open Go.RowKit
theorem fstore {w : World} {p : Nat} {o0 o1 : Value} (h : Blk w p 32 #[o0, o1]) (x0 x1 : Value) : Blk ((w.setCell ⟨p, 0, none⟩ x0).setCell ⟨p, 1, none⟩ x1) p 32 #[x0, x1] ∧ Chg (fun q => q = p) w ((w.setCell ⟨p, 0, none⟩ x0).setCell ⟨p, 1, none⟩ x1) := by
  refine ⟨by simpa using (h.set_ 0 x0).set_ 1 x1, ((Chg.refl (fun q => q = p) w).set_ (.inl rfl) 0 x0).set_ (.inl rfl) 1 x1⟩
end Go.Proofs.Ytmcebepfoleknaa
