/- schema.Wire, schema.Most, and the document's. · What is wrong with a field: value's upTo, list, wrong. · The document's one, Place, Default. · What is wrong with a field (value.wrong); what stands in a place, has it nothing, what is wrong (the document's Place, Default, one). · What is wrong with a message: value.Check. -/
import Derived.Test.YtnfodgjihdoncaaM6
import Derived.Test.YtnfodgjihdoncaaM2
import Derived.Test.YtnfodgjihdoncaaV1
import Derived.Test.YtnfodgjihdoncaaUt
import Derived.Deep.RegionHeld3
set_option linter.unusedVariables false
namespace Go.Proofs.Ytnfodgjihdoncaa
open Go.RowKit
def wireN (t : Int) : Nat := if t = 5 then 5 else if t = 6 then 1 else if 7 ≤ t ∧ t ≤ 10 then 2 else 0
def wireK (t : Int) : Bool := decide (1 ≤ t ∧ t ≤ 10)
def mostN (t : Int) : Nat := if t = 7 ∨ t = 10 then 64 else if t = 8 then 4096 else if t = 9 then 7000 else 0
def wireD (t : Int) : Nat := if t ≤ 4 then 0 else if t = 5 then 5 else if t = 6 then 1 else 2
set_option maxRecDepth 100000 in
theorem swire_any (t : Int) (w : World) : Calls Try.prog 120 #[.int .i64 t] w fun e w' => e = .returned (.tuple #[.int .u8 (wireN t : Nat), .bool (wireK t)]) ∧ w' = w := by
  by_cases hr : 1 ≤ t ∧ t ≤ 10
  · have h : t = 1 ∨ t = 2 ∨ t = 3 ∨ t = 4 ∨ t = 5 ∨ t = 6 ∨ t = 7 ∨ t = 8 ∨ t = 9 ∨ t = 10 := by omega
    clear hr
    rcases h with rfl | rfl | rfl | rfl | rfl | rfl | rfl | rfl | rfl | rfl
    · go_enter Try.func120, Try.ntmps120
      go_wp2
      refine bodyPost_ret (v := .tuple #[.int .u8 (wireN 1 : Nat), .bool (wireK 1)]) (by simp [results, Try.results120, go_sem, wireN, wireK]) rfl ⟨rfl, rfl⟩
    · go_enter Try.func120, Try.ntmps120
      go_wp2
      refine bodyPost_ret (v := .tuple #[.int .u8 (wireN 2 : Nat), .bool (wireK 2)]) (by simp [results, Try.results120, go_sem, wireN, wireK]) rfl ⟨rfl, rfl⟩
    · go_enter Try.func120, Try.ntmps120
      go_wp2
      refine bodyPost_ret (v := .tuple #[.int .u8 (wireN 3 : Nat), .bool (wireK 3)]) (by simp [results, Try.results120, go_sem, wireN, wireK]) rfl ⟨rfl, rfl⟩
    · go_enter Try.func120, Try.ntmps120
      go_wp2
      refine bodyPost_ret (v := .tuple #[.int .u8 (wireN 4 : Nat), .bool (wireK 4)]) (by simp [results, Try.results120, go_sem, wireN, wireK]) rfl ⟨rfl, rfl⟩
    · go_enter Try.func120, Try.ntmps120
      go_wp2
      refine bodyPost_ret (v := .tuple #[.int .u8 (wireN 5 : Nat), .bool (wireK 5)]) (by simp [results, Try.results120, go_sem, wireN, wireK]) rfl ⟨rfl, rfl⟩
    · go_enter Try.func120, Try.ntmps120
      go_wp2
      refine bodyPost_ret (v := .tuple #[.int .u8 (wireN 6 : Nat), .bool (wireK 6)]) (by simp [results, Try.results120, go_sem, wireN, wireK]) rfl ⟨rfl, rfl⟩
    · go_enter Try.func120, Try.ntmps120
      go_wp2
      refine bodyPost_ret (v := .tuple #[.int .u8 (wireN 7 : Nat), .bool (wireK 7)]) (by simp [results, Try.results120, go_sem, wireN, wireK]) rfl ⟨rfl, rfl⟩
    · go_enter Try.func120, Try.ntmps120
      go_wp2
      refine bodyPost_ret (v := .tuple #[.int .u8 (wireN 8 : Nat), .bool (wireK 8)]) (by simp [results, Try.results120, go_sem, wireN, wireK]) rfl ⟨rfl, rfl⟩
    · go_enter Try.func120, Try.ntmps120
      go_wp2
      refine bodyPost_ret (v := .tuple #[.int .u8 (wireN 9 : Nat), .bool (wireK 9)]) (by simp [results, Try.results120, go_sem, wireN, wireK]) rfl ⟨rfl, rfl⟩
    · go_enter Try.func120, Try.ntmps120
      go_wp2
      refine bodyPost_ret (v := .tuple #[.int .u8 (wireN 10 : Nat), .bool (wireK 10)]) (by simp [results, Try.results120, go_sem, wireN, wireK]) rfl ⟨rfl, rfl⟩
  · have hB : wireK t = false := decide_eq_false hr
    have hN : wireN t = 0 := by unfold wireN; rw [if_neg (by omega), if_neg (by omega), if_neg (by omega)]
    rw [hB, hN]
    have b1 : (t == 1) = false := by simp; omega
    have b2 : (t == 2) = false := by simp; omega
    have b3 : (t == 3) = false := by simp; omega
    have b4 : (t == 4) = false := by simp; omega
    have b5 : (t == 5) = false := by simp; omega
    have b6 : (t == 6) = false := by simp; omega
    have b7 : (t == 7) = false := by simp; omega
    have b8 : (t == 8) = false := by simp; omega
    have b9 : (t == 9) = false := by simp; omega
    have b10 : (t == 10) = false := by simp; omega
    clear hB hN hr
    go_enter Try.func120, Try.ntmps120
    go_wp2
    refine bodyPost_ret (v := .tuple #[.int .u8 0, .bool false]) (by simp [results, Try.results120, go_sem]) rfl ⟨rfl, rfl⟩
set_option maxRecDepth 100000 in
theorem smost_any (t : Int) (w : World) : Calls Try.prog 96 #[.int .i64 t] w fun e w' => e = .returned (.int .i64 (mostN t : Nat)) ∧ w' = w := by
  by_cases hr : 7 ≤ t ∧ t ≤ 10
  · have h : t = 7 ∨ t = 8 ∨ t = 9 ∨ t = 10 := by omega
    clear hr
    rcases h with rfl | rfl | rfl | rfl <;>
    · go_enter Try.func96, Try.ntmps96
      go_wp2
      go_ret
      exact ⟨rfl, rfl⟩
  · have hN : mostN t = 0 := by unfold mostN; rw [if_neg (by omega), if_neg (by omega), if_neg (by omega)]
    rw [hN]
    have b7 : (t == 7) = false := by simp; omega
    have b8 : (t == 8) = false := by simp; omega
    have b9 : (t == 9) = false := by simp; omega
    have b10 : (t == 10) = false := by simp; omega
    clear hN hr
    go_enter Try.func96, Try.ntmps96
    go_wp2
    go_ret
    exact ⟨rfl, rfl⟩
end Go.Proofs.Ytnfodgjihdoncaa
set_option linter.unusedVariables false
namespace Go.Proofs.Ytnfodgjihdoncaa
open Go.RowKit
/-- What is wrong with a text of so many bytes at most. -/
def chk (s : ByteArray) (most : Int) : Int := checkI s.data.toList.length (scan s.data.toList 0).2 most
def txtE (most : Int) : List ByteArray → Int
  | [] => 0
  | s :: r => if chk s most = 0 then txtE most r else chk s most
def lstE (l : List ByteArray) : Int := if 64 < l.length then 2 else txtE 64 l
def wrongE (m : MV) (t i : Int) : Int :=
  if t = 1 ∨ t = 5 then (if 4294967295 < m.num i then 1 else 0) else if t = 4 then (if 1 < m.num i then 1 else 0) else if 7 ≤ t ∧ t ≤ 9 then chk (m.text i) (mostN t : Nat) else if t = 10 then lstE m.l else 0
theorem txtE_at {l : List ByteArray} {most : Int} {j : Nat} (h : j < l.length) : txtE most (l.drop j) = if chk l[j] most = 0 then txtE most (l.drop (j + 1)) else chk l[j] most := by
  rw [List.drop_eq_getElem_cons h, txtE]
theorem txtE_end {l : List ByteArray} {most : Int} {j : Nat} (h : l.length ≤ j) : txtE most (l.drop j) = 0 := by
  rw [List.drop_eq_nil_of_le h, txtE]
set_option maxRecDepth 100000 in
set_option maxHeartbeats 1000000 in
theorem vupto_any (a b : Nat) (w : World) : Calls Try.prog 101 #[.int .u64 (a : Int), .int .u64 (b : Int)] w fun e w' => e = .returned (.int .i64 (if a < b then 1 else 0)) ∧ w' = w := by
  by_cases h : a < b
  · rw [if_pos h]
    go_enter Try.func101, Try.ntmps101
    go_wp2
    go_ret
    exact ⟨rfl, rfl⟩
  · rw [if_neg h]
    go_enter Try.func101, Try.ntmps101
    go_wp2
    go_ret
    exact ⟨rfl, rfl⟩
theorem uchk_any (s : ByteArray) (most : Int) (w : World) (hl : s.size ≤ 9223372036854775807) (h1 : -9223372036854775808 ≤ most) (h2 : most ≤ 9223372036854775807) :
    Calls Try.prog 95 #[.string s, .int .i64 most] w fun e w' => e = .returned (.int .i64 (chk s most)) ∧ Below w.heap.size w w' := check_any s s.data.toList most w rfl (by simpa using hl) h1 h2
theorem smost10 (w : World) : Calls Try.prog 96 #[.int .i64 10] w fun e w' => e = .returned (.int .i64 64) ∧ w' = w := smost_any 10 w
set_option maxRecDepth 100000 in
set_option maxHeartbeats 2000000 in
theorem vlist_any (l : List ByteArray) (n : Nat) (A : Option Addr) (c : Nat) (w : World) (hn : l.length = n) (hs : Sl w A c (l.map sv)) (he : ∀ x ∈ l, x.size ≤ 9223372036854775807) :
    Calls Try.prog 102 #[.slice A n c] w fun e w' => e = .returned (.int .i64 (lstE l)) ∧ Below w.heap.size w w' := by
  have hc1 : n ≤ 9223372036854775807 := by have g1 := hs.cap; have g2 := hs.small; rw [List.length_map] at g1; omega
  obtain ⟨R, hR⟩ : ∃ R, lstE l = R := ⟨_, rfl⟩
  rw [hR]
  have hR2 := hR
  unfold lstE at hR2
  rw [hn] at hR2
  clear hR
  by_cases hb : 64 < n
  · rw [if_pos hb] at hR2
    subst hR2
    clear hs he hn
    go_enter Try.func102, Try.ntmps102
    go_wp2
    go_ret
    exact ⟨rfl, Below.refl _ _⟩
  rw [if_neg hb] at hR2
  have HR := hid hR2
  have HN := hid hn
  have HS := hid hs
  have HE := hid he
  have HM := hid (fun W => smost10 W)
  clear hR2 hn hs he
  go_enter Try.func102, Try.ntmps102
  go_wp2_with fail
  go_loopw [11] (fun i wr => ∃ j : Nat, j ≤ n ∧ i = .int .i64 (j : Int) ∧ txtE 64 l = txtE 64 (l.drop j) ∧ Below w.heap.size w wr) (fun i _ => n - (intOf i).toNat)
  case atStart => exact ⟨0, by omega, rfl, rfl, Below.refl _ _⟩
  case round =>
    obtain ⟨j, hj, rfl, hte, hB⟩ := hrel
    by_cases hlt : j < n
    · have hj1 : j < l.length := by have := HN.out; omega
      have hat := txtE_at (most := 64) hj1
      rw [← hte, HR.out] at hat
      obtain ⟨b, off, rfl, hbw, t0⟩ := HS.out.rd j (sv l[j]) (by simp [hj1])
      have t0 := (hB.cell (p := ⟨b, off + j, none⟩) hbw).trans t0
      have hck := fun W => uchk_any l[j] 64 W (HE.out _ (List.getElem_mem hj1)) (by omega) (by omega)
      have hji : (j : Int) < (n : Int) := by omega
      have hj0 : (0 : Int) ≤ (j : Int) := by omega
      unfold sv at t0
      generalize l[j] = x at *
      generalize chk x 64 = q at *
      have HCK := hid hck
      have HAT := hid hat
      have HBB := hid hB
      clear hck hat hB hte
      go_wp2_with fail
      refine (HM.out _).mono ?_
      rintro e w2 ⟨rfl, rfl⟩
      go_wp2_with fail
      refine (HCK.out _).mono ?_
      rintro e w3 ⟨rfl, hb3⟩
      have HB3 := hid (HBB.out.trans (hb3.mono HBB.out.size))
      clear hb3
      by_cases hq : q = 0
      · subst hq
        have hnx := HAT.out
        rw [if_pos rfl] at hnx
        have HNX := hid hnx
        clear hnx
        go_wp2_with fail
        exact ⟨⟨j + 1, by omega, by go_num, by rw [HR.out]; exact HNX.out, HB3.out⟩, by simp [intOf] <;> omega⟩
      · have hqb : (q != 0) = true := by simpa using hq
        have hnx := HAT.out
        rw [if_neg hq] at hnx
        have HNX := hid hnx
        clear hnx hq
        go_wp2_with fail
        go_ret
        exact ⟨by rw [HNX.out]; rfl, HB3.out⟩
    · obtain rfl : j = n := by omega
      rw [txtE_end (by have := HN.out; omega), HR.out] at hte
      have HT := hid hte
      clear hte
      go_wp2_with fail
      go_ret
      exact ⟨by rw [HT.out]; rfl, hB⟩
end Go.Proofs.Ytnfodgjihdoncaa
set_option linter.unusedVariables false
namespace Go.Proofs.Ytnfodgjihdoncaa
open Go.RowKit
theorem held2 {w w' : World} (hc : Below w.heap.size w w') {p0 p1 : Addr} {x0 x1 : Value} (h : w.cell? p0 = some x0 ∧ w.cell? p1 = some x1) : w'.cell? p0 = some x0 ∧ w'.cell? p1 = some x1 := by
  obtain ⟨h0, h1⟩ := h
  have f : ∀ (p : Addr) (x : Value), w.cell? p = some x → w'.cell? p = some x := fun p x h => (hc.cell (World.block_lt_of_cell? w p h)).trans h
  exact ⟨f _ _ h0, f _ _ h1⟩
theorem held12 {w w' : World} (hc : Below w.heap.size w w') {p0 p1 p2 p3 p4 p5 p6 p7 p8 p9 p10 p11 : Addr} {x0 x1 x2 x3 x4 x5 x6 x7 x8 x9 x10 x11 : Value} (h : w.cell? p0 = some x0 ∧ w.cell? p1 = some x1 ∧ w.cell? p2 = some x2 ∧ w.cell? p3 = some x3 ∧ w.cell? p4 = some x4 ∧ w.cell? p5 = some x5 ∧ w.cell? p6 = some x6 ∧ w.cell? p7 = some x7 ∧ w.cell? p8 = some x8 ∧ w.cell? p9 = some x9 ∧ w.cell? p10 = some x10 ∧ w.cell? p11 = some x11) : w'.cell? p0 = some x0 ∧ w'.cell? p1 = some x1 ∧ w'.cell? p2 = some x2 ∧ w'.cell? p3 = some x3 ∧ w'.cell? p4 = some x4 ∧ w'.cell? p5 = some x5 ∧ w'.cell? p6 = some x6 ∧ w'.cell? p7 = some x7 ∧ w'.cell? p8 = some x8 ∧ w'.cell? p9 = some x9 ∧ w'.cell? p10 = some x10 ∧ w'.cell? p11 = some x11 := by
  obtain ⟨h0, h1, h2, h3, h4, h5, h6, h7, h8, h9, h10, h11⟩ := h
  have f : ∀ (p : Addr) (x : Value), w.cell? p = some x → w'.cell? p = some x := fun p x h => (hc.cell (World.block_lt_of_cell? w p h)).trans h
  exact ⟨f _ _ h0, f _ _ h1, f _ _ h2, f _ _ h3, f _ _ h4, f _ _ h5, f _ _ h6, f _ _ h7, f _ _ h8, f _ _ h9, f _ _ h10, f _ _ h11⟩
/-- A message and a field in boxes of their own. -/
structure Bx2 (w W : World) (s len : Nat) (m : MV) (num t i : Int) : Prop where
  z : W.heap.size = s + 2
  b0 : Blk W s 27 #[.int .u8 (m.k : Int), .int .u64 (m.n0 : Int), .int .u64 (m.n1 : Int), .int .u64 (m.n2 : Int), .int .u64 (m.n3 : Int), .int .u64 (m.n4 : Int), .int .u64 (m.n5 : Int), .string m.s0, .string m.s1, .slice m.A len m.c]
  b1 : Blk W (s + 1) 93 #[.int .i64 num, .int .i64 t, .int .i64 i]
  bel : Below s w W
theorem bx2 (w : World) (s len : Nat) (m : MV) (num t i : Int) (h : w.heap.size = s) : Bx2 w ((w.alloc (.cells #[.int .u8 (m.k : Int), .int .u64 (m.n0 : Int), .int .u64 (m.n1 : Int), .int .u64 (m.n2 : Int), .int .u64 (m.n3 : Int), .int .u64 (m.n4 : Int), .int .u64 (m.n5 : Int), .string m.s0, .string m.s1, .slice m.A len m.c] 27)).alloc (.cells #[.int .i64 num, .int .i64 t, .int .i64 i] 93)) s len m num t i := by
  refine ⟨by simp [h], ?_, ?_, ?_⟩
  · rw [← h]; exact (Blk.new w _ _).alloc _
  · have h1 := Blk.new (w.alloc (.cells #[.int .u8 (m.k : Int), .int .u64 (m.n0 : Int), .int .u64 (m.n1 : Int), .int .u64 (m.n2 : Int), .int .u64 (m.n3 : Int), .int .u64 (m.n4 : Int), .int .u64 (m.n5 : Int), .string m.s0, .string m.s1, .slice m.A len m.c] 27)) 93 #[.int .i64 num, .int .i64 t, .int .i64 i]
    rw [World.size_alloc, h] at h1; exact h1
  · rw [← h]; exact bw_a (bw_a (Below.refl _ w) _) _
theorem wr_num (m : MV) (t i : Int) (h : t = 1 ∨ t = 5) : wrongE m t i = if 4294967295 < m.num i then 1 else 0 := by unfold wrongE; rw [if_pos h]
theorem wr_bool (m : MV) (i : Int) : wrongE m 4 i = if 1 < m.num i then 1 else 0 := by unfold wrongE; rw [if_neg (by omega), if_pos rfl]
theorem wr_text (m : MV) (t i : Int) (h : 7 ≤ t ∧ t ≤ 9) : wrongE m t i = chk (m.text i) (mostN t : Nat) := by unfold wrongE; rw [if_neg (by omega), if_neg (by omega), if_pos h]
theorem wr_list (m : MV) (i : Int) : wrongE m 10 i = lstE m.l := by unfold wrongE; rw [if_neg (by omega), if_neg (by omega), if_neg (by omega), if_pos rfl]
theorem wr_out (m : MV) (t i : Int) (h : t = 2 ∨ t = 3 ∨ t = 6 ∨ t < 1 ∨ 10 < t) : wrongE m t i = 0 := by unfold wrongE; rw [if_neg (by omega), if_neg (by omega), if_neg (by omega), if_neg (by omega)]
theorem mostN_le (t : Int) : mostN t ≤ 7000 := by
  unfold mostN
  split
  · omega
  · split
    · omega
    · split <;> omega
set_option maxRecDepth 100000 in
set_option maxHeartbeats 2000000 in
theorem vwrong_any (m : MV) (num t i : Int) (w : World) (hok : MvOk w m) : Calls Try.prog 76 #[mvV m, .agg #[.int .i64 num, .int .i64 t, .int .i64 i]] w fun e w' => e = .returned (.int .i64 (wrongE m t i)) ∧ Below w.heap.size w w' := by
  have hn := fun W => vnum_any m i W
  have ht := fun W => vtext_any m i W
  have hck := fun W => uchk_any (m.text i) (mostN t : Nat) W (hok.s i) (by omega) (by have := mostN_le t; omega)
  have hli := fun W (hW : Below w.heap.size w W) => vlist_any m.l m.l.length m.A m.c W rfl (hok.l.below hW) hok.e
  have hmo := fun W => smost_any t W
  have hup := fun (a b : Nat) W => vupto_any a b W
  have h1 := wr_num m t i
  have h4 := wr_bool m i
  have h7 := wr_text m t i
  have h10 := wr_list m i
  have h0 := wr_out m t i
  have hmq := mostN_le t
  clear hok
  unfold mvV mvA at *
  generalize m.l.length = len at *
  generalize m.num i = x at *
  generalize m.text i = y at *
  generalize lstE m.l = le at *
  generalize chk y (mostN t : Nat) = ce at *
  obtain ⟨s, hws⟩ : ∃ s, w.heap.size = s := ⟨_, rfl⟩
  have hbx := bx2 w s len m num t i hws
  rw [hws] at hli ⊢
  have HN := hid hn
  have HT := hid ht
  have HCK := hid hck
  have HLI := hid hli
  have HMO := hid hmo
  have HUP := hid hup
  have HBX := hid hbx
  clear hn ht hck hli hmo hup hbx
  have hcase : (t = 1 ∨ t = 5) ∨ t = 4 ∨ (t = 7 ∨ t = 8 ∨ t = 9) ∨ t = 10 ∨ (t = 2 ∨ t = 3 ∨ t = 6 ∨ t < 1 ∨ 10 < t) := by omega
  rcases hcase with h | rfl | h | rfl | h
  · rw [h1 h]
    clear h1 h4 h7 h10 h0
    rcases h with rfl | rfl
    · have hup := fun W => HUP.out 4294967295 x W
      generalize (if 4294967295 < x then (1 : Int) else 0) = r at *
      have HU := hid hup
      clear hup
      go_enter Try.func76, Try.ntmps76
      go_wp2_with fail
      refine (HN.out _).mono ?_
      rintro e w1 ⟨rfl, hb1⟩
      have HB1 := hid (HBX.out.bel.trans (hb1.mono (by have := HBX.out.z; omega)))
      clear hb1
      go_wp2_with fail
      refine (HU.out _).mono ?_
      rintro e w2 ⟨rfl, rfl⟩
      go_wp2_with fail
      go_ret
      exact ⟨rfl, HB1.out⟩
    · have hup := fun W => HUP.out 4294967295 x W
      generalize (if 4294967295 < x then (1 : Int) else 0) = r at *
      have HU := hid hup
      clear hup
      go_enter Try.func76, Try.ntmps76
      go_wp2_with fail
      refine (HN.out _).mono ?_
      rintro e w1 ⟨rfl, hb1⟩
      have HB1 := hid (HBX.out.bel.trans (hb1.mono (by have := HBX.out.z; omega)))
      clear hb1
      go_wp2_with fail
      refine (HU.out _).mono ?_
      rintro e w2 ⟨rfl, rfl⟩
      go_wp2_with fail
      go_ret
      exact ⟨rfl, HB1.out⟩
  · rw [h4]
    clear h1 h4 h7 h10 h0
    have hup := fun W => HUP.out 1 x W
    generalize (if 1 < x then (1 : Int) else 0) = r at *
    have HU := hid hup
    clear hup
    go_enter Try.func76, Try.ntmps76
    go_wp2_with fail
    refine (HN.out _).mono ?_
    rintro e w1 ⟨rfl, hb1⟩
    have HB1 := hid (HBX.out.bel.trans (hb1.mono (by have := HBX.out.z; omega)))
    clear hb1
    go_wp2_with fail
    refine (HU.out _).mono ?_
    rintro e w2 ⟨rfl, rfl⟩
    go_wp2_with fail
    go_ret
    exact ⟨rfl, HB1.out⟩
  · rw [h7 (by omega)]
    clear h1 h4 h7 h10 h0
    generalize mostN t = mo at *
    rcases h with rfl | rfl | rfl
    · go_enter Try.func76, Try.ntmps76
      go_wp2_with fail
      obtain ⟨W, hW⟩ : ∃ W, (w.alloc (.cells #[.int .u8 (m.k : Int), .int .u64 (m.n0 : Int), .int .u64 (m.n1 : Int), .int .u64 (m.n2 : Int), .int .u64 (m.n3 : Int), .int .u64 (m.n4 : Int), .int .u64 (m.n5 : Int), .string m.s0, .string m.s1, .slice m.A len m.c] 27)).alloc (.cells #[.int .i64 num, .int .i64 7, .int .i64 i] 93) = W := ⟨_, rfl⟩
      have hbx : Bx2 w W s len m num 7 i := by rw [← hW]; exact HBX.out
      rw [hW]
      have HBW := hid hbx
      have c0 := hbx.b0.cell 0
      have c1 := hbx.b0.cell 1
      have c2 := hbx.b0.cell 2
      have c3 := hbx.b0.cell 3
      have c4 := hbx.b0.cell 4
      have c5 := hbx.b0.cell 5
      have c6 := hbx.b0.cell 6
      have c7 := hbx.b0.cell 7
      have c8 := hbx.b0.cell 8
      have c9 := hbx.b0.cell 9
      have d1 := hbx.b1.cell 1
      have d2 := hbx.b1.cell 2
      simp only [List.getElem?_toArray, List.getElem?_cons_zero, List.getElem?_cons_succ] at c0 c1 c2 c3 c4 c5 c6 c7 c8 c9 d1 d2
      have HD := hid (And.intro c0 (And.intro c1 (And.intro c2 (And.intro c3 (And.intro c4 (And.intro c5 (And.intro c6 (And.intro c7 (And.intro c8 (And.intro c9 (And.intro d1 d2)))))))))))
      have hz := hbx.z
      clear hW HBX hbx d1 d2
      go_region_held3 (fun w' => w'.cell? ⟨s, 0, none⟩ = some (.int .u8 (m.k : Int)) ∧ w'.cell? ⟨s, 1, none⟩ = some (.int .u64 (m.n0 : Int)) ∧ w'.cell? ⟨s, 2, none⟩ = some (.int .u64 (m.n1 : Int)) ∧ w'.cell? ⟨s, 3, none⟩ = some (.int .u64 (m.n2 : Int)) ∧ w'.cell? ⟨s, 4, none⟩ = some (.int .u64 (m.n3 : Int)) ∧ w'.cell? ⟨s, 5, none⟩ = some (.int .u64 (m.n4 : Int)) ∧ w'.cell? ⟨s, 6, none⟩ = some (.int .u64 (m.n5 : Int)) ∧ w'.cell? ⟨s, 7, none⟩ = some (.string m.s0) ∧ w'.cell? ⟨s, 8, none⟩ = some (.string m.s1) ∧ w'.cell? ⟨s, 9, none⟩ = some (.slice m.A len m.c) ∧ w'.cell? ⟨s + 1, 1, none⟩ = some (.int .i64 7) ∧ w'.cell? ⟨s + 1, 2, none⟩ = some (.int .i64 i)) (first | exact HD3.out | exact HD2.out | exact HD.out | go_keep) (first | (go_at_call 100; refine (HT.out _).mono ?_; rintro e w2 ⟨rfl, hb2⟩; have HD2 := hid (held12 (w := W.drewN 1) hb2 HD.out)) | (go_at_call 96; refine (HMO.out _).mono ?_; rintro e w3 ⟨rfl, rfl⟩) | (go_at_call 95; refine (HCK.out _).mono ?_; rintro e w4 ⟨rfl, hb4⟩; have HD3 := hid (held12 hb4 HD2.out)))
      have HB4 := hid (HBW.out.bel.trans ((bw_t (bw_t (bw_d (Below.refl _ W) 1) hb2) hb4).mono (by omega)))
      clear hb2 hb4
      go_wp2_with fail
      go_ret
      exact ⟨rfl, HB4.out⟩
    · go_enter Try.func76, Try.ntmps76
      go_wp2_with fail
      obtain ⟨W, hW⟩ : ∃ W, (w.alloc (.cells #[.int .u8 (m.k : Int), .int .u64 (m.n0 : Int), .int .u64 (m.n1 : Int), .int .u64 (m.n2 : Int), .int .u64 (m.n3 : Int), .int .u64 (m.n4 : Int), .int .u64 (m.n5 : Int), .string m.s0, .string m.s1, .slice m.A len m.c] 27)).alloc (.cells #[.int .i64 num, .int .i64 8, .int .i64 i] 93) = W := ⟨_, rfl⟩
      have hbx : Bx2 w W s len m num 8 i := by rw [← hW]; exact HBX.out
      rw [hW]
      have HBW := hid hbx
      have c0 := hbx.b0.cell 0
      have c1 := hbx.b0.cell 1
      have c2 := hbx.b0.cell 2
      have c3 := hbx.b0.cell 3
      have c4 := hbx.b0.cell 4
      have c5 := hbx.b0.cell 5
      have c6 := hbx.b0.cell 6
      have c7 := hbx.b0.cell 7
      have c8 := hbx.b0.cell 8
      have c9 := hbx.b0.cell 9
      have d1 := hbx.b1.cell 1
      have d2 := hbx.b1.cell 2
      simp only [List.getElem?_toArray, List.getElem?_cons_zero, List.getElem?_cons_succ] at c0 c1 c2 c3 c4 c5 c6 c7 c8 c9 d1 d2
      have HD := hid (And.intro c0 (And.intro c1 (And.intro c2 (And.intro c3 (And.intro c4 (And.intro c5 (And.intro c6 (And.intro c7 (And.intro c8 (And.intro c9 (And.intro d1 d2)))))))))))
      have hz := hbx.z
      clear hW HBX hbx d1 d2
      go_region_held3 (fun w' => w'.cell? ⟨s, 0, none⟩ = some (.int .u8 (m.k : Int)) ∧ w'.cell? ⟨s, 1, none⟩ = some (.int .u64 (m.n0 : Int)) ∧ w'.cell? ⟨s, 2, none⟩ = some (.int .u64 (m.n1 : Int)) ∧ w'.cell? ⟨s, 3, none⟩ = some (.int .u64 (m.n2 : Int)) ∧ w'.cell? ⟨s, 4, none⟩ = some (.int .u64 (m.n3 : Int)) ∧ w'.cell? ⟨s, 5, none⟩ = some (.int .u64 (m.n4 : Int)) ∧ w'.cell? ⟨s, 6, none⟩ = some (.int .u64 (m.n5 : Int)) ∧ w'.cell? ⟨s, 7, none⟩ = some (.string m.s0) ∧ w'.cell? ⟨s, 8, none⟩ = some (.string m.s1) ∧ w'.cell? ⟨s, 9, none⟩ = some (.slice m.A len m.c) ∧ w'.cell? ⟨s + 1, 1, none⟩ = some (.int .i64 8) ∧ w'.cell? ⟨s + 1, 2, none⟩ = some (.int .i64 i)) (first | exact HD3.out | exact HD2.out | exact HD.out | go_keep) (first | (go_at_call 100; refine (HT.out _).mono ?_; rintro e w2 ⟨rfl, hb2⟩; have HD2 := hid (held12 (w := W.drewN 1) hb2 HD.out)) | (go_at_call 96; refine (HMO.out _).mono ?_; rintro e w3 ⟨rfl, rfl⟩) | (go_at_call 95; refine (HCK.out _).mono ?_; rintro e w4 ⟨rfl, hb4⟩; have HD3 := hid (held12 hb4 HD2.out)))
      have HB4 := hid (HBW.out.bel.trans ((bw_t (bw_t (bw_d (Below.refl _ W) 1) hb2) hb4).mono (by omega)))
      clear hb2 hb4
      go_wp2_with fail
      go_ret
      exact ⟨rfl, HB4.out⟩
    · go_enter Try.func76, Try.ntmps76
      go_wp2_with fail
      obtain ⟨W, hW⟩ : ∃ W, (w.alloc (.cells #[.int .u8 (m.k : Int), .int .u64 (m.n0 : Int), .int .u64 (m.n1 : Int), .int .u64 (m.n2 : Int), .int .u64 (m.n3 : Int), .int .u64 (m.n4 : Int), .int .u64 (m.n5 : Int), .string m.s0, .string m.s1, .slice m.A len m.c] 27)).alloc (.cells #[.int .i64 num, .int .i64 9, .int .i64 i] 93) = W := ⟨_, rfl⟩
      have hbx : Bx2 w W s len m num 9 i := by rw [← hW]; exact HBX.out
      rw [hW]
      have HBW := hid hbx
      have c0 := hbx.b0.cell 0
      have c1 := hbx.b0.cell 1
      have c2 := hbx.b0.cell 2
      have c3 := hbx.b0.cell 3
      have c4 := hbx.b0.cell 4
      have c5 := hbx.b0.cell 5
      have c6 := hbx.b0.cell 6
      have c7 := hbx.b0.cell 7
      have c8 := hbx.b0.cell 8
      have c9 := hbx.b0.cell 9
      have d1 := hbx.b1.cell 1
      have d2 := hbx.b1.cell 2
      simp only [List.getElem?_toArray, List.getElem?_cons_zero, List.getElem?_cons_succ] at c0 c1 c2 c3 c4 c5 c6 c7 c8 c9 d1 d2
      have HD := hid (And.intro c0 (And.intro c1 (And.intro c2 (And.intro c3 (And.intro c4 (And.intro c5 (And.intro c6 (And.intro c7 (And.intro c8 (And.intro c9 (And.intro d1 d2)))))))))))
      have hz := hbx.z
      clear hW HBX hbx d1 d2
      go_region_held3 (fun w' => w'.cell? ⟨s, 0, none⟩ = some (.int .u8 (m.k : Int)) ∧ w'.cell? ⟨s, 1, none⟩ = some (.int .u64 (m.n0 : Int)) ∧ w'.cell? ⟨s, 2, none⟩ = some (.int .u64 (m.n1 : Int)) ∧ w'.cell? ⟨s, 3, none⟩ = some (.int .u64 (m.n2 : Int)) ∧ w'.cell? ⟨s, 4, none⟩ = some (.int .u64 (m.n3 : Int)) ∧ w'.cell? ⟨s, 5, none⟩ = some (.int .u64 (m.n4 : Int)) ∧ w'.cell? ⟨s, 6, none⟩ = some (.int .u64 (m.n5 : Int)) ∧ w'.cell? ⟨s, 7, none⟩ = some (.string m.s0) ∧ w'.cell? ⟨s, 8, none⟩ = some (.string m.s1) ∧ w'.cell? ⟨s, 9, none⟩ = some (.slice m.A len m.c) ∧ w'.cell? ⟨s + 1, 1, none⟩ = some (.int .i64 9) ∧ w'.cell? ⟨s + 1, 2, none⟩ = some (.int .i64 i)) (first | exact HD3.out | exact HD2.out | exact HD.out | go_keep) (first | (go_at_call 100; refine (HT.out _).mono ?_; rintro e w2 ⟨rfl, hb2⟩; have HD2 := hid (held12 (w := W.drewN 1) hb2 HD.out)) | (go_at_call 96; refine (HMO.out _).mono ?_; rintro e w3 ⟨rfl, rfl⟩) | (go_at_call 95; refine (HCK.out _).mono ?_; rintro e w4 ⟨rfl, hb4⟩; have HD3 := hid (held12 hb4 HD2.out)))
      have HB4 := hid (HBW.out.bel.trans ((bw_t (bw_t (bw_d (Below.refl _ W) 1) hb2) hb4).mono (by omega)))
      clear hb2 hb4
      go_wp2_with fail
      go_ret
      exact ⟨rfl, HB4.out⟩
  · rw [h10]
    clear h1 h4 h7 h10 h0
    go_enter Try.func76, Try.ntmps76
    go_wp2_with fail
    refine (HLI.out _ HBX.out.bel).mono ?_
    rintro e w1 ⟨rfl, hb1⟩
    have HB1 := hid (HBX.out.bel.trans (hb1.mono (by have := HBX.out.z; omega)))
    clear hb1
    go_wp2_with fail
    go_ret
    exact ⟨rfl, HB1.out⟩
  · rw [h0 h]
    clear h1 h4 h7 h10 h0
    have n1 : (t == 1) = false := by simp; omega
    have n4 : (t == 4) = false := by simp; omega
    have n5 : (t == 5) = false := by simp; omega
    have n7 : (t == 7) = false := by simp; omega
    have n8 : (t == 8) = false := by simp; omega
    have n9 : (t == 9) = false := by simp; omega
    have n10 : (t == 10) = false := by simp; omega
    go_enter Try.func76, Try.ntmps76
    go_wp2_with fail
    go_ret
    exact ⟨rfl, HBX.out.bel⟩
end Go.Proofs.Ytnfodgjihdoncaa
set_option linter.unusedVariables false
namespace Go.Proofs.Ytnfodgjihdoncaa
open Go.RowKit
theorem heldm {w w' : World} (hc : Below w.heap.size w w') {p0 p1 p2 p3 p4 p5 p6 p7 p8 p9 : Addr} {x0 x1 x2 x3 x4 x5 x6 x7 x8 x9 : Value} (h : w.cell? p0 = some x0 ∧ w.cell? p1 = some x1 ∧ w.cell? p2 = some x2 ∧ w.cell? p3 = some x3 ∧ w.cell? p4 = some x4 ∧ w.cell? p5 = some x5 ∧ w.cell? p6 = some x6 ∧ w.cell? p7 = some x7 ∧ w.cell? p8 = some x8 ∧ w.cell? p9 = some x9) : w'.cell? p0 = some x0 ∧ w'.cell? p1 = some x1 ∧ w'.cell? p2 = some x2 ∧ w'.cell? p3 = some x3 ∧ w'.cell? p4 = some x4 ∧ w'.cell? p5 = some x5 ∧ w'.cell? p6 = some x6 ∧ w'.cell? p7 = some x7 ∧ w'.cell? p8 = some x8 ∧ w'.cell? p9 = some x9 := by
  obtain ⟨h0, h1, h2, h3, h4, h5, h6, h7, h8, h9⟩ := h
  have f : ∀ (p : Addr) (x : Value), w.cell? p = some x → w'.cell? p = some x := fun p x h => (hc.cell (World.block_lt_of_cell? w p h)).trans h
  exact ⟨f _ _ h0, f _ _ h1, f _ _ h2, f _ _ h3, f _ _ h4, f _ _ h5, f _ _ h6, f _ _ h7, f _ _ h8, f _ _ h9⟩
/-- The first field with which something is wrong. -/
def fldE (m : MV) (r : SRow) : Int := if dflB m (r.typ : Nat) (r.slot : Nat) then 0 else wrongE m (r.typ : Nat) (r.slot : Nat)
def chkL (m : MV) : List SRow → Int × Int
  | [] => (0, 0)
  | r :: rs => if fldE m r = 0 then chkL m rs else (fldE m r, (r.num : Nat))
theorem chkL_at {m : MV} {L : List SRow} {j : Nat} (h : j < L.length) : chkL m (L.drop j) = if fldE m L[j] = 0 then chkL m (L.drop (j + 1)) else (fldE m L[j], (L[j].num : Nat)) := by
  rw [List.drop_eq_getElem_cons h, chkL]
theorem chkL_end {m : MV} {L : List SRow} {j : Nat} (h : L.length ≤ j) : chkL m (L.drop j) = (0, 0) := by
  rw [List.drop_eq_nil_of_le h, chkL]
/-- What is wrong with a message, and of which field. -/
def chkV (m : MV) (L : List SRow) : Int × Int := if L.length = 0 then (7, 0) else if (chkL m L).1 ≠ 0 then chkL m L else if sameB m (keptM L m) then (0, 0) else (20, 0)
theorem kept_sl {w : World} {m : MV} (L : List SRow) (h : Sl w m.A m.c (m.l.map sv)) : Sl w (keptM L m).A (keptM L m).c ((keptM L m).l.map sv) := by
  unfold keptM
  cases mkL L with
  | true => exact h
  | false => exact Sl.nil_ w
def FltOf (w : World) (r : Int × Int) (e : Ending) (w' : World) : Prop := e = .returned (.agg #[.int .i64 r.1, .int .i64 r.2]) ∧ Below w.heap.size w w'
theorem fstore {w : World} {p : Nat} {o0 o1 : Value} (h : Blk w p 33 #[o0, o1]) (x0 x1 : Value) : Blk ((w.setCell ⟨p, 0, none⟩ x0).setCell ⟨p, 1, none⟩ x1) p 33 #[x0, x1] ∧ Chg (fun q => q = p) w ((w.setCell ⟨p, 0, none⟩ x0).setCell ⟨p, 1, none⟩ x1) := by
  refine ⟨by simpa using (h.set_ 0 x0).set_ 1 x1, ((Chg.refl (fun q => q = p) w).set_ (.inl rfl) 0 x0).set_ (.inl rfl) 1 x1⟩
set_option maxRecDepth 100000 in
set_option maxHeartbeats 4000000 in
theorem vcheck_any (m : MV) (v : Int) (w : World) (hok : MvOk w m) (hv1 : -9223372036854775808 ≤ v) (hv2 : v ≤ 9223372036854775807) : Calls Try.prog 51 #[mvV m, .int .i64 v] w (FltOf w (chkV m (ofL (m.k : Int) v))) := by
  have hsof := fun W => ((callsIn_wide (n := 4)).1 (sof2_in 4 (by omega) (m.k : Int) v W hv1 hv2))
  have hkp := fun W => vkept_any m v W hv1 hv2
  have hq40 := ofL_le40 (m.k : Int) v
  generalize ofL (m.k : Int) v = L at *
  have hsm := fun W (hW : Below w.heap.size w W) => vsame_any m (keptM L m) W (hok.l.below hW) (kept_sl L (hok.l.below hW))
  have hdf := fun (num t i : Int) W => vdef_any m num t i W
  have hwr := fun (num t i : Int) W (hW : Below w.heap.size w W) => vwrong_any m num t i W (hok.below hW)
  have hV : chkV m L = if L.length = 0 then (7, 0) else if (chkL m L).1 ≠ 0 then chkL m L else if sameB m (keptM L m) then (0, 0) else (20, 0) := rfl
  generalize chkV m L = R at *
  generalize mvV (keptM L m) = kv at *
  generalize sameB m (keptM L m) = sb at *
  unfold mvV mvA at *
  generalize m.l.length = len at *
  obtain ⟨nL, hnL⟩ : ∃ n, L.length = n := ⟨_, rfl⟩
  rw [hnL] at hV hq40 hsof
  have HNL := hid hnL
  have HSOF := hid hsof
  have HKP := hid hkp
  have HSM := hid hsm
  have HDF := hid hdf
  have HWR := hid hwr
  have HV := hid hV
  clear hok hnL hsof hkp hsm hdf hwr hV
  obtain ⟨T, hT⟩ : ∃ T, FltOf w R = T := ⟨_, rfl⟩
  rw [hT]
  have HTT := hid hT
  clear hT
  obtain ⟨s, hws⟩ : ∃ s, w.heap.size = s := ⟨_, rfl⟩
  go_enter Try.func51, Try.ntmps51
  go_wp2_with fail
  go_step3
  go_wp2_with fail
  have hz : ((w.alloc (.cells #[.int .u8 (m.k : Int), .int .u64 (m.n0 : Int), .int .u64 (m.n1 : Int), .int .u64 (m.n2 : Int), .int .u64 (m.n3 : Int), .int .u64 (m.n4 : Int), .int .u64 (m.n5 : Int), .string m.s0, .string m.s1, .slice m.A len m.c] 27)).alloc (.cells #[.int .i64 0, .int .i64 0] 33)).heap.size = s + 2 := by simp [hws]
  have hb0 := bw_a (bw_a (Below.refl w.heap.size w) (.cells #[.int .u8 (m.k : Int), .int .u64 (m.n0 : Int), .int .u64 (m.n1 : Int), .int .u64 (m.n2 : Int), .int .u64 (m.n3 : Int), .int .u64 (m.n4 : Int), .int .u64 (m.n5 : Int), .string m.s0, .string m.s1, .slice m.A len m.c] 27)) (.cells #[.int .i64 0, .int .i64 0] 33)
  have hk0 := (Blk.new w 27 #[.int .u8 (m.k : Int), .int .u64 (m.n0 : Int), .int .u64 (m.n1 : Int), .int .u64 (m.n2 : Int), .int .u64 (m.n3 : Int), .int .u64 (m.n4 : Int), .int .u64 (m.n5 : Int), .string m.s0, .string m.s1, .slice m.A len m.c]).alloc (.cells #[.int .i64 0, .int .i64 0] 33)
  have hk1 := Blk.new (w.alloc (.cells #[.int .u8 (m.k : Int), .int .u64 (m.n0 : Int), .int .u64 (m.n1 : Int), .int .u64 (m.n2 : Int), .int .u64 (m.n3 : Int), .int .u64 (m.n4 : Int), .int .u64 (m.n5 : Int), .string m.s0, .string m.s1, .slice m.A len m.c] 27)) 33 #[.int .i64 0, .int .i64 0]
  rw [World.size_alloc] at hk1
  rw [hws] at hb0 hk0 hk1
  generalize (w.alloc _).alloc _ = W at *
  refine (HSOF.out W).mono ?_
  rintro e w1 ⟨vv, rfl, ho, hb1⟩
  obtain ⟨A, c, rfl, hs1⟩ := SlN.of_own (by omega) ho
  have hk0 := hk0.below hb1 (by omega)
  have hk1 := hk1.below hb1 (by omega)
  have hB1 := hb0.trans (hb1.mono (by omega))
  have hw1 : s + 2 ≤ w1.heap.size := by have := hb1.size; omega
  clear hb0 hb1 ho hz HSOF
  have HS1 := hid hs1
  have HK0 := hid hk0
  have HK1 := hid hk1
  have HB1 := hid hB1
  -- the end: a fault is stored
  have hend : ∀ (W9 : World) (x y : Int), Below w1.heap.size w1 W9 → R = (x, y) → ∃ W', W' = (W9.setCell ⟨s + 1, 0, none⟩ (.int .i64 x)).setCell ⟨s + 1, 1, none⟩ (.int .i64 y) ∧ Blk W' (s + 1) 33 #[.int .i64 x, .int .i64 y] ∧ FltOf w R (.returned (.agg #[.int .i64 x, .int .i64 y])) W' := by
    intro W9 x y hB hR
    have h1 := fstore (hk1.below hB hk1.lt) (.int .i64 x) (.int .i64 y)
    refine ⟨_, rfl, h1.1, by rw [hR], ?_⟩
    rw [hws]
    exact (hB1.trans (hB.mono (by omega))).trans (h1.2.below (B := s) (fun q hq => by omega) (by have := hB.size; omega))
  have hcl : ∀ (W9 : World), Below w1.heap.size w1 W9 → (W9.cell? ⟨s + 1, 0, none⟩ = some (.int .i64 0) ∧ W9.cell? ⟨s + 1, 1, none⟩ = some (.int .i64 0) ∧ W9.frozen? ⟨s + 1, 0, none⟩ = false ∧ W9.frozen? ⟨s + 1, 1, none⟩ = false) := by
    intro W9 hB
    have h1 := hk1.below hB hk1.lt
    exact ⟨h1.cell 0, h1.cell 1, h1.frozen 0, h1.frozen 1⟩
  have hcm : ∀ (W9 : World), Below w1.heap.size w1 W9 → Blk W9 s 27 #[.int .u8 (m.k : Int), .int .u64 (m.n0 : Int), .int .u64 (m.n1 : Int), .int .u64 (m.n2 : Int), .int .u64 (m.n3 : Int), .int .u64 (m.n4 : Int), .int .u64 (m.n5 : Int), .string m.s0, .string m.s1, .slice m.A len m.c] := fun W9 hB => hk0.below hB hk0.lt
  have HEND := hid hend
  have HCL := hid hcl
  have HCM := hid hcm
  clear hend hcl hcm hs1 hk0 hk1 hB1 HK1 HK0
  by_cases hn0 : nL = 0
  · have hR := HV.out
    rw [if_pos hn0] at hR
    subst hn0
    have HR := hid hR
    clear hR
    obtain ⟨c0, c1, f0, f1⟩ := HCL.out w1 (Below.refl _ _)
    go_wp2_with fail
    obtain ⟨W', hW', hbk, hfl⟩ := HEND.out w1 7 0 (Below.refl _ _) HR.out
    rw [← hW']
    have r0 := hbk.cell 0
    have r1 := hbk.cell 1
    simp only [List.getElem?_toArray, List.getElem?_cons_zero, List.getElem?_cons_succ] at r0 r1
    clear hW'
    refine bodyPost_ret (v := .agg #[.int .i64 7, .int .i64 0]) (by simp [results, Try.results51, go_sem, r0, r1]) rfl ?_
    rw [← HTT.out]
    exact hfl
  have hn1 : 0 < nL := by omega
  have hR := HV.out
  rw [if_neg hn0] at hR
  have HR := hid hR
  clear hR HV
  go_wp2_with fail
  go_step3
  go_wp2_with fail
  go_loopw [22] (fun i wr => ∃ j : Nat, j ≤ nL ∧ i = .int .i64 (j : Int) ∧ chkL m L = chkL m (L.drop j) ∧ Below w1.heap.size w1 wr) (fun i _ => nL - (intOf i).toNat)
  case atStart => exact ⟨0, by omega, rfl, rfl, Below.refl _ _⟩
  case round =>
    obtain ⟨j, hj, rfl, hch, hB⟩ := hrel
    have hk := HCM.out wr hB
    have c0 := hk.cell 0
    have c1 := hk.cell 1
    have c2 := hk.cell 2
    have c3 := hk.cell 3
    have c4 := hk.cell 4
    have c5 := hk.cell 5
    have c6 := hk.cell 6
    have c7 := hk.cell 7
    have c8 := hk.cell 8
    have c9 := hk.cell 9
    simp only [List.getElem?_toArray, List.getElem?_cons_zero, List.getElem?_cons_succ] at c0 c1 c2 c3 c4 c5 c6 c7 c8 c9
    have hls := hk.lt
    by_cases hlt : j < nL
    · have hjl : j < L.length := by have := HNL.out; omega
      have hn0' : (L.flatMap specC)[j * 3 + 0]? = _ := flatMap_get specC 3 L j 0 hjl (fun _ _ => rfl) (by omega)
      have hn1' : (L.flatMap specC)[j * 3 + 1]? = _ := flatMap_get specC 3 L j 1 hjl (fun _ _ => rfl) (by omega)
      have hn2' : (L.flatMap specC)[j * 3 + 2]? = _ := flatMap_get specC 3 L j 2 hjl (fun _ _ => rfl) (by omega)
      obtain ⟨b, off, hA, hbw, t0⟩ := HS1.out.rd _ _ hn0'
      subst hA
      have t1 := HS1.out.rd.addr _ _ hn1'
      have t2 := HS1.out.rd.addr _ _ hn2'
      rw [addr_add] at t1 t2
      simp only [Nat.add_zero, ← Nat.add_assoc] at t0 t1 t2
      have t0 := (hB.cell (p := ⟨b, off + j * 3, none⟩) hbw).trans t0
      have t1 := (hB.cell (p := ⟨b, off + j * 3 + 1, none⟩) hbw).trans t1
      have t2 := (hB.cell (p := ⟨b, off + j * 3 + 2, none⟩) hbw).trans t2
      have hji : (j : Int) < (nL : Int) := by omega
      have hj0 : (0 : Int) ≤ (j : Int) := by omega
      have hat := chkL_at (m := m) hjl
      rw [← hch] at hat
      have hfl : fldE m L[j] = if dflB m (L[j].typ : Nat) (L[j].slot : Nat) then 0 else wrongE m (L[j].typ : Nat) (L[j].slot : Nat) := rfl
      have hdf := fun W => HDF.out (L[j].num : Nat) (L[j].typ : Nat) (L[j].slot : Nat) W
      have hwr := fun W hW => HWR.out (L[j].num : Nat) (L[j].typ : Nat) (L[j].slot : Nat) W hW
      clear hn0' hn1' hn2'
      generalize fldE m L[j] = fe at *
      generalize dflB m (L[j].typ : Nat) (L[j].slot : Nat) = db at *
      generalize wrongE m (L[j].typ : Nat) (L[j].slot : Nat) = we at *
      generalize L[j] = r at *
      obtain ⟨rk, si, nu, ty, sl⟩ := r
      simp only at t0 t1 t2 hat hdf hwr
      have hbx : Below w1.heap.size w1 (wr.alloc (.cells #[.int .i64 (nu : Int), .int .i64 (ty : Int), .int .i64 (sl : Int)] 93)) := bw_a hB _
      have hbk := Blk.new wr 93 #[.int .i64 (nu : Int), .int .i64 (ty : Int), .int .i64 (sl : Int)]
      have HAT := hid hat
      have HFL := hid hfl
      have HD := hid hdf
      have HW := hid hwr
      have HBX := hid hbx
      have HBK := hid hbk
      have HCH := hid hch
      clear hat hfl hdf hwr hB hch hk hbx hbk
      go_wp2_with fail
      refine (HD.out _).mono ?_
      rintro e w2 ⟨rfl, hb2⟩
      have hB2 := HBX.out.trans (hb2.mono HBX.out.size)
      have HB2 := hid hB2
      have hk2 := HBK.out.below hb2 HBK.out.lt
      have HBK2 := hid hk2
      clear hb2
      cases db with
      | true =>
        have h1 : fe = 0 := by rw [HFL.out]; rfl
        have h2 := HAT.out
        rw [if_pos h1] at h2
        have HX := hid h2
        clear h1 h2 hk2 hB2
        go_wp2_with fail
        exact ⟨⟨j + 1, by omega, by go_num, HX.out, HB2.out⟩, by simp [intOf] <;> omega⟩
      | false =>
        have h1 : fe = we := by rw [HFL.out]; rfl
        have hk := HCM.out w2 hB2
        have c0 := hk.cell 0
        have c1 := hk.cell 1
        have c2 := hk.cell 2
        have c3 := hk.cell 3
        have c4 := hk.cell 4
        have c5 := hk.cell 5
        have c6 := hk.cell 6
        have c7 := hk.cell 7
        have c8 := hk.cell 8
        have c9 := hk.cell 9
        simp only [List.getElem?_toArray, List.getElem?_cons_zero, List.getElem?_cons_succ] at c0 c1 c2 c3 c4 c5 c6 c7 c8 c9
        have d0 := hk2.cell 0
        have d1 := hk2.cell 1
        have d2 := hk2.cell 2
        simp only [List.getElem?_toArray, List.getElem?_cons_zero, List.getElem?_cons_succ] at d0 d1 d2
        have h2 := HAT.out
        rw [h1] at h2
        have HX := hid h2
        clear h1 h2 hk2 hB2 hk
        go_wp2_with fail
        refine (HW.out _ (by rw [hws]; exact HB1.out.trans (HB2.out.mono (by omega)))).mono ?_
        rintro e w3 ⟨rfl, hb3⟩
        have hB3 := HB2.out.trans (hb3.mono HB2.out.size)
        have HB3 := hid hB3
        have hk3 := HBK2.out.below hb3 HBK2.out.lt
        have e0 := hk3.cell 0
        simp only [List.getElem?_toArray, List.getElem?_cons_zero] at e0
        obtain ⟨g0, g1, f0, f1⟩ := HCL.out w3 hB3
        clear hb3 hk3 hB3
        by_cases hwe : we = 0
        · have h2 := HX.out
          rw [if_pos hwe] at h2
          subst hwe
          have HY := hid h2
          clear h2
          go_wp2_with fail
          exact ⟨⟨j + 1, by omega, by go_num, HY.out, HB3.out⟩, by simp [intOf] <;> omega⟩
        · have hwb : (we != 0) = true := by simpa using hwe
          have h2 := HX.out
          rw [if_neg hwe] at h2
          have h3 := HR.out
          rw [h2, if_pos hwe] at h3
          have HY := hid h3
          clear h2 h3 hwe
          go_wp2_with fail
          obtain ⟨W', hW', hbk, hfl⟩ := HEND.out w3 we (nu : Int) HB3.out HY.out
          rw [← hW']
          have r0 := hbk.cell 0
          have r1 := hbk.cell 1
          simp only [List.getElem?_toArray, List.getElem?_cons_zero, List.getElem?_cons_succ] at r0 r1
          clear hW'
          refine bodyPost_ret (v := .agg #[.int .i64 we, .int .i64 (nu : Int)]) (by simp [results, Try.results51, go_sem, r0, r1]) rfl ?_
          rw [← HTT.out]
          exact hfl
    · obtain rfl : j = nL := by omega
      rw [chkL_end (by have := HNL.out; omega)] at hch
      have h3 := HR.out
      rw [hch] at h3
      have h4 : R = if sb then ((0 : Int), (0 : Int)) else (20, 0) := h3
      have HY := hid h4
      have HBR := hid hB
      have HC := hid (And.intro c0 (And.intro c1 (And.intro c2 (And.intro c3 (And.intro c4 (And.intro c5 (And.intro c6 (And.intro c7 (And.intro c8 c9)))))))))
      clear h3 h4 hB hch hk
      go_wp2_with fail
      go_region_held3 (fun w' => w'.cell? ⟨s, 0, none⟩ = some (.int .u8 (m.k : Int)) ∧ w'.cell? ⟨s, 1, none⟩ = some (.int .u64 (m.n0 : Int)) ∧ w'.cell? ⟨s, 2, none⟩ = some (.int .u64 (m.n1 : Int)) ∧ w'.cell? ⟨s, 3, none⟩ = some (.int .u64 (m.n2 : Int)) ∧ w'.cell? ⟨s, 4, none⟩ = some (.int .u64 (m.n3 : Int)) ∧ w'.cell? ⟨s, 5, none⟩ = some (.int .u64 (m.n4 : Int)) ∧ w'.cell? ⟨s, 6, none⟩ = some (.int .u64 (m.n5 : Int)) ∧ w'.cell? ⟨s, 7, none⟩ = some (.string m.s0) ∧ w'.cell? ⟨s, 8, none⟩ = some (.string m.s1) ∧ w'.cell? ⟨s, 9, none⟩ = some (.slice m.A len m.c)) (first | exact HC3.out | exact HC2.out | exact HC.out | go_keep) (first | (go_at_call 78; refine (HKP.out _).mono ?_; rintro e w2 ⟨rfl, hb2⟩; have HC2 := hid (heldm (w := wr.drewN 1) hb2 HC.out); have hW2 : Below w.heap.size w w2 := (by rw [hws]; exact HB1.out.trans ((HBR.out.trans ((bw_t (bw_d (Below.refl _ wr) 1) hb2).mono HBR.out.size)).mono (by omega)))) | (go_at_call 77; refine (HSM.out _ hW2).mono ?_; rintro e w3 ⟨rfl, hb3⟩; have HC3 := hid (heldm hb3 HC2.out)))
      have hB3 := HBR.out.trans ((bw_t (bw_t (bw_d (Below.refl _ wr) 1) hb2) hb3).mono HBR.out.size)
      have HB3 := hid hB3
      obtain ⟨g0, g1, f0, f1⟩ := HCL.out w3 hB3
      clear hB3 hb3 hb2 hW2 HC2 HC3
      cases sb with
      | true =>
        go_wp2_with fail
        obtain ⟨W', hW', hbk, hfl⟩ := HEND.out w3 0 0 HB3.out HY.out
        rw [← hW']
        have r0 := hbk.cell 0
        have r1 := hbk.cell 1
        simp only [List.getElem?_toArray, List.getElem?_cons_zero, List.getElem?_cons_succ] at r0 r1
        clear hW'
        refine bodyPost_ret (v := .agg #[.int .i64 0, .int .i64 0]) (by simp [results, Try.results51, go_sem, r0, r1]) rfl ?_
        rw [← HTT.out]
        exact hfl
      | false =>
        go_wp2_with fail
        obtain ⟨W', hW', hbk, hfl⟩ := HEND.out w3 20 0 HB3.out HY.out
        rw [← hW']
        have r0 := hbk.cell 0
        have r1 := hbk.cell 1
        simp only [List.getElem?_toArray, List.getElem?_cons_zero, List.getElem?_cons_succ] at r0 r1
        clear hW'
        refine bodyPost_ret (v := .agg #[.int .i64 20, .int .i64 0]) (by simp [results, Try.results51, go_sem, r0, r1]) rfl ?_
        rw [← HTT.out]
        exact hfl
end Go.Proofs.Ytnfodgjihdoncaa
