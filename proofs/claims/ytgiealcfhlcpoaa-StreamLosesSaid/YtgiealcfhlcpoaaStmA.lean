/- slices.Grow of no slice. · slices.Concat of bytes. · What is left of a number by another one, from 0 on. -/
import Derived.Test.YtgiealcfhlcpoaaM1
import Derived.Lib.AppendZerosOnto
import Derived.Test.YtgiealcfhlcpoaaM3
set_option linter.unusedVariables false
namespace Go.Proofs.Ytgiealcfhlcpoaa
open Go.RowKit
set_option maxRecDepth 100000 in
set_option maxHeartbeats 2000000 in
theorem sgrow_nil (n : Nat) (w : World) (hn : n ≤ 100000000) :
    Calls Try.prog 33 #[.slice none 0 0, .int .i64 (n : Int)] w fun e w' => ∃ v, e = .returned v ∧ w'.ownsRow w.heap.size 5 1 v 0 [] ∧ Below w.heap.size w w' := by
  obtain ⟨i0, hi0, hz0, hz1, hz2⟩ := info_parts Try.info5
  by_cases h0 : n = 0
  · subst h0
    go_enter Try.func33, Try.ntmps33
    go_wp2_with fail
    go_ret
    exact ⟨_, rfl, World.ownsRow_nil _ _ _ _, Below.refl _ _⟩
  · have hrz : ∀ ty, (Builtin.append_ #[25, 3] ty #[.slice none 0 0, .int .i64 (n : Int)]).run Try.prog w = .ok (.slice (some ⟨w.heap.size, 0, none⟩) n (grownCap w n 0 5)) (w.drew.alloc (.cells ((#[] : Array Value) ++ Builtin.zeroCells (Value.int .u8 0).cells n ++ Builtin.zeroCells (Value.int .u8 0).cells (grownCap w n 0 5 - n)) 5)) := fun ty => by
      have h := Lib.run_append_grow_zeros (P := Try.prog) w 25 3 ty 5 i0 (.int .u8 0) .i64 .i64 Try.underlying25 Try.underlying3 hi0 hz0 none 0 0 [] (run_firstCells_none w.drew i0.size 0 0 0) n (by omega) (by rw [hz1]; omega) (by omega) (by omega) (by rw [hz2]; omega) (growslice_fits (by omega) (by rw [hz2]; omega))
      simpa using h
    have hG := grownCap_ge w n 0 5
    have hGm := grownCap_le_maxLen w n 0 5 (by simp only [maxLen]; omega)
    obtain ⟨G, hGe⟩ : ∃ G, grownCap w n 0 5 = G := ⟨_, rfl⟩
    rw [hGe] at hrz hG hGm
    have hG63 : G ≤ 9223372036854775807 := by simp only [maxLen] at hGm; omega
    have hnI : (0 : Int) < (n : Int) := by omega
    have hnI2 : ¬ (n : Int) < 0 := by omega
    obtain ⟨cs, hcs⟩ : ∃ cs : Array Value, (#[] : Array Value) ++ Builtin.zeroCells (Value.int .u8 0).cells n ++ Builtin.zeroCells (Value.int .u8 0).cells (G - n) = cs := ⟨_, rfl⟩
    have hsz : cs.size = G * 1 := by rw [← hcs]; simp [size_zeroCells, Value.cells]; omega
    rw [hcs] at hrz
    have HSZ := hid hsz
    clear hcs hsz hGe
    go_enter Try.func33, Try.ntmps33
    go_wp2_with (at_builtin; refine Lib.wpList_append_run _ rfl _ _ _ _ rfl _ _ rfl rfl _ _ (hrz _) ?_)
    go_ret
    refine ⟨_, rfl, ⟨rfl, .inr ⟨w.heap.size, G, cs, rfl, Nat.le_refl _, heap_alloc_new w.drew _, by omega, hGm, HSZ.out, by simp⟩⟩, ?_⟩
    exact bw_a (show Below w.heap.size w w.drew from ⟨rfl, rfl, rfl, Nat.le_refl _, fun _ _ => rfl⟩) _
end Go.Proofs.Ytgiealcfhlcpoaa
set_option linter.unusedVariables false
namespace Go.Proofs.Ytgiealcfhlcpoaa
open Go.RowKit
/-- A piece's cell. -/
def pcC (x : SlV UInt8) : Value := .slice x.A x.xs.length x.c
def lenC (l : List (SlV UInt8)) : Nat := (l.map fun x => x.xs.length).sum
theorem lenC_flat (l : List (SlV UInt8)) : (l.flatMap fun x => x.xs).length = lenC l := by
  induction l with
  | nil => rfl
  | cons x l ih => rw [List.flatMap_cons, List.length_append, ih]; simp [lenC]
theorem lenC_snoc (l : List (SlV UInt8)) (j : Nat) (hj : j < l.length) : lenC (l.take (j + 1)) = lenC (l.take j) + l[j].xs.length := by
  unfold lenC
  rw [List.take_succ_eq_append_getElem hj, List.map_append, List.sum_append]
  simp
theorem lenC_le (l : List (SlV UInt8)) (j : Nat) : lenC (l.take j) ≤ lenC l := by
  have h : lenC l = lenC (l.take j) + lenC (l.drop j) := by
    unfold lenC
    rw [← List.sum_append, ← List.map_append, List.take_append_drop]
  omega
set_option maxRecDepth 100000 in
set_option maxHeartbeats 4000000 in
theorem sconcat_any (l : List (SlV UInt8)) (m : Nat) (A : Option Addr) (c : Nat) (N : Nat) (w : World) (hm : l.length = m) (hN : lenC l = N) (hN2 : N ≤ 10000000) (hs : Sl w A c (l.map pcC)) (hx : ∀ x ∈ l, Sl w x.A x.c (x.xs.map bv)) :
    Calls Try.prog 25 #[.slice A m c] w fun e w' => ∃ v, e = .returned v ∧ w'.ownsRow w.heap.size 5 1 v N ((l.flatMap fun x => x.xs).map bv) ∧ Below w.heap.size w w' := by
  obtain ⟨i0, hi0, hz0, hz1, hz2⟩ := info_parts Try.info5
  have hmc : m ≤ 9223372036854775807 := by have h1 := hs.cap; have h2 := hs.small; rw [List.length_map] at h1; omega
  have hg := fun W => sgrow_nil N W (by omega)
  have HG := hid hg
  have HS := hid hs
  have HX := hid hx
  have HM := hid hm
  have HN := hid hN
  clear hg hs hx hm hN
  go_enter Try.func25, Try.ntmps25
  go_wp2_with fail
  go_loopw [3, 5, 11] (fun sz _ i wr => wr = w ∧ ∃ j : Nat, j ≤ m ∧ i = .int .i64 (j : Int) ∧ sz = .int .i64 (lenC (l.take j) : Nat)) (fun _ _ i _ => m - (intOf i).toNat)
  case atStart => exact ⟨rfl, 0, by omega, rfl, by simp [lenC]⟩
  case round =>
    obtain ⟨rfl, j, hj, rfl, rfl⟩ := hrel
    by_cases hlt : j < m
    · have hjl : j < l.length := by have := HM.out; omega
      have hget : (l.map pcC)[j]? = some (pcC l[j]) := by rw [List.getElem?_map, List.getElem?_eq_getElem hjl]; rfl
      obtain ⟨b, off, rfl, hb, t0⟩ := HS.out.rd _ _ hget
      unfold pcC at t0
      have hsn := lenC_snoc l j hjl
      have hle := lenC_le l (j + 1)
      rw [HN.out] at hle
      generalize l[j] = x at *
      obtain ⟨xA, xc, xs⟩ := x
      simp only at t0 hsn
      generalize lenC (l.take j) = S at *
      generalize xs.length = xn at *
      have hji : (j : Int) < (m : Int) := by omega
      have hj0 : (0 : Int) ≤ (j : Int) := by omega
      have hw1 : IntKind.i64.wrap ((S : Int) + (xn : Int)) = ((S + xn : Nat) : Int) := by rw [IntWalk.i64_in _ (by omega)]; omega
      have hn0 : ¬ ((S + xn : Nat) : Int) < 0 := by omega
      have HSN := hid hsn
      clear hget hsn hle
      go_wp2_with fail
      exact ⟨⟨trivial, j + 1, by omega, by go_num, by rw [HSN.out, Int.natCast_add]⟩, by simp [intOf] <;> omega⟩
    · obtain rfl : j = m := by omega
      obtain ⟨w0, rfl⟩ : ∃ x, x = wr := ⟨_, rfl⟩
      have hall : lenC (l.take j) = N := by rw [← HM.out, List.take_length]; exact HN.out
      rw [hall]
      clear hall
      have hji : ¬ (j : Int) < (j : Int) := by omega
      go_wp2_with fail
      refine (HG.out _).mono ?_
      rintro e w1 ⟨v1, rfl, ho1, hb1⟩
      have HO1 := hid ho1
      have HB1 := hid hb1
      clear ho1 hb1
      go_wp2_with fail
      go_loopw [6, 8, 27] (fun v _ i wq => ∃ k : Nat, k ≤ j ∧ i = .int .i64 (k : Int) ∧ wq.ownsRow w0.heap.size 5 1 v (lenC (l.take k)) (((l.take k).flatMap fun x => x.xs).map bv) ∧ Below w0.heap.size w0 wq) (fun _ _ i _ => j - (intOf i).toNat)
      case atStart => exact ⟨0, by omega, rfl, by simpa [lenC] using HO1.out, HB1.out⟩
      case round =>
        obtain ⟨k, hk, rfl, ho, hB⟩ := hrel
        have HO := hid ho
        have HB := hid hB
        clear ho hB
        by_cases hlt2 : k < j
        · have hkl : k < l.length := by have := HM.out; omega
          have hget : (l.map pcC)[k]? = some (pcC l[k]) := by rw [List.getElem?_map, List.getElem?_eq_getElem hkl]; rfl
          obtain ⟨b, off, rfl, hb, t0⟩ := HS.out.rd _ _ hget
          unfold pcC at t0
          have t0 := (HB.out.cell (p := ⟨b, off + k, none⟩) hb).trans t0
          have hsn := lenC_snoc l k hkl
          have hle := lenC_le l (k + 1)
          rw [HN.out] at hle
          have hxs := (HX.out l[k] (List.getElem_mem hkl)).below HB.out
          have htk : (l.take (k + 1)).flatMap (fun x => x.xs) = (l.take k).flatMap (fun x => x.xs) ++ l[k].xs := by
            rw [List.take_succ_eq_append_getElem hkl, List.flatMap_append]; simp
          generalize l[k] = x at *
          obtain ⟨xA, xc, xs⟩ := x
          simp only at t0 hsn hxs htk
          obtain ⟨xn, hxn⟩ : ∃ n, xs.length = n := ⟨_, rfl⟩
          rw [hxn] at t0 hsn
          have hsz := HB.out.size
          have hki : (k : Int) < (j : Int) := by omega
          have hk0 : (0 : Int) ≤ (k : Int) := by omega
          have HXS := hid hxs
          have HXN := hid hxn
          have HSN := hid hsn
          have HTK := hid htk
          have hS := hsn
          generalize lenC (l.take k) = S at *
          clear hget hsn hxs hxn htk
          have hS2 : S + xn ≤ 10000000 := by omega
          clear hS hle
          go_wp2_with (at_builtin; (refine wpList_append_rd rfl (.tmp 31) (.tmp 32) 25 rfl w0.heap.size 5 i0 (.int .u8 0) 1 1 Try.underlying25 hi0 hz0 hz1 hz2 rfl (by decide) _ _ _ rfl HO.out xA xn xc (xs.map bv) rfl (by rw [List.length_map, HXN.out, Nat.mul_one]) HXS.out.rd HXS.out.nil0 (bv_one _) (by simp only [maxLen]; omega) (by omega) hsz ?_; intro v6 w6 hown6 hgrow6))
          have hB6 := bw_g HB.out hgrow6 (fun q ek => (HO.out.lt q ek).1)
          refine ⟨⟨k + 1, by omega, by go_num, ?_, hB6⟩, by simp [intOf] <;> omega⟩
          rw [HSN.out, HTK.out, List.map_append]
          exact hown6
        · obtain rfl : k = j := by omega
          have hki : ¬ (k : Int) < (k : Int) := by omega
          have hfin := HO.out
          rw [← HM.out, List.take_length, HN.out] at hfin
          have HF := hid hfin
          clear hfin
          go_wp2_with fail
          go_ret
          exact ⟨_, rfl, HF.out, HB.out⟩
end Go.Proofs.Ytgiealcfhlcpoaa
set_option linter.unusedVariables false
namespace Go.Proofs.Ytgiealcfhlcpoaa
open Go.RowKit
theorem rest_ways (n b : Int) (hb : 1 ≤ b) : (n.tmod b < 0 ∧ n.tmod b + b = n % b) ∨ (0 ≤ n.tmod b ∧ n.tmod b = n % b) := by
  have h1 := Int.emod_nonneg n (show b ≠ 0 by omega)
  have h2 := Int.emod_lt_of_pos n (show 0 < b by omega)
  have h := @Int.tmod_eq_emod n b
  rw [h]
  split
  · exact .inr ⟨by omega, by omega⟩
  · exact .inl ⟨by omega, by omega⟩
theorem rest_in (n b : Int) (hb : 1 ≤ b) : 0 ≤ n % b ∧ n % b < b := ⟨Int.emod_nonneg n (by omega), Int.emod_lt_of_pos n (by omega)⟩
set_option maxRecDepth 100000 in
set_option maxHeartbeats 2000000 in
theorem srest_any (n b : Int) (w : World) (hn1 : -9223372036854775808 ≤ n) (hn2 : n ≤ 9223372036854775807) (hb : 1 ≤ b) (hb2 : b ≤ 9223372036854775807) :
    Calls Try.prog 23 #[.int .i64 n, .int .i64 b] w fun e w' => e = .returned (.int .i64 (n % b)) ∧ w' = w := by
  have h0 : ¬ b = 0 := by omega
  have h1 : (b == 0) = false := by simpa using h0
  have hm := rest_in n b hb
  have hw := rest_ways n b hb
  have hx : IntKind.i64.wrap (n.tmod b) = n.tmod b := IntWalk.i64_in _ (by rcases hw with h | h <;> omega)
  obtain ⟨t, ht⟩ : ∃ t, n.tmod b = t := ⟨_, rfl⟩
  rw [ht] at hw hx
  go_enter Try.func23, Try.ntmps23
  rcases hw with ⟨h2, h3⟩ | ⟨h2, h3⟩
  · have hy : IntKind.i64.wrap (t + b) = t + b := IntWalk.i64_in _ (by omega)
    go_wp2_with fail
    go_ret
    exact ⟨by first | rfl | rw [h3], rfl⟩
  · have h4 : ¬ t < 0 := by omega
    go_wp2_with fail
    go_ret
    exact ⟨by first | rfl | rw [h3], rfl⟩
end Go.Proofs.Ytgiealcfhlcpoaa
