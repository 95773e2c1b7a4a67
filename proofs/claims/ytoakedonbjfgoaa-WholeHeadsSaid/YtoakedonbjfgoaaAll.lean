/- varint.All and the document's All. -/
import Derived.Test.YtoakedonbjfgoaaGet
import Derived.Maps.AppendAt
set_option linter.unusedVariables false
namespace Go.Proofs.Ytoakedonbjfgoaa
open Go.RowKit
theorem Try.info22 : (Try.prog.info? 22).map (fun i => (i.zero, i.size, i.bytes)) = some (some (.int .u64 0), 1, 8) := by kernel_rfl
theorem get_at (bs : List UInt8) (n : Nat) (A : Option Addr) (c : Nat) (w : World) (hn : bs.length = n) (hl : n ≤ 9223372036854775807) (hR : BRd w A bs) :
    Calls Try.prog 18 #[.slice A n c] w fun e w' => e = .returned (.tuple #[.int .u64 (M.get bs).1, .int .i64 (M.get bs).2.1, .int .i64 (M.get bs).2.2]) ∧ w = w' := by
  subst hn; exact get_any bs A c w hl hR
theorem rget_at (bs : List UInt8) (n : Nat) (A : Option Addr) (c : Nat) (w : World) (hn : bs.length = n) (hl : n ≤ 9223372036854775807) (hR : BRd w A bs) :
    Calls Try.prog 19 #[.slice A n c] w fun e w' => e = .returned (.tuple #[.int .u64 (M.get bs).1, .int .i64 (M.get bs).2.1, .int .i64 (M.get bs).2.2]) ∧ w = w' := by
  subst hn; exact rget_any bs A c w hl hR
theorem BRd.drop {w : World} {b off : Nat} {bs : List UInt8} (h : BRd w (some ⟨b, off, none⟩) bs) (k : Nat) : BRd w (some ⟨b, off + k, none⟩) (bs.drop k) := by
  intro j u hj
  rw [List.map_drop, List.getElem?_drop] at hj
  obtain ⟨b', off', he, hlt, hc⟩ := h (k + j) u hj
  injection he with he; injection he with h1 h2; subst h1; subst h2
  exact ⟨b, off + k, rfl, hlt, by rw [Nat.add_assoc]; exact hc⟩
set_option maxRecDepth 100000 in
set_option maxHeartbeats 1000000 in
theorem all_any (bs : List UInt8) (A : Option Addr) (c : Nat) (w : World) (hl : bs.length ≤ 100000) (hR : Sl w A c (bs.map bv)) :
    Calls Try.prog 24 #[.slice A bs.length c] w fun e w' => ∃ v, e = .returned (.tuple #[v, .agg #[.int .i64 (M.all bs).2.1, .int .i64 (M.all bs).2.2]]) ∧ w'.ownsRow w.heap.size 22 1 v (M.all bs).1.length ((M.all bs).1.map nv) ∧ Below w.heap.size w w' := by
  obtain ⟨i0, hi, hz0, hz1, hz2⟩ := info_parts Try.info22
  have hcap := hR.cap
  have hsm := hR.small
  have hrd : BRd w A bs := hR.rd
  simp only [List.length_map] at hcap
  go_enter Try.func24, Try.ntmps24
  go_wp2
  generalize hW0 : w.alloc _ = W0
  have hz0' : W0.heap.size = w.heap.size + 1 := by rw [← hW0]; simp
  have hB0 : Below w.heap.size w W0 := by rw [← hW0]; exact (Below.refl _ w).alloc (Nat.le_refl _) _
  have hq : Blk W0 w.heap.size 39 #[.int .i64 0, .int .i64 0] := by rw [← hW0]; exact Blk.new w _ _
  clear hW0
  go_loopw [4, 5] (fun v p wr => ∃ (j : Nat) (out : List Nat), j ≤ bs.length ∧ out.length ≤ j ∧ p = .int .i64 (j : Int) ∧ wr.ownsRow W0.heap.size 22 1 v out.length (out.map nv) ∧ Below W0.heap.size W0 wr ∧ M.all bs = M.allF bs.length out j (bs.drop j)) (fun _ p _ => bs.length - (intOf p).toNat)
  case atStart => exact ⟨0, [], by omega, by simp, rfl, World.ownsRow_nil _ _ _ _, Below.refl _ _, by simp [M.all]⟩
  case round =>
    obtain ⟨j, out, hj, hol, rfl, hrow, hB, hall⟩ := hrel
    have hqr := hq.below hB (by omega)
    have c0 : wr.cell? ⟨w.heap.size, 0, none⟩ = some (.int .i64 0) := hqr.cell 0
    have c1 : wr.cell? ⟨w.heap.size, 1, none⟩ = some (.int .i64 0) := hqr.cell 1
    have f0 := hqr.frozen 0
    have f1 := hqr.frozen 1
    have hBr : BRd wr A bs := (hrd.below hB0).below hB
    have HALL := hid hall
    clear hall
    by_cases hlt : j < bs.length
    · obtain ⟨b, off, rfl, hb, _⟩ := hBr.at_ hlt
      have hgf := M.get_facts (bs.drop j)
      have hst := M.allF_step (f := bs.length) (p := j) (acc := out) (b := bs.drop j) (by simp; omega) (by simp)
      have her := M.allF_err (f := bs.length) (p := j) (acc := out) (b := bs.drop j) (by simp; omega) (by simp)
      have HST := hid hst
      have HER := hid her
      clear hst her
      have hcall := get_at (bs.drop j) (bs.length - j) (some ⟨b, off + j, none⟩) (c - j) wr (by simp) (by omega) (hBr.drop j)
      simp only [List.length_drop] at hgf
      generalize hg : M.get (bs.drop j) = g at *
      clear hg
      obtain ⟨n, k, e⟩ := g
      simp only at hgf hcall
      have HC := hid hcall
      clear hcall
      by_cases he : e = 0
      · subst he
        have h1 := hgf.1 rfl
        have HS2 := hid (HST.out rfl)
        clear hgf HST
        have heb : (((0 : Nat) : Int) != 0) = false := by simp
        go_wp2_with (first | (go_at_call 18; refine HC.out.mono ?_; rintro e w' ⟨rfl, rfl⟩) | (at_builtin; refine wpList_append_own _ rfl _ _ 37 rfl W0.heap.size 22 i0 (.int .u64 0) 1 8 Try.underlying37 hi hz0 hz1 hz2 rfl (by decide) _ _ _ rfl (hrow.alloc _) ⟨wr.heap.size, 0, none⟩ 1 1 [.int .u64 (n : Int)] rfl rfl (cell_one_new _ _ _) (by simp [Value.oneCell']) (by simp only [maxLen]; omega) (by omega) (by have := hB.size; simp; omega) ?_; intro v' w1 hown' hgrow _))
        have hg : Below W0.heap.size W0 w1 := (hB.alloc hB.size _).grown hgrow (by have := hB.size; simp; omega) fun k ek => (hrow.lt k ek).1
        go_roundw
        case rel => exact ⟨j + k, out ++ [n], by omega, by simp; omega, by go_num, by simpa [nv] using hown', hg, by rw [HALL.out, HS2.out, List.drop_drop]⟩
        case measure => simp [intOf] <;> omega
      · have h1 := hgf.2 he
        have heb : ((e : Int) != 0) = true := by simp; omega
        clear hgf
        go_wp2_with (go_at_call 18; refine HC.out.mono ?_; rintro e w' ⟨rfl, rfl⟩)
        refine bodyPost_ret (v := .tuple #[.slice none 0 0, .agg #[.int .i64 (e : Int), .int .i64 (j : Int)]]) (by simp [results, Try.results24, go_sem, c0, c1]) rfl ⟨_, by rw [HALL.out, HER.out he], by rw [HALL.out, HER.out he]; exact World.ownsRow_nil _ _ _ _, ?_⟩
        exact ((hB0.trans (hB.mono (by omega))).setCell (p := ⟨w.heap.size, 0, none⟩) (Nat.le_refl _) _).setCell (p := ⟨w.heap.size, 1, none⟩) (Nat.le_refl _) _
    · obtain rfl : j = bs.length := by omega
      have hend := M.allF_end bs.length out bs.length
      have HE := hid hend
      clear hend
      go_wp2
      refine bodyPost_ret (v := .tuple #[u4, .agg #[.int .i64 0, .int .i64 0]]) (by simp [results, Try.results24, go_sem, c0, c1]) rfl ⟨_, by rw [HALL.out, List.drop_length, HE.out]; rfl, by rw [HALL.out, List.drop_length, HE.out]; exact own_mono (own_setBelow (own_setBelow hrow (p := ⟨w.heap.size, 0, none⟩) (by show w.heap.size < _; omega) _) (p := ⟨w.heap.size, 1, none⟩) (by show w.heap.size < _; omega) _) (by omega), ?_⟩
      exact ((hB0.trans (hB.mono (by omega))).setCell (p := ⟨w.heap.size, 0, none⟩) (Nat.le_refl _) _).setCell (p := ⟨w.heap.size, 1, none⟩) (Nat.le_refl _) _
set_option maxRecDepth 100000 in
set_option maxHeartbeats 1000000 in
theorem rall_any (bs : List UInt8) (A : Option Addr) (c : Nat) (w : World) (hl : bs.length ≤ 100000) (hR : Sl w A c (bs.map bv)) :
    Calls Try.prog 25 #[.slice A bs.length c] w fun e w' => ∃ v, e = .returned (.tuple #[v, .agg #[.int .i64 (M.all bs).2.1, .int .i64 (M.all bs).2.2]]) ∧ w'.ownsRow w.heap.size 22 1 v (M.all bs).1.length ((M.all bs).1.map nv) ∧ Below w.heap.size w w' := by
  obtain ⟨i0, hi, hz0, hz1, hz2⟩ := info_parts Try.info22
  have hcap := hR.cap
  have hsm := hR.small
  have hrd : BRd w A bs := hR.rd
  simp only [List.length_map] at hcap
  go_enter Try.func25, Try.ntmps25
  go_wp2
  generalize hW0 : w.alloc _ = W0
  have hz0' : W0.heap.size = w.heap.size + 1 := by rw [← hW0]; simp
  have hB0 : Below w.heap.size w W0 := by rw [← hW0]; exact (Below.refl _ w).alloc (Nat.le_refl _) _
  have hq : Blk W0 w.heap.size 39 #[.int .i64 0, .int .i64 0] := by rw [← hW0]; exact Blk.new w _ _
  clear hW0
  go_loopw [4, 5] (fun v p wr => ∃ (j : Nat) (out : List Nat), j ≤ bs.length ∧ out.length ≤ j ∧ p = .int .i64 (j : Int) ∧ wr.ownsRow W0.heap.size 22 1 v out.length (out.map nv) ∧ Below W0.heap.size W0 wr ∧ M.all bs = M.allF bs.length out j (bs.drop j)) (fun _ p _ => bs.length - (intOf p).toNat)
  case atStart => exact ⟨0, [], by omega, by simp, rfl, World.ownsRow_nil _ _ _ _, Below.refl _ _, by simp [M.all]⟩
  case round =>
    obtain ⟨j, out, hj, hol, rfl, hrow, hB, hall⟩ := hrel
    have hqr := hq.below hB (by omega)
    have c0 : wr.cell? ⟨w.heap.size, 0, none⟩ = some (.int .i64 0) := hqr.cell 0
    have c1 : wr.cell? ⟨w.heap.size, 1, none⟩ = some (.int .i64 0) := hqr.cell 1
    have f0 := hqr.frozen 0
    have f1 := hqr.frozen 1
    have hBr : BRd wr A bs := (hrd.below hB0).below hB
    have HALL := hid hall
    clear hall
    by_cases hlt : j < bs.length
    · obtain ⟨b, off, rfl, hb, _⟩ := hBr.at_ hlt
      have hgf := M.get_facts (bs.drop j)
      have hst := M.allF_step (f := bs.length) (p := j) (acc := out) (b := bs.drop j) (by simp; omega) (by simp)
      have her := M.allF_err (f := bs.length) (p := j) (acc := out) (b := bs.drop j) (by simp; omega) (by simp)
      have HST := hid hst
      have HER := hid her
      clear hst her
      have hcall := rget_at (bs.drop j) (bs.length - j) (some ⟨b, off + j, none⟩) (c - j) wr (by simp) (by omega) (hBr.drop j)
      simp only [List.length_drop] at hgf
      generalize hg : M.get (bs.drop j) = g at *
      clear hg
      obtain ⟨n, k, e⟩ := g
      simp only at hgf hcall
      have HC := hid hcall
      clear hcall
      by_cases he : e = 0
      · subst he
        have h1 := hgf.1 rfl
        have HS2 := hid (HST.out rfl)
        clear hgf HST
        have heb : (((0 : Nat) : Int) != 0) = false := by simp
        go_wp2_with (first | (go_at_call 19; refine HC.out.mono ?_; rintro e w' ⟨rfl, rfl⟩) | (at_builtin; refine wpList_append_own _ rfl _ _ 37 rfl W0.heap.size 22 i0 (.int .u64 0) 1 8 Try.underlying37 hi hz0 hz1 hz2 rfl (by decide) _ _ _ rfl (hrow.alloc _) ⟨wr.heap.size, 0, none⟩ 1 1 [.int .u64 (n : Int)] rfl rfl (cell_one_new _ _ _) (by simp [Value.oneCell']) (by simp only [maxLen]; omega) (by omega) (by have := hB.size; simp; omega) ?_; intro v' w1 hown' hgrow _))
        have hg : Below W0.heap.size W0 w1 := (hB.alloc hB.size _).grown hgrow (by have := hB.size; simp; omega) fun k ek => (hrow.lt k ek).1
        go_roundw
        case rel => exact ⟨j + k, out ++ [n], by omega, by simp; omega, by go_num, by simpa [nv] using hown', hg, by rw [HALL.out, HS2.out, List.drop_drop]⟩
        case measure => simp [intOf] <;> omega
      · have h1 := hgf.2 he
        have heb : ((e : Int) != 0) = true := by simp; omega
        clear hgf
        go_wp2_with (go_at_call 19; refine HC.out.mono ?_; rintro e w' ⟨rfl, rfl⟩)
        refine bodyPost_ret (v := .tuple #[.slice none 0 0, .agg #[.int .i64 (e : Int), .int .i64 (j : Int)]]) (by simp [results, Try.results25, go_sem, c0, c1]) rfl ⟨_, by rw [HALL.out, HER.out he], by rw [HALL.out, HER.out he]; exact World.ownsRow_nil _ _ _ _, ?_⟩
        exact ((hB0.trans (hB.mono (by omega))).setCell (p := ⟨w.heap.size, 0, none⟩) (Nat.le_refl _) _).setCell (p := ⟨w.heap.size, 1, none⟩) (Nat.le_refl _) _
    · obtain rfl : j = bs.length := by omega
      have hend := M.allF_end bs.length out bs.length
      have HE := hid hend
      clear hend
      go_wp2
      refine bodyPost_ret (v := .tuple #[u4, .agg #[.int .i64 0, .int .i64 0]]) (by simp [results, Try.results25, go_sem, c0, c1]) rfl ⟨_, by rw [HALL.out, List.drop_length, HE.out]; rfl, by rw [HALL.out, List.drop_length, HE.out]; exact own_mono (own_setBelow (own_setBelow hrow (p := ⟨w.heap.size, 0, none⟩) (by show w.heap.size < _; omega) _) (p := ⟨w.heap.size, 1, none⟩) (by show w.heap.size < _; omega) _) (by omega), ?_⟩
      exact ((hB0.trans (hB.mono (by omega))).setCell (p := ⟨w.heap.size, 0, none⟩) (Nat.le_refl _) _).setCell (p := ⟨w.heap.size, 1, none⟩) (Nat.le_refl _) _
end Go.Proofs.Ytoakedonbjfgoaa
