/- The document's reader: Fixed, Join, Take. -/
import Derived.Test.YtapgjkbodfpdaaaProg
import Derived.Test.YtapgjkbodfpdaaaBase
import Derived.Test.YtapgjkbodfpdaaaInfo8
import Derived.Test.YtapgjkbodfpdaaaRefSt
import Derived.Deep.RegionHeld3
set_option linter.unusedVariables false
namespace Go.Proofs.Ytapgjkbodfpdaaa
open Go.RowKit
set_option maxRecDepth 100000 in
set_option maxHeartbeats 1000000 in
theorem rfixed_any (k : Nat) (w : World) (q : Nat) (A : Option Addr) (c : Nat) (bs : List UInt8) (p : Nat) (hk1 : 1 ≤ k) (hk2 : k ≤ 8) (h : Rin 70 w q A c bs p) :
    Calls Try.prog 79 #[.pointer (some ⟨q, 0, none⟩), .int .i64 (k : Int)] w fun e w' => e = .returned (.tuple #[.int .u64 ((rFix k bs p).1 : Nat), .agg #[.int .i64 ((rFix k bs p).2.1 : Nat), .int .i64 (flt (rFix k bs p).2.1 p : Nat)]]) ∧ Rin 70 w' q A c bs (rFix k bs p).2.2 ∧ Only q w w' := by
  have hst := St.start h
  have hcap := h.cap
  have hsm := h.sl.small
  have hle := h.le
  have hlt := h.blk.lt
  have c0 : w.cell? ⟨q, 0, none⟩ = some (.slice A bs.length c) := by simpa using h.blk.cell 0
  have c1 : w.cell? ⟨q, 1, none⟩ = some (.int .i64 (p : Int)) := by simpa using h.blk.cell 1
  have hr : rFix k bs p = if bs.length - p < k then (0, 4, p) else (unfixN ((bs.drop p).take k), 0, p + k) := rfl
  have hun : k ≤ bs.length - p → ∀ (W : World) (n : Nat), St 70 w W q A c bs p → Calls Try.prog 106 #[.slice (cutA A c p) (bs.length - p) (c - p), .int .i64 (k : Int)] (W.drewN n) fun e w' => e = .returned (.int .u64 (unfixN ((bs.drop p).take k))) ∧ w' = W.drewN n := by
    intro hk W n hst
    have := unfix_any (bs.drop p) (cutA A c p) (c - p) k (W.drewN n) hk1 hk2 (by simp; omega) (by simp; omega) ((hst.r.sl.cut p hle).rd.drewN n)
    rw [List.length_drop] at this
    exact this.mono fun _ _ ⟨a, b⟩ => ⟨a, b.symm⟩
  have HST := hid hst
  clear h hst
  generalize hN : bs.length = N at *
  have HN := hid hN
  clear hN
  by_cases hsh : N - p < k
  · rw [if_pos hsh] at hr
    rw [hr]
    have hi : (N : Int) - (p : Int) < (k : Int) := by omega
    clear hr hun hsh
    go_enter Try.func79, Try.ntmps79
    go_wp2_with fail
    go_quiet (fail)
    go_wp2_with fail
    have hs1 := HST.out.drewN nq
    refine (hs1.rfault 4).mono ?_
    rintro e1 w2 ⟨rfl, hb2⟩
    have hs2 := hs1.below hb2
    clear hb2 hs1 c0 c1
    have d0 := hs2.d0
    have d1 := hs2.d1
    have f0 := hs2.f0
    have f1 := hs2.f1
    have dl := hs2.dl
    have HS2 := hid hs2
    clear hs2
    go_wp2_with fail
    exact bodyPost_ret (v := .tuple #[.int .u64 0, .agg #[.int .i64 4, .int .i64 (flt 4 p : Nat)]]) (by simp [results, Try.results79, go_sem, d0, d1]) rfl ⟨rfl, HS2.out.fin _ _⟩
  · rw [if_neg hsh] at hr
    rw [hr]
    have hi : ¬ (N : Int) - (p : Int) < (k : Int) := by omega
    have hcp : ¬ c = p := by omega
    have hX : cutA A c p = Option.map (fun x => x.add p) A := by simp [cutA, hcp]
    have hu := hun (by omega)
    rw [hX] at hu
    generalize unfixN ((bs.drop p).take k) = v at *
    have HU := hid hu
    have hpk : p + k ≤ N := by omega
    have hpk' : (p : Int) + (k : Int) ≤ 9223372036854775807 := by omega
    clear hr hun hX hu hsh
    go_enter Try.func79, Try.ntmps79
    go_wp2_with fail
    go_quiet (fail)
    go_wp2_with fail
    generalize hW : World.drewN _ nq = W1
    have hs1 : St 70 w W1 q A c bs p := by rw [← hW]; exact HST.out.drewN nq
    clear hW c0 c1
    have c0 := hs1.c0
    rw [HN.out] at c0
    have c1 := hs1.c1
    have r1 := hs1.r1
    have ql := hs1.ql
    have d0 := hs1.d0
    have d1 := hs1.d1
    have f0 := hs1.f0
    have f1 := hs1.f1
    have dl := hs1.dl
    have HS1 := hid hs1
    clear hs1
    go_quiet ((go_at_call 106; exact Calls.quiet_of_same (HU.out _ _ HS1.out)))
    have hs1 := HS1.out.drewN nq
    have hs2 := hs1.move (p + k) (by rw [HN.out]; exact hpk)
    push_cast at hs2
    have HS2 := hid hs2
    clear hs1 hs2
    go_wp2_with fail
    exact bodyPost_ret (v := .tuple #[.int .u64 (v : Nat), .agg #[.int .i64 0, .int .i64 0]]) (by simp [results, Try.results79, go_sem, d0, d1]) rfl ⟨by simp [flt], HS2.out.fin _ _⟩
set_option maxRecDepth 100000 in
set_option maxHeartbeats 1000000 in
theorem rjoin_any (xs : List UInt8) (n : Nat) (A : Option Addr) (c : Nat) (w : World) (hn : xs.length = n) (hl : n ≤ 100000) (hs : Sl w A c (xs.map bv)) :
    Calls Try.prog 61 #[.slice A n c, .slice none 0 0] w fun e w' => ∃ v, e = .returned v ∧ w'.ownsRow w.heap.size 5 1 v n (xs.map bv) ∧ Below w.heap.size w w' := by
  obtain ⟨i0, hi, hz0, hz1, hz2⟩ := info_parts Try.info5
  have hrd : BRd w A xs := hs.rd
  have HN := hid hn
  clear hn
  go_enter Try.func61, Try.ntmps61
  go_wp2
  go_loopw [5, 6] (fun v i wr => ∃ k : Nat, k ≤ n ∧ i = .int .i64 (k : Int) ∧ wr.ownsRow w.heap.size 5 1 v k ((xs.take k).map bv) ∧ Below w.heap.size w wr) (fun _ i _ => n - (intOf i).toNat)
  case atStart => exact ⟨0, by omega, rfl, World.ownsRow_nil _ _ _ _, Below.refl _ _⟩
  case round =>
    obtain ⟨k, hk, rfl, hrow, hB⟩ := hrel
    by_cases hlt : k < n
    · have hkl : k < xs.length := by have := HN.out; omega
      obtain ⟨b, off, rfl, hb, hc⟩ := BRd.at_ (hrd.below hB) hkl
      have htk : (xs.take (k + 1)).map bv = (xs.take k).map bv ++ [.int .u8 (xs[k].toNat : Int)] := by
        rw [List.take_succ_eq_append_getElem hkl, List.map_append]; rfl
      have HTK := hid htk
      clear htk
      have hx := xs[k].toNat_lt
      generalize xs[k].toNat = y at *
      have hszr := hB.size
      go_wp2_with (at_builtin; refine wpList_append_own _ rfl _ _ 29 rfl w.heap.size 5 i0 (.int .u8 0) 1 1 Try.underlying29 hi hz0 hz1 hz2 rfl (by decide) _ _ _ rfl (hrow.alloc _) ⟨wr.heap.size, 0, none⟩ 1 1 [.int .u8 (y : Int)] rfl rfl (cell_one_new _ _ _) (by simp [Value.oneCell']) (by simp only [maxLen]; omega) (by omega) (by simp; omega) ?_; intro v' w3 hown' hgrow' _)
      go_roundw
      case rel => exact ⟨k + 1, by omega, by go_num, by rw [HTK.out]; exact hown', (hB.alloc (by omega) _).grown hgrow' (by simp; omega) fun g eg => (hrow.lt g eg).1⟩
      case measure => simp [intOf]; omega
    · obtain rfl : k = n := by omega
      rw [List.take_of_length_le (by have := HN.out; omega)] at hrow
      go_wp2
      go_loopw [5, 7] (fun v i w' => i = .int .i64 0 ∧ w'.ownsRow w.heap.size 5 1 v k (xs.map bv) ∧ Below w.heap.size w w') (fun _ i _ => 0)
      case atStart => exact ⟨rfl, hrow, hB⟩
      case round =>
        obtain ⟨rfl, hrow2, hB2⟩ := hrel
        go_wp2
        go_ret
        exact ⟨_, rfl, hrow2, hB2⟩
end Go.Proofs.Ytapgjkbodfpdaaa
