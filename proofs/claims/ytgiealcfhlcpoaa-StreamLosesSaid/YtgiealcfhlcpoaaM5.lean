/- The document's reader: fault, Varint. · A reader's method under way: the reader, and the fault that it answers in a block of its own. · The document's reader: Fixed, Join, Take. · The document's reader: Take. · The document's reader: Bytes. · The document's reader: Bytes, with where the bytes lie. · The document's Join of any two, and its Bytes. -/
import Derived.Test.YtgiealcfhlcpoaaProg
import Derived.Test.YtgiealcfhlcpoaaM1
import Derived.Test.YtgiealcfhlcpoaaM4
import Derived.StillTailTactics
import Derived.Deep.RegionHeld3
import Derived.IntWalk
import Derived.Test.YtgiealcfhlcpoaaM2
set_option linter.unusedVariables false
namespace Go.Proofs.Ytgiealcfhlcpoaa
open Go.RowKit
end Go.Proofs.Ytgiealcfhlcpoaa
set_option linter.unusedVariables false
namespace Go.Proofs.Ytgiealcfhlcpoaa
open Go.RowKit
structure St (t : TypeId) (w W : World) (q : Nat) (A : Option Addr) (c : Nat) (bs : List UInt8) (p : Nat) : Prop where
  r : Rin t W q A c bs p
  f : Blk W w.heap.size 44 #[.int .i64 0, .int .i64 0]
  o : Only q w W
  lt : q < w.heap.size
  far : ∀ g, w.heap.size ≤ g → Far A bs.length g
section
variable {t : TypeId} {w W W' : World} {q : Nat} {A : Option Addr} {c : Nat} {bs : List UInt8} {p : Nat}
theorem St.start (h : Rin t w q A c bs p) : St t w (w.alloc (.cells #[.int .i64 0, .int .i64 0] 44)) q A c bs p :=
  ⟨h.below ((Below.refl _ w).alloc (Nat.le_refl _) _), Blk.new w _ _, (Only.refl q w).alloc _, h.blk.lt, fun g hg => far_new h.sl hg⟩
theorem St.below (h : St t w W q A c bs p) (hb : Below W.heap.size W W') : St t w W' q A c bs p :=
  ⟨h.r.below hb, h.f.below hb h.f.lt, h.o.trans (.of_below hb), h.lt, h.far⟩
theorem St.drewN (h : St t w W q A c bs p) (n : Nat) : St t w (W.drewN n) q A c bs p := h.below (below_drewN (Below.refl _ _) n)
theorem St.alloc (h : St t w W q A c bs p) (o : Obj) : St t w (W.alloc o) q A c bs p := h.below ((Below.refl _ _).alloc (Nat.le_refl _) o)
theorem St.only {p' : Nat} (h : St t w W q A c bs p) (ho : Only q W W') (hr : Rin t W' q A c bs p') : St t w W' q A c bs p' :=
  ⟨hr, ho.blk h.f (by have := h.lt; omega), h.o.trans ho, h.lt, h.far⟩
theorem St.move (h : St t w W q A c bs p) (p' : Nat) (hp : p' ≤ bs.length) : St t w (W.setCell ⟨q, 1, none⟩ (.int .i64 (p' : Int))) q A c bs p' := by
  have ho := (Only.refl q W).set_ 1 (.int .i64 (p' : Int))
  refine h.only ho (h.r.move ho ?_ hp)
  have hb := h.r.blk.set_ 1 (.int .i64 (p' : Int))
  simpa using hb
theorem St.c0 (h : St t w W q A c bs p) : W.cell? ⟨q, 0, none⟩ = some (.slice A bs.length c) := by simpa using h.r.blk.cell 0
theorem St.c1 (h : St t w W q A c bs p) : W.cell? ⟨q, 1, none⟩ = some (.int .i64 (p : Int)) := by simpa using h.r.blk.cell 1
theorem St.r1 (h : St t w W q A c bs p) : W.frozen? ⟨q, 1, none⟩ = false := h.r.blk.frozen 1
theorem St.ql (h : St t w W q A c bs p) : q < W.heap.size := h.r.blk.lt
theorem St.d0 (h : St t w W q A c bs p) : W.cell? ⟨w.heap.size, 0, none⟩ = some (.int .i64 0) := h.f.cell 0
theorem St.d1 (h : St t w W q A c bs p) : W.cell? ⟨w.heap.size, 1, none⟩ = some (.int .i64 0) := h.f.cell 1
theorem St.f0 (h : St t w W q A c bs p) : W.frozen? ⟨w.heap.size, 0, none⟩ = false := h.f.frozen 0
theorem St.f1 (h : St t w W q A c bs p) : W.frozen? ⟨w.heap.size, 1, none⟩ = false := h.f.frozen 1
theorem St.dl (h : St t w W q A c bs p) : w.heap.size < W.heap.size := h.f.lt
theorem St.fin (h : St t w W q A c bs p) (u v : Value) : Rin t ((W.setCell ⟨w.heap.size, 0, none⟩ u).setCell ⟨w.heap.size, 1, none⟩ v) q A c bs p ∧ Only q w ((W.setCell ⟨w.heap.size, 0, none⟩ u).setCell ⟨w.heap.size, 1, none⟩ v) := by
  have hl := h.lt
  refine ⟨(h.r.far_set (by omega) (h.far _ (Nat.le_refl _)) _ _).far_set (by omega) (h.far _ (Nat.le_refl _)) _ _, ?_⟩
  exact (h.o.new_ (Nat.le_refl _) _ _).new_ (Nat.le_refl _) _ _
end
end Go.Proofs.Ytgiealcfhlcpoaa
set_option linter.unusedVariables false
namespace Go.Proofs.Ytgiealcfhlcpoaa
open Go.RowKit
set_option maxRecDepth 100000 in
set_option maxHeartbeats 1000000 in
theorem rjoin_any (xs : List UInt8) (n : Nat) (A : Option Addr) (c : Nat) (w : World) (hn : xs.length = n) (hl : n ≤ 100000) (hs : Sl w A c (xs.map bv)) :
    Calls Try.prog 15 #[.slice A n c, .slice none 0 0] w fun e w' => ∃ v, e = .returned v ∧ w'.ownsRow w.heap.size 5 1 v n (xs.map bv) ∧ Below w.heap.size w w' := by
  obtain ⟨i0, hi, hz0, hz1, hz2⟩ := info_parts Try.info5
  have hrd : BRd w A xs := hs.rd
  have HN := hid hn
  clear hn
  go_enter Try.func15, Try.ntmps15
  go_wp2
  go_loopw [5, 6] (fun v i wr => ∃ k : Nat, k ≤ n ∧ i = .int .i64 (k : Int) ∧ wr.ownsRow w.heap.size 5 1 v k ((xs.take k).map bv) ∧ Below w.heap.size w wr) (fun _ i _ => n - (intOf i).toNat)
  case atStart => exact ⟨0, by omega, rfl, World.ownsRow_nil _ _ _ _, Below.refl _ _⟩
  case round =>
    obtain ⟨k, hk, rfl, hrow, hB⟩ := hrel
    by_cases hlt : k < n
    · have hkl : k < xs.length := by have := HN.out; omega
      obtain ⟨b, off, rfl, hb, hc⟩ := BRd.at_ (hrd.below hB) hkl
      have htk : (xs.take (k + 1)).map bv = (xs.take k).map bv ++ [.int .u8 (xs[k].toNat : Int)] := by
        rw [List.take_succ_eq_append_getElem hkl, List.map_append]; rfl
      have HTK := hid htk
      clear htk
      have hx := xs[k].toNat_lt
      generalize xs[k].toNat = y at *
      have hszr := hB.size
      go_wp2_with (at_builtin; refine wpList_append_own _ rfl _ _ 25 rfl w.heap.size 5 i0 (.int .u8 0) 1 1 Try.underlying25 hi hz0 hz1 hz2 rfl (by decide) _ _ _ rfl (hrow.alloc _) ⟨wr.heap.size, 0, none⟩ 1 1 [.int .u8 (y : Int)] rfl rfl (cell_one_new _ _ _) (by simp [Value.oneCell']) (by simp only [maxLen]; omega) (by omega) (by simp; omega) ?_; intro v' w3 hown' hgrow' _)
      go_roundw
      case rel => exact ⟨k + 1, by omega, by go_num, by rw [HTK.out]; exact hown', (hB.alloc (by omega) _).grown hgrow' (by simp; omega) fun g eg => (hrow.lt g eg).1⟩
      case measure => simp [intOf]; omega
    · obtain rfl : k = n := by omega
      rw [List.take_of_length_le (by have := HN.out; omega)] at hrow
      go_wp2
      go_loopw [5, 7] (fun v i w' => i = .int .i64 0 ∧ w'.ownsRow w.heap.size 5 1 v k (xs.map bv) ∧ Below w.heap.size w w') (fun _ i _ => 0)
      case atStart => exact ⟨rfl, hrow, hB⟩
      case round =>
        obtain ⟨rfl, hrow2, hB2⟩ := hrel
        go_wp2
        go_ret
        exact ⟨_, rfl, hrow2, hB2⟩
end Go.Proofs.Ytgiealcfhlcpoaa
set_option linter.unusedVariables false
namespace Go.Proofs.Ytgiealcfhlcpoaa
open Go.RowKit
theorem rjoin_at (xs : List UInt8) (n : Nat) (A : Option Addr) (c : Nat) (w : World) (hn : xs.length = n) (hl : n ≤ 100000) (hs : Sl w A c (xs.map bv)) (B : Nat) (hB : B ≤ w.heap.size) :
    Calls Try.prog 15 #[.slice A n c, .slice none 0 0] w fun e w' => ∃ A' c', e = .returned (.slice A' n c') ∧ Sl w' A' c' (xs.map bv) ∧ (∀ g, g < B → Far A' n g) ∧ Below w.heap.size w w' := by
  refine (rjoin_any xs n A c w hn hl hs).mono ?_
  rintro e w' ⟨v, rfl, ho, hb⟩
  obtain ⟨A', c', rfl, hl', hs'⟩ := Sl.of_own ho
  refine ⟨A', c', rfl, hs', fun g hg hpos b off he => ?_, hb⟩
  have hbk := (ho.lt b (by subst he; rfl)).1
  omega
end Go.Proofs.Ytgiealcfhlcpoaa
set_option linter.unusedVariables false
namespace Go.Proofs.Ytgiealcfhlcpoaa
open Go.RowKit
end Go.Proofs.Ytgiealcfhlcpoaa
set_option linter.unusedVariables false
namespace Go.Proofs.Ytgiealcfhlcpoaa
open Go.RowKit
end Go.Proofs.Ytgiealcfhlcpoaa
set_option linter.unusedVariables false
namespace Go.Proofs.Ytgiealcfhlcpoaa
open Go.RowKit
set_option maxRecDepth 100000 in
set_option maxHeartbeats 1000000 in
theorem rjoin2_own (xs ys : List UInt8) (n m : Nat) (A B : Option Addr) (c d : Nat) (w : World) (hn : xs.length = n) (hm : ys.length = m) (hl : n + m ≤ 10000000) (hs : Sl w A c (xs.map bv)) (ht : Sl w B d (ys.map bv)) :
    Calls Try.prog 15 #[.slice A n c, .slice B m d] w fun e w' => ∃ v, e = .returned v ∧ w'.ownsRow w.heap.size 5 1 v (n + m) ((xs ++ ys).map bv) ∧ Below w.heap.size w w' := by
  obtain ⟨i0, hi, hz0, hz1, hz2⟩ := info_parts Try.info5
  have hrd : BRd w A xs := hs.rd
  have hrd2 : BRd w B ys := ht.rd
  have HN := hid hn
  have HM := hid hm
  clear hn hm
  go_enter Try.func15, Try.ntmps15
  go_wp2
  go_loopw [5, 6] (fun v i wr => ∃ k : Nat, k ≤ n ∧ i = .int .i64 (k : Int) ∧ wr.ownsRow w.heap.size 5 1 v k ((xs.take k).map bv) ∧ Below w.heap.size w wr) (fun _ i _ => n - (intOf i).toNat)
  case atStart => exact ⟨0, by omega, rfl, World.ownsRow_nil _ _ _ _, Below.refl _ _⟩
  case round =>
    obtain ⟨k, hk, rfl, hrow, hB⟩ := hrel
    by_cases hlt : k < n
    · have hkl : k < xs.length := by have := HN.out; omega
      obtain ⟨b, off, rfl, hb, hc⟩ := BRd.at_ (hrd.below hB) hkl
      have htk : (xs.take (k + 1)).map bv = (xs.take k).map bv ++ [.int .u8 (xs[k].toNat : Int)] := by
        rw [List.take_succ_eq_append_getElem hkl, List.map_append]; rfl
      have HTK := hid htk
      clear htk
      have hx := xs[k].toNat_lt
      generalize xs[k].toNat = y at *
      have hszr := hB.size
      go_wp2_with (at_builtin; refine wpList_append_own _ rfl _ _ 25 rfl w.heap.size 5 i0 (.int .u8 0) 1 1 Try.underlying25 hi hz0 hz1 hz2 rfl (by decide) _ _ _ rfl (hrow.alloc _) ⟨wr.heap.size, 0, none⟩ 1 1 [.int .u8 (y : Int)] rfl rfl (cell_one_new _ _ _) (by simp [Value.oneCell']) (by simp only [maxLen]; omega) (by omega) (by simp; omega) ?_; intro v' w3 hown' hgrow' _)
      go_roundw
      case rel => exact ⟨k + 1, by omega, by go_num, by rw [HTK.out]; exact hown', (hB.alloc (by omega) _).grown hgrow' (by simp; omega) fun g eg => (hrow.lt g eg).1⟩
      case measure => simp [intOf]; omega
    · obtain rfl : k = n := by omega
      rw [List.take_of_length_le (by have := HN.out; omega)] at hrow
      go_wp2
      go_loopw [5, 7] (fun v i wr => ∃ j : Nat, j ≤ m ∧ i = .int .i64 (j : Int) ∧ wr.ownsRow w.heap.size 5 1 v (k + j) (xs.map bv ++ (ys.take j).map bv) ∧ Below w.heap.size w wr) (fun _ i _ => m - (intOf i).toNat)
      case atStart => exact ⟨0, by omega, rfl, by simpa using hrow, hB⟩
      case round =>
        obtain ⟨j, hj, rfl, hrow2, hB2⟩ := hrel
        by_cases hlt2 : j < m
        · have hjl : j < ys.length := by have := HM.out; omega
          obtain ⟨b, off, rfl, hb, hc⟩ := BRd.at_ (hrd2.below hB2) hjl
          have htk : xs.map bv ++ (ys.take (j + 1)).map bv = (xs.map bv ++ (ys.take j).map bv) ++ [.int .u8 (ys[j].toNat : Int)] := by
            rw [List.take_succ_eq_append_getElem hjl, List.map_append, List.append_assoc]; rfl
          have HTK := hid htk
          clear htk
          have hx := ys[j].toNat_lt
          generalize ys[j].toNat = y at *
          have hszr := hB2.size
          go_wp2_with (at_builtin; refine wpList_append_own _ rfl _ _ 25 rfl w.heap.size 5 i0 (.int .u8 0) 1 1 Try.underlying25 hi hz0 hz1 hz2 rfl (by decide) _ _ _ rfl (hrow2.alloc _) ⟨wr.heap.size, 0, none⟩ 1 1 [.int .u8 (y : Int)] rfl rfl (cell_one_new _ _ _) (by simp [Value.oneCell']) (by simp only [maxLen]; omega) (by omega) (by simp; omega) ?_; intro v' w3 hown' hgrow' _)
          go_roundw
          case rel => exact ⟨j + 1, by omega, by go_num, by rw [HTK.out, ← Nat.add_assoc]; exact hown', (hB2.alloc (by omega) _).grown hgrow' (by simp; omega) fun g eg => (hrow2.lt g eg).1⟩
          case measure => simp [intOf]; omega
        · obtain rfl : j = m := by omega
          rw [List.take_of_length_le (by have := HM.out; omega), ← List.map_append] at hrow2
          go_wp2
          go_ret
          exact ⟨_, rfl, hrow2, hB2⟩
theorem rjoin2_any (xs ys : List UInt8) (n m : Nat) (A B : Option Addr) (c d : Nat) (w : World) (hn : xs.length = n) (hm : ys.length = m) (hl : n + m ≤ 10000000) (hs : Sl w A c (xs.map bv)) (ht : Sl w B d (ys.map bv)) :
    Calls Try.prog 15 #[.slice A n c, .slice B m d] w fun e w' => ∃ A' c', e = .returned (.slice A' (n + m) c') ∧ Sl w' A' c' ((xs ++ ys).map bv) ∧ (∀ b o, A' = some ⟨b, o, none⟩ → w.heap.size ≤ b) ∧ Below w.heap.size w w' :=
  (rjoin2_own xs ys n m A B c d w hn hm hl hs ht).mono fun _ _ ⟨v, he, ho, hb⟩ => by
    obtain ⟨A', c', rfl, -, hsl⟩ := Sl.of_own ho
    exact ⟨A', c', he, hsl, fun b o he => (ho.lt b (by rw [he]; rfl)).1, hb⟩
end Go.Proofs.Ytgiealcfhlcpoaa
