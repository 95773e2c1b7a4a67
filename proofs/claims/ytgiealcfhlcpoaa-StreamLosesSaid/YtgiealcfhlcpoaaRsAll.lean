/- resync.All, Ended, Could, Whole. -/
import Derived.Test.YtgiealcfhlcpoaaRsCol
import Derived.BigQuiet
import Derived.Deep.QuietTactic
set_option linter.unusedVariables false
namespace Go.Proofs.Ytgiealcfhlcpoaa
open Go.RowKit
theorem far_newS {w : World} {A : Option Addr} {c n : Nat} {bs : List UInt8} (h : Sl w A c (bs.map bv)) (hn : bs.length = n) (G : Nat) (hG : w.heap.size ≤ G) : FarS A n (fun q => q = G) := by
  intro hp b o he hq
  obtain ⟨b', off, rfl, hl, -⟩ := BRd.at_ h.rd (k := 0) (by omega)
  injection he with he
  injection he with h1 h2
  omega
theorem FdRow.slice {B : Nat} {w : World} {v : Value} {l : List Fnd} (h : FdRow B w v l) : ∃ A c, v = .slice A l.length c := by
  obtain ⟨fs, h1, h2, -⟩ := h
  obtain ⟨A, c, rfl⟩ := row_slice_g h2
  exact ⟨A, c, by rw [← h1, List.length_map]⟩
/-- What is found, and from where on it isn't known. -/
def AllR (w : World) (fin : Bool) (bs : List UInt8) (e : Ending) (w' : World) : Prop :=
  ∃ A c, e = .returned (.tuple #[.slice A (Rs.wk fin bs 0).1.length c, .int .i64 ((Rs.wk fin bs 0).2 : Nat)]) ∧ FdRow w.heap.size w' (.slice A (Rs.wk fin bs 0).1.length c) (Rs.wk fin bs 0).1 ∧ Below w.heap.size w w'
theorem scoll_any (fin : Bool) (bs : List UInt8) (n : Nat) (A : Option Addr) (c : Nat) (w : World) (W1 : World) (hn : bs.length = n) (hl : n ≤ 1000000) (hs : Sl w A c (bs.map bv)) (hW : W1 = (w.alloc (.cells #[.slice A n c, .bool fin, .int .i64 0] 55)).alloc (.cells #[.pointer (some ⟨w.heap.size, 0, none⟩)] 70)) :
    Calls Try.prog 19 #[.func (.func 27) #[] #[.pointer (some ⟨w.heap.size + 1, 0, none⟩)]] W1 fun e w' => (∃ A' c', e = .returned (.slice A' (Rs.wk fin bs 0).1.length c') ∧ FdRow w.heap.size w' (.slice A' (Rs.wk fin bs 0).1.length c') (Rs.wk fin bs 0).1) ∧ Blk w' w.heap.size 55 #[.slice A n c, .bool fin, .int .i64 ((Rs.wk fin bs 0).2 : Nat)] ∧ Below w.heap.size w w' := by
  subst hW
  have hb0 := bw_a (bw_a (Below.refl _ w) (.cells #[.slice A n c, .bool fin, .int .i64 0] 55)) (.cells #[.pointer (some ⟨w.heap.size, 0, none⟩)] 70)
  have hk0 := (Blk.new w 55 #[.slice A n c, .bool fin, .int .i64 0]).alloc (.cells #[.pointer (some ⟨w.heap.size, 0, none⟩)] 70)
  have hk1 := Blk.new (w.alloc (.cells #[.slice A n c, .bool fin, .int .i64 0] 55)) 70 #[.pointer (some ⟨w.heap.size, 0, none⟩)]
  rw [World.size_alloc] at hk1
  refine ((callsIn_wide (n := 8)).1 (scollect_in 8 (by omega) fin bs n A c w.heap.size (w.heap.size + 1) _ hn hl (hs.below hb0) (far_newS hs hn _ (Nat.le_refl _)) hk0 hk1 (by omega))).mono ?_
  rintro e w' ⟨⟨v, rfl, hrow, hch⟩, hg⟩
  obtain ⟨A', c', rfl⟩ := hrow.slice
  exact ⟨⟨A', c', rfl, hrow.mono hb0.size⟩, hg, hb0.trans (hch.below (B := w.heap.size) (fun k hk => by omega) hb0.size)⟩
set_option maxRecDepth 100000 in
set_option maxHeartbeats 2000000 in
theorem sall_any (bs : List UInt8) (n : Nat) (A : Option Addr) (c : Nat) (w : World) (hn : bs.length = n) (hl : n ≤ 1000000) (hs : Sl w A c (bs.map bv)) :
    Calls Try.prog 9 #[.slice A n c] w (AllR w false bs) := by
  have hR : AllR w false bs = fun e w' => ∃ A c, e = .returned (.tuple #[.slice A (Rs.wk false bs 0).1.length c, .int .i64 ((Rs.wk false bs 0).2 : Nat)]) ∧ FdRow w.heap.size w' (.slice A (Rs.wk false bs 0).1.length c) (Rs.wk false bs 0).1 ∧ Below w.heap.size w w' := rfl
  generalize AllR w false bs = R at *
  have hcol := scoll_any false bs n A c w _ hn hl hs rfl
  have hfr := fun W q => (callsIn_wide (n := 8)).1 (sframes_in 8 q W)
  generalize hl2 : (Rs.wk false bs 0).1 = L at *
  generalize hN : L.length = N at *
  generalize hE : (Rs.wk false bs 0).2 = E at *
  have HCOL := hid hcol
  have HFR := hid hfr
  have HR := hid hR
  clear hcol hfr hR hn hs hl2 hN hE
  go_enter Try.func9, Try.ntmps9
  go_wp2_with fail
  refine (HFR.out _ _).mono ?_
  rintro e w1 ⟨rfl, rfl⟩
  rw [World.size_alloc]
  go_wp2_with fail
  refine HCOL.out.mono ?_
  rintro e w2 ⟨⟨A', c', rfl, hrow⟩, hg, hb⟩
  have g2 := hg.cell 2
  simp only [List.getElem?_toArray, List.getElem?_cons_zero, List.getElem?_cons_succ] at g2
  have hgl := hg.lt
  have HROW := hid hrow
  have HB := hid hb
  clear hrow hg hb
  go_wp2_with fail
  go_quiet (fail)
  go_wp2_with fail
  rw [HR.out]
  exact ⟨A', c', rfl, HROW.out.below (bw_d (Below.refl _ w2) _), bw_d HB.out _⟩
/-- The places at which frames stand. -/
def Rs.whole (bs : List UInt8) (k : Nat) : List Nat := (List.range k).filter fun i => decide (Fr.rE (bs.drop i) = 0)
theorem Rs.whole_succ (bs : List UInt8) (k : Nat) : Rs.whole bs (k + 1) = if Fr.rE (bs.drop k) = 0 then Rs.whole bs k ++ [k] else Rs.whole bs k := by
  unfold Rs.whole
  rw [List.range_succ, List.filter_append]
  by_cases h : Fr.rE (bs.drop k) = 0
  · simp [h]
  · simp [h]
theorem Rs.whole_len (bs : List UInt8) (k : Nat) : (Rs.whole bs k).length ≤ k := by
  unfold Rs.whole
  have := List.length_filter_le (fun i => decide (Fr.rE (bs.drop i) = 0)) (List.range k)
  simpa using this
end Go.Proofs.Ytgiealcfhlcpoaa
