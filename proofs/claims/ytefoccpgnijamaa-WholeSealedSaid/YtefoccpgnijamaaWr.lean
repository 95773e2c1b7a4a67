/- A writer in a block, and what its methods do. -/
import Derived.Test.YtefoccpgnijamaaProg
import Derived.Test.YtefoccpgnijamaaM1
import Derived.Test.YtefoccpgnijamaaM2
import Derived.Test.YtefoccpgnijamaaM3
set_option linter.unusedVariables false
namespace Go.Proofs.Ytefoccpgnijamaa
open Go.RowKit
theorem own_blk_ne {w : World} {B e s n q : Nat} {t : TypeId} {v : Value} {xs : List Value} {cs : Array Value} (h : w.ownsRow B e s v n xs) (hb : Blk w q t cs) (hne : t ≠ e) : v.ownBlock ≠ some q := by
  rcases h.2 with ⟨rfl, _⟩ | ⟨g, c, cur, rfl, _, hg, _⟩
  · simp [Value.ownBlock]
  · intro he
    have hgq : g = q := by simpa [Value.ownBlock] using he
    subst hgq
    rw [show w.heap[g]? = _ from hb] at hg
    injection hg with hg
    injection hg with _ ht
    exact hne ht
/-- A writer: its block, its row, how much there may be. -/
structure Wr (w : World) (B q : Nat) (v : Value) (bs : List UInt8) (most : Nat) : Prop where
  blk : Blk w q 77 #[v, .int .i64 (most : Int)]
  row : w.ownsRow B 5 1 v bs.length (bs.map bv)
  le : bs.length ≤ most
  lim : most ≤ 16777216
  low : B ≤ q
/-- The blocks of a writer. -/
def Oset (q : Nat) (v : Value) (k : Nat) : Prop := k = q ∨ v.ownBlock = some k
/-- What a write does to memory. -/
structure Stp (q : Nat) (v v' : Value) (n : Nat) (w w' : World) : Prop where
  chg : Chg (Oset q v) w w'
  new : NewOr w v v'
  views : Views 5 v n w w'
section
variable {w w1 w2 : World} {B q : Nat} {v v1 v2 : Value} {bs : List UInt8} {most n n1 : Nat}
theorem NewOr.trans (h : NewOr w v v1) (k : NewOr w1 v1 v2) (hz : w.heap.size ≤ w1.heap.size) : NewOr w v v2 := by
  rcases k with k | k
  · rcases h with h | h
    · exact .inl (k.trans h)
    · exact .inr fun g hg => h g (k ▸ hg)
  · exact .inr fun g hg => Nat.le_trans hz (k g hg)
theorem Oset.back (h : NewOr w v v1) {k : Nat} (hk : k < w.heap.size) (ho : Oset q v1 k) : Oset q v k := by
  rcases ho with ho | ho
  · exact .inl ho
  · rcases h with h | h
    · exact .inr (h ▸ ho)
    · have := h k ho; omega
theorem Stp.refl (q : Nat) (v : Value) (n : Nat) (w : World) : Stp q v v n w w := ⟨.refl _ _, .inl rfl, fun _ _ _ _ h _ => h⟩
theorem Stp.trans (h : Stp q v v1 n w w1) (k : Stp q v1 v2 n1 w1 w2) (hn : n ≤ n1) : Stp q v v2 n w w2 := by
  refine ⟨?_, h.new.trans k.new h.chg.size, ?_⟩
  · refine ⟨k.chg.os.trans h.chg.os, k.chg.tape.trans h.chg.tape, k.chg.output.trans h.chg.output, Nat.le_trans h.chg.size k.chg.size, fun i hi hq => ?_⟩
    rw [k.chg.block i (Nat.lt_of_lt_of_le hi h.chg.size) fun ho => hq (ho.back h.new hi)]
    exact h.chg.block i hi hq
  · intro B v0 n0 xs0 h0 hle
    refine k.views B v0 n0 xs0 (h.views B v0 n0 xs0 h0 hle) fun hne he => ?_
    rcases h.new with hv | hv
    · exact Nat.le_trans (hle hne (he.trans hv)) hn
    · exfalso
      cases hb : v0.ownBlock with
      | none => exact hne hb
      | some g =>
        have h1 := (h0.lt g hb).2
        have h2 := hv g (by rw [← he, hb])
        omega
theorem Stp.of_new (h : Below w.heap.size w w1) : Stp q v v n w w1 := ⟨.of_new h, .inl rfl, views_kept h⟩
theorem Wr.lt (h : Wr w B q v bs most) : q < w.heap.size := h.blk.lt
theorem Wr.ne (h : Wr w B q v bs most) : v.ownBlock ≠ some q := own_blk_ne h.row h.blk (by decide)
theorem Wr.new (h : Wr w B q v bs most) (hb : Below w.heap.size w w1) : Wr w1 B q v bs most := ⟨h.blk.below hb h.lt, own_below h.row hb, h.le, h.lim, h.low⟩
theorem Wr.chg {S : Nat → Prop} (h : Wr w B q v bs most) (hc : Chg S w w1) (hS : ∀ k, Oset q v k → ¬ S k) : Wr w1 B q v bs most := by
  refine ⟨hc.blk h.blk (hS q (.inl rfl)), ?_, h.le, h.lim, h.low⟩
  have hg : w.grownBy w1 none → w1.ownsRow B 5 1 v bs.length (bs.map bv) := fun hg => h.row.kept hg (by cases hv : v.ownBlock <;> simp)
  refine ⟨h.row.1, ?_⟩
  rcases h.row.2 with hn | ⟨g, cap, cur, hv, hb, hgg, rest⟩
  · exact .inl hn
  · refine .inr ⟨g, cap, cur, hv, hb, ?_, rest⟩
    rw [hc.block g (Array.getElem?_eq_some_iff.1 hgg).1 (hS g (.inr (by rw [hv]; rfl)))]
    exact hgg
theorem Wr.sets (h : Wr w B q v bs most) : ∀ k, Oset q v k → B ≤ k ∧ k < w.heap.size := by
  rintro k (rfl | hk)
  · exact ⟨h.low, h.lt⟩
  · exact h.row.lt k hk
theorem Stp.below (hs : Stp q v v1 n w w1) (h : Wr w B q v bs most) : Below B w w1 := hs.chg.below (fun k hk => (h.sets k hk).1) (Nat.le_of_lt (Nat.lt_of_le_of_lt h.low h.lt))
end
/-- What is written: the bytes then, and what is wrong. -/
def wput (most : Nat) (bs xs : List UInt8) : List UInt8 × Nat := if most < bs.length + xs.length then (bs, 14) else (bs ++ xs, 0)
theorem oleft_any (w : World) (B q : Nat) (v : Value) (bs : List UInt8) (most : Nat) (h : Wr w B q v bs most) :
    Calls Try.prog 58 #[.pointer (some ⟨q, 0, none⟩)] w fun e w' => e = .returned (.int .i64 ((most - bs.length : Nat) : Int)) ∧ ∃ n, w' = w.drewN n := by
  have hle := h.le
  have hlim := h.lim
  have c0 := h.blk.cell 0
  have c1 := h.blk.cell 1
  obtain ⟨A, c, rfl, hlen, hsl⟩ := Sl.of_own h.row
  simp at c0 c1
  clear h hsl hlen
  generalize bs.length = n at *
  have hc : ((most - n : Nat) : Int) = (most : Int) - (n : Int) := by omega
  have HC := hid hc
  clear hc
  go_enter Try.func58, Try.ntmps58
  go_wp2
  go_quiet (fail)
  go_wp2
  go_ret
  exact ⟨ret_int (by rw [HC.out]), _, rfl⟩
set_option maxRecDepth 100000 in
set_option maxHeartbeats 1000000 in
theorem raw_full (n : Nat) (A : Option Addr) (c : Nat) (w : World) (B q : Nat) (v : Value) (bs : List UInt8) (most : Nat) (hc : n ≤ 9223372036854775807) (h : Wr w B q v bs most) (hf : most < bs.length + n) :
    Calls Try.prog 44 #[.pointer (some ⟨q, 0, none⟩), .slice A n c] w fun e w' => e = .returned (.int .i64 14) ∧ ∃ k, w' = w.drewN k := by
  have hl := oleft_any w B q v bs most h
  have hle := h.le
  have hlim := h.lim
  have hd : ((most - bs.length : Nat) : Int) < (n : Int) := by omega
  generalize ((most - bs.length : Nat) : Int) = left at *
  have HL := hid hl
  clear hl h
  go_enter Try.func44, Try.ntmps44
  go_wp2_with fail
  refine HL.out.mono ?_
  rintro e w1 ⟨rfl, k, rfl⟩
  go_wp2_with fail
  go_ret
  exact ⟨rfl, _, rfl⟩
set_option maxRecDepth 100000 in
set_option maxHeartbeats 1000000 in
theorem raw_fits (xs : List UInt8) (n : Nat) (A : Option Addr) (c : Nat) (w : World) (B q : Nat) (v : Value) (bs : List UInt8) (most : Nat) (hn : xs.length = n) (hs : Sl w A c (xs.map bv)) (h : Wr w B q v bs most) (hf : bs.length + n ≤ most) :
    Calls Try.prog 44 #[.pointer (some ⟨q, 0, none⟩), .slice A n c] w fun e w' => ∃ v', e = .returned (.int .i64 0) ∧ Wr w' B q v' (bs ++ xs) most ∧ Stp q v v' bs.length w w' := by
  obtain ⟨i0, hi, hz0, hz1, hz2⟩ := info_parts Try.info5
  have hl := oleft_any w B q v bs most h
  have hle := h.le
  have hlim := h.lim
  have hd : (n : Int) ≤ ((most - bs.length : Nat) : Int) := by omega
  have c0 : w.cell? ⟨q, 0, none⟩ = some v := by simpa using h.blk.cell 0
  have f0 := h.blk.frozen 0
  have hql := h.lt
  have hBw : B ≤ w.heap.size := Nat.le_trans h.low (Nat.le_of_lt hql)
  have hrow := h.row
  have hne := h.ne
  obtain ⟨A0, cc0, rfl, hlen0, hsl0⟩ := Sl.of_own h.row
  have HH := hid h
  clear h hsl0 hlen0
  generalize hbn : bs.length = m at *
  generalize ((most - m : Nat) : Int) = left at *
  have HL := hid hl
  have HN := hid hn
  have HS := hid hs
  clear hl hn hs
  go_enter Try.func44, Try.ntmps44
  go_wp2_with fail
  refine HL.out.mono ?_
  rintro e w1 ⟨rfl, k, rfl⟩
  have hrowk : (w.drewN k).ownsRow B 5 1 (.slice A0 m cc0) m (bs.map bv) := own_drewN hrow k
  have hsk := HS.out.drewN k
  go_wp2_with (at_builtin; refine wpList_append_views rfl (.tmp 18) (.tmp 19) 32 rfl B 5 i0 (.int .u8 0) Try.underlying32 hi hz0 hz1 hz2 rfl _ _ _ rfl hrowk A n c (xs.map bv) rfl (by rw [List.length_map, HN.out]) hsk.rd hsk.nil0 (bv_one _) (by omega) hBw ?_; intro v1 w3 hown1 hgrow1 hnew1 hvw1; obtain ⟨A1, c1, rfl, -, -⟩ := Sl.of_own hown1; have hc3 : w3.cell? ⟨q, 0, none⟩ = some (.slice A0 m cc0) := hgrow1.cell (a := ⟨q, 0, none⟩) c0 (fun e => hne e.symm); have hf3 : w3.frozen? ⟨q, 0, none⟩ = false := (World.frozen?_of_block (a := ⟨q, 0, none⟩) (hgrow1.block q hql (fun e => hne e.symm))).trans f0)
  go_ret
  have hb3 : Blk w3 q 77 #[.slice A0 m cc0, .int .i64 (most : Int)] := by
    have h1 : w3.heap[q]? = w.heap[q]? := hgrow1.block q hql (fun e => hne e.symm)
    exact h1.trans HH.out.blk
  have hb4 := hb3.set_ 0 (.slice A1 (m + n) c1)
  have hlen : (bs ++ xs).length = m + n := by rw [List.length_append, hbn, HN.out]
  have hset : ∀ B' v0 n0 xs0, w3.ownsRow B' 5 1 v0 n0 xs0 → (w3.setCell ⟨q, 0, none⟩ (.slice A1 (m + n) c1)).ownsRow B' 5 1 v0 n0 xs0 := fun B' v0 n0 xs0 h0 =>
    h0.kept (row := some q) ⟨rfl, rfl, rfl, by simp [World.setCell], fun k _ hk => Below.heap_setCell w3 ⟨q, 0, none⟩ _ k (fun e => hk (by rw [e]))⟩ (.inr (own_blk_ne h0 hb3 (by decide)))
  refine ⟨_, rfl, ⟨by simpa using hb4, ?_, by rw [hlen]; exact hf, hlim, HH.out.low⟩, ?_, ?_, ?_⟩
  · rw [hlen, List.map_append]
    exact hset _ _ _ _ hown1
  · have hcg : Chg (Oset q (.slice A0 m cc0)) w w3 := ((Chg.refl _ w).drewN k).trans (.of_grown hgrow1 fun g hg => .inr hg)
    exact hcg.set_ (.inl (.inl rfl)) _ _
  · exact hnew1
  · intro B' v0 n0 xs0 h0 hle'
    exact hset _ _ _ _ (hvw1 B' v0 n0 xs0 (own_drewN h0 k) hle')
theorem raw_any (xs : List UInt8) (n : Nat) (A : Option Addr) (c : Nat) (w : World) (B q : Nat) (v : Value) (bs : List UInt8) (most : Nat) (hn : xs.length = n) (hs : Sl w A c (xs.map bv)) (h : Wr w B q v bs most) :
    Calls Try.prog 44 #[.pointer (some ⟨q, 0, none⟩), .slice A n c] w fun e w' => ∃ v', e = .returned (.int .i64 ((wput most bs xs).2 : Nat)) ∧ Wr w' B q v' (wput most bs xs).1 most ∧ Stp q v v' bs.length w w' := by
  by_cases hf : most < bs.length + n
  · have hw : wput most bs xs = (bs, 14) := by unfold wput; rw [hn, if_pos hf]
    rw [hw]
    refine (raw_full n A c w B q v bs most (by have h1 := hs.cap; have h2 := hs.small; rw [List.length_map] at h1; omega) h hf).mono ?_
    rintro e w' ⟨rfl, k, rfl⟩
    exact ⟨v, rfl, h.new (below_drewN (Below.refl _ w) k), .of_new (below_drewN (Below.refl _ w) k)⟩
  · have hw : wput most bs xs = (bs ++ xs, 0) := by unfold wput; rw [hn, if_neg hf]
    rw [hw]
    exact raw_fits xs n A c w B q v bs most hn hs h (by omega)
theorem wput_len (most : Nat) (bs xs : List UInt8) : bs.length ≤ (wput most bs xs).1.length := by unfold wput; split <;> simp
end Go.Proofs.Ytefoccpgnijamaa
