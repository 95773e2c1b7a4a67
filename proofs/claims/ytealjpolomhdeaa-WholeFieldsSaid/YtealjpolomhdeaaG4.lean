/- A writer in a block, and what its methods do. · skip.put: a field's bytes behind bytes. · skip.Put in one piece. · skip.Put of few fields with long bytes. · skip.End. · The fields of bytes: shifted; of bytes that were put; of fields that were read. · schema.Wire, schema.Most, and the document's. · What is wrong with a field: value's upTo, list, wrong. · The document's one, Place, Default. · What is wrong with a field (value.wrong); what stands in a place, has it nothing, what is wrong (the document's Place, Default, one). · What is wrong with a message: value.Check. · skip.own, and the functions of Of and Without. · skip.Of, skip.Without, skip.Last. · skip.Last. · What must be whatever is asked: layer 6. · What was read: numbers, lengths, places; End by the fields' words. · Fields alike; few fields. · The document's Same of fields. · The document's Place, Default and one of a message's field. · The document's Default and one of a message's field; Texts. · The document's one and Same of messages. · Short messages (the document's Small); value.Clean. · encode.parts: the fields of a field that has something. · What must be whatever is asked: layer 9. · The document's Bytes, Bare and Put of fields. · The document's Put of fields. · The walk of SkipAgain. · The walk of SkipPuts. · skip.Without of fields with long bytes. · The mathematics of ValueGrows: what a later version says of a message, and what is said of a cleaned one. · encode.parts of a text. · encode.parts of a number with a sign. · encode.parts of a list. · encode.parts of a list: the walk. · encode.Field. · A field's bytes, in the document's words. · The document's Field. -/
import Derived.Test.YtealjpolomhdeaaProg
import Derived.Test.YtealjpolomhdeaaG0
import Derived.Test.YtealjpolomhdeaaM2
import Derived.Test.YtealjpolomhdeaaG2
import Derived.Test.YtealjpolomhdeaaG3
import Derived.Deep.RegionHeld3
import Derived.Lib.ConvBytes
import Derived.Deep.QuietTactic
import Derived.BigQuiet
import Derived.Laws.AppendOwn
import Derived.Deep.AppendLies
import Derived.OwnWalk
import Derived.Laws.Pointers
set_option linter.unusedVariables false
namespace Go.Proofs.Ytealjpolomhdeaa
open Go.RowKit
theorem own_blk_ne {w : World} {B e s n q : Nat} {t : TypeId} {v : Value} {xs : List Value} {cs : Array Value} (h : w.ownsRow B e s v n xs) (hb : Blk w q t cs) (hne : t ≠ e) : v.ownBlock ≠ some q := by
  rcases h.2 with ⟨rfl, _⟩ | ⟨g, c, cur, rfl, _, hg, _⟩
  · simp [Value.ownBlock]
  · intro he
    have hgq : g = q := by simpa [Value.ownBlock] using he
    subst hgq
    rw [show w.heap[g]? = _ from hb] at hg
    injection hg with hg
    injection hg with _ ht
    exact hne ht
/-- The blocks of a writer. -/
def Oset (q : Nat) (v : Value) (k : Nat) : Prop := k = q ∨ v.ownBlock = some k
/-- What a write does to memory. -/
structure Stp (q : Nat) (v v' : Value) (n : Nat) (w w' : World) : Prop where
  chg : Chg (Oset q v) w w'
  new : NewOr w v v'
  views : Views 5 v n w w'
section
variable {w w1 w2 : World} {B q : Nat} {v v1 v2 : Value} {bs : List UInt8} {most n n1 : Nat}
theorem NewOr.trans (h : NewOr w v v1) (k : NewOr w1 v1 v2) (hz : w.heap.size ≤ w1.heap.size) : NewOr w v v2 := by
  rcases k with k | k
  · rcases h with h | h
    · exact .inl (k.trans h)
    · exact .inr fun g hg => h g (k ▸ hg)
  · exact .inr fun g hg => Nat.le_trans hz (k g hg)
theorem Oset.back (h : NewOr w v v1) {k : Nat} (hk : k < w.heap.size) (ho : Oset q v1 k) : Oset q v k := by
  rcases ho with ho | ho
  · exact .inl ho
  · rcases h with h | h
    · exact .inr (h ▸ ho)
    · have := h k ho; omega
theorem Stp.refl (q : Nat) (v : Value) (n : Nat) (w : World) : Stp q v v n w w := ⟨.refl _ _, .inl rfl, fun _ _ _ _ h _ => h⟩
theorem Stp.trans (h : Stp q v v1 n w w1) (k : Stp q v1 v2 n1 w1 w2) (hn : n ≤ n1) : Stp q v v2 n w w2 := by
  refine ⟨?_, h.new.trans k.new h.chg.size, ?_⟩
  · refine ⟨k.chg.os.trans h.chg.os, k.chg.tape.trans h.chg.tape, k.chg.output.trans h.chg.output, Nat.le_trans h.chg.size k.chg.size, fun i hi hq => ?_⟩
    rw [k.chg.block i (Nat.lt_of_lt_of_le hi h.chg.size) fun ho => hq (ho.back h.new hi)]
    exact h.chg.block i hi hq
  · intro B v0 n0 xs0 h0 hle
    refine k.views B v0 n0 xs0 (h.views B v0 n0 xs0 h0 hle) fun hne he => ?_
    rcases h.new with hv | hv
    · exact Nat.le_trans (hle hne (he.trans hv)) hn
    · exfalso
      cases hb : v0.ownBlock with
      | none => exact hne hb
      | some g =>
        have h1 := (h0.lt g hb).2
        have h2 := hv g (by rw [← he, hb])
        omega
theorem Stp.of_new (h : Below w.heap.size w w1) : Stp q v v n w w1 := ⟨.of_new h, .inl rfl, views_kept h⟩
end
end Go.Proofs.Ytealjpolomhdeaa
set_option linter.unusedVariables false
namespace Go.Proofs.Ytealjpolomhdeaa
open Go.RowKit
def pTail (x : Int) (n : Nat) (xs : List UInt8) : List UInt8 := if x = 0 then putN n else if x = 1 then fixN 8 n else if x = 2 then putN xs.length ++ xs else fixN 4 (n % 4294967296)
def pErr (num x : Int) (xs : List UInt8) : Nat := if (mk num x).2 ≠ 0 then (mk num x).2.toNat else if x = 2 ∧ 8192 < xs.length then 2 else 0
def pB (num x : Int) (n : Nat) (xs : List UInt8) : List UInt8 := putN (mk num x).1.toNat ++ pTail x n xs
theorem pTail_len {x : Int} {n : Nat} {xs : List UInt8} (hn : n ≤ 18446744073709551615) (hl : xs.length ≤ 100000) : (pTail x n xs).length ≤ 10 + xs.length := by
  unfold pTail
  split
  · have := putN_length10 hn; omega
  · split
    · rw [length_fixN]; omega
    · split
      · have := putN_length10 (n := xs.length) (by omega); rw [List.length_append]; omega
      · rw [length_fixN]; omega
/-- What put comes to. -/
def SPut (B bl : Nat) (bs : List UInt8) (num x : Int) (n : Nat) (xs : List UInt8) (w : World) (e : Ending) (W' : World) : Prop :=
  ((pErr num x xs = 0 ∧ ∃ v', e = .returned (.tuple #[v', .int .i64 0]) ∧ W'.ownsRow B 5 1 v' (bl + (pB num x n xs).length) ((bs ++ pB num x n xs).map bv)) ∨ (pErr num x xs ≠ 0 ∧ e = .returned (.tuple #[.slice none 0 0, .int .i64 (pErr num x xs : Nat)]))) ∧ Below B w W'
/-- What put keeps. -/
structure PS (w : World) (B z : Nat) (fs : Array Value) (A : Option Addr) (c : Nat) (xs : List UInt8) (v : Value) (n : Nat) (bs : List UInt8) (W : World) : Prop where
  own : W.ownsRow B 5 1 v n (bs.map bv)
  fld : Blk W z 56 fs
  src : Sl W A c (xs.map bv)
  bel : Below B w W
theorem PS.new {w : World} {B z : Nat} {fs : Array Value} {A : Option Addr} {c : Nat} {xs : List UInt8} {v : Value} {n : Nat} {bs : List UInt8} {W W' : World} (h : PS w B z fs A c xs v n bs W) (hB : B ≤ W.heap.size) (hb : Below W.heap.size W W') : PS w B z fs A c xs v n bs W' :=
  ⟨own_below h.own hb, h.fld.below hb h.fld.lt, h.src.below hb, h.bel.trans (hb.mono hB)⟩
theorem PS.grow {w : World} {B z : Nat} {fs : Array Value} {A : Option Addr} {c : Nat} {xs : List UInt8} {v v' : Value} {n n' : Nat} {bs bs' : List UInt8} {W W' : World} (h : PS w B z fs A c xs v n bs W) (hf : FarS A xs.length (fun k => B ≤ k)) (hB : B ≤ W.heap.size) (hg : W.grownBy W' v.ownBlock) (ho : W'.ownsRow B 5 1 v' n' (bs.map bv ++ bs'.map bv)) : PS w B z fs A c xs v' n' (bs ++ bs') W' :=
  ⟨by rw [List.map_append]; exact ho, (hg.block z h.fld.lt (fun e => own_blk_ne h.own h.fld (by decide) e.symm)).trans h.fld,
    (Chg.of_grown hg fun g e => (h.own.lt g e).1).sl h.src hf (by simp), h.bel.grown hg hB fun k e => (h.own.lt k e).1⟩
set_option maxRecDepth 100000 in
set_option maxHeartbeats 2000000 in
theorem sput_any (w : World) (B : Nat) (v : Value) (bs : List UInt8) (bl : Nat) (num x : Int) (n : Nat) (A : Option Addr) (c xl : Nat) (xs : List UInt8) (at_ : Int) (hxl : xs.length = xl) (hl : xl ≤ 100000) (hn : n ≤ 18446744073709551615) (hx0 : 0 ≤ x) (hx1 : x ≤ 255) (hbl : bs.length = bl) (hb9 : bl ≤ 1000000000)
    (ho : w.ownsRow B 5 1 v bl (bs.map bv)) (hB : B ≤ w.heap.size) (hs : Sl w A c (xs.map bv)) (hf : FarS A xl (fun k => B ≤ k)) :
    Calls Try.prog 49 #[v, .agg #[.int .i64 num, .int .u8 x, .int .u64 (n : Int), .slice A xl c, .int .i64 at_]] w (SPut B bl bs num x n xs w) := by
  obtain ⟨i0, hi, hz0, hz1, hz2⟩ := info_parts Try.info5
  have hmf := mk_facts num x hx0 hx1
  have hmk := fun W => make_any num x W hx0 hx1
  have HMK := hid hmk
  have HO := hid ho
  have HS := hid hs
  have HF := hid hf
  clear hmk ho hs hf
  by_cases he : (mk num x).2 = 0
  · obtain ⟨hm1, hm2, hw, -⟩ := mk_ok_inv he
    have hx : x = 0 ∨ x = 1 ∨ x = 2 ∨ x = 5 := by
      have := wireB_lt hw
      unfold wireB at hw
      simp at hw
      omega
    obtain ⟨k, hk⟩ : ∃ k : Nat, (mk num x).1 = (k : Int) := ⟨(mk num x).1.toNat, by omega⟩
    have hk64 : k ≤ 18446744073709551615 := by omega
    have hpe : pErr num x xs = if x = 2 ∧ 8192 < xs.length then 2 else 0 := by unfold pErr; rw [if_neg (by omega)]
    have hpb : pB num x n xs = putN k ++ pTail x n xs := by unfold pB; rw [hk]; rfl
    have hk10 := putN_length10 hk64
    have hmk := HMK.out
    rw [he, hk] at hmk
    have HMK := hid hmk
    clear hmk hmf
    have HPE := hid hpe
    have HPB := hid hpb
    clear hpe hpb
    generalize hpp : putN k = P at *
    have hvp := fun W => vput_any k W hk64
    rw [hpp] at hvp
    have HVP := hid hvp
    clear hvp hpp
    rcases hx with rfl | rfl | rfl | rfl
    · go_enter Try.func49, Try.ntmps49
      go_wp2_with (go_at_call 74; refine (HMK.out _).mono ?_; rintro e w' ⟨rfl, rfl⟩)
      refine (HVP.out _).mono ?_
      rintro e w1 ⟨A1, c1, rfl, hs1, hb1⟩
      have HS1 := hid hs1
      have hsz : B ≤ w1.heap.size := by have := hb1.size; simp at this; omega
      have HSZ1 := hid hsz
      have PS1 := hid (PS.new (PS.mk (z := w.heap.size) (HO.out.alloc _) (Blk.new w 56 #[.int .i64 num, .int .u8 0, .int .u64 (n : Int), .slice A xl c, .int .i64 at_]) (HS.out.below (bw_a (Below.refl _ w) _)) ((Below.refl B w).alloc hB _)) (by simp; omega) hb1)
      have HFF := hid (show FarS A xs.length (fun k => B ≤ k) by rw [hxl]; exact HF.out)
      clear hs1 hb1 hsz HO HS HF HVP HMK
      go_wp2_with (at_builtin; refine wpList_append_rd rfl _ _ 22 rfl B 5 i0 (.int .u8 0) 1 1 Try.underlying22 hi hz0 hz1 hz2 rfl (by decide) v (bl) ((bs).map bv) rfl PS1.out.own A1 (P.length) c1 ((P).map bv) rfl (by simp) HS1.out.rd HS1.out.nil0 (bv_one _) (by simp only [maxLen]; omega) (by omega) HSZ1.out ?_; intro v2 w2 hown hgrow; obtain ⟨vA2, vc2, rfl, -, -⟩ := Sl.of_own hown; have PS2 := hid (PS1.out.grow HFF.out HSZ1.out hgrow hown); have HSZ2 := hid (Nat.le_trans HSZ1.out hgrow.size); clear hown hgrow; have d1 := PS2.out.fld.cell 1; have d2 := PS2.out.fld.cell 2; have d3 := PS2.out.fld.cell 3; simp only [List.getElem?_toArray, List.getElem?_cons_zero, List.getElem?_cons_succ] at d1 d2 d3)
      refine (vput_any n _ hn).mono ?_
      rintro e w3 ⟨A3, c3, rfl, hs3, hb3⟩
      have HS3 := hid hs3
      have PS3 := hid (PS2.out.new HSZ2.out hb3)
      have HSZ3 := hid (Nat.le_trans HSZ2.out hb3.size)
      clear hs3 hb3 d1 d2 d3
      have hl3 := putN_length10 hn
      generalize hq : putN n = Q at *
      go_wp2_with (at_builtin; refine wpList_append_rd rfl _ _ 22 rfl B 5 i0 (.int .u8 0) 1 1 Try.underlying22 hi hz0 hz1 hz2 rfl (by decide) _ (bl + P.length) ((bs ++ P).map bv) rfl PS3.out.own A3 (Q.length) c3 ((Q).map bv) rfl (by simp) HS3.out.rd HS3.out.nil0 (bv_one _) (by simp only [maxLen]; omega) (by omega) HSZ3.out ?_; intro v4 w4 hown hgrow; obtain ⟨vA4, vc4, rfl, -, -⟩ := Sl.of_own hown; have PS4 := hid (PS3.out.grow HFF.out HSZ3.out hgrow hown); have HSZ4 := hid (Nat.le_trans HSZ3.out hgrow.size); clear hown hgrow; have d1 := PS4.out.fld.cell 1; have d2 := PS4.out.fld.cell 2; have d3 := PS4.out.fld.cell 3; simp only [List.getElem?_toArray, List.getElem?_cons_zero, List.getElem?_cons_succ] at d1 d2 d3)
      go_ret2
      refine ⟨.inl ⟨by rw [HPE.out, if_neg (by omega)], _, rfl, ?_⟩, PS4.out.bel⟩
      have ht : pTail 0 n xs = Q := by rw [← hq]; rfl
      rw [HPB.out, ht, List.length_append, ← Nat.add_assoc, ← List.append_assoc]
      exact PS4.out.own
    · go_enter Try.func49, Try.ntmps49
      go_wp2_with (go_at_call 74; refine (HMK.out _).mono ?_; rintro e w' ⟨rfl, rfl⟩)
      refine (HVP.out _).mono ?_
      rintro e w1 ⟨A1, c1, rfl, hs1, hb1⟩
      have HS1 := hid hs1
      have hsz : B ≤ w1.heap.size := by have := hb1.size; simp at this; omega
      have HSZ1 := hid hsz
      have PS1 := hid (PS.new (PS.mk (z := w.heap.size) (HO.out.alloc _) (Blk.new w 56 #[.int .i64 num, .int .u8 1, .int .u64 (n : Int), .slice A xl c, .int .i64 at_]) (HS.out.below (bw_a (Below.refl _ w) _)) ((Below.refl B w).alloc hB _)) (by simp; omega) hb1)
      have HFF := hid (show FarS A xs.length (fun k => B ≤ k) by rw [hxl]; exact HF.out)
      clear hs1 hb1 hsz HO HS HF HVP HMK
      go_wp2_with (at_builtin; refine wpList_append_rd rfl _ _ 22 rfl B 5 i0 (.int .u8 0) 1 1 Try.underlying22 hi hz0 hz1 hz2 rfl (by decide) v (bl) ((bs).map bv) rfl PS1.out.own A1 (P.length) c1 ((P).map bv) rfl (by simp) HS1.out.rd HS1.out.nil0 (bv_one _) (by simp only [maxLen]; omega) (by omega) HSZ1.out ?_; intro v2 w2 hown hgrow; obtain ⟨vA2, vc2, rfl, -, -⟩ := Sl.of_own hown; have PS2 := hid (PS1.out.grow HFF.out HSZ1.out hgrow hown); have HSZ2 := hid (Nat.le_trans HSZ1.out hgrow.size); clear hown hgrow; have d1 := PS2.out.fld.cell 1; have d2 := PS2.out.fld.cell 2; have d3 := PS2.out.fld.cell 3; simp only [List.getElem?_toArray, List.getElem?_cons_zero, List.getElem?_cons_succ] at d1 d2 d3)
      refine (fix64_any n hn _).mono ?_
      rintro e w3 ⟨A3, c3, rfl, hs3, hb3⟩
      have HS3 := hid hs3
      have PS3 := hid (PS2.out.new HSZ2.out hb3)
      have HSZ3 := hid (Nat.le_trans HSZ2.out hb3.size)
      clear hs3 hb3 d1 d2 d3
      have hl3 := length_fixN 8 n
      generalize hq : fixN 8 n = Q at *
      go_wp2_with (at_builtin; refine wpList_append_rd rfl _ _ 22 rfl B 5 i0 (.int .u8 0) 1 1 Try.underlying22 hi hz0 hz1 hz2 rfl (by decide) _ (bl + P.length) ((bs ++ P).map bv) rfl PS3.out.own A3 (8) c3 ((Q).map bv) rfl (by simp [hl3]) HS3.out.rd HS3.out.nil0 (bv_one _) (by simp only [maxLen]; omega) (by omega) HSZ3.out ?_; intro v4 w4 hown hgrow; obtain ⟨vA4, vc4, rfl, -, -⟩ := Sl.of_own hown; have PS4 := hid (PS3.out.grow HFF.out HSZ3.out hgrow hown); have HSZ4 := hid (Nat.le_trans HSZ3.out hgrow.size); clear hown hgrow; have d1 := PS4.out.fld.cell 1; have d2 := PS4.out.fld.cell 2; have d3 := PS4.out.fld.cell 3; simp only [List.getElem?_toArray, List.getElem?_cons_zero, List.getElem?_cons_succ] at d1 d2 d3)
      go_ret2
      refine ⟨.inl ⟨by rw [HPE.out, if_neg (by omega)], _, rfl, ?_⟩, PS4.out.bel⟩
      have ht : pTail 1 n xs = Q := by rw [← hq]; rfl
      rw [HPB.out, ht, List.length_append, ← Nat.add_assoc, ← List.append_assoc, hl3]
      exact PS4.out.own
    · by_cases hlong : 8192 < xl
      · go_enter Try.func49, Try.ntmps49
        go_wp2_with (go_at_call 74; refine (HMK.out _).mono ?_; rintro e w' ⟨rfl, rfl⟩)
        refine (HVP.out _).mono ?_
        rintro e w1 ⟨A1, c1, rfl, hs1, hb1⟩
        have HS1 := hid hs1
        have hsz : B ≤ w1.heap.size := by have := hb1.size; simp at this; omega
        have HSZ1 := hid hsz
        have PS1 := hid (PS.new (PS.mk (z := w.heap.size) (HO.out.alloc _) (Blk.new w 56 #[.int .i64 num, .int .u8 2, .int .u64 (n : Int), .slice A xl c, .int .i64 at_]) (HS.out.below (bw_a (Below.refl _ w) _)) ((Below.refl B w).alloc hB _)) (by simp; omega) hb1)
        have HFF := hid (show FarS A xs.length (fun k => B ≤ k) by rw [hxl]; exact HF.out)
        clear hs1 hb1 hsz HO HS HF HVP HMK
        go_wp2_with (at_builtin; refine wpList_append_rd rfl _ _ 22 rfl B 5 i0 (.int .u8 0) 1 1 Try.underlying22 hi hz0 hz1 hz2 rfl (by decide) v (bl) ((bs).map bv) rfl PS1.out.own A1 (P.length) c1 ((P).map bv) rfl (by simp) HS1.out.rd HS1.out.nil0 (bv_one _) (by simp only [maxLen]; omega) (by omega) HSZ1.out ?_; intro v2 w2 hown hgrow; obtain ⟨vA2, vc2, rfl, -, -⟩ := Sl.of_own hown; have PS2 := hid (PS1.out.grow HFF.out HSZ1.out hgrow hown); have HSZ2 := hid (Nat.le_trans HSZ1.out hgrow.size); clear hown hgrow; have d1 := PS2.out.fld.cell 1; have d2 := PS2.out.fld.cell 2; have d3 := PS2.out.fld.cell 3; simp only [List.getElem?_toArray, List.getElem?_cons_zero, List.getElem?_cons_succ] at d1 d2 d3)
        go_ret2
        have hpe : pErr num 2 xs = 2 := by rw [HPE.out]; simp [hxl, hlong]
        refine ⟨.inr ⟨by rw [hpe]; decide, by rw [hpe]; rfl⟩, PS2.out.bel⟩
      · go_enter Try.func49, Try.ntmps49
        go_wp2_with (go_at_call 74; refine (HMK.out _).mono ?_; rintro e w' ⟨rfl, rfl⟩)
        refine (HVP.out _).mono ?_
        rintro e w1 ⟨A1, c1, rfl, hs1, hb1⟩
        have HS1 := hid hs1
        have hsz : B ≤ w1.heap.size := by have := hb1.size; simp at this; omega
        have HSZ1 := hid hsz
        have PS1 := hid (PS.new (PS.mk (z := w.heap.size) (HO.out.alloc _) (Blk.new w 56 #[.int .i64 num, .int .u8 2, .int .u64 (n : Int), .slice A xl c, .int .i64 at_]) (HS.out.below (bw_a (Below.refl _ w) _)) ((Below.refl B w).alloc hB _)) (by simp; omega) hb1)
        have HFF := hid (show FarS A xs.length (fun k => B ≤ k) by rw [hxl]; exact HF.out)
        clear hs1 hb1 hsz HO HS HF HVP HMK
        go_wp2_with (at_builtin; refine wpList_append_rd rfl _ _ 22 rfl B 5 i0 (.int .u8 0) 1 1 Try.underlying22 hi hz0 hz1 hz2 rfl (by decide) v (bl) ((bs).map bv) rfl PS1.out.own A1 (P.length) c1 ((P).map bv) rfl (by simp) HS1.out.rd HS1.out.nil0 (bv_one _) (by simp only [maxLen]; omega) (by omega) HSZ1.out ?_; intro v2 w2 hown hgrow; obtain ⟨vA2, vc2, rfl, -, -⟩ := Sl.of_own hown; have PS2 := hid (PS1.out.grow HFF.out HSZ1.out hgrow hown); have HSZ2 := hid (Nat.le_trans HSZ1.out hgrow.size); clear hown hgrow; have d1 := PS2.out.fld.cell 1; have d2 := PS2.out.fld.cell 2; have d3 := PS2.out.fld.cell 3; simp only [List.getElem?_toArray, List.getElem?_cons_zero, List.getElem?_cons_succ] at d1 d2 d3)
        have hvx := fun W => vput_any xl W (by omega)
        have hl3 := putN_length10 (n := xl) (by omega)
        generalize hq : putN xl = Q at *
        have HVX := hid hvx
        clear hvx
        refine (HVX.out _).mono ?_
        rintro e w3 ⟨A3, c3, rfl, hs3, hb3⟩
        have HS3 := hid hs3
        have PS3 := hid (PS2.out.new HSZ2.out hb3)
        have HSZ3 := hid (Nat.le_trans HSZ2.out hb3.size)
        clear hs3 hb3 d1 d2 d3
        go_wp2_with (first | (at_builtin; refine wpList_append_rd rfl _ _ 22 rfl B 5 i0 (.int .u8 0) 1 1 Try.underlying22 hi hz0 hz1 hz2 rfl (by decide) _ (bl + P.length) ((bs ++ P).map bv) rfl PS3.out.own A3 (Q.length) c3 ((Q).map bv) rfl (by simp) HS3.out.rd HS3.out.nil0 (bv_one _) (by simp only [maxLen]; omega) (by omega) HSZ3.out ?_; intro v4 w4 hown hgrow; obtain ⟨vA4, vc4, rfl, -, -⟩ := Sl.of_own hown; have PS4 := hid (PS3.out.grow HFF.out HSZ3.out hgrow hown); have HSZ4 := hid (Nat.le_trans HSZ3.out hgrow.size); clear hown hgrow; have d1 := PS4.out.fld.cell 1; have d2 := PS4.out.fld.cell 2; have d3 := PS4.out.fld.cell 3; simp only [List.getElem?_toArray, List.getElem?_cons_zero, List.getElem?_cons_succ] at d1 d2 d3) | (at_builtin; refine wpList_append_rd rfl _ _ 22 rfl B 5 i0 (.int .u8 0) 1 1 Try.underlying22 hi hz0 hz1 hz2 rfl (by decide) _ (bl + P.length + Q.length) ((bs ++ P ++ Q).map bv) rfl PS4.out.own A (xl) c ((xs).map bv) rfl (by simp [hxl]) PS4.out.src.rd PS4.out.src.nil0 (bv_one _) (by simp only [maxLen]; omega) (by omega) HSZ4.out ?_; intro v5 w5 hown hgrow; obtain ⟨vA5, vc5, rfl, -, -⟩ := Sl.of_own hown; have PS5 := hid (PS4.out.grow HFF.out HSZ4.out hgrow hown); have HSZ5 := hid (Nat.le_trans HSZ4.out hgrow.size); clear hown hgrow; have d1 := PS5.out.fld.cell 1; have d2 := PS5.out.fld.cell 2; have d3 := PS5.out.fld.cell 3; simp only [List.getElem?_toArray, List.getElem?_cons_zero, List.getElem?_cons_succ] at d1 d2 d3))
        go_ret2
        refine ⟨.inl ⟨by rw [HPE.out, if_neg (by omega)], _, rfl, ?_⟩, PS5.out.bel⟩
        have ht : pTail 2 n xs = Q ++ xs := by rw [← hq, ← hxl]; rfl
        rw [HPB.out, ht, List.length_append, List.length_append, hxl, ← Nat.add_assoc, ← Nat.add_assoc, ← List.append_assoc, ← List.append_assoc]
        exact PS5.out.own
    · go_enter Try.func49, Try.ntmps49
      go_wp2_with (go_at_call 74; refine (HMK.out _).mono ?_; rintro e w' ⟨rfl, rfl⟩)
      refine (HVP.out _).mono ?_
      rintro e w1 ⟨A1, c1, rfl, hs1, hb1⟩
      have HS1 := hid hs1
      have hsz : B ≤ w1.heap.size := by have := hb1.size; simp at this; omega
      have HSZ1 := hid hsz
      have PS1 := hid (PS.new (PS.mk (z := w.heap.size) (HO.out.alloc _) (Blk.new w 56 #[.int .i64 num, .int .u8 5, .int .u64 (n : Int), .slice A xl c, .int .i64 at_]) (HS.out.below (bw_a (Below.refl _ w) _)) ((Below.refl B w).alloc hB _)) (by simp; omega) hb1)
      have HFF := hid (show FarS A xs.length (fun k => B ≤ k) by rw [hxl]; exact HF.out)
      clear hs1 hb1 hsz HO HS HF HVP HMK
      go_wp2_with (at_builtin; refine wpList_append_rd rfl _ _ 22 rfl B 5 i0 (.int .u8 0) 1 1 Try.underlying22 hi hz0 hz1 hz2 rfl (by decide) v (bl) ((bs).map bv) rfl PS1.out.own A1 (P.length) c1 ((P).map bv) rfl (by simp) HS1.out.rd HS1.out.nil0 (bv_one _) (by simp only [maxLen]; omega) (by omega) HSZ1.out ?_; intro v2 w2 hown hgrow; obtain ⟨vA2, vc2, rfl, -, -⟩ := Sl.of_own hown; have PS2 := hid (PS1.out.grow HFF.out HSZ1.out hgrow hown); have HSZ2 := hid (Nat.le_trans HSZ1.out hgrow.size); clear hown hgrow; have d1 := PS2.out.fld.cell 1; have d2 := PS2.out.fld.cell 2; have d3 := PS2.out.fld.cell 3; simp only [List.getElem?_toArray, List.getElem?_cons_zero, List.getElem?_cons_succ] at d1 d2 d3)
      have hnm : n % 4294967296 ≤ 4294967295 := by omega
      refine (fix32_any (n % 4294967296) hnm _).mono ?_
      rintro e w3 ⟨A3, c3, rfl, hs3, hb3⟩
      have HS3 := hid hs3
      have PS3 := hid (PS2.out.new HSZ2.out hb3)
      have HSZ3 := hid (Nat.le_trans HSZ2.out hb3.size)
      clear hs3 hb3 d1 d2 d3
      have hl3 := length_fixN 4 (n % 4294967296)
      generalize hq : fixN 4 (n % 4294967296) = Q at *
      go_wp2_with (at_builtin; refine wpList_append_rd rfl _ _ 22 rfl B 5 i0 (.int .u8 0) 1 1 Try.underlying22 hi hz0 hz1 hz2 rfl (by decide) _ (bl + P.length) ((bs ++ P).map bv) rfl PS3.out.own A3 (4) c3 ((Q).map bv) rfl (by simp [hl3]) HS3.out.rd HS3.out.nil0 (bv_one _) (by simp only [maxLen]; omega) (by omega) HSZ3.out ?_; intro v4 w4 hown hgrow; obtain ⟨vA4, vc4, rfl, -, -⟩ := Sl.of_own hown; have PS4 := hid (PS3.out.grow HFF.out HSZ3.out hgrow hown); have HSZ4 := hid (Nat.le_trans HSZ3.out hgrow.size); clear hown hgrow; have d1 := PS4.out.fld.cell 1; have d2 := PS4.out.fld.cell 2; have d3 := PS4.out.fld.cell 3; simp only [List.getElem?_toArray, List.getElem?_cons_zero, List.getElem?_cons_succ] at d1 d2 d3)
      go_ret2
      refine ⟨.inl ⟨by rw [HPE.out, if_neg (by omega)], _, rfl, ?_⟩, PS4.out.bel⟩
      have ht : pTail 5 n xs = Q := by rw [← hq]; rfl
      rw [HPB.out, ht, List.length_append, ← Nat.add_assoc, ← List.append_assoc, hl3]
      exact PS4.out.own
  · have hm : pErr num x xs = (mk num x).2.toNat := by unfold pErr; rw [if_pos he]
    obtain ⟨er, her⟩ : ∃ er : Nat, (mk num x).2 = (er : Int) := ⟨(mk num x).2.toNat, by omega⟩
    have hmk := HMK.out
    rw [her] at hm hmk
    have hern : er ≠ 0 := by omega
    have HPE := hid hm
    have HMK := hid hmk
    clear hmk hm her he
    generalize (mk num x).1 = k at *
    have heb : (((er : Nat) : Int) != 0) = true := by simpa using hern
    go_enter Try.func49, Try.ntmps49
    go_wp2_with (go_at_call 74; refine (HMK.out _).mono ?_; rintro e w' ⟨rfl, rfl⟩)
    go_ret2
    exact ⟨.inr ⟨by rw [HPE.out]; simpa using hern, by rw [HPE.out]; simp⟩, (Below.refl B w).alloc hB _⟩
end Go.Proofs.Ytealjpolomhdeaa
set_option linter.unusedVariables false
namespace Go.Proofs.Ytealjpolomhdeaa
open Go.RowKit
/-- A field that may be handed in. -/
structure FvOk (w : World) (f : FV) : Prop where
  w0 : 0 ≤ f.w
  w1 : f.w ≤ 255
  n : f.n ≤ 18446744073709551615
  n1 : -9223372036854775808 ≤ f.num
  n2 : f.num ≤ 9223372036854775807
  a1 : -9223372036854775808 ≤ f.at_
  a2 : f.at_ ≤ 9223372036854775807
  s : Sl w f.s.A f.s.c (f.s.xs.map bv)
def pErrF (f : FV) : Nat := pErr f.num f.w f.s.xs
def pBF (f : FV) : List UInt8 := pB f.num f.w f.n f.s.xs
/-- The first field that has no bytes: why, and its place. -/
def putsE : List FV → Nat → Nat × Nat
  | [], _ => (0, 0)
  | f :: fs, i => if pErrF f = 0 then putsE fs (i + 1) else (pErrF f, i)
theorem putsE_bad (l : List FV) (j i : Nat) (hj : j < l.length) (h : pErrF l[j] ≠ 0) : putsE (l.drop j) i = (pErrF l[j], i) := by
  rw [List.drop_eq_getElem_cons hj, putsE, if_neg h]
theorem putsE_good (l : List FV) (j i : Nat) (hj : j < l.length) (h : pErrF l[j] = 0) : putsE (l.drop j) i = putsE (l.drop (j + 1)) (i + 1) := by
  rw [List.drop_eq_getElem_cons hj, putsE, if_pos h]
end Go.Proofs.Ytealjpolomhdeaa
set_option linter.unusedVariables false
namespace Go.Proofs.Ytealjpolomhdeaa
open Go.RowKit
theorem pBF_len8 (f : FV) (hn : f.n ≤ 18446744073709551615) (h0 : 0 ≤ f.w) (h1 : f.w ≤ 255) (hl : f.s.xs.length ≤ 8000) : (pBF f).length ≤ 8100 := by
  have hm := mk_facts f.num f.w h0 h1
  have h2 := putN_length10 (n := (mk f.num f.w).1.toNat) (by omega)
  have h3 := pTail_len (x := f.w) (xs := f.s.xs) hn (by omega)
  unfold pBF pB
  rw [List.length_append]
  omega
set_option maxRecDepth 100000 in
set_option maxHeartbeats 4000000 in
theorem sputs8_any (l : List FV) (m : Nat) (A : Option Addr) (c : Nat) (w : World) (hm : l.length = m) (hm2 : m ≤ 100) (hl : SlN w A m c 5 (l.flatMap fvC)) (hok : ∀ f ∈ l, FvOk w f) (hx : ∀ f ∈ l, f.s.xs.length ≤ 8000) :
    Calls Try.prog 28 #[.slice A m c] w fun e w' => (((putsE l 0).1 = 0 ∧ ∃ v, e = .returned (.tuple #[v, .agg #[.int .i64 0, .int .i64 0]]) ∧ w'.ownsRow w.heap.size 5 1 v (l.flatMap pBF).length ((l.flatMap pBF).map bv)) ∨
      ((putsE l 0).1 ≠ 0 ∧ e = .returned (.tuple #[.slice none 0 0, .agg #[.int .i64 ((putsE l 0).1 : Nat), .int .i64 ((putsE l 0).2 : Nat)]]))) ∧ Below w.heap.size w w' := by
  have hcm : m ≤ 9223372036854775807 := by omega
  have HM := hid hm
  have HL := hid hl
  have HOK := hid hok
  have HX := hid hx
  clear hm hl hok hx
  obtain ⟨R, hR⟩ : ∃ R : Ending → World → Prop, R = fun e w' => (((putsE l 0).1 = 0 ∧ ∃ v, e = .returned (.tuple #[v, .agg #[.int .i64 0, .int .i64 0]]) ∧ w'.ownsRow w.heap.size 5 1 v (l.flatMap pBF).length ((l.flatMap pBF).map bv)) ∨
      ((putsE l 0).1 ≠ 0 ∧ e = .returned (.tuple #[.slice none 0 0, .agg #[.int .i64 ((putsE l 0).1 : Nat), .int .i64 ((putsE l 0).2 : Nat)]]))) ∧ Below w.heap.size w w' := ⟨_, rfl⟩
  rw [← hR]
  have HR := hid hR
  clear hR
  go_enter Try.func28, Try.ntmps28
  go_wp2_with fail
  have hB0 := bw_a (Below.refl w.heap.size w) (.cells #[.int .i64 0, .int .i64 0] 32)
  have hk0 := Blk.new w 32 #[.int .i64 0, .int .i64 0]
  go_loopw [4, 10] (fun v i wr => ∃ (j : Nat) (bl : Nat), j ≤ m ∧ i = .int .i64 (j : Int) ∧ bl ≤ 8100 * j ∧ bl = ((l.take j).flatMap pBF).length ∧ wr.ownsRow (w.heap.size + 1) 5 1 v bl (((l.take j).flatMap pBF).map bv) ∧ Blk wr w.heap.size 32 #[.int .i64 0, .int .i64 0] ∧ Below w.heap.size w wr ∧ putsE l 0 = putsE (l.drop j) j) (fun _ i _ => m - (intOf i).toNat)
  case atStart => exact ⟨0, 0, by omega, rfl, by omega, rfl, World.ownsRow_nil _ _ _ _, hk0, hB0, rfl⟩
  case round =>
    obtain ⟨j, bl, hj, rfl, hbl, hbe, ho, hk, hB, hpe⟩ := hrel
    have c0 := hk.cell 0
    have c1 := hk.cell 1
    have g0 := hk.frozen 0
    have g1 := hk.frozen 1
    simp only [List.getElem?_toArray, List.getElem?_cons_zero, List.getElem?_cons_succ] at c0 c1
    by_cases hlt : j < m
    · have hjl : j < l.length := by have := HM.out; omega
      have hn0 : (l.flatMap fvC)[j * 5 + 0]? = _ := flatMap_get fvC 5 l j 0 hjl (fun _ _ => rfl) (by omega)
      have hn1 : (l.flatMap fvC)[j * 5 + 1]? = _ := flatMap_get fvC 5 l j 1 hjl (fun _ _ => rfl) (by omega)
      have hn2 : (l.flatMap fvC)[j * 5 + 2]? = _ := flatMap_get fvC 5 l j 2 hjl (fun _ _ => rfl) (by omega)
      have hn3 : (l.flatMap fvC)[j * 5 + 3]? = _ := flatMap_get fvC 5 l j 3 hjl (fun _ _ => rfl) (by omega)
      have hn4 : (l.flatMap fvC)[j * 5 + 4]? = _ := flatMap_get fvC 5 l j 4 hjl (fun _ _ => rfl) (by omega)
      have hoka := HOK.out l[j] (List.getElem_mem hjl)
      have hxa := HX.out l[j] (List.getElem_mem hjl)
      have hbad := putsE_bad l j j hjl
      have hgood := putsE_good l j j hjl
      have htk : l.take (j + 1) = l.take j ++ [l[j]] := (List.take_append_getElem hjl).symm
      obtain ⟨b, off, rfl, hbw, t0⟩ := HL.out.rd _ _ hn0
      have u1 := HL.out.rd.addr _ _ hn1
      have u2 := HL.out.rd.addr _ _ hn2
      have u3 := HL.out.rd.addr _ _ hn3
      have u4 := HL.out.rd.addr _ _ hn4
      rw [addr_add] at u1 u2 u3 u4
      simp only [Nat.add_zero, ← Nat.add_assoc] at t0 u1 u2 u3 u4
      have t0 := (hB.cell (p := ⟨b, off + j * 5, none⟩) hbw).trans t0
      have t1 := (hB.cell (p := ⟨b, off + j * 5 + 1, none⟩) hbw).trans u1
      have t2 := (hB.cell (p := ⟨b, off + j * 5 + 2, none⟩) hbw).trans u2
      have t3 := (hB.cell (p := ⟨b, off + j * 5 + 3, none⟩) hbw).trans u3
      have t4 := (hB.cell (p := ⟨b, off + j * 5 + 4, none⟩) hbw).trans u4
      have hji : (j : Int) < (m : Int) := by omega
      have hj0 : (0 : Int) ≤ (j : Int) := by omega
      clear hn0 hn1 hn2 hn3 hn4 u1 u2 u3 u4
      have hpl := pBF_len8 l[j] hoka.n hoka.w0 hoka.w1 hxa
      generalize l[j] = f at *
      obtain ⟨fnum, fw, fn_, ⟨fA, fc, fxs⟩, fat⟩ := f
      dsimp only at t0 t1 t2 t3 t4 hxa
      obtain ⟨xl, hxl⟩ : ∃ xl, fxs.length = xl := ⟨_, rfl⟩
      rw [hxl] at t3 hxa
      have hfar : FarS fA xl (fun k => w.heap.size + 1 ≤ k) := fun hp b' o' he ho => by
        obtain ⟨b2, o2, e2, hlt2, _⟩ := hoka.s.rd 0 (bv (fxs[0]'(by omega))) (by simp [List.getElem?_eq_getElem (show 0 < fxs.length by omega)])
        simp only at e2
        rw [he] at e2
        injection e2 with e2
        injection e2 with e3 e4
        omega
      have hput := fun W (hW : Below wr.heap.size wr W) => sput_any W (w.heap.size + 1) _ _ bl fnum fw fn_ fA fc xl fxs fat hxl (by omega) hoka.n hoka.w0 hoka.w1 hbe.symm (by omega) (own_below ho hW) (by have := hW.size; have := hk.lt; omega) (hoka.s.below (hB.trans (hW.mono hB.size))) hfar
      have HPUT := hid hput
      have HPE := hid hpe
      have HBAD := hid hbad
      have HGOOD := hid hgood
      have HTK := hid htk
      have HHB := hid hB
      have HHK := hid hk
      clear hput hpe hbad hgood htk hB hk hoka ho
      obtain ⟨er, her⟩ : ∃ er, pErr fnum fw fxs = er := ⟨_, rfl⟩
      obtain ⟨pb, hpb⟩ : ∃ pb, pB fnum fw fn_ fxs = pb := ⟨_, rfl⟩
      have hput := HPUT.out
      unfold SPut at hput
      rw [her, hpb] at hput
      have hq1 : pErrF ⟨fnum, fw, fn_, ⟨fA, fc, fxs⟩, fat⟩ = er := her
      have hq2 : pBF ⟨fnum, fw, fn_, ⟨fA, fc, fxs⟩, fat⟩ = pb := hpb
      have HQ1 := hid hq1
      have HQ2 := hid hq2
      have HPUT := hid hput
      rw [hq2] at hpl
      clear hput hq1 hq2 her hpb
      by_cases he : er = 0
      · subst he
        go_wp2_with (go_at_call 49; refine (HPUT.out _ (bw_a (Below.refl _ wr) _)).mono ?_; rintro e w2 ⟨(⟨hz, v2, rfl, ho2⟩ | ⟨hz, rfl⟩), hb2⟩; rotate_left; exact absurd rfl hz)
        have hbk : Below (w.heap.size + 1) wr w2 := ((Below.refl _ wr).alloc (by have := HHK.out.lt; omega) _).trans hb2
        go_roundw
        case rel =>
          refine ⟨j + 1, bl + pb.length, by omega, by go_num, by omega, ?_, ?_, HHK.out.below hbk (by omega), HHB.out.trans (hbk.mono (by omega)), by rw [HPE.out, HGOOD.out HQ1.out]⟩
          · rw [HTK.out, List.flatMap_append, List.length_append, ← hbe]; simp [HQ2.out]
          · rw [HTK.out, List.flatMap_append]; simpa [HQ2.out] using ho2
        case measure => simp [intOf] <;> omega
      · have heb : (((er : Nat) : Int) != 0) = true := by simpa using he
        go_wp2_with (go_at_call 49; refine (HPUT.out _ (bw_a (Below.refl _ wr) _)).mono ?_; rintro e w2 ⟨(⟨hz, v2, rfl, ho2⟩ | ⟨hz, rfl⟩), hb2⟩; exact absurd hz he; have hbk : Below (w.heap.size + 1) wr w2 := (((Below.refl _ wr).alloc (by have := HHK.out.lt; omega) _).trans hb2); have hk2 := HHK.out.below hbk (by omega); have q0 := hk2.cell 0; have q1 := hk2.cell 1; have q2 := hk2.frozen 0; have q3 := hk2.frozen 1; simp only [List.getElem?_toArray, List.getElem?_cons_zero, List.getElem?_cons_succ] at q0 q1)
        have hf : Blk ((w2.setCell ⟨w.heap.size, 0, none⟩ (.int .i64 (er : Int))).setCell ⟨w.heap.size, 1, none⟩ (.int .i64 (j : Int))) w.heap.size 32 #[.int .i64 (er : Int), .int .i64 (j : Int)] := by simpa using (hk2.set_ 0 (.int .i64 (er : Int))).set_ 1 (.int .i64 (j : Int))
        have hbf := ((HHB.out.trans (hbk.mono (by omega))).setCell (p := ⟨w.heap.size, 0, none⟩) (Nat.le_refl _) (.int .i64 (er : Int))).setCell (p := ⟨w.heap.size, 1, none⟩) (Nat.le_refl _) (.int .i64 (j : Int))
        have f0 := hf.cell 0
        have f1 := hf.cell 1
        simp only [List.getElem?_toArray, List.getElem?_cons_zero, List.getElem?_cons_succ] at f0 f1
        have hpe2 : putsE l 0 = (er, j) := by rw [HPE.out, HBAD.out (by rw [HQ1.out]; exact he), HQ1.out]
        clear hf q0 q1 q2 q3 hk2
        generalize World.setCell (World.setCell _ _ _) _ _ = W3 at *
        refine bodyPost_ret (v := .tuple #[.slice none 0 0, .agg #[.int .i64 (er : Int), .int .i64 (j : Int)]]) (by simp [results, Try.results28, go_sem, f0, f1]) rfl ?_
        rw [HR.out]
        exact ⟨.inr ⟨by rw [hpe2]; exact he, by rw [hpe2]⟩, hbf⟩
    · obtain rfl : j = m := by omega
      go_wp2
      have hf : Blk ((wr.setCell ⟨w.heap.size, 0, none⟩ (.int .i64 0)).setCell ⟨w.heap.size, 1, none⟩ (.int .i64 0)) w.heap.size 32 #[.int .i64 0, .int .i64 0] := by simpa using (hk.set_ 0 (.int .i64 0)).set_ 1 (.int .i64 0)
      have hbf := (hB.setCell (p := ⟨w.heap.size, 0, none⟩) (Nat.le_refl _) (.int .i64 0)).setCell (p := ⟨w.heap.size, 1, none⟩) (Nat.le_refl _) (.int .i64 0)
      have ho2 := own_setBelow (own_setBelow ho (p := ⟨w.heap.size, 0, none⟩) (by show w.heap.size < _; omega) (.int .i64 0)) (p := ⟨w.heap.size, 1, none⟩) (by show w.heap.size < _; omega) (.int .i64 0)
      have f0 := hf.cell 0
      have f1 := hf.cell 1
      simp only [List.getElem?_toArray, List.getElem?_cons_zero, List.getElem?_cons_succ] at f0 f1
      have hlj : l.length = j := HM.out
      rw [List.take_of_length_le (by omega)] at ho2 hbe
      rw [List.drop_of_length_le (by omega)] at hpe
      clear hf ho c0 c1 g0 g1 hk
      generalize World.setCell (World.setCell _ _ _) _ _ = W3 at *
      refine bodyPost_ret (v := .tuple #[u4, .agg #[.int .i64 0, .int .i64 0]]) (by simp [results, Try.results28, go_sem, f0, f1]) rfl ?_
      rw [HR.out]
      exact ⟨.inl ⟨by rw [hpe]; rfl, u4, rfl, by rw [← hbe]; exact own_mono ho2 (by omega)⟩, hbf⟩
end Go.Proofs.Ytealjpolomhdeaa
set_option linter.unusedVariables false
namespace Go.Proofs.Ytealjpolomhdeaa
open Go.RowKit
theorem rHead_le (bs : List UInt8) (p : Nat) (hp : p ≤ bs.length) (h : (rHead bs p).2.2.1 = 0) : (rHead bs p).2.2.2 ≤ bs.length := by
  unfold rHead at h ⊢
  have hg := M.get_facts (bs.drop p)
  have hd : (bs.drop p).length = bs.length - p := List.length_drop
  split
  · rename_i h0
    rw [if_pos h0] at h
    have h2 := (hg.1 h0).2.2.1
    simp only
    omega
  · exact hp
end Go.Proofs.Ytealjpolomhdeaa
set_option linter.unusedVariables false
namespace Go.Proofs.Ytealjpolomhdeaa
/-- What a field's wire type has. -/
def bareN (f : FV) : Nat := if f.w = 2 then 0 else if f.w = 5 then f.n % 4294967296 else f.n
def bareX (f : FV) : List UInt8 := if f.w = 2 then f.s.xs else []
theorem pErr_inv (f : FV) (h : pErrF f = 0) (w0 : 0 ≤ f.w) (w1 : f.w ≤ 255) : (mk f.num f.w).2 = 0 ∧ (f.w = 0 ∨ f.w = 1 ∨ f.w = 2 ∨ f.w = 5) ∧ (f.w = 2 → f.s.xs.length ≤ 8192) := by
  have hf := mk_facts f.num f.w w0 w1
  unfold pErrF pErr at h
  by_cases h0 : (mk f.num f.w).2 = 0
  · rw [if_neg (by omega)] at h
    obtain ⟨h1, h2, hw, he⟩ := mk_ok_inv h0
    refine ⟨h0, by unfold wireB at hw; simpa using hw, fun h2 => ?_⟩
    by_cases hl : 8192 < f.s.xs.length
    · rw [if_pos ⟨h2, hl⟩] at h; omega
    · omega
  · rw [if_pos h0] at h; omega
section
variable {E pre rest : List UInt8} {p : Nat}
theorem xd_num (n : Nat) (hn : n ≤ 18446744073709551615) (hE : E = pre ++ (putN n ++ rest)) (hp : pre.length = p) : M.get (E.drop p) = (n, (putN n).length, 0) := by
  subst hE hp
  rw [List.drop_left' rfl]
  exact get_put rest hn
theorem xd_head (num x : Int) (h0 : (mk num x).2 = 0) (hE : E = pre ++ (putN (mk num x).1.toNat ++ rest)) (hp : pre.length = p) : rHead E p = (num, x, 0, p + (putN (mk num x).1.toNat).length) := by
  obtain ⟨h1, h2, hw, he⟩ := mk_ok_inv h0
  have hl := wireB_lt hw
  have hm : (mk num x).1 = 8 * num + x := by rw [he]
  have hg := xd_num (mk num x).1.toNat (by omega) hE hp
  unfold rHead
  rw [hg]
  simp only [if_true]
  rw [show (((mk num x).1.toNat : Nat) : Int) = (mk num x).1 from by omega, spl_mk h0]
  rfl
theorem xd_fix (k n : Nat) (hn : n < 256 ^ k) (hE : E = pre ++ (fixN k n ++ rest)) (hp : pre.length = p) : rFix k E p = (n, 0, p + k) := by
  subst hE hp
  unfold rFix
  rw [if_neg (by simp [length_fixN]), List.drop_left' rfl, List.take_left' (length_fixN k n), unfix_fix k n hn]
theorem xd_bytes (t : List UInt8) (ht : t.length ≤ 8192) (hE : E = pre ++ ((putN t.length ++ t) ++ rest)) (hp : pre.length = p) : rCount 8192 E p = (t, 0, p + (putN t.length ++ t).length) := by
  have hg := xd_num (E := E) (pre := pre) (rest := t ++ rest) t.length (by omega) (by rw [hE, List.append_assoc]) hp
  unfold rCount
  rw [hg]
  dsimp only
  rw [if_neg (by simp), if_neg (by omega), rTake_ok (by omega) (by rw [hE]; simp; omega)]
  have e : E = (pre ++ putN t.length) ++ (t ++ rest) := by rw [hE]; simp
  rw [e, ← hp, List.drop_left' (by simp)]
  simp
  omega
/-- A field that was put is read as it was put, but for what its wire type hasn't. -/
theorem rOne_put (f : FV) (h : pErrF f = 0) (hn : f.n ≤ 18446744073709551615) (w0 : 0 ≤ f.w) (w1 : f.w ≤ 255) (hE : E = pre ++ (pBF f ++ rest)) (hp : pre.length = p) :
    rOne E p = ⟨f.num, f.w, bareN f, bareX f, 0, 0, p + (pBF f).length⟩ := by
  obtain ⟨hm, hw, hl⟩ := pErr_inv f h w0 w1
  have hpb : pBF f = putN (mk f.num f.w).1.toNat ++ pTail f.w f.n f.s.xs := rfl
  rw [hpb, List.append_assoc] at hE
  have hh := xd_head f.num f.w hm hE hp
  rw [hpb, List.length_append, ← Nat.add_assoc]
  unfold rOne
  rw [hh]
  simp only [if_true]
  have hE2 : E = (pre ++ putN (mk f.num f.w).1.toNat) ++ (pTail f.w f.n f.s.xs ++ rest) := by rw [hE]; simp
  have hp2 : (pre ++ putN (mk f.num f.w).1.toNat).length = p + (putN (mk f.num f.w).1.toNat).length := by rw [List.length_append, hp]
  generalize p + (putN (mk f.num f.w).1.toNat).length = r at *
  generalize pre ++ putN (mk f.num f.w).1.toNat = pr at *
  have hv : rVal f.w E r = (bareN f, bareX f, 0, r + (pTail f.w f.n f.s.xs).length) := by
    unfold bareN bareX
    rcases hw with hw | hw | hw | hw <;> rw [hw] at hE2 ⊢
    · have hg := xd_num f.n hn (show E = pr ++ (putN f.n ++ rest) from hE2) hp2
      unfold rVal
      rw [if_pos rfl, hg]
      simp [plc, pTail]
    · have hg := xd_fix 8 f.n (by omega) (show E = pr ++ (fixN 8 f.n ++ rest) from hE2) hp2
      unfold rVal
      rw [if_neg (by omega), if_pos rfl, hg]
      simp [plc, pTail, length_fixN]
    · have hg := xd_bytes f.s.xs (hl hw) (show E = pr ++ ((putN f.s.xs.length ++ f.s.xs) ++ rest) from hE2) hp2
      unfold rVal
      rw [if_neg (by omega), if_neg (by omega), if_pos rfl, hg]
      simp [plc, pTail]
    · have hg := xd_fix 4 (f.n % 4294967296) (by omega) (show E = pr ++ (fixN 4 (f.n % 4294967296) ++ rest) from hE2) hp2
      unfold rVal
      rw [if_neg (by omega), if_neg (by omega), if_neg (by omega), hg]
      simp [plc, pTail, length_fixN]
  rw [hv]
  rfl
end
theorem putN_pos (n : Nat) : 1 ≤ (putN n).length := by rw [putN_size]; exact sizeN_pos n
theorem pBF_pos (f : FV) : 1 ≤ (pBF f).length := by
  have h := putN_pos (mk f.num f.w).1.toNat
  unfold pBF pB
  rw [List.length_append]
  omega
/-- What is read of fields that were put, from a place on. -/
def putL : List FV → Nat → List (RF × Nat)
  | [], _ => []
  | f :: fs, p => (⟨f.num, f.w, bareN f, bareX f, 0, 0, p + (pBF f).length⟩, p) :: putL fs (p + (pBF f).length)
theorem flds_put (l : List FV) : ∀ (E pre : List UInt8) (p fu : Nat), (∀ f ∈ l, pErrF f = 0 ∧ f.n ≤ 18446744073709551615 ∧ 0 ≤ f.w ∧ f.w ≤ 255) → E = pre ++ l.flatMap pBF → pre.length = p → E.length - p ≤ fu → flds E fu p = (putL l p, 0, 0) := by
  induction l with
  | nil =>
    intro E pre p fu _ hE hp _
    rw [flds_end _ _ _ (by rw [hE]; simp [hp])]
    rfl
  | cons f fs ih =>
    intro E pre p fu hok hE hp hfu
    obtain ⟨h0, hn, w0, w1⟩ := hok f (List.mem_cons_self ..)
    rw [List.flatMap_cons] at hE
    have hone := rOne_put f h0 hn w0 w1 hE hp
    have hpos := pBF_pos f
    have hlt : p < E.length := by rw [hE, List.length_append, List.length_append, hp]; omega
    obtain ⟨g, hg, hst⟩ := flds_step E fu p hlt hfu (by rw [hone])
    rw [hone] at hg hst
    have hi := ih E (pre ++ pBF f) (p + (pBF f).length) g (fun x hx => hok x (List.mem_cons_of_mem _ hx)) (by rw [hE]; simp) (by rw [List.length_append, hp]) hg
    simp only at hst
    rw [hst, hi]
    rfl
/-- Fields as values, one by one. -/
theorem fvAll_get {fs : List FV} {rs : List (RF × Nat)} (h : fvAll fs rs) (k : Nat) (hk : k < fs.length) (hk2 : k < rs.length) : fvOf fs[k] rs[k] := by
  induction fs generalizing rs k with
  | nil => simp at hk
  | cons f fs ih => cases rs with
    | nil => exact h.elim
    | cons r rs => cases k with
      | zero => exact h.1
      | succ k => exact ih h.2 k (by simpa using hk) (by simpa using hk2)
theorem put_get_len (b : List UInt8) (h : (M.get b).2.2 = 0) : (putN (M.get b).1).length ≤ (M.get b).2.1 := by
  obtain ⟨v, hv, hs, -⟩ := put_getF b 0 0 (by omega) (by simp) h
  have hv2 : (M.get b).1 = v := by unfold M.get; rw [hv]; simp
  rw [hv2, putN_size]
  have : 0 + sizeN v ≤ (M.get b).2.1 := hs
  omega
/-- A field that was read: it can be put, has just what its wire type has, and is no longer. -/
theorem again_one (f : FV) (bs : List UInt8) (p : Nat) (hp : p ≤ bs.length) (h : (rOne bs p).e = 0) (hf : fvOf f (rOne bs p, p)) : pErrF f = 0 ∧ bareN f = f.n ∧ bareX f = f.s.xs ∧ p + (pBF f).length ≤ (rOne bs p).nx := by
  obtain ⟨f1, f2, f3, f4, -⟩ := hf
  simp only at f1 f2 f3 f4
  unfold bareN bareX pErrF pErr pBF pB
  rw [f1, f2, f3, f4]
  clear f1 f2 f3 f4
  unfold rOne at h ⊢
  by_cases h0 : (rHead bs p).2.2.1 = 0
  · rw [if_pos h0] at h ⊢
    have hh := rHead_facts bs p h0
    simp only at h ⊢
    have hle := rHead_le bs p hp h0
    have hmk : (mk (rHead bs p).1 (rHead bs p).2.1).2 = 0 ∧ p + (putN (mk (rHead bs p).1 (rHead bs p).2.1).1.toNat).length ≤ (rHead bs p).2.2.2 := by
      unfold rHead at h0 ⊢
      by_cases hg : (M.get (bs.drop p)).2.2 = 0
      · rw [if_pos hg] at h0 ⊢
        simp only at h0 ⊢
        have hse := spl_err ((M.get (bs.drop p)).1 : Int)
        have hms := mk_spl (n := ((M.get (bs.drop p)).1 : Int)) (by omega)
        rw [hms]
        have hl := put_get_len _ hg
        simp only [Int.toNat_natCast]
        exact ⟨trivial, by omega⟩
      · rw [if_neg hg] at h0; exact absurd h0 hg
    generalize (rHead bs p).2.2.2 = r at *
    generalize hw0 : (rHead bs p).2.1 = w at *
    generalize (rHead bs p).1 = num at *
    obtain ⟨hm, hlm⟩ := hmk
    obtain ⟨-, -, hw, -⟩ := hh
    have hd : (bs.drop r).length = bs.length - r := List.length_drop
    rcases hw with rfl | rfl | rfl | rfl
    · have hv : rVal 0 bs r = (if (M.get (bs.drop r)).2.2 = 0 then (M.get (bs.drop r)).1 else 0, [], (M.get (bs.drop r)).2.2, plc (M.get (bs.drop r)).2.2 r (r + (M.get (bs.drop r)).2.1)) := by unfold rVal; rw [if_pos rfl]
      rw [hv] at h ⊢
      simp only at h ⊢
      have hl := put_get_len _ h
      rw [h]
      refine ⟨by rw [if_neg (by omega), if_neg (by omega)], by rw [if_neg (by omega), if_neg (by omega)], rfl, ?_⟩
      simp only [pTail, plc, if_true, List.length_append]
      omega
    · have hv : rVal 1 bs r = (if (rFix 8 bs r).2.1 = 0 then (rFix 8 bs r).1 else 0, [], (rFix 8 bs r).2.1, plc (rFix 8 bs r).2.1 r (rFix 8 bs r).2.2) := by unfold rVal; rw [if_neg (by omega), if_pos rfl]
      rw [hv] at h ⊢
      simp only at h ⊢
      rw [h]
      refine ⟨by rw [if_neg (by omega), if_neg (by omega)], by rw [if_neg (by omega), if_neg (by omega)], rfl, ?_⟩
      have h2 : (rFix 8 bs r).2.2 = r + 8 := by
        unfold rFix at h ⊢
        split
        · rename_i hx; rw [if_pos hx] at h; simp at h
        · rfl
      simp only [pTail, plc, if_true, List.length_append, h2]
      rw [if_neg (by omega), length_fixN]
      omega
    · have hv : rVal 2 bs r = (0, if (rCount 8192 bs r).2.1 = 0 then (rCount 8192 bs r).1 else [], (rCount 8192 bs r).2.1, plc (rCount 8192 bs r).2.1 r (rCount 8192 bs r).2.2) := by unfold rVal; rw [if_neg (by omega), if_neg (by omega), if_pos rfl]
      rw [hv] at h ⊢
      simp only at h ⊢
      rw [h]
      simp only [if_true, plc]
      have hc : (rCount 8192 bs r).1.length ≤ 8192 ∧ r + (putN (rCount 8192 bs r).1.length ++ (rCount 8192 bs r).1).length ≤ (rCount 8192 bs r).2.2 := by
        unfold rCount at h ⊢
        by_cases g1 : (M.get (bs.drop r)).2.2 ≠ 0
        · rw [if_pos g1] at h; exact absurd h g1
        · rw [if_neg g1] at h ⊢
          by_cases g2 : (8192 : Int) < 0 ∨ (8192 : Int) < ((M.get (bs.drop r)).1 : Int)
          · rw [if_pos g2] at h; simp at h
          · rw [if_neg g2] at h ⊢
            have hl := put_get_len _ (show (M.get (bs.drop r)).2.2 = 0 by omega)
            have hgf := M.get_facts (bs.drop r)
            by_cases g3 : ((bs.length - (r + (M.get (bs.drop r)).2.1) : Nat) : Int) < ((M.get (bs.drop r)).1 : Int)
            · rw [rTake_short (by omega) g3] at h; simp at h
            · rw [rTake_ok (by omega) g3]
              simp only [Int.toNat_natCast]
              have hlen : ((bs.drop (r + (M.get (bs.drop r)).2.1)).take (M.get (bs.drop r)).1).length = (M.get (bs.drop r)).1 := by rw [List.length_take, List.length_drop]; omega
              rw [List.length_append, hlen]
              omega
      refine ⟨by rw [if_neg (by omega), if_neg (by omega)], trivial, trivial, ?_⟩
      have ht : pTail 2 0 (rCount 8192 bs r).1 = putN (rCount 8192 bs r).1.length ++ (rCount 8192 bs r).1 := rfl
      rw [ht, List.length_append]
      omega
    · have hv : rVal 5 bs r = (if (rFix 4 bs r).2.1 = 0 then (rFix 4 bs r).1 else 0, [], (rFix 4 bs r).2.1, plc (rFix 4 bs r).2.1 r (rFix 4 bs r).2.2) := by unfold rVal; rw [if_neg (by omega), if_neg (by omega), if_neg (by omega)]
      have h5 := rFix4_lt bs r
      rw [hv] at h h5 ⊢
      simp only at h h5 ⊢
      have h2 : (rFix 4 bs r).2.2 = r + 4 := by
        unfold rFix at h ⊢
        split
        · rename_i hx; rw [if_pos hx] at h; simp at h
        · rfl
      rw [h] at h5 ⊢
      simp only [if_true] at h5 ⊢
      refine ⟨by rw [if_neg (by omega), if_neg (by omega)], by rw [if_neg (by omega)]; omega, rfl, ?_⟩
      have ht : ∀ n xs, pTail 5 n xs = fixN 4 (n % 4294967296) := fun _ _ => rfl
      rw [ht, List.length_append, length_fixN, h2]
      simp only [plc, if_true]
      omega
  · rw [if_neg h0] at h
    exact absurd h h0
/-- Fields that were read. -/
theorem again_all (bs : List UInt8) : ∀ (fu p : Nat) (fs : List FV), p ≤ bs.length → (flds bs fu p).2.1 = 0 → fvAll fs (flds bs fu p).1 → (∀ f ∈ fs, pErrF f = 0 ∧ bareN f = f.n ∧ bareX f = f.s.xs) ∧ p + (fs.flatMap pBF).length ≤ bs.length
  | 0, p, fs, hp, _, hf => by
    cases fs with
    | nil => simpa using hp
    | cons f fs => exact hf.elim
  | fu + 1, p, fs, hp, he, hf => by
    rw [flds] at he hf
    by_cases h1 : bs.length ≤ p
    · rw [if_pos h1] at hf
      cases fs with
      | nil => simpa using hp
      | cons f fs => exact hf.elim
    · rw [if_neg h1] at he hf
      by_cases h2 : (rOne bs p).e = 0
      · rw [if_pos h2] at he hf
        simp only at he hf
        cases fs with
        | nil => exact hf.elim
        | cons f fs =>
          have hn := (rOne_facts bs p hp).1 h2
          obtain ⟨a1, a2, a3, a4⟩ := again_one f bs p hp h2 hf.1
          obtain ⟨b1, b2⟩ := again_all bs fu (rOne bs p).nx fs hn.2.1 he hf.2
          refine ⟨fun g hg => ?_, ?_⟩
          · rcases List.mem_cons.1 hg with rfl | hg
            · exact ⟨a1, a2, a3⟩
            · exact b1 g hg
          · rw [List.flatMap_cons, List.length_append]; omega
      · rw [if_neg h2] at he
        exact absurd he h2
/-- Where fields stand: each ends where the next one begins. -/
def At (bs : List UInt8) : List (RF × Nat) → Nat → Prop
  | [], _ => True
  | r :: rs, p => r = (rOne bs p, p) ∧ p < bs.length ∧ (rOne bs p).e = 0 ∧ At bs rs (rOne bs p).nx
theorem flds_at (bs : List UInt8) : ∀ (fu p : Nat), At bs (flds bs fu p).1 p
  | 0, p => trivial
  | fu + 1, p => by
    rw [flds]
    by_cases h1 : bs.length ≤ p
    · rw [if_pos h1]; trivial
    · rw [if_neg h1]
      by_cases h2 : (rOne bs p).e = 0
      · rw [if_pos h2]; exact ⟨rfl, by omega, h2, flds_at bs fu (rOne bs p).nx⟩
      · rw [if_neg h2]; trivial
theorem at_get {bs : List UInt8} {rs : List (RF × Nat)} {p : Nat} (h : At bs rs p) (k : Nat) (h1 : k < rs.length) : rs[k].2 < bs.length ∧ rs[k].1 = rOne bs rs[k].2 ∧ (rOne bs rs[k].2).e = 0 ∧ ∀ (h2 : k + 1 < rs.length), rs[k + 1].2 = (rOne bs rs[k].2).nx := by
  induction rs generalizing p k with
  | nil => simp at h1
  | cons r rs ih =>
    obtain ⟨rfl, hp, he, ha⟩ := h
    cases k with
    | zero =>
      refine ⟨hp, rfl, he, fun h2 => ?_⟩
      cases rs with
      | nil => simp at h2
      | cons s rs => obtain ⟨rfl, _⟩ := ha; rfl
    | succ k =>
      have := ih ha k (by simpa using h1)
      simpa using this
end Go.Proofs.Ytealjpolomhdeaa
set_option linter.unusedVariables false
namespace Go.Proofs.Ytealjpolomhdeaa
open Go.RowKit
def wireN (t : Int) : Nat := if t = 5 then 5 else if t = 6 then 1 else if 7 ≤ t ∧ t ≤ 10 then 2 else 0
def wireK (t : Int) : Bool := decide (1 ≤ t ∧ t ≤ 10)
def mostN (t : Int) : Nat := if t = 7 ∨ t = 10 then 64 else if t = 8 then 4096 else if t = 9 then 7000 else 0
def wireD (t : Int) : Nat := if t ≤ 4 then 0 else if t = 5 then 5 else if t = 6 then 1 else 2
set_option maxRecDepth 100000 in
theorem swire_any (t : Int) (w : World) : Calls Try.prog 110 #[.int .i64 t] w fun e w' => e = .returned (.tuple #[.int .u8 (wireN t : Nat), .bool (wireK t)]) ∧ w' = w := by
  by_cases hr : 1 ≤ t ∧ t ≤ 10
  · have h : t = 1 ∨ t = 2 ∨ t = 3 ∨ t = 4 ∨ t = 5 ∨ t = 6 ∨ t = 7 ∨ t = 8 ∨ t = 9 ∨ t = 10 := by omega
    clear hr
    rcases h with rfl | rfl | rfl | rfl | rfl | rfl | rfl | rfl | rfl | rfl
    · go_enter Try.func110, Try.ntmps110
      go_wp2
      refine bodyPost_ret (v := .tuple #[.int .u8 (wireN 1 : Nat), .bool (wireK 1)]) (by simp [results, Try.results110, go_sem, wireN, wireK]) rfl ⟨rfl, rfl⟩
    · go_enter Try.func110, Try.ntmps110
      go_wp2
      refine bodyPost_ret (v := .tuple #[.int .u8 (wireN 2 : Nat), .bool (wireK 2)]) (by simp [results, Try.results110, go_sem, wireN, wireK]) rfl ⟨rfl, rfl⟩
    · go_enter Try.func110, Try.ntmps110
      go_wp2
      refine bodyPost_ret (v := .tuple #[.int .u8 (wireN 3 : Nat), .bool (wireK 3)]) (by simp [results, Try.results110, go_sem, wireN, wireK]) rfl ⟨rfl, rfl⟩
    · go_enter Try.func110, Try.ntmps110
      go_wp2
      refine bodyPost_ret (v := .tuple #[.int .u8 (wireN 4 : Nat), .bool (wireK 4)]) (by simp [results, Try.results110, go_sem, wireN, wireK]) rfl ⟨rfl, rfl⟩
    · go_enter Try.func110, Try.ntmps110
      go_wp2
      refine bodyPost_ret (v := .tuple #[.int .u8 (wireN 5 : Nat), .bool (wireK 5)]) (by simp [results, Try.results110, go_sem, wireN, wireK]) rfl ⟨rfl, rfl⟩
    · go_enter Try.func110, Try.ntmps110
      go_wp2
      refine bodyPost_ret (v := .tuple #[.int .u8 (wireN 6 : Nat), .bool (wireK 6)]) (by simp [results, Try.results110, go_sem, wireN, wireK]) rfl ⟨rfl, rfl⟩
    · go_enter Try.func110, Try.ntmps110
      go_wp2
      refine bodyPost_ret (v := .tuple #[.int .u8 (wireN 7 : Nat), .bool (wireK 7)]) (by simp [results, Try.results110, go_sem, wireN, wireK]) rfl ⟨rfl, rfl⟩
    · go_enter Try.func110, Try.ntmps110
      go_wp2
      refine bodyPost_ret (v := .tuple #[.int .u8 (wireN 8 : Nat), .bool (wireK 8)]) (by simp [results, Try.results110, go_sem, wireN, wireK]) rfl ⟨rfl, rfl⟩
    · go_enter Try.func110, Try.ntmps110
      go_wp2
      refine bodyPost_ret (v := .tuple #[.int .u8 (wireN 9 : Nat), .bool (wireK 9)]) (by simp [results, Try.results110, go_sem, wireN, wireK]) rfl ⟨rfl, rfl⟩
    · go_enter Try.func110, Try.ntmps110
      go_wp2
      refine bodyPost_ret (v := .tuple #[.int .u8 (wireN 10 : Nat), .bool (wireK 10)]) (by simp [results, Try.results110, go_sem, wireN, wireK]) rfl ⟨rfl, rfl⟩
  · have hB : wireK t = false := decide_eq_false hr
    have hN : wireN t = 0 := by unfold wireN; rw [if_neg (by omega), if_neg (by omega), if_neg (by omega)]
    rw [hB, hN]
    have b1 : (t == 1) = false := by simp; omega
    have b2 : (t == 2) = false := by simp; omega
    have b3 : (t == 3) = false := by simp; omega
    have b4 : (t == 4) = false := by simp; omega
    have b5 : (t == 5) = false := by simp; omega
    have b6 : (t == 6) = false := by simp; omega
    have b7 : (t == 7) = false := by simp; omega
    have b8 : (t == 8) = false := by simp; omega
    have b9 : (t == 9) = false := by simp; omega
    have b10 : (t == 10) = false := by simp; omega
    clear hB hN hr
    go_enter Try.func110, Try.ntmps110
    go_wp2
    refine bodyPost_ret (v := .tuple #[.int .u8 0, .bool false]) (by simp [results, Try.results110, go_sem]) rfl ⟨rfl, rfl⟩
set_option maxRecDepth 100000 in
theorem smost_any (t : Int) (w : World) : Calls Try.prog 80 #[.int .i64 t] w fun e w' => e = .returned (.int .i64 (mostN t : Nat)) ∧ w' = w := by
  by_cases hr : 7 ≤ t ∧ t ≤ 10
  · have h : t = 7 ∨ t = 8 ∨ t = 9 ∨ t = 10 := by omega
    clear hr
    rcases h with rfl | rfl | rfl | rfl <;>
    · go_enter Try.func80, Try.ntmps80
      go_wp2
      go_ret
      exact ⟨rfl, rfl⟩
  · have hN : mostN t = 0 := by unfold mostN; rw [if_neg (by omega), if_neg (by omega), if_neg (by omega)]
    rw [hN]
    have b7 : (t == 7) = false := by simp; omega
    have b8 : (t == 8) = false := by simp; omega
    have b9 : (t == 9) = false := by simp; omega
    have b10 : (t == 10) = false := by simp; omega
    clear hN hr
    go_enter Try.func80, Try.ntmps80
    go_wp2
    go_ret
    exact ⟨rfl, rfl⟩
end Go.Proofs.Ytealjpolomhdeaa
set_option linter.unusedVariables false
namespace Go.Proofs.Ytealjpolomhdeaa
open Go.RowKit
/-- What is wrong with a text of so many bytes at most. -/
def chk (s : ByteArray) (most : Int) : Int := checkI s.data.toList.length (scan s.data.toList 0).2 most
def txtE (most : Int) : List ByteArray → Int
  | [] => 0
  | s :: r => if chk s most = 0 then txtE most r else chk s most
def lstE (l : List ByteArray) : Int := if 64 < l.length then 2 else txtE 64 l
def wrongE (m : MV) (t i : Int) : Int :=
  if t = 1 ∨ t = 5 then (if 4294967295 < m.num i then 1 else 0) else if t = 4 then (if 1 < m.num i then 1 else 0) else if 7 ≤ t ∧ t ≤ 9 then chk (m.text i) (mostN t : Nat) else if t = 10 then lstE m.l else 0
theorem txtE_at {l : List ByteArray} {most : Int} {j : Nat} (h : j < l.length) : txtE most (l.drop j) = if chk l[j] most = 0 then txtE most (l.drop (j + 1)) else chk l[j] most := by
  rw [List.drop_eq_getElem_cons h, txtE]
theorem txtE_end {l : List ByteArray} {most : Int} {j : Nat} (h : l.length ≤ j) : txtE most (l.drop j) = 0 := by
  rw [List.drop_eq_nil_of_le h, txtE]
set_option maxRecDepth 100000 in
set_option maxHeartbeats 1000000 in
theorem vupto_any (a b : Nat) (w : World) : Calls Try.prog 92 #[.int .u64 (a : Int), .int .u64 (b : Int)] w fun e w' => e = .returned (.int .i64 (if a < b then 1 else 0)) ∧ w' = w := by
  by_cases h : a < b
  · rw [if_pos h]
    go_enter Try.func92, Try.ntmps92
    go_wp2
    go_ret
    exact ⟨rfl, rfl⟩
  · rw [if_neg h]
    go_enter Try.func92, Try.ntmps92
    go_wp2
    go_ret
    exact ⟨rfl, rfl⟩
theorem uchk_any (s : ByteArray) (most : Int) (w : World) (hl : s.size ≤ 9223372036854775807) (h1 : -9223372036854775808 ≤ most) (h2 : most ≤ 9223372036854775807) :
    Calls Try.prog 79 #[.string s, .int .i64 most] w fun e w' => e = .returned (.int .i64 (chk s most)) ∧ Below w.heap.size w w' := check_any s s.data.toList most w rfl (by simpa using hl) h1 h2
theorem smost10 (w : World) : Calls Try.prog 80 #[.int .i64 10] w fun e w' => e = .returned (.int .i64 64) ∧ w' = w := smost_any 10 w
set_option maxRecDepth 100000 in
set_option maxHeartbeats 2000000 in
theorem vlist_any (l : List ByteArray) (n : Nat) (A : Option Addr) (c : Nat) (w : World) (hn : l.length = n) (hs : Sl w A c (l.map sv)) (he : ∀ x ∈ l, x.size ≤ 9223372036854775807) :
    Calls Try.prog 93 #[.slice A n c] w fun e w' => e = .returned (.int .i64 (lstE l)) ∧ Below w.heap.size w w' := by
  have hc1 : n ≤ 9223372036854775807 := by have g1 := hs.cap; have g2 := hs.small; rw [List.length_map] at g1; omega
  obtain ⟨R, hR⟩ : ∃ R, lstE l = R := ⟨_, rfl⟩
  rw [hR]
  have hR2 := hR
  unfold lstE at hR2
  rw [hn] at hR2
  clear hR
  by_cases hb : 64 < n
  · rw [if_pos hb] at hR2
    subst hR2
    clear hs he hn
    go_enter Try.func93, Try.ntmps93
    go_wp2
    go_ret
    exact ⟨rfl, Below.refl _ _⟩
  rw [if_neg hb] at hR2
  have HR := hid hR2
  have HN := hid hn
  have HS := hid hs
  have HE := hid he
  have HM := hid (fun W => smost10 W)
  clear hR2 hn hs he
  go_enter Try.func93, Try.ntmps93
  go_wp2_with fail
  go_loopw [11] (fun i wr => ∃ j : Nat, j ≤ n ∧ i = .int .i64 (j : Int) ∧ txtE 64 l = txtE 64 (l.drop j) ∧ Below w.heap.size w wr) (fun i _ => n - (intOf i).toNat)
  case atStart => exact ⟨0, by omega, rfl, rfl, Below.refl _ _⟩
  case round =>
    obtain ⟨j, hj, rfl, hte, hB⟩ := hrel
    by_cases hlt : j < n
    · have hj1 : j < l.length := by have := HN.out; omega
      have hat := txtE_at (most := 64) hj1
      rw [← hte, HR.out] at hat
      obtain ⟨b, off, rfl, hbw, t0⟩ := HS.out.rd j (sv l[j]) (by simp [hj1])
      have t0 := (hB.cell (p := ⟨b, off + j, none⟩) hbw).trans t0
      have hck := fun W => uchk_any l[j] 64 W (HE.out _ (List.getElem_mem hj1)) (by omega) (by omega)
      have hji : (j : Int) < (n : Int) := by omega
      have hj0 : (0 : Int) ≤ (j : Int) := by omega
      unfold sv at t0
      generalize l[j] = x at *
      generalize chk x 64 = q at *
      have HCK := hid hck
      have HAT := hid hat
      have HBB := hid hB
      clear hck hat hB hte
      go_wp2_with fail
      refine (HM.out _).mono ?_
      rintro e w2 ⟨rfl, rfl⟩
      go_wp2_with fail
      refine (HCK.out _).mono ?_
      rintro e w3 ⟨rfl, hb3⟩
      have HB3 := hid (HBB.out.trans (hb3.mono HBB.out.size))
      clear hb3
      by_cases hq : q = 0
      · subst hq
        have hnx := HAT.out
        rw [if_pos rfl] at hnx
        have HNX := hid hnx
        clear hnx
        go_wp2_with fail
        exact ⟨⟨j + 1, by omega, by go_num, by rw [HR.out]; exact HNX.out, HB3.out⟩, by simp [intOf] <;> omega⟩
      · have hqb : (q != 0) = true := by simpa using hq
        have hnx := HAT.out
        rw [if_neg hq] at hnx
        have HNX := hid hnx
        clear hnx hq
        go_wp2_with fail
        go_ret
        exact ⟨by rw [HNX.out]; rfl, HB3.out⟩
    · obtain rfl : j = n := by omega
      rw [txtE_end (by have := HN.out; omega), HR.out] at hte
      have HT := hid hte
      clear hte
      go_wp2_with fail
      go_ret
      exact ⟨by rw [HT.out]; rfl, hB⟩
end Go.Proofs.Ytealjpolomhdeaa
set_option linter.unusedVariables false
namespace Go.Proofs.Ytealjpolomhdeaa
open Go.RowKit
theorem held12 {w w' : World} (hc : Below w.heap.size w w') {p0 p1 p2 p3 p4 p5 p6 p7 p8 p9 p10 p11 : Addr} {x0 x1 x2 x3 x4 x5 x6 x7 x8 x9 x10 x11 : Value} (h : w.cell? p0 = some x0 ∧ w.cell? p1 = some x1 ∧ w.cell? p2 = some x2 ∧ w.cell? p3 = some x3 ∧ w.cell? p4 = some x4 ∧ w.cell? p5 = some x5 ∧ w.cell? p6 = some x6 ∧ w.cell? p7 = some x7 ∧ w.cell? p8 = some x8 ∧ w.cell? p9 = some x9 ∧ w.cell? p10 = some x10 ∧ w.cell? p11 = some x11) : w'.cell? p0 = some x0 ∧ w'.cell? p1 = some x1 ∧ w'.cell? p2 = some x2 ∧ w'.cell? p3 = some x3 ∧ w'.cell? p4 = some x4 ∧ w'.cell? p5 = some x5 ∧ w'.cell? p6 = some x6 ∧ w'.cell? p7 = some x7 ∧ w'.cell? p8 = some x8 ∧ w'.cell? p9 = some x9 ∧ w'.cell? p10 = some x10 ∧ w'.cell? p11 = some x11 := by
  obtain ⟨h0, h1, h2, h3, h4, h5, h6, h7, h8, h9, h10, h11⟩ := h
  have f : ∀ (p : Addr) (x : Value), w.cell? p = some x → w'.cell? p = some x := fun p x h => (hc.cell (World.block_lt_of_cell? w p h)).trans h
  exact ⟨f _ _ h0, f _ _ h1, f _ _ h2, f _ _ h3, f _ _ h4, f _ _ h5, f _ _ h6, f _ _ h7, f _ _ h8, f _ _ h9, f _ _ h10, f _ _ h11⟩
/-- A message and a field in boxes of their own. -/
structure Bx2 (w W : World) (s len : Nat) (m : MV) (num t i : Int) : Prop where
  z : W.heap.size = s + 2
  b0 : Blk W s 29 #[.int .u8 (m.k : Int), .int .u64 (m.n0 : Int), .int .u64 (m.n1 : Int), .int .u64 (m.n2 : Int), .int .u64 (m.n3 : Int), .int .u64 (m.n4 : Int), .int .u64 (m.n5 : Int), .string m.s0, .string m.s1, .slice m.A len m.c]
  b1 : Blk W (s + 1) 62 #[.int .i64 num, .int .i64 t, .int .i64 i]
  bel : Below s w W
theorem bx2 (w : World) (s len : Nat) (m : MV) (num t i : Int) (h : w.heap.size = s) : Bx2 w ((w.alloc (.cells #[.int .u8 (m.k : Int), .int .u64 (m.n0 : Int), .int .u64 (m.n1 : Int), .int .u64 (m.n2 : Int), .int .u64 (m.n3 : Int), .int .u64 (m.n4 : Int), .int .u64 (m.n5 : Int), .string m.s0, .string m.s1, .slice m.A len m.c] 29)).alloc (.cells #[.int .i64 num, .int .i64 t, .int .i64 i] 62)) s len m num t i := by
  refine ⟨by simp [h], ?_, ?_, ?_⟩
  · rw [← h]; exact (Blk.new w _ _).alloc _
  · have h1 := Blk.new (w.alloc (.cells #[.int .u8 (m.k : Int), .int .u64 (m.n0 : Int), .int .u64 (m.n1 : Int), .int .u64 (m.n2 : Int), .int .u64 (m.n3 : Int), .int .u64 (m.n4 : Int), .int .u64 (m.n5 : Int), .string m.s0, .string m.s1, .slice m.A len m.c] 29)) 62 #[.int .i64 num, .int .i64 t, .int .i64 i]
    rw [World.size_alloc, h] at h1; exact h1
  · rw [← h]; exact bw_a (bw_a (Below.refl _ w) _) _
theorem wr_num (m : MV) (t i : Int) (h : t = 1 ∨ t = 5) : wrongE m t i = if 4294967295 < m.num i then 1 else 0 := by unfold wrongE; rw [if_pos h]
theorem wr_bool (m : MV) (i : Int) : wrongE m 4 i = if 1 < m.num i then 1 else 0 := by unfold wrongE; rw [if_neg (by omega), if_pos rfl]
theorem wr_text (m : MV) (t i : Int) (h : 7 ≤ t ∧ t ≤ 9) : wrongE m t i = chk (m.text i) (mostN t : Nat) := by unfold wrongE; rw [if_neg (by omega), if_neg (by omega), if_pos h]
theorem wr_list (m : MV) (i : Int) : wrongE m 10 i = lstE m.l := by unfold wrongE; rw [if_neg (by omega), if_neg (by omega), if_neg (by omega), if_pos rfl]
theorem wr_out (m : MV) (t i : Int) (h : t = 2 ∨ t = 3 ∨ t = 6 ∨ t < 1 ∨ 10 < t) : wrongE m t i = 0 := by unfold wrongE; rw [if_neg (by omega), if_neg (by omega), if_neg (by omega), if_neg (by omega)]
theorem mostN_le (t : Int) : mostN t ≤ 7000 := by
  unfold mostN
  split
  · omega
  · split
    · omega
    · split <;> omega
set_option maxRecDepth 100000 in
set_option maxHeartbeats 2000000 in
theorem vwrong_any (m : MV) (num t i : Int) (w : World) (hok : MvOk w m) : Calls Try.prog 64 #[mvV m, .agg #[.int .i64 num, .int .i64 t, .int .i64 i]] w fun e w' => e = .returned (.int .i64 (wrongE m t i)) ∧ Below w.heap.size w w' := by
  have hn := fun W => vnum_any m i W
  have ht := fun W => vtext_any m i W
  have hck := fun W => uchk_any (m.text i) (mostN t : Nat) W (hok.s i) (by omega) (by have := mostN_le t; omega)
  have hli := fun W (hW : Below w.heap.size w W) => vlist_any m.l m.l.length m.A m.c W rfl (hok.l.below hW) hok.e
  have hmo := fun W => smost_any t W
  have hup := fun (a b : Nat) W => vupto_any a b W
  have h1 := wr_num m t i
  have h4 := wr_bool m i
  have h7 := wr_text m t i
  have h10 := wr_list m i
  have h0 := wr_out m t i
  have hmq := mostN_le t
  clear hok
  unfold mvV mvA at *
  generalize m.l.length = len at *
  generalize m.num i = x at *
  generalize m.text i = y at *
  generalize lstE m.l = le at *
  generalize chk y (mostN t : Nat) = ce at *
  obtain ⟨s, hws⟩ : ∃ s, w.heap.size = s := ⟨_, rfl⟩
  have hbx := bx2 w s len m num t i hws
  rw [hws] at hli ⊢
  have HN := hid hn
  have HT := hid ht
  have HCK := hid hck
  have HLI := hid hli
  have HMO := hid hmo
  have HUP := hid hup
  have HBX := hid hbx
  clear hn ht hck hli hmo hup hbx
  have hcase : (t = 1 ∨ t = 5) ∨ t = 4 ∨ (t = 7 ∨ t = 8 ∨ t = 9) ∨ t = 10 ∨ (t = 2 ∨ t = 3 ∨ t = 6 ∨ t < 1 ∨ 10 < t) := by omega
  rcases hcase with h | rfl | h | rfl | h
  · rw [h1 h]
    clear h1 h4 h7 h10 h0
    rcases h with rfl | rfl
    · have hup := fun W => HUP.out 4294967295 x W
      generalize (if 4294967295 < x then (1 : Int) else 0) = r at *
      have HU := hid hup
      clear hup
      go_enter Try.func64, Try.ntmps64
      go_wp2_with fail
      refine (HN.out _).mono ?_
      rintro e w1 ⟨rfl, hb1⟩
      have HB1 := hid (HBX.out.bel.trans (hb1.mono (by have := HBX.out.z; omega)))
      clear hb1
      go_wp2_with fail
      refine (HU.out _).mono ?_
      rintro e w2 ⟨rfl, rfl⟩
      go_wp2_with fail
      go_ret
      exact ⟨rfl, HB1.out⟩
    · have hup := fun W => HUP.out 4294967295 x W
      generalize (if 4294967295 < x then (1 : Int) else 0) = r at *
      have HU := hid hup
      clear hup
      go_enter Try.func64, Try.ntmps64
      go_wp2_with fail
      refine (HN.out _).mono ?_
      rintro e w1 ⟨rfl, hb1⟩
      have HB1 := hid (HBX.out.bel.trans (hb1.mono (by have := HBX.out.z; omega)))
      clear hb1
      go_wp2_with fail
      refine (HU.out _).mono ?_
      rintro e w2 ⟨rfl, rfl⟩
      go_wp2_with fail
      go_ret
      exact ⟨rfl, HB1.out⟩
  · rw [h4]
    clear h1 h4 h7 h10 h0
    have hup := fun W => HUP.out 1 x W
    generalize (if 1 < x then (1 : Int) else 0) = r at *
    have HU := hid hup
    clear hup
    go_enter Try.func64, Try.ntmps64
    go_wp2_with fail
    refine (HN.out _).mono ?_
    rintro e w1 ⟨rfl, hb1⟩
    have HB1 := hid (HBX.out.bel.trans (hb1.mono (by have := HBX.out.z; omega)))
    clear hb1
    go_wp2_with fail
    refine (HU.out _).mono ?_
    rintro e w2 ⟨rfl, rfl⟩
    go_wp2_with fail
    go_ret
    exact ⟨rfl, HB1.out⟩
  · rw [h7 (by omega)]
    clear h1 h4 h7 h10 h0
    generalize mostN t = mo at *
    rcases h with rfl | rfl | rfl
    · go_enter Try.func64, Try.ntmps64
      go_wp2_with fail
      obtain ⟨W, hW⟩ : ∃ W, (w.alloc (.cells #[.int .u8 (m.k : Int), .int .u64 (m.n0 : Int), .int .u64 (m.n1 : Int), .int .u64 (m.n2 : Int), .int .u64 (m.n3 : Int), .int .u64 (m.n4 : Int), .int .u64 (m.n5 : Int), .string m.s0, .string m.s1, .slice m.A len m.c] 29)).alloc (.cells #[.int .i64 num, .int .i64 7, .int .i64 i] 62) = W := ⟨_, rfl⟩
      have hbx : Bx2 w W s len m num 7 i := by rw [← hW]; exact HBX.out
      rw [hW]
      have HBW := hid hbx
      have c0 := hbx.b0.cell 0
      have c1 := hbx.b0.cell 1
      have c2 := hbx.b0.cell 2
      have c3 := hbx.b0.cell 3
      have c4 := hbx.b0.cell 4
      have c5 := hbx.b0.cell 5
      have c6 := hbx.b0.cell 6
      have c7 := hbx.b0.cell 7
      have c8 := hbx.b0.cell 8
      have c9 := hbx.b0.cell 9
      have d1 := hbx.b1.cell 1
      have d2 := hbx.b1.cell 2
      simp only [List.getElem?_toArray, List.getElem?_cons_zero, List.getElem?_cons_succ] at c0 c1 c2 c3 c4 c5 c6 c7 c8 c9 d1 d2
      have HD := hid (And.intro c0 (And.intro c1 (And.intro c2 (And.intro c3 (And.intro c4 (And.intro c5 (And.intro c6 (And.intro c7 (And.intro c8 (And.intro c9 (And.intro d1 d2)))))))))))
      have hz := hbx.z
      clear hW HBX hbx d1 d2
      go_region_held3 (fun w' => w'.cell? ⟨s, 0, none⟩ = some (.int .u8 (m.k : Int)) ∧ w'.cell? ⟨s, 1, none⟩ = some (.int .u64 (m.n0 : Int)) ∧ w'.cell? ⟨s, 2, none⟩ = some (.int .u64 (m.n1 : Int)) ∧ w'.cell? ⟨s, 3, none⟩ = some (.int .u64 (m.n2 : Int)) ∧ w'.cell? ⟨s, 4, none⟩ = some (.int .u64 (m.n3 : Int)) ∧ w'.cell? ⟨s, 5, none⟩ = some (.int .u64 (m.n4 : Int)) ∧ w'.cell? ⟨s, 6, none⟩ = some (.int .u64 (m.n5 : Int)) ∧ w'.cell? ⟨s, 7, none⟩ = some (.string m.s0) ∧ w'.cell? ⟨s, 8, none⟩ = some (.string m.s1) ∧ w'.cell? ⟨s, 9, none⟩ = some (.slice m.A len m.c) ∧ w'.cell? ⟨s + 1, 1, none⟩ = some (.int .i64 7) ∧ w'.cell? ⟨s + 1, 2, none⟩ = some (.int .i64 i)) (first | exact HD3.out | exact HD2.out | exact HD.out | go_keep) (first | (go_at_call 91; refine (HT.out _).mono ?_; rintro e w2 ⟨rfl, hb2⟩; have HD2 := hid (held12 (w := W.drewN 1) hb2 HD.out)) | (go_at_call 80; refine (HMO.out _).mono ?_; rintro e w3 ⟨rfl, rfl⟩) | (go_at_call 79; refine (HCK.out _).mono ?_; rintro e w4 ⟨rfl, hb4⟩; have HD3 := hid (held12 hb4 HD2.out)))
      have HB4 := hid (HBW.out.bel.trans ((bw_t (bw_t (bw_d (Below.refl _ W) 1) hb2) hb4).mono (by omega)))
      clear hb2 hb4
      go_wp2_with fail
      go_ret
      exact ⟨rfl, HB4.out⟩
    · go_enter Try.func64, Try.ntmps64
      go_wp2_with fail
      obtain ⟨W, hW⟩ : ∃ W, (w.alloc (.cells #[.int .u8 (m.k : Int), .int .u64 (m.n0 : Int), .int .u64 (m.n1 : Int), .int .u64 (m.n2 : Int), .int .u64 (m.n3 : Int), .int .u64 (m.n4 : Int), .int .u64 (m.n5 : Int), .string m.s0, .string m.s1, .slice m.A len m.c] 29)).alloc (.cells #[.int .i64 num, .int .i64 8, .int .i64 i] 62) = W := ⟨_, rfl⟩
      have hbx : Bx2 w W s len m num 8 i := by rw [← hW]; exact HBX.out
      rw [hW]
      have HBW := hid hbx
      have c0 := hbx.b0.cell 0
      have c1 := hbx.b0.cell 1
      have c2 := hbx.b0.cell 2
      have c3 := hbx.b0.cell 3
      have c4 := hbx.b0.cell 4
      have c5 := hbx.b0.cell 5
      have c6 := hbx.b0.cell 6
      have c7 := hbx.b0.cell 7
      have c8 := hbx.b0.cell 8
      have c9 := hbx.b0.cell 9
      have d1 := hbx.b1.cell 1
      have d2 := hbx.b1.cell 2
      simp only [List.getElem?_toArray, List.getElem?_cons_zero, List.getElem?_cons_succ] at c0 c1 c2 c3 c4 c5 c6 c7 c8 c9 d1 d2
      have HD := hid (And.intro c0 (And.intro c1 (And.intro c2 (And.intro c3 (And.intro c4 (And.intro c5 (And.intro c6 (And.intro c7 (And.intro c8 (And.intro c9 (And.intro d1 d2)))))))))))
      have hz := hbx.z
      clear hW HBX hbx d1 d2
      go_region_held3 (fun w' => w'.cell? ⟨s, 0, none⟩ = some (.int .u8 (m.k : Int)) ∧ w'.cell? ⟨s, 1, none⟩ = some (.int .u64 (m.n0 : Int)) ∧ w'.cell? ⟨s, 2, none⟩ = some (.int .u64 (m.n1 : Int)) ∧ w'.cell? ⟨s, 3, none⟩ = some (.int .u64 (m.n2 : Int)) ∧ w'.cell? ⟨s, 4, none⟩ = some (.int .u64 (m.n3 : Int)) ∧ w'.cell? ⟨s, 5, none⟩ = some (.int .u64 (m.n4 : Int)) ∧ w'.cell? ⟨s, 6, none⟩ = some (.int .u64 (m.n5 : Int)) ∧ w'.cell? ⟨s, 7, none⟩ = some (.string m.s0) ∧ w'.cell? ⟨s, 8, none⟩ = some (.string m.s1) ∧ w'.cell? ⟨s, 9, none⟩ = some (.slice m.A len m.c) ∧ w'.cell? ⟨s + 1, 1, none⟩ = some (.int .i64 8) ∧ w'.cell? ⟨s + 1, 2, none⟩ = some (.int .i64 i)) (first | exact HD3.out | exact HD2.out | exact HD.out | go_keep) (first | (go_at_call 91; refine (HT.out _).mono ?_; rintro e w2 ⟨rfl, hb2⟩; have HD2 := hid (held12 (w := W.drewN 1) hb2 HD.out)) | (go_at_call 80; refine (HMO.out _).mono ?_; rintro e w3 ⟨rfl, rfl⟩) | (go_at_call 79; refine (HCK.out _).mono ?_; rintro e w4 ⟨rfl, hb4⟩; have HD3 := hid (held12 hb4 HD2.out)))
      have HB4 := hid (HBW.out.bel.trans ((bw_t (bw_t (bw_d (Below.refl _ W) 1) hb2) hb4).mono (by omega)))
      clear hb2 hb4
      go_wp2_with fail
      go_ret
      exact ⟨rfl, HB4.out⟩
    · go_enter Try.func64, Try.ntmps64
      go_wp2_with fail
      obtain ⟨W, hW⟩ : ∃ W, (w.alloc (.cells #[.int .u8 (m.k : Int), .int .u64 (m.n0 : Int), .int .u64 (m.n1 : Int), .int .u64 (m.n2 : Int), .int .u64 (m.n3 : Int), .int .u64 (m.n4 : Int), .int .u64 (m.n5 : Int), .string m.s0, .string m.s1, .slice m.A len m.c] 29)).alloc (.cells #[.int .i64 num, .int .i64 9, .int .i64 i] 62) = W := ⟨_, rfl⟩
      have hbx : Bx2 w W s len m num 9 i := by rw [← hW]; exact HBX.out
      rw [hW]
      have HBW := hid hbx
      have c0 := hbx.b0.cell 0
      have c1 := hbx.b0.cell 1
      have c2 := hbx.b0.cell 2
      have c3 := hbx.b0.cell 3
      have c4 := hbx.b0.cell 4
      have c5 := hbx.b0.cell 5
      have c6 := hbx.b0.cell 6
      have c7 := hbx.b0.cell 7
      have c8 := hbx.b0.cell 8
      have c9 := hbx.b0.cell 9
      have d1 := hbx.b1.cell 1
      have d2 := hbx.b1.cell 2
      simp only [List.getElem?_toArray, List.getElem?_cons_zero, List.getElem?_cons_succ] at c0 c1 c2 c3 c4 c5 c6 c7 c8 c9 d1 d2
      have HD := hid (And.intro c0 (And.intro c1 (And.intro c2 (And.intro c3 (And.intro c4 (And.intro c5 (And.intro c6 (And.intro c7 (And.intro c8 (And.intro c9 (And.intro d1 d2)))))))))))
      have hz := hbx.z
      clear hW HBX hbx d1 d2
      go_region_held3 (fun w' => w'.cell? ⟨s, 0, none⟩ = some (.int .u8 (m.k : Int)) ∧ w'.cell? ⟨s, 1, none⟩ = some (.int .u64 (m.n0 : Int)) ∧ w'.cell? ⟨s, 2, none⟩ = some (.int .u64 (m.n1 : Int)) ∧ w'.cell? ⟨s, 3, none⟩ = some (.int .u64 (m.n2 : Int)) ∧ w'.cell? ⟨s, 4, none⟩ = some (.int .u64 (m.n3 : Int)) ∧ w'.cell? ⟨s, 5, none⟩ = some (.int .u64 (m.n4 : Int)) ∧ w'.cell? ⟨s, 6, none⟩ = some (.int .u64 (m.n5 : Int)) ∧ w'.cell? ⟨s, 7, none⟩ = some (.string m.s0) ∧ w'.cell? ⟨s, 8, none⟩ = some (.string m.s1) ∧ w'.cell? ⟨s, 9, none⟩ = some (.slice m.A len m.c) ∧ w'.cell? ⟨s + 1, 1, none⟩ = some (.int .i64 9) ∧ w'.cell? ⟨s + 1, 2, none⟩ = some (.int .i64 i)) (first | exact HD3.out | exact HD2.out | exact HD.out | go_keep) (first | (go_at_call 91; refine (HT.out _).mono ?_; rintro e w2 ⟨rfl, hb2⟩; have HD2 := hid (held12 (w := W.drewN 1) hb2 HD.out)) | (go_at_call 80; refine (HMO.out _).mono ?_; rintro e w3 ⟨rfl, rfl⟩) | (go_at_call 79; refine (HCK.out _).mono ?_; rintro e w4 ⟨rfl, hb4⟩; have HD3 := hid (held12 hb4 HD2.out)))
      have HB4 := hid (HBW.out.bel.trans ((bw_t (bw_t (bw_d (Below.refl _ W) 1) hb2) hb4).mono (by omega)))
      clear hb2 hb4
      go_wp2_with fail
      go_ret
      exact ⟨rfl, HB4.out⟩
  · rw [h10]
    clear h1 h4 h7 h10 h0
    go_enter Try.func64, Try.ntmps64
    go_wp2_with fail
    refine (HLI.out _ HBX.out.bel).mono ?_
    rintro e w1 ⟨rfl, hb1⟩
    have HB1 := hid (HBX.out.bel.trans (hb1.mono (by have := HBX.out.z; omega)))
    clear hb1
    go_wp2_with fail
    go_ret
    exact ⟨rfl, HB1.out⟩
  · rw [h0 h]
    clear h1 h4 h7 h10 h0
    have n1 : (t == 1) = false := by simp; omega
    have n4 : (t == 4) = false := by simp; omega
    have n5 : (t == 5) = false := by simp; omega
    have n7 : (t == 7) = false := by simp; omega
    have n8 : (t == 8) = false := by simp; omega
    have n9 : (t == 9) = false := by simp; omega
    have n10 : (t == 10) = false := by simp; omega
    go_enter Try.func64, Try.ntmps64
    go_wp2_with fail
    go_ret
    exact ⟨rfl, HBX.out.bel⟩
end Go.Proofs.Ytealjpolomhdeaa
set_option linter.unusedVariables false
namespace Go.Proofs.Ytealjpolomhdeaa
open Go.RowKit
theorem heldm {w w' : World} (hc : Below w.heap.size w w') {p0 p1 p2 p3 p4 p5 p6 p7 p8 p9 : Addr} {x0 x1 x2 x3 x4 x5 x6 x7 x8 x9 : Value} (h : w.cell? p0 = some x0 ∧ w.cell? p1 = some x1 ∧ w.cell? p2 = some x2 ∧ w.cell? p3 = some x3 ∧ w.cell? p4 = some x4 ∧ w.cell? p5 = some x5 ∧ w.cell? p6 = some x6 ∧ w.cell? p7 = some x7 ∧ w.cell? p8 = some x8 ∧ w.cell? p9 = some x9) : w'.cell? p0 = some x0 ∧ w'.cell? p1 = some x1 ∧ w'.cell? p2 = some x2 ∧ w'.cell? p3 = some x3 ∧ w'.cell? p4 = some x4 ∧ w'.cell? p5 = some x5 ∧ w'.cell? p6 = some x6 ∧ w'.cell? p7 = some x7 ∧ w'.cell? p8 = some x8 ∧ w'.cell? p9 = some x9 := by
  obtain ⟨h0, h1, h2, h3, h4, h5, h6, h7, h8, h9⟩ := h
  have f : ∀ (p : Addr) (x : Value), w.cell? p = some x → w'.cell? p = some x := fun p x h => (hc.cell (World.block_lt_of_cell? w p h)).trans h
  exact ⟨f _ _ h0, f _ _ h1, f _ _ h2, f _ _ h3, f _ _ h4, f _ _ h5, f _ _ h6, f _ _ h7, f _ _ h8, f _ _ h9⟩
/-- The first field with which something is wrong. -/
def fldE (m : MV) (r : SRow) : Int := if dflB m (r.typ : Nat) (r.slot : Nat) then 0 else wrongE m (r.typ : Nat) (r.slot : Nat)
def chkL (m : MV) : List SRow → Int × Int
  | [] => (0, 0)
  | r :: rs => if fldE m r = 0 then chkL m rs else (fldE m r, (r.num : Nat))
theorem chkL_at {m : MV} {L : List SRow} {j : Nat} (h : j < L.length) : chkL m (L.drop j) = if fldE m L[j] = 0 then chkL m (L.drop (j + 1)) else (fldE m L[j], (L[j].num : Nat)) := by
  rw [List.drop_eq_getElem_cons h, chkL]
theorem chkL_end {m : MV} {L : List SRow} {j : Nat} (h : L.length ≤ j) : chkL m (L.drop j) = (0, 0) := by
  rw [List.drop_eq_nil_of_le h, chkL]
/-- What is wrong with a message, and of which field. -/
def chkV (m : MV) (L : List SRow) : Int × Int := if L.length = 0 then (7, 0) else if (chkL m L).1 ≠ 0 then chkL m L else if sameB m (keptM L m) then (0, 0) else (20, 0)
theorem kept_sl {w : World} {m : MV} (L : List SRow) (h : Sl w m.A m.c (m.l.map sv)) : Sl w (keptM L m).A (keptM L m).c ((keptM L m).l.map sv) := by
  unfold keptM
  cases mkL L with
  | true => exact h
  | false => exact Sl.nil_ w
def FltOf (w : World) (r : Int × Int) (e : Ending) (w' : World) : Prop := e = .returned (.agg #[.int .i64 r.1, .int .i64 r.2]) ∧ Below w.heap.size w w'
theorem fstore {w : World} {p : Nat} {o0 o1 : Value} (h : Blk w p 32 #[o0, o1]) (x0 x1 : Value) : Blk ((w.setCell ⟨p, 0, none⟩ x0).setCell ⟨p, 1, none⟩ x1) p 32 #[x0, x1] ∧ Chg (fun q => q = p) w ((w.setCell ⟨p, 0, none⟩ x0).setCell ⟨p, 1, none⟩ x1) := by
  refine ⟨by simpa using (h.set_ 0 x0).set_ 1 x1, ((Chg.refl (fun q => q = p) w).set_ (.inl rfl) 0 x0).set_ (.inl rfl) 1 x1⟩
set_option maxRecDepth 100000 in
set_option maxHeartbeats 4000000 in
theorem vcheck_any (m : MV) (v : Int) (w : World) (hok : MvOk w m) (hv1 : -9223372036854775808 ≤ v) (hv2 : v ≤ 9223372036854775807) : Calls Try.prog 39 #[mvV m, .int .i64 v] w (FltOf w (chkV m (ofL (m.k : Int) v))) := by
  have hsof := fun W => ((callsIn_wide (n := 4)).1 (sof2_in 4 (by omega) (m.k : Int) v W hv1 hv2))
  have hkp := fun W => vkept_any m v W hv1 hv2
  have hq40 := ofL_le40 (m.k : Int) v
  generalize ofL (m.k : Int) v = L at *
  have hsm := fun W (hW : Below w.heap.size w W) => vsame_any m (keptM L m) W (hok.l.below hW) (kept_sl L (hok.l.below hW))
  have hdf := fun (num t i : Int) W => vdef_any m num t i W
  have hwr := fun (num t i : Int) W (hW : Below w.heap.size w W) => vwrong_any m num t i W (hok.below hW)
  have hV : chkV m L = if L.length = 0 then (7, 0) else if (chkL m L).1 ≠ 0 then chkL m L else if sameB m (keptM L m) then (0, 0) else (20, 0) := rfl
  generalize chkV m L = R at *
  generalize mvV (keptM L m) = kv at *
  generalize sameB m (keptM L m) = sb at *
  unfold mvV mvA at *
  generalize m.l.length = len at *
  obtain ⟨nL, hnL⟩ : ∃ n, L.length = n := ⟨_, rfl⟩
  rw [hnL] at hV hq40 hsof
  have HNL := hid hnL
  have HSOF := hid hsof
  have HKP := hid hkp
  have HSM := hid hsm
  have HDF := hid hdf
  have HWR := hid hwr
  have HV := hid hV
  clear hok hnL hsof hkp hsm hdf hwr hV
  obtain ⟨T, hT⟩ : ∃ T, FltOf w R = T := ⟨_, rfl⟩
  rw [hT]
  have HTT := hid hT
  clear hT
  obtain ⟨s, hws⟩ : ∃ s, w.heap.size = s := ⟨_, rfl⟩
  go_enter Try.func39, Try.ntmps39
  go_wp2_with fail
  go_step3
  go_wp2_with fail
  have hz : ((w.alloc (.cells #[.int .u8 (m.k : Int), .int .u64 (m.n0 : Int), .int .u64 (m.n1 : Int), .int .u64 (m.n2 : Int), .int .u64 (m.n3 : Int), .int .u64 (m.n4 : Int), .int .u64 (m.n5 : Int), .string m.s0, .string m.s1, .slice m.A len m.c] 29)).alloc (.cells #[.int .i64 0, .int .i64 0] 32)).heap.size = s + 2 := by simp [hws]
  have hb0 := bw_a (bw_a (Below.refl w.heap.size w) (.cells #[.int .u8 (m.k : Int), .int .u64 (m.n0 : Int), .int .u64 (m.n1 : Int), .int .u64 (m.n2 : Int), .int .u64 (m.n3 : Int), .int .u64 (m.n4 : Int), .int .u64 (m.n5 : Int), .string m.s0, .string m.s1, .slice m.A len m.c] 29)) (.cells #[.int .i64 0, .int .i64 0] 32)
  have hk0 := (Blk.new w 29 #[.int .u8 (m.k : Int), .int .u64 (m.n0 : Int), .int .u64 (m.n1 : Int), .int .u64 (m.n2 : Int), .int .u64 (m.n3 : Int), .int .u64 (m.n4 : Int), .int .u64 (m.n5 : Int), .string m.s0, .string m.s1, .slice m.A len m.c]).alloc (.cells #[.int .i64 0, .int .i64 0] 32)
  have hk1 := Blk.new (w.alloc (.cells #[.int .u8 (m.k : Int), .int .u64 (m.n0 : Int), .int .u64 (m.n1 : Int), .int .u64 (m.n2 : Int), .int .u64 (m.n3 : Int), .int .u64 (m.n4 : Int), .int .u64 (m.n5 : Int), .string m.s0, .string m.s1, .slice m.A len m.c] 29)) 32 #[.int .i64 0, .int .i64 0]
  rw [World.size_alloc] at hk1
  rw [hws] at hb0 hk0 hk1
  generalize (w.alloc _).alloc _ = W at *
  refine (HSOF.out W).mono ?_
  rintro e w1 ⟨vv, rfl, ho, hb1⟩
  obtain ⟨A, c, rfl, hs1⟩ := SlN.of_own (by omega) ho
  have hk0 := hk0.below hb1 (by omega)
  have hk1 := hk1.below hb1 (by omega)
  have hB1 := hb0.trans (hb1.mono (by omega))
  have hw1 : s + 2 ≤ w1.heap.size := by have := hb1.size; omega
  clear hb0 hb1 ho hz HSOF
  have HS1 := hid hs1
  have HK0 := hid hk0
  have HK1 := hid hk1
  have HB1 := hid hB1
  -- the end: a fault is stored
  have hend : ∀ (W9 : World) (x y : Int), Below w1.heap.size w1 W9 → R = (x, y) → ∃ W', W' = (W9.setCell ⟨s + 1, 0, none⟩ (.int .i64 x)).setCell ⟨s + 1, 1, none⟩ (.int .i64 y) ∧ Blk W' (s + 1) 32 #[.int .i64 x, .int .i64 y] ∧ FltOf w R (.returned (.agg #[.int .i64 x, .int .i64 y])) W' := by
    intro W9 x y hB hR
    have h1 := fstore (hk1.below hB hk1.lt) (.int .i64 x) (.int .i64 y)
    refine ⟨_, rfl, h1.1, by rw [hR], ?_⟩
    rw [hws]
    exact (hB1.trans (hB.mono (by omega))).trans (h1.2.below (B := s) (fun q hq => by omega) (by have := hB.size; omega))
  have hcl : ∀ (W9 : World), Below w1.heap.size w1 W9 → (W9.cell? ⟨s + 1, 0, none⟩ = some (.int .i64 0) ∧ W9.cell? ⟨s + 1, 1, none⟩ = some (.int .i64 0) ∧ W9.frozen? ⟨s + 1, 0, none⟩ = false ∧ W9.frozen? ⟨s + 1, 1, none⟩ = false) := by
    intro W9 hB
    have h1 := hk1.below hB hk1.lt
    exact ⟨h1.cell 0, h1.cell 1, h1.frozen 0, h1.frozen 1⟩
  have hcm : ∀ (W9 : World), Below w1.heap.size w1 W9 → Blk W9 s 29 #[.int .u8 (m.k : Int), .int .u64 (m.n0 : Int), .int .u64 (m.n1 : Int), .int .u64 (m.n2 : Int), .int .u64 (m.n3 : Int), .int .u64 (m.n4 : Int), .int .u64 (m.n5 : Int), .string m.s0, .string m.s1, .slice m.A len m.c] := fun W9 hB => hk0.below hB hk0.lt
  have HEND := hid hend
  have HCL := hid hcl
  have HCM := hid hcm
  clear hend hcl hcm hs1 hk0 hk1 hB1 HK1 HK0
  by_cases hn0 : nL = 0
  · have hR := HV.out
    rw [if_pos hn0] at hR
    subst hn0
    have HR := hid hR
    clear hR
    obtain ⟨c0, c1, f0, f1⟩ := HCL.out w1 (Below.refl _ _)
    go_wp2_with fail
    obtain ⟨W', hW', hbk, hfl⟩ := HEND.out w1 7 0 (Below.refl _ _) HR.out
    rw [← hW']
    have r0 := hbk.cell 0
    have r1 := hbk.cell 1
    simp only [List.getElem?_toArray, List.getElem?_cons_zero, List.getElem?_cons_succ] at r0 r1
    clear hW'
    refine bodyPost_ret (v := .agg #[.int .i64 7, .int .i64 0]) (by simp [results, Try.results39, go_sem, r0, r1]) rfl ?_
    rw [← HTT.out]
    exact hfl
  have hn1 : 0 < nL := by omega
  have hR := HV.out
  rw [if_neg hn0] at hR
  have HR := hid hR
  clear hR HV
  go_wp2_with fail
  go_step3
  go_wp2_with fail
  go_loopw [22] (fun i wr => ∃ j : Nat, j ≤ nL ∧ i = .int .i64 (j : Int) ∧ chkL m L = chkL m (L.drop j) ∧ Below w1.heap.size w1 wr) (fun i _ => nL - (intOf i).toNat)
  case atStart => exact ⟨0, by omega, rfl, rfl, Below.refl _ _⟩
  case round =>
    obtain ⟨j, hj, rfl, hch, hB⟩ := hrel
    have hk := HCM.out wr hB
    have c0 := hk.cell 0
    have c1 := hk.cell 1
    have c2 := hk.cell 2
    have c3 := hk.cell 3
    have c4 := hk.cell 4
    have c5 := hk.cell 5
    have c6 := hk.cell 6
    have c7 := hk.cell 7
    have c8 := hk.cell 8
    have c9 := hk.cell 9
    simp only [List.getElem?_toArray, List.getElem?_cons_zero, List.getElem?_cons_succ] at c0 c1 c2 c3 c4 c5 c6 c7 c8 c9
    have hls := hk.lt
    by_cases hlt : j < nL
    · have hjl : j < L.length := by have := HNL.out; omega
      have hn0' : (L.flatMap specC)[j * 3 + 0]? = _ := flatMap_get specC 3 L j 0 hjl (fun _ _ => rfl) (by omega)
      have hn1' : (L.flatMap specC)[j * 3 + 1]? = _ := flatMap_get specC 3 L j 1 hjl (fun _ _ => rfl) (by omega)
      have hn2' : (L.flatMap specC)[j * 3 + 2]? = _ := flatMap_get specC 3 L j 2 hjl (fun _ _ => rfl) (by omega)
      obtain ⟨b, off, hA, hbw, t0⟩ := HS1.out.rd _ _ hn0'
      subst hA
      have t1 := HS1.out.rd.addr _ _ hn1'
      have t2 := HS1.out.rd.addr _ _ hn2'
      rw [addr_add] at t1 t2
      simp only [Nat.add_zero, ← Nat.add_assoc] at t0 t1 t2
      have t0 := (hB.cell (p := ⟨b, off + j * 3, none⟩) hbw).trans t0
      have t1 := (hB.cell (p := ⟨b, off + j * 3 + 1, none⟩) hbw).trans t1
      have t2 := (hB.cell (p := ⟨b, off + j * 3 + 2, none⟩) hbw).trans t2
      have hji : (j : Int) < (nL : Int) := by omega
      have hj0 : (0 : Int) ≤ (j : Int) := by omega
      have hat := chkL_at (m := m) hjl
      rw [← hch] at hat
      have hfl : fldE m L[j] = if dflB m (L[j].typ : Nat) (L[j].slot : Nat) then 0 else wrongE m (L[j].typ : Nat) (L[j].slot : Nat) := rfl
      have hdf := fun W => HDF.out (L[j].num : Nat) (L[j].typ : Nat) (L[j].slot : Nat) W
      have hwr := fun W hW => HWR.out (L[j].num : Nat) (L[j].typ : Nat) (L[j].slot : Nat) W hW
      clear hn0' hn1' hn2'
      generalize fldE m L[j] = fe at *
      generalize dflB m (L[j].typ : Nat) (L[j].slot : Nat) = db at *
      generalize wrongE m (L[j].typ : Nat) (L[j].slot : Nat) = we at *
      generalize L[j] = r at *
      obtain ⟨rk, si, nu, ty, sl⟩ := r
      simp only at t0 t1 t2 hat hdf hwr
      have hbx : Below w1.heap.size w1 (wr.alloc (.cells #[.int .i64 (nu : Int), .int .i64 (ty : Int), .int .i64 (sl : Int)] 62)) := bw_a hB _
      have hbk := Blk.new wr 62 #[.int .i64 (nu : Int), .int .i64 (ty : Int), .int .i64 (sl : Int)]
      have HAT := hid hat
      have HFL := hid hfl
      have HD := hid hdf
      have HW := hid hwr
      have HBX := hid hbx
      have HBK := hid hbk
      have HCH := hid hch
      clear hat hfl hdf hwr hB hch hk hbx hbk
      go_wp2_with fail
      refine (HD.out _).mono ?_
      rintro e w2 ⟨rfl, hb2⟩
      have hB2 := HBX.out.trans (hb2.mono HBX.out.size)
      have HB2 := hid hB2
      have hk2 := HBK.out.below hb2 HBK.out.lt
      have HBK2 := hid hk2
      clear hb2
      cases db with
      | true =>
        have h1 : fe = 0 := by rw [HFL.out]; rfl
        have h2 := HAT.out
        rw [if_pos h1] at h2
        have HX := hid h2
        clear h1 h2 hk2 hB2
        go_wp2_with fail
        exact ⟨⟨j + 1, by omega, by go_num, HX.out, HB2.out⟩, by simp [intOf] <;> omega⟩
      | false =>
        have h1 : fe = we := by rw [HFL.out]; rfl
        have hk := HCM.out w2 hB2
        have c0 := hk.cell 0
        have c1 := hk.cell 1
        have c2 := hk.cell 2
        have c3 := hk.cell 3
        have c4 := hk.cell 4
        have c5 := hk.cell 5
        have c6 := hk.cell 6
        have c7 := hk.cell 7
        have c8 := hk.cell 8
        have c9 := hk.cell 9
        simp only [List.getElem?_toArray, List.getElem?_cons_zero, List.getElem?_cons_succ] at c0 c1 c2 c3 c4 c5 c6 c7 c8 c9
        have d0 := hk2.cell 0
        have d1 := hk2.cell 1
        have d2 := hk2.cell 2
        simp only [List.getElem?_toArray, List.getElem?_cons_zero, List.getElem?_cons_succ] at d0 d1 d2
        have h2 := HAT.out
        rw [h1] at h2
        have HX := hid h2
        clear h1 h2 hk2 hB2 hk
        go_wp2_with fail
        refine (HW.out _ (by rw [hws]; exact HB1.out.trans (HB2.out.mono (by omega)))).mono ?_
        rintro e w3 ⟨rfl, hb3⟩
        have hB3 := HB2.out.trans (hb3.mono HB2.out.size)
        have HB3 := hid hB3
        have hk3 := HBK2.out.below hb3 HBK2.out.lt
        have e0 := hk3.cell 0
        simp only [List.getElem?_toArray, List.getElem?_cons_zero] at e0
        obtain ⟨g0, g1, f0, f1⟩ := HCL.out w3 hB3
        clear hb3 hk3 hB3
        by_cases hwe : we = 0
        · have h2 := HX.out
          rw [if_pos hwe] at h2
          subst hwe
          have HY := hid h2
          clear h2
          go_wp2_with fail
          exact ⟨⟨j + 1, by omega, by go_num, HY.out, HB3.out⟩, by simp [intOf] <;> omega⟩
        · have hwb : (we != 0) = true := by simpa using hwe
          have h2 := HX.out
          rw [if_neg hwe] at h2
          have h3 := HR.out
          rw [h2, if_pos hwe] at h3
          have HY := hid h3
          clear h2 h3 hwe
          go_wp2_with fail
          obtain ⟨W', hW', hbk, hfl⟩ := HEND.out w3 we (nu : Int) HB3.out HY.out
          rw [← hW']
          have r0 := hbk.cell 0
          have r1 := hbk.cell 1
          simp only [List.getElem?_toArray, List.getElem?_cons_zero, List.getElem?_cons_succ] at r0 r1
          clear hW'
          refine bodyPost_ret (v := .agg #[.int .i64 we, .int .i64 (nu : Int)]) (by simp [results, Try.results39, go_sem, r0, r1]) rfl ?_
          rw [← HTT.out]
          exact hfl
    · obtain rfl : j = nL := by omega
      rw [chkL_end (by have := HNL.out; omega)] at hch
      have h3 := HR.out
      rw [hch] at h3
      have h4 : R = if sb then ((0 : Int), (0 : Int)) else (20, 0) := h3
      have HY := hid h4
      have HBR := hid hB
      have HC := hid (And.intro c0 (And.intro c1 (And.intro c2 (And.intro c3 (And.intro c4 (And.intro c5 (And.intro c6 (And.intro c7 (And.intro c8 c9)))))))))
      clear h3 h4 hB hch hk
      go_wp2_with fail
      go_region_held3 (fun w' => w'.cell? ⟨s, 0, none⟩ = some (.int .u8 (m.k : Int)) ∧ w'.cell? ⟨s, 1, none⟩ = some (.int .u64 (m.n0 : Int)) ∧ w'.cell? ⟨s, 2, none⟩ = some (.int .u64 (m.n1 : Int)) ∧ w'.cell? ⟨s, 3, none⟩ = some (.int .u64 (m.n2 : Int)) ∧ w'.cell? ⟨s, 4, none⟩ = some (.int .u64 (m.n3 : Int)) ∧ w'.cell? ⟨s, 5, none⟩ = some (.int .u64 (m.n4 : Int)) ∧ w'.cell? ⟨s, 6, none⟩ = some (.int .u64 (m.n5 : Int)) ∧ w'.cell? ⟨s, 7, none⟩ = some (.string m.s0) ∧ w'.cell? ⟨s, 8, none⟩ = some (.string m.s1) ∧ w'.cell? ⟨s, 9, none⟩ = some (.slice m.A len m.c)) (first | exact HC3.out | exact HC2.out | exact HC.out | go_keep) (first | (go_at_call 47; refine (HKP.out _).mono ?_; rintro e w2 ⟨rfl, hb2⟩; have HC2 := hid (heldm (w := wr.drewN 1) hb2 HC.out); have hW2 : Below w.heap.size w w2 := (by rw [hws]; exact HB1.out.trans ((HBR.out.trans ((bw_t (bw_d (Below.refl _ wr) 1) hb2).mono HBR.out.size)).mono (by omega)))) | (go_at_call 21; refine (HSM.out _ hW2).mono ?_; rintro e w3 ⟨rfl, hb3⟩; have HC3 := hid (heldm hb3 HC2.out)))
      have hB3 := HBR.out.trans ((bw_t (bw_t (bw_d (Below.refl _ wr) 1) hb2) hb3).mono HBR.out.size)
      have HB3 := hid hB3
      obtain ⟨g0, g1, f0, f1⟩ := HCL.out w3 hB3
      clear hB3 hb3 hb2 hW2 HC2 HC3
      cases sb with
      | true =>
        go_wp2_with fail
        obtain ⟨W', hW', hbk, hfl⟩ := HEND.out w3 0 0 HB3.out HY.out
        rw [← hW']
        have r0 := hbk.cell 0
        have r1 := hbk.cell 1
        simp only [List.getElem?_toArray, List.getElem?_cons_zero, List.getElem?_cons_succ] at r0 r1
        clear hW'
        refine bodyPost_ret (v := .agg #[.int .i64 0, .int .i64 0]) (by simp [results, Try.results39, go_sem, r0, r1]) rfl ?_
        rw [← HTT.out]
        exact hfl
      | false =>
        go_wp2_with fail
        obtain ⟨W', hW', hbk, hfl⟩ := HEND.out w3 20 0 HB3.out HY.out
        rw [← hW']
        have r0 := hbk.cell 0
        have r1 := hbk.cell 1
        simp only [List.getElem?_toArray, List.getElem?_cons_zero, List.getElem?_cons_succ] at r0 r1
        clear hW'
        refine bodyPost_ret (v := .agg #[.int .i64 20, .int .i64 0]) (by simp [results, Try.results39, go_sem, r0, r1]) rfl ?_
        rw [← HTT.out]
        exact hfl
end Go.Proofs.Ytealjpolomhdeaa
set_option linter.unusedVariables false
namespace Go.Proofs.Ytealjpolomhdeaa
open Go.RowKit
set_option maxRecDepth 100000 in
set_option maxHeartbeats 2000000 in
theorem sown_any (f : FV) (n : Nat) (w : World) (hn : f.s.xs.length = n) (hl : n ≤ 1000000) (hs : Sl w f.s.A f.s.c (f.s.xs.map bv)) :
    Calls Try.prog 78 #[.agg (fvC f).toArray] w fun e w' => ∃ A' c', e = .returned (.agg (fvC ⟨f.num, f.w, f.n, ⟨A', c', f.s.xs⟩, f.at_⟩).toArray) ∧ w'.ownsRow w.heap.size 5 1 (.slice A' n c') n (f.s.xs.map bv) ∧ Below w.heap.size w w' := by
  obtain ⟨fnum, fw, fn_, ⟨fA, fc, fxs⟩, fat⟩ := f
  simp only at hn hs
  simp only [fvC, hn]
  have hcl := fun W (hW : Below w.heap.size w W) => clone_any fxs n fA fc W hn hl (hs.below hW)
  have HCL := hid hcl
  have HN := hid hn
  clear hcl hs hn
  go_enter Try.func78, Try.ntmps78
  go_wp2_with fail
  have hb0 := bw_a (bw_a (Below.refl w.heap.size w) (.cells #[.int .i64 fnum, .int .u8 fw, .int .u64 (fn_ : Int), .slice fA n fc, .int .i64 fat] 56)) (.cells #[.int .i64 0, .int .u8 0, .int .u64 0, .slice none 0 0, .int .i64 0] 56)
  have hk0 := (Blk.new w 56 #[.int .i64 fnum, .int .u8 fw, .int .u64 (fn_ : Int), .slice fA n fc, .int .i64 fat]).alloc (.cells #[.int .i64 0, .int .u8 0, .int .u64 0, .slice none 0 0, .int .i64 0] 56)
  have hk1 := Blk.new (w.alloc (.cells #[.int .i64 fnum, .int .u8 fw, .int .u64 (fn_ : Int), .slice fA n fc, .int .i64 fat] 56)) 56 #[.int .i64 0, .int .u8 0, .int .u64 0, .slice none 0 0, .int .i64 0]
  have hsz : ((w.alloc (.cells #[.int .i64 fnum, .int .u8 fw, .int .u64 (fn_ : Int), .slice fA n fc, .int .i64 fat] 56)).alloc (.cells #[.int .i64 0, .int .u8 0, .int .u64 0, .slice none 0 0, .int .i64 0] 56)).heap.size = w.heap.size + 2 := by simp
  rw [World.size_alloc] at hk1
  generalize (w.alloc _).alloc _ = W at *
  refine (HCL.out W hb0).mono ?_
  rintro e w1 ⟨v, rfl, ho, hb1⟩
  obtain ⟨A', c', rfl, -, hs1⟩ := Sl.of_own ho
  have ho := own_mono ho (show w.heap.size + 2 ≤ W.heap.size by omega)
  have hk0 := hk0.below hb1 hk0.lt
  have hk1 := hk1.below hb1 hk1.lt
  have c0 := hk0.cell 0
  have c1 := hk0.cell 1
  have c2 := hk0.cell 2
  have c3 := hk0.cell 3
  have c4 := hk0.cell 4
  have g3 := hk0.frozen 3
  have d0 := hk1.cell 0
  have d1 := hk1.cell 1
  have d2 := hk1.cell 2
  have d3 := hk1.cell 3
  have d4 := hk1.cell 4
  have k0 := hk1.frozen 0
  have k1 := hk1.frozen 1
  have k2 := hk1.frozen 2
  have k3 := hk1.frozen 3
  have k4 := hk1.frozen 4
  simp only [List.getElem?_toArray, List.getElem?_cons_zero, List.getElem?_cons_succ] at c0 c1 c2 c3 c4 d0 d1 d2 d3 d4
  have HO := hid ho
  have HB := hid (bw_t hb0 hb1)
  have HK1 := hid hk1
  clear hs1 hb0 hb1 ho hk0 hk1 hsz HCL
  go_wp2_with fail
  have hch := (((((((Chg.refl (fun k => k = w.heap.size ∨ k = w.heap.size + 1) w1).set_ (.inl (.inl rfl)) 3 (.slice A' n c')).set_ (.inl (.inr rfl)) 0 (.int .i64 fnum)).set_ (.inl (.inr rfl)) 1 (.int .u8 fw)).set_ (.inl (.inr rfl)) 2 (.int .u64 (fn_ : Int))).set_ (.inl (.inr rfl)) 3 (.slice A' n c')).set_ (.inl (.inr rfl)) 4 (.int .i64 fat))
  have hblk := ((((((HK1.out.far (p := ⟨w.heap.size, 3, none⟩) (by simp) (.slice A' n c')).set_ 0 (.int .i64 fnum)).set_ 1 (.int .u8 fw)).set_ 2 (.int .u64 (fn_ : Int))).set_ 3 (.slice A' n c')).set_ 4 (.int .i64 fat))
  have ho2 := own_chgS HO.out hch fun g hg hk => by have := (HO.out.lt g hg).1; omega
  have hb2 := HB.out.trans (hch.below (B := w.heap.size) (fun k hk => by omega) (by have := HK1.out.lt; omega))
  have f0 := hblk.cell 0
  have f1 := hblk.cell 1
  have f2 := hblk.cell 2
  have f3 := hblk.cell 3
  have f4 := hblk.cell 4
  clear hblk hch c0 c1 c2 c3 c4 d0 d1 d2 d3 d4 k0 k1 k2 k3 k4 g3
  generalize World.setCell (World.setCell _ _ _) _ _ = W2 at *
  simp at f0 f1 f2 f3 f4
  exact bodyPost_ret (v := .agg #[.int .i64 fnum, .int .u8 fw, .int .u64 (fn_ : Int), .slice A' n c', .int .i64 fat]) (by simp [results, Try.results78, go_sem, f0, f1, f2, f3, f4]) rfl ⟨A', c', rfl, own_mono ho2 (by omega), hb2⟩
theorem of1_any (w : World) (p : Nat) (num : Int) (f : FV) (h : w.cell? ⟨p, 0, none⟩ = some (.int .i64 num)) :
    Calls Try.prog 52 #[.agg (fvC f).toArray, .pointer (some ⟨p, 0, none⟩)] w fun e w' => e = .returned (.bool (decide (f.num = num))) ∧ Below w.heap.size w w' := by
  obtain ⟨fnum, fw, fn_, ⟨fA, fc, fxs⟩, fat⟩ := f
  simp only [fvC]
  have hp := World.block_lt_of_cell? w _ h
  have hb := bw_a (Below.refl w.heap.size w) (.cells #[.int .i64 fnum, .int .u8 fw, .int .u64 (fn_ : Int), .slice fA fxs.length fc, .int .i64 fat] 56)
  go_enter Try.func52, Try.ntmps52
  go_wp2_with fail
  go_ret
  exact ⟨by show Ending.returned (.bool (fnum == num)) = _; by_cases h : fnum = num <;> simp [h], hb⟩
theorem wo1_any (w : World) (p : Nat) (num : Int) (f : FV) (h : w.cell? ⟨p, 0, none⟩ = some (.int .i64 num)) :
    Calls Try.prog 51 #[.agg (fvC f).toArray, .pointer (some ⟨p, 0, none⟩)] w fun e w' => e = .returned (.bool (decide (¬ f.num = num))) ∧ Below w.heap.size w w' := by
  obtain ⟨fnum, fw, fn_, ⟨fA, fc, fxs⟩, fat⟩ := f
  simp only [fvC]
  have hp := World.block_lt_of_cell? w _ h
  have hb := bw_a (Below.refl w.heap.size w) (.cells #[.int .i64 fnum, .int .u8 fw, .int .u64 (fn_ : Int), .slice fA fxs.length fc, .int .i64 fat] 56)
  go_enter Try.func51, Try.ntmps51
  go_wp2_with fail
  go_ret
  exact ⟨by show Ending.returned (.bool (fnum != num)) = _; by_cases h : fnum = num <;> simp [h], hb⟩
/-- A field without its memory. -/
def fvK (f : FV) : Int × Int × Nat × List UInt8 × Int := (f.num, f.w, f.n, f.s.xs, f.at_)
/-- A field whose bytes are the call's own. -/
def FvOwn (B : Nat) (w : World) (f : FV) : Prop := w.ownsRow B 5 1 (.slice f.s.A f.s.xs.length f.s.c) f.s.xs.length (f.s.xs.map bv)
end Go.Proofs.Ytealjpolomhdeaa
set_option linter.unusedVariables false
namespace Go.Proofs.Ytealjpolomhdeaa
open Go.RowKit
theorem FvOk.below {w w' : World} {f : FV} (h : FvOk w f) (hb : Below w.heap.size w w') : FvOk w' f := ⟨h.w0, h.w1, h.n, h.n1, h.n2, h.a1, h.a2, h.s.below hb⟩
/-- What comes of choosing. -/
def Chosen (B : Nat) (ks : List (Int × Int × Nat × List UInt8 × Int)) (w : World) (e : Ending) (w' : World) : Prop :=
  ∃ (v : Value) (fs : List FV), e = .returned v ∧ w'.ownsRow B 56 5 v fs.length (fs.flatMap fvC) ∧ fs.map fvK = ks ∧ (∀ f ∈ fs, FvOwn B w' f) ∧ Below B w w'
end Go.Proofs.Ytealjpolomhdeaa
set_option linter.unusedVariables false
namespace Go.Proofs.Ytealjpolomhdeaa
open Go.RowKit
end Go.Proofs.Ytealjpolomhdeaa
set_option linter.unusedVariables false
namespace Go.Proofs.Ytealjpolomhdeaa
open Go.RowKit
theorem sln_own {w : World} {base e size n : Nat} {v : Value} {xs : List Value} (hsz : 0 < size) (h : w.ownsRow base e size v n xs) : ∃ A c, v = .slice A n c ∧ SlN w A n c size xs := by
  rcases h.2 with ⟨rfl, rfl⟩ | ⟨g, cap, cur, rfl, hb, hg, hnc, hcm, hcs, htake⟩
  · have hx : xs = [] := List.eq_nil_of_length_eq_zero (by simpa using h.1)
    subst hx
    exact ⟨none, 0, rfl, ⟨by simp, by omega, by omega, fun _ => rfl, Rd.nil_ w _⟩⟩
  · refine ⟨_, cap, rfl, ⟨h.1, hnc, hcm, (fun h => by cases h), fun k u hk => ⟨g, 0, rfl, (Array.getElem?_eq_some_iff.1 hg).1, ?_⟩⟩⟩
    have := h.cells (g := g) rfl k u hk
    rwa [addr_add] at this
theorem sl_lit (w : World) (t : TypeId) (bs : List UInt8) (cs : Array Value) (n : Nat) (hn : bs.length = n) (hm : n ≤ 9223372036854775807) (h : cs.toList = bs.map bv) : Sl (w.alloc (.cells cs t)) (some ⟨w.heap.size, 0, none⟩) n (bs.map bv) :=
  ⟨by simp [hn], hm, (fun h => by cases h), by rw [← h]; exact Rd.new w t cs⟩
/-- The two fields. -/
def L6 (A1 : Option Addr) (c1 : Nat) (A2 : Option Addr) (c2 : Nat) : List FV := [⟨1, 0, 5, ⟨A1, c1, []⟩, 0⟩, ⟨2, 2, 0, ⟨A2, c2, [97]⟩, 2⟩]
structure L6Ok (w : World) (Al : Option Addr) (cl : Nat) (A1 : Option Addr) (c1 : Nat) (A2 : Option Addr) (c2 : Nat) : Prop where
  sl : SlN w Al 2 cl 5 ((L6 A1 c1 A2 c2).flatMap fvC)
  ok : ∀ f ∈ L6 A1 c1 A2 c2, FvOk w f
theorem L6Ok.below {w w' : World} {Al A1 A2 : Option Addr} {cl c1 c2 : Nat} (h : L6Ok w Al cl A1 c1 A2 c2) (hb : Below w.heap.size w w') : L6Ok w' Al cl A1 c1 A2 c2 := ⟨h.sl.below hb, fun f hf => (h.ok f hf).below hb⟩
section
variable {w : World} {Al A1 A2 : Option Addr} {cl c1 c2 : Nat}
end
end Go.Proofs.Ytealjpolomhdeaa
set_option linter.unusedVariables false
namespace Go.Proofs.Ytealjpolomhdeaa
open Go.RowKit
/-- What may be of a field that was read of n bytes. -/
def ReadOk (n : Nat) (f : FV) : Prop := 0 ≤ f.w ∧ f.w ≤ 255 ∧ f.n ≤ 18446744073709551615 ∧ 1 ≤ f.num ∧ f.num ≤ 536870911 ∧ 0 ≤ f.at_ ∧ f.at_ ≤ n ∧ f.s.xs.length ≤ n
theorem read_ok (bs : List UInt8) : ∀ (fu p : Nat) (fs : List FV), p ≤ bs.length → fvAll fs (flds bs fu p).1 → fs.length + p ≤ bs.length ∧ ∀ f ∈ fs, ReadOk bs.length f
  | 0, p, fs, hp, hf => by
    cases fs with
    | nil => exact ⟨by simpa using hp, fun f hf => by simp at hf⟩
    | cons f fs => exact hf.elim
  | fu + 1, p, fs, hp, hf => by
    rw [flds] at hf
    by_cases h1 : bs.length ≤ p
    · rw [if_pos h1] at hf
      cases fs with
      | nil => exact ⟨by simpa using hp, fun f hf => by simp at hf⟩
      | cons f fs => exact hf.elim
    · rw [if_neg h1] at hf
      by_cases h2 : (rOne bs p).e = 0
      · rw [if_pos h2] at hf
        cases fs with
        | nil => exact ⟨by simpa using hp, fun f hf => by simp at hf⟩
        | cons f fs =>
          have hn := rOne_facts bs p hp
          obtain ⟨n1, n2, n3, n4, n5⟩ := hn.1 h2
          obtain ⟨a1, a2, a3, a4⟩ := again_one f bs p hp h2 hf.1
          obtain ⟨b1, b2⟩ := read_ok bs fu (rOne bs p).nx fs n2 hf.2
          obtain ⟨f1, f2, f3, f4, f5⟩ := hf.1
          simp only at f1 f2 f3 f4 f5
          refine ⟨by rw [List.length_cons]; omega, fun g hg => ?_⟩
          rcases List.mem_cons.1 hg with rfl | hg
          · have hx : g.s.xs.length ≤ bs.length := by
              have hp2 : (pBF g).length = (putN (mk g.num g.w).1.toNat).length + (pTail g.w g.n g.s.xs).length := by unfold pBF pB; rw [List.length_append]
              by_cases hw : g.w = 2
              · have ht : pTail g.w g.n g.s.xs = putN g.s.xs.length ++ g.s.xs := by rw [hw]; rfl
                rw [ht, List.length_append] at hp2
                omega
              · unfold bareX at a3
                rw [if_neg hw] at a3
                rw [← a3]; simp
            refine ⟨by rw [f2]; omega, by rw [f2]; omega, by rw [f3]; exact hn.2, by rw [f1]; exact n3, by rw [f1]; exact n4, by rw [f5]; omega, by rw [f5]; omega, hx⟩
          · exact b2 g hg
      · rw [if_neg h2] at hf
        cases fs with
        | nil => exact ⟨by simpa using hp, fun f hf => by simp at hf⟩
        | cons f fs => exact hf.elim
end Go.Proofs.Ytealjpolomhdeaa
set_option linter.unusedVariables false
namespace Go.Proofs.Ytealjpolomhdeaa
open Go.RowKit
end Go.Proofs.Ytealjpolomhdeaa
set_option linter.unusedVariables false
namespace Go.Proofs.Ytealjpolomhdeaa
open Go.RowKit
end Go.Proofs.Ytealjpolomhdeaa
set_option linter.unusedVariables false
namespace Go.Proofs.Ytealjpolomhdeaa
open Go.RowKit
/-- What stands in a place. -/
def plN (m : MV) (t i : Int) : Nat := if 1 ≤ t ∧ t ≤ 6 then m.num i else 0
def plS (m : MV) (t i : Int) : ByteArray := if 7 ≤ t ∧ t ≤ 9 then m.text i else ⟨#[]⟩
def plV (m : MV) (t : Int) : Value := if t = 10 then .slice m.A m.l.length m.c else .slice none 0 0
end Go.Proofs.Ytealjpolomhdeaa
set_option linter.unusedVariables false
namespace Go.Proofs.Ytealjpolomhdeaa
open Go.RowKit
end Go.Proofs.Ytealjpolomhdeaa
set_option linter.unusedVariables false
namespace Go.Proofs.Ytealjpolomhdeaa
open Go.RowKit
end Go.Proofs.Ytealjpolomhdeaa
set_option linter.unusedVariables false
namespace Go.Proofs.Ytealjpolomhdeaa
open Go.RowKit
def smallB (m : MV) : Bool := decide (m.s0.size ≤ 8000) && decide (m.s1.size ≤ 8000) && decide (m.l.length ≤ 70) && m.l.all fun s => decide (s.size ≤ 200)
theorem smallB_facts {m : MV} (h : smallB m = true) : m.s0.size ≤ 8000 ∧ m.s1.size ≤ 8000 ∧ m.l.length ≤ 70 ∧ ∀ s ∈ m.l, s.size ≤ 200 := by
  unfold smallB at h
  simp only [Bool.and_eq_true, decide_eq_true_eq, List.all_eq_true] at h
  exact ⟨h.1.1.1, h.1.1.2, h.1.2, h.2⟩
set_option maxRecDepth 100000 in
set_option maxHeartbeats 2000000 in
theorem small9_any (m : MV) (w : World) (hs : Sl w m.A m.c (m.l.map sv)) : Calls Try.prog 17 #[mvV m] w fun e w' => e = .returned (.bool (smallB m)) ∧ Below w.heap.size w w' := by
  have hS : smallB m = (decide (m.s0.size ≤ 8000) && decide (m.s1.size ≤ 8000) && decide (m.l.length ≤ 70) && m.l.all fun s => decide (s.size ≤ 200)) := rfl
  generalize smallB m = R at *
  obtain ⟨len, hlen⟩ : ∃ n, m.l.length = n := ⟨_, rfl⟩
  unfold mvV mvA
  rw [hlen] at hS ⊢
  have hbx := bw_a (Below.refl w.heap.size w) (.cells #[.int .u8 (m.k : Int), .int .u64 (m.n0 : Int), .int .u64 (m.n1 : Int), .int .u64 (m.n2 : Int), .int .u64 (m.n3 : Int), .int .u64 (m.n4 : Int), .int .u64 (m.n5 : Int), .string m.s0, .string m.s1, .slice m.A len m.c] 29)
  have hbk := Blk.new w 29 #[.int .u8 (m.k : Int), .int .u64 (m.n0 : Int), .int .u64 (m.n1 : Int), .int .u64 (m.n2 : Int), .int .u64 (m.n3 : Int), .int .u64 (m.n4 : Int), .int .u64 (m.n5 : Int), .string m.s0, .string m.s1, .slice m.A len m.c]
  have HS := hid hS
  have HL := hid hlen
  have HSL := hid (hs.below hbx)
  have HBX := hid hbx
  have HBK := hid hbk
  clear hS hlen hs hbx hbk
  by_cases h0 : m.s0.size ≤ 8000
  case neg =>
    have HR := hid (show R = false from by rw [HS.out]; simp [h0])
    clear HS
    have h0' : 8000 < m.s0.size := by omega
    go_enter Try.func17, Try.ntmps17
    go_wp2_with fail
    go_ret
    exact ⟨by rw [HR.out]; rfl, HBX.out⟩
  by_cases h1 : m.s1.size ≤ 8000
  case neg =>
    have HR := hid (show R = false from by rw [HS.out]; simp [h1])
    clear HS
    have h1' : 8000 < m.s1.size := by omega
    go_enter Try.func17, Try.ntmps17
    go_wp2_with fail
    go_ret
    exact ⟨by rw [HR.out]; rfl, HBX.out⟩
  by_cases h2 : len ≤ 70
  case neg =>
    have HR := hid (show R = false from by rw [HS.out]; simp [h2])
    clear HS
    have h2' : 70 < len := by omega
    go_enter Try.func17, Try.ntmps17
    go_wp2_with fail
    go_ret
    exact ⟨by rw [HR.out]; rfl, HBX.out⟩
  have HR := hid (show R = m.l.all fun s => decide (s.size ≤ 200) from by rw [HS.out]; simp [h0, h1, h2])
  clear HS
  go_enter Try.func17, Try.ntmps17
  go_wp2_with fail
  obtain ⟨W, hW⟩ : ∃ W, w.alloc (.cells #[.int .u8 (m.k : Int), .int .u64 (m.n0 : Int), .int .u64 (m.n1 : Int), .int .u64 (m.n2 : Int), .int .u64 (m.n3 : Int), .int .u64 (m.n4 : Int), .int .u64 (m.n5 : Int), .string m.s0, .string m.s1, .slice m.A len m.c] 29) = W := ⟨_, rfl⟩
  rw [hW] at HBX HBK HSL
  rw [hW]
  obtain ⟨s, hws⟩ : ∃ s, w.heap.size = s := ⟨_, rfl⟩
  rw [hws] at HBK
  have c9 := HBK.out.cell 9
  simp only [List.getElem?_toArray, List.getElem?_cons_zero, List.getElem?_cons_succ] at c9
  clear hW
  go_loopw [3] (fun i wr => ∃ j : Nat, j ≤ len ∧ i = .int .i64 (j : Int) ∧ (m.l.take j).all (fun s => decide (s.size ≤ 200)) = true ∧ wr = W) (fun i _ => len - (intOf i).toNat)
  case atStart => exact ⟨0, by omega, rfl, rfl, rfl⟩
  case round =>
    obtain ⟨j, hj, rfl, hall, rfl⟩ := hrel
    by_cases hlt : j < len
    · have hj1 : j < m.l.length := by have := HL.out; omega
      obtain ⟨b, off, hA, hbw, t0⟩ := HSL.out.rd j (sv m.l[j]) (by simp [hj1])
      rw [hA] at c9
      have hnx : m.l[j].size ≤ 200 → (m.l.take (j + 1)).all (fun s => decide (s.size ≤ 200)) = true := fun h => by
        rw [List.take_succ_eq_append_getElem hj1, List.all_append, hall]; simp [h]
      have hno : ¬ m.l[j].size ≤ 200 → (m.l.all fun s => decide (s.size ≤ 200)) = false := fun h => by
        rw [Bool.eq_false_iff]
        intro h2
        have h3 := List.all_eq_true.1 h2 m.l[j] (List.getElem_mem hj1)
        exact h (by simpa using h3)
      have hji : (j : Int) < (len : Int) := by omega
      have hj0 : (0 : Int) ≤ (j : Int) := by omega
      unfold sv at t0
      generalize m.l[j] = x at *
      have HNX := hid hnx
      have HNO := hid hno
      clear hnx hno hall
      by_cases hx : x.size ≤ 200
      · have HX := hid (HNX.out hx)
        go_wp2_with fail
        exact ⟨⟨j + 1, by omega, by go_num, HX.out, trivial⟩, by simp [intOf] <;> omega⟩
      · have HX := hid (HNO.out hx)
        have hx' : 200 < x.size := by omega
        go_wp2_with fail
        go_ret
        exact ⟨by rw [HR.out, HX.out]; rfl, HBX.out⟩
    · obtain rfl : j = len := by omega
      rw [List.take_of_length_le (by have := HL.out; omega)] at hall
      have HX := hid hall
      clear hall
      go_wp2_with fail
      go_ret
      exact ⟨by rw [HR.out, HX.out]; rfl, HBX.out⟩
end Go.Proofs.Ytealjpolomhdeaa
set_option linter.unusedVariables false
namespace Go.Proofs.Ytealjpolomhdeaa
open Go.RowKit
/-- What a field's parts are: number, wire type, number held, bytes. -/
def partW (m : MV) (num t i : Int) : List (Int × Int × Nat × List UInt8) := if t = 10 then m.l.map (fun s => (num, 2, 0, s.data.toList)) else if 7 ≤ t ∧ t ≤ 9 then [(num, 2, 0, (m.text i).data.toList)] else if t = 3 then [(num, 0, (zig (wrap64 (m.num i : Nat))).toNat, [])] else [(num, (wireN t : Nat), m.num i, [])]
def fvW (f : FV) : Int × Int × Nat × List UInt8 := (f.num, f.w, f.n, f.s.xs)
/-- One field in a row of its own. -/
theorem own_one {w : World} {B g : Nat} {f : FV} (hg : B ≤ g) (hk : Blk w g 56 (fvC f).toArray) : w.ownsRow B 56 5 (.slice (some ⟨g, 0, none⟩) 1 1) 1 ([f].flatMap fvC) := by
  refine ⟨by simp [fvC], .inr ⟨g, 1, _, rfl, hg, hk, Nat.le_refl 1, by decide, by simp [fvC], ?_⟩⟩
  simp [fvC]
def PartsR (m : MV) (num t i : Int) (w : World) (e : Ending) (w' : World) : Prop := ∃ (l : List FV) (v : Value), e = .returned v ∧ w'.ownsRow w.heap.size 56 5 v l.length (l.flatMap fvC) ∧ l.map fvW = partW m num t i ∧ (∀ f ∈ l, FvOk w' f) ∧ Below w.heap.size w w'
theorem blk_top {W : World} {g : Nat} {t : TypeId} {cs : Array Value} (h : W.heap.size = g) : Blk (W.alloc (.cells cs t)) g t cs := by rw [← h]; exact Blk.new W t cs
theorem parts_fin {w W : World} {m : MV} {num t i : Int} {wi q g : Nat} (hpw : partW m num t i = [(num, (wi : Int), q, [])]) (hwi : wi ≤ 5) (hq : q ≤ 18446744073709551615) (hn1 : -9223372036854775808 ≤ num) (hn2 : num ≤ 9223372036854775807) (hB : Below w.heap.size w W) (hg : w.heap.size ≤ g) (hk : Blk W g 56 #[.int .i64 num, .int .u8 (wi : Int), .int .u64 (q : Int), .slice none 0 0, .int .i64 0]) : PartsR m num t i w (.returned (.slice (some ⟨g, 0, none⟩) 1 1)) W := by
  refine ⟨[⟨num, (wi : Int), q, ⟨none, 0, []⟩, 0⟩], _, rfl, own_one hg hk, by rw [hpw]; rfl, fun f hf => ?_, hB⟩
  simp only [List.mem_singleton] at hf
  subst hf
  exact ⟨by dsimp only; omega, by dsimp only; omega, hq, hn1, hn2, by dsimp only; omega, by dsimp only; omega, Sl.nil_ W⟩
set_option maxRecDepth 100000 in
set_option maxHeartbeats 4000000 in
theorem parts_num (m : MV) (num t : Int) (i : Nat) (w : World) (hok : MvOk w m) (hi : i ≤ 5) (ht : t = 1 ∨ t = 2 ∨ t = 4 ∨ t = 5 ∨ t = 6) (hn1 : -9223372036854775808 ≤ num) (hn2 : num ≤ 9223372036854775807) :
    Calls Try.prog 94 #[mvV m, .agg #[.int .i64 num, .int .i64 t, .int .i64 (i : Int)]] w (PartsR m num t i w) := by
  have hx := hok.n (i : Int)
  have hpw : partW m num t (i : Int) = [(num, ((wireN t : Nat) : Int), m.num (i : Int), [])] := by
    unfold partW
    rw [if_neg (by omega), if_neg (by omega), if_neg (by omega)]
  have hww : wireN t ≤ 5 := by unfold wireN; split; omega; split; omega; split <;> omega
  obtain ⟨R, hR⟩ : ∃ R, PartsR m num t i w = R := ⟨_, rfl⟩
  rw [hR]
  have HR := hid hR
  have hwi := fun W => swire_any t W
  have HPW := hid hpw
  clear hR hpw hok
  generalize wireN t = wi at *
  generalize wireK t = wk at *
  have hmi : m.num (i : Int) = [m.n0, m.n1, m.n2, m.n3, m.n4, m.n5].getD i 0 := by
    have hi : i = 0 ∨ i = 1 ∨ i = 2 ∨ i = 3 ∨ i = 4 ∨ i = 5 := by omega
    rcases hi with rfl | rfl | rfl | rfl | rfl | rfl <;> rfl
  generalize hq : m.num (i : Int) = q at *
  have HQ := hid hmi
  clear hmi hq
  unfold mvV mvA
  generalize m.l.length = len at *
  rcases ht with rfl | rfl | rfl | rfl | rfl
  all_goals
    have hi : i = 0 ∨ i = 1 ∨ i = 2 ∨ i = 3 ∨ i = 4 ∨ i = 5 := by omega
    rcases hi with rfl | rfl | rfl | rfl | rfl | rfl
    all_goals
      go_enter Try.func94, Try.ntmps94
      go_wp2_with fail
      refine (hwi _).mono ?_
      rintro e w3 ⟨rfl, rfl⟩
      go_wp2_with fail
      rw [← HR.out]
      show PartsR _ _ _ _ _ (.returned (.slice (some ⟨w.heap.size + 1 + 1 + 1, 0, none⟩) 1 1)) _
      first | (have e : q = m.n0 := HQ.out; subst e) | (have e : q = m.n1 := HQ.out; subst e) | (have e : q = m.n2 := HQ.out; subst e) | (have e : q = m.n3 := HQ.out; subst e) | (have e : q = m.n4 := HQ.out; subst e) | (have e : q = m.n5 := HQ.out; subst e)
      refine parts_fin HPW.out hww hx hn1 hn2 (bw_a (bw_a (bw_a (bw_a (Below.refl _ w) _) _) _) _) (by omega) ?_
      exact blk_top (by simp only [World.size_alloc])
end Go.Proofs.Ytealjpolomhdeaa
set_option linter.unusedVariables false
namespace Go.Proofs.Ytealjpolomhdeaa
open Go.RowKit
theorem held20 {w w' : World} (hc : Below w.heap.size w w') {p0 p1 p2 p3 p4 p5 p6 p7 p8 p9 p10 p11 p12 p13 p14 p15 p16 p17 p18 p19 : Addr} {x0 x1 x2 x3 x4 x5 x6 x7 x8 x9 x10 x11 x12 x13 x14 x15 x16 x17 x18 x19 : Value} (h : w.cell? p0 = some x0 ∧ w.cell? p1 = some x1 ∧ w.cell? p2 = some x2 ∧ w.cell? p3 = some x3 ∧ w.cell? p4 = some x4 ∧ w.cell? p5 = some x5 ∧ w.cell? p6 = some x6 ∧ w.cell? p7 = some x7 ∧ w.cell? p8 = some x8 ∧ w.cell? p9 = some x9 ∧ w.cell? p10 = some x10 ∧ w.cell? p11 = some x11 ∧ w.cell? p12 = some x12 ∧ w.cell? p13 = some x13 ∧ w.cell? p14 = some x14 ∧ w.cell? p15 = some x15 ∧ w.cell? p16 = some x16 ∧ w.cell? p17 = some x17 ∧ w.cell? p18 = some x18 ∧ w.cell? p19 = some x19) : w'.cell? p0 = some x0 ∧ w'.cell? p1 = some x1 ∧ w'.cell? p2 = some x2 ∧ w'.cell? p3 = some x3 ∧ w'.cell? p4 = some x4 ∧ w'.cell? p5 = some x5 ∧ w'.cell? p6 = some x6 ∧ w'.cell? p7 = some x7 ∧ w'.cell? p8 = some x8 ∧ w'.cell? p9 = some x9 ∧ w'.cell? p10 = some x10 ∧ w'.cell? p11 = some x11 ∧ w'.cell? p12 = some x12 ∧ w'.cell? p13 = some x13 ∧ w'.cell? p14 = some x14 ∧ w'.cell? p15 = some x15 ∧ w'.cell? p16 = some x16 ∧ w'.cell? p17 = some x17 ∧ w'.cell? p18 = some x18 ∧ w'.cell? p19 = some x19 := by
  obtain ⟨h0, h1, h2, h3, h4, h5, h6, h7, h8, h9, h10, h11, h12, h13, h14, h15, h16, h17, h18, h19⟩ := h
  have f : ∀ (p : Addr) (x : Value), w.cell? p = some x → w'.cell? p = some x := fun p x h => (hc.cell (World.block_lt_of_cell? w p h)).trans h
  exact ⟨f _ _ h0, f _ _ h1, f _ _ h2, f _ _ h3, f _ _ h4, f _ _ h5, f _ _ h6, f _ _ h7, f _ _ h8, f _ _ h9, f _ _ h10, f _ _ h11, f _ _ h12, f _ _ h13, f _ _ h14, f _ _ h15, f _ _ h16, f _ _ h17, f _ _ h18, f _ _ h19⟩
/-- The two messages in their boxes. -/
def L9S (s : Nat) (w' : World) : Prop := w'.cell? ⟨s, 0, none⟩ = some (.int .u8 8) ∧ w'.cell? ⟨s, 1, none⟩ = some (.int .u64 5) ∧ w'.cell? ⟨s, 2, none⟩ = some (.int .u64 0) ∧ w'.cell? ⟨s, 3, none⟩ = some (.int .u64 0) ∧ w'.cell? ⟨s, 4, none⟩ = some (.int .u64 0) ∧ w'.cell? ⟨s, 5, none⟩ = some (.int .u64 0) ∧ w'.cell? ⟨s, 6, none⟩ = some (.int .u64 0) ∧ w'.cell? ⟨s, 7, none⟩ = some (.string ⟨#[]⟩) ∧ w'.cell? ⟨s, 8, none⟩ = some (.string ⟨#[]⟩) ∧ w'.cell? ⟨s, 9, none⟩ = some (.slice none 0 0) ∧ w'.cell? ⟨s + 1, 0, none⟩ = some (.int .u8 7) ∧ w'.cell? ⟨s + 1, 1, none⟩ = some (.int .u64 0) ∧ w'.cell? ⟨s + 1, 2, none⟩ = some (.int .u64 0) ∧ w'.cell? ⟨s + 1, 3, none⟩ = some (.int .u64 0) ∧ w'.cell? ⟨s + 1, 4, none⟩ = some (.int .u64 0) ∧ w'.cell? ⟨s + 1, 5, none⟩ = some (.int .u64 0) ∧ w'.cell? ⟨s + 1, 6, none⟩ = some (.int .u64 0) ∧ w'.cell? ⟨s + 1, 7, none⟩ = some (.string ⟨#[120]⟩) ∧ w'.cell? ⟨s + 1, 8, none⟩ = some (.string ⟨#[]⟩) ∧ w'.cell? ⟨s + 1, 9, none⟩ = some (.slice none 0 0)
theorem L9S.step {s : Nat} {w w' : World} (hb : Below w.heap.size w w') (h : L9S s w) : L9S s w' := held20 hb h
end Go.Proofs.Ytealjpolomhdeaa
set_option linter.unusedVariables false
namespace Go.Proofs.Ytealjpolomhdeaa
open Go.RowKit
end Go.Proofs.Ytealjpolomhdeaa
set_option linter.unusedVariables false
namespace Go.Proofs.Ytealjpolomhdeaa
open Go.RowKit
end Go.Proofs.Ytealjpolomhdeaa
set_option linter.unusedVariables false
namespace Go.Proofs.Ytealjpolomhdeaa
open Go.RowKit
theorem putsE_zero (l : List FV) (h : ∀ f ∈ l, pErrF f = 0) : ∀ i, putsE l i = (0, 0) := by
  induction l with
  | nil => intro i; rfl
  | cons f fs ih =>
    intro i
    rw [putsE, if_pos (h f (List.mem_cons_self ..))]
    exact ih (fun g hg => h g (List.mem_cons_of_mem _ hg)) _
end Go.Proofs.Ytealjpolomhdeaa
set_option linter.unusedVariables false
namespace Go.Proofs.Ytealjpolomhdeaa
open Go.RowKit
theorem putsE_all (l : List FV) : ∀ i, (putsE l i).1 = 0 → (∀ f ∈ l, pErrF f = 0) := by
  induction l with
  | nil => intro i _ f hf; simp at hf
  | cons f fs ih =>
    intro i h
    rw [putsE] at h
    by_cases h0 : pErrF f = 0
    · rw [if_pos h0] at h
      intro g hg
      rcases List.mem_cons.1 hg with rfl | hg
      · exact h0
      · exact ih _ h g hg
    · rw [if_neg h0] at h
      exact absurd h h0
end Go.Proofs.Ytealjpolomhdeaa
set_option linter.unusedVariables false
namespace Go.Proofs.Ytealjpolomhdeaa
open Go.RowKit
set_option maxRecDepth 100000 in
set_option maxHeartbeats 4000000 in
theorem chosen8_any (l : List FV) (m : Nat) (A : Option Addr) (c : Nat) (w : World) (F : FuncId) (p : Nat) (P : FV → Bool) (hm : l.length = m) (hm2 : m ≤ 2000) (hl : SlN w A m c 5 (l.flatMap fvC)) (hok : ∀ f ∈ l, FvOk w f) (hx : ∀ f ∈ l, f.s.xs.length ≤ 8200)
    (he : ∀ args W, (callFunc F args).run Try.prog W = .ok (.enter F args) W) (hF : ∀ W f, Below w.heap.size w W → Calls Try.prog F #[.agg (fvC f).toArray, .pointer (some ⟨p, 0, none⟩)] W fun e W' => e = .returned (.bool (P f)) ∧ Below W.heap.size W W') :
    Calls Try.prog 50 #[.slice A m c, .func (.func F) #[] #[.pointer (some ⟨p, 0, none⟩)]] w fun e w' => ∃ (v : Value) (fs : List FV), e = .returned v ∧ w'.ownsRow w.heap.size 56 5 v fs.length (fs.flatMap fvC) ∧ fs.map fvK = (l.filter P).map fvK ∧ (∀ f ∈ fs, FvOwn w.heap.size w' f) ∧ Below w.heap.size w w' := by
  have hcm : m ≤ 9223372036854775807 := by omega
  obtain ⟨i5, hi5, hi50, hi51, hi52⟩ := info_parts Try.infoField
  have HM := hid hm
  have HL := hid hl
  have HOK := hid hok
  have HX := hid hx
  have HF := hid hF
  clear hm hl hok hx hF
  go_enter Try.func50, Try.ntmps50
  go_wp2_with fail
  go_loopw [5, 10] (fun v i wr => ∃ (j : Nat) (fs : List FV), j ≤ m ∧ i = .int .i64 (j : Int) ∧ fs.length ≤ j ∧ wr.ownsRow w.heap.size 56 5 v fs.length (fs.flatMap fvC) ∧ fs.map fvK = ((l.take j).filter P).map fvK ∧ (∀ f ∈ fs, FvOwn w.heap.size wr f) ∧ Below w.heap.size w wr) (fun _ i _ => m - (intOf i).toNat)
  case atStart => exact ⟨0, [], by omega, rfl, by simp, World.ownsRow_nil _ _ _ _, rfl, by simp, Below.refl _ _⟩
  case round =>
    obtain ⟨j, fs, hj, rfl, hfj, ho, hfs, hown, hB⟩ := hrel
    by_cases hlt : j < m
    · have hjl : j < l.length := by have := HM.out; omega
      have hn0 : (l.flatMap fvC)[j * 5 + 0]? = _ := flatMap_get fvC 5 l j 0 hjl (fun _ _ => rfl) (by omega)
      have hn1 : (l.flatMap fvC)[j * 5 + 1]? = _ := flatMap_get fvC 5 l j 1 hjl (fun _ _ => rfl) (by omega)
      have hn2 : (l.flatMap fvC)[j * 5 + 2]? = _ := flatMap_get fvC 5 l j 2 hjl (fun _ _ => rfl) (by omega)
      have hn3 : (l.flatMap fvC)[j * 5 + 3]? = _ := flatMap_get fvC 5 l j 3 hjl (fun _ _ => rfl) (by omega)
      have hn4 : (l.flatMap fvC)[j * 5 + 4]? = _ := flatMap_get fvC 5 l j 4 hjl (fun _ _ => rfl) (by omega)
      have hoka := HOK.out l[j] (List.getElem_mem hjl)
      have hxa := HX.out l[j] (List.getElem_mem hjl)
      have htk : l.take (j + 1) = l.take j ++ [l[j]] := (List.take_append_getElem hjl).symm
      obtain ⟨b, off, rfl, hbw, t0⟩ := HL.out.rd _ _ hn0
      have u1 := HL.out.rd.addr _ _ hn1
      have u2 := HL.out.rd.addr _ _ hn2
      have u3 := HL.out.rd.addr _ _ hn3
      have u4 := HL.out.rd.addr _ _ hn4
      rw [addr_add] at u1 u2 u3 u4
      simp only [Nat.add_zero, ← Nat.add_assoc] at t0 u1 u2 u3 u4
      have t0 := (hB.cell (p := ⟨b, off + j * 5, none⟩) hbw).trans t0
      have t1 := (hB.cell (p := ⟨b, off + j * 5 + 1, none⟩) hbw).trans u1
      have t2 := (hB.cell (p := ⟨b, off + j * 5 + 2, none⟩) hbw).trans u2
      have t3 := (hB.cell (p := ⟨b, off + j * 5 + 3, none⟩) hbw).trans u3
      have t4 := (hB.cell (p := ⟨b, off + j * 5 + 4, none⟩) hbw).trans u4
      have hji : (j : Int) < (m : Int) := by omega
      have hj0 : (0 : Int) ≤ (j : Int) := by omega
      clear hn0 hn1 hn2 hn3 hn4 u1 u2 u3 u4
      generalize l[j] = f at *
      have hcf := fun W (hW : Below w.heap.size w W) => HF.out W f hW
      have hco := fun W (hW : Below wr.heap.size wr W) => sown_any f f.s.xs.length W rfl (by omega) (hoka.s.below (hB.trans (hW.mono hB.size)))
      obtain ⟨pf, hpf⟩ : ∃ pf, P f = pf := ⟨_, rfl⟩
      rw [hpf] at hcf
      obtain ⟨fnum, fw, fn_, ⟨fA, fc, fxs⟩, fat⟩ := f
      obtain ⟨xl, hxl⟩ : ∃ xl, fxs.length = xl := ⟨_, rfl⟩
      simp only [fvC, hxl] at t0 t1 t2 t3 t4 hxa hcf hco
      have HCF := hid hcf
      have HCO := hid hco
      have HTK := hid htk
      have HHB := hid hB
      have HO := hid ho
      have HFS := hid hfs
      have HOWN := hid hown
      have HPF := hid hpf
      have hb1 := bw_a (Below.refl wr.heap.size wr) (.cells #[.int .i64 fnum, .int .u8 fw, .int .u64 (fn_ : Int), .slice fA xl fc, .int .i64 fat] 56)
      have hk1 := Blk.new wr 56 #[.int .i64 fnum, .int .u8 fw, .int .u64 (fn_ : Int), .slice fA xl fc, .int .i64 fat]
      clear hcf hco htk hB ho hfs hown hpf hoka
      go_wp2_with fail
      refine (HCF.out _ (bw_t HHB.out hb1)).mono ?_
      rintro e w2 ⟨rfl, hb2⟩
      have hb12 := bw_t hb1 hb2
      have hk2 := hk1.below hb2 hk1.lt
      have d0 := hk2.cell 0
      have d1 := hk2.cell 1
      have d2 := hk2.cell 2
      have d3 := hk2.cell 3
      have d4 := hk2.cell 4
      simp only [List.getElem?_toArray, List.getElem?_cons_zero, List.getElem?_cons_succ] at d0 d1 d2 d3 d4
      have HB12 := hid hb12
      clear hb1 hb2 hk1 hk2 hb12 t0 t1 t2 t3 t4
      cases pf with
      | false =>
        go_wp2_with fail
        go_roundw
        case rel => exact ⟨j + 1, fs, by omega, by go_num, by omega, own_below HO.out HB12.out, by rw [HTK.out, List.filter_append, HFS.out]; simp [HPF.out], fun f hf => own_below (HOWN.out f hf) HB12.out, bw_t HHB.out HB12.out⟩
        case measure => simp [intOf] <;> omega
      | true =>
        go_wp2_with (first | (go_at_call 78; refine (HCO.out _ HB12.out).mono ?_; rintro e w3 ⟨A', c', rfl, ho3, hb3⟩; have HO3 := hid ho3; have HB3 := hid (bw_t HB12.out hb3); clear ho3 hb3) | (at_builtin; refine wpList_append_rd rfl _ _ 36 rfl w.heap.size 56 i5 (.agg #[.int .i64 0, .int .u8 0, .int .u64 0, .slice none 0 0, .int .i64 0]) 5 56 Try.underlying36 hi5 hi50 hi51 hi52 rfl (by decide) _ fs.length (fs.flatMap fvC) rfl ((own_below HO.out HB3.out).alloc _) (some ⟨w3.heap.size, 0, none⟩) 1 1 [.int .i64 fnum, .int .u8 fw, .int .u64 (fn_ : Int), .slice A' xl c', .int .i64 fat] rfl rfl (Rd.new w3 56 #[.int .i64 fnum, .int .u8 fw, .int .u64 (fn_ : Int), .slice A' xl c', .int .i64 fat]) (fun h => by cases h) (by simp [Value.oneCell']) (by simp only [maxLen]; omega) (by omega) (by have := (bw_t HHB.out HB3.out).size; simp; omega) ?_; intro v4 w4 hown4 hgrow; have HO4 := hid hown4; have HG4 := hid hgrow; clear hown4 hgrow))
        have hrow3 := (own_below HO.out HB3.out).alloc (.cells #[.int .i64 fnum, .int .u8 fw, .int .u64 (fn_ : Int), .slice A' xl c', .int .i64 fat] 56)
        have hbw3 := (bw_t HHB.out HB3.out)
        go_roundw
        case rel =>
          refine ⟨j + 1, fs ++ [⟨fnum, fw, fn_, ⟨A', c', fxs⟩, fat⟩], by omega, by go_num, by simp; omega, ?_, ?_, ?_, bw_g (bw_a hbw3 _) HG4.out (fun k ek => (hrow3.lt k ek).1)⟩
          · rw [List.length_append, List.flatMap_append]
            simpa [fvC, hxl] using HO4.out
          · rw [HTK.out, List.filter_append, List.map_append, List.map_append, HFS.out]; simp [HPF.out, fvK]
          · intro f hf
            rcases List.mem_append.1 hf with hf | hf
            · have h := (own_below (HOWN.out f hf) HB3.out).alloc (.cells #[.int .i64 fnum, .int .u8 fw, .int .u64 (fn_ : Int), .slice A' xl c', .int .i64 fat] 56)
              exact h.kept HG4.out (own_two h hrow3 (by decide))
            · obtain rfl := List.mem_singleton.1 hf
              have h := (own_mono HO3.out (base' := w.heap.size) (by have := HHB.out.size; have := HB12.out.size; omega)).alloc (.cells #[.int .i64 fnum, .int .u8 fw, .int .u64 (fn_ : Int), .slice A' xl c', .int .i64 fat] 56)
              have h2 := h.kept HG4.out (own_two h hrow3 (by decide))
              unfold FvOwn
              simpa [hxl] using h2
        case measure => simp [intOf] <;> omega
    · obtain rfl : j = m := by omega
      go_wp2
      go_ret
      have hlj : l.length = j := HM.out
      rw [List.take_of_length_le (by omega)] at hfs
      exact ⟨_, fs, rfl, ho, hfs, hown, hB⟩
set_option maxRecDepth 100000 in
set_option maxHeartbeats 2000000 in
theorem swo8_any (l : List FV) (m : Nat) (A : Option Addr) (c : Nat) (num : Int) (w : World) (hm : l.length = m) (hm2 : m ≤ 2000) (hl : SlN w A m c 5 (l.flatMap fvC)) (hok : ∀ f ∈ l, FvOk w f) (hx : ∀ f ∈ l, f.s.xs.length ≤ 8200) :
    Calls Try.prog 29 #[.slice A m c, .int .i64 num] w (Chosen w.heap.size ((l.filter fun f => decide (¬ f.num = num)).map fvK) w) := by
  have hmf := func_run (P := Try.prog)
  have hb1 := bw_a (Below.refl w.heap.size w) (.cells #[.int .i64 num] 3)
  have hc1 : (w.alloc (.cells #[.int .i64 num] 3)).cell? ⟨w.heap.size, 0, none⟩ = some (.int .i64 num) := (Blk.new w 3 #[.int .i64 num]).cell 0
  have hch := chosen8_any l m A c (w.alloc (.cells #[.int .i64 num] 3)) 51 w.heap.size (fun f => decide (¬ f.num = num)) hm hm2 (hl.below hb1) (fun f hf => (hok f hf).below hb1) hx (fun args W => by kernel_rfl)
    (fun W f hW => wo1_any W w.heap.size num f ((hW.cell (p := ⟨w.heap.size, 0, none⟩) (by simp)).trans hc1))
  have HCH := hid hch
  have HB := hid hb1
  clear hch hl hok hx hb1 hc1
  go_enter Try.func29, Try.ntmps29
  go_wp2_with fail
  refine HCH.out.mono ?_
  rintro e w2 ⟨v, fs, rfl, ho, hfs, hown, hb⟩
  go_wp2_with fail
  go_ret
  exact ⟨v, fs, rfl, own_mono ho (by simp), hfs, fun f hf => own_mono (hown f hf) (by simp), bw_t HB.out hb⟩
end Go.Proofs.Ytealjpolomhdeaa
set_option linter.unusedVariables false
namespace Go.Proofs.Ytealjpolomhdeaa
open Go.RowKit
theorem ofL_iff (k v : Int) (r : SRow) : r ∈ ofL k v ↔ v ≤ 3 ∧ r ∈ ROWS ∧ (r.since : Int) ≤ v ∧ (r.kind : Int) = k := by
  unfold ofL kn
  rw [List.mem_filter]
  by_cases h : 3 < v
  · rw [if_pos h]
    constructor
    · rintro ⟨h1, -⟩; simp at h1
    · rintro ⟨h1, -⟩; omega
  · rw [if_neg h, List.mem_filter]
    simp only [decide_eq_true_eq]
    constructor
    · rintro ⟨⟨h1, h2⟩, h3⟩; exact ⟨by omega, h1, h2, h3⟩
    · rintro ⟨-, h1, h2, h3⟩; exact ⟨⟨h1, h2⟩, h3⟩
theorem kept_num (L : List SRow) (m : MV) (i : Nat) (h : i ≤ 5) : (keptM L m).num (i : Int) = if mkN L i then m.num (i : Int) else 0 := by
  have hi : i = 0 ∨ i = 1 ∨ i = 2 ∨ i = 3 ∨ i = 4 ∨ i = 5 := by omega
  rcases hi with rfl | rfl | rfl | rfl | rfl | rfl <;> rfl
theorem kept_text (L : List SRow) (m : MV) (i : Nat) (h : i ≤ 1) : (keptM L m).text (i : Int) = if mkS L i then m.text (i : Int) else ⟨#[]⟩ := by
  have hi : i = 0 ∨ i = 1 := by omega
  rcases hi with rfl | rfl <;> rfl
theorem kept_l (L : List SRow) (m : MV) : (keptM L m).l = if mkL L then m.l else [] := rfl
theorem fldE_dep {m m' : MV} {r : SRow} (hr : 1 ≤ r.typ ∧ r.typ ≤ 10) (h1 : r.typ ≤ 6 → m.num (r.slot : Nat) = m'.num (r.slot : Nat)) (h2 : 7 ≤ r.typ → r.typ ≤ 9 → m.text (r.slot : Nat) = m'.text (r.slot : Nat)) (h3 : r.typ = 10 → m.l = m'.l) : fldE m r = fldE m' r := by
  have hd : dflB m (r.typ : Nat) (r.slot : Nat) = dflB m' (r.typ : Nat) (r.slot : Nat) := by
    by_cases c1 : r.typ ≤ 6
    · rw [dfl_num _ _ _ ⟨by omega, by omega⟩, dfl_num _ _ _ ⟨by omega, by omega⟩, h1 c1]
    by_cases c2 : r.typ ≤ 9
    · rw [dfl_text _ _ _ ⟨by omega, by omega⟩, dfl_text _ _ _ ⟨by omega, by omega⟩, h2 (by omega) c2]
    · have c3 : r.typ = 10 := by omega
      have c4 : ((r.typ : Nat) : Int) = 10 := by omega
      rw [c4, dfl_list, dfl_list, h3 c3]
  have hw : wrongE m (r.typ : Nat) (r.slot : Nat) = wrongE m' (r.typ : Nat) (r.slot : Nat) := by
    by_cases c1 : r.typ ≤ 6
    · by_cases c5 : r.typ = 1 ∨ r.typ = 5
      · rw [wr_num _ _ _ (by omega), wr_num _ _ _ (by omega), h1 c1]
      by_cases c4 : r.typ = 4
      · have c6 : ((r.typ : Nat) : Int) = 4 := by omega
        rw [c6, wr_bool, wr_bool, h1 c1]
      · rw [wr_out _ _ _ (by omega), wr_out _ _ _ (by omega)]
    by_cases c2 : r.typ ≤ 9
    · rw [wr_text _ _ _ ⟨by omega, by omega⟩, wr_text _ _ _ ⟨by omega, by omega⟩, h2 (by omega) c2]
    · have c3 : r.typ = 10 := by omega
      have c4 : ((r.typ : Nat) : Int) = 10 := by omega
      rw [c4, wr_list, wr_list, h3 c3]
  unfold fldE
  rw [hd, hw]
theorem chkL_dep {m m' : MV} : ∀ (L : List SRow), (∀ r ∈ L, fldE m r = fldE m' r) → chkL m L = chkL m' L
  | [], _ => rfl
  | r :: rs, h => by
    rw [chkL, chkL, h r (List.mem_cons_self ..), chkL_dep rs fun q hq => h q (List.mem_cons_of_mem _ hq)]
theorem chkL_all {m : MV} : ∀ (L : List SRow), (chkL m L).1 = 0 → ∀ r ∈ L, fldE m r = 0
  | [], _ => fun r hr => by simp at hr
  | r :: rs, h => by
    rw [chkL] at h
    by_cases c : fldE m r = 0
    · rw [if_pos c] at h
      intro q hq
      rcases List.mem_cons.1 hq with rfl | hq
      · exact c
      · exact chkL_all rs h q hq
    · rw [if_neg c] at h
      exact absurd h c
theorem ka_iff (b : Bool) (i n : Nat) (hi : i < 6) : n = ka b 6 i n ↔ (b = false → n = 0) := by
  unfold ka
  rw [if_pos hi]
  cases b <;> simp
theorem kb_iff (b : Bool) (i : Nat) (s : ByteArray) (hi : i < 2) : s = kb b 2 i s ↔ (b = false → s = ⟨#[]⟩) := by
  unfold kb
  rw [if_pos hi]
  cases b <;> simp
theorem sameB_iff (a b : MV) : sameB a b = true ↔ a.k = b.k ∧ sameN a b ∧ sameT a b ∧ a.l = b.l := by
  unfold sameB
  simp only [Bool.and_eq_true, decide_eq_true_eq, and_assoc]
theorem same_kept {L : List SRow} {m : MV} (h : sameB m (keptM L m) = true) : (∀ i : Nat, i ≤ 5 → mkN L i = false → m.num (i : Int) = 0) ∧ (∀ i : Nat, i ≤ 1 → mkS L i = false → m.text (i : Int) = ⟨#[]⟩) ∧ (mkL L = false → m.l = []) := by
  obtain ⟨-, ⟨a0, a1, a2, a3, a4, a5⟩, ⟨b0, b1⟩, hl⟩ := (sameB_iff _ _).1 h
  refine ⟨fun i hi => ?_, fun i hi => ?_, fun hm => ?_⟩
  · have hi : i = 0 ∨ i = 1 ∨ i = 2 ∨ i = 3 ∨ i = 4 ∨ i = 5 := by omega
    rcases hi with rfl | rfl | rfl | rfl | rfl | rfl
    · exact (ka_iff _ 0 _ (by omega)).1 a0
    · exact (ka_iff _ 1 _ (by omega)).1 a1
    · exact (ka_iff _ 2 _ (by omega)).1 a2
    · exact (ka_iff _ 3 _ (by omega)).1 a3
    · exact (ka_iff _ 4 _ (by omega)).1 a4
    · exact (ka_iff _ 5 _ (by omega)).1 a5
  · have hi : i = 0 ∨ i = 1 := by omega
    rcases hi with rfl | rfl
    · exact (kb_iff _ 0 _ (by omega)).1 b0
    · exact (kb_iff _ 1 _ (by omega)).1 b1
  · rw [kept_l, hm] at hl; exact hl
theorem any_mono {p : SRow → Bool} {L L' : List SRow} (hs : ∀ r ∈ L, r ∈ L') (h : L'.any p = false) : L.any p = false := by
  cases c : L.any p with
  | false => rfl
  | true =>
    obtain ⟨r, hr, hp⟩ := List.any_eq_true.1 c
    rw [List.any_eq_true.2 ⟨r, hs r hr, hp⟩] at h
    exact absurd h (by decide)
theorem chkV_zero {m : MV} {L : List SRow} (h : (chkV m L).1 = 0) : chkV m L = (0, 0) ∧ L.length ≠ 0 ∧ (chkL m L).1 = 0 ∧ sameB m (keptM L m) = true := by
  unfold chkV at h ⊢
  by_cases c1 : L.length = 0
  · rw [if_pos c1] at h; exact absurd h (by decide)
  rw [if_neg c1] at h ⊢
  by_cases c2 : (chkL m L).1 = 0
  · rw [if_neg (fun h => h c2)] at h ⊢
    by_cases c3 : sameB m (keptM L m) = true
    · rw [if_pos c3]; exact ⟨rfl, c1, c2, c3⟩
    · rw [if_neg c3] at h; exact absurd h (by decide)
  · rw [if_pos c2] at h; exact absurd h c2
theorem same_symm {a b : MV} (h : sameB a b = true) : sameB b a = true := by
  obtain ⟨h1, ⟨a0, a1, a2, a3, a4, a5⟩, ⟨b0, b1⟩, hl⟩ := (sameB_iff _ _).1 h
  exact (sameB_iff _ _).2 ⟨h1.symm, ⟨a0.symm, a1.symm, a2.symm, a3.symm, a4.symm, a5.symm⟩, ⟨b0.symm, b1.symm⟩, hl.symm⟩
theorem chkV_ac (M : MV) (A : Option Addr) (c : Nat) (L : List SRow) : chkV { M with A := A, c := c } L = chkV M L := by
  have h : chkL { M with A := A, c := c } L = chkL M L := chkL_dep L fun r _ => rfl
  unfold chkV
  rw [h]
  rfl
end Go.Proofs.Ytealjpolomhdeaa
set_option linter.unusedVariables false
namespace Go.Proofs.Ytealjpolomhdeaa
open Go.RowKit
/-- A string's bytes, in a row of their own. -/
theorem conv_any (s : ByteArray) (hsz : s.size ≤ 9223372036854775807) (W : World) (N : Nat) (hN : W.heap.size = N) : ∃ c W4, (convert 9 22 (.string s)).run Try.prog W = .ok (.slice (some ⟨N, 0, none⟩) s.size c) W4 ∧ Sl W4 (some ⟨N, 0, none⟩) c (s.data.toList.map bv) ∧ Below W.heap.size W W4 ∧ W4.heap.size = N + 1 := by
  subst hN
  refine ⟨_, _, Lib.run_convert_string_bytes W _ _ 5 s Try.underlying9 Try.underlying22 Try.underlying5, ?_, ?_, Lib.bytesWorld_size W _ s⟩
  · refine ⟨?_, ?_, (fun h => by cases h), fun k u hk => ⟨W.heap.size, 0, rfl, by rw [Lib.bytesWorld_size]; omega, ?_⟩⟩
    · have h := grownCap_ge W s.size 0 5
      rw [List.length_map]
      exact h
    · exact grownCap_le_maxLen W s.size 0 5 hsz
    · rw [List.getElem?_map] at hk
      obtain ⟨x, hx, rfl⟩ := Option.map_eq_some_iff.1 hk
      have hl : k < s.data.toList.length := (List.getElem?_eq_some_iff.1 hx).1
      have h := Lib.bytesWorld_cell W 5 s k hl
      rw [Nat.zero_add, h, List.getD, hx]
      rfl
  · refine ⟨?_, ?_, ?_, by rw [Lib.bytesWorld_size]; omega, fun k hk => Lib.bytesWorld_at_old W _ s k hk⟩
    all_goals first | rfl | simp [Lib.bytesWorld, World.freeze, World.alloc, World.drew, -World.alloc_eq, -World.drew_eq]
theorem parts_fin2 {w W : World} {m : MV} {num t i : Int} {s : ByteArray} {g c : Nat} {A : Option Addr} (hpw : partW m num t i = [(num, 2, 0, s.data.toList)]) (hn1 : -9223372036854775808 ≤ num) (hn2 : num ≤ 9223372036854775807) (hB : Below w.heap.size w W) (hg : w.heap.size ≤ g) (hk : Blk W g 56 #[.int .i64 num, .int .u8 2, .int .u64 0, .slice A s.size c, .int .i64 0]) (hs : Sl W A c (s.data.toList.map bv)) : PartsR m num t i w (.returned (.slice (some ⟨g, 0, none⟩) 1 1)) W := by
  refine ⟨[⟨num, 2, 0, ⟨A, c, s.data.toList⟩, 0⟩], _, rfl, own_one hg hk, by rw [hpw]; rfl, fun f hf => ?_, hB⟩
  simp only [List.mem_singleton] at hf
  subst hf
  exact ⟨by dsimp only; omega, by dsimp only; omega, by dsimp only; omega, hn1, hn2, by dsimp only; omega, by dsimp only; omega, hs⟩
set_option maxRecDepth 100000 in
set_option maxHeartbeats 4000000 in
theorem parts_text (m : MV) (num t : Int) (i : Nat) (w : World) (hok : MvOk w m) (hi : i ≤ 1) (ht : t = 7 ∨ t = 8 ∨ t = 9) (hn1 : -9223372036854775808 ≤ num) (hn2 : num ≤ 9223372036854775807) :
    Calls Try.prog 94 #[mvV m, .agg #[.int .i64 num, .int .i64 t, .int .i64 (i : Int)]] w (PartsR m num t i w) := by
  have hpw : partW m num t (i : Int) = [(num, 2, 0, (m.text (i : Int)).data.toList)] := by
    unfold partW
    rw [if_neg (by omega), if_pos (by omega)]
  have hww : wireN t = 2 := by unfold wireN; rw [if_neg (by omega), if_neg (by omega), if_pos (by omega)]
  obtain ⟨R, hR⟩ : ∃ R, PartsR m num t i w = R := ⟨_, rfl⟩
  rw [hR]
  have HR := hid hR
  have hwi := fun W => swire_any t W
  have HPW := hid hpw
  rw [hww] at hwi
  have hz0 := hok.s 0
  have hz1 := hok.s 1
  have HZ0 : Hid (m.s0.size ≤ 9223372036854775807) := hid hz0
  have HZ1 : Hid (m.s1.size ≤ 9223372036854775807) := hid hz1
  clear hR hpw hok hww hz0 hz1
  generalize wireK t = wk at *
  have hmi : m.text (i : Int) = [m.s0, m.s1].getD i ⟨#[]⟩ := by
    have hi : i = 0 ∨ i = 1 := by omega
    rcases hi with rfl | rfl <;> rfl
  rw [hmi] at HPW
  clear hmi
  unfold mvV mvA
  generalize m.l.length = len at *
  have hi : i = 0 ∨ i = 1 := by omega
  rcases ht with rfl | rfl | rfl <;> rcases hi with rfl | rfl
  · go_enter Try.func94, Try.ntmps94
    go_wp2_with fail
    refine (hwi _).mono ?_
    rintro e w3 ⟨rfl, rfl⟩
    go_wp2_with fail
    obtain ⟨c4, W4, hcv, hs4, hb4, hz4⟩ := conv_any m.s0 HZ0.out (((w.alloc (.cells #[.int .u8 (m.k : Int), .int .u64 (m.n0 : Int), .int .u64 (m.n1 : Int), .int .u64 (m.n2 : Int), .int .u64 (m.n3 : Int), .int .u64 (m.n4 : Int), .int .u64 (m.n5 : Int), .string m.s0, .string m.s1, .slice m.A len m.c] 29)).alloc (.cells #[.int .i64 num, .int .i64 7, .int .i64 0] 62)).alloc (.cells #[.int .i64 num, .int .u8 2, .int .u64 0, .slice none 0 0, .int .i64 0] 56)) (w.heap.size + 1 + 1 + 1) (by simp only [World.size_alloc])
    rw [hcv]
    have hkf : Blk W4 (w.heap.size + 1 + 1) 56 #[.int .i64 num, .int .u8 2, .int .u64 0, .slice none 0 0, .int .i64 0] := (blk_top (by simp only [World.size_alloc])).below hb4 (by simp only [World.size_alloc]; omega)
    have f0 := hkf.cell 0
    have f1 := hkf.cell 1
    have f2 := hkf.cell 2
    have f3 := hkf.cell 3
    have f4 := hkf.cell 4
    have g3 := hkf.frozen 3
    simp only [List.getElem?_toArray, List.getElem?_cons_zero, List.getElem?_cons_succ] at f0 f1 f2 f3 f4
    have HB4 := hid ((bw_a (bw_a (bw_a (Below.refl _ w) (_ : Obj)) (_ : Obj)) (_ : Obj) : Below w.heap.size w (((w.alloc (.cells #[.int .u8 (m.k : Int), .int .u64 (m.n0 : Int), .int .u64 (m.n1 : Int), .int .u64 (m.n2 : Int), .int .u64 (m.n3 : Int), .int .u64 (m.n4 : Int), .int .u64 (m.n5 : Int), .string m.s0, .string m.s1, .slice m.A len m.c] 29)).alloc (.cells #[.int .i64 num, .int .i64 7, .int .i64 0] 62)).alloc (.cells #[.int .i64 num, .int .u8 2, .int .u64 0, .slice none 0 0, .int .i64 0] 56))).trans (hb4.mono (by simp only [World.size_alloc]; omega)))
    have HS4 := hid hs4
    have HZ4 := hid hz4
    clear hcv hb4 hs4 hz4 hkf
    go_wp2_with fail
    rw [← HR.out]
    show PartsR _ _ _ _ _ (.returned (.slice (some ⟨W4.heap.size, 0, none⟩) 1 1)) _
    refine parts_fin2 (s := m.s0) HPW.out hn1 hn2 (bw_a (HB4.out.setCell (p := ⟨w.heap.size + 1 + 1, 3, none⟩) (by show w.heap.size ≤ w.heap.size + 1 + 1; omega) _) _) (by have := HZ4.out; omega) (blk_top (by simp)) ?_
    exact (((Chg.refl (fun k => k = w.heap.size + 1 + 1) W4).set_ (.inl rfl) 3 _).alloc _).sl HS4.out (fun _ b off e h => by injection e with e; injection e with e1 e2; omega) rfl
  · go_enter Try.func94, Try.ntmps94
    go_wp2_with fail
    refine (hwi _).mono ?_
    rintro e w3 ⟨rfl, rfl⟩
    go_wp2_with fail
    obtain ⟨c4, W4, hcv, hs4, hb4, hz4⟩ := conv_any m.s1 HZ1.out (((w.alloc (.cells #[.int .u8 (m.k : Int), .int .u64 (m.n0 : Int), .int .u64 (m.n1 : Int), .int .u64 (m.n2 : Int), .int .u64 (m.n3 : Int), .int .u64 (m.n4 : Int), .int .u64 (m.n5 : Int), .string m.s0, .string m.s1, .slice m.A len m.c] 29)).alloc (.cells #[.int .i64 num, .int .i64 7, .int .i64 1] 62)).alloc (.cells #[.int .i64 num, .int .u8 2, .int .u64 0, .slice none 0 0, .int .i64 0] 56)) (w.heap.size + 1 + 1 + 1) (by simp only [World.size_alloc])
    rw [hcv]
    have hkf : Blk W4 (w.heap.size + 1 + 1) 56 #[.int .i64 num, .int .u8 2, .int .u64 0, .slice none 0 0, .int .i64 0] := (blk_top (by simp only [World.size_alloc])).below hb4 (by simp only [World.size_alloc]; omega)
    have f0 := hkf.cell 0
    have f1 := hkf.cell 1
    have f2 := hkf.cell 2
    have f3 := hkf.cell 3
    have f4 := hkf.cell 4
    have g3 := hkf.frozen 3
    simp only [List.getElem?_toArray, List.getElem?_cons_zero, List.getElem?_cons_succ] at f0 f1 f2 f3 f4
    have HB4 := hid ((bw_a (bw_a (bw_a (Below.refl _ w) (_ : Obj)) (_ : Obj)) (_ : Obj) : Below w.heap.size w (((w.alloc (.cells #[.int .u8 (m.k : Int), .int .u64 (m.n0 : Int), .int .u64 (m.n1 : Int), .int .u64 (m.n2 : Int), .int .u64 (m.n3 : Int), .int .u64 (m.n4 : Int), .int .u64 (m.n5 : Int), .string m.s0, .string m.s1, .slice m.A len m.c] 29)).alloc (.cells #[.int .i64 num, .int .i64 7, .int .i64 1] 62)).alloc (.cells #[.int .i64 num, .int .u8 2, .int .u64 0, .slice none 0 0, .int .i64 0] 56))).trans (hb4.mono (by simp only [World.size_alloc]; omega)))
    have HS4 := hid hs4
    have HZ4 := hid hz4
    clear hcv hb4 hs4 hz4 hkf
    go_wp2_with fail
    rw [← HR.out]
    show PartsR _ _ _ _ _ (.returned (.slice (some ⟨W4.heap.size, 0, none⟩) 1 1)) _
    refine parts_fin2 (s := m.s1) HPW.out hn1 hn2 (bw_a (HB4.out.setCell (p := ⟨w.heap.size + 1 + 1, 3, none⟩) (by show w.heap.size ≤ w.heap.size + 1 + 1; omega) _) _) (by have := HZ4.out; omega) (blk_top (by simp)) ?_
    exact (((Chg.refl (fun k => k = w.heap.size + 1 + 1) W4).set_ (.inl rfl) 3 _).alloc _).sl HS4.out (fun _ b off e h => by injection e with e; injection e with e1 e2; omega) rfl
  · go_enter Try.func94, Try.ntmps94
    go_wp2_with fail
    refine (hwi _).mono ?_
    rintro e w3 ⟨rfl, rfl⟩
    go_wp2_with fail
    obtain ⟨c4, W4, hcv, hs4, hb4, hz4⟩ := conv_any m.s0 HZ0.out (((w.alloc (.cells #[.int .u8 (m.k : Int), .int .u64 (m.n0 : Int), .int .u64 (m.n1 : Int), .int .u64 (m.n2 : Int), .int .u64 (m.n3 : Int), .int .u64 (m.n4 : Int), .int .u64 (m.n5 : Int), .string m.s0, .string m.s1, .slice m.A len m.c] 29)).alloc (.cells #[.int .i64 num, .int .i64 8, .int .i64 0] 62)).alloc (.cells #[.int .i64 num, .int .u8 2, .int .u64 0, .slice none 0 0, .int .i64 0] 56)) (w.heap.size + 1 + 1 + 1) (by simp only [World.size_alloc])
    rw [hcv]
    have hkf : Blk W4 (w.heap.size + 1 + 1) 56 #[.int .i64 num, .int .u8 2, .int .u64 0, .slice none 0 0, .int .i64 0] := (blk_top (by simp only [World.size_alloc])).below hb4 (by simp only [World.size_alloc]; omega)
    have f0 := hkf.cell 0
    have f1 := hkf.cell 1
    have f2 := hkf.cell 2
    have f3 := hkf.cell 3
    have f4 := hkf.cell 4
    have g3 := hkf.frozen 3
    simp only [List.getElem?_toArray, List.getElem?_cons_zero, List.getElem?_cons_succ] at f0 f1 f2 f3 f4
    have HB4 := hid ((bw_a (bw_a (bw_a (Below.refl _ w) (_ : Obj)) (_ : Obj)) (_ : Obj) : Below w.heap.size w (((w.alloc (.cells #[.int .u8 (m.k : Int), .int .u64 (m.n0 : Int), .int .u64 (m.n1 : Int), .int .u64 (m.n2 : Int), .int .u64 (m.n3 : Int), .int .u64 (m.n4 : Int), .int .u64 (m.n5 : Int), .string m.s0, .string m.s1, .slice m.A len m.c] 29)).alloc (.cells #[.int .i64 num, .int .i64 8, .int .i64 0] 62)).alloc (.cells #[.int .i64 num, .int .u8 2, .int .u64 0, .slice none 0 0, .int .i64 0] 56))).trans (hb4.mono (by simp only [World.size_alloc]; omega)))
    have HS4 := hid hs4
    have HZ4 := hid hz4
    clear hcv hb4 hs4 hz4 hkf
    go_wp2_with fail
    rw [← HR.out]
    show PartsR _ _ _ _ _ (.returned (.slice (some ⟨W4.heap.size, 0, none⟩) 1 1)) _
    refine parts_fin2 (s := m.s0) HPW.out hn1 hn2 (bw_a (HB4.out.setCell (p := ⟨w.heap.size + 1 + 1, 3, none⟩) (by show w.heap.size ≤ w.heap.size + 1 + 1; omega) _) _) (by have := HZ4.out; omega) (blk_top (by simp)) ?_
    exact (((Chg.refl (fun k => k = w.heap.size + 1 + 1) W4).set_ (.inl rfl) 3 _).alloc _).sl HS4.out (fun _ b off e h => by injection e with e; injection e with e1 e2; omega) rfl
  · go_enter Try.func94, Try.ntmps94
    go_wp2_with fail
    refine (hwi _).mono ?_
    rintro e w3 ⟨rfl, rfl⟩
    go_wp2_with fail
    obtain ⟨c4, W4, hcv, hs4, hb4, hz4⟩ := conv_any m.s1 HZ1.out (((w.alloc (.cells #[.int .u8 (m.k : Int), .int .u64 (m.n0 : Int), .int .u64 (m.n1 : Int), .int .u64 (m.n2 : Int), .int .u64 (m.n3 : Int), .int .u64 (m.n4 : Int), .int .u64 (m.n5 : Int), .string m.s0, .string m.s1, .slice m.A len m.c] 29)).alloc (.cells #[.int .i64 num, .int .i64 8, .int .i64 1] 62)).alloc (.cells #[.int .i64 num, .int .u8 2, .int .u64 0, .slice none 0 0, .int .i64 0] 56)) (w.heap.size + 1 + 1 + 1) (by simp only [World.size_alloc])
    rw [hcv]
    have hkf : Blk W4 (w.heap.size + 1 + 1) 56 #[.int .i64 num, .int .u8 2, .int .u64 0, .slice none 0 0, .int .i64 0] := (blk_top (by simp only [World.size_alloc])).below hb4 (by simp only [World.size_alloc]; omega)
    have f0 := hkf.cell 0
    have f1 := hkf.cell 1
    have f2 := hkf.cell 2
    have f3 := hkf.cell 3
    have f4 := hkf.cell 4
    have g3 := hkf.frozen 3
    simp only [List.getElem?_toArray, List.getElem?_cons_zero, List.getElem?_cons_succ] at f0 f1 f2 f3 f4
    have HB4 := hid ((bw_a (bw_a (bw_a (Below.refl _ w) (_ : Obj)) (_ : Obj)) (_ : Obj) : Below w.heap.size w (((w.alloc (.cells #[.int .u8 (m.k : Int), .int .u64 (m.n0 : Int), .int .u64 (m.n1 : Int), .int .u64 (m.n2 : Int), .int .u64 (m.n3 : Int), .int .u64 (m.n4 : Int), .int .u64 (m.n5 : Int), .string m.s0, .string m.s1, .slice m.A len m.c] 29)).alloc (.cells #[.int .i64 num, .int .i64 8, .int .i64 1] 62)).alloc (.cells #[.int .i64 num, .int .u8 2, .int .u64 0, .slice none 0 0, .int .i64 0] 56))).trans (hb4.mono (by simp only [World.size_alloc]; omega)))
    have HS4 := hid hs4
    have HZ4 := hid hz4
    clear hcv hb4 hs4 hz4 hkf
    go_wp2_with fail
    rw [← HR.out]
    show PartsR _ _ _ _ _ (.returned (.slice (some ⟨W4.heap.size, 0, none⟩) 1 1)) _
    refine parts_fin2 (s := m.s1) HPW.out hn1 hn2 (bw_a (HB4.out.setCell (p := ⟨w.heap.size + 1 + 1, 3, none⟩) (by show w.heap.size ≤ w.heap.size + 1 + 1; omega) _) _) (by have := HZ4.out; omega) (blk_top (by simp)) ?_
    exact (((Chg.refl (fun k => k = w.heap.size + 1 + 1) W4).set_ (.inl rfl) 3 _).alloc _).sl HS4.out (fun _ b off e h => by injection e with e; injection e with e1 e2; omega) rfl
  · go_enter Try.func94, Try.ntmps94
    go_wp2_with fail
    refine (hwi _).mono ?_
    rintro e w3 ⟨rfl, rfl⟩
    go_wp2_with fail
    obtain ⟨c4, W4, hcv, hs4, hb4, hz4⟩ := conv_any m.s0 HZ0.out (((w.alloc (.cells #[.int .u8 (m.k : Int), .int .u64 (m.n0 : Int), .int .u64 (m.n1 : Int), .int .u64 (m.n2 : Int), .int .u64 (m.n3 : Int), .int .u64 (m.n4 : Int), .int .u64 (m.n5 : Int), .string m.s0, .string m.s1, .slice m.A len m.c] 29)).alloc (.cells #[.int .i64 num, .int .i64 9, .int .i64 0] 62)).alloc (.cells #[.int .i64 num, .int .u8 2, .int .u64 0, .slice none 0 0, .int .i64 0] 56)) (w.heap.size + 1 + 1 + 1) (by simp only [World.size_alloc])
    rw [hcv]
    have hkf : Blk W4 (w.heap.size + 1 + 1) 56 #[.int .i64 num, .int .u8 2, .int .u64 0, .slice none 0 0, .int .i64 0] := (blk_top (by simp only [World.size_alloc])).below hb4 (by simp only [World.size_alloc]; omega)
    have f0 := hkf.cell 0
    have f1 := hkf.cell 1
    have f2 := hkf.cell 2
    have f3 := hkf.cell 3
    have f4 := hkf.cell 4
    have g3 := hkf.frozen 3
    simp only [List.getElem?_toArray, List.getElem?_cons_zero, List.getElem?_cons_succ] at f0 f1 f2 f3 f4
    have HB4 := hid ((bw_a (bw_a (bw_a (Below.refl _ w) (_ : Obj)) (_ : Obj)) (_ : Obj) : Below w.heap.size w (((w.alloc (.cells #[.int .u8 (m.k : Int), .int .u64 (m.n0 : Int), .int .u64 (m.n1 : Int), .int .u64 (m.n2 : Int), .int .u64 (m.n3 : Int), .int .u64 (m.n4 : Int), .int .u64 (m.n5 : Int), .string m.s0, .string m.s1, .slice m.A len m.c] 29)).alloc (.cells #[.int .i64 num, .int .i64 9, .int .i64 0] 62)).alloc (.cells #[.int .i64 num, .int .u8 2, .int .u64 0, .slice none 0 0, .int .i64 0] 56))).trans (hb4.mono (by simp only [World.size_alloc]; omega)))
    have HS4 := hid hs4
    have HZ4 := hid hz4
    clear hcv hb4 hs4 hz4 hkf
    go_wp2_with fail
    rw [← HR.out]
    show PartsR _ _ _ _ _ (.returned (.slice (some ⟨W4.heap.size, 0, none⟩) 1 1)) _
    refine parts_fin2 (s := m.s0) HPW.out hn1 hn2 (bw_a (HB4.out.setCell (p := ⟨w.heap.size + 1 + 1, 3, none⟩) (by show w.heap.size ≤ w.heap.size + 1 + 1; omega) _) _) (by have := HZ4.out; omega) (blk_top (by simp)) ?_
    exact (((Chg.refl (fun k => k = w.heap.size + 1 + 1) W4).set_ (.inl rfl) 3 _).alloc _).sl HS4.out (fun _ b off e h => by injection e with e; injection e with e1 e2; omega) rfl
  · go_enter Try.func94, Try.ntmps94
    go_wp2_with fail
    refine (hwi _).mono ?_
    rintro e w3 ⟨rfl, rfl⟩
    go_wp2_with fail
    obtain ⟨c4, W4, hcv, hs4, hb4, hz4⟩ := conv_any m.s1 HZ1.out (((w.alloc (.cells #[.int .u8 (m.k : Int), .int .u64 (m.n0 : Int), .int .u64 (m.n1 : Int), .int .u64 (m.n2 : Int), .int .u64 (m.n3 : Int), .int .u64 (m.n4 : Int), .int .u64 (m.n5 : Int), .string m.s0, .string m.s1, .slice m.A len m.c] 29)).alloc (.cells #[.int .i64 num, .int .i64 9, .int .i64 1] 62)).alloc (.cells #[.int .i64 num, .int .u8 2, .int .u64 0, .slice none 0 0, .int .i64 0] 56)) (w.heap.size + 1 + 1 + 1) (by simp only [World.size_alloc])
    rw [hcv]
    have hkf : Blk W4 (w.heap.size + 1 + 1) 56 #[.int .i64 num, .int .u8 2, .int .u64 0, .slice none 0 0, .int .i64 0] := (blk_top (by simp only [World.size_alloc])).below hb4 (by simp only [World.size_alloc]; omega)
    have f0 := hkf.cell 0
    have f1 := hkf.cell 1
    have f2 := hkf.cell 2
    have f3 := hkf.cell 3
    have f4 := hkf.cell 4
    have g3 := hkf.frozen 3
    simp only [List.getElem?_toArray, List.getElem?_cons_zero, List.getElem?_cons_succ] at f0 f1 f2 f3 f4
    have HB4 := hid ((bw_a (bw_a (bw_a (Below.refl _ w) (_ : Obj)) (_ : Obj)) (_ : Obj) : Below w.heap.size w (((w.alloc (.cells #[.int .u8 (m.k : Int), .int .u64 (m.n0 : Int), .int .u64 (m.n1 : Int), .int .u64 (m.n2 : Int), .int .u64 (m.n3 : Int), .int .u64 (m.n4 : Int), .int .u64 (m.n5 : Int), .string m.s0, .string m.s1, .slice m.A len m.c] 29)).alloc (.cells #[.int .i64 num, .int .i64 9, .int .i64 1] 62)).alloc (.cells #[.int .i64 num, .int .u8 2, .int .u64 0, .slice none 0 0, .int .i64 0] 56))).trans (hb4.mono (by simp only [World.size_alloc]; omega)))
    have HS4 := hid hs4
    have HZ4 := hid hz4
    clear hcv hb4 hs4 hz4 hkf
    go_wp2_with fail
    rw [← HR.out]
    show PartsR _ _ _ _ _ (.returned (.slice (some ⟨W4.heap.size, 0, none⟩) 1 1)) _
    refine parts_fin2 (s := m.s1) HPW.out hn1 hn2 (bw_a (HB4.out.setCell (p := ⟨w.heap.size + 1 + 1, 3, none⟩) (by show w.heap.size ≤ w.heap.size + 1 + 1; omega) _) _) (by have := HZ4.out; omega) (blk_top (by simp)) ?_
    exact (((Chg.refl (fun k => k = w.heap.size + 1 + 1) W4).set_ (.inl rfl) 3 _).alloc _).sl HS4.out (fun _ b off e h => by injection e with e; injection e with e1 e2; omega) rfl
end Go.Proofs.Ytealjpolomhdeaa
set_option linter.unusedVariables false
namespace Go.Proofs.Ytealjpolomhdeaa
open Go.RowKit
theorem w64_range (n : Int) : -9223372036854775808 ≤ wrap64 n ∧ wrap64 n ≤ 9223372036854775807 := by unfold wrap64; omega
set_option maxRecDepth 100000 in
set_option maxHeartbeats 4000000 in
theorem parts_zig (m : MV) (num i : Int) (w : World) (hok : MvOk w m) (hn1 : -9223372036854775808 ≤ num) (hn2 : num ≤ 9223372036854775807) :
    Calls Try.prog 94 #[mvV m, .agg #[.int .i64 num, .int .i64 3, .int .i64 i]] w (PartsR m num 3 i w) := by
  have hr := w64_range (m.num i : Nat)
  have hz := zig_range _ hr.1 hr.2
  have hpw : partW m num 3 i = [(num, ((0 : Nat) : Int), (zig (wrap64 (m.num i : Nat))).toNat, [])] := by
    unfold partW
    rw [if_neg (by omega), if_neg (by omega), if_pos rfl]
    rfl
  obtain ⟨q, hq⟩ : ∃ q : Nat, zig (wrap64 (m.num i : Nat)) = (q : Int) := ⟨_, (Int.toNat_of_nonneg hz.1).symm⟩
  have hzg := fun W => zig_any (wrap64 (m.num i : Nat)) W hr.1 hr.2
  rw [hq] at hpw hzg
  have hq2 : q ≤ 18446744073709551615 := by rw [hq] at hz; omega
  have hvi := fun W => vint_any m i W
  have hwi := fun W => swire_any 3 W
  rw [show wireN 3 = 0 from rfl] at hwi
  obtain ⟨R, hR⟩ : ∃ R, PartsR m num 3 i w = R := ⟨_, rfl⟩
  rw [hR]
  have HR := hid hR
  have HPW := hid hpw
  clear hR hpw hok hq hz hr
  generalize wireK 3 = wk at *
  generalize wrap64 (m.num i : Nat) = y at *
  unfold mvV mvA at *
  generalize m.l.length = len at *
  go_enter Try.func94, Try.ntmps94
  go_wp2_with fail
  refine (hwi _).mono ?_
  rintro e w3 ⟨rfl, rfl⟩
  go_wp2_with fail
  refine (hvi _).mono ?_
  rintro e w4 ⟨rfl, hb4⟩
  have hkf : Blk w4 (w.heap.size + 1 + 1) 56 #[.int .i64 num, .int .u8 0, .int .u64 0, .slice none 0 0, .int .i64 0] := (blk_top (by simp only [World.size_alloc])).below hb4 (by simp only [World.size_alloc]; omega)
  have hB4 := (bw_a (bw_a (bw_a (Below.refl _ w) _) _) _).trans (hb4.mono (by simp only [World.size_alloc]; omega))
  have hz4 := hb4.size
  simp only [World.size_alloc] at hz4
  have f0 := hkf.cell 0
  have f1 := hkf.cell 1
  have f2 := hkf.cell 2
  have f3 := hkf.cell 3
  have f4 := hkf.cell 4
  have g2 := hkf.frozen 2
  simp only [List.getElem?_toArray, List.getElem?_cons_zero, List.getElem?_cons_succ] at f0 f1 f2 f3 f4
  have HB4 := hid hB4
  clear hb4 hkf hB4
  go_wp2_with fail
  refine (hzg _).mono ?_
  rintro e w5 ⟨rfl, rfl⟩
  go_wp2_with fail
  rw [← HR.out]
  show PartsR _ _ _ _ _ (.returned (.slice (some ⟨w4.heap.size, 0, none⟩) 1 1)) _
  refine parts_fin (q := q) HPW.out (by omega) hq2 hn1 hn2 (bw_a (HB4.out.setCell (p := ⟨w.heap.size + 1 + 1, 2, none⟩) (by show w.heap.size ≤ w.heap.size + 1 + 1; omega) _) _) (by omega) (blk_top (by simp))
end Go.Proofs.Ytealjpolomhdeaa
set_option linter.unusedVariables false
namespace Go.Proofs.Ytealjpolomhdeaa
open Go.RowKit
/-- A row of bytes starts there. -/
def U8 (w : World) (A : Option Addr) : Prop := ∃ g cs k, A = some ⟨g, 0, none⟩ ∧ w.heap[g]? = some (.cells cs 5 k)
theorem conv8_any (s : ByteArray) (hsz : s.size ≤ 9223372036854775807) (W : World) (N : Nat) (hN : W.heap.size = N) : ∃ c W4, (convert 9 22 (.string s)).run Try.prog W = .ok (.slice (some ⟨N, 0, none⟩) s.size c) W4 ∧ Sl W4 (some ⟨N, 0, none⟩) c (s.data.toList.map bv) ∧ Below W.heap.size W W4 ∧ W4.heap.size = N + 1 ∧ U8 W4 (some ⟨N, 0, none⟩) := by
  obtain ⟨c, W4, h1, h2, h3, h4⟩ := conv_any s hsz W N hN
  refine ⟨c, W4, h1, h2, h3, h4, N, ?_⟩
  have h5 := (Lib.run_convert_string_bytes (P := Try.prog) W _ _ 5 s Try.underlying9 Try.underlying22 Try.underlying5).symm.trans h1
  injection h5 with h6 h7
  subst h7
  subst hN
  exact ⟨_, _, rfl, Lib.bytesWorld_at_new W _ s⟩
theorem U8.chg {S : Nat → Prop} {w w' : World} {A : Option Addr} (h : U8 w A) (hc : Chg S w w') (hn : ∀ g, A = some ⟨g, 0, none⟩ → ¬ S g) : U8 w' A := by
  obtain ⟨g, cs, k, rfl, hg⟩ := h
  exact ⟨g, cs, k, rfl, (hc.block g (Array.getElem?_eq_some_iff.1 hg).1 (hn g rfl)).trans hg⟩
theorem U8.ne_blk {w : World} {g : Nat} {t : TypeId} {cs : Array Value} {q : Nat} (h : U8 w (some ⟨g, 0, none⟩)) (hb : Blk w q t cs) (ht : t ≠ 5) : g ≠ q := by
  rintro rfl
  obtain ⟨g2, cs2, k2, e, h2⟩ := h
  injection e with e
  injection e with e
  subst e
  have h3 := h2.symm.trans hb
  injection h3 with h3
  injection h3 with h4 h5
  exact ht h5.symm
theorem U8.ne_own {w : World} {g : Nat} {B n sz : Nat} {v : Value} {t : TypeId} {xs : List Value} (h : U8 w (some ⟨g, 0, none⟩)) (ho : w.ownsRow B t sz v n xs) (ht : t ≠ 5) : ¬ v.ownBlock = some g := by
  intro hv
  rcases ho.2 with ⟨e, hx⟩ | ⟨g2, cap, cur, e, hb, hg, hnc, hcm, hcs, htake⟩
  · rw [e] at hv; simp [Value.ownBlock] at hv
  · rw [e] at hv
    simp only [Value.ownBlock, Option.some.injEq] at hv
    subst hv
    exact U8.ne_blk h hg ht rfl
theorem own_baseE {w : World} {B B2 n sz : Nat} {v : Value} {t : TypeId} {xs : List Value} (ho : w.ownsRow B t sz v n xs) (hle : B2 ≤ B) : w.ownsRow B2 t sz v n xs := by
  refine ⟨ho.1, ?_⟩
  rcases ho.2 with h | ⟨g2, cap, cur, e, hb, rest⟩
  · exact .inl h
  · exact .inr ⟨g2, cap, cur, e, Nat.le_trans hle hb, rest⟩
theorem FvOk.chg {S : Nat → Prop} {w w' : World} {f : FV} (h : FvOk w f) (hc : Chg S w w') (hu : U8 w f.s.A) (hn : ∀ g, f.s.A = some ⟨g, 0, none⟩ → ¬ S g) : FvOk w' f := by
  refine ⟨h.w0, h.w1, h.n, h.n1, h.n2, h.a1, h.a2, hc.sl h.s (fun _ b off e hb => ?_) rfl⟩
  obtain ⟨g, cs, k, e2, hg⟩ := hu
  rw [e2] at e
  injection e with e
  injection e with e
  subst e
  exact hn _ e2 hb
end Go.Proofs.Ytealjpolomhdeaa
set_option linter.unusedVariables false
namespace Go.Proofs.Ytealjpolomhdeaa
open Go.RowKit
set_option maxRecDepth 100000 in
set_option maxHeartbeats 4000000 in
theorem parts_list (m : MV) (num i : Int) (w : World) (hok : MvOk w m) (hlen : m.l.length ≤ 100) (hn1 : -9223372036854775808 ≤ num) (hn2 : num ≤ 9223372036854775807) :
    Calls Try.prog 94 #[mvV m, .agg #[.int .i64 num, .int .i64 10, .int .i64 i]] w (PartsR m num 10 i w) := by
  obtain ⟨i5, hi5, hi50, hi51, hi52⟩ := info_parts Try.infoField
  have hpw : partW m num 10 i = m.l.map (fun s => (num, 2, 0, s.data.toList)) := by
    unfold partW
    rw [if_pos rfl]
  have hwi := fun W => swire_any 10 W
  rw [show wireN 10 = 2 from rfl] at hwi
  have hsl := hok.l
  have hes := hok.e
  obtain ⟨R, hR⟩ : ∃ R, PartsR m num 10 i w = R := ⟨_, rfl⟩
  rw [hR]
  have HR := hid hR
  have HPW := hid hpw
  have HSL := hid hsl
  have HES := hid hes
  clear hR hpw hok hsl hes
  generalize wireK 10 = wk at *
  unfold mvV mvA
  obtain ⟨ln, hln⟩ : ∃ n, m.l.length = n := ⟨_, rfl⟩
  rw [hln] at hlen ⊢
  have HLN := hid hln
  clear hln
  go_enter Try.func94, Try.ntmps94
  go_wp2_with fail
  refine (hwi _).mono ?_
  rintro e w3 ⟨rfl, rfl⟩
  go_wp2_with fail
  have hk0 : Blk (((w.alloc (.cells #[.int .u8 (m.k : Int), .int .u64 (m.n0 : Int), .int .u64 (m.n1 : Int), .int .u64 (m.n2 : Int), .int .u64 (m.n3 : Int), .int .u64 (m.n4 : Int), .int .u64 (m.n5 : Int), .string m.s0, .string m.s1, .slice m.A ln m.c] 29)).alloc (.cells #[.int .i64 num, .int .i64 10, .int .i64 i] 62)).alloc (.cells #[.int .i64 num, .int .u8 2, .int .u64 0, .slice none 0 0, .int .i64 0] 56)) (w.heap.size + 1 + 1) 56 #[.int .i64 num, .int .u8 2, .int .u64 0, .slice none 0 0, .int .i64 0] := blk_top (by simp only [World.size_alloc])
  have hB0 := bw_a (bw_a (bw_a (Below.refl _ w) (.cells #[.int .u8 (m.k : Int), .int .u64 (m.n0 : Int), .int .u64 (m.n1 : Int), .int .u64 (m.n2 : Int), .int .u64 (m.n3 : Int), .int .u64 (m.n4 : Int), .int .u64 (m.n5 : Int), .string m.s0, .string m.s1, .slice m.A ln m.c] 29)) (.cells #[.int .i64 num, .int .i64 10, .int .i64 i] 62)) (.cells #[.int .i64 num, .int .u8 2, .int .u64 0, .slice none 0 0, .int .i64 0] 56)
  have HK0 := hid hk0
  have HB0 := hid hB0
  clear hk0 hB0
  generalize ((w.alloc (.cells #[.int .u8 (m.k : Int), .int .u64 (m.n0 : Int), .int .u64 (m.n1 : Int), .int .u64 (m.n2 : Int), .int .u64 (m.n3 : Int), .int .u64 (m.n4 : Int), .int .u64 (m.n5 : Int), .string m.s0, .string m.s1, .slice m.A ln m.c] 29)).alloc (.cells #[.int .i64 num, .int .i64 10, .int .i64 i] 62)).alloc (.cells #[.int .i64 num, .int .u8 2, .int .u64 0, .slice none 0 0, .int .i64 0] 56) = W0 at *
  go_loopw [8, 45] (fun ov ix wr => ∃ (j : Nat) (l : List FV) (Ax : Option Addr) (nx cx : Nat), j ≤ ln ∧ ix = .int .i64 (j : Int) ∧ l.length = j ∧ wr.ownsRow (w.heap.size + 3) 56 5 ov j (l.flatMap fvC) ∧ l.map fvW = (m.l.take j).map (fun s => (num, 2, 0, s.data.toList)) ∧ (∀ f ∈ l, FvOk wr f ∧ U8 wr f.s.A) ∧ Blk wr (w.heap.size + 1 + 1) 56 #[.int .i64 num, .int .u8 2, .int .u64 0, .slice Ax nx cx, .int .i64 0] ∧ Below w.heap.size w wr) (fun _ ix _ => ln - (intOf ix).toNat)
  case atStart => exact ⟨0, [], none, 0, 0, by omega, rfl, rfl, World.ownsRow_nil _ _ _ _, by simp, by simp, HK0.out, HB0.out⟩
  case round =>
    obtain ⟨j, l, Ax, nx, cx, hj, rfl, hll, hrow, hlm, hfo, hkf, hB⟩ := hrel
    by_cases hlt : j < ln
    · have hjl : j < m.l.length := by have := HLN.out; omega
      have hn0 : (m.l.map sv)[j]? = some (.string m.l[j]) := by rw [List.getElem?_map, List.getElem?_eq_getElem hjl]; rfl
      have hsz := HES.out m.l[j] (List.getElem_mem hjl)
      have htk : (m.l.take (j + 1)).map (fun s => (num, (2 : Int), (0 : Nat), s.data.toList)) = (m.l.take j).map (fun s => (num, (2 : Int), (0 : Nat), s.data.toList)) ++ [(num, 2, 0, m.l[j].data.toList)] := by rw [List.take_succ_eq_append_getElem hjl, List.map_append]; rfl
      obtain ⟨b, off, hA, hbw, t0⟩ := HSL.out.rd _ _ hn0
      have t0 := (hB.cell (p := ⟨b, off + j, none⟩) hbw).trans t0
      rw [hA]
      clear hn0 hA
      generalize m.l[j] = s at *
      obtain ⟨c4, W4, hcv, hs4, hb4, hz4, hu4⟩ := conv8_any s hsz wr wr.heap.size rfl
      have hji : (j : Int) < (ln : Int) := by omega
      have hj0 : (0 : Int) ≤ (j : Int) := by omega
      have hkl := hkf.lt
      have hkf4 := hkf.below hb4 hkf.lt
      have hc5 : Chg (fun k => k = w.heap.size + 1 + 1) wr (W4.setCell ⟨w.heap.size + 1 + 1, 3, none⟩ (.slice (some ⟨wr.heap.size, 0, none⟩) s.size c4)) := Chg.set_ (S := fun k => k = w.heap.size + 1 + 1) (Chg.of_new hb4) (.inl rfl) 3 _
      have hrow5 := own_chgS hrow hc5 (fun g hg e => by have := (hrow.lt g hg).1; omega)
      have hkf5 := hkf4.set_ 3 (.slice (some ⟨wr.heap.size, 0, none⟩) s.size c4)
      have f0 := hkf4.cell 0
      have f1 := hkf4.cell 1
      have f2 := hkf4.cell 2
      have f3 := hkf4.cell 3
      have f4 := hkf4.cell 4
      have g3 := hkf4.frozen 3
      simp only [List.getElem?_toArray, List.getElem?_cons_zero, List.getElem?_cons_succ] at f0 f1 f2 f3 f4
      simp at hkf5
      have HB := hid hB
      have HROW := hid hrow
      have HROW5 := hid hrow5
      have HLM := hid hlm
      have HFO := hid hfo
      have HKF := hid hkf
      have HKF5 := hid hkf5
      have HC5 := hid hc5
      have HCV := hid hcv
      have HS4 := hid hs4
      have HB4 := hid hb4
      have hzz : wr.heap.size + 1 ≤ W4.heap.size := by rw [hz4]; exact Nat.le_refl _
      have HZ4 := hid hz4
      have HU4 := hid hu4
      have HTK := hid htk
      have HLL := hid hll
      clear hB hrow hrow5 hlm hfo hkf hkf5 hkf4 hc5 hcv hs4 hb4 hz4 hu4 htk hll
      go_wp2_with fail
      rw [HCV.out]
      have hse : (W4.setCell ⟨w.heap.size + 1 + 1, 3, none⟩ (.slice (some ⟨wr.heap.size, 0, none⟩) s.size c4)).heap.size = W4.heap.size := by simp
      have hrd := Rd.new (W4.setCell ⟨w.heap.size + 1 + 1, 3, none⟩ (.slice (some ⟨wr.heap.size, 0, none⟩) s.size c4)) 56 #[.int .i64 num, .int .u8 2, .int .u64 0, .slice (some ⟨wr.heap.size, 0, none⟩) s.size c4, .int .i64 0]
      rw [hse] at hrd
      have HRD := hid hrd
      clear hse hrd
      go_wp2_with (at_builtin; refine wpList_append_rd rfl (.tmp 52) (.tmp 54) 36 rfl (w.heap.size + 3) 56 i5 (.agg #[.int .i64 0, .int .u8 0, .int .u64 0, .slice none 0 0, .int .i64 0]) 5 56 Try.underlying36 hi5 hi50 hi51 hi52 rfl (by decide) _ _ _ rfl (HROW5.out.alloc _) (some ⟨W4.heap.size, 0, none⟩) 1 1 [.int .i64 num, .int .u8 2, .int .u64 0, .slice (some ⟨wr.heap.size, 0, none⟩) s.size c4, .int .i64 0] rfl rfl HRD.out (fun h => by cases h) (by simp [Value.oneCell']) (by simp only [maxLen]; omega) (by omega) (by simp; omega) ?_; intro v6 w6 hown6 hgrow6)
      have hc6 := (Chg.of_new (S := fun k => u8.ownBlock = some k) (bw_a (Below.refl _ (W4.setCell ⟨w.heap.size + 1 + 1, 3, none⟩ (.slice (some ⟨wr.heap.size, 0, none⟩) s.size c4))) (.cells #[.int .i64 num, .int .u8 2, .int .u64 0, .slice (some ⟨wr.heap.size, 0, none⟩) s.size c4, .int .i64 0] 56))).trans (.of_grown hgrow6 fun g hg => hg)
      have hB5 := (HB.out.trans (HB4.out.mono HB.out.size)).setCell (p := ⟨w.heap.size + 1 + 1, 3, none⟩) (by show w.heap.size ≤ w.heap.size + 1 + 1; omega) (.slice (some ⟨wr.heap.size, 0, none⟩) s.size c4)
      have hB6 := bw_g (bw_a hB5 (.cells #[.int .i64 num, .int .u8 2, .int .u64 0, .slice (some ⟨wr.heap.size, 0, none⟩) s.size c4, .int .i64 0] 56)) hgrow6 (fun k ek => by have := (HROW.out.lt k ek).1; omega)
      have hc45 : Chg (fun k => k = w.heap.size + 1 + 1) W4 (W4.setCell ⟨w.heap.size + 1 + 1, 3, none⟩ (.slice (some ⟨wr.heap.size, 0, none⟩) s.size c4)) := Chg.set_ (S := fun k => k = w.heap.size + 1 + 1) (Chg.refl _ W4) (.inl rfl) 3 _
      refine ⟨⟨j + 1, l ++ [⟨num, 2, 0, ⟨some ⟨wr.heap.size, 0, none⟩, c4, s.data.toList⟩, 0⟩], some ⟨wr.heap.size, 0, none⟩, s.size, c4, by omega, by go_num, by rw [List.length_append, HLL.out]; rfl, ?_, ?_, ?_, hc6.blk HKF5.out (fun ek => by have := (HROW.out.lt _ ek).1; omega), hB6⟩, by simp [intOf] <;> omega⟩
      · rw [List.flatMap_append]
        simpa [fvC] using hown6
      · rw [List.map_append, HLM.out, HTK.out]; rfl
      · intro f hf
        rcases List.mem_append.1 hf with hf | hf
        · obtain ⟨h1, h2⟩ := HFO.out f hf
          have n1 : ∀ g, f.s.A = some ⟨g, 0, none⟩ → ¬ g = w.heap.size + 1 + 1 := fun g e => by
            rw [e] at h2
            exact U8.ne_blk h2 HKF.out (by decide)
          have h3 := FvOk.chg h1 HC5.out h2 n1
          have h4 := U8.chg h2 HC5.out n1
          have n2 : ∀ g, f.s.A = some ⟨g, 0, none⟩ → ¬ u8.ownBlock = some g := fun g e => by
            rw [e] at h4
            exact U8.ne_own h4 HROW5.out (by decide)
          exact ⟨FvOk.chg h3 hc6 h4 n2, U8.chg h4 hc6 n2⟩
        · simp only [List.mem_singleton] at hf
          subst hf
          have h5 := hc45.sl (n := s.data.toList.length) HS4.out (fun _ b off e h => by injection e with e; injection e with e1 e2; omega) (by rw [List.length_map])
          have h6 := HU4.out.chg hc45 (fun g e h => by injection e with e; injection e with e1 e2; omega)
          have h7 := hc6.sl (n := s.data.toList.length) h5 (fun _ b off e h => by injection e with e; injection e with e1 e2; have := (HROW.out.lt _ h).2; omega) (by rw [List.length_map])
          have h8 := h6.chg hc6 (fun g e h => by injection e with e; injection e with e1 e2; have := (HROW.out.lt _ h).2; omega)
          exact ⟨⟨by dsimp only; omega, by dsimp only; omega, by dsimp only; omega, hn1, hn2, by dsimp only; omega, by dsimp only; omega, h7⟩, h8⟩
    · obtain rfl : j = ln := by omega
      go_wp2_with fail
      rw [← HR.out]
      refine ⟨l, _, rfl, by rw [hll]; exact own_baseE hrow (by omega), by rw [hlm, HPW.out, List.take_of_length_le (by rw [HLN.out]; omega)], fun f hf => (hfo f hf).1, hB⟩
end Go.Proofs.Ytealjpolomhdeaa
set_option linter.unusedVariables false
namespace Go.Proofs.Ytealjpolomhdeaa
open Go.RowKit
def wErr (x : Int × Int × Nat × List UInt8) : Nat := pErr x.1 x.2.1 x.2.2.2
def wB (x : Int × Int × Nat × List UInt8) : List UInt8 := pB x.1 x.2.1 x.2.2.1 x.2.2.2
/-- A field's bytes. -/
def fldB (m : MV) (num t i : Int) : List UInt8 := if dflB m t i then [] else if (partW m num t i).all (fun x => decide (wErr x = 0)) then (partW m num t i).flatMap wB else []
theorem dfl_cases {m : MV} {t i : Int} (h : dflB m t i = false) : ((t = 1 ∨ t = 2 ∨ t = 4 ∨ t = 5 ∨ t = 6) ∧ ∃ k : Nat, k ≤ 5 ∧ i = (k : Int)) ∨ t = 3 ∨ ((t = 7 ∨ t = 8 ∨ t = 9) ∧ ∃ k : Nat, k ≤ 1 ∧ i = (k : Int)) ∨ t = 10 := by
  by_cases c1 : 1 ≤ t ∧ t ≤ 6
  · rw [dfl_num _ _ _ c1] at h
    by_cases c3 : t = 3
    · exact .inr (.inl c3)
    by_cases c : i < 0 ∨ 6 ≤ i
    · rw [num_out _ _ c] at h; simp at h
    · exact .inl ⟨by omega, i.toNat, by omega, by omega⟩
  by_cases c2 : 7 ≤ t ∧ t ≤ 9
  · rw [dfl_text _ _ _ c2] at h
    by_cases c : i < 0 ∨ 2 ≤ i
    · rw [text_out _ _ c] at h; simp at h
    · exact .inr (.inr (.inl ⟨by omega, i.toNat, by omega, by omega⟩))
  by_cases c3 : t = 10
  · exact .inr (.inr (.inr c3))
  · rw [dfl_out _ _ _ (by omega)] at h; cases h
theorem parts_any (m : MV) (num t i : Int) (w : World) (hok : MvOk w m) (hd : dflB m t i = false) (hlen : m.l.length ≤ 100) (hn1 : -9223372036854775808 ≤ num) (hn2 : num ≤ 9223372036854775807) :
    Calls Try.prog 94 #[mvV m, .agg #[.int .i64 num, .int .i64 t, .int .i64 i]] w (PartsR m num t i w) := by
  rcases dfl_cases hd with ⟨h, k, hk, rfl⟩ | rfl | ⟨h, k, hk, rfl⟩ | rfl
  · exact parts_num m num t k w hok hk h hn1 hn2
  · exact parts_zig m num i w hok hn1 hn2
  · exact parts_text m num t k w hok hk h hn1 hn2
  · exact parts_list m num i w hok hlen hn1 hn2
/-- Few texts, none long. -/
structure MvSm (m : MV) : Prop where
  l : m.l.length ≤ 100
  s : ∀ i, (m.text i).size ≤ 8000
  e : ∀ s ∈ m.l, s.size ≤ 8000
theorem partW_facts {m : MV} {num t i : Int} (h : MvSm m) : (partW m num t i).length ≤ 100 ∧ ∀ x ∈ partW m num t i, x.2.2.2.length ≤ 8000 := by
  unfold partW
  split
  · refine ⟨by rw [List.length_map]; exact h.l, fun x hx => ?_⟩
    obtain ⟨s, hs, rfl⟩ := List.mem_map.1 hx
    exact h.e s hs
  split
  · refine ⟨by simp, fun x hx => ?_⟩
    simp only [List.mem_singleton] at hx
    subst hx
    exact h.s i
  split
  · refine ⟨by simp, fun x hx => ?_⟩
    simp only [List.mem_singleton] at hx
    subst hx
    exact Nat.zero_le _
  · refine ⟨by simp, fun x hx => ?_⟩
    simp only [List.mem_singleton] at hx
    subst hx
    exact Nat.zero_le _
theorem fld_put {m : MV} {num t i : Int} {l : List FV} (hd : dflB m t i = false) (hl : l.map fvW = partW m num t i) : fldB m num t i = if (putsE l 0).1 = 0 then l.flatMap pBF else [] := by
  have hb : (partW m num t i).flatMap wB = l.flatMap pBF := by rw [← hl, List.flatMap_map]; rfl
  unfold fldB
  rw [hd, hb]
  simp only [Bool.false_eq_true, if_false]
  by_cases c : (putsE l 0).1 = 0
  · have ha := putsE_all l 0 c
    rw [if_pos c, if_pos]
    rw [List.all_eq_true, ← hl]
    intro x hx
    obtain ⟨f, hf, rfl⟩ := List.mem_map.1 hx
    exact decide_eq_true (ha f hf)
  · rw [if_neg c, if_neg]
    intro h
    rw [List.all_eq_true, ← hl] at h
    have hz : ∀ f ∈ l, pErrF f = 0 := fun f hf => of_decide_eq_true (h _ (List.mem_map_of_mem hf))
    rw [putsE_zero l hz 0] at c
    exact c rfl
set_option maxRecDepth 100000 in
set_option maxHeartbeats 4000000 in
theorem field_any (m : MV) (num t i : Int) (w : World) (hok : MvOk w m) (hsm : MvSm m) (hn1 : -9223372036854775808 ≤ num) (hn2 : num ≤ 9223372036854775807) :
    Calls Try.prog 66 #[mvV m, .agg #[.int .i64 num, .int .i64 t, .int .i64 i]] w fun e w' => ∃ A c, e = .returned (.slice A (fldB m num t i).length c) ∧ Sl w' A c ((fldB m num t i).map bv) ∧ Below w.heap.size w w' := by
  obtain ⟨R, hR⟩ : ∃ R : Ending → World → Prop, R = fun e w' => ∃ A c, e = .returned (.slice A (fldB m num t i).length c) ∧ Sl w' A c ((fldB m num t i).map bv) ∧ Below w.heap.size w w' := ⟨_, rfl⟩
  rw [← hR]
  have HR := hid hR
  clear hR
  have hvd := fun W => vdef_any m num t i W
  have hpf := partW_facts (num := num) (t := t) (i := i) hsm
  have hpa := fun hd W (hW : Below w.heap.size w W) => parts_any m num t i W (hok.below hW) hd hsm.l hn1 hn2
  have hfz : dflB m t i = true → fldB m num t i = [] := fun h => by unfold fldB; rw [h]; rfl
  have hfp := fun (l : List FV) hd hl => fld_put (m := m) (num := num) (t := t) (i := i) (l := l) hd hl
  unfold PartsR at hpa
  generalize fldB m num t i = fb at *
  generalize partW m num t i = pw at *
  generalize dflB m t i = db at *
  clear hok hsm
  unfold mvV mvA at *
  generalize m.l.length = len at *
  obtain ⟨s, hws⟩ : ∃ s, w.heap.size = s := ⟨_, rfl⟩
  have hbx := bx2 w s len m num t i hws
  rw [hws] at hpa HR
  have HVD := hid hvd
  have HPA := hid hpa
  have HPF := hid hpf
  have HFZ := hid hfz
  have HFP := hid hfp
  clear hvd hpa hpf hfz hfp
  obtain ⟨W, hW⟩ : ∃ W, (w.alloc (.cells #[.int .u8 (m.k : Int), .int .u64 (m.n0 : Int), .int .u64 (m.n1 : Int), .int .u64 (m.n2 : Int), .int .u64 (m.n3 : Int), .int .u64 (m.n4 : Int), .int .u64 (m.n5 : Int), .string m.s0, .string m.s1, .slice m.A len m.c] 29)).alloc (.cells #[.int .i64 num, .int .i64 t, .int .i64 i] 62) = W := ⟨_, rfl⟩
  rw [hW] at hbx
  have HBX := hid hbx
  clear hbx
  have x0 := HBX.out.b0
  have x1 := HBX.out.b1
  have c0 := x0.cell 0
  have c1 := x0.cell 1
  have c2 := x0.cell 2
  have c3 := x0.cell 3
  have c4 := x0.cell 4
  have c5 := x0.cell 5
  have c6 := x0.cell 6
  have c7 := x0.cell 7
  have c8 := x0.cell 8
  have c9 := x0.cell 9
  have d0 := x1.cell 0
  have d1 := x1.cell 1
  have d2 := x1.cell 2
  simp only [List.getElem?_toArray, List.getElem?_cons_zero, List.getElem?_cons_succ] at c0 c1 c2 c3 c4 c5 c6 c7 c8 c9 d0 d1 d2
  clear x0 x1
  go_enter Try.func66, Try.ntmps66
  go_wp2_with fail
  clear hW
  refine (HVD.out W).mono ?_
  rintro e w1 ⟨rfl, hb1⟩
  clear c0 c1 c2 c3 c4 c5 c6 c7 c8 c9 d0 d1 d2
  have hlt := HBX.out.b1.lt
  have hk1 := HBX.out.b0.below hb1 (by omega)
  have hj1 := HBX.out.b1.below hb1 (by omega)
  have hB1 := HBX.out.bel.trans (hb1.mono (by omega))
  have c0 := hk1.cell 0
  have c1 := hk1.cell 1
  have c2 := hk1.cell 2
  have c3 := hk1.cell 3
  have c4 := hk1.cell 4
  have c5 := hk1.cell 5
  have c6 := hk1.cell 6
  have c7 := hk1.cell 7
  have c8 := hk1.cell 8
  have c9 := hk1.cell 9
  have d0 := hj1.cell 0
  have d1 := hj1.cell 1
  have d2 := hj1.cell 2
  simp only [List.getElem?_toArray, List.getElem?_cons_zero, List.getElem?_cons_succ] at c0 c1 c2 c3 c4 c5 c6 c7 c8 c9 d0 d1 d2
  have HB1 := hid hB1
  have hl1 := hj1.lt
  clear hk1 hj1 hb1 hB1
  cases db with
  | true =>
    have HFZT := hid (HFZ.out rfl)
    clear HFZ HFP HPA
    go_wp2_with fail
    rw [HR.out]
    exact ⟨none, 0, by rw [HFZT.out]; rfl, by rw [HFZT.out]; exact Sl.nil_ _, HB1.out⟩
  | false =>
    have HPT := hid (HPA.out rfl)
    have HFPT := hid (fun l => HFP.out l rfl)
    clear HPA HFP HFZ
    go_wp2_with fail
    refine (HPT.out _ HB1.out).mono ?_
    rintro e w2 ⟨l, v, rfl, ho, hlm, hfo, hb2⟩
    obtain ⟨A2, c2x, rfl, hs2⟩ := sln_own (by omega) ho
    have hll : l.length ≤ 100 := by have := HPF.out.1; rw [← hlm, List.length_map] at this; exact this
    have hput := sputs8_any l l.length A2 c2x w2 rfl hll hs2 hfo (fun f hf => by have := HPF.out.2 (fvW f) (by rw [← hlm]; exact List.mem_map_of_mem hf); exact this)
    have hfb := HFPT.out l hlm
    have HPUT := hid hput
    have HFB := hid hfb
    have HB2 := hid (HB1.out.trans (hb2.mono (by omega)))
    clear hput hfb hb2 hfo hlm hs2 ho c0 c1 c2 c3 c4 c5 c6 c7 c8 c9 d0 d1 d2
    generalize l.length = ll at *
    go_wp2_with fail
    refine HPUT.out.mono ?_
    rintro e w3 ⟨(⟨hz, v3, rfl, ho3⟩ | ⟨hz, rfl⟩), hb3⟩
    · obtain ⟨A3, c3, rfl, -, hs3⟩ := Sl.of_own ho3
      have hf := HFB.out
      rw [if_pos hz] at hf
      rw [← hf] at hs3 ⊢
      have HS3 := hid hs3
      have HB3 := hid (HB2.out.trans (hb3.mono (by have := HB2.out.size; omega)))
      clear hf hs3 ho3 hz hb3 HFB HPUT
      generalize hfl : fb.length = fl at *
      have HFL := hid hfl
      clear hfl
      go_wp2_with fail
      rw [HR.out]
      exact ⟨A3, c3, by first | rfl | (rw [HFL.out]; rfl), HS3.out.below (bw_a (Below.refl _ _) _), HB3.out.alloc (by have := HB3.out.size; omega) _⟩
    · have hf := HFB.out
      rw [if_neg hz] at hf
      have HF := hid hf
      have HB3 := hid (HB2.out.trans (hb3.mono (by have := HB2.out.size; omega)))
      clear hf hb3 HFB HPUT
      generalize (putsE l 0).1 = E1 at *
      generalize (putsE l 0).2 = E2 at *
      go_wp2_with fail
      rw [HR.out]
      exact ⟨none, 0, by rw [HF.out]; rfl, by rw [HF.out]; exact Sl.nil_ _, HB3.out.alloc (by have := HB3.out.size; omega) _⟩
end Go.Proofs.Ytealjpolomhdeaa
set_option linter.unusedVariables false
namespace Go.Proofs.Ytealjpolomhdeaa
open Go.RowKit
theorem partW_in {m : MV} {num t i : Int} {x : Int × Int × Nat × List UInt8} (ht1 : 1 ≤ t) (ht2 : t ≤ 10) (h : MvSm m) (hx : x ∈ partW m num t i) : x.1 = num ∧ (x.2.1 = 0 ∨ x.2.1 = 1 ∨ x.2.1 = 2 ∨ x.2.1 = 5) := by
  unfold partW at hx
  split at hx
  · obtain ⟨s, hs, rfl⟩ := List.mem_map.1 hx
    exact ⟨rfl, .inr (.inr (.inl rfl))⟩
  split at hx
  · simp only [List.mem_singleton] at hx
    subst hx
    exact ⟨rfl, .inr (.inr (.inl rfl))⟩
  split at hx
  · simp only [List.mem_singleton] at hx
    subst hx
    exact ⟨rfl, .inl rfl⟩
  · simp only [List.mem_singleton] at hx
    subst hx
    refine ⟨rfl, ?_⟩
    show ((wireN t : Nat) : Int) = 0 ∨ _
    unfold wireN
    split
    · exact .inr (.inr (.inr rfl))
    split
    · exact .inr (.inl rfl)
    · rw [if_neg (by omega)]
      exact .inl rfl
theorem fldB_in {m : MV} {num t i : Int} (hd : dflB m t i = false) (h : MvSm m) (h1 : 1 ≤ num) (h2 : num ≤ 536870911) : fldB m num t i = (partW m num t i).flatMap wB := by
  have ht : 1 ≤ t ∧ t ≤ 10 := by rcases dfl_cases hd with ⟨h, -⟩ | h | ⟨h, -⟩ | h <;> omega
  unfold fldB
  rw [hd, if_neg (by simp), if_pos]
  rw [List.all_eq_true]
  intro x hx
  obtain ⟨e, hw⟩ := partW_in ht.1 ht.2 h hx
  have hl := (partW_facts h).2 x hx
  refine decide_eq_true ?_
  unfold wErr pErr
  have hwb : wireB x.2.1 = true := by rcases hw with e | e | e | e <;> rw [e] <;> rfl
  rw [e, mk_ok h1 h2 hwb, if_neg (by simp), if_neg (by omega)]
theorem small_sm {m : MV} (h : smallB m = true) : MvSm m := by
  obtain ⟨h1, h2, h3, h4⟩ := smallB_facts h
  refine ⟨by omega, fun i => ?_, fun s hs => by have := h4 s hs; omega⟩
  unfold MV.text
  split
  · exact h1
  · exact h2
  · decide
end Go.Proofs.Ytealjpolomhdeaa
set_option linter.unusedVariables false
namespace Go.Proofs.Ytealjpolomhdeaa
open Go.RowKit
/-- Bytes of a text, in a block of bytes. -/
def ConvS (w : World) (A : Option Addr) (c : Nat) (qs : ByteArray) : Prop := Sl w A c (qs.data.toList.map bv) ∧ U8 w A
theorem ConvS.below {w w' : World} {A : Option Addr} {c : Nat} {qs : ByteArray} (h : ConvS w A c qs) (hb : Below w.heap.size w w') : ConvS w' A c qs := by
  refine ⟨h.1.below hb, ?_⟩
  obtain ⟨g, cs, k, rfl, hg⟩ := h.2
  exact ⟨g, cs, k, rfl, (hb.block g (Array.getElem?_eq_some_iff.1 hg).1).trans hg⟩
theorem ConvS.chg {w w' : World} {A : Option Addr} {c q : Nat} {qs : ByteArray} {t : TypeId} {cs : Array Value} (h : ConvS w A c qs) (hb : Blk w q t cs) (ht : t ≠ 5) (hc : Chg (fun k => k = q) w w') : ConvS w' A c qs := by
  have hu := h.2
  obtain ⟨g, cs1, k, rfl, hg⟩ := h.2
  have hne := U8.ne_blk hu hb ht
  refine ⟨hc.sl h.1 (n := (qs.data.toList.map bv).length) (fun _ b o he hS => ?_) rfl, hu.chg hc (fun g2 he hS => ?_)⟩
  · injection he with he
    injection he with he1
    omega
  · injection he with he
    injection he with he1
    omega
/-- What the document's Field takes for a field. -/
structure PlF (m : MV) (num t i : Int) : Prop where
  n : plN m t i ≤ 18446744073709551615
  s : (plS m t i).data.toList.length ≤ 8000
  one : t ≠ 10 → t ≠ 3 → 1 ≤ t → t ≤ 10 → partW m num t i = [(num, ((wireD t : Nat) : Int), plN m t i, (plS m t i).data.toList)]
  zig : t = 3 → partW m num t i = [(num, 0, (zig (wrap64 (plN m t i : Nat))).toNat, (plS m t i).data.toList)]
  lst : t = 10 → partW m num t i = m.l.map (fun s => (num, 2, 0, s.data.toList)) ∧ plN m t i = 0 ∧ plV m t = .slice m.A m.l.length m.c
end Go.Proofs.Ytealjpolomhdeaa
