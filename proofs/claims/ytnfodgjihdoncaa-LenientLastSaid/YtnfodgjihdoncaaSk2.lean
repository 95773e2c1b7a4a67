/- A writer in a block, and what its methods do. · skip.put: a field's bytes behind bytes. · skip.Put in one piece. · skip.Put of few fields with long bytes. · skip.End. · The fields of bytes: shifted; of bytes that were put; of fields that were read. -/
import Derived.Test.YtnfodgjihdoncaaProg
import Derived.Test.YtnfodgjihdoncaaM1
import Derived.Test.YtnfodgjihdoncaaM2
import Derived.Test.YtnfodgjihdoncaaM3
import Derived.Test.YtnfodgjihdoncaaSk1
import Derived.Test.YtnfodgjihdoncaaM4
set_option linter.unusedVariables false
namespace Go.Proofs.Ytnfodgjihdoncaa
open Go.RowKit
theorem own_blk_ne {w : World} {B e s n q : Nat} {t : TypeId} {v : Value} {xs : List Value} {cs : Array Value} (h : w.ownsRow B e s v n xs) (hb : Blk w q t cs) (hne : t ≠ e) : v.ownBlock ≠ some q := by
  rcases h.2 with ⟨rfl, _⟩ | ⟨g, c, cur, rfl, _, hg, _⟩
  · simp [Value.ownBlock]
  · intro he
    have hgq : g = q := by simpa [Value.ownBlock] using he
    subst hgq
    rw [show w.heap[g]? = _ from hb] at hg
    injection hg with hg
    injection hg with _ ht
    exact hne ht
/-- The blocks of a writer. -/
def Oset (q : Nat) (v : Value) (k : Nat) : Prop := k = q ∨ v.ownBlock = some k
/-- What a write does to memory. -/
structure Stp (q : Nat) (v v' : Value) (n : Nat) (w w' : World) : Prop where
  chg : Chg (Oset q v) w w'
  new : NewOr w v v'
  views : Views 5 v n w w'
section
variable {w w1 w2 : World} {B q : Nat} {v v1 v2 : Value} {bs : List UInt8} {most n n1 : Nat}
theorem NewOr.trans (h : NewOr w v v1) (k : NewOr w1 v1 v2) (hz : w.heap.size ≤ w1.heap.size) : NewOr w v v2 := by
  rcases k with k | k
  · rcases h with h | h
    · exact .inl (k.trans h)
    · exact .inr fun g hg => h g (k ▸ hg)
  · exact .inr fun g hg => Nat.le_trans hz (k g hg)
theorem Oset.back (h : NewOr w v v1) {k : Nat} (hk : k < w.heap.size) (ho : Oset q v1 k) : Oset q v k := by
  rcases ho with ho | ho
  · exact .inl ho
  · rcases h with h | h
    · exact .inr (h ▸ ho)
    · have := h k ho; omega
theorem Stp.refl (q : Nat) (v : Value) (n : Nat) (w : World) : Stp q v v n w w := ⟨.refl _ _, .inl rfl, fun _ _ _ _ h _ => h⟩
theorem Stp.trans (h : Stp q v v1 n w w1) (k : Stp q v1 v2 n1 w1 w2) (hn : n ≤ n1) : Stp q v v2 n w w2 := by
  refine ⟨?_, h.new.trans k.new h.chg.size, ?_⟩
  · refine ⟨k.chg.os.trans h.chg.os, k.chg.tape.trans h.chg.tape, k.chg.output.trans h.chg.output, Nat.le_trans h.chg.size k.chg.size, fun i hi hq => ?_⟩
    rw [k.chg.block i (Nat.lt_of_lt_of_le hi h.chg.size) fun ho => hq (ho.back h.new hi)]
    exact h.chg.block i hi hq
  · intro B v0 n0 xs0 h0 hle
    refine k.views B v0 n0 xs0 (h.views B v0 n0 xs0 h0 hle) fun hne he => ?_
    rcases h.new with hv | hv
    · exact Nat.le_trans (hle hne (he.trans hv)) hn
    · exfalso
      cases hb : v0.ownBlock with
      | none => exact hne hb
      | some g =>
        have h1 := (h0.lt g hb).2
        have h2 := hv g (by rw [← he, hb])
        omega
theorem Stp.of_new (h : Below w.heap.size w w1) : Stp q v v n w w1 := ⟨.of_new h, .inl rfl, views_kept h⟩
end
/-- What is written: the bytes then, and what is wrong. -/
def wput (most : Nat) (bs xs : List UInt8) : List UInt8 × Nat := if most < bs.length + xs.length then (bs, 14) else (bs ++ xs, 0)
theorem wput_len (most : Nat) (bs xs : List UInt8) : bs.length ≤ (wput most bs xs).1.length := by unfold wput; split <;> simp
end Go.Proofs.Ytnfodgjihdoncaa
set_option linter.unusedVariables false
namespace Go.Proofs.Ytnfodgjihdoncaa
open Go.RowKit
def pTail (x : Int) (n : Nat) (xs : List UInt8) : List UInt8 := if x = 0 then putN n else if x = 1 then fixN 8 n else if x = 2 then putN xs.length ++ xs else fixN 4 (n % 4294967296)
def pErr (num x : Int) (xs : List UInt8) : Nat := if (mk num x).2 ≠ 0 then (mk num x).2.toNat else if x = 2 ∧ 8192 < xs.length then 2 else 0
def pB (num x : Int) (n : Nat) (xs : List UInt8) : List UInt8 := putN (mk num x).1.toNat ++ pTail x n xs
theorem pTail_len {x : Int} {n : Nat} {xs : List UInt8} (hn : n ≤ 18446744073709551615) (hl : xs.length ≤ 100000) : (pTail x n xs).length ≤ 10 + xs.length := by
  unfold pTail
  split
  · have := putN_length10 hn; omega
  · split
    · rw [length_fixN]; omega
    · split
      · have := putN_length10 (n := xs.length) (by omega); rw [List.length_append]; omega
      · rw [length_fixN]; omega
/-- What put comes to. -/
def SPut (B bl : Nat) (bs : List UInt8) (num x : Int) (n : Nat) (xs : List UInt8) (w : World) (e : Ending) (W' : World) : Prop :=
  ((pErr num x xs = 0 ∧ ∃ v', e = .returned (.tuple #[v', .int .i64 0]) ∧ W'.ownsRow B 5 1 v' (bl + (pB num x n xs).length) ((bs ++ pB num x n xs).map bv)) ∨ (pErr num x xs ≠ 0 ∧ e = .returned (.tuple #[.slice none 0 0, .int .i64 (pErr num x xs : Nat)]))) ∧ Below B w W'
/-- What put keeps. -/
structure PS (w : World) (B z : Nat) (fs : Array Value) (A : Option Addr) (c : Nat) (xs : List UInt8) (v : Value) (n : Nat) (bs : List UInt8) (W : World) : Prop where
  own : W.ownsRow B 5 1 v n (bs.map bv)
  fld : Blk W z 95 fs
  src : Sl W A c (xs.map bv)
  bel : Below B w W
theorem PS.new {w : World} {B z : Nat} {fs : Array Value} {A : Option Addr} {c : Nat} {xs : List UInt8} {v : Value} {n : Nat} {bs : List UInt8} {W W' : World} (h : PS w B z fs A c xs v n bs W) (hB : B ≤ W.heap.size) (hb : Below W.heap.size W W') : PS w B z fs A c xs v n bs W' :=
  ⟨own_below h.own hb, h.fld.below hb h.fld.lt, h.src.below hb, h.bel.trans (hb.mono hB)⟩
theorem PS.grow {w : World} {B z : Nat} {fs : Array Value} {A : Option Addr} {c : Nat} {xs : List UInt8} {v v' : Value} {n n' : Nat} {bs bs' : List UInt8} {W W' : World} (h : PS w B z fs A c xs v n bs W) (hf : FarS A xs.length (fun k => B ≤ k)) (hB : B ≤ W.heap.size) (hg : W.grownBy W' v.ownBlock) (ho : W'.ownsRow B 5 1 v' n' (bs.map bv ++ bs'.map bv)) : PS w B z fs A c xs v' n' (bs ++ bs') W' :=
  ⟨by rw [List.map_append]; exact ho, (hg.block z h.fld.lt (fun e => own_blk_ne h.own h.fld (by decide) e.symm)).trans h.fld,
    (Chg.of_grown hg fun g e => (h.own.lt g e).1).sl h.src hf (by simp), h.bel.grown hg hB fun k e => (h.own.lt k e).1⟩
set_option maxRecDepth 100000 in
set_option maxHeartbeats 2000000 in
theorem sput_any (w : World) (B : Nat) (v : Value) (bs : List UInt8) (bl : Nat) (num x : Int) (n : Nat) (A : Option Addr) (c xl : Nat) (xs : List UInt8) (at_ : Int) (hxl : xs.length = xl) (hl : xl ≤ 100000) (hn : n ≤ 18446744073709551615) (hx0 : 0 ≤ x) (hx1 : x ≤ 255) (hbl : bs.length = bl) (hb9 : bl ≤ 1000000000)
    (ho : w.ownsRow B 5 1 v bl (bs.map bv)) (hB : B ≤ w.heap.size) (hs : Sl w A c (xs.map bv)) (hf : FarS A xl (fun k => B ≤ k)) :
    Calls Try.prog 119 #[v, .agg #[.int .i64 num, .int .u8 x, .int .u64 (n : Int), .slice A xl c, .int .i64 at_]] w (SPut B bl bs num x n xs w) := by
  obtain ⟨i0, hi, hz0, hz1, hz2⟩ := info_parts Try.info5
  have hmf := mk_facts num x hx0 hx1
  have hmk := fun W => make_any num x W hx0 hx1
  have HMK := hid hmk
  have HO := hid ho
  have HS := hid hs
  have HF := hid hf
  clear hmk ho hs hf
  by_cases he : (mk num x).2 = 0
  · obtain ⟨hm1, hm2, hw, -⟩ := mk_ok_inv he
    have hx : x = 0 ∨ x = 1 ∨ x = 2 ∨ x = 5 := by
      have := wireB_lt hw
      unfold wireB at hw
      simp at hw
      omega
    obtain ⟨k, hk⟩ : ∃ k : Nat, (mk num x).1 = (k : Int) := ⟨(mk num x).1.toNat, by omega⟩
    have hk64 : k ≤ 18446744073709551615 := by omega
    have hpe : pErr num x xs = if x = 2 ∧ 8192 < xs.length then 2 else 0 := by unfold pErr; rw [if_neg (by omega)]
    have hpb : pB num x n xs = putN k ++ pTail x n xs := by unfold pB; rw [hk]; rfl
    have hk10 := putN_length10 hk64
    have hmk := HMK.out
    rw [he, hk] at hmk
    have HMK := hid hmk
    clear hmk hmf
    have HPE := hid hpe
    have HPB := hid hpb
    clear hpe hpb
    generalize hpp : putN k = P at *
    have hvp := fun W => vput_any k W hk64
    rw [hpp] at hvp
    have HVP := hid hvp
    clear hvp hpp
    rcases hx with rfl | rfl | rfl | rfl
    · go_enter Try.func119, Try.ntmps119
      go_wp2_with (go_at_call 134; refine (HMK.out _).mono ?_; rintro e w' ⟨rfl, rfl⟩)
      refine (HVP.out _).mono ?_
      rintro e w1 ⟨A1, c1, rfl, hs1, hb1⟩
      have HS1 := hid hs1
      have hsz : B ≤ w1.heap.size := by have := hb1.size; simp at this; omega
      have HSZ1 := hid hsz
      have PS1 := hid (PS.new (PS.mk (z := w.heap.size) (HO.out.alloc _) (Blk.new w 95 #[.int .i64 num, .int .u8 0, .int .u64 (n : Int), .slice A xl c, .int .i64 at_]) (HS.out.below (bw_a (Below.refl _ w) _)) ((Below.refl B w).alloc hB _)) (by simp; omega) hb1)
      have HFF := hid (show FarS A xs.length (fun k => B ≤ k) by rw [hxl]; exact HF.out)
      clear hs1 hb1 hsz HO HS HF HVP HMK
      go_wp2_with (at_builtin; refine wpList_append_rd rfl _ _ 30 rfl B 5 i0 (.int .u8 0) 1 1 Try.underlying30 hi hz0 hz1 hz2 rfl (by decide) v (bl) ((bs).map bv) rfl PS1.out.own A1 (P.length) c1 ((P).map bv) rfl (by simp) HS1.out.rd HS1.out.nil0 (bv_one _) (by simp only [maxLen]; omega) (by omega) HSZ1.out ?_; intro v2 w2 hown hgrow; obtain ⟨vA2, vc2, rfl, -, -⟩ := Sl.of_own hown; have PS2 := hid (PS1.out.grow HFF.out HSZ1.out hgrow hown); have HSZ2 := hid (Nat.le_trans HSZ1.out hgrow.size); clear hown hgrow; have d1 := PS2.out.fld.cell 1; have d2 := PS2.out.fld.cell 2; have d3 := PS2.out.fld.cell 3; simp only [List.getElem?_toArray, List.getElem?_cons_zero, List.getElem?_cons_succ] at d1 d2 d3)
      refine (vput_any n _ hn).mono ?_
      rintro e w3 ⟨A3, c3, rfl, hs3, hb3⟩
      have HS3 := hid hs3
      have PS3 := hid (PS2.out.new HSZ2.out hb3)
      have HSZ3 := hid (Nat.le_trans HSZ2.out hb3.size)
      clear hs3 hb3 d1 d2 d3
      have hl3 := putN_length10 hn
      generalize hq : putN n = Q at *
      go_wp2_with (at_builtin; refine wpList_append_rd rfl _ _ 30 rfl B 5 i0 (.int .u8 0) 1 1 Try.underlying30 hi hz0 hz1 hz2 rfl (by decide) _ (bl + P.length) ((bs ++ P).map bv) rfl PS3.out.own A3 (Q.length) c3 ((Q).map bv) rfl (by simp) HS3.out.rd HS3.out.nil0 (bv_one _) (by simp only [maxLen]; omega) (by omega) HSZ3.out ?_; intro v4 w4 hown hgrow; obtain ⟨vA4, vc4, rfl, -, -⟩ := Sl.of_own hown; have PS4 := hid (PS3.out.grow HFF.out HSZ3.out hgrow hown); have HSZ4 := hid (Nat.le_trans HSZ3.out hgrow.size); clear hown hgrow; have d1 := PS4.out.fld.cell 1; have d2 := PS4.out.fld.cell 2; have d3 := PS4.out.fld.cell 3; simp only [List.getElem?_toArray, List.getElem?_cons_zero, List.getElem?_cons_succ] at d1 d2 d3)
      go_ret2
      refine ⟨.inl ⟨by rw [HPE.out, if_neg (by omega)], _, rfl, ?_⟩, PS4.out.bel⟩
      have ht : pTail 0 n xs = Q := by rw [← hq]; rfl
      rw [HPB.out, ht, List.length_append, ← Nat.add_assoc, ← List.append_assoc]
      exact PS4.out.own
    · go_enter Try.func119, Try.ntmps119
      go_wp2_with (go_at_call 134; refine (HMK.out _).mono ?_; rintro e w' ⟨rfl, rfl⟩)
      refine (HVP.out _).mono ?_
      rintro e w1 ⟨A1, c1, rfl, hs1, hb1⟩
      have HS1 := hid hs1
      have hsz : B ≤ w1.heap.size := by have := hb1.size; simp at this; omega
      have HSZ1 := hid hsz
      have PS1 := hid (PS.new (PS.mk (z := w.heap.size) (HO.out.alloc _) (Blk.new w 95 #[.int .i64 num, .int .u8 1, .int .u64 (n : Int), .slice A xl c, .int .i64 at_]) (HS.out.below (bw_a (Below.refl _ w) _)) ((Below.refl B w).alloc hB _)) (by simp; omega) hb1)
      have HFF := hid (show FarS A xs.length (fun k => B ≤ k) by rw [hxl]; exact HF.out)
      clear hs1 hb1 hsz HO HS HF HVP HMK
      go_wp2_with (at_builtin; refine wpList_append_rd rfl _ _ 30 rfl B 5 i0 (.int .u8 0) 1 1 Try.underlying30 hi hz0 hz1 hz2 rfl (by decide) v (bl) ((bs).map bv) rfl PS1.out.own A1 (P.length) c1 ((P).map bv) rfl (by simp) HS1.out.rd HS1.out.nil0 (bv_one _) (by simp only [maxLen]; omega) (by omega) HSZ1.out ?_; intro v2 w2 hown hgrow; obtain ⟨vA2, vc2, rfl, -, -⟩ := Sl.of_own hown; have PS2 := hid (PS1.out.grow HFF.out HSZ1.out hgrow hown); have HSZ2 := hid (Nat.le_trans HSZ1.out hgrow.size); clear hown hgrow; have d1 := PS2.out.fld.cell 1; have d2 := PS2.out.fld.cell 2; have d3 := PS2.out.fld.cell 3; simp only [List.getElem?_toArray, List.getElem?_cons_zero, List.getElem?_cons_succ] at d1 d2 d3)
      refine (fix64_any n hn _).mono ?_
      rintro e w3 ⟨A3, c3, rfl, hs3, hb3⟩
      have HS3 := hid hs3
      have PS3 := hid (PS2.out.new HSZ2.out hb3)
      have HSZ3 := hid (Nat.le_trans HSZ2.out hb3.size)
      clear hs3 hb3 d1 d2 d3
      have hl3 := length_fixN 8 n
      generalize hq : fixN 8 n = Q at *
      go_wp2_with (at_builtin; refine wpList_append_rd rfl _ _ 30 rfl B 5 i0 (.int .u8 0) 1 1 Try.underlying30 hi hz0 hz1 hz2 rfl (by decide) _ (bl + P.length) ((bs ++ P).map bv) rfl PS3.out.own A3 (8) c3 ((Q).map bv) rfl (by simp [hl3]) HS3.out.rd HS3.out.nil0 (bv_one _) (by simp only [maxLen]; omega) (by omega) HSZ3.out ?_; intro v4 w4 hown hgrow; obtain ⟨vA4, vc4, rfl, -, -⟩ := Sl.of_own hown; have PS4 := hid (PS3.out.grow HFF.out HSZ3.out hgrow hown); have HSZ4 := hid (Nat.le_trans HSZ3.out hgrow.size); clear hown hgrow; have d1 := PS4.out.fld.cell 1; have d2 := PS4.out.fld.cell 2; have d3 := PS4.out.fld.cell 3; simp only [List.getElem?_toArray, List.getElem?_cons_zero, List.getElem?_cons_succ] at d1 d2 d3)
      go_ret2
      refine ⟨.inl ⟨by rw [HPE.out, if_neg (by omega)], _, rfl, ?_⟩, PS4.out.bel⟩
      have ht : pTail 1 n xs = Q := by rw [← hq]; rfl
      rw [HPB.out, ht, List.length_append, ← Nat.add_assoc, ← List.append_assoc, hl3]
      exact PS4.out.own
    · by_cases hlong : 8192 < xl
      · go_enter Try.func119, Try.ntmps119
        go_wp2_with (go_at_call 134; refine (HMK.out _).mono ?_; rintro e w' ⟨rfl, rfl⟩)
        refine (HVP.out _).mono ?_
        rintro e w1 ⟨A1, c1, rfl, hs1, hb1⟩
        have HS1 := hid hs1
        have hsz : B ≤ w1.heap.size := by have := hb1.size; simp at this; omega
        have HSZ1 := hid hsz
        have PS1 := hid (PS.new (PS.mk (z := w.heap.size) (HO.out.alloc _) (Blk.new w 95 #[.int .i64 num, .int .u8 2, .int .u64 (n : Int), .slice A xl c, .int .i64 at_]) (HS.out.below (bw_a (Below.refl _ w) _)) ((Below.refl B w).alloc hB _)) (by simp; omega) hb1)
        have HFF := hid (show FarS A xs.length (fun k => B ≤ k) by rw [hxl]; exact HF.out)
        clear hs1 hb1 hsz HO HS HF HVP HMK
        go_wp2_with (at_builtin; refine wpList_append_rd rfl _ _ 30 rfl B 5 i0 (.int .u8 0) 1 1 Try.underlying30 hi hz0 hz1 hz2 rfl (by decide) v (bl) ((bs).map bv) rfl PS1.out.own A1 (P.length) c1 ((P).map bv) rfl (by simp) HS1.out.rd HS1.out.nil0 (bv_one _) (by simp only [maxLen]; omega) (by omega) HSZ1.out ?_; intro v2 w2 hown hgrow; obtain ⟨vA2, vc2, rfl, -, -⟩ := Sl.of_own hown; have PS2 := hid (PS1.out.grow HFF.out HSZ1.out hgrow hown); have HSZ2 := hid (Nat.le_trans HSZ1.out hgrow.size); clear hown hgrow; have d1 := PS2.out.fld.cell 1; have d2 := PS2.out.fld.cell 2; have d3 := PS2.out.fld.cell 3; simp only [List.getElem?_toArray, List.getElem?_cons_zero, List.getElem?_cons_succ] at d1 d2 d3)
        go_ret2
        have hpe : pErr num 2 xs = 2 := by rw [HPE.out]; simp [hxl, hlong]
        refine ⟨.inr ⟨by rw [hpe]; decide, by rw [hpe]; rfl⟩, PS2.out.bel⟩
      · go_enter Try.func119, Try.ntmps119
        go_wp2_with (go_at_call 134; refine (HMK.out _).mono ?_; rintro e w' ⟨rfl, rfl⟩)
        refine (HVP.out _).mono ?_
        rintro e w1 ⟨A1, c1, rfl, hs1, hb1⟩
        have HS1 := hid hs1
        have hsz : B ≤ w1.heap.size := by have := hb1.size; simp at this; omega
        have HSZ1 := hid hsz
        have PS1 := hid (PS.new (PS.mk (z := w.heap.size) (HO.out.alloc _) (Blk.new w 95 #[.int .i64 num, .int .u8 2, .int .u64 (n : Int), .slice A xl c, .int .i64 at_]) (HS.out.below (bw_a (Below.refl _ w) _)) ((Below.refl B w).alloc hB _)) (by simp; omega) hb1)
        have HFF := hid (show FarS A xs.length (fun k => B ≤ k) by rw [hxl]; exact HF.out)
        clear hs1 hb1 hsz HO HS HF HVP HMK
        go_wp2_with (at_builtin; refine wpList_append_rd rfl _ _ 30 rfl B 5 i0 (.int .u8 0) 1 1 Try.underlying30 hi hz0 hz1 hz2 rfl (by decide) v (bl) ((bs).map bv) rfl PS1.out.own A1 (P.length) c1 ((P).map bv) rfl (by simp) HS1.out.rd HS1.out.nil0 (bv_one _) (by simp only [maxLen]; omega) (by omega) HSZ1.out ?_; intro v2 w2 hown hgrow; obtain ⟨vA2, vc2, rfl, -, -⟩ := Sl.of_own hown; have PS2 := hid (PS1.out.grow HFF.out HSZ1.out hgrow hown); have HSZ2 := hid (Nat.le_trans HSZ1.out hgrow.size); clear hown hgrow; have d1 := PS2.out.fld.cell 1; have d2 := PS2.out.fld.cell 2; have d3 := PS2.out.fld.cell 3; simp only [List.getElem?_toArray, List.getElem?_cons_zero, List.getElem?_cons_succ] at d1 d2 d3)
        have hvx := fun W => vput_any xl W (by omega)
        have hl3 := putN_length10 (n := xl) (by omega)
        generalize hq : putN xl = Q at *
        have HVX := hid hvx
        clear hvx
        refine (HVX.out _).mono ?_
        rintro e w3 ⟨A3, c3, rfl, hs3, hb3⟩
        have HS3 := hid hs3
        have PS3 := hid (PS2.out.new HSZ2.out hb3)
        have HSZ3 := hid (Nat.le_trans HSZ2.out hb3.size)
        clear hs3 hb3 d1 d2 d3
        go_wp2_with (first | (at_builtin; refine wpList_append_rd rfl _ _ 30 rfl B 5 i0 (.int .u8 0) 1 1 Try.underlying30 hi hz0 hz1 hz2 rfl (by decide) _ (bl + P.length) ((bs ++ P).map bv) rfl PS3.out.own A3 (Q.length) c3 ((Q).map bv) rfl (by simp) HS3.out.rd HS3.out.nil0 (bv_one _) (by simp only [maxLen]; omega) (by omega) HSZ3.out ?_; intro v4 w4 hown hgrow; obtain ⟨vA4, vc4, rfl, -, -⟩ := Sl.of_own hown; have PS4 := hid (PS3.out.grow HFF.out HSZ3.out hgrow hown); have HSZ4 := hid (Nat.le_trans HSZ3.out hgrow.size); clear hown hgrow; have d1 := PS4.out.fld.cell 1; have d2 := PS4.out.fld.cell 2; have d3 := PS4.out.fld.cell 3; simp only [List.getElem?_toArray, List.getElem?_cons_zero, List.getElem?_cons_succ] at d1 d2 d3) | (at_builtin; refine wpList_append_rd rfl _ _ 30 rfl B 5 i0 (.int .u8 0) 1 1 Try.underlying30 hi hz0 hz1 hz2 rfl (by decide) _ (bl + P.length + Q.length) ((bs ++ P ++ Q).map bv) rfl PS4.out.own A (xl) c ((xs).map bv) rfl (by simp [hxl]) PS4.out.src.rd PS4.out.src.nil0 (bv_one _) (by simp only [maxLen]; omega) (by omega) HSZ4.out ?_; intro v5 w5 hown hgrow; obtain ⟨vA5, vc5, rfl, -, -⟩ := Sl.of_own hown; have PS5 := hid (PS4.out.grow HFF.out HSZ4.out hgrow hown); have HSZ5 := hid (Nat.le_trans HSZ4.out hgrow.size); clear hown hgrow; have d1 := PS5.out.fld.cell 1; have d2 := PS5.out.fld.cell 2; have d3 := PS5.out.fld.cell 3; simp only [List.getElem?_toArray, List.getElem?_cons_zero, List.getElem?_cons_succ] at d1 d2 d3))
        go_ret2
        refine ⟨.inl ⟨by rw [HPE.out, if_neg (by omega)], _, rfl, ?_⟩, PS5.out.bel⟩
        have ht : pTail 2 n xs = Q ++ xs := by rw [← hq, ← hxl]; rfl
        rw [HPB.out, ht, List.length_append, List.length_append, hxl, ← Nat.add_assoc, ← Nat.add_assoc, ← List.append_assoc, ← List.append_assoc]
        exact PS5.out.own
    · go_enter Try.func119, Try.ntmps119
      go_wp2_with (go_at_call 134; refine (HMK.out _).mono ?_; rintro e w' ⟨rfl, rfl⟩)
      refine (HVP.out _).mono ?_
      rintro e w1 ⟨A1, c1, rfl, hs1, hb1⟩
      have HS1 := hid hs1
      have hsz : B ≤ w1.heap.size := by have := hb1.size; simp at this; omega
      have HSZ1 := hid hsz
      have PS1 := hid (PS.new (PS.mk (z := w.heap.size) (HO.out.alloc _) (Blk.new w 95 #[.int .i64 num, .int .u8 5, .int .u64 (n : Int), .slice A xl c, .int .i64 at_]) (HS.out.below (bw_a (Below.refl _ w) _)) ((Below.refl B w).alloc hB _)) (by simp; omega) hb1)
      have HFF := hid (show FarS A xs.length (fun k => B ≤ k) by rw [hxl]; exact HF.out)
      clear hs1 hb1 hsz HO HS HF HVP HMK
      go_wp2_with (at_builtin; refine wpList_append_rd rfl _ _ 30 rfl B 5 i0 (.int .u8 0) 1 1 Try.underlying30 hi hz0 hz1 hz2 rfl (by decide) v (bl) ((bs).map bv) rfl PS1.out.own A1 (P.length) c1 ((P).map bv) rfl (by simp) HS1.out.rd HS1.out.nil0 (bv_one _) (by simp only [maxLen]; omega) (by omega) HSZ1.out ?_; intro v2 w2 hown hgrow; obtain ⟨vA2, vc2, rfl, -, -⟩ := Sl.of_own hown; have PS2 := hid (PS1.out.grow HFF.out HSZ1.out hgrow hown); have HSZ2 := hid (Nat.le_trans HSZ1.out hgrow.size); clear hown hgrow; have d1 := PS2.out.fld.cell 1; have d2 := PS2.out.fld.cell 2; have d3 := PS2.out.fld.cell 3; simp only [List.getElem?_toArray, List.getElem?_cons_zero, List.getElem?_cons_succ] at d1 d2 d3)
      have hnm : n % 4294967296 ≤ 4294967295 := by omega
      refine (fix32_any (n % 4294967296) hnm _).mono ?_
      rintro e w3 ⟨A3, c3, rfl, hs3, hb3⟩
      have HS3 := hid hs3
      have PS3 := hid (PS2.out.new HSZ2.out hb3)
      have HSZ3 := hid (Nat.le_trans HSZ2.out hb3.size)
      clear hs3 hb3 d1 d2 d3
      have hl3 := length_fixN 4 (n % 4294967296)
      generalize hq : fixN 4 (n % 4294967296) = Q at *
      go_wp2_with (at_builtin; refine wpList_append_rd rfl _ _ 30 rfl B 5 i0 (.int .u8 0) 1 1 Try.underlying30 hi hz0 hz1 hz2 rfl (by decide) _ (bl + P.length) ((bs ++ P).map bv) rfl PS3.out.own A3 (4) c3 ((Q).map bv) rfl (by simp [hl3]) HS3.out.rd HS3.out.nil0 (bv_one _) (by simp only [maxLen]; omega) (by omega) HSZ3.out ?_; intro v4 w4 hown hgrow; obtain ⟨vA4, vc4, rfl, -, -⟩ := Sl.of_own hown; have PS4 := hid (PS3.out.grow HFF.out HSZ3.out hgrow hown); have HSZ4 := hid (Nat.le_trans HSZ3.out hgrow.size); clear hown hgrow; have d1 := PS4.out.fld.cell 1; have d2 := PS4.out.fld.cell 2; have d3 := PS4.out.fld.cell 3; simp only [List.getElem?_toArray, List.getElem?_cons_zero, List.getElem?_cons_succ] at d1 d2 d3)
      go_ret2
      refine ⟨.inl ⟨by rw [HPE.out, if_neg (by omega)], _, rfl, ?_⟩, PS4.out.bel⟩
      have ht : pTail 5 n xs = Q := by rw [← hq]; rfl
      rw [HPB.out, ht, List.length_append, ← Nat.add_assoc, ← List.append_assoc, hl3]
      exact PS4.out.own
  · have hm : pErr num x xs = (mk num x).2.toNat := by unfold pErr; rw [if_pos he]
    obtain ⟨er, her⟩ : ∃ er : Nat, (mk num x).2 = (er : Int) := ⟨(mk num x).2.toNat, by omega⟩
    have hmk := HMK.out
    rw [her] at hm hmk
    have hern : er ≠ 0 := by omega
    have HPE := hid hm
    have HMK := hid hmk
    clear hmk hm her he
    generalize (mk num x).1 = k at *
    have heb : (((er : Nat) : Int) != 0) = true := by simpa using hern
    go_enter Try.func119, Try.ntmps119
    go_wp2_with (go_at_call 134; refine (HMK.out _).mono ?_; rintro e w' ⟨rfl, rfl⟩)
    go_ret2
    exact ⟨.inr ⟨by rw [HPE.out]; simpa using hern, by rw [HPE.out]; simp⟩, (Below.refl B w).alloc hB _⟩
end Go.Proofs.Ytnfodgjihdoncaa
set_option linter.unusedVariables false
namespace Go.Proofs.Ytnfodgjihdoncaa
open Go.RowKit
/-- A field that may be handed in. -/
structure FvOk (w : World) (f : FV) : Prop where
  w0 : 0 ≤ f.w
  w1 : f.w ≤ 255
  n : f.n ≤ 18446744073709551615
  n1 : -9223372036854775808 ≤ f.num
  n2 : f.num ≤ 9223372036854775807
  a1 : -9223372036854775808 ≤ f.at_
  a2 : f.at_ ≤ 9223372036854775807
  s : Sl w f.s.A f.s.c (f.s.xs.map bv)
def pErrF (f : FV) : Nat := pErr f.num f.w f.s.xs
def pBF (f : FV) : List UInt8 := pB f.num f.w f.n f.s.xs
/-- The first field that has no bytes: why, and its place. -/
def putsE : List FV → Nat → Nat × Nat
  | [], _ => (0, 0)
  | f :: fs, i => if pErrF f = 0 then putsE fs (i + 1) else (pErrF f, i)
theorem putsE_bad (l : List FV) (j i : Nat) (hj : j < l.length) (h : pErrF l[j] ≠ 0) : putsE (l.drop j) i = (pErrF l[j], i) := by
  rw [List.drop_eq_getElem_cons hj, putsE, if_neg h]
theorem putsE_good (l : List FV) (j i : Nat) (hj : j < l.length) (h : pErrF l[j] = 0) : putsE (l.drop j) i = putsE (l.drop (j + 1)) (i + 1) := by
  rw [List.drop_eq_getElem_cons hj, putsE, if_pos h]
theorem pBF_len (f : FV) (hn : f.n ≤ 18446744073709551615) (h0 : 0 ≤ f.w) (h1 : f.w ≤ 255) (hl : f.s.xs.length ≤ 2000) : (pBF f).length ≤ 2100 := by
  have hm := mk_facts f.num f.w h0 h1
  have h2 := putN_length10 (n := (mk f.num f.w).1.toNat) (by omega)
  have h3 := pTail_len (x := f.w) (xs := f.s.xs) hn (by omega)
  unfold pBF pB
  rw [List.length_append]
  omega
set_option maxRecDepth 100000 in
set_option maxHeartbeats 4000000 in
theorem sputs_any (l : List FV) (m : Nat) (A : Option Addr) (c : Nat) (w : World) (hm : l.length = m) (hm2 : m ≤ 2000) (hl : SlN w A m c 5 (l.flatMap fvC)) (hok : ∀ f ∈ l, FvOk w f) (hx : ∀ f ∈ l, f.s.xs.length ≤ 2000) :
    Calls Try.prog 105 #[.slice A m c] w fun e w' => (((putsE l 0).1 = 0 ∧ ∃ v, e = .returned (.tuple #[v, .agg #[.int .i64 0, .int .i64 0]]) ∧ w'.ownsRow w.heap.size 5 1 v (l.flatMap pBF).length ((l.flatMap pBF).map bv)) ∨
      ((putsE l 0).1 ≠ 0 ∧ e = .returned (.tuple #[.slice none 0 0, .agg #[.int .i64 ((putsE l 0).1 : Nat), .int .i64 ((putsE l 0).2 : Nat)]]))) ∧ Below w.heap.size w w' := by
  have hcm : m ≤ 9223372036854775807 := by omega
  have HM := hid hm
  have HL := hid hl
  have HOK := hid hok
  have HX := hid hx
  clear hm hl hok hx
  obtain ⟨R, hR⟩ : ∃ R : Ending → World → Prop, R = fun e w' => (((putsE l 0).1 = 0 ∧ ∃ v, e = .returned (.tuple #[v, .agg #[.int .i64 0, .int .i64 0]]) ∧ w'.ownsRow w.heap.size 5 1 v (l.flatMap pBF).length ((l.flatMap pBF).map bv)) ∨
      ((putsE l 0).1 ≠ 0 ∧ e = .returned (.tuple #[.slice none 0 0, .agg #[.int .i64 ((putsE l 0).1 : Nat), .int .i64 ((putsE l 0).2 : Nat)]]))) ∧ Below w.heap.size w w' := ⟨_, rfl⟩
  rw [← hR]
  have HR := hid hR
  clear hR
  go_enter Try.func105, Try.ntmps105
  go_wp2_with fail
  have hB0 := bw_a (Below.refl w.heap.size w) (.cells #[.int .i64 0, .int .i64 0] 33)
  have hk0 := Blk.new w 33 #[.int .i64 0, .int .i64 0]
  go_loopw [4, 10] (fun v i wr => ∃ (j : Nat) (bl : Nat), j ≤ m ∧ i = .int .i64 (j : Int) ∧ bl ≤ 2100 * j ∧ bl = ((l.take j).flatMap pBF).length ∧ wr.ownsRow (w.heap.size + 1) 5 1 v bl (((l.take j).flatMap pBF).map bv) ∧ Blk wr w.heap.size 33 #[.int .i64 0, .int .i64 0] ∧ Below w.heap.size w wr ∧ putsE l 0 = putsE (l.drop j) j) (fun _ i _ => m - (intOf i).toNat)
  case atStart => exact ⟨0, 0, by omega, rfl, by omega, rfl, World.ownsRow_nil _ _ _ _, hk0, hB0, rfl⟩
  case round =>
    obtain ⟨j, bl, hj, rfl, hbl, hbe, ho, hk, hB, hpe⟩ := hrel
    have c0 := hk.cell 0
    have c1 := hk.cell 1
    have g0 := hk.frozen 0
    have g1 := hk.frozen 1
    simp only [List.getElem?_toArray, List.getElem?_cons_zero, List.getElem?_cons_succ] at c0 c1
    by_cases hlt : j < m
    · have hjl : j < l.length := by have := HM.out; omega
      have hn0 : (l.flatMap fvC)[j * 5 + 0]? = _ := flatMap_get fvC 5 l j 0 hjl (fun _ _ => rfl) (by omega)
      have hn1 : (l.flatMap fvC)[j * 5 + 1]? = _ := flatMap_get fvC 5 l j 1 hjl (fun _ _ => rfl) (by omega)
      have hn2 : (l.flatMap fvC)[j * 5 + 2]? = _ := flatMap_get fvC 5 l j 2 hjl (fun _ _ => rfl) (by omega)
      have hn3 : (l.flatMap fvC)[j * 5 + 3]? = _ := flatMap_get fvC 5 l j 3 hjl (fun _ _ => rfl) (by omega)
      have hn4 : (l.flatMap fvC)[j * 5 + 4]? = _ := flatMap_get fvC 5 l j 4 hjl (fun _ _ => rfl) (by omega)
      have hoka := HOK.out l[j] (List.getElem_mem hjl)
      have hxa := HX.out l[j] (List.getElem_mem hjl)
      have hbad := putsE_bad l j j hjl
      have hgood := putsE_good l j j hjl
      have htk : l.take (j + 1) = l.take j ++ [l[j]] := (List.take_append_getElem hjl).symm
      obtain ⟨b, off, rfl, hbw, t0⟩ := HL.out.rd _ _ hn0
      have u1 := HL.out.rd.addr _ _ hn1
      have u2 := HL.out.rd.addr _ _ hn2
      have u3 := HL.out.rd.addr _ _ hn3
      have u4 := HL.out.rd.addr _ _ hn4
      rw [addr_add] at u1 u2 u3 u4
      simp only [Nat.add_zero, ← Nat.add_assoc] at t0 u1 u2 u3 u4
      have t0 := (hB.cell (p := ⟨b, off + j * 5, none⟩) hbw).trans t0
      have t1 := (hB.cell (p := ⟨b, off + j * 5 + 1, none⟩) hbw).trans u1
      have t2 := (hB.cell (p := ⟨b, off + j * 5 + 2, none⟩) hbw).trans u2
      have t3 := (hB.cell (p := ⟨b, off + j * 5 + 3, none⟩) hbw).trans u3
      have t4 := (hB.cell (p := ⟨b, off + j * 5 + 4, none⟩) hbw).trans u4
      have hji : (j : Int) < (m : Int) := by omega
      have hj0 : (0 : Int) ≤ (j : Int) := by omega
      clear hn0 hn1 hn2 hn3 hn4 u1 u2 u3 u4
      have hpl := pBF_len l[j] hoka.n hoka.w0 hoka.w1 hxa
      generalize l[j] = f at *
      obtain ⟨fnum, fw, fn_, ⟨fA, fc, fxs⟩, fat⟩ := f
      dsimp only at t0 t1 t2 t3 t4 hxa
      obtain ⟨xl, hxl⟩ : ∃ xl, fxs.length = xl := ⟨_, rfl⟩
      rw [hxl] at t3 hxa
      have hfar : FarS fA xl (fun k => w.heap.size + 1 ≤ k) := fun hp b' o' he ho => by
        obtain ⟨b2, o2, e2, hlt2, _⟩ := hoka.s.rd 0 (bv (fxs[0]'(by omega))) (by simp [List.getElem?_eq_getElem (show 0 < fxs.length by omega)])
        simp only at e2
        rw [he] at e2
        injection e2 with e2
        injection e2 with e3 e4
        omega
      have hput := fun W (hW : Below wr.heap.size wr W) => sput_any W (w.heap.size + 1) _ _ bl fnum fw fn_ fA fc xl fxs fat hxl (by omega) hoka.n hoka.w0 hoka.w1 hbe.symm (by omega) (own_below ho hW) (by have := hW.size; have := hk.lt; omega) (hoka.s.below (hB.trans (hW.mono hB.size))) hfar
      have HPUT := hid hput
      have HPE := hid hpe
      have HBAD := hid hbad
      have HGOOD := hid hgood
      have HTK := hid htk
      have HHB := hid hB
      have HHK := hid hk
      clear hput hpe hbad hgood htk hB hk hoka ho
      obtain ⟨er, her⟩ : ∃ er, pErr fnum fw fxs = er := ⟨_, rfl⟩
      obtain ⟨pb, hpb⟩ : ∃ pb, pB fnum fw fn_ fxs = pb := ⟨_, rfl⟩
      have hput := HPUT.out
      unfold SPut at hput
      rw [her, hpb] at hput
      have hq1 : pErrF ⟨fnum, fw, fn_, ⟨fA, fc, fxs⟩, fat⟩ = er := her
      have hq2 : pBF ⟨fnum, fw, fn_, ⟨fA, fc, fxs⟩, fat⟩ = pb := hpb
      have HQ1 := hid hq1
      have HQ2 := hid hq2
      have HPUT := hid hput
      rw [hq2] at hpl
      clear hput hq1 hq2 her hpb
      by_cases he : er = 0
      · subst he
        go_wp2_with (go_at_call 119; refine (HPUT.out _ (bw_a (Below.refl _ wr) _)).mono ?_; rintro e w2 ⟨(⟨hz, v2, rfl, ho2⟩ | ⟨hz, rfl⟩), hb2⟩; rotate_left; exact absurd rfl hz)
        have hbk : Below (w.heap.size + 1) wr w2 := ((Below.refl _ wr).alloc (by have := HHK.out.lt; omega) _).trans hb2
        go_roundw
        case rel =>
          refine ⟨j + 1, bl + pb.length, by omega, by go_num, by omega, ?_, ?_, HHK.out.below hbk (by omega), HHB.out.trans (hbk.mono (by omega)), by rw [HPE.out, HGOOD.out HQ1.out]⟩
          · rw [HTK.out, List.flatMap_append, List.length_append, ← hbe]; simp [HQ2.out]
          · rw [HTK.out, List.flatMap_append]; simpa [HQ2.out] using ho2
        case measure => simp [intOf] <;> omega
      · have heb : (((er : Nat) : Int) != 0) = true := by simpa using he
        go_wp2_with (go_at_call 119; refine (HPUT.out _ (bw_a (Below.refl _ wr) _)).mono ?_; rintro e w2 ⟨(⟨hz, v2, rfl, ho2⟩ | ⟨hz, rfl⟩), hb2⟩; exact absurd hz he; have hbk : Below (w.heap.size + 1) wr w2 := (((Below.refl _ wr).alloc (by have := HHK.out.lt; omega) _).trans hb2); have hk2 := HHK.out.below hbk (by omega); have q0 := hk2.cell 0; have q1 := hk2.cell 1; have q2 := hk2.frozen 0; have q3 := hk2.frozen 1; simp only [List.getElem?_toArray, List.getElem?_cons_zero, List.getElem?_cons_succ] at q0 q1)
        have hf : Blk ((w2.setCell ⟨w.heap.size, 0, none⟩ (.int .i64 (er : Int))).setCell ⟨w.heap.size, 1, none⟩ (.int .i64 (j : Int))) w.heap.size 33 #[.int .i64 (er : Int), .int .i64 (j : Int)] := by simpa using (hk2.set_ 0 (.int .i64 (er : Int))).set_ 1 (.int .i64 (j : Int))
        have hbf := ((HHB.out.trans (hbk.mono (by omega))).setCell (p := ⟨w.heap.size, 0, none⟩) (Nat.le_refl _) (.int .i64 (er : Int))).setCell (p := ⟨w.heap.size, 1, none⟩) (Nat.le_refl _) (.int .i64 (j : Int))
        have f0 := hf.cell 0
        have f1 := hf.cell 1
        simp only [List.getElem?_toArray, List.getElem?_cons_zero, List.getElem?_cons_succ] at f0 f1
        have hpe2 : putsE l 0 = (er, j) := by rw [HPE.out, HBAD.out (by rw [HQ1.out]; exact he), HQ1.out]
        clear hf q0 q1 q2 q3 hk2
        generalize World.setCell (World.setCell _ _ _) _ _ = W3 at *
        refine bodyPost_ret (v := .tuple #[.slice none 0 0, .agg #[.int .i64 (er : Int), .int .i64 (j : Int)]]) (by simp [results, Try.results105, go_sem, f0, f1]) rfl ?_
        rw [HR.out]
        exact ⟨.inr ⟨by rw [hpe2]; exact he, by rw [hpe2]⟩, hbf⟩
    · obtain rfl : j = m := by omega
      go_wp2
      have hf : Blk ((wr.setCell ⟨w.heap.size, 0, none⟩ (.int .i64 0)).setCell ⟨w.heap.size, 1, none⟩ (.int .i64 0)) w.heap.size 33 #[.int .i64 0, .int .i64 0] := by simpa using (hk.set_ 0 (.int .i64 0)).set_ 1 (.int .i64 0)
      have hbf := (hB.setCell (p := ⟨w.heap.size, 0, none⟩) (Nat.le_refl _) (.int .i64 0)).setCell (p := ⟨w.heap.size, 1, none⟩) (Nat.le_refl _) (.int .i64 0)
      have ho2 := own_setBelow (own_setBelow ho (p := ⟨w.heap.size, 0, none⟩) (by show w.heap.size < _; omega) (.int .i64 0)) (p := ⟨w.heap.size, 1, none⟩) (by show w.heap.size < _; omega) (.int .i64 0)
      have f0 := hf.cell 0
      have f1 := hf.cell 1
      simp only [List.getElem?_toArray, List.getElem?_cons_zero, List.getElem?_cons_succ] at f0 f1
      have hlj : l.length = j := HM.out
      rw [List.take_of_length_le (by omega)] at ho2 hbe
      rw [List.drop_of_length_le (by omega)] at hpe
      clear hf ho c0 c1 g0 g1 hk
      generalize World.setCell (World.setCell _ _ _) _ _ = W3 at *
      refine bodyPost_ret (v := .tuple #[u4, .agg #[.int .i64 0, .int .i64 0]]) (by simp [results, Try.results105, go_sem, f0, f1]) rfl ?_
      rw [HR.out]
      exact ⟨.inl ⟨by rw [hpe]; rfl, u4, rfl, by rw [← hbe]; exact own_mono ho2 (by omega)⟩, hbf⟩
end Go.Proofs.Ytnfodgjihdoncaa
set_option linter.unusedVariables false
namespace Go.Proofs.Ytnfodgjihdoncaa
open Go.RowKit
theorem pBF_len8 (f : FV) (hn : f.n ≤ 18446744073709551615) (h0 : 0 ≤ f.w) (h1 : f.w ≤ 255) (hl : f.s.xs.length ≤ 8000) : (pBF f).length ≤ 8100 := by
  have hm := mk_facts f.num f.w h0 h1
  have h2 := putN_length10 (n := (mk f.num f.w).1.toNat) (by omega)
  have h3 := pTail_len (x := f.w) (xs := f.s.xs) hn (by omega)
  unfold pBF pB
  rw [List.length_append]
  omega
set_option maxRecDepth 100000 in
set_option maxHeartbeats 4000000 in
theorem sputs8_any (l : List FV) (m : Nat) (A : Option Addr) (c : Nat) (w : World) (hm : l.length = m) (hm2 : m ≤ 100) (hl : SlN w A m c 5 (l.flatMap fvC)) (hok : ∀ f ∈ l, FvOk w f) (hx : ∀ f ∈ l, f.s.xs.length ≤ 8000) :
    Calls Try.prog 105 #[.slice A m c] w fun e w' => (((putsE l 0).1 = 0 ∧ ∃ v, e = .returned (.tuple #[v, .agg #[.int .i64 0, .int .i64 0]]) ∧ w'.ownsRow w.heap.size 5 1 v (l.flatMap pBF).length ((l.flatMap pBF).map bv)) ∨
      ((putsE l 0).1 ≠ 0 ∧ e = .returned (.tuple #[.slice none 0 0, .agg #[.int .i64 ((putsE l 0).1 : Nat), .int .i64 ((putsE l 0).2 : Nat)]]))) ∧ Below w.heap.size w w' := by
  have hcm : m ≤ 9223372036854775807 := by omega
  have HM := hid hm
  have HL := hid hl
  have HOK := hid hok
  have HX := hid hx
  clear hm hl hok hx
  obtain ⟨R, hR⟩ : ∃ R : Ending → World → Prop, R = fun e w' => (((putsE l 0).1 = 0 ∧ ∃ v, e = .returned (.tuple #[v, .agg #[.int .i64 0, .int .i64 0]]) ∧ w'.ownsRow w.heap.size 5 1 v (l.flatMap pBF).length ((l.flatMap pBF).map bv)) ∨
      ((putsE l 0).1 ≠ 0 ∧ e = .returned (.tuple #[.slice none 0 0, .agg #[.int .i64 ((putsE l 0).1 : Nat), .int .i64 ((putsE l 0).2 : Nat)]]))) ∧ Below w.heap.size w w' := ⟨_, rfl⟩
  rw [← hR]
  have HR := hid hR
  clear hR
  go_enter Try.func105, Try.ntmps105
  go_wp2_with fail
  have hB0 := bw_a (Below.refl w.heap.size w) (.cells #[.int .i64 0, .int .i64 0] 33)
  have hk0 := Blk.new w 33 #[.int .i64 0, .int .i64 0]
  go_loopw [4, 10] (fun v i wr => ∃ (j : Nat) (bl : Nat), j ≤ m ∧ i = .int .i64 (j : Int) ∧ bl ≤ 8100 * j ∧ bl = ((l.take j).flatMap pBF).length ∧ wr.ownsRow (w.heap.size + 1) 5 1 v bl (((l.take j).flatMap pBF).map bv) ∧ Blk wr w.heap.size 33 #[.int .i64 0, .int .i64 0] ∧ Below w.heap.size w wr ∧ putsE l 0 = putsE (l.drop j) j) (fun _ i _ => m - (intOf i).toNat)
  case atStart => exact ⟨0, 0, by omega, rfl, by omega, rfl, World.ownsRow_nil _ _ _ _, hk0, hB0, rfl⟩
  case round =>
    obtain ⟨j, bl, hj, rfl, hbl, hbe, ho, hk, hB, hpe⟩ := hrel
    have c0 := hk.cell 0
    have c1 := hk.cell 1
    have g0 := hk.frozen 0
    have g1 := hk.frozen 1
    simp only [List.getElem?_toArray, List.getElem?_cons_zero, List.getElem?_cons_succ] at c0 c1
    by_cases hlt : j < m
    · have hjl : j < l.length := by have := HM.out; omega
      have hn0 : (l.flatMap fvC)[j * 5 + 0]? = _ := flatMap_get fvC 5 l j 0 hjl (fun _ _ => rfl) (by omega)
      have hn1 : (l.flatMap fvC)[j * 5 + 1]? = _ := flatMap_get fvC 5 l j 1 hjl (fun _ _ => rfl) (by omega)
      have hn2 : (l.flatMap fvC)[j * 5 + 2]? = _ := flatMap_get fvC 5 l j 2 hjl (fun _ _ => rfl) (by omega)
      have hn3 : (l.flatMap fvC)[j * 5 + 3]? = _ := flatMap_get fvC 5 l j 3 hjl (fun _ _ => rfl) (by omega)
      have hn4 : (l.flatMap fvC)[j * 5 + 4]? = _ := flatMap_get fvC 5 l j 4 hjl (fun _ _ => rfl) (by omega)
      have hoka := HOK.out l[j] (List.getElem_mem hjl)
      have hxa := HX.out l[j] (List.getElem_mem hjl)
      have hbad := putsE_bad l j j hjl
      have hgood := putsE_good l j j hjl
      have htk : l.take (j + 1) = l.take j ++ [l[j]] := (List.take_append_getElem hjl).symm
      obtain ⟨b, off, rfl, hbw, t0⟩ := HL.out.rd _ _ hn0
      have u1 := HL.out.rd.addr _ _ hn1
      have u2 := HL.out.rd.addr _ _ hn2
      have u3 := HL.out.rd.addr _ _ hn3
      have u4 := HL.out.rd.addr _ _ hn4
      rw [addr_add] at u1 u2 u3 u4
      simp only [Nat.add_zero, ← Nat.add_assoc] at t0 u1 u2 u3 u4
      have t0 := (hB.cell (p := ⟨b, off + j * 5, none⟩) hbw).trans t0
      have t1 := (hB.cell (p := ⟨b, off + j * 5 + 1, none⟩) hbw).trans u1
      have t2 := (hB.cell (p := ⟨b, off + j * 5 + 2, none⟩) hbw).trans u2
      have t3 := (hB.cell (p := ⟨b, off + j * 5 + 3, none⟩) hbw).trans u3
      have t4 := (hB.cell (p := ⟨b, off + j * 5 + 4, none⟩) hbw).trans u4
      have hji : (j : Int) < (m : Int) := by omega
      have hj0 : (0 : Int) ≤ (j : Int) := by omega
      clear hn0 hn1 hn2 hn3 hn4 u1 u2 u3 u4
      have hpl := pBF_len8 l[j] hoka.n hoka.w0 hoka.w1 hxa
      generalize l[j] = f at *
      obtain ⟨fnum, fw, fn_, ⟨fA, fc, fxs⟩, fat⟩ := f
      dsimp only at t0 t1 t2 t3 t4 hxa
      obtain ⟨xl, hxl⟩ : ∃ xl, fxs.length = xl := ⟨_, rfl⟩
      rw [hxl] at t3 hxa
      have hfar : FarS fA xl (fun k => w.heap.size + 1 ≤ k) := fun hp b' o' he ho => by
        obtain ⟨b2, o2, e2, hlt2, _⟩ := hoka.s.rd 0 (bv (fxs[0]'(by omega))) (by simp [List.getElem?_eq_getElem (show 0 < fxs.length by omega)])
        simp only at e2
        rw [he] at e2
        injection e2 with e2
        injection e2 with e3 e4
        omega
      have hput := fun W (hW : Below wr.heap.size wr W) => sput_any W (w.heap.size + 1) _ _ bl fnum fw fn_ fA fc xl fxs fat hxl (by omega) hoka.n hoka.w0 hoka.w1 hbe.symm (by omega) (own_below ho hW) (by have := hW.size; have := hk.lt; omega) (hoka.s.below (hB.trans (hW.mono hB.size))) hfar
      have HPUT := hid hput
      have HPE := hid hpe
      have HBAD := hid hbad
      have HGOOD := hid hgood
      have HTK := hid htk
      have HHB := hid hB
      have HHK := hid hk
      clear hput hpe hbad hgood htk hB hk hoka ho
      obtain ⟨er, her⟩ : ∃ er, pErr fnum fw fxs = er := ⟨_, rfl⟩
      obtain ⟨pb, hpb⟩ : ∃ pb, pB fnum fw fn_ fxs = pb := ⟨_, rfl⟩
      have hput := HPUT.out
      unfold SPut at hput
      rw [her, hpb] at hput
      have hq1 : pErrF ⟨fnum, fw, fn_, ⟨fA, fc, fxs⟩, fat⟩ = er := her
      have hq2 : pBF ⟨fnum, fw, fn_, ⟨fA, fc, fxs⟩, fat⟩ = pb := hpb
      have HQ1 := hid hq1
      have HQ2 := hid hq2
      have HPUT := hid hput
      rw [hq2] at hpl
      clear hput hq1 hq2 her hpb
      by_cases he : er = 0
      · subst he
        go_wp2_with (go_at_call 119; refine (HPUT.out _ (bw_a (Below.refl _ wr) _)).mono ?_; rintro e w2 ⟨(⟨hz, v2, rfl, ho2⟩ | ⟨hz, rfl⟩), hb2⟩; rotate_left; exact absurd rfl hz)
        have hbk : Below (w.heap.size + 1) wr w2 := ((Below.refl _ wr).alloc (by have := HHK.out.lt; omega) _).trans hb2
        go_roundw
        case rel =>
          refine ⟨j + 1, bl + pb.length, by omega, by go_num, by omega, ?_, ?_, HHK.out.below hbk (by omega), HHB.out.trans (hbk.mono (by omega)), by rw [HPE.out, HGOOD.out HQ1.out]⟩
          · rw [HTK.out, List.flatMap_append, List.length_append, ← hbe]; simp [HQ2.out]
          · rw [HTK.out, List.flatMap_append]; simpa [HQ2.out] using ho2
        case measure => simp [intOf] <;> omega
      · have heb : (((er : Nat) : Int) != 0) = true := by simpa using he
        go_wp2_with (go_at_call 119; refine (HPUT.out _ (bw_a (Below.refl _ wr) _)).mono ?_; rintro e w2 ⟨(⟨hz, v2, rfl, ho2⟩ | ⟨hz, rfl⟩), hb2⟩; exact absurd hz he; have hbk : Below (w.heap.size + 1) wr w2 := (((Below.refl _ wr).alloc (by have := HHK.out.lt; omega) _).trans hb2); have hk2 := HHK.out.below hbk (by omega); have q0 := hk2.cell 0; have q1 := hk2.cell 1; have q2 := hk2.frozen 0; have q3 := hk2.frozen 1; simp only [List.getElem?_toArray, List.getElem?_cons_zero, List.getElem?_cons_succ] at q0 q1)
        have hf : Blk ((w2.setCell ⟨w.heap.size, 0, none⟩ (.int .i64 (er : Int))).setCell ⟨w.heap.size, 1, none⟩ (.int .i64 (j : Int))) w.heap.size 33 #[.int .i64 (er : Int), .int .i64 (j : Int)] := by simpa using (hk2.set_ 0 (.int .i64 (er : Int))).set_ 1 (.int .i64 (j : Int))
        have hbf := ((HHB.out.trans (hbk.mono (by omega))).setCell (p := ⟨w.heap.size, 0, none⟩) (Nat.le_refl _) (.int .i64 (er : Int))).setCell (p := ⟨w.heap.size, 1, none⟩) (Nat.le_refl _) (.int .i64 (j : Int))
        have f0 := hf.cell 0
        have f1 := hf.cell 1
        simp only [List.getElem?_toArray, List.getElem?_cons_zero, List.getElem?_cons_succ] at f0 f1
        have hpe2 : putsE l 0 = (er, j) := by rw [HPE.out, HBAD.out (by rw [HQ1.out]; exact he), HQ1.out]
        clear hf q0 q1 q2 q3 hk2
        generalize World.setCell (World.setCell _ _ _) _ _ = W3 at *
        refine bodyPost_ret (v := .tuple #[.slice none 0 0, .agg #[.int .i64 (er : Int), .int .i64 (j : Int)]]) (by simp [results, Try.results105, go_sem, f0, f1]) rfl ?_
        rw [HR.out]
        exact ⟨.inr ⟨by rw [hpe2]; exact he, by rw [hpe2]⟩, hbf⟩
    · obtain rfl : j = m := by omega
      go_wp2
      have hf : Blk ((wr.setCell ⟨w.heap.size, 0, none⟩ (.int .i64 0)).setCell ⟨w.heap.size, 1, none⟩ (.int .i64 0)) w.heap.size 33 #[.int .i64 0, .int .i64 0] := by simpa using (hk.set_ 0 (.int .i64 0)).set_ 1 (.int .i64 0)
      have hbf := (hB.setCell (p := ⟨w.heap.size, 0, none⟩) (Nat.le_refl _) (.int .i64 0)).setCell (p := ⟨w.heap.size, 1, none⟩) (Nat.le_refl _) (.int .i64 0)
      have ho2 := own_setBelow (own_setBelow ho (p := ⟨w.heap.size, 0, none⟩) (by show w.heap.size < _; omega) (.int .i64 0)) (p := ⟨w.heap.size, 1, none⟩) (by show w.heap.size < _; omega) (.int .i64 0)
      have f0 := hf.cell 0
      have f1 := hf.cell 1
      simp only [List.getElem?_toArray, List.getElem?_cons_zero, List.getElem?_cons_succ] at f0 f1
      have hlj : l.length = j := HM.out
      rw [List.take_of_length_le (by omega)] at ho2 hbe
      rw [List.drop_of_length_le (by omega)] at hpe
      clear hf ho c0 c1 g0 g1 hk
      generalize World.setCell (World.setCell _ _ _) _ _ = W3 at *
      refine bodyPost_ret (v := .tuple #[u4, .agg #[.int .i64 0, .int .i64 0]]) (by simp [results, Try.results105, go_sem, f0, f1]) rfl ?_
      rw [HR.out]
      exact ⟨.inl ⟨by rw [hpe]; rfl, u4, rfl, by rw [← hbe]; exact own_mono ho2 (by omega)⟩, hbf⟩
end Go.Proofs.Ytnfodgjihdoncaa
set_option linter.unusedVariables false
namespace Go.Proofs.Ytnfodgjihdoncaa
open Go.RowKit
theorem rHead_le (bs : List UInt8) (p : Nat) (hp : p ≤ bs.length) (h : (rHead bs p).2.2.1 = 0) : (rHead bs p).2.2.2 ≤ bs.length := by
  unfold rHead at h ⊢
  have hg := M.get_facts (bs.drop p)
  have hd : (bs.drop p).length = bs.length - p := List.length_drop
  split
  · rename_i h0
    rw [if_pos h0] at h
    have h2 := (hg.1 h0).2.2.1
    simp only
    omega
  · exact hp
theorem rOne_p (bs : List UInt8) (p : Nat) (hp : p ≤ bs.length) : (rOne bs p).p ≤ bs.length := by
  unfold rOne
  split
  · rename_i h
    have := rHead_le bs p hp h
    simp only
    unfold flt
    split <;> omega
  · exact hp
end Go.Proofs.Ytnfodgjihdoncaa
set_option linter.unusedVariables false
namespace Go.Proofs.Ytnfodgjihdoncaa
theorem plc_add (e p q k : Nat) : plc e (p + q) (p + k) = p + plc e q k := by unfold plc; split <;> rfl
theorem rHead_shift (bs : List UInt8) (p : Nat) : rHead bs p = ((rHead (bs.drop p) 0).1, (rHead (bs.drop p) 0).2.1, (rHead (bs.drop p) 0).2.2.1, p + (rHead (bs.drop p) 0).2.2.2) := by
  unfold rHead
  simp only [List.drop_zero, Nat.zero_add]
  split <;> simp
theorem rTake_shift (n : Int) (bs : List UInt8) (p q : Nat) : rTake n bs (p + q) = ((rTake n (bs.drop p) q).1, (rTake n (bs.drop p) q).2.1, p + (rTake n (bs.drop p) q).2.2) := by
  unfold rTake
  rw [List.drop_drop, List.length_drop, show bs.length - p - q = bs.length - (p + q) from by omega]
  split
  · rfl
  · split
    · rfl
    · simp only [Nat.add_assoc]
theorem rFix_shift (k : Nat) (bs : List UInt8) (p q : Nat) : rFix k bs (p + q) = ((rFix k (bs.drop p) q).1, (rFix k (bs.drop p) q).2.1, p + (rFix k (bs.drop p) q).2.2) := by
  unfold rFix
  rw [List.drop_drop, List.length_drop, show bs.length - p - q = bs.length - (p + q) from by omega]
  split
  · rfl
  · simp only [Nat.add_assoc]
theorem rCount_shift (m : Int) (bs : List UInt8) (p q : Nat) : rCount m bs (p + q) = ((rCount m (bs.drop p) q).1, (rCount m (bs.drop p) q).2.1, p + (rCount m (bs.drop p) q).2.2) := by
  unfold rCount
  rw [List.drop_drop]
  split
  · rfl
  · split
    · simp only [Nat.add_assoc]
    · rw [Nat.add_assoc, rTake_shift]
theorem rVal_shift (w : Int) (bs : List UInt8) (p q : Nat) : rVal w bs (p + q) = ((rVal w (bs.drop p) q).1, (rVal w (bs.drop p) q).2.1, (rVal w (bs.drop p) q).2.2.1, p + (rVal w (bs.drop p) q).2.2.2) := by
  unfold rVal
  rw [rFix_shift 8, rFix_shift 4, rCount_shift, ← List.drop_drop, Nat.add_assoc]
  simp only [plc_add]
  split
  · rfl
  · split
    · rfl
    · split <;> rfl
/-- A field at a place is that at the beginning of what is left. -/
theorem rOne_shift (bs : List UInt8) (p : Nat) : (rOne bs p).num = (rOne (bs.drop p) 0).num ∧ (rOne bs p).w = (rOne (bs.drop p) 0).w ∧ (rOne bs p).n = (rOne (bs.drop p) 0).n ∧ (rOne bs p).xs = (rOne (bs.drop p) 0).xs ∧ (rOne bs p).e = (rOne (bs.drop p) 0).e ∧
    (rOne bs p).nx = p + (rOne (bs.drop p) 0).nx ∧ ((rOne bs p).e ≠ 0 → (rOne bs p).p = p + (rOne (bs.drop p) 0).p) := by
  unfold rOne
  rw [rHead_shift]
  simp only
  split
  · rw [rVal_shift]
    simp only
    refine ⟨trivial, trivial, trivial, trivial, trivial, trivial, fun he => ?_⟩
    unfold flt
    rw [if_neg he, if_neg he]
  · exact ⟨rfl, rfl, rfl, rfl, rfl, rfl, fun _ => rfl⟩
theorem rOne_p0 (bs : List UInt8) (p : Nat) (h : (rOne bs p).e = 0) : (rOne bs p).p = 0 := by
  unfold rOne at h ⊢
  split
  · rename_i h0
    rw [if_pos h0] at h
    simp only at h ⊢
    rw [h]; rfl
  · rename_i h0
    rw [if_neg h0] at h
    exact absurd h h0
/-- What a field's wire type has. -/
def bareN (f : FV) : Nat := if f.w = 2 then 0 else if f.w = 5 then f.n % 4294967296 else f.n
def bareX (f : FV) : List UInt8 := if f.w = 2 then f.s.xs else []
theorem pErr_inv (f : FV) (h : pErrF f = 0) (w0 : 0 ≤ f.w) (w1 : f.w ≤ 255) : (mk f.num f.w).2 = 0 ∧ (f.w = 0 ∨ f.w = 1 ∨ f.w = 2 ∨ f.w = 5) ∧ (f.w = 2 → f.s.xs.length ≤ 8192) := by
  have hf := mk_facts f.num f.w w0 w1
  unfold pErrF pErr at h
  by_cases h0 : (mk f.num f.w).2 = 0
  · rw [if_neg (by omega)] at h
    obtain ⟨h1, h2, hw, he⟩ := mk_ok_inv h0
    refine ⟨h0, by unfold wireB at hw; simpa using hw, fun h2 => ?_⟩
    by_cases hl : 8192 < f.s.xs.length
    · rw [if_pos ⟨h2, hl⟩] at h; omega
    · omega
  · rw [if_pos h0] at h; omega
section
variable {E pre rest : List UInt8} {p : Nat}
theorem xd_num (n : Nat) (hn : n ≤ 18446744073709551615) (hE : E = pre ++ (putN n ++ rest)) (hp : pre.length = p) : M.get (E.drop p) = (n, (putN n).length, 0) := by
  subst hE hp
  rw [List.drop_left' rfl]
  exact get_put rest hn
theorem xd_head (num x : Int) (h0 : (mk num x).2 = 0) (hE : E = pre ++ (putN (mk num x).1.toNat ++ rest)) (hp : pre.length = p) : rHead E p = (num, x, 0, p + (putN (mk num x).1.toNat).length) := by
  obtain ⟨h1, h2, hw, he⟩ := mk_ok_inv h0
  have hl := wireB_lt hw
  have hm : (mk num x).1 = 8 * num + x := by rw [he]
  have hg := xd_num (mk num x).1.toNat (by omega) hE hp
  unfold rHead
  rw [hg]
  simp only [if_true]
  rw [show (((mk num x).1.toNat : Nat) : Int) = (mk num x).1 from by omega, spl_mk h0]
  rfl
theorem xd_fix (k n : Nat) (hn : n < 256 ^ k) (hE : E = pre ++ (fixN k n ++ rest)) (hp : pre.length = p) : rFix k E p = (n, 0, p + k) := by
  subst hE hp
  unfold rFix
  rw [if_neg (by simp [length_fixN]), List.drop_left' rfl, List.take_left' (length_fixN k n), unfix_fix k n hn]
theorem xd_bytes (t : List UInt8) (ht : t.length ≤ 8192) (hE : E = pre ++ ((putN t.length ++ t) ++ rest)) (hp : pre.length = p) : rCount 8192 E p = (t, 0, p + (putN t.length ++ t).length) := by
  have hg := xd_num (E := E) (pre := pre) (rest := t ++ rest) t.length (by omega) (by rw [hE, List.append_assoc]) hp
  unfold rCount
  rw [hg]
  dsimp only
  rw [if_neg (by simp), if_neg (by omega), rTake_ok (by omega) (by rw [hE]; simp; omega)]
  have e : E = (pre ++ putN t.length) ++ (t ++ rest) := by rw [hE]; simp
  rw [e, ← hp, List.drop_left' (by simp)]
  simp
  omega
/-- A field that was put is read as it was put, but for what its wire type hasn't. -/
theorem rOne_put (f : FV) (h : pErrF f = 0) (hn : f.n ≤ 18446744073709551615) (w0 : 0 ≤ f.w) (w1 : f.w ≤ 255) (hE : E = pre ++ (pBF f ++ rest)) (hp : pre.length = p) :
    rOne E p = ⟨f.num, f.w, bareN f, bareX f, 0, 0, p + (pBF f).length⟩ := by
  obtain ⟨hm, hw, hl⟩ := pErr_inv f h w0 w1
  have hpb : pBF f = putN (mk f.num f.w).1.toNat ++ pTail f.w f.n f.s.xs := rfl
  rw [hpb, List.append_assoc] at hE
  have hh := xd_head f.num f.w hm hE hp
  rw [hpb, List.length_append, ← Nat.add_assoc]
  unfold rOne
  rw [hh]
  simp only [if_true]
  have hE2 : E = (pre ++ putN (mk f.num f.w).1.toNat) ++ (pTail f.w f.n f.s.xs ++ rest) := by rw [hE]; simp
  have hp2 : (pre ++ putN (mk f.num f.w).1.toNat).length = p + (putN (mk f.num f.w).1.toNat).length := by rw [List.length_append, hp]
  generalize p + (putN (mk f.num f.w).1.toNat).length = r at *
  generalize pre ++ putN (mk f.num f.w).1.toNat = pr at *
  have hv : rVal f.w E r = (bareN f, bareX f, 0, r + (pTail f.w f.n f.s.xs).length) := by
    unfold bareN bareX
    rcases hw with hw | hw | hw | hw <;> rw [hw] at hE2 ⊢
    · have hg := xd_num f.n hn (show E = pr ++ (putN f.n ++ rest) from hE2) hp2
      unfold rVal
      rw [if_pos rfl, hg]
      simp [plc, pTail]
    · have hg := xd_fix 8 f.n (by omega) (show E = pr ++ (fixN 8 f.n ++ rest) from hE2) hp2
      unfold rVal
      rw [if_neg (by omega), if_pos rfl, hg]
      simp [plc, pTail, length_fixN]
    · have hg := xd_bytes f.s.xs (hl hw) (show E = pr ++ ((putN f.s.xs.length ++ f.s.xs) ++ rest) from hE2) hp2
      unfold rVal
      rw [if_neg (by omega), if_neg (by omega), if_pos rfl, hg]
      simp [plc, pTail]
    · have hg := xd_fix 4 (f.n % 4294967296) (by omega) (show E = pr ++ (fixN 4 (f.n % 4294967296) ++ rest) from hE2) hp2
      unfold rVal
      rw [if_neg (by omega), if_neg (by omega), if_neg (by omega), hg]
      simp [plc, pTail, length_fixN]
  rw [hv]
  rfl
end
theorem putN_pos (n : Nat) : 1 ≤ (putN n).length := by rw [putN_size]; exact sizeN_pos n
theorem pBF_pos (f : FV) : 1 ≤ (pBF f).length := by
  have h := putN_pos (mk f.num f.w).1.toNat
  unfold pBF pB
  rw [List.length_append]
  omega
/-- What is read of fields that were put, from a place on. -/
def putL : List FV → Nat → List (RF × Nat)
  | [], _ => []
  | f :: fs, p => (⟨f.num, f.w, bareN f, bareX f, 0, 0, p + (pBF f).length⟩, p) :: putL fs (p + (pBF f).length)
theorem flds_put (l : List FV) : ∀ (E pre : List UInt8) (p fu : Nat), (∀ f ∈ l, pErrF f = 0 ∧ f.n ≤ 18446744073709551615 ∧ 0 ≤ f.w ∧ f.w ≤ 255) → E = pre ++ l.flatMap pBF → pre.length = p → E.length - p ≤ fu → flds E fu p = (putL l p, 0, 0) := by
  induction l with
  | nil =>
    intro E pre p fu _ hE hp _
    rw [flds_end _ _ _ (by rw [hE]; simp [hp])]
    rfl
  | cons f fs ih =>
    intro E pre p fu hok hE hp hfu
    obtain ⟨h0, hn, w0, w1⟩ := hok f (List.mem_cons_self ..)
    rw [List.flatMap_cons] at hE
    have hone := rOne_put f h0 hn w0 w1 hE hp
    have hpos := pBF_pos f
    have hlt : p < E.length := by rw [hE, List.length_append, List.length_append, hp]; omega
    obtain ⟨g, hg, hst⟩ := flds_step E fu p hlt hfu (by rw [hone])
    rw [hone] at hg hst
    have hi := ih E (pre ++ pBF f) (p + (pBF f).length) g (fun x hx => hok x (List.mem_cons_of_mem _ hx)) (by rw [hE]; simp) (by rw [List.length_append, hp]) hg
    simp only at hst
    rw [hst, hi]
    rfl
theorem putL_len (l : List FV) (p : Nat) : (putL l p).length = l.length := by
  induction l generalizing p with
  | nil => rfl
  | cons f fs ih => simp [putL, ih]
/-- Fields as values, one by one. -/
theorem fvAll_get {fs : List FV} {rs : List (RF × Nat)} (h : fvAll fs rs) (k : Nat) (hk : k < fs.length) (hk2 : k < rs.length) : fvOf fs[k] rs[k] := by
  induction fs generalizing rs k with
  | nil => simp at hk
  | cons f fs ih => cases rs with
    | nil => exact h.elim
    | cons r rs => cases k with
      | zero => exact h.1
      | succ k => exact ih h.2 k (by simpa using hk) (by simpa using hk2)
theorem putL_get (l : List FV) (p k : Nat) (hk : k < l.length) (hk2 : k < (putL l p).length) : (putL l p)[k].1.num = l[k].num ∧ (putL l p)[k].1.w = l[k].w ∧ (putL l p)[k].1.n = bareN l[k] ∧ (putL l p)[k].1.xs = bareX l[k] := by
  induction l generalizing p k with
  | nil => simp at hk
  | cons f fs ih => cases k with
    | zero => exact ⟨rfl, rfl, rfl, rfl⟩
    | succ k => exact ih (p + (pBF f).length) k (by simpa using hk) (by simpa [putL] using hk2)
/-- The fields of what was put: as they were put, but for what their wire types haven't, and places. -/
theorem put_like {l pre : List FV} {p : Nat} (h : fvAll pre (putL l p)) : pre.length = l.length ∧ ∀ (k : Nat) (h1 : k < pre.length) (h2 : k < l.length), pre[k].num = l[k].num ∧ pre[k].w = l[k].w ∧ pre[k].n = bareN l[k] ∧ pre[k].s.xs = bareX l[k] := by
  have hl := fvAll_len h
  rw [putL_len] at hl
  refine ⟨hl, fun k h1 h2 => ?_⟩
  have h3 : k < (putL l p).length := by rw [putL_len]; exact h2
  have hg := fvAll_get h k h1 h3
  have hp := putL_get l p k h2 h3
  exact ⟨hg.1.trans hp.1, hg.2.1.trans hp.2.1, hg.2.2.1.trans hp.2.2.1, hg.2.2.2.1.trans hp.2.2.2⟩
theorem put_get_len (b : List UInt8) (h : (M.get b).2.2 = 0) : (putN (M.get b).1).length ≤ (M.get b).2.1 := by
  obtain ⟨v, hv, hs, -⟩ := put_getF b 0 0 (by omega) (by simp) h
  have hv2 : (M.get b).1 = v := by unfold M.get; rw [hv]; simp
  rw [hv2, putN_size]
  have : 0 + sizeN v ≤ (M.get b).2.1 := hs
  omega
theorem putN_len_mono {a b : Nat} (h : a ≤ b) : (putN a).length ≤ (putN b).length := by rw [putN_size, putN_size]; exact sizeN_mono h
/-- A field that was read: it can be put, has just what its wire type has, and is no longer. -/
theorem again_one (f : FV) (bs : List UInt8) (p : Nat) (hp : p ≤ bs.length) (h : (rOne bs p).e = 0) (hf : fvOf f (rOne bs p, p)) : pErrF f = 0 ∧ bareN f = f.n ∧ bareX f = f.s.xs ∧ p + (pBF f).length ≤ (rOne bs p).nx := by
  obtain ⟨f1, f2, f3, f4, -⟩ := hf
  simp only at f1 f2 f3 f4
  unfold bareN bareX pErrF pErr pBF pB
  rw [f1, f2, f3, f4]
  clear f1 f2 f3 f4
  unfold rOne at h ⊢
  by_cases h0 : (rHead bs p).2.2.1 = 0
  · rw [if_pos h0] at h ⊢
    have hh := rHead_facts bs p h0
    simp only at h ⊢
    have hle := rHead_le bs p hp h0
    have hmk : (mk (rHead bs p).1 (rHead bs p).2.1).2 = 0 ∧ p + (putN (mk (rHead bs p).1 (rHead bs p).2.1).1.toNat).length ≤ (rHead bs p).2.2.2 := by
      unfold rHead at h0 ⊢
      by_cases hg : (M.get (bs.drop p)).2.2 = 0
      · rw [if_pos hg] at h0 ⊢
        simp only at h0 ⊢
        have hse := spl_err ((M.get (bs.drop p)).1 : Int)
        have hms := mk_spl (n := ((M.get (bs.drop p)).1 : Int)) (by omega)
        rw [hms]
        have hl := put_get_len _ hg
        simp only [Int.toNat_natCast]
        exact ⟨trivial, by omega⟩
      · rw [if_neg hg] at h0; exact absurd h0 hg
    generalize (rHead bs p).2.2.2 = r at *
    generalize hw0 : (rHead bs p).2.1 = w at *
    generalize (rHead bs p).1 = num at *
    obtain ⟨hm, hlm⟩ := hmk
    obtain ⟨-, -, hw, -⟩ := hh
    have hd : (bs.drop r).length = bs.length - r := List.length_drop
    rcases hw with rfl | rfl | rfl | rfl
    · have hv : rVal 0 bs r = (if (M.get (bs.drop r)).2.2 = 0 then (M.get (bs.drop r)).1 else 0, [], (M.get (bs.drop r)).2.2, plc (M.get (bs.drop r)).2.2 r (r + (M.get (bs.drop r)).2.1)) := by unfold rVal; rw [if_pos rfl]
      rw [hv] at h ⊢
      simp only at h ⊢
      have hl := put_get_len _ h
      rw [h]
      refine ⟨by rw [if_neg (by omega), if_neg (by omega)], by rw [if_neg (by omega), if_neg (by omega)], rfl, ?_⟩
      simp only [pTail, plc, if_true, List.length_append]
      omega
    · have hv : rVal 1 bs r = (if (rFix 8 bs r).2.1 = 0 then (rFix 8 bs r).1 else 0, [], (rFix 8 bs r).2.1, plc (rFix 8 bs r).2.1 r (rFix 8 bs r).2.2) := by unfold rVal; rw [if_neg (by omega), if_pos rfl]
      rw [hv] at h ⊢
      simp only at h ⊢
      rw [h]
      refine ⟨by rw [if_neg (by omega), if_neg (by omega)], by rw [if_neg (by omega), if_neg (by omega)], rfl, ?_⟩
      have h2 : (rFix 8 bs r).2.2 = r + 8 := by
        unfold rFix at h ⊢
        split
        · rename_i hx; rw [if_pos hx] at h; simp at h
        · rfl
      simp only [pTail, plc, if_true, List.length_append, h2]
      rw [if_neg (by omega), length_fixN]
      omega
    · have hv : rVal 2 bs r = (0, if (rCount 8192 bs r).2.1 = 0 then (rCount 8192 bs r).1 else [], (rCount 8192 bs r).2.1, plc (rCount 8192 bs r).2.1 r (rCount 8192 bs r).2.2) := by unfold rVal; rw [if_neg (by omega), if_neg (by omega), if_pos rfl]
      rw [hv] at h ⊢
      simp only at h ⊢
      rw [h]
      simp only [if_true, plc]
      have hc : (rCount 8192 bs r).1.length ≤ 8192 ∧ r + (putN (rCount 8192 bs r).1.length ++ (rCount 8192 bs r).1).length ≤ (rCount 8192 bs r).2.2 := by
        unfold rCount at h ⊢
        by_cases g1 : (M.get (bs.drop r)).2.2 ≠ 0
        · rw [if_pos g1] at h; exact absurd h g1
        · rw [if_neg g1] at h ⊢
          by_cases g2 : (8192 : Int) < 0 ∨ (8192 : Int) < ((M.get (bs.drop r)).1 : Int)
          · rw [if_pos g2] at h; simp at h
          · rw [if_neg g2] at h ⊢
            have hl := put_get_len _ (show (M.get (bs.drop r)).2.2 = 0 by omega)
            have hgf := M.get_facts (bs.drop r)
            by_cases g3 : ((bs.length - (r + (M.get (bs.drop r)).2.1) : Nat) : Int) < ((M.get (bs.drop r)).1 : Int)
            · rw [rTake_short (by omega) g3] at h; simp at h
            · rw [rTake_ok (by omega) g3]
              simp only [Int.toNat_natCast]
              have hlen : ((bs.drop (r + (M.get (bs.drop r)).2.1)).take (M.get (bs.drop r)).1).length = (M.get (bs.drop r)).1 := by rw [List.length_take, List.length_drop]; omega
              rw [List.length_append, hlen]
              omega
      refine ⟨by rw [if_neg (by omega), if_neg (by omega)], trivial, trivial, ?_⟩
      have ht : pTail 2 0 (rCount 8192 bs r).1 = putN (rCount 8192 bs r).1.length ++ (rCount 8192 bs r).1 := rfl
      rw [ht, List.length_append]
      omega
    · have hv : rVal 5 bs r = (if (rFix 4 bs r).2.1 = 0 then (rFix 4 bs r).1 else 0, [], (rFix 4 bs r).2.1, plc (rFix 4 bs r).2.1 r (rFix 4 bs r).2.2) := by unfold rVal; rw [if_neg (by omega), if_neg (by omega), if_neg (by omega)]
      have h5 := rFix4_lt bs r
      rw [hv] at h h5 ⊢
      simp only at h h5 ⊢
      have h2 : (rFix 4 bs r).2.2 = r + 4 := by
        unfold rFix at h ⊢
        split
        · rename_i hx; rw [if_pos hx] at h; simp at h
        · rfl
      rw [h] at h5 ⊢
      simp only [if_true] at h5 ⊢
      refine ⟨by rw [if_neg (by omega), if_neg (by omega)], by rw [if_neg (by omega)]; omega, rfl, ?_⟩
      have ht : ∀ n xs, pTail 5 n xs = fixN 4 (n % 4294967296) := fun _ _ => rfl
      rw [ht, List.length_append, length_fixN, h2]
      simp only [plc, if_true]
      omega
  · rw [if_neg h0] at h
    exact absurd h h0
/-- Fields that were read. -/
theorem again_all (bs : List UInt8) : ∀ (fu p : Nat) (fs : List FV), p ≤ bs.length → (flds bs fu p).2.1 = 0 → fvAll fs (flds bs fu p).1 → (∀ f ∈ fs, pErrF f = 0 ∧ bareN f = f.n ∧ bareX f = f.s.xs) ∧ p + (fs.flatMap pBF).length ≤ bs.length
  | 0, p, fs, hp, _, hf => by
    cases fs with
    | nil => simpa using hp
    | cons f fs => exact hf.elim
  | fu + 1, p, fs, hp, he, hf => by
    rw [flds] at he hf
    by_cases h1 : bs.length ≤ p
    · rw [if_pos h1] at hf
      cases fs with
      | nil => simpa using hp
      | cons f fs => exact hf.elim
    · rw [if_neg h1] at he hf
      by_cases h2 : (rOne bs p).e = 0
      · rw [if_pos h2] at he hf
        simp only at he hf
        cases fs with
        | nil => exact hf.elim
        | cons f fs =>
          have hn := (rOne_facts bs p hp).1 h2
          obtain ⟨a1, a2, a3, a4⟩ := again_one f bs p hp h2 hf.1
          obtain ⟨b1, b2⟩ := again_all bs fu (rOne bs p).nx fs hn.2.1 he hf.2
          refine ⟨fun g hg => ?_, ?_⟩
          · rcases List.mem_cons.1 hg with rfl | hg
            · exact ⟨a1, a2, a3⟩
            · exact b1 g hg
          · rw [List.flatMap_cons, List.length_append]; omega
      · rw [if_neg h2] at he
        exact absurd he h2
/-- Where fields stand: each ends where the next one begins. -/
def At (bs : List UInt8) : List (RF × Nat) → Nat → Prop
  | [], _ => True
  | r :: rs, p => r = (rOne bs p, p) ∧ p < bs.length ∧ (rOne bs p).e = 0 ∧ At bs rs (rOne bs p).nx
theorem flds_at (bs : List UInt8) : ∀ (fu p : Nat), At bs (flds bs fu p).1 p
  | 0, p => trivial
  | fu + 1, p => by
    rw [flds]
    by_cases h1 : bs.length ≤ p
    · rw [if_pos h1]; trivial
    · rw [if_neg h1]
      by_cases h2 : (rOne bs p).e = 0
      · rw [if_pos h2]; exact ⟨rfl, by omega, h2, flds_at bs fu (rOne bs p).nx⟩
      · rw [if_neg h2]; trivial
theorem at_get {bs : List UInt8} {rs : List (RF × Nat)} {p : Nat} (h : At bs rs p) (k : Nat) (h1 : k < rs.length) : rs[k].2 < bs.length ∧ rs[k].1 = rOne bs rs[k].2 ∧ (rOne bs rs[k].2).e = 0 ∧ ∀ (h2 : k + 1 < rs.length), rs[k + 1].2 = (rOne bs rs[k].2).nx := by
  induction rs generalizing p k with
  | nil => simp at h1
  | cons r rs ih =>
    obtain ⟨rfl, hp, he, ha⟩ := h
    cases k with
    | zero =>
      refine ⟨hp, rfl, he, fun h2 => ?_⟩
      cases rs with
      | nil => simp at h2
      | cons s rs => obtain ⟨rfl, _⟩ := ha; rfl
    | succ k =>
      have := ih ha k (by simpa using h1)
      simpa using this
end Go.Proofs.Ytnfodgjihdoncaa
