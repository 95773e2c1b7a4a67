/- skip.put: a field's bytes behind bytes. -/
import Derived.Test.YtefoccpgnijamaaFields
import Derived.Test.YtefoccpgnijamaaWr
set_option linter.unusedVariables false
namespace Go.Proofs.Ytefoccpgnijamaa
open Go.RowKit
def pTail (x : Int) (n : Nat) (xs : List UInt8) : List UInt8 := if x = 0 then putN n else if x = 1 then fixN 8 n else if x = 2 then putN xs.length ++ xs else fixN 4 (n % 4294967296)
def pErr (num x : Int) (xs : List UInt8) : Nat := if (mk num x).2 ≠ 0 then (mk num x).2.toNat else if x = 2 ∧ 8192 < xs.length then 2 else 0
def pB (num x : Int) (n : Nat) (xs : List UInt8) : List UInt8 := putN (mk num x).1.toNat ++ pTail x n xs
theorem pTail_len {x : Int} {n : Nat} {xs : List UInt8} (hn : n ≤ 18446744073709551615) (hl : xs.length ≤ 100000) : (pTail x n xs).length ≤ 10 + xs.length := by
  unfold pTail
  split
  · have := putN_length10 hn; omega
  · split
    · rw [length_fixN]; omega
    · split
      · have := putN_length10 (n := xs.length) (by omega); rw [List.length_append]; omega
      · rw [length_fixN]; omega
/-- What put comes to. -/
def SPut (B bl : Nat) (bs : List UInt8) (num x : Int) (n : Nat) (xs : List UInt8) (w : World) (e : Ending) (W' : World) : Prop :=
  ((pErr num x xs = 0 ∧ ∃ v', e = .returned (.tuple #[v', .int .i64 0]) ∧ W'.ownsRow B 5 1 v' (bl + (pB num x n xs).length) ((bs ++ pB num x n xs).map bv)) ∨ (pErr num x xs ≠ 0 ∧ e = .returned (.tuple #[.slice none 0 0, .int .i64 (pErr num x xs : Nat)]))) ∧ Below B w W'
/-- What put keeps. -/
structure PS (w : World) (B z : Nat) (fs : Array Value) (A : Option Addr) (c : Nat) (xs : List UInt8) (v : Value) (n : Nat) (bs : List UInt8) (W : World) : Prop where
  own : W.ownsRow B 5 1 v n (bs.map bv)
  fld : Blk W z 41 fs
  src : Sl W A c (xs.map bv)
  bel : Below B w W
theorem PS.new {w : World} {B z : Nat} {fs : Array Value} {A : Option Addr} {c : Nat} {xs : List UInt8} {v : Value} {n : Nat} {bs : List UInt8} {W W' : World} (h : PS w B z fs A c xs v n bs W) (hB : B ≤ W.heap.size) (hb : Below W.heap.size W W') : PS w B z fs A c xs v n bs W' :=
  ⟨own_below h.own hb, h.fld.below hb h.fld.lt, h.src.below hb, h.bel.trans (hb.mono hB)⟩
theorem PS.grow {w : World} {B z : Nat} {fs : Array Value} {A : Option Addr} {c : Nat} {xs : List UInt8} {v v' : Value} {n n' : Nat} {bs bs' : List UInt8} {W W' : World} (h : PS w B z fs A c xs v n bs W) (hf : FarS A xs.length (fun k => B ≤ k)) (hB : B ≤ W.heap.size) (hg : W.grownBy W' v.ownBlock) (ho : W'.ownsRow B 5 1 v' n' (bs.map bv ++ bs'.map bv)) : PS w B z fs A c xs v' n' (bs ++ bs') W' :=
  ⟨by rw [List.map_append]; exact ho, (hg.block z h.fld.lt (fun e => own_blk_ne h.own h.fld (by decide) e.symm)).trans h.fld,
    (Chg.of_grown hg fun g e => (h.own.lt g e).1).sl h.src hf (by simp), h.bel.grown hg hB fun k e => (h.own.lt k e).1⟩
set_option maxRecDepth 100000 in
set_option maxHeartbeats 2000000 in
theorem sput_any (w : World) (B : Nat) (v : Value) (bs : List UInt8) (bl : Nat) (num x : Int) (n : Nat) (A : Option Addr) (c xl : Nat) (xs : List UInt8) (at_ : Int) (hxl : xs.length = xl) (hl : xl ≤ 100000) (hn : n ≤ 18446744073709551615) (hx0 : 0 ≤ x) (hx1 : x ≤ 255) (hbl : bs.length = bl) (hb9 : bl ≤ 1000000000)
    (ho : w.ownsRow B 5 1 v bl (bs.map bv)) (hB : B ≤ w.heap.size) (hs : Sl w A c (xs.map bv)) (hf : FarS A xl (fun k => B ≤ k)) :
    Calls Try.prog 50 #[v, .agg #[.int .i64 num, .int .u8 x, .int .u64 (n : Int), .slice A xl c, .int .i64 at_]] w (SPut B bl bs num x n xs w) := by
  obtain ⟨i0, hi, hz0, hz1, hz2⟩ := info_parts Try.info5
  have hmf := mk_facts num x hx0 hx1
  have hmk := fun W => make_any num x W hx0 hx1
  have HMK := hid hmk
  have HO := hid ho
  have HS := hid hs
  have HF := hid hf
  clear hmk ho hs hf
  by_cases he : (mk num x).2 = 0
  · obtain ⟨hm1, hm2, hw, -⟩ := mk_ok_inv he
    have hx : x = 0 ∨ x = 1 ∨ x = 2 ∨ x = 5 := by
      have := wireB_lt hw
      unfold wireB at hw
      simp at hw
      omega
    obtain ⟨k, hk⟩ : ∃ k : Nat, (mk num x).1 = (k : Int) := ⟨(mk num x).1.toNat, by omega⟩
    have hk64 : k ≤ 18446744073709551615 := by omega
    have hpe : pErr num x xs = if x = 2 ∧ 8192 < xs.length then 2 else 0 := by unfold pErr; rw [if_neg (by omega)]
    have hpb : pB num x n xs = putN k ++ pTail x n xs := by unfold pB; rw [hk]; rfl
    have hk10 := putN_length10 hk64
    have hmk := HMK.out
    rw [he, hk] at hmk
    have HMK := hid hmk
    clear hmk hmf
    have HPE := hid hpe
    have HPB := hid hpb
    clear hpe hpb
    generalize hpp : putN k = P at *
    have hvp := fun W => vput_any k W hk64
    rw [hpp] at hvp
    have HVP := hid hvp
    clear hvp hpp
    rcases hx with rfl | rfl | rfl | rfl
    · go_enter Try.func50, Try.ntmps50
      go_wp2_with (go_at_call 43; refine (HMK.out _).mono ?_; rintro e w' ⟨rfl, rfl⟩)
      refine (HVP.out _).mono ?_
      rintro e w1 ⟨A1, c1, rfl, hs1, hb1⟩
      have HS1 := hid hs1
      have hsz : B ≤ w1.heap.size := by have := hb1.size; simp at this; omega
      have HSZ1 := hid hsz
      have PS1 := hid (PS.new (PS.mk (z := w.heap.size) (HO.out.alloc _) (Blk.new w 41 #[.int .i64 num, .int .u8 0, .int .u64 (n : Int), .slice A xl c, .int .i64 at_]) (HS.out.below (bw_a (Below.refl _ w) _)) ((Below.refl B w).alloc hB _)) (by simp; omega) hb1)
      have HFF := hid (show FarS A xs.length (fun k => B ≤ k) by rw [hxl]; exact HF.out)
      clear hs1 hb1 hsz HO HS HF HVP HMK
      go_wp2_with (at_builtin; refine wpList_append_rd rfl _ _ 32 rfl B 5 i0 (.int .u8 0) 1 1 Try.underlying32 hi hz0 hz1 hz2 rfl (by decide) v (bl) ((bs).map bv) rfl PS1.out.own A1 (P.length) c1 ((P).map bv) rfl (by simp) HS1.out.rd HS1.out.nil0 (bv_one _) (by simp only [maxLen]; omega) (by omega) HSZ1.out ?_; intro v2 w2 hown hgrow; obtain ⟨vA2, vc2, rfl, -, -⟩ := Sl.of_own hown; have PS2 := hid (PS1.out.grow HFF.out HSZ1.out hgrow hown); have HSZ2 := hid (Nat.le_trans HSZ1.out hgrow.size); clear hown hgrow; have d1 := PS2.out.fld.cell 1; have d2 := PS2.out.fld.cell 2; have d3 := PS2.out.fld.cell 3; simp only [List.getElem?_toArray, List.getElem?_cons_zero, List.getElem?_cons_succ] at d1 d2 d3)
      refine (vput_any n _ hn).mono ?_
      rintro e w3 ⟨A3, c3, rfl, hs3, hb3⟩
      have HS3 := hid hs3
      have PS3 := hid (PS2.out.new HSZ2.out hb3)
      have HSZ3 := hid (Nat.le_trans HSZ2.out hb3.size)
      clear hs3 hb3 d1 d2 d3
      have hl3 := putN_length10 hn
      generalize hq : putN n = Q at *
      go_wp2_with (at_builtin; refine wpList_append_rd rfl _ _ 32 rfl B 5 i0 (.int .u8 0) 1 1 Try.underlying32 hi hz0 hz1 hz2 rfl (by decide) _ (bl + P.length) ((bs ++ P).map bv) rfl PS3.out.own A3 (Q.length) c3 ((Q).map bv) rfl (by simp) HS3.out.rd HS3.out.nil0 (bv_one _) (by simp only [maxLen]; omega) (by omega) HSZ3.out ?_; intro v4 w4 hown hgrow; obtain ⟨vA4, vc4, rfl, -, -⟩ := Sl.of_own hown; have PS4 := hid (PS3.out.grow HFF.out HSZ3.out hgrow hown); have HSZ4 := hid (Nat.le_trans HSZ3.out hgrow.size); clear hown hgrow; have d1 := PS4.out.fld.cell 1; have d2 := PS4.out.fld.cell 2; have d3 := PS4.out.fld.cell 3; simp only [List.getElem?_toArray, List.getElem?_cons_zero, List.getElem?_cons_succ] at d1 d2 d3)
      go_ret2
      refine ⟨.inl ⟨by rw [HPE.out, if_neg (by omega)], _, rfl, ?_⟩, PS4.out.bel⟩
      have ht : pTail 0 n xs = Q := by rw [← hq]; rfl
      rw [HPB.out, ht, List.length_append, ← Nat.add_assoc, ← List.append_assoc]
      exact PS4.out.own
    · go_enter Try.func50, Try.ntmps50
      go_wp2_with (go_at_call 43; refine (HMK.out _).mono ?_; rintro e w' ⟨rfl, rfl⟩)
      refine (HVP.out _).mono ?_
      rintro e w1 ⟨A1, c1, rfl, hs1, hb1⟩
      have HS1 := hid hs1
      have hsz : B ≤ w1.heap.size := by have := hb1.size; simp at this; omega
      have HSZ1 := hid hsz
      have PS1 := hid (PS.new (PS.mk (z := w.heap.size) (HO.out.alloc _) (Blk.new w 41 #[.int .i64 num, .int .u8 1, .int .u64 (n : Int), .slice A xl c, .int .i64 at_]) (HS.out.below (bw_a (Below.refl _ w) _)) ((Below.refl B w).alloc hB _)) (by simp; omega) hb1)
      have HFF := hid (show FarS A xs.length (fun k => B ≤ k) by rw [hxl]; exact HF.out)
      clear hs1 hb1 hsz HO HS HF HVP HMK
      go_wp2_with (at_builtin; refine wpList_append_rd rfl _ _ 32 rfl B 5 i0 (.int .u8 0) 1 1 Try.underlying32 hi hz0 hz1 hz2 rfl (by decide) v (bl) ((bs).map bv) rfl PS1.out.own A1 (P.length) c1 ((P).map bv) rfl (by simp) HS1.out.rd HS1.out.nil0 (bv_one _) (by simp only [maxLen]; omega) (by omega) HSZ1.out ?_; intro v2 w2 hown hgrow; obtain ⟨vA2, vc2, rfl, -, -⟩ := Sl.of_own hown; have PS2 := hid (PS1.out.grow HFF.out HSZ1.out hgrow hown); have HSZ2 := hid (Nat.le_trans HSZ1.out hgrow.size); clear hown hgrow; have d1 := PS2.out.fld.cell 1; have d2 := PS2.out.fld.cell 2; have d3 := PS2.out.fld.cell 3; simp only [List.getElem?_toArray, List.getElem?_cons_zero, List.getElem?_cons_succ] at d1 d2 d3)
      refine (fix64_any n hn _).mono ?_
      rintro e w3 ⟨A3, c3, rfl, hs3, hb3⟩
      have HS3 := hid hs3
      have PS3 := hid (PS2.out.new HSZ2.out hb3)
      have HSZ3 := hid (Nat.le_trans HSZ2.out hb3.size)
      clear hs3 hb3 d1 d2 d3
      have hl3 := length_fixN 8 n
      generalize hq : fixN 8 n = Q at *
      go_wp2_with (at_builtin; refine wpList_append_rd rfl _ _ 32 rfl B 5 i0 (.int .u8 0) 1 1 Try.underlying32 hi hz0 hz1 hz2 rfl (by decide) _ (bl + P.length) ((bs ++ P).map bv) rfl PS3.out.own A3 (8) c3 ((Q).map bv) rfl (by simp [hl3]) HS3.out.rd HS3.out.nil0 (bv_one _) (by simp only [maxLen]; omega) (by omega) HSZ3.out ?_; intro v4 w4 hown hgrow; obtain ⟨vA4, vc4, rfl, -, -⟩ := Sl.of_own hown; have PS4 := hid (PS3.out.grow HFF.out HSZ3.out hgrow hown); have HSZ4 := hid (Nat.le_trans HSZ3.out hgrow.size); clear hown hgrow; have d1 := PS4.out.fld.cell 1; have d2 := PS4.out.fld.cell 2; have d3 := PS4.out.fld.cell 3; simp only [List.getElem?_toArray, List.getElem?_cons_zero, List.getElem?_cons_succ] at d1 d2 d3)
      go_ret2
      refine ⟨.inl ⟨by rw [HPE.out, if_neg (by omega)], _, rfl, ?_⟩, PS4.out.bel⟩
      have ht : pTail 1 n xs = Q := by rw [← hq]; rfl
      rw [HPB.out, ht, List.length_append, ← Nat.add_assoc, ← List.append_assoc, hl3]
      exact PS4.out.own
    · by_cases hlong : 8192 < xl
      · go_enter Try.func50, Try.ntmps50
        go_wp2_with (go_at_call 43; refine (HMK.out _).mono ?_; rintro e w' ⟨rfl, rfl⟩)
        refine (HVP.out _).mono ?_
        rintro e w1 ⟨A1, c1, rfl, hs1, hb1⟩
        have HS1 := hid hs1
        have hsz : B ≤ w1.heap.size := by have := hb1.size; simp at this; omega
        have HSZ1 := hid hsz
        have PS1 := hid (PS.new (PS.mk (z := w.heap.size) (HO.out.alloc _) (Blk.new w 41 #[.int .i64 num, .int .u8 2, .int .u64 (n : Int), .slice A xl c, .int .i64 at_]) (HS.out.below (bw_a (Below.refl _ w) _)) ((Below.refl B w).alloc hB _)) (by simp; omega) hb1)
        have HFF := hid (show FarS A xs.length (fun k => B ≤ k) by rw [hxl]; exact HF.out)
        clear hs1 hb1 hsz HO HS HF HVP HMK
        go_wp2_with (at_builtin; refine wpList_append_rd rfl _ _ 32 rfl B 5 i0 (.int .u8 0) 1 1 Try.underlying32 hi hz0 hz1 hz2 rfl (by decide) v (bl) ((bs).map bv) rfl PS1.out.own A1 (P.length) c1 ((P).map bv) rfl (by simp) HS1.out.rd HS1.out.nil0 (bv_one _) (by simp only [maxLen]; omega) (by omega) HSZ1.out ?_; intro v2 w2 hown hgrow; obtain ⟨vA2, vc2, rfl, -, -⟩ := Sl.of_own hown; have PS2 := hid (PS1.out.grow HFF.out HSZ1.out hgrow hown); have HSZ2 := hid (Nat.le_trans HSZ1.out hgrow.size); clear hown hgrow; have d1 := PS2.out.fld.cell 1; have d2 := PS2.out.fld.cell 2; have d3 := PS2.out.fld.cell 3; simp only [List.getElem?_toArray, List.getElem?_cons_zero, List.getElem?_cons_succ] at d1 d2 d3)
        go_ret2
        have hpe : pErr num 2 xs = 2 := by rw [HPE.out]; simp [hxl, hlong]
        refine ⟨.inr ⟨by rw [hpe]; decide, by rw [hpe]; rfl⟩, PS2.out.bel⟩
      · go_enter Try.func50, Try.ntmps50
        go_wp2_with (go_at_call 43; refine (HMK.out _).mono ?_; rintro e w' ⟨rfl, rfl⟩)
        refine (HVP.out _).mono ?_
        rintro e w1 ⟨A1, c1, rfl, hs1, hb1⟩
        have HS1 := hid hs1
        have hsz : B ≤ w1.heap.size := by have := hb1.size; simp at this; omega
        have HSZ1 := hid hsz
        have PS1 := hid (PS.new (PS.mk (z := w.heap.size) (HO.out.alloc _) (Blk.new w 41 #[.int .i64 num, .int .u8 2, .int .u64 (n : Int), .slice A xl c, .int .i64 at_]) (HS.out.below (bw_a (Below.refl _ w) _)) ((Below.refl B w).alloc hB _)) (by simp; omega) hb1)
        have HFF := hid (show FarS A xs.length (fun k => B ≤ k) by rw [hxl]; exact HF.out)
        clear hs1 hb1 hsz HO HS HF HVP HMK
        go_wp2_with (at_builtin; refine wpList_append_rd rfl _ _ 32 rfl B 5 i0 (.int .u8 0) 1 1 Try.underlying32 hi hz0 hz1 hz2 rfl (by decide) v (bl) ((bs).map bv) rfl PS1.out.own A1 (P.length) c1 ((P).map bv) rfl (by simp) HS1.out.rd HS1.out.nil0 (bv_one _) (by simp only [maxLen]; omega) (by omega) HSZ1.out ?_; intro v2 w2 hown hgrow; obtain ⟨vA2, vc2, rfl, -, -⟩ := Sl.of_own hown; have PS2 := hid (PS1.out.grow HFF.out HSZ1.out hgrow hown); have HSZ2 := hid (Nat.le_trans HSZ1.out hgrow.size); clear hown hgrow; have d1 := PS2.out.fld.cell 1; have d2 := PS2.out.fld.cell 2; have d3 := PS2.out.fld.cell 3; simp only [List.getElem?_toArray, List.getElem?_cons_zero, List.getElem?_cons_succ] at d1 d2 d3)
        have hvx := fun W => vput_any xl W (by omega)
        have hl3 := putN_length10 (n := xl) (by omega)
        generalize hq : putN xl = Q at *
        have HVX := hid hvx
        clear hvx
        refine (HVX.out _).mono ?_
        rintro e w3 ⟨A3, c3, rfl, hs3, hb3⟩
        have HS3 := hid hs3
        have PS3 := hid (PS2.out.new HSZ2.out hb3)
        have HSZ3 := hid (Nat.le_trans HSZ2.out hb3.size)
        clear hs3 hb3 d1 d2 d3
        go_wp2_with (first | (at_builtin; refine wpList_append_rd rfl _ _ 32 rfl B 5 i0 (.int .u8 0) 1 1 Try.underlying32 hi hz0 hz1 hz2 rfl (by decide) _ (bl + P.length) ((bs ++ P).map bv) rfl PS3.out.own A3 (Q.length) c3 ((Q).map bv) rfl (by simp) HS3.out.rd HS3.out.nil0 (bv_one _) (by simp only [maxLen]; omega) (by omega) HSZ3.out ?_; intro v4 w4 hown hgrow; obtain ⟨vA4, vc4, rfl, -, -⟩ := Sl.of_own hown; have PS4 := hid (PS3.out.grow HFF.out HSZ3.out hgrow hown); have HSZ4 := hid (Nat.le_trans HSZ3.out hgrow.size); clear hown hgrow; have d1 := PS4.out.fld.cell 1; have d2 := PS4.out.fld.cell 2; have d3 := PS4.out.fld.cell 3; simp only [List.getElem?_toArray, List.getElem?_cons_zero, List.getElem?_cons_succ] at d1 d2 d3) | (at_builtin; refine wpList_append_rd rfl _ _ 32 rfl B 5 i0 (.int .u8 0) 1 1 Try.underlying32 hi hz0 hz1 hz2 rfl (by decide) _ (bl + P.length + Q.length) ((bs ++ P ++ Q).map bv) rfl PS4.out.own A (xl) c ((xs).map bv) rfl (by simp [hxl]) PS4.out.src.rd PS4.out.src.nil0 (bv_one _) (by simp only [maxLen]; omega) (by omega) HSZ4.out ?_; intro v5 w5 hown hgrow; obtain ⟨vA5, vc5, rfl, -, -⟩ := Sl.of_own hown; have PS5 := hid (PS4.out.grow HFF.out HSZ4.out hgrow hown); have HSZ5 := hid (Nat.le_trans HSZ4.out hgrow.size); clear hown hgrow; have d1 := PS5.out.fld.cell 1; have d2 := PS5.out.fld.cell 2; have d3 := PS5.out.fld.cell 3; simp only [List.getElem?_toArray, List.getElem?_cons_zero, List.getElem?_cons_succ] at d1 d2 d3))
        go_ret2
        refine ⟨.inl ⟨by rw [HPE.out, if_neg (by omega)], _, rfl, ?_⟩, PS5.out.bel⟩
        have ht : pTail 2 n xs = Q ++ xs := by rw [← hq, ← hxl]; rfl
        rw [HPB.out, ht, List.length_append, List.length_append, hxl, ← Nat.add_assoc, ← Nat.add_assoc, ← List.append_assoc, ← List.append_assoc]
        exact PS5.out.own
    · go_enter Try.func50, Try.ntmps50
      go_wp2_with (go_at_call 43; refine (HMK.out _).mono ?_; rintro e w' ⟨rfl, rfl⟩)
      refine (HVP.out _).mono ?_
      rintro e w1 ⟨A1, c1, rfl, hs1, hb1⟩
      have HS1 := hid hs1
      have hsz : B ≤ w1.heap.size := by have := hb1.size; simp at this; omega
      have HSZ1 := hid hsz
      have PS1 := hid (PS.new (PS.mk (z := w.heap.size) (HO.out.alloc _) (Blk.new w 41 #[.int .i64 num, .int .u8 5, .int .u64 (n : Int), .slice A xl c, .int .i64 at_]) (HS.out.below (bw_a (Below.refl _ w) _)) ((Below.refl B w).alloc hB _)) (by simp; omega) hb1)
      have HFF := hid (show FarS A xs.length (fun k => B ≤ k) by rw [hxl]; exact HF.out)
      clear hs1 hb1 hsz HO HS HF HVP HMK
      go_wp2_with (at_builtin; refine wpList_append_rd rfl _ _ 32 rfl B 5 i0 (.int .u8 0) 1 1 Try.underlying32 hi hz0 hz1 hz2 rfl (by decide) v (bl) ((bs).map bv) rfl PS1.out.own A1 (P.length) c1 ((P).map bv) rfl (by simp) HS1.out.rd HS1.out.nil0 (bv_one _) (by simp only [maxLen]; omega) (by omega) HSZ1.out ?_; intro v2 w2 hown hgrow; obtain ⟨vA2, vc2, rfl, -, -⟩ := Sl.of_own hown; have PS2 := hid (PS1.out.grow HFF.out HSZ1.out hgrow hown); have HSZ2 := hid (Nat.le_trans HSZ1.out hgrow.size); clear hown hgrow; have d1 := PS2.out.fld.cell 1; have d2 := PS2.out.fld.cell 2; have d3 := PS2.out.fld.cell 3; simp only [List.getElem?_toArray, List.getElem?_cons_zero, List.getElem?_cons_succ] at d1 d2 d3)
      have hnm : n % 4294967296 ≤ 4294967295 := by omega
      refine (fix32_any (n % 4294967296) hnm _).mono ?_
      rintro e w3 ⟨A3, c3, rfl, hs3, hb3⟩
      have HS3 := hid hs3
      have PS3 := hid (PS2.out.new HSZ2.out hb3)
      have HSZ3 := hid (Nat.le_trans HSZ2.out hb3.size)
      clear hs3 hb3 d1 d2 d3
      have hl3 := length_fixN 4 (n % 4294967296)
      generalize hq : fixN 4 (n % 4294967296) = Q at *
      go_wp2_with (at_builtin; refine wpList_append_rd rfl _ _ 32 rfl B 5 i0 (.int .u8 0) 1 1 Try.underlying32 hi hz0 hz1 hz2 rfl (by decide) _ (bl + P.length) ((bs ++ P).map bv) rfl PS3.out.own A3 (4) c3 ((Q).map bv) rfl (by simp [hl3]) HS3.out.rd HS3.out.nil0 (bv_one _) (by simp only [maxLen]; omega) (by omega) HSZ3.out ?_; intro v4 w4 hown hgrow; obtain ⟨vA4, vc4, rfl, -, -⟩ := Sl.of_own hown; have PS4 := hid (PS3.out.grow HFF.out HSZ3.out hgrow hown); have HSZ4 := hid (Nat.le_trans HSZ3.out hgrow.size); clear hown hgrow; have d1 := PS4.out.fld.cell 1; have d2 := PS4.out.fld.cell 2; have d3 := PS4.out.fld.cell 3; simp only [List.getElem?_toArray, List.getElem?_cons_zero, List.getElem?_cons_succ] at d1 d2 d3)
      go_ret2
      refine ⟨.inl ⟨by rw [HPE.out, if_neg (by omega)], _, rfl, ?_⟩, PS4.out.bel⟩
      have ht : pTail 5 n xs = Q := by rw [← hq]; rfl
      rw [HPB.out, ht, List.length_append, ← Nat.add_assoc, ← List.append_assoc, hl3]
      exact PS4.out.own
  · have hm : pErr num x xs = (mk num x).2.toNat := by unfold pErr; rw [if_pos he]
    obtain ⟨er, her⟩ : ∃ er : Nat, (mk num x).2 = (er : Int) := ⟨(mk num x).2.toNat, by omega⟩
    have hmk := HMK.out
    rw [her] at hm hmk
    have hern : er ≠ 0 := by omega
    have HPE := hid hm
    have HMK := hid hmk
    clear hmk hm her he
    generalize (mk num x).1 = k at *
    have heb : (((er : Nat) : Int) != 0) = true := by simpa using hern
    go_enter Try.func50, Try.ntmps50
    go_wp2_with (go_at_call 43; refine (HMK.out _).mono ?_; rintro e w' ⟨rfl, rfl⟩)
    go_ret2
    exact ⟨.inr ⟨by rw [HPE.out]; simpa using hern, by rw [HPE.out]; simp⟩, (Below.refl B w).alloc hB _⟩
end Go.Proofs.Ytefoccpgnijamaa
