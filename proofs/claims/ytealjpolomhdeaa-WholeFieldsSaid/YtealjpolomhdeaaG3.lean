/- The fields of bytes: what is read at a place, and one behind another. · skip.read: a field at a reader's place. · skip.read in one piece. · What came in: bytes, and structs of five fields of a cell each. · skip.each: the fields of bytes, one by one, whatever is done with them. · skip.Fields in one piece. · Messages: what one holds, as plain data and in memory. · value's number, text, Int, Default. · Messages that are alike, and copies. · value's Same and Copy. · Which places belong to a field: value.marked. · A message without what belongs to no field: value.kept, and value.Clean. · Arguments opened: a message, a field's Spec. -/
import Derived.Test.YtealjpolomhdeaaG2
import Derived.Test.YtealjpolomhdeaaG0
import Derived.RegionTactic
import Derived.ChangeAlike
import Derived.Test.YtealjpolomhdeaaM2
import Derived.Scope
import Derived.RangeFuncOwn
import Derived.RangeFuncLeaves
import Derived.RangeFuncNested
import Derived.RangeFuncCalls
import Derived.Shelf.RegionOpen
import Derived.WalkSpells
import Derived.Laws.StructEq
import Derived.Laws.Tables
import Derived.Laws.Cover2
import Derived.KernelRfl
import Derived.Lib.SliceRun
import Derived.Deep.QuietTactic
import Derived.BigQuiet
set_option linter.unusedVariables false
namespace Go.Proofs.Ytealjpolomhdeaa
open Go.RowKit
/-- The value behind a tag: a number, or bytes; what is wrong; the place behind. -/
def rVal (w : Int) (bs : List UInt8) (p : Nat) : Nat × List UInt8 × Nat × Nat :=
  if w = 0 then (if (M.get (bs.drop p)).2.2 = 0 then (M.get (bs.drop p)).1 else 0, [], (M.get (bs.drop p)).2.2, plc (M.get (bs.drop p)).2.2 p (p + (M.get (bs.drop p)).2.1))
  else if w = 1 then (if (rFix 8 bs p).2.1 = 0 then (rFix 8 bs p).1 else 0, [], (rFix 8 bs p).2.1, plc (rFix 8 bs p).2.1 p (rFix 8 bs p).2.2)
  else if w = 2 then (0, if (rCount 8192 bs p).2.1 = 0 then (rCount 8192 bs p).1 else [], (rCount 8192 bs p).2.1, plc (rCount 8192 bs p).2.1 p (rCount 8192 bs p).2.2)
  else (if (rFix 4 bs p).2.1 = 0 then (rFix 4 bs p).1 else 0, [], (rFix 4 bs p).2.1, plc (rFix 4 bs p).2.1 p (rFix 4 bs p).2.2)
/-- A field at a place. -/
structure RF where
  num : Int
  w : Int
  n : Nat
  xs : List UInt8
  e : Nat
  p : Nat
  nx : Nat
def rOne (bs : List UInt8) (p : Nat) : RF :=
  if (rHead bs p).2.2.1 = 0 then
    ⟨(rHead bs p).1, (rHead bs p).2.1, (rVal (rHead bs p).2.1 bs (rHead bs p).2.2.2).1, (rVal (rHead bs p).2.1 bs (rHead bs p).2.2.2).2.1, (rVal (rHead bs p).2.1 bs (rHead bs p).2.2.2).2.2.1, flt (rVal (rHead bs p).2.1 bs (rHead bs p).2.2.2).2.2.1 (rHead bs p).2.2.2, (rVal (rHead bs p).2.1 bs (rHead bs p).2.2.2).2.2.2⟩
  else ⟨0, 0, 0, [], (rHead bs p).2.2.1, p, p⟩
theorem rHead_facts (bs : List UInt8) (p : Nat) (h : (rHead bs p).2.2.1 = 0) : 1 ≤ (rHead bs p).1 ∧ (rHead bs p).1 ≤ 536870911 ∧ ((rHead bs p).2.1 = 0 ∨ (rHead bs p).2.1 = 1 ∨ (rHead bs p).2.1 = 2 ∨ (rHead bs p).2.1 = 5) ∧ p < (rHead bs p).2.2.2 := by
  unfold rHead at h ⊢
  have hg := M.get_facts (bs.drop p)
  by_cases h0 : (M.get (bs.drop p)).2.2 = 0
  · rw [if_pos h0] at h ⊢
    simp only at h ⊢
    have hs := spl_err ((M.get (bs.drop p)).1 : Int)
    have hz : (spl ((M.get (bs.drop p)).1 : Int)).2.2 = 0 := by omega
    obtain ⟨h1, h2, h3, h4⟩ := spl_ok_inv hz
    rw [h4]
    simp only
    refine ⟨h1, h2, ?_, ?_⟩
    · unfold wireB at h3
      simpa using h3
    · have := (hg.1 h0).1; omega
  · rw [if_neg h0] at h
    simp only at h
    exact absurd h h0
theorem rCount_ok (bs : List UInt8) (p : Nat) (hp : p ≤ bs.length) (h : (rCount 8192 bs p).2.1 = 0) : p ≤ (rCount 8192 bs p).2.2 ∧ (rCount 8192 bs p).2.2 ≤ bs.length := by
  have hg := M.get_facts (bs.drop p)
  have hd : (bs.drop p).length = bs.length - p := List.length_drop
  unfold rCount at h ⊢
  split at h
  · simp at h; omega
  · rename_i h0
    rw [if_neg h0]
    have h1 := hg.1 (by omega)
    split at h
    · simp at h
    · rename_i h2
      rw [if_neg h2]
      by_cases hs : ((bs.length - (p + (M.get (bs.drop p)).2.1) : Nat) : Int) < ((M.get (bs.drop p)).1 : Int)
      · rw [rTake_short (by omega) hs] at h; simp at h
      · rw [rTake_ok (by omega) hs]
        simp only [Int.toNat_natCast]
        omega
theorem rVal_facts (w : Int) (bs : List UInt8) (p : Nat) (hp : p ≤ bs.length) : p ≤ (rVal w bs p).2.2.2 ∧ (rVal w bs p).2.2.2 ≤ bs.length ∧ (rVal w bs p).1 ≤ 18446744073709551615 ∧ ((rVal w bs p).2.2.1 ≠ 0 → (rVal w bs p).2.2.2 = p ∧ (rVal w bs p).1 = 0 ∧ (rVal w bs p).2.1 = []) := by
  have hg := M.get_facts (bs.drop p)
  have hd : (bs.drop p).length = bs.length - p := List.length_drop
  have hfx : ∀ k, k ≤ 8 → p ≤ plc (rFix k bs p).2.1 p (rFix k bs p).2.2 ∧ plc (rFix k bs p).2.1 p (rFix k bs p).2.2 ≤ bs.length ∧ (if (rFix k bs p).2.1 = 0 then (rFix k bs p).1 else 0) ≤ 18446744073709551615 ∧ ((rFix k bs p).2.1 ≠ 0 → plc (rFix k bs p).2.1 p (rFix k bs p).2.2 = p ∧ (if (rFix k bs p).2.1 = 0 then (rFix k bs p).1 else 0) = 0) := by
    intro k hk
    unfold rFix
    by_cases h : bs.length - p < k
    · rw [if_pos h]; simp [plc]; exact hp
    · rw [if_neg h]
      have hu := unfixN_lt ((bs.drop p).take k)
      have hl : ((bs.drop p).take k).length = k := by rw [List.length_take, hd]; omega
      rw [hl] at hu
      have hb := pow256 hk
      simp [plc]
      omega
  unfold rVal
  split
  · by_cases h0 : (M.get (bs.drop p)).2.2 = 0
    · have h1 := hg.1 h0
      simp only [h0, plc, if_true]
      refine ⟨by omega, by omega, by omega, fun h => absurd rfl h⟩
    · simp only [h0, plc, if_false]
      exact ⟨Nat.le_refl _, hp, by omega, fun _ => by simp⟩
  split
  · have h := hfx 8 (by omega)
    exact ⟨h.1, h.2.1, h.2.2.1, fun he => ⟨(h.2.2.2 he).1, (h.2.2.2 he).2, rfl⟩⟩
  split
  · have hc := rCount_ok bs p hp
    simp only
    refine ⟨?_, ?_, by omega, ?_⟩
    · unfold plc
      split
      · rename_i h; exact (hc h).1
      · exact Nat.le_refl _
    · unfold plc
      split
      · rename_i h; exact (hc h).2
      · exact hp
    · intro he
      simp [plc, he]
  · have h := hfx 4 (by omega)
    exact ⟨h.1, h.2.1, h.2.2.1, fun he => ⟨(h.2.2.2 he).1, (h.2.2.2 he).2, rfl⟩⟩
theorem rOne_facts (bs : List UInt8) (p : Nat) (hp : p ≤ bs.length) : ((rOne bs p).e = 0 → p < (rOne bs p).nx ∧ (rOne bs p).nx ≤ bs.length ∧ 1 ≤ (rOne bs p).num ∧ (rOne bs p).num ≤ 536870911 ∧ ((rOne bs p).w = 0 ∨ (rOne bs p).w = 1 ∨ (rOne bs p).w = 2 ∨ (rOne bs p).w = 5)) ∧ (rOne bs p).n ≤ 18446744073709551615 := by
  unfold rOne
  split
  · rename_i h
    have hh := rHead_facts bs p h
    have hp1 : (rHead bs p).2.2.2 ≤ bs.length := by
      unfold rHead at h ⊢
      have hg := M.get_facts (bs.drop p)
      have hd : (bs.drop p).length = bs.length - p := List.length_drop
      split
      · rename_i h0; have := (hg.1 h0).2.2.1; simp only; omega
      · exact hp
    have hv := rVal_facts (rHead bs p).2.1 bs (rHead bs p).2.2.2 hp1
    simp only
    exact ⟨fun he => ⟨by omega, hv.2.1, hh.1, hh.2.1, hh.2.2.1⟩, hv.2.2.1⟩
  · rename_i h
    exact ⟨fun he => absurd he h, by simp⟩
/-- The fields from a place on, each with its place; or what is wrong, and where. -/
def flds (bs : List UInt8) : Nat → Nat → List (RF × Nat) × Nat × Nat
  | 0, _ => ([], 0, 0)
  | f + 1, p => if bs.length ≤ p then ([], 0, 0) else if (rOne bs p).e = 0 then ((rOne bs p, p) :: (flds bs f (rOne bs p).nx).1, (flds bs f (rOne bs p).nx).2.1, (flds bs f (rOne bs p).nx).2.2) else ([], (rOne bs p).e, (rOne bs p).p)
theorem flds_end (bs : List UInt8) (f p : Nat) (h : bs.length ≤ p) : flds bs f p = ([], 0, 0) := by
  cases f with
  | zero => rfl
  | succ f => rw [flds, if_pos h]
theorem flds_bad (bs : List UInt8) (f p : Nat) (h : p < bs.length) (hf : bs.length - p ≤ f) (he : (rOne bs p).e ≠ 0) : flds bs f p = ([], (rOne bs p).e, (rOne bs p).p) := by
  obtain ⟨g, rfl⟩ : ∃ g, f = g + 1 := ⟨f - 1, by omega⟩
  rw [flds, if_neg (by omega), if_neg he]
theorem flds_step (bs : List UInt8) (f p : Nat) (h : p < bs.length) (hf : bs.length - p ≤ f) (he : (rOne bs p).e = 0) : ∃ g, bs.length - (rOne bs p).nx ≤ g ∧ flds bs f p = ((rOne bs p, p) :: (flds bs g (rOne bs p).nx).1, (flds bs g (rOne bs p).nx).2.1, (flds bs g (rOne bs p).nx).2.2) := by
  obtain ⟨g, rfl⟩ : ∃ g, f = g + 1 := ⟨f - 1, by omega⟩
  have hn := ((rOne_facts bs p (by omega)).1 he).1
  exact ⟨g, by omega, by rw [flds, if_neg (by omega), if_pos he]⟩
end Go.Proofs.Ytealjpolomhdeaa
set_option linter.unusedVariables false
namespace Go.Proofs.Ytealjpolomhdeaa
open Go.RowKit
section
variable {S : Nat → Prop} {w w' : World} {q : Nat}
theorem Rin.chgS {t : TypeId} {A : Option Addr} {c : Nat} {bs : List UInt8} {p : Nat} (h : Rin t w q A c bs p) (hc : Chg S w w') (hq : ¬ S q) (hf : FarS A bs.length S) : Rin t w' q A c bs p := ⟨hc.blk h.blk hq, hc.sl h.sl hf (by simp), h.le, h.far⟩
theorem Only.chgS {w0 : World} (h : Only q w0 w) (hc : Chg S w w') (hS : ∀ k, S k → w0.heap.size ≤ k) : Only q w0 w' :=
  ⟨hc.os.trans h.os, hc.tape.trans h.tape, hc.output.trans h.output, Nat.le_trans h.size hc.size, fun k hk hq => (hc.block k (Nat.lt_of_lt_of_le hk h.size) fun hs => by have := hS k hs; omega).trans (h.block k hk hq)⟩
end
/-- Five cells of one block, two of another one, and a draw. -/
theorem chg52 (w : World) (g h : Nat) (x0 x1 x2 x3 x4 y0 y1 : Value) : Chg (fun k => k = g ∨ k = h) w ((((((((w.setCell ⟨g, 0, none⟩ x0).setCell ⟨g, 1, none⟩ x1).setCell ⟨g, 2, none⟩ x2).setCell ⟨g, 3, none⟩ x3).setCell ⟨g, 4, none⟩ x4).setCell ⟨h, 0, none⟩ y0).setCell ⟨h, 1, none⟩ y1).drew) :=
  (((((((((Chg.refl _ w).set_ (.inl (.inl rfl)) 0 x0).set_ (.inl (.inl rfl)) 1 x1).set_ (.inl (.inl rfl)) 2 x2).set_ (.inl (.inl rfl)) 3 x3).set_ (.inl (.inl rfl)) 4 x4).set_ (.inl (.inr rfl)) 0 y0).set_ (.inl (.inr rfl)) 1 y1)).drew
set_option maxRecDepth 100000 in
set_option maxHeartbeats 400000 in
theorem sread_bad (num x : Int) (e p1 : Nat) (w : World) (q : Nat) (A : Option Addr) (c : Nat) (bs : List UInt8) (p : Nat) (hh : rHead bs p = (num, x, e, p1)) (he : e ≠ 0) (h : Rin 152 w q A c bs p) :
    Calls Try.prog 73 #[.pointer (some ⟨q, 0, none⟩)] w fun e' w' => e' = .returned (.tuple #[.agg #[.int .i64 0, .int .u8 0, .int .u64 0, .slice none 0 0, .int .i64 0], .agg #[.int .i64 (e : Int), .int .i64 (p : Int)]]) ∧ Rin 152 w' q A c bs p ∧ Only q w w' := by
  have hlt := h.blk.lt
  have hat := fun W hb => iat_any 0 W q A c bs p (h.below hb)
  have htg := fun W hb => itagm_any W q A c bs p (h.below hb)
  have hfn := fun g (hg : w.heap.size ≤ g) => far_new h.sl hg
  simp only [hh, he, if_false, flt, plc] at htg
  have heb : ((e : Int) != 0) = true := by simp; omega
  have HAT := hid hat
  have HTG := hid htg
  have HFN := hid hfn
  clear hat htg hfn h hh he
  go_enter Try.func73, Try.ntmps73
  go_wp2_with fail
  generalize hW : World.alloc _ _ = W
  have hbW : Below w.heap.size w W := by rw [← hW]; exact bw_a (bw_a (Below.refl _ w) _) _
  have hoW : Only q w W := .of_below hbW
  have hq2 : Blk W w.heap.size 56 #[.int .i64 0, .int .u8 0, .int .u64 0, .slice none 0 0, .int .i64 0] := by rw [← hW]; exact (Blk.new w _ _).alloc _
  have hq3 : Blk W (w.heap.size + 1) 32 #[.int .i64 0, .int .i64 0] := by
    rw [← hW]
    have := Blk.new (w.alloc (.cells #[.int .i64 0, .int .u8 0, .int .u64 0, .slice none 0 0, .int .i64 0] 56)) 32 #[.int .i64 0, .int .i64 0]
    simpa using this
  clear hW
  refine (HAT.out _ hbW).mono ?_
  rintro e1 w1 ⟨rfl, rfl⟩
  go_wp2_with fail
  refine (HTG.out _ hbW).mono ?_
  rintro e1 w1 ⟨rfl, hrin, ho⟩
  have hk2 := ho.blk hq2 (by omega)
  have hk3 := ho.blk hq3 (by omega)
  have hO := hoW.trans ho
  clear hq2 hq3 hoW ho
  go_wp2_with fail
  generalize hW3 : World.alloc _ _ = W3
  have hb3 : Below w1.heap.size w1 W3 := by rw [← hW3]; exact bw_a (Below.refl _ w1) _
  have hk7 : Blk W3 w1.heap.size 32 #[.int .i64 (e : Int), .int .i64 (p : Int)] := by rw [← hW3]; exact Blk.new w1 _ _
  have m2 := hk2.below hb3 hk2.lt
  have m3 := hk3.below hb3 hk3.lt
  have hn7 : w1.heap.size ≠ w.heap.size := by have := hk2.lt; omega
  have hn8 : w1.heap.size ≠ w.heap.size + 1 := by have := hk3.lt; omega
  have a0 : W3.cell? ⟨w.heap.size, 0, none⟩ = some (.int .i64 0) := m2.cell 0
  have a1 : W3.cell? ⟨w.heap.size, 1, none⟩ = some (.int .u8 0) := m2.cell 1
  have a2 : W3.cell? ⟨w.heap.size, 2, none⟩ = some (.int .u64 0) := m2.cell 2
  have a3 : W3.cell? ⟨w.heap.size, 3, none⟩ = some (.slice none 0 0) := m2.cell 3
  have a4 : W3.cell? ⟨w.heap.size, 4, none⟩ = some (.int .i64 0) := m2.cell 4
  have g0 := m2.frozen 0
  have g1 := m2.frozen 1
  have g2 := m2.frozen 2
  have g3 := m2.frozen 3
  have g4 := m2.frozen 4
  have b0 : W3.cell? ⟨w.heap.size + 1, 0, none⟩ = some (.int .i64 0) := m3.cell 0
  have b1 : W3.cell? ⟨w.heap.size + 1, 1, none⟩ = some (.int .i64 0) := m3.cell 1
  have i0 := m3.frozen 0
  have i1 := m3.frozen 1
  have e0 : W3.cell? ⟨w1.heap.size, 0, none⟩ = some (.int .i64 (e : Int)) := hk7.cell 0
  have e1 : W3.cell? ⟨w1.heap.size, 1, none⟩ = some (.int .i64 (p : Int)) := hk7.cell 1
  have hl2 := m2.lt
  have hl3 := m3.lt
  have hl7 := hk7.lt
  have HR3 := hid (hrin.below hb3)
  have HO3 := hid (hO.trans (.of_below hb3))
  clear hW3 hb3 hk7 m2 m3 hk2 hk3 hrin hO
  go_region
  all_goals go_wp2_with fail
  all_goals refine bodyPost_ret (v := .tuple #[.agg #[.int .i64 0, .int .u8 0, .int .u64 0, .slice none 0 0, .int .i64 0], .agg #[.int .i64 (e : Int), .int .i64 (p : Int)]]) (by simp [results, Try.results73, go_sem, a0, a1, a2, a3, a4, b0, b1]) rfl ⟨rfl, ?_, ?_⟩
  · exact HR3.out.chgS (chg52 W3 w.heap.size (w.heap.size + 1) _ _ _ _ _ _ _) (by omega) (fun hp b o he hS => hS.elim (fun h => HFN.out b (by omega) hp b o he rfl) (fun h => HFN.out b (by omega) hp b o he rfl))
  · exact HO3.out.chgS (chg52 W3 w.heap.size (w.heap.size + 1) _ _ _ _ _ _ _) (fun k hk => by omega)
theorem sval0 (w : World) (q : Nat) (A : Option Addr) (c : Nat) (bs : List UInt8) (p : Nat) (h : Rin 152 w q A c bs p) :
    Calls Try.prog 100 #[.pointer (some ⟨q, 0, none⟩)] w fun e w' => e = .returned (.tuple #[.int .u64 ((rVal 0 bs p).1 : Nat), .agg #[.int .i64 ((rVal 0 bs p).2.2.1 : Nat), .int .i64 (flt (rVal 0 bs p).2.2.1 p : Nat)]]) ∧ Rin 152 w' q A c bs (rVal 0 bs p).2.2.2 ∧ Only q w w' := by
  have h1 := inumm_any w q A c bs p h
  have hr : rVal 0 bs p = (if (M.get (bs.drop p)).2.2 = 0 then (M.get (bs.drop p)).1 else 0, [], (M.get (bs.drop p)).2.2, plc (M.get (bs.drop p)).2.2 p (p + (M.get (bs.drop p)).2.1)) := by unfold rVal; rw [if_pos rfl]
  rw [hr]
  exact h1
theorem sval1 (w : World) (q : Nat) (A : Option Addr) (c : Nat) (bs : List UInt8) (p : Nat) (h : Rin 152 w q A c bs p) :
    Calls Try.prog 101 #[.pointer (some ⟨q, 0, none⟩)] w fun e w' => e = .returned (.tuple #[.int .u64 ((rVal 1 bs p).1 : Nat), .agg #[.int .i64 ((rVal 1 bs p).2.2.1 : Nat), .int .i64 (flt (rVal 1 bs p).2.2.1 p : Nat)]]) ∧ Rin 152 w' q A c bs (rVal 1 bs p).2.2.2 ∧ Only q w w' := by
  have h1 := ieightm_any w q A c bs p h
  have hr : rVal 1 bs p = (if (rFix 8 bs p).2.1 = 0 then (rFix 8 bs p).1 else 0, [], (rFix 8 bs p).2.1, plc (rFix 8 bs p).2.1 p (rFix 8 bs p).2.2) := by unfold rVal; rw [if_neg (by omega), if_pos rfl]
  rw [hr]
  exact h1
theorem sval2 (w : World) (q : Nat) (A : Option Addr) (c : Nat) (bs : List UInt8) (p : Nat) (h : Rin 152 w q A c bs p) :
    Calls Try.prog 102 #[.pointer (some ⟨q, 0, none⟩), .int .i64 8192] w fun e w' => ∃ A' c', e = .returned (.tuple #[.slice A' (rVal 2 bs p).2.1.length c', .agg #[.int .i64 ((rVal 2 bs p).2.2.1 : Nat), .int .i64 (flt (rVal 2 bs p).2.2.1 p : Nat)]]) ∧ Sl w' A' c' ((rVal 2 bs p).2.1.map bv) ∧ (∀ q', Far A bs.length q' → Far A' (rVal 2 bs p).2.1.length q') ∧ Rin 152 w' q A c bs (rVal 2 bs p).2.2.2 ∧ Only q w w' := by
  have h1 := ibytesm_any 8192 w q A c bs p (by omega) (by omega) h
  have hr : rVal 2 bs p = (0, if (rCount 8192 bs p).2.1 = 0 then (rCount 8192 bs p).1 else [], (rCount 8192 bs p).2.1, plc (rCount 8192 bs p).2.1 p (rCount 8192 bs p).2.2) := by unfold rVal; rw [if_neg (by omega), if_neg (by omega), if_pos rfl]
  rw [hr]
  exact h1
theorem sval5 (w : World) (q : Nat) (A : Option Addr) (c : Nat) (bs : List UInt8) (p : Nat) (h : Rin 152 w q A c bs p) :
    Calls Try.prog 103 #[.pointer (some ⟨q, 0, none⟩)] w fun e w' => e = .returned (.tuple #[.int .u32 ((rVal 5 bs p).1 : Nat), .agg #[.int .i64 ((rVal 5 bs p).2.2.1 : Nat), .int .i64 (flt (rVal 5 bs p).2.2.1 p : Nat)]]) ∧ Rin 152 w' q A c bs (rVal 5 bs p).2.2.2 ∧ Only q w w' := by
  have h1 := ifourm_any w q A c bs p h
  have hr : rVal 5 bs p = (if (rFix 4 bs p).2.1 = 0 then (rFix 4 bs p).1 else 0, [], (rFix 4 bs p).2.1, plc (rFix 4 bs p).2.1 p (rFix 4 bs p).2.2) := by unfold rVal; rw [if_neg (by omega), if_neg (by omega), if_neg (by omega)]
  rw [hr]
  exact h1
set_option maxRecDepth 100000 in
set_option maxHeartbeats 1000000 in
theorem sread_0 (num : Int) (p1 : Nat) (v er fa nx : Nat) (w : World) (q : Nat) (A : Option Addr) (c : Nat) (bs : List UInt8) (p : Nat) (hh : rHead bs p = (num, 0, 0, p1)) (hv : rVal 0 bs p1 = (v, [], er, nx)) (hfa : flt er p1 = fa) (hvn : True) (h : Rin 152 w q A c bs p) :
    Calls Try.prog 73 #[.pointer (some ⟨q, 0, none⟩)] w fun e' w' => e' = .returned (.tuple #[.agg #[.int .i64 num, .int .u8 0, .int .u64 (v : Int), .slice none 0 0, .int .i64 (p : Int)], .agg #[.int .i64 (er : Int), .int .i64 (fa : Int)]]) ∧ Rin 152 w' q A c bs nx ∧ Only q w w' := by
  have hlt := h.blk.lt
  have hat := fun W hb => iat_any 0 W q A c bs p (h.below hb)
  have htg := fun W hb => itagm_any W q A c bs p (h.below hb)
  have hvl := fun W hr => sval0 W q A c bs p1 hr
  have hfn := fun g (hg : w.heap.size ≤ g) => far_new h.sl hg
  simp only [hh, if_true, flt, plc] at htg
  simp only [hv, hfa] at hvl
  have HAT := hid hat
  have HTG := hid htg
  have HVL := hid hvl
  have HFN := hid hfn
  clear hat htg hvl hfn h hh hv hfa
  go_enter Try.func73, Try.ntmps73
  go_wp2_with fail
  generalize hW : World.alloc _ _ = W
  have hbW : Below w.heap.size w W := by rw [← hW]; exact bw_a (bw_a (Below.refl _ w) _) _
  have hoW : Only q w W := .of_below hbW
  have hq2 : Blk W w.heap.size 56 #[.int .i64 0, .int .u8 0, .int .u64 0, .slice none 0 0, .int .i64 0] := by rw [← hW]; exact (Blk.new w _ _).alloc _
  have hq3 : Blk W (w.heap.size + 1) 32 #[.int .i64 0, .int .i64 0] := by
    rw [← hW]
    have := Blk.new (w.alloc (.cells #[.int .i64 0, .int .u8 0, .int .u64 0, .slice none 0 0, .int .i64 0] 56)) 32 #[.int .i64 0, .int .i64 0]
    simpa using this
  clear hW
  refine (HAT.out _ hbW).mono ?_
  rintro e1 w1 ⟨rfl, rfl⟩
  go_wp2_with fail
  refine (HTG.out _ hbW).mono ?_
  rintro e1 w1 ⟨rfl, hrin, ho⟩
  have hk2 := ho.blk hq2 (by omega)
  have hk3 := ho.blk hq3 (by omega)
  have hO := hoW.trans ho
  clear hq2 hq3 hoW ho
  go_wp2_with fail
  generalize hW3 : World.alloc _ _ = W3
  have hb3 : Below w1.heap.size w1 W3 := by rw [← hW3]; exact bw_a (bw_a (Below.refl _ w1) _) _
  have hk7 : Blk W3 w1.heap.size 32 #[.int .i64 0, .int .i64 0] := by rw [← hW3]; exact (Blk.new w1 _ _).alloc _
  have hk8 : Blk W3 (w1.heap.size + 1) 56 #[.int .i64 num, .int .u8 0, .int .u64 0, .slice none 0 0, .int .i64 (p : Int)] := by
    rw [← hW3]
    have := Blk.new (w1.alloc (.cells #[.int .i64 0, .int .i64 0] 32)) 56 #[.int .i64 num, .int .u8 0, .int .u64 0, .slice none 0 0, .int .i64 (p : Int)]
    simpa using this
  have hl2 := hk2.lt
  have hl3 := hk3.lt
  have hkk2 := hk2.below hb3 hk2.lt
  have hkk3 := hk3.below hb3 hk3.lt
  have hO3 := hO.trans (.of_below hb3)
  refine (HVL.out _ (hrin.below hb3)).mono ?_
  rintro e5 w5 ⟨rfl, hr5, ho5⟩
  have m2 := ho5.blk hkk2 (by omega)
  have m3 := ho5.blk hkk3 (by omega)
  have m7 := ho5.blk hk7 (by omega)
  have m8 := ho5.blk hk8 (by omega)
  have hO5 := hO3.trans ho5
  clear hW3 hb3 hk7 hk8 hkk2 hkk3 hO3 ho5 hk2 hk3 hO hrin HVL HTG HAT
  have s70 : w5.cell? ⟨w1.heap.size, 0, none⟩ = some (.int .i64 0) := m7.cell 0
  have s71 : w5.cell? ⟨w1.heap.size, 1, none⟩ = some (.int .i64 0) := m7.cell 1
  have s82 : w5.cell? ⟨w1.heap.size + 1, 2, none⟩ = some (.int .u64 0) := m8.cell 2
  have s83 : w5.cell? ⟨w1.heap.size + 1, 3, none⟩ = some (.slice none 0 0) := m8.cell 3
  have y70 := m7.frozen 0
  have y71 := m7.frozen 1
  have y82 := m8.frozen 2
  have y83 := m8.frozen 3
  have hl7 := m7.lt
  have hl8 := m8.lt
  have HR5 := hid hr5
  have HO5 := hid hO5
  have M2 := hid m2
  have M3 := hid m3
  have M7 := hid m7
  have M8 := hid m8
  clear hr5 hO5 m2 m3 m7 m8 
  go_wp2_with fail
  have n8 : Blk (((w5.setCell ⟨w1.heap.size + 1, 2, none⟩ (.int .u64 (v : Int))).setCell ⟨w1.heap.size, 0, none⟩ (.int .i64 (er : Int))).setCell ⟨w1.heap.size, 1, none⟩ (.int .i64 (fa : Int))) (w1.heap.size + 1) 56 #[.int .i64 num, .int .u8 0, .int .u64 (v : Int), .slice none 0 0, .int .i64 (p : Int)] := by
    have := ((M8.out.set_ 2 (.int .u64 (v : Int))).far (p := ⟨w1.heap.size, 0, none⟩) (by simp) (.int .i64 (er : Int))).far (p := ⟨w1.heap.size, 1, none⟩) (by simp) (.int .i64 (fa : Int))
    simpa using this
  have n7 : Blk (((w5.setCell ⟨w1.heap.size + 1, 2, none⟩ (.int .u64 (v : Int))).setCell ⟨w1.heap.size, 0, none⟩ (.int .i64 (er : Int))).setCell ⟨w1.heap.size, 1, none⟩ (.int .i64 (fa : Int))) w1.heap.size 32 #[.int .i64 (er : Int), .int .i64 (fa : Int)] := by
    have := ((M7.out.far (p := ⟨w1.heap.size + 1, 2, none⟩) (by simp) (.int .u64 (v : Int))).set_ 0 (.int .i64 (er : Int))).set_ 1 (.int .i64 (fa : Int))
    simpa using this
  have hc6 : Chg (fun k => k = w1.heap.size ∨ k = w1.heap.size + 1) w5 (((w5.setCell ⟨w1.heap.size + 1, 2, none⟩ (.int .u64 (v : Int))).setCell ⟨w1.heap.size, 0, none⟩ (.int .i64 (er : Int))).setCell ⟨w1.heap.size, 1, none⟩ (.int .i64 (fa : Int))) := ((((Chg.refl _ w5).set_ (.inl (.inr rfl)) 2 (.int .u64 (v : Int))).set_ (.inl (.inl rfl)) 0 (.int .i64 (er : Int))).set_ (.inl (.inl rfl)) 1 (.int .i64 (fa : Int)))
  generalize ((w5.setCell ⟨w1.heap.size + 1, 2, none⟩ (.int .u64 (v : Int))).setCell ⟨w1.heap.size, 0, none⟩ (.int .i64 (er : Int))).setCell ⟨w1.heap.size, 1, none⟩ (.int .i64 (fa : Int)) = W6 at *
  have n2 := hc6.blk M2.out (by omega)
  have n3 := hc6.blk M3.out (by omega)
  have a0 : W6.cell? ⟨w.heap.size, 0, none⟩ = some (.int .i64 0) := n2.cell 0
  have a1 : W6.cell? ⟨w.heap.size, 1, none⟩ = some (.int .u8 0) := n2.cell 1
  have a2 : W6.cell? ⟨w.heap.size, 2, none⟩ = some (.int .u64 0) := n2.cell 2
  have a3 : W6.cell? ⟨w.heap.size, 3, none⟩ = some (.slice none 0 0) := n2.cell 3
  have a4 : W6.cell? ⟨w.heap.size, 4, none⟩ = some (.int .i64 0) := n2.cell 4
  have g0 := n2.frozen 0
  have g1 := n2.frozen 1
  have g2 := n2.frozen 2
  have g3 := n2.frozen 3
  have g4 := n2.frozen 4
  have b0 : W6.cell? ⟨w.heap.size + 1, 0, none⟩ = some (.int .i64 0) := n3.cell 0
  have b1 : W6.cell? ⟨w.heap.size + 1, 1, none⟩ = some (.int .i64 0) := n3.cell 1
  have i0 := n3.frozen 0
  have i1 := n3.frozen 1
  have e0 : W6.cell? ⟨w1.heap.size, 0, none⟩ = some (.int .i64 (er : Int)) := n7.cell 0
  have e1 : W6.cell? ⟨w1.heap.size, 1, none⟩ = some (.int .i64 (fa : Int)) := n7.cell 1
  have f0 : W6.cell? ⟨w1.heap.size + 1, 0, none⟩ = some (.int .i64 num) := n8.cell 0
  have f1 : W6.cell? ⟨w1.heap.size + 1, 1, none⟩ = some (.int .u8 0) := n8.cell 1
  have f2 : W6.cell? ⟨w1.heap.size + 1, 2, none⟩ = some (.int .u64 (v : Int)) := n8.cell 2
  have f3 : W6.cell? ⟨w1.heap.size + 1, 3, none⟩ = some (.slice none 0 0) := n8.cell 3
  have f4 : W6.cell? ⟨w1.heap.size + 1, 4, none⟩ = some (.int .i64 (p : Int)) := n8.cell 4
  have hn7 : w1.heap.size ≠ w.heap.size := by omega
  have hn8 : w1.heap.size ≠ w.heap.size + 1 := by omega
  have hn9 : w1.heap.size + 1 ≠ w.heap.size := by omega
  have hn10 : w1.heap.size + 1 ≠ w.heap.size + 1 := by omega
  have hla := n2.lt
  have hlb := n3.lt
  have hlc := n7.lt
  have hld := n8.lt
  have HC6 := hid hc6
  clear n2 n3 n7 n8 hc6 M2 M3 M7 M8 s70 s71 s82 s83 y70 y71 y82 y83
  go_region
  all_goals go_wp2_with fail
  refine bodyPost_ret (v := .tuple #[.agg #[.int .i64 num, .int .u8 0, .int .u64 (v : Int), .slice none 0 0, .int .i64 (p : Int)], .agg #[.int .i64 (er : Int), .int .i64 (fa : Int)]]) (by simp [results, Try.results73, go_sem, a0, a1, a2, a3, a4, b0, b1]) rfl ⟨rfl, ?_, ?_⟩
  · exact (HR5.out.chgS HC6.out (by omega) (fun hp b o he hS => hS.elim (fun h => HFN.out b (by omega) hp b o he rfl) (fun h => HFN.out b (by omega) hp b o he rfl))).chgS (chg52 W6 w.heap.size (w.heap.size + 1) _ _ _ _ _ _ _) (by omega) (fun hp b o he hS => hS.elim (fun h => HFN.out b (by omega) hp b o he rfl) (fun h => HFN.out b (by omega) hp b o he rfl))
  · exact (HO5.out.chgS HC6.out (fun k hk => by omega)).chgS (chg52 W6 w.heap.size (w.heap.size + 1) _ _ _ _ _ _ _) (fun k hk => by omega)
set_option maxRecDepth 100000 in
set_option maxHeartbeats 1000000 in
theorem sread_1 (num : Int) (p1 : Nat) (v er fa nx : Nat) (w : World) (q : Nat) (A : Option Addr) (c : Nat) (bs : List UInt8) (p : Nat) (hh : rHead bs p = (num, 1, 0, p1)) (hv : rVal 1 bs p1 = (v, [], er, nx)) (hfa : flt er p1 = fa) (hvn : True) (h : Rin 152 w q A c bs p) :
    Calls Try.prog 73 #[.pointer (some ⟨q, 0, none⟩)] w fun e' w' => e' = .returned (.tuple #[.agg #[.int .i64 num, .int .u8 1, .int .u64 (v : Int), .slice none 0 0, .int .i64 (p : Int)], .agg #[.int .i64 (er : Int), .int .i64 (fa : Int)]]) ∧ Rin 152 w' q A c bs nx ∧ Only q w w' := by
  have hlt := h.blk.lt
  have hat := fun W hb => iat_any 0 W q A c bs p (h.below hb)
  have htg := fun W hb => itagm_any W q A c bs p (h.below hb)
  have hvl := fun W hr => sval1 W q A c bs p1 hr
  have hfn := fun g (hg : w.heap.size ≤ g) => far_new h.sl hg
  simp only [hh, if_true, flt, plc] at htg
  simp only [hv, hfa] at hvl
  have HAT := hid hat
  have HTG := hid htg
  have HVL := hid hvl
  have HFN := hid hfn
  clear hat htg hvl hfn h hh hv hfa
  go_enter Try.func73, Try.ntmps73
  go_wp2_with fail
  generalize hW : World.alloc _ _ = W
  have hbW : Below w.heap.size w W := by rw [← hW]; exact bw_a (bw_a (Below.refl _ w) _) _
  have hoW : Only q w W := .of_below hbW
  have hq2 : Blk W w.heap.size 56 #[.int .i64 0, .int .u8 0, .int .u64 0, .slice none 0 0, .int .i64 0] := by rw [← hW]; exact (Blk.new w _ _).alloc _
  have hq3 : Blk W (w.heap.size + 1) 32 #[.int .i64 0, .int .i64 0] := by
    rw [← hW]
    have := Blk.new (w.alloc (.cells #[.int .i64 0, .int .u8 0, .int .u64 0, .slice none 0 0, .int .i64 0] 56)) 32 #[.int .i64 0, .int .i64 0]
    simpa using this
  clear hW
  refine (HAT.out _ hbW).mono ?_
  rintro e1 w1 ⟨rfl, rfl⟩
  go_wp2_with fail
  refine (HTG.out _ hbW).mono ?_
  rintro e1 w1 ⟨rfl, hrin, ho⟩
  have hk2 := ho.blk hq2 (by omega)
  have hk3 := ho.blk hq3 (by omega)
  have hO := hoW.trans ho
  clear hq2 hq3 hoW ho
  go_wp2_with fail
  generalize hW3 : World.alloc _ _ = W3
  have hb3 : Below w1.heap.size w1 W3 := by rw [← hW3]; exact bw_a (bw_a (Below.refl _ w1) _) _
  have hk7 : Blk W3 w1.heap.size 32 #[.int .i64 0, .int .i64 0] := by rw [← hW3]; exact (Blk.new w1 _ _).alloc _
  have hk8 : Blk W3 (w1.heap.size + 1) 56 #[.int .i64 num, .int .u8 1, .int .u64 0, .slice none 0 0, .int .i64 (p : Int)] := by
    rw [← hW3]
    have := Blk.new (w1.alloc (.cells #[.int .i64 0, .int .i64 0] 32)) 56 #[.int .i64 num, .int .u8 1, .int .u64 0, .slice none 0 0, .int .i64 (p : Int)]
    simpa using this
  have hl2 := hk2.lt
  have hl3 := hk3.lt
  have hkk2 := hk2.below hb3 hk2.lt
  have hkk3 := hk3.below hb3 hk3.lt
  have hO3 := hO.trans (.of_below hb3)
  refine (HVL.out _ (hrin.below hb3)).mono ?_
  rintro e5 w5 ⟨rfl, hr5, ho5⟩
  have m2 := ho5.blk hkk2 (by omega)
  have m3 := ho5.blk hkk3 (by omega)
  have m7 := ho5.blk hk7 (by omega)
  have m8 := ho5.blk hk8 (by omega)
  have hO5 := hO3.trans ho5
  clear hW3 hb3 hk7 hk8 hkk2 hkk3 hO3 ho5 hk2 hk3 hO hrin HVL HTG HAT
  have s70 : w5.cell? ⟨w1.heap.size, 0, none⟩ = some (.int .i64 0) := m7.cell 0
  have s71 : w5.cell? ⟨w1.heap.size, 1, none⟩ = some (.int .i64 0) := m7.cell 1
  have s82 : w5.cell? ⟨w1.heap.size + 1, 2, none⟩ = some (.int .u64 0) := m8.cell 2
  have s83 : w5.cell? ⟨w1.heap.size + 1, 3, none⟩ = some (.slice none 0 0) := m8.cell 3
  have y70 := m7.frozen 0
  have y71 := m7.frozen 1
  have y82 := m8.frozen 2
  have y83 := m8.frozen 3
  have hl7 := m7.lt
  have hl8 := m8.lt
  have HR5 := hid hr5
  have HO5 := hid hO5
  have M2 := hid m2
  have M3 := hid m3
  have M7 := hid m7
  have M8 := hid m8
  clear hr5 hO5 m2 m3 m7 m8 
  go_wp2_with fail
  have n8 : Blk (((w5.setCell ⟨w1.heap.size + 1, 2, none⟩ (.int .u64 (v : Int))).setCell ⟨w1.heap.size, 0, none⟩ (.int .i64 (er : Int))).setCell ⟨w1.heap.size, 1, none⟩ (.int .i64 (fa : Int))) (w1.heap.size + 1) 56 #[.int .i64 num, .int .u8 1, .int .u64 (v : Int), .slice none 0 0, .int .i64 (p : Int)] := by
    have := ((M8.out.set_ 2 (.int .u64 (v : Int))).far (p := ⟨w1.heap.size, 0, none⟩) (by simp) (.int .i64 (er : Int))).far (p := ⟨w1.heap.size, 1, none⟩) (by simp) (.int .i64 (fa : Int))
    simpa using this
  have n7 : Blk (((w5.setCell ⟨w1.heap.size + 1, 2, none⟩ (.int .u64 (v : Int))).setCell ⟨w1.heap.size, 0, none⟩ (.int .i64 (er : Int))).setCell ⟨w1.heap.size, 1, none⟩ (.int .i64 (fa : Int))) w1.heap.size 32 #[.int .i64 (er : Int), .int .i64 (fa : Int)] := by
    have := ((M7.out.far (p := ⟨w1.heap.size + 1, 2, none⟩) (by simp) (.int .u64 (v : Int))).set_ 0 (.int .i64 (er : Int))).set_ 1 (.int .i64 (fa : Int))
    simpa using this
  have hc6 : Chg (fun k => k = w1.heap.size ∨ k = w1.heap.size + 1) w5 (((w5.setCell ⟨w1.heap.size + 1, 2, none⟩ (.int .u64 (v : Int))).setCell ⟨w1.heap.size, 0, none⟩ (.int .i64 (er : Int))).setCell ⟨w1.heap.size, 1, none⟩ (.int .i64 (fa : Int))) := ((((Chg.refl _ w5).set_ (.inl (.inr rfl)) 2 (.int .u64 (v : Int))).set_ (.inl (.inl rfl)) 0 (.int .i64 (er : Int))).set_ (.inl (.inl rfl)) 1 (.int .i64 (fa : Int)))
  generalize ((w5.setCell ⟨w1.heap.size + 1, 2, none⟩ (.int .u64 (v : Int))).setCell ⟨w1.heap.size, 0, none⟩ (.int .i64 (er : Int))).setCell ⟨w1.heap.size, 1, none⟩ (.int .i64 (fa : Int)) = W6 at *
  have n2 := hc6.blk M2.out (by omega)
  have n3 := hc6.blk M3.out (by omega)
  have a0 : W6.cell? ⟨w.heap.size, 0, none⟩ = some (.int .i64 0) := n2.cell 0
  have a1 : W6.cell? ⟨w.heap.size, 1, none⟩ = some (.int .u8 0) := n2.cell 1
  have a2 : W6.cell? ⟨w.heap.size, 2, none⟩ = some (.int .u64 0) := n2.cell 2
  have a3 : W6.cell? ⟨w.heap.size, 3, none⟩ = some (.slice none 0 0) := n2.cell 3
  have a4 : W6.cell? ⟨w.heap.size, 4, none⟩ = some (.int .i64 0) := n2.cell 4
  have g0 := n2.frozen 0
  have g1 := n2.frozen 1
  have g2 := n2.frozen 2
  have g3 := n2.frozen 3
  have g4 := n2.frozen 4
  have b0 : W6.cell? ⟨w.heap.size + 1, 0, none⟩ = some (.int .i64 0) := n3.cell 0
  have b1 : W6.cell? ⟨w.heap.size + 1, 1, none⟩ = some (.int .i64 0) := n3.cell 1
  have i0 := n3.frozen 0
  have i1 := n3.frozen 1
  have e0 : W6.cell? ⟨w1.heap.size, 0, none⟩ = some (.int .i64 (er : Int)) := n7.cell 0
  have e1 : W6.cell? ⟨w1.heap.size, 1, none⟩ = some (.int .i64 (fa : Int)) := n7.cell 1
  have f0 : W6.cell? ⟨w1.heap.size + 1, 0, none⟩ = some (.int .i64 num) := n8.cell 0
  have f1 : W6.cell? ⟨w1.heap.size + 1, 1, none⟩ = some (.int .u8 1) := n8.cell 1
  have f2 : W6.cell? ⟨w1.heap.size + 1, 2, none⟩ = some (.int .u64 (v : Int)) := n8.cell 2
  have f3 : W6.cell? ⟨w1.heap.size + 1, 3, none⟩ = some (.slice none 0 0) := n8.cell 3
  have f4 : W6.cell? ⟨w1.heap.size + 1, 4, none⟩ = some (.int .i64 (p : Int)) := n8.cell 4
  have hn7 : w1.heap.size ≠ w.heap.size := by omega
  have hn8 : w1.heap.size ≠ w.heap.size + 1 := by omega
  have hn9 : w1.heap.size + 1 ≠ w.heap.size := by omega
  have hn10 : w1.heap.size + 1 ≠ w.heap.size + 1 := by omega
  have hla := n2.lt
  have hlb := n3.lt
  have hlc := n7.lt
  have hld := n8.lt
  have HC6 := hid hc6
  clear n2 n3 n7 n8 hc6 M2 M3 M7 M8 s70 s71 s82 s83 y70 y71 y82 y83
  go_region
  all_goals go_wp2_with fail
  refine bodyPost_ret (v := .tuple #[.agg #[.int .i64 num, .int .u8 1, .int .u64 (v : Int), .slice none 0 0, .int .i64 (p : Int)], .agg #[.int .i64 (er : Int), .int .i64 (fa : Int)]]) (by simp [results, Try.results73, go_sem, a0, a1, a2, a3, a4, b0, b1]) rfl ⟨rfl, ?_, ?_⟩
  · exact (HR5.out.chgS HC6.out (by omega) (fun hp b o he hS => hS.elim (fun h => HFN.out b (by omega) hp b o he rfl) (fun h => HFN.out b (by omega) hp b o he rfl))).chgS (chg52 W6 w.heap.size (w.heap.size + 1) _ _ _ _ _ _ _) (by omega) (fun hp b o he hS => hS.elim (fun h => HFN.out b (by omega) hp b o he rfl) (fun h => HFN.out b (by omega) hp b o he rfl))
  · exact (HO5.out.chgS HC6.out (fun k hk => by omega)).chgS (chg52 W6 w.heap.size (w.heap.size + 1) _ _ _ _ _ _ _) (fun k hk => by omega)
set_option maxRecDepth 100000 in
set_option maxHeartbeats 1000000 in
theorem sread_2 (num : Int) (p1 : Nat) (er fa nx : Nat) (xs : List UInt8) (xl : Nat) (w : World) (q : Nat) (A : Option Addr) (c : Nat) (bs : List UInt8) (p : Nat) (hh : rHead bs p = (num, 2, 0, p1)) (hv : rVal 2 bs p1 = (0, xs, er, nx)) (hxl : xs.length = xl) (hfa : flt er p1 = fa) (hvn : True) (h : Rin 152 w q A c bs p) :
    Calls Try.prog 73 #[.pointer (some ⟨q, 0, none⟩)] w fun e' w' => ∃ A' c', e' = .returned (.tuple #[.agg #[.int .i64 num, .int .u8 2, .int .u64 0, .slice A' xl c', .int .i64 (p : Int)], .agg #[.int .i64 (er : Int), .int .i64 (fa : Int)]]) ∧ Sl w' A' c' (xs.map bv) ∧ (∀ q', Far A bs.length q' → Far A' xl q') ∧ Rin 152 w' q A c bs nx ∧ Only q w w' := by
  have hlt := h.blk.lt
  have hat := fun W hb => iat_any 0 W q A c bs p (h.below hb)
  have htg := fun W hb => itagm_any W q A c bs p (h.below hb)
  have hvl := fun W hr => sval2 W q A c bs p1 hr
  have hfn := fun g (hg : w.heap.size ≤ g) => far_new h.sl hg
  simp only [hh, if_true, flt, plc] at htg
  simp only [hv, hfa] at hvl
  simp only [hxl] at hvl
  have HXL := hid hxl
  have HAT := hid hat
  have HTG := hid htg
  have HVL := hid hvl
  have HFN := hid hfn
  clear hat htg hvl hfn h hh hv hfa hxl
  go_enter Try.func73, Try.ntmps73
  go_wp2_with fail
  generalize hW : World.alloc _ _ = W
  have hbW : Below w.heap.size w W := by rw [← hW]; exact bw_a (bw_a (Below.refl _ w) _) _
  have hoW : Only q w W := .of_below hbW
  have hq2 : Blk W w.heap.size 56 #[.int .i64 0, .int .u8 0, .int .u64 0, .slice none 0 0, .int .i64 0] := by rw [← hW]; exact (Blk.new w _ _).alloc _
  have hq3 : Blk W (w.heap.size + 1) 32 #[.int .i64 0, .int .i64 0] := by
    rw [← hW]
    have := Blk.new (w.alloc (.cells #[.int .i64 0, .int .u8 0, .int .u64 0, .slice none 0 0, .int .i64 0] 56)) 32 #[.int .i64 0, .int .i64 0]
    simpa using this
  clear hW
  refine (HAT.out _ hbW).mono ?_
  rintro e1 w1 ⟨rfl, rfl⟩
  go_wp2_with fail
  refine (HTG.out _ hbW).mono ?_
  rintro e1 w1 ⟨rfl, hrin, ho⟩
  have hk2 := ho.blk hq2 (by omega)
  have hk3 := ho.blk hq3 (by omega)
  have hO := hoW.trans ho
  clear hq2 hq3 hoW ho
  go_wp2_with fail
  generalize hW3 : World.alloc _ _ = W3
  have hb3 : Below w1.heap.size w1 W3 := by rw [← hW3]; exact bw_a (bw_a (Below.refl _ w1) _) _
  have hk7 : Blk W3 w1.heap.size 32 #[.int .i64 0, .int .i64 0] := by rw [← hW3]; exact (Blk.new w1 _ _).alloc _
  have hk8 : Blk W3 (w1.heap.size + 1) 56 #[.int .i64 num, .int .u8 2, .int .u64 0, .slice none 0 0, .int .i64 (p : Int)] := by
    rw [← hW3]
    have := Blk.new (w1.alloc (.cells #[.int .i64 0, .int .i64 0] 32)) 56 #[.int .i64 num, .int .u8 2, .int .u64 0, .slice none 0 0, .int .i64 (p : Int)]
    simpa using this
  have hl2 := hk2.lt
  have hl3 := hk3.lt
  have hkk2 := hk2.below hb3 hk2.lt
  have hkk3 := hk3.below hb3 hk3.lt
  have hO3 := hO.trans (.of_below hb3)
  refine (HVL.out _ (hrin.below hb3)).mono ?_
  rintro e5 w5 ⟨A9, c9, rfl, hs9, hf9, hr5, ho5⟩
  have m2 := ho5.blk hkk2 (by omega)
  have m3 := ho5.blk hkk3 (by omega)
  have m7 := ho5.blk hk7 (by omega)
  have m8 := ho5.blk hk8 (by omega)
  have hO5 := hO3.trans ho5
  clear hW3 hb3 hk7 hk8 hkk2 hkk3 hO3 ho5 hk2 hk3 hO hrin HVL HTG HAT
  have s70 : w5.cell? ⟨w1.heap.size, 0, none⟩ = some (.int .i64 0) := m7.cell 0
  have s71 : w5.cell? ⟨w1.heap.size, 1, none⟩ = some (.int .i64 0) := m7.cell 1
  have s82 : w5.cell? ⟨w1.heap.size + 1, 2, none⟩ = some (.int .u64 0) := m8.cell 2
  have s83 : w5.cell? ⟨w1.heap.size + 1, 3, none⟩ = some (.slice none 0 0) := m8.cell 3
  have y70 := m7.frozen 0
  have y71 := m7.frozen 1
  have y82 := m8.frozen 2
  have y83 := m8.frozen 3
  have hl7 := m7.lt
  have hl8 := m8.lt
  have HR5 := hid hr5
  have HS9 := hid hs9
  have HF9 := hid hf9
  have HO5 := hid hO5
  have M2 := hid m2
  have M3 := hid m3
  have M7 := hid m7
  have M8 := hid m8
  clear hr5 hO5 m2 m3 m7 m8 hs9 hf9 
  go_wp2_with fail
  have n8 : Blk (((w5.setCell ⟨w1.heap.size + 1, 3, none⟩ (.slice A9 xl c9)).setCell ⟨w1.heap.size, 0, none⟩ (.int .i64 (er : Int))).setCell ⟨w1.heap.size, 1, none⟩ (.int .i64 (fa : Int))) (w1.heap.size + 1) 56 #[.int .i64 num, .int .u8 2, .int .u64 0, .slice A9 xl c9, .int .i64 (p : Int)] := by
    have := ((M8.out.set_ 3 (.slice A9 xl c9)).far (p := ⟨w1.heap.size, 0, none⟩) (by simp) (.int .i64 (er : Int))).far (p := ⟨w1.heap.size, 1, none⟩) (by simp) (.int .i64 (fa : Int))
    simpa using this
  have n7 : Blk (((w5.setCell ⟨w1.heap.size + 1, 3, none⟩ (.slice A9 xl c9)).setCell ⟨w1.heap.size, 0, none⟩ (.int .i64 (er : Int))).setCell ⟨w1.heap.size, 1, none⟩ (.int .i64 (fa : Int))) w1.heap.size 32 #[.int .i64 (er : Int), .int .i64 (fa : Int)] := by
    have := ((M7.out.far (p := ⟨w1.heap.size + 1, 3, none⟩) (by simp) (.slice A9 xl c9)).set_ 0 (.int .i64 (er : Int))).set_ 1 (.int .i64 (fa : Int))
    simpa using this
  have hc6 : Chg (fun k => k = w1.heap.size ∨ k = w1.heap.size + 1) w5 (((w5.setCell ⟨w1.heap.size + 1, 3, none⟩ (.slice A9 xl c9)).setCell ⟨w1.heap.size, 0, none⟩ (.int .i64 (er : Int))).setCell ⟨w1.heap.size, 1, none⟩ (.int .i64 (fa : Int))) := ((((Chg.refl _ w5).set_ (.inl (.inr rfl)) 3 (.slice A9 xl c9)).set_ (.inl (.inl rfl)) 0 (.int .i64 (er : Int))).set_ (.inl (.inl rfl)) 1 (.int .i64 (fa : Int)))
  generalize ((w5.setCell ⟨w1.heap.size + 1, 3, none⟩ (.slice A9 xl c9)).setCell ⟨w1.heap.size, 0, none⟩ (.int .i64 (er : Int))).setCell ⟨w1.heap.size, 1, none⟩ (.int .i64 (fa : Int)) = W6 at *
  have n2 := hc6.blk M2.out (by omega)
  have n3 := hc6.blk M3.out (by omega)
  have a0 : W6.cell? ⟨w.heap.size, 0, none⟩ = some (.int .i64 0) := n2.cell 0
  have a1 : W6.cell? ⟨w.heap.size, 1, none⟩ = some (.int .u8 0) := n2.cell 1
  have a2 : W6.cell? ⟨w.heap.size, 2, none⟩ = some (.int .u64 0) := n2.cell 2
  have a3 : W6.cell? ⟨w.heap.size, 3, none⟩ = some (.slice none 0 0) := n2.cell 3
  have a4 : W6.cell? ⟨w.heap.size, 4, none⟩ = some (.int .i64 0) := n2.cell 4
  have g0 := n2.frozen 0
  have g1 := n2.frozen 1
  have g2 := n2.frozen 2
  have g3 := n2.frozen 3
  have g4 := n2.frozen 4
  have b0 : W6.cell? ⟨w.heap.size + 1, 0, none⟩ = some (.int .i64 0) := n3.cell 0
  have b1 : W6.cell? ⟨w.heap.size + 1, 1, none⟩ = some (.int .i64 0) := n3.cell 1
  have i0 := n3.frozen 0
  have i1 := n3.frozen 1
  have e0 : W6.cell? ⟨w1.heap.size, 0, none⟩ = some (.int .i64 (er : Int)) := n7.cell 0
  have e1 : W6.cell? ⟨w1.heap.size, 1, none⟩ = some (.int .i64 (fa : Int)) := n7.cell 1
  have f0 : W6.cell? ⟨w1.heap.size + 1, 0, none⟩ = some (.int .i64 num) := n8.cell 0
  have f1 : W6.cell? ⟨w1.heap.size + 1, 1, none⟩ = some (.int .u8 2) := n8.cell 1
  have f2 : W6.cell? ⟨w1.heap.size + 1, 2, none⟩ = some (.int .u64 0) := n8.cell 2
  have f3 : W6.cell? ⟨w1.heap.size + 1, 3, none⟩ = some (.slice A9 xl c9) := n8.cell 3
  have f4 : W6.cell? ⟨w1.heap.size + 1, 4, none⟩ = some (.int .i64 (p : Int)) := n8.cell 4
  have hn7 : w1.heap.size ≠ w.heap.size := by omega
  have hn8 : w1.heap.size ≠ w.heap.size + 1 := by omega
  have hn9 : w1.heap.size + 1 ≠ w.heap.size := by omega
  have hn10 : w1.heap.size + 1 ≠ w.heap.size + 1 := by omega
  have hla := n2.lt
  have hlb := n3.lt
  have hlc := n7.lt
  have hld := n8.lt
  have HC6 := hid hc6
  clear n2 n3 n7 n8 hc6 M2 M3 M7 M8 s70 s71 s82 s83 y70 y71 y82 y83
  go_region
  all_goals go_wp2_with fail
  refine bodyPost_ret (v := .tuple #[.agg #[.int .i64 num, .int .u8 2, .int .u64 0, .slice A9 xl c9, .int .i64 (p : Int)], .agg #[.int .i64 (er : Int), .int .i64 (fa : Int)]]) (by simp [results, Try.results73, go_sem, a0, a1, a2, a3, a4, b0, b1]) rfl ⟨A9, c9, rfl, (HC6.out.sl HS9.out (n := xl) (fun hp b o he hS => hS.elim (fun h => HF9.out b (HFN.out b (by omega)) hp b o he rfl) (fun h => HF9.out b (HFN.out b (by omega)) hp b o he rfl)) (by rw [List.length_map]; exact HXL.out) |> fun h => (chg52 W6 w.heap.size (w.heap.size + 1) _ _ _ _ _ _ _).sl h (n := xl) (fun hp b o he hS => hS.elim (fun h => HF9.out b (HFN.out b (by omega)) hp b o he rfl) (fun h => HF9.out b (HFN.out b (by omega)) hp b o he rfl)) (by rw [List.length_map]; exact HXL.out)), HF9.out, ?_, ?_⟩
  · exact (HR5.out.chgS HC6.out (by omega) (fun hp b o he hS => hS.elim (fun h => HFN.out b (by omega) hp b o he rfl) (fun h => HFN.out b (by omega) hp b o he rfl))).chgS (chg52 W6 w.heap.size (w.heap.size + 1) _ _ _ _ _ _ _) (by omega) (fun hp b o he hS => hS.elim (fun h => HFN.out b (by omega) hp b o he rfl) (fun h => HFN.out b (by omega) hp b o he rfl))
  · exact (HO5.out.chgS HC6.out (fun k hk => by omega)).chgS (chg52 W6 w.heap.size (w.heap.size + 1) _ _ _ _ _ _ _) (fun k hk => by omega)
set_option maxRecDepth 100000 in
set_option maxHeartbeats 1000000 in
theorem sread_5 (num : Int) (p1 : Nat) (v er fa nx : Nat) (w : World) (q : Nat) (A : Option Addr) (c : Nat) (bs : List UInt8) (p : Nat) (hh : rHead bs p = (num, 5, 0, p1)) (hv : rVal 5 bs p1 = (v, [], er, nx)) (hfa : flt er p1 = fa) (hvn : v ≤ 4294967295) (h : Rin 152 w q A c bs p) :
    Calls Try.prog 73 #[.pointer (some ⟨q, 0, none⟩)] w fun e' w' => e' = .returned (.tuple #[.agg #[.int .i64 num, .int .u8 5, .int .u64 (v : Int), .slice none 0 0, .int .i64 (p : Int)], .agg #[.int .i64 (er : Int), .int .i64 (fa : Int)]]) ∧ Rin 152 w' q A c bs nx ∧ Only q w w' := by
  have hlt := h.blk.lt
  have hat := fun W hb => iat_any 0 W q A c bs p (h.below hb)
  have htg := fun W hb => itagm_any W q A c bs p (h.below hb)
  have hvl := fun W hr => sval5 W q A c bs p1 hr
  have hfn := fun g (hg : w.heap.size ≤ g) => far_new h.sl hg
  simp only [hh, if_true, flt, plc] at htg
  simp only [hv, hfa] at hvl
  have hw9 : IntKind.u64.wrap (v : Int) = (v : Int) := IntWalk.u64_in _ (by omega)
  have HAT := hid hat
  have HTG := hid htg
  have HVL := hid hvl
  have HFN := hid hfn
  clear hat htg hvl hfn h hh hv hfa
  go_enter Try.func73, Try.ntmps73
  go_wp2_with fail
  generalize hW : World.alloc _ _ = W
  have hbW : Below w.heap.size w W := by rw [← hW]; exact bw_a (bw_a (Below.refl _ w) _) _
  have hoW : Only q w W := .of_below hbW
  have hq2 : Blk W w.heap.size 56 #[.int .i64 0, .int .u8 0, .int .u64 0, .slice none 0 0, .int .i64 0] := by rw [← hW]; exact (Blk.new w _ _).alloc _
  have hq3 : Blk W (w.heap.size + 1) 32 #[.int .i64 0, .int .i64 0] := by
    rw [← hW]
    have := Blk.new (w.alloc (.cells #[.int .i64 0, .int .u8 0, .int .u64 0, .slice none 0 0, .int .i64 0] 56)) 32 #[.int .i64 0, .int .i64 0]
    simpa using this
  clear hW
  refine (HAT.out _ hbW).mono ?_
  rintro e1 w1 ⟨rfl, rfl⟩
  go_wp2_with fail
  refine (HTG.out _ hbW).mono ?_
  rintro e1 w1 ⟨rfl, hrin, ho⟩
  have hk2 := ho.blk hq2 (by omega)
  have hk3 := ho.blk hq3 (by omega)
  have hO := hoW.trans ho
  clear hq2 hq3 hoW ho
  go_wp2_with fail
  generalize hW3 : World.alloc _ _ = W3
  have hb3 : Below w1.heap.size w1 W3 := by rw [← hW3]; exact bw_a (bw_a (Below.refl _ w1) _) _
  have hk7 : Blk W3 w1.heap.size 32 #[.int .i64 0, .int .i64 0] := by rw [← hW3]; exact (Blk.new w1 _ _).alloc _
  have hk8 : Blk W3 (w1.heap.size + 1) 56 #[.int .i64 num, .int .u8 5, .int .u64 0, .slice none 0 0, .int .i64 (p : Int)] := by
    rw [← hW3]
    have := Blk.new (w1.alloc (.cells #[.int .i64 0, .int .i64 0] 32)) 56 #[.int .i64 num, .int .u8 5, .int .u64 0, .slice none 0 0, .int .i64 (p : Int)]
    simpa using this
  have hl2 := hk2.lt
  have hl3 := hk3.lt
  have hkk2 := hk2.below hb3 hk2.lt
  have hkk3 := hk3.below hb3 hk3.lt
  have hO3 := hO.trans (.of_below hb3)
  refine (HVL.out _ (hrin.below hb3)).mono ?_
  rintro e5 w5 ⟨rfl, hr5, ho5⟩
  have m2 := ho5.blk hkk2 (by omega)
  have m3 := ho5.blk hkk3 (by omega)
  have m7 := ho5.blk hk7 (by omega)
  have m8 := ho5.blk hk8 (by omega)
  have hO5 := hO3.trans ho5
  clear hW3 hb3 hk7 hk8 hkk2 hkk3 hO3 ho5 hk2 hk3 hO hrin HVL HTG HAT
  have s70 : w5.cell? ⟨w1.heap.size, 0, none⟩ = some (.int .i64 0) := m7.cell 0
  have s71 : w5.cell? ⟨w1.heap.size, 1, none⟩ = some (.int .i64 0) := m7.cell 1
  have s82 : w5.cell? ⟨w1.heap.size + 1, 2, none⟩ = some (.int .u64 0) := m8.cell 2
  have s83 : w5.cell? ⟨w1.heap.size + 1, 3, none⟩ = some (.slice none 0 0) := m8.cell 3
  have y70 := m7.frozen 0
  have y71 := m7.frozen 1
  have y82 := m8.frozen 2
  have y83 := m8.frozen 3
  have hl7 := m7.lt
  have hl8 := m8.lt
  have HR5 := hid hr5
  have HO5 := hid hO5
  have M2 := hid m2
  have M3 := hid m3
  have M7 := hid m7
  have M8 := hid m8
  clear hr5 hO5 m2 m3 m7 m8 
  go_wp2_with fail
  have n8 : Blk (((w5.setCell ⟨w1.heap.size, 0, none⟩ (.int .i64 (er : Int))).setCell ⟨w1.heap.size, 1, none⟩ (.int .i64 (fa : Int))).setCell ⟨w1.heap.size + 1, 2, none⟩ (.int .u64 (v : Int))) (w1.heap.size + 1) 56 #[.int .i64 num, .int .u8 5, .int .u64 (v : Int), .slice none 0 0, .int .i64 (p : Int)] := by
    have := ((M8.out.far (p := ⟨w1.heap.size, 0, none⟩) (by simp) (.int .i64 (er : Int))).far (p := ⟨w1.heap.size, 1, none⟩) (by simp) (.int .i64 (fa : Int))).set_ 2 (.int .u64 (v : Int))
    simpa using this
  have n7 : Blk (((w5.setCell ⟨w1.heap.size, 0, none⟩ (.int .i64 (er : Int))).setCell ⟨w1.heap.size, 1, none⟩ (.int .i64 (fa : Int))).setCell ⟨w1.heap.size + 1, 2, none⟩ (.int .u64 (v : Int))) w1.heap.size 32 #[.int .i64 (er : Int), .int .i64 (fa : Int)] := by
    have := ((M7.out.set_ 0 (.int .i64 (er : Int))).set_ 1 (.int .i64 (fa : Int))).far (p := ⟨w1.heap.size + 1, 2, none⟩) (by simp) (.int .u64 (v : Int))
    simpa using this
  have hc6 : Chg (fun k => k = w1.heap.size ∨ k = w1.heap.size + 1) w5 (((w5.setCell ⟨w1.heap.size, 0, none⟩ (.int .i64 (er : Int))).setCell ⟨w1.heap.size, 1, none⟩ (.int .i64 (fa : Int))).setCell ⟨w1.heap.size + 1, 2, none⟩ (.int .u64 (v : Int))) := ((((Chg.refl _ w5).set_ (.inl (.inl rfl)) 0 (.int .i64 (er : Int))).set_ (.inl (.inl rfl)) 1 (.int .i64 (fa : Int))).set_ (.inl (.inr rfl)) 2 (.int .u64 (v : Int)))
  generalize ((w5.setCell ⟨w1.heap.size, 0, none⟩ (.int .i64 (er : Int))).setCell ⟨w1.heap.size, 1, none⟩ (.int .i64 (fa : Int))).setCell ⟨w1.heap.size + 1, 2, none⟩ (.int .u64 (v : Int)) = W6 at *
  have n2 := hc6.blk M2.out (by omega)
  have n3 := hc6.blk M3.out (by omega)
  have a0 : W6.cell? ⟨w.heap.size, 0, none⟩ = some (.int .i64 0) := n2.cell 0
  have a1 : W6.cell? ⟨w.heap.size, 1, none⟩ = some (.int .u8 0) := n2.cell 1
  have a2 : W6.cell? ⟨w.heap.size, 2, none⟩ = some (.int .u64 0) := n2.cell 2
  have a3 : W6.cell? ⟨w.heap.size, 3, none⟩ = some (.slice none 0 0) := n2.cell 3
  have a4 : W6.cell? ⟨w.heap.size, 4, none⟩ = some (.int .i64 0) := n2.cell 4
  have g0 := n2.frozen 0
  have g1 := n2.frozen 1
  have g2 := n2.frozen 2
  have g3 := n2.frozen 3
  have g4 := n2.frozen 4
  have b0 : W6.cell? ⟨w.heap.size + 1, 0, none⟩ = some (.int .i64 0) := n3.cell 0
  have b1 : W6.cell? ⟨w.heap.size + 1, 1, none⟩ = some (.int .i64 0) := n3.cell 1
  have i0 := n3.frozen 0
  have i1 := n3.frozen 1
  have e0 : W6.cell? ⟨w1.heap.size, 0, none⟩ = some (.int .i64 (er : Int)) := n7.cell 0
  have e1 : W6.cell? ⟨w1.heap.size, 1, none⟩ = some (.int .i64 (fa : Int)) := n7.cell 1
  have f0 : W6.cell? ⟨w1.heap.size + 1, 0, none⟩ = some (.int .i64 num) := n8.cell 0
  have f1 : W6.cell? ⟨w1.heap.size + 1, 1, none⟩ = some (.int .u8 5) := n8.cell 1
  have f2 : W6.cell? ⟨w1.heap.size + 1, 2, none⟩ = some (.int .u64 (v : Int)) := n8.cell 2
  have f3 : W6.cell? ⟨w1.heap.size + 1, 3, none⟩ = some (.slice none 0 0) := n8.cell 3
  have f4 : W6.cell? ⟨w1.heap.size + 1, 4, none⟩ = some (.int .i64 (p : Int)) := n8.cell 4
  have hn7 : w1.heap.size ≠ w.heap.size := by omega
  have hn8 : w1.heap.size ≠ w.heap.size + 1 := by omega
  have hn9 : w1.heap.size + 1 ≠ w.heap.size := by omega
  have hn10 : w1.heap.size + 1 ≠ w.heap.size + 1 := by omega
  have hla := n2.lt
  have hlb := n3.lt
  have hlc := n7.lt
  have hld := n8.lt
  have HC6 := hid hc6
  clear n2 n3 n7 n8 hc6 M2 M3 M7 M8 s70 s71 s82 s83 y70 y71 y82 y83
  go_region
  all_goals go_wp2_with fail
  refine bodyPost_ret (v := .tuple #[.agg #[.int .i64 num, .int .u8 5, .int .u64 (v : Int), .slice none 0 0, .int .i64 (p : Int)], .agg #[.int .i64 (er : Int), .int .i64 (fa : Int)]]) (by simp [results, Try.results73, go_sem, a0, a1, a2, a3, a4, b0, b1]) rfl ⟨rfl, ?_, ?_⟩
  · exact (HR5.out.chgS HC6.out (by omega) (fun hp b o he hS => hS.elim (fun h => HFN.out b (by omega) hp b o he rfl) (fun h => HFN.out b (by omega) hp b o he rfl))).chgS (chg52 W6 w.heap.size (w.heap.size + 1) _ _ _ _ _ _ _) (by omega) (fun hp b o he hS => hS.elim (fun h => HFN.out b (by omega) hp b o he rfl) (fun h => HFN.out b (by omega) hp b o he rfl))
  · exact (HO5.out.chgS HC6.out (fun k hk => by omega)).chgS (chg52 W6 w.heap.size (w.heap.size + 1) _ _ _ _ _ _ _) (fun k hk => by omega)
end Go.Proofs.Ytealjpolomhdeaa
set_option linter.unusedVariables false
namespace Go.Proofs.Ytealjpolomhdeaa
open Go.RowKit
theorem rFix4_lt (bs : List UInt8) (p : Nat) : (rVal 5 bs p).1 ≤ 4294967295 := by
  unfold rVal
  rw [if_neg (by omega), if_neg (by omega), if_neg (by omega)]
  simp only
  unfold rFix
  split
  · simp
  · have hu := unfixN_lt ((bs.drop p).take 4)
    have hl : ((bs.drop p).take 4).length ≤ 4 := by rw [List.length_take]; omega
    have hp : 256 ^ ((bs.drop p).take 4).length ≤ 256 ^ 4 := Nat.pow_le_pow_right (by omega) hl
    simp only [if_true]
    omega
theorem sread_any (w : World) (q : Nat) (A : Option Addr) (c : Nat) (bs : List UInt8) (p : Nat) (h : Rin 152 w q A c bs p) :
    Calls Try.prog 73 #[.pointer (some ⟨q, 0, none⟩)] w fun e w' => ∃ A' c' at', e = .returned (.tuple #[.agg #[.int .i64 (rOne bs p).num, .int .u8 (rOne bs p).w, .int .u64 ((rOne bs p).n : Nat), .slice A' (rOne bs p).xs.length c', .int .i64 at'], .agg #[.int .i64 ((rOne bs p).e : Nat), .int .i64 ((rOne bs p).p : Nat)]]) ∧
      ((rOne bs p).e = 0 → at' = (p : Int)) ∧ Sl w' A' c' ((rOne bs p).xs.map bv) ∧ (∀ q', Far A bs.length q' → Far A' (rOne bs p).xs.length q') ∧ Rin 152 w' q A c bs (rOne bs p).nx ∧ Only q w w' := by
  by_cases he : (rHead bs p).2.2.1 = 0
  · have hf := rHead_facts bs p he
    have hr : rOne bs p = ⟨(rHead bs p).1, (rHead bs p).2.1, (rVal (rHead bs p).2.1 bs (rHead bs p).2.2.2).1, (rVal (rHead bs p).2.1 bs (rHead bs p).2.2.2).2.1, (rVal (rHead bs p).2.1 bs (rHead bs p).2.2.2).2.2.1, flt (rVal (rHead bs p).2.1 bs (rHead bs p).2.2.2).2.2.1 (rHead bs p).2.2.2, (rVal (rHead bs p).2.1 bs (rHead bs p).2.2.2).2.2.2⟩ := by unfold rOne; rw [if_pos he]
    rw [hr]
    obtain ⟨hd, hhd⟩ : ∃ hd, rHead bs p = hd := ⟨_, rfl⟩
    rw [hhd] at he hf ⊢
    obtain ⟨num, x, e, p1⟩ := hd
    simp only at he hf ⊢
    subst he
    have hx1 : ∀ K, K = 0 ∨ K = 1 ∨ K = 5 → (rVal K bs p1).2.1 = [] := by
      rintro K (rfl | rfl | rfl) <;> rfl
    rcases hf.2.2.1 with rfl | rfl | rfl | rfl
    · refine (sread_0 num p1 _ _ _ _ w q A c bs p hhd (show rVal 0 bs p1 = ((rVal 0 bs p1).1, [], (rVal 0 bs p1).2.2.1, (rVal 0 bs p1).2.2.2) from rfl) rfl trivial h).mono ?_
      rintro e' w' ⟨e1, hr, ho⟩
      exact ⟨none, 0, (p : Int), e1, fun _ => rfl, Sl.nil_ _, fun q' _ hp => absurd hp (by simp [hx1 0 (.inl rfl)]), hr, ho⟩
    · refine (sread_1 num p1 _ _ _ _ w q A c bs p hhd (show rVal 1 bs p1 = ((rVal 1 bs p1).1, [], (rVal 1 bs p1).2.2.1, (rVal 1 bs p1).2.2.2) from rfl) rfl trivial h).mono ?_
      rintro e' w' ⟨e1, hr, ho⟩
      exact ⟨none, 0, (p : Int), e1, fun _ => rfl, Sl.nil_ _, fun q' _ hp => absurd hp (by simp [hx1 1 (.inr (.inl rfl))]), hr, ho⟩
    · refine (sread_2 num p1 _ _ _ _ _ w q A c bs p hhd (show rVal 2 bs p1 = (0, (rVal 2 bs p1).2.1, (rVal 2 bs p1).2.2.1, (rVal 2 bs p1).2.2.2) from rfl) rfl rfl trivial h).mono ?_
      rintro e' w' ⟨A', c', e1, hs, hfa, hr, ho⟩
      exact ⟨A', c', (p : Int), e1, fun _ => rfl, hs, hfa, hr, ho⟩
    · refine (sread_5 num p1 _ _ _ _ w q A c bs p hhd (show rVal 5 bs p1 = ((rVal 5 bs p1).1, [], (rVal 5 bs p1).2.2.1, (rVal 5 bs p1).2.2.2) from rfl) rfl (rFix4_lt bs p1) h).mono ?_
      rintro e' w' ⟨e1, hr, ho⟩
      exact ⟨none, 0, (p : Int), e1, fun _ => rfl, Sl.nil_ _, fun q' _ hp => absurd hp (by simp [hx1 5 (.inr (.inr rfl))]), hr, ho⟩
  · have hr : rOne bs p = ⟨0, 0, 0, [], (rHead bs p).2.2.1, p, p⟩ := by unfold rOne; rw [if_neg he]
    rw [hr]
    simp only
    refine (sread_bad (rHead bs p).1 (rHead bs p).2.1 (rHead bs p).2.2.1 (rHead bs p).2.2.2 w q A c bs p rfl he h).mono ?_
    rintro e' w' ⟨e1, hr, ho⟩
    exact ⟨none, 0, 0, e1, fun h => absurd h he, Sl.nil_ _, fun q' _ hp => by simp at hp, hr, ho⟩
end Go.Proofs.Ytealjpolomhdeaa
set_option linter.unusedVariables false
namespace Go.Proofs.Ytealjpolomhdeaa
open Go.ChangeShapes Go.WideShapes Go.ChangeAt Go.RowKit
section
variable {P : Program} {W : World} {t e : TypeId}
end
end Go.Proofs.Ytealjpolomhdeaa
set_option linter.unusedVariables false
namespace Go.Proofs.Ytealjpolomhdeaa
open Go.RowKit Go.Shelf
attribute [local go_sem] Oper.semAt_some
/-- A field as a value. -/
structure FV where
  num : Int
  w : Int
  n : Nat
  s : SlV UInt8
  at_ : Int
def fvC (f : FV) : List Value := [.int .i64 f.num, .int .u8 f.w, .int .u64 (f.n : Int), .slice f.s.A f.s.xs.length f.s.c, .int .i64 f.at_]
def fvOf (f : FV) (r : RF × Nat) : Prop := f.num = r.1.num ∧ f.w = r.1.w ∧ f.n = r.1.n ∧ f.s.xs = r.1.xs ∧ f.at_ = (r.2 : Int)
/-- Fields as values are those that are read. -/
def fvAll : List FV → List (RF × Nat) → Prop
  | [], [] => True
  | f :: fs, r :: rs => fvOf f r ∧ fvAll fs rs
  | _, _ => False
theorem fvAll_snoc {fs : List FV} {rs : List (RF × Nat)} {f : FV} {r : RF × Nat} (h : fvAll fs rs) (hf : fvOf f r) : fvAll (fs ++ [f]) (rs ++ [r]) := by
  induction fs generalizing rs with
  | nil => cases rs with
    | nil => exact ⟨hf, trivial⟩
    | cons r rs => exact h.elim
  | cons g gs ih => cases rs with
    | nil => exact h.elim
    | cons r rs => exact ⟨h.1, ih h.2⟩
theorem fvAll_len {fs : List FV} {rs : List (RF × Nat)} (h : fvAll fs rs) : fs.length = rs.length := by
  induction fs generalizing rs with
  | nil => cases rs with
    | nil => rfl
    | cons r rs => exact h.elim
  | cons g gs ih => cases rs with
    | nil => exact h.elim
    | cons r rs => simp [ih h.2]
theorem each_in (m : Nat) (A : Option Addr) (n c : Nat) (w : World) :
    CallsIn Fence.wide m Try.prog 48 #[.slice A n c] w fun e w' => e = .returned (.func (.func 70) #[] #[.pointer (some ⟨w.heap.size, 0, none⟩)]) ∧ w' = w.alloc (.cells #[.slice A n c] 22) := by
  refine callsIn_of_wp Try.func48 rfl trivial ?_ rfl
  simp only [Try.ntmps48, List.size_toArray, List.length_cons, List.length_nil, Nat.reduceAdd, Nat.reduceSub, Array.replicate_succ, Array.replicate_zero, List.push_toArray, List.append_toArray, List.nil_append, List.cons_append]
  gi_wp2
  go_ret
  exact ⟨rfl, rfl⟩
set_option maxRecDepth 100000 in
set_option maxHeartbeats 2000000 in
theorem each1_in (m : Nat) (hm : 2 ≤ m) (bs : List UInt8) (n : Nat) (A : Option Addr) (c : Nat) (l Bb B0 : Nat) (J : Nat → List FV → World → Prop) (Jx : Nat → Nat → World → Prop) (W : World) (hn : bs.length = n) (hl : n ≤ 100000)
    (hbb : W.cell? ⟨Bb, 0, none⟩ = some (.slice A n c)) (hs : Sl W A c (bs.map bv)) (hB0 : W.heap.size = B0) (h0 : ∀ b W', B0 ≤ b → Below B0 W W' → J b [] W')
    (hJ : ∀ b pre W q p Aq cq W', B0 ≤ q → q < b → J b pre W → Rin 152 W q Aq cq bs p → Only q W W' → J b pre W')
    (hY : ∀ b pre f W, J b pre W → pre.length < n → b ≤ W.heap.size → YieldAt Fence.wide (m - 1) Try.prog l #[.agg (fvC f).toArray, .agg #[.int .i64 0, .int .i64 0]] W fun e W' => e = .returned (.bool true) ∧ J b (pre ++ [f]) W' ∧ Chg (fun k => k < B0 ∨ b ≤ k) W W')
    (hE : ∀ b pre er ep W, J b pre W → er ≠ 0 → YieldAt Fence.wide (m - 1) Try.prog l #[.agg #[.int .i64 0, .int .u8 0, .int .u64 0, .slice none 0 0, .int .i64 0], .agg #[.int .i64 (er : Nat), .int .i64 (ep : Nat)]] W fun e W' => e = .returned (.bool false) ∧ Jx er ep W') :
    CallsIn Fence.wide m Try.prog 70 #[.func (.yield l) #[] #[], .pointer (some ⟨Bb, 0, none⟩)] W fun e W' => (∃ v, e = .returned v) ∧
      (((flds bs n 0).2.1 = 0 ∧ ∃ b pre, B0 ≤ b ∧ J b pre W' ∧ fvAll pre (flds bs n 0).1 ∧ ∀ f ∈ pre, Sl W' f.s.A f.s.c (f.s.xs.map bv) ∧ FarS f.s.A f.s.xs.length (fun k => k < B0 ∨ b ≤ k)) ∨ ((flds bs n 0).2.1 ≠ 0 ∧ Jx (flds bs n 0).2.1 (flds bs n 0).2.2 W')) := by
  have hbbl := World.block_lt_of_cell? W _ hbb
  have h1 : 1 ≤ m := by omega
  have HS := hid hs
  have HN := hid hn
  have H0 := hid h0
  have HJ := hid hJ
  have HY := hid hY
  have HE := hid hE
  have HBZ := hid hB0
  clear hs hn h0 hJ hY hE hB0
  refine callsIn_of_wp Try.func70 rfl trivial ?_ rfl
  simp only [Try.ntmps70, List.size_toArray, List.length_cons, List.length_nil, Nat.reduceAdd, Nat.reduceSub, Array.replicate_succ, Array.replicate_zero, List.push_toArray, List.append_toArray, List.nil_append, List.cons_append]
  refine wpIn_wide.2 (wp_scope_straight ((wpIn_wide (n := m)).1 ?_))
  gi_wp2_with (refine ⟨trivial, ?_⟩; gi_at_call 71; refine ((callsIn_wide (n := m - 1)).2 (new_any bs n A c W HN.out (by omega) HS.out)).mono ?_; rintro e w1 ⟨q, Aq, cq, rfl, hr1, hq1, hfar, hb1⟩)
  refine wpIn_label ?_
  gi_wp2
  have hqB : B0 ≤ q := by have := HBZ.out; omega
  have hfarS : FarS Aq n (fun k => k < B0 ∨ w1.heap.size ≤ k ∨ k = q) := by
    intro hp b o he hS
    have hq1l := hr1.blk.lt
    refine hfar b ?_ (by rw [HN.out]; exact hp) b o he rfl
    have := HBZ.out
    omega
  have hjb := H0.out w1.heap.size w1 (by have := HBZ.out; have := hb1.size; omega) (by rw [← HBZ.out]; exact hb1)
  have hqb : q < w1.heap.size := hr1.blk.lt
  generalize hb : w1.heap.size = b at *
  have hbb1 : b ≤ w1.heap.size := by omega
  have HFS := hid hfarS
  have HJB := hid hjb
  have HR1 := hid hr1
  clear hfarS hjb hr1 hfar hb1 hb
  gi_loopw [4] (fun _ wr => ∃ (p f : Nat) (pre : List FV), p ≤ n ∧ pre.length ≤ p ∧ n - p ≤ f ∧ Rin 152 wr q Aq cq bs p ∧ J b pre wr ∧ b ≤ wr.heap.size ∧ (∀ g ∈ pre, Sl wr g.s.A g.s.c (g.s.xs.map bv) ∧ FarS g.s.A g.s.xs.length (fun k => k < B0 ∨ b ≤ k ∨ k = q)) ∧
      ∃ rs, fvAll pre rs ∧ flds bs n 0 = (rs ++ (flds bs f p).1, (flds bs f p).2.1, (flds bs f p).2.2)) (fun _ wr => n - (intOf ((wr.cell? ⟨q, 1, none⟩).getD undef)).toNat)
  case atStart => exact ⟨0, n, [], by omega, by simp, by omega, HR1.out, HJB.out, hbb1, by simp, [], trivial, by simp⟩
  case round =>
    obtain ⟨p, f, pre, hp, hpl, hf, hr, hj, hbw, hsl, rs, hrs, hfl⟩ := hrel
    have hqw := hr.blk.lt
    by_cases hlt : p < n
    · have hle := ileft_any wr q Aq cq bs p hr
      obtain ⟨lf, hlf⟩ : ∃ lf : Int, ((bs.length - p : Nat) : Int) = lf := ⟨_, rfl⟩
      have hlf0 : 0 < lf := by rw [HN.out] at hlf; omega
      rw [hlf] at hle
      have hrd := fun W h => sread_any W q Aq cq bs p h
      have hof := rOne_facts bs p (by rw [HN.out]; exact hp)
      have hst := fun he => flds_step bs f p (by rw [HN.out]; exact hlt) (by rw [HN.out]; exact hf) he
      have hbd := fun he => flds_bad bs f p (by rw [HN.out]; exact hlt) (by rw [HN.out]; exact hf) he
      generalize rOne bs p = r at *
      obtain ⟨rnum, rw', rn, rxs, re, rp, rnx⟩ := r
      simp only at hrd hof hst hbd
      generalize hxl : rxs.length = xl at *
      have HLE := hid hle
      have HRD := hid hrd
      have HOF := hid hof
      have HST := hid hst
      have HBD := hid hbd
      have HR := hid hr
      have HJ1 := hid hj
      have HSL := hid hsl
      have HRS := hid hrs
      have HFL := hid hfl
      have HXL := hid hxl
      clear hle hrd hof hst hbd hr hj hsl hrs hfl hxl hlf
      by_cases he : re = 0
      · subst he
        gi_wp2_with (first | (refine ⟨trivial, ?_⟩; gi_at_call 72; refine ((callsIn_wide (n := m - 1)).2 HLE.out).mono ?_; rintro e w2 ⟨rfl, k2, rfl⟩) | (refine ⟨trivial, ?_⟩; gi_at_call 73; refine ((callsIn_wide (n := m - 1)).2 (HRD.out _ (HR.out.below (below_drewN (Below.refl _ wr) k2)))).mono ?_; rintro e w3 ⟨A3, c3, at3, rfl, hat3, hs3, hf3, hr3, ho3⟩; obtain rfl := hat3 (by simp); have hO3 := ((Only.refl q wr).drewN k2).trans ho3; have hO5 := (hO3.alloc (.cells #[.int .i64 rnum, .int .u8 rw', .int .u64 (rn : Int), .slice A3 xl c3, .int .i64 (p : Int)] 56)).alloc (.cells #[.int .i64 0, .int .i64 (rp : Int)] 32); have hb35 := bw_a (bw_a (Below.refl w3.heap.size w3) (.cells #[.int .i64 rnum, .int .u8 rw', .int .u64 (rn : Int), .slice A3 xl c3, .int .i64 (p : Int)] 56)) (.cells #[.int .i64 0, .int .i64 (rp : Int)] 32); have hj5 := HJ1.out; have hj5 := HJ.out b pre wr q p Aq cq _ hqB hqb hj5 HR.out hO5; have hb5 := Nat.le_trans hbw hO5.size; have hr5 := hr3.below hb35; have hs5 := hs3.below hb35; have hsl5 : ∀ g ∈ pre, Sl ((w3.alloc (.cells #[.int .i64 rnum, .int .u8 rw', .int .u64 (rn : Int), .slice A3 xl c3, .int .i64 (p : Int)] 56)).alloc (.cells #[.int .i64 0, .int .i64 (rp : Int)] 32)) g.s.A g.s.c (g.s.xs.map bv) ∧ FarS g.s.A g.s.xs.length (fun k => k < B0 ∨ b ≤ k ∨ k = q) := fun g hg => ⟨hO5.sl (HSL.out g hg).1 (n := g.s.xs.length) ((HSL.out g hg).2.far (.inr (.inr rfl))) (by simp), (HSL.out g hg).2⟩; have hf5 : FarS A3 xl (fun k => k < B0 ∨ b ≤ k ∨ k = q) := fun hp b' o he hS => hf3 b' (fun hp2 b2 o2 he2 hb2 => by subst hb2; exact HFS.out (by rw [← HN.out]; exact hp2) b2 o2 he2 hS) hp b' o he rfl; obtain ⟨fn, tmps, assign, body, hy, hR⟩ := HY.out b pre ⟨rnum, rw', rn, ⟨A3, c3, rxs⟩, (p : Int)⟩ _ hj5 (by omega) hb5; simp only [fvC, HXL.out] at hy; obtain ⟨gg, hgg, hfl2⟩ := HST.out (by simp); have hnx := HOF.out.1 (by simp); have hc1 : wr.cell? ⟨q, 1, none⟩ = some (.int .i64 (p : Int)) := (by simpa using HR.out.blk.cell 1); have HR5 := hid hr5; have HS5 := hid hs5; have HSL5 := hid hsl5; have HF5 := hid hf5; have HFL2 := hid hfl2; have HNX := hid hnx; clear hO3 hO5 hb35 hj5 hr5 hs5 hsl5 hf5 hs3 hf3 hr3 ho3 hfl2 hnx hat3))
        refine hR.mono ?_
        rintro e w6 ⟨rfl, hj6, hch6⟩
        have hqc : ¬ (q < B0 ∨ b ≤ q) := by omega
        have hfq : FarS Aq bs.length (fun k => k < B0 ∨ b ≤ k) := by rw [HN.out]; exact HFS.out.imp (fun k hk => by omega)
        have hr6 := HR5.out.chgS hch6 hqc hfq
        have hc6 := hr6.blk.cell 1
        have hs6 := hch6.sl HS5.out (n := xl) (HF5.out.imp (fun k hk => by omega)) (by simp [HXL.out])
        have hsl6 : ∀ g ∈ pre, Sl w6 g.s.A g.s.c (g.s.xs.map bv) := fun g hg => hch6.sl (HSL5.out g hg).1 (n := g.s.xs.length) ((HSL5.out g hg).2.imp (fun k hk => by omega)) (by simp)
        have hbw6 : b ≤ w6.heap.size := by have := hch6.size; omega
        have HJ6 := hid hj6
        have HR6 := hid hr6
        have HS6 := hid hs6
        have HSL6 := hid hsl6
        clear hj6 hr6 hs6 hsl6 hch6
        gi_wp2
        go_roundw
        case rel =>
          refine ⟨rnx, gg, pre ++ [⟨rnum, rw', rn, ⟨A3, c3, rxs⟩, (p : Int)⟩], by have := HNX.out; rw [HN.out] at this; omega, by have := HNX.out; simp; omega, by rw [← HN.out]; exact hgg, HR6.out, HJ6.out, hbw6, ?_, rs ++ [(⟨rnum, rw', rn, rxs, 0, rp, rnx⟩, p)], fvAll_snoc HRS.out ⟨rfl, rfl, rfl, rfl, rfl⟩, ?_⟩
          · intro g hg
            rcases List.mem_append.1 hg with hg | hg
            · exact ⟨HSL6.out g hg, (HSL5.out g hg).2⟩
            · obtain rfl := List.mem_singleton.1 hg
              exact ⟨HS6.out, by rw [show (SlV.xs _).length = xl from HXL.out]; exact HF5.out⟩
          · rw [HFL.out, HFL2.out]; simp
        case measure => rw [hc1, hc6]; have := HNX.out; simp [intOf]; omega
      · have heb : (((re : Nat) : Int) != 0) = true := by simpa using he
        gi_wp2_with (first | (refine ⟨trivial, ?_⟩; gi_at_call 72; refine ((callsIn_wide (n := m - 1)).2 HLE.out).mono ?_; rintro e w2 ⟨rfl, k2, rfl⟩) | (refine ⟨trivial, ?_⟩; gi_at_call 73; refine ((callsIn_wide (n := m - 1)).2 (HRD.out _ (HR.out.below (below_drewN (Below.refl _ wr) k2)))).mono ?_; rintro e w3 ⟨A3, c3, at3, rfl, hat3, hs3, hf3, hr3, ho3⟩; have hO3 := ((Only.refl q wr).drewN k2).trans ho3; have hO5 := (hO3.alloc (.cells #[.int .i64 rnum, .int .u8 rw', .int .u64 (rn : Int), .slice A3 xl c3, .int .i64 at3] 56)).alloc (.cells #[.int .i64 (re : Int), .int .i64 (rp : Int)] 32); have hj5 := HJ1.out; have hj5 := HJ.out b pre wr q p Aq cq _ hqB hqb hj5 HR.out hO5; obtain ⟨fn, tmps, assign, body, hy, hR⟩ := HE.out b pre re rp _ hj5 he; have hbd := HBD.out he))
        refine hR.mono ?_
        rintro e w6 ⟨rfl, hx6⟩
        gi_wp2
        simp only [Exit.noGoto]
        refine bodyPost_end (results_none rfl _ _ _) rfl ⟨⟨_, rfl⟩, .inr ?_⟩
        rw [HFL.out, hbd]
        exact ⟨he, hx6⟩
    · obtain rfl : p = n := by omega
      have hle := ileft_any wr q Aq cq bs p hr
      rw [HN.out, Nat.sub_self] at hle
      have HLE := hid hle
      gi_wp2_with (refine ⟨trivial, ?_⟩; gi_at_call 72; refine ((callsIn_wide (n := m - 1)).2 HLE.out).mono ?_; rintro e w2 ⟨rfl, k2, rfl⟩)
      have hE0 := flds_end bs f p (by rw [HN.out]; omega)
      rw [hE0] at hfl
      simp only [List.append_nil] at hfl
      simp only [Exit.noGoto]
      refine bodyPost_end (results_none rfl _ _ _) rfl ⟨⟨_, rfl⟩, .inl ⟨by rw [hfl], b, pre, by have := HBZ.out; omega, HJ.out b pre wr q p Aq cq _ hqB hqb hj hr ((Only.refl q wr).drewN k2), by rw [hfl]; exact hrs, fun g hg => ⟨((hsl g hg).1).below (below_drewN (Below.refl _ wr) k2), (hsl g hg).2.imp (fun k hk => by omega)⟩⟩⟩
end Go.Proofs.Ytealjpolomhdeaa
set_option linter.unusedVariables false
namespace Go.Proofs.Ytealjpolomhdeaa
open Go.RowKit Go.Shelf
attribute [local go_sem] Oper.semAt_some
theorem Try.infoField : (Try.prog.info? 56).map (fun i => (i.zero, i.size, i.bytes)) = some (some (.agg #[.int .i64 0, .int .u8 0, .int .u64 0, .slice none 0 0, .int .i64 0]), 5, 56) := by kernel_rfl
/-- What Fields keeps beside its loop's record. -/
structure JB (s b : Nat) (w : World) (pre : List FV) (W : World) : Prop where
  le : s + 6 ≤ b
  dfr : W.heap[s + 4]? = some (.deferred (some []))
  r0 : Blk W s 36 #[.slice none 0 0]
  r1 : Blk W (s + 1) 32 #[.int .i64 0, .int .i64 0]
  row : ∃ v, Blk W (s + 2) 36 #[v] ∧ W.ownsRow b 56 5 v pre.length (pre.flatMap fvC)
  bel : Below s w W
theorem JB.keep {s b : Nat} {w W W' : World} {pre : List FV} {S : Nat → Prop} (h : JB s b w pre W) (hc : Chg S W W') (hS : ∀ k, S k → k = s + 5 ∨ (s + 6 ≤ k ∧ k < b) ∨ W.heap.size ≤ k) : JB s b w pre W' := by
  have h4 : s + 4 < W.heap.size := (Array.getElem?_eq_some_iff.1 h.dfr).1
  obtain ⟨v, hv, ho⟩ := h.row
  have hn : ∀ k, k < s + 5 → ¬ S k := fun k hk hs => by have := hS k hs; omega
  refine ⟨h.le, (hc.block _ h4 (hn _ (by omega))).trans h.dfr, hc.blk h.r0 (hn _ (by omega)), hc.blk h.r1 (hn _ (by omega)), ⟨v, hc.blk hv (hn _ (by omega)), own_chgS ho hc fun g hg hs => ?_⟩, h.bel.trans (hc.below (fun k hk => by have := hS k hk; omega) (by omega))⟩
  have := ho.lt g hg
  have := hS g hs
  have := h.le
  omega
theorem Chg.putObj {S : Nat → Prop} {W : World} {l : Nat} (o : Obj) (hl : S l) : Chg S W (W.putObj l o) := Chg.of_grown (grownBy_putObj' W l o) fun g e => by cases e; exact hl
theorem JB.step {s b : Nat} {w W w1 : World} {pre : List FV} {f : FV} {v v' : Value} {o : Obj} (h : JB s b w pre W) (hv : Blk W (s + 2) 36 #[v]) (ho : W.ownsRow b 56 5 v pre.length (pre.flatMap fvC)) (hg : (W.alloc o).grownBy w1 v.ownBlock)
    (ho' : w1.ownsRow b 56 5 v' (pre.length + 1) (pre.flatMap fvC ++ fvC f)) : JB s b w (pre ++ [f]) (w1.setCell ⟨s + 2, 0, none⟩ v') ∧ Chg (fun k => k = s + 2 ∨ b ≤ k) W (w1.setCell ⟨s + 2, 0, none⟩ v') := by
  have hle := h.le
  have hc1 : Chg (fun k => k = s + 2 ∨ b ≤ k) W w1 := ((Chg.refl _ W).alloc o).trans (Chg.of_grown hg fun g e => .inr (ho.lt g e).1)
  have hb1 : Chg (fun k => b ≤ k) W w1 := ((Chg.refl _ W).alloc o).trans (Chg.of_grown hg fun g e => (ho.lt g e).1)
  have hc : Chg (fun k => k = s + 2 ∨ b ≤ k) W (w1.setCell ⟨s + 2, 0, none⟩ v') := hc1.set_ (.inl (.inl rfl)) 0 v'
  have hv1 : Blk w1 (s + 2) 36 #[v] := hb1.blk hv (by omega)
  have h4 : s + 4 < W.heap.size := (Array.getElem?_eq_some_iff.1 h.dfr).1
  have hv2 := hv1.set_ 0 v'
  refine ⟨⟨hle, (hc.block _ h4 (by omega)).trans h.dfr, hc.blk h.r0 (by omega), hc.blk h.r1 (by omega), ⟨v', by simpa using hv2, ?_⟩, h.bel.trans (hc.below (fun k hk => by omega) (by omega))⟩, hc⟩
  have h2 := own_chgS ho' ((Chg.refl (fun k => k = s + 2) w1).set_ (.inl rfl) 0 v') (fun g hg' hk => by have := (ho'.lt g hg').1; omega)
  rw [List.length_append, List.flatMap_append]
  simpa using h2
theorem JB.fin {s b : Nat} {w W : World} {pre : List FV} (h : JB s b w pre W) (v x y : Value) : Chg (fun k => k = s ∨ k = s + 1) W (((W.setCell ⟨s, 0, none⟩ v).setCell ⟨s + 1, 0, none⟩ x).setCell ⟨s + 1, 1, none⟩ y) ∧
    Blk (((W.setCell ⟨s, 0, none⟩ v).setCell ⟨s + 1, 0, none⟩ x).setCell ⟨s + 1, 1, none⟩ y) s 36 #[v] ∧
    Blk (((W.setCell ⟨s, 0, none⟩ v).setCell ⟨s + 1, 0, none⟩ x).setCell ⟨s + 1, 1, none⟩ y) (s + 1) 32 #[x, y] := by
  refine ⟨(((Chg.refl _ W).set_ (.inl (.inl rfl)) 0 _).set_ (.inl (.inr rfl)) 0 _).set_ (.inl (.inr rfl)) 1 _, ?_, ?_⟩
  · have h1 := ((h.r0.set_ 0 v).far (p := ⟨s + 1, 0, none⟩) (by simp) x).far (p := ⟨s + 1, 1, none⟩) (by simp) y
    simpa using h1
  · have h1 := ((h.r1.far (p := ⟨s, 0, none⟩) (by simp) v).set_ 0 x).set_ 1 y
    simpa using h1
theorem JB.stop {s b : Nat} {w W : World} {pre : List FV} (h : JB s b w pre W) (x y : Value) : Chg (fun k => k = s ∨ k = s + 1) W (((W.setCell ⟨s, 0, none⟩ (.slice none 0 0)).setCell ⟨s + 1, 0, none⟩ x).setCell ⟨s + 1, 1, none⟩ y).drew ∧
    Blk (((W.setCell ⟨s, 0, none⟩ (.slice none 0 0)).setCell ⟨s + 1, 0, none⟩ x).setCell ⟨s + 1, 1, none⟩ y).drew s 36 #[.slice none 0 0] ∧
    Blk (((W.setCell ⟨s, 0, none⟩ (.slice none 0 0)).setCell ⟨s + 1, 0, none⟩ x).setCell ⟨s + 1, 1, none⟩ y).drew (s + 1) 32 #[x, y] := ⟨(h.fin _ x y).1.drew, (h.fin _ x y).2.1, (h.fin _ x y).2.2⟩
set_option maxRecDepth 100000 in
set_option maxHeartbeats 2000000 in
theorem fields_in (m : Nat) (hm : 4 ≤ m) (bs : List UInt8) (n : Nat) (A : Option Addr) (c : Nat) (w : World) (hn : bs.length = n) (hl : n ≤ 100000) (hs : Sl w A c (bs.map bv)) :
    CallsIn Fence.wide m Try.prog 27 #[.slice A n c] w fun e W' => (((flds bs n 0).2.1 = 0 ∧ ∃ v b pre, e = .returned (.tuple #[v, .agg #[.int .i64 0, .int .i64 0]]) ∧ w.heap.size ≤ b ∧ W'.ownsRow b 56 5 v pre.length (pre.flatMap fvC) ∧ fvAll pre (flds bs n 0).1 ∧ ∀ f ∈ pre, Sl W' f.s.A f.s.c (f.s.xs.map bv) ∧ FarS f.s.A f.s.xs.length (fun k => k < w.heap.size ∨ b ≤ k)) ∨
      ((flds bs n 0).2.1 ≠ 0 ∧ e = .returned (.tuple #[.slice none 0 0, .agg #[.int .i64 ((flds bs n 0).2.1 : Nat), .int .i64 ((flds bs n 0).2.2 : Nat)]]))) ∧ Below w.heap.size w W' := by
  have h1 : 1 ≤ m := by omega
  obtain ⟨i5, hi5, hi50, hi51, hi52⟩ := info_parts Try.infoField
  have HS := hid hs
  clear hs
  refine callsIn_of_wp_marks Try.func27 rfl trivial ?_ rfl
  simp only [Try.ntmps27, List.size_toArray, List.length_cons, List.length_nil, Nat.reduceAdd, Nat.reduceSub, Array.replicate_succ, Array.replicate_zero, List.push_toArray, List.append_toArray, List.nil_append, List.cons_append]
  gi_wp2_with (refine ⟨trivial, ?_⟩; gi_at_call 48; refine (each_in (m - 1) A n c _).mono ?_; rintro e w' ⟨rfl, rfl⟩)
  obtain ⟨s, hsz⟩ : ∃ s, w.heap.size = s := ⟨_, rfl⟩
  obtain ⟨Wa, hWa⟩ : ∃ Wa, (((w.alloc (.cells #[.slice none 0 0] 36)).alloc (.cells #[.int .i64 0, .int .i64 0] 32)).alloc (.cells #[.slice none 0 0] 36)).alloc (.cells #[.slice A n c] 22) = Wa := ⟨_, rfl⟩
  have hza : Wa.heap.size = s + 4 := by rw [← hWa]; simp [hsz]
  have hba : Below s w Wa := by rw [← hWa, ← hsz]; exact bw_a (bw_a (bw_a (bw_a (Below.refl _ w) _) _) _) _
  have hk0 : Blk Wa s 36 #[.slice none 0 0] := by rw [← hWa, ← hsz]; exact (((Blk.new w _ _).alloc _).alloc _).alloc _
  have hk1 : Blk Wa (s + 1) 32 #[.int .i64 0, .int .i64 0] := by
    have h := ((Blk.new (w.alloc (.cells #[.slice none 0 0] 36)) 32 #[.int .i64 0, .int .i64 0]).alloc (.cells #[.slice none 0 0] 36)).alloc (.cells #[.slice A n c] 22)
    rw [hWa, World.size_alloc, hsz] at h; exact h
  have hk2 : Blk Wa (s + 2) 36 #[.slice none 0 0] := by
    have h := (Blk.new ((w.alloc (.cells #[.slice none 0 0] 36)).alloc (.cells #[.int .i64 0, .int .i64 0] 32)) 36 #[.slice none 0 0]).alloc (.cells #[.slice A n c] 22)
    rw [hWa, World.size_alloc, World.size_alloc, hsz] at h; exact h
  have hk3 : Blk Wa (s + 3) 22 #[.slice A n c] := by
    have h := Blk.new (((w.alloc (.cells #[.slice none 0 0] 36)).alloc (.cells #[.int .i64 0, .int .i64 0] 32)).alloc (.cells #[.slice none 0 0] 36)) 22 #[.slice A n c]
    rw [hWa, World.size_alloc, World.size_alloc, World.size_alloc, hsz] at h; exact h
  have hsa : Sl Wa A c (bs.map bv) := HS.out.below (by rw [hsz]; exact hba)
  rw [hWa, hsz]
  refine wpIn_rangeFunc fun fn _ => ?_
  generalize hasg : (Code.seq _ _ : Code) = asg
  generalize hbdy : (Code.block 1 _ : Code) = bdy
  obtain ⟨tm, htm⟩ : ∃ tm : Array Value, #[.slice A n c, undef, .pointer (some ⟨s, 0, none⟩), .pointer (some ⟨s + 1, 0, none⟩), .pointer (some ⟨s + 1 + 1, 0, none⟩), undef, undef, .slice A n c, .func (.func 70) #[] #[.pointer (some ⟨s + 1 + 1 + 1, 0, none⟩)], undef, undef, undef, undef, undef, undef, undef, undef, undef, undef, undef, undef] = tm := ⟨_, rfl⟩
  rw [htm]
  obtain ⟨rec, hrec⟩ : ∃ rec : LoopState → Option Code → Loop, rec = fun st pe => { state := st, pending := pe, fn, tmps := tm, params := #[9, 10], assign := asg, body := bdy, defers := s + 4 } := ⟨_, rfl⟩
  obtain ⟨W1, hW1⟩ : ∃ W1, (Wa.alloc (.deferred (some []))).alloc (.loop (rec .ready none)) = W1 := ⟨_, rfl⟩
  have hz1 : W1.heap.size = s + 6 := by rw [← hW1]; simp [hza]
  have hL1 : W1.heap[s + 5]? = some (.loop (rec .ready none)) := by
    rw [← hW1]; have := World.alloc_heap_new (Wa.alloc (.deferred (some []))) (.loop (rec .ready none)); rwa [World.size_alloc, hza] at this
  have hK1 : W1.heap[s + 4]? = some (.deferred (some [])) := by
    have h := World.alloc_heap_new Wa (.deferred (some []))
    rw [hza] at h
    rw [← hW1]; exact (Below.heap_alloc _ _ _ (by simp [hza])).trans h
  have hB1 : Below (s + 4) Wa W1 := by rw [← hW1, ← hza]; exact bw_a (bw_a (Below.refl _ Wa) _) _
  have hsW : Sl W1 A c (bs.map bv) := hsa.below (by rw [hza]; exact hB1)
  have hJ0 : ∀ b W', s + 6 ≤ b → Below (s + 6) W1 W' → W'.heap[s + 5]? = some (.loop (rec .ready none)) ∧ JB s b w [] W' := fun b W' hb hB => by
    have hB2 := (hB1.trans (hB.mono (by omega)))
    exact ⟨(hB.block _ (by omega)).trans hL1, hb, (hB.block _ (by omega)).trans hK1, hk0.below hB2 (by omega), hk1.below hB2 (by omega), ⟨_, hk2.below hB2 (by omega), World.ownsRow_nil _ _ _ _⟩, hba.trans (hB2.mono (by omega))⟩
  refine ⟨s + 5, [{ target := .collected (s + 4), args := #[] }], W1, { target := .fn (.func 70) #[.pointer (some ⟨s + 1 + 1 + 1, 0, none⟩)], args := #[.func (.yield (s + 5)) #[] #[]] }, W1, 70,
    #[.func (.yield (s + 5)) #[] #[]] ++ #[.pointer (some ⟨s + 1 + 1 + 1, 0, none⟩)], W1, ?_, ?_, fun _ _ => trivial, ?_, fun _ => h1, ?_⟩
  · have h := run_enterLoop_outer (P := Try.prog) (w := Wa) fn tm #[9, 10] asg bdy
    rw [hza] at h
    rw [← hW1, hrec]
    exact h
  · simp only [resolve]
    simp [go_sem, ← htm]
  · simp [invoke, go_sem]
  · have hy : ∀ (W : World) (x y : Value), W.heap[s + 5]? = some (.loop (rec .ready none)) → (Instr.yield (s + 5) #[x, y]).run Try.prog W = .ok (.round (s + 5) fn ((tm.setIfInBounds 9 x).setIfInBounds 10 y) asg bdy) W := fun W x y h => by
      have h := run_yield (P := Try.prog) (args := #[x, y]) h (by rw [hrec]; rfl)
      rw [hrec] at h
      simpa using h
    refine (each1_in (m - 1) (by omega) bs n A c (s + 5) (s + 1 + 1 + 1) (s + 6) (fun b pre W => W.heap[s + 5]? = some (.loop (rec .ready none)) ∧ JB s b w pre W)
      (fun er ep W => W.heap[s + 5]? = some (.loop (rec .done (some .ret))) ∧ W.heap[s + 4]? = some (.deferred (some [])) ∧ Blk W s 36 #[.slice none 0 0] ∧ Blk W (s + 1) 32 #[.int .i64 (er : Nat), .int .i64 (ep : Nat)] ∧ Below s w W)
      W1 hn hl (by rw [(hk3.below hB1 (by omega)).cell]; rfl) hsW hz1 hJ0 ?hJ ?hY ?hE).mono ?fin
    case hJ =>
      rintro b pre W q p Aq cq W' hq hqb ⟨hr, hj⟩ hR hO
      have hlt : s + 5 < W.heap.size := (Array.getElem?_eq_some_iff.1 hr).1
      exact ⟨(hO.block _ hlt (by omega)).trans hr, hj.keep (Chg.of_only (S := fun k => k = q) hO rfl) fun k hk => by omega⟩
    case hY =>
      rintro b pre f W ⟨hr, hj⟩ hpl hbW
      refine ⟨fn, _, asg, bdy, hy W _ _ hr, roundIn_of_wpIn trivial ?_⟩
      rw [← hasg, ← htm]
      simp only [List.setIfInBounds_toArray, List.set_cons_succ, List.set_cons_zero]
      obtain ⟨fnum, fw, fn_, ⟨fA, fc, fxs⟩, fat⟩ := f
      simp only [fvC]
      gi_wp2
      obtain ⟨W3, hW3⟩ : ∃ W3, (W.alloc (.cells #[.int .i64 fnum, .int .u8 fw, .int .u64 (fn_ : Int), .slice fA fxs.length fc, .int .i64 fat] 56)).alloc (.cells #[.int .i64 0, .int .i64 0] 32) = W3 := ⟨_, rfl⟩
      obtain ⟨z, hz⟩ : ∃ z, W.heap.size = z := ⟨_, rfl⟩
      have hlt : s + 5 < W.heap.size := (Array.getElem?_eq_some_iff.1 hr).1
      have hc3 : ∀ S, Chg S W W3 := fun S => by rw [← hW3]; exact ((Chg.refl S W).alloc _).alloc _
      have hr3 := ((hc3 (fun _ => False)).block _ hlt (fun h => h)).trans hr
      have hj3 := hj.keep (hc3 (fun _ => False)) (fun k hk => hk.elim)
      have hkf : Blk W3 z 56 #[.int .i64 fnum, .int .u8 fw, .int .u64 (fn_ : Int), .slice fA fxs.length fc, .int .i64 fat] := by rw [← hW3, ← hz]; exact (Blk.new W _ _).alloc _
      have hkg : Blk W3 (z + 1) 32 #[.int .i64 0, .int .i64 0] := by
        have h := Blk.new (W.alloc (.cells #[.int .i64 fnum, .int .u8 fw, .int .u64 (fn_ : Int), .slice fA fxs.length fc, .int .i64 fat] 56)) 32 #[.int .i64 0, .int .i64 0]
        rw [World.size_alloc, hz, hW3] at h
        exact h
      rw [hW3, hz]
      have hbr := run_beginRound (P := Try.prog) hr3 (by rw [hrec])
      obtain ⟨W4, hW4⟩ : ∃ W4, W3.putObj (s + 5) (.loop { rec .ready none with state := .busy }) = W4 := ⟨_, rfl⟩
      have hlt3 : s + 5 < W3.heap.size := (Array.getElem?_eq_some_iff.1 hr3).1
      have hc4 : ∀ S : Nat → Prop, S (s + 5) → Chg S W3 W4 := fun S hS => by rw [← hW4]; exact Chg.putObj _ hS
      have hr4 : W4.heap[s + 5]? = some (.loop { rec .ready none with state := .busy }) := by rw [← hW4]; exact World.putObj_heap_same hlt3
      have hj4 := hj3.keep (hc4 (fun k => k = s + 5) rfl) (fun k hk => .inl hk)
      have hkf4 := (hc4 (fun k => k = s + 5) rfl).blk hkf (by omega)
      have hkg4 := (hc4 (fun k => k = s + 5) rfl).blk hkg (by omega)
      have hcW : Chg (fun k => k < s + 6 ∨ b ≤ k) W W4 := (hc3 _).trans (hc4 _ (by omega))
      have hzb : b ≤ z := by omega
      have hz4 : z + 2 ≤ W4.heap.size := hkg4.lt
      rw [hW4] at hbr
      refine ⟨W4, hbr, ?_⟩
      obtain ⟨v, hv, ho⟩ := hj4.row
      have HJ4 := hid hj4
      have HV := hid hv
      have HO := hid ho
      have HR4 := hid hr4
      have HCW := hid hcW
      have hc0 := hv.cell 0
      have hf0 := hv.frozen 0
      have d0 := hkf4.cell 0
      have d1 := hkf4.cell 1
      have d2 := hkf4.cell 2
      have d3 := hkf4.cell 3
      have d4 := hkf4.cell 4
      have e0 := hkg4.cell 0
      simp only [List.getElem?_toArray, List.getElem?_cons_zero, List.getElem?_cons_succ] at hc0 d0 d1 d2 d3 d4 e0
      clear hj4 hv ho hr4 hcW hkf4 hkg4 hkf hkg hj3 hr3 hc3 hc4 hbr hW4 hW3 hlt3 hj hr hlt hJ0 hsW hB1 hK1 hL1 hz1 hsa hk0 hk1 hk2 hk3 hba hza
      rw [← hbdy]
      gi_wp2_with (gi_at_builtin; refine wpListIn_append_rd _ rfl _ _ 36 rfl b 56 i5 (.agg #[.int .i64 0, .int .u8 0, .int .u64 0, .slice none 0 0, .int .i64 0]) 5 56 Try.underlying36 hi5 hi50 hi51 hi52 rfl (by decide) v pre.length (pre.flatMap fvC) rfl (HO.out.alloc _) ⟨W4.heap.size, 0, none⟩ 1 1 [.int .i64 fnum, .int .u8 fw, .int .u64 (fn_ : Int), .slice fA fxs.length fc, .int .i64 fat] rfl rfl (Rd.new W4 56 #[.int .i64 fnum, .int .u8 fw, .int .u64 (fn_ : Int), .slice fA fxs.length fc, .int .i64 fat]) (by simp [Value.oneCell']) (by simp only [maxLen]; omega) (by omega) (by simp; omega) ?_; intro v' w1 hown' hgrow; obtain ⟨g', cap', rfl⟩ := ownsRow_succ hown'; have hst := JB.step (f := ⟨fnum, fw, fn_, ⟨fA, fc, fxs⟩, fat⟩) HJ4.out HV.out HO.out hgrow hown'; have hg1 : some (s + 2) ≠ v.ownBlock := (fun e => by have := (HO.out.lt _ e.symm).1; have := HJ4.out.le; omega); have hw1 := (hgrow.block (s + 2) (by have := HV.out.lt; simp; omega) hg1).trans (HV.out.alloc _); have hc1 := Blk.cell hw1 0; have hf1 := Blk.frozen hw1 0; simp only [List.getElem?_toArray, List.getElem?_cons_zero] at hc1)
      obtain ⟨hj5, hc5⟩ := hst
      have hle := hj5.le
      have hlt5 := (Array.getElem?_eq_some_iff.1 HR4.out).1
      have hr5 := (hc5.block _ hlt5 (by omega)).trans HR4.out
      simp only [hrec] at hr5
      have hend := run_endRound (P := Try.prog) none hr5
      refine ⟨_, _, hend, rfl, ⟨World.putObj_heap_same (Array.getElem?_eq_some_iff.1 hr5).1, hj5.keep (Chg.putObj (S := fun k => k = s + 5) _ rfl) (fun k hk => .inl hk)⟩, ?_⟩
      exact (HCW.out.trans (hc5.mono fun k _ hk => by omega)).trans (Chg.putObj _ (by omega))
    case hE =>
      rintro b pre er ep W ⟨hr, hj⟩ her
      refine ⟨fn, _, asg, bdy, hy W _ _ hr, roundIn_of_wpIn trivial ?_⟩
      rw [← hasg, ← htm]
      simp only [List.setIfInBounds_toArray, List.set_cons_succ, List.set_cons_zero]
      gi_wp2
      obtain ⟨W3, hW3⟩ : ∃ W3, (W.alloc (.cells #[.int .i64 0, .int .u8 0, .int .u64 0, .slice none 0 0, .int .i64 0] 56)).alloc (.cells #[.int .i64 (er : Int), .int .i64 (ep : Int)] 32) = W3 := ⟨_, rfl⟩
      obtain ⟨z, hz⟩ : ∃ z, W.heap.size = z := ⟨_, rfl⟩
      have hlt : s + 5 < W.heap.size := (Array.getElem?_eq_some_iff.1 hr).1
      have hc3 : ∀ S, Chg S W W3 := fun S => by rw [← hW3]; exact ((Chg.refl S W).alloc _).alloc _
      have hr3 := ((hc3 (fun _ => False)).block _ hlt (fun h => h)).trans hr
      have hj3 := hj.keep (hc3 (fun _ => False)) (fun k hk => hk.elim)
      have hkf : Blk W3 z 56 #[.int .i64 0, .int .u8 0, .int .u64 0, .slice none 0 0, .int .i64 0] := by rw [← hW3, ← hz]; exact (Blk.new W _ _).alloc _
      have hkg : Blk W3 (z + 1) 32 #[.int .i64 (er : Int), .int .i64 (ep : Int)] := by
        have h := Blk.new (W.alloc (.cells #[.int .i64 0, .int .u8 0, .int .u64 0, .slice none 0 0, .int .i64 0] 56)) 32 #[.int .i64 (er : Int), .int .i64 (ep : Int)]
        rw [World.size_alloc, hz, hW3] at h
        exact h
      rw [hW3, hz]
      have hbr := run_beginRound (P := Try.prog) hr3 (by rw [hrec])
      obtain ⟨W4, hW4⟩ : ∃ W4, W3.putObj (s + 5) (.loop { rec .ready none with state := .busy }) = W4 := ⟨_, rfl⟩
      have hlt3 : s + 5 < W3.heap.size := (Array.getElem?_eq_some_iff.1 hr3).1
      have hc4 : ∀ S : Nat → Prop, S (s + 5) → Chg S W3 W4 := fun S hS => by rw [← hW4]; exact Chg.putObj _ hS
      have hr4 : W4.heap[s + 5]? = some (.loop { rec .ready none with state := .busy }) := by rw [← hW4]; exact World.putObj_heap_same hlt3
      have hj4 := hj3.keep (hc4 (fun k => k = s + 5) rfl) (fun k hk => .inl hk)
      have hkf4 := (hc4 (fun k => k = s + 5) rfl).blk hkf (by omega)
      have hkg4 := (hc4 (fun k => k = s + 5) rfl).blk hkg (by omega)
      have hz4 : z + 2 ≤ W4.heap.size := hkg4.lt
      rw [hW4] at hbr
      refine ⟨W4, hbr, ?_⟩
      obtain ⟨v, hv, ho⟩ := hj4.row
      have HJ4 := hid hj4
      have HV := hid hv
      have HO := hid ho
      have HR4 := hid hr4
      have k00 := hj4.r0.cell 0
      have k01 := hj4.r0.frozen 0
      have k10 := hj4.r1.cell 0
      have k11 := hj4.r1.cell 1
      have k12 := hj4.r1.frozen 0
      have k13 := hj4.r1.frozen 1
      have e1 := hkg4.cell 1
      have e2 := hkg4.frozen 0
      have e3 := hkg4.frozen 1
      have hsz5 : s + 5 < z := by omega
      have hmx : Try.prog.follows .mixedOrders = true := by kernel_rfl
      have heb : (((er : Nat) : Int) != 0) = true := by simpa using her
      have hc0 := hv.cell 0
      have hf0 := hv.frozen 0
      have d0 := hkf4.cell 0
      have d1 := hkf4.cell 1
      have d2 := hkf4.cell 2
      have d3 := hkf4.cell 3
      have d4 := hkf4.cell 4
      have e0 := hkg4.cell 0
      simp only [List.getElem?_toArray, List.getElem?_cons_zero, List.getElem?_cons_succ] at e0 e1 k00 k10 k11
      clear hj4 hv ho hr4 hkf4 hkg4 hkf hkg hj3 hr3 hc3 hc4 hbr hW4 hW3 hlt3 hj hr hlt hJ0 hsW hB1 hK1 hL1 hz1 hsa hk0 hk1 hk2 hk3 hba hza
      rw [← hbdy]
      gi_wp2
      gi_region_with_o (fail)
      all_goals
        gi_wp2
        obtain ⟨hc5, hb0, hb1⟩ := HJ4.out.stop (.int .i64 (er : Int)) (.int .i64 (ep : Int))
        have hle := HJ4.out.le
        have hlt5 := (Array.getElem?_eq_some_iff.1 HR4.out).1
        have hr5 := (hc5.block _ hlt5 (by omega)).trans HR4.out
        have hd5 := (hc5.block _ (by omega) (by omega)).trans HJ4.out.dfr
        have hbel5 := HJ4.out.bel.trans (hc5.below (B := s) (fun k hk => by omega) (by omega))
        simp only [hrec] at hr5
        have hend := run_endRound (P := Try.prog) (some .ret) hr5
        have hcp := fun o => Chg.putObj (W := (((W4.setCell ⟨s, 0, none⟩ (.slice none 0 0)).setCell ⟨s + 1, 0, none⟩ (.int .i64 (er : Int))).setCell ⟨s + 1, 1, none⟩ (.int .i64 (ep : Int))).drew) (l := s + 5) (S := fun k => k = s + 5) o rfl
        exact ⟨_, _, hend, rfl, by simp only [hrec]; exact World.putObj_heap_same (Array.getElem?_eq_some_iff.1 hr5).1, ((hcp _).block _ (Array.getElem?_eq_some_iff.1 hd5).1 (by omega)).trans hd5, (hcp _).blk hb0 (by omega), (hcp _).blk hb1 (by omega), hbel5.trans ((hcp _).below (fun k hk => by omega) (by have := hb1.lt; omega))⟩
    case fin =>
      clear hy
      rintro e W2 ⟨⟨v, rfl⟩, (⟨he, b, pre, hb, ⟨hr, hj⟩, hfa, hsl⟩ | ⟨he, hr, hd, hr0, hr1, hbel⟩)⟩
      · refine ⟨none, _, by have := run_endLoop (P := Try.prog) hr (by rw [hrec]; simp); rw [hrec] at this; exact this, ?_⟩
        simp only []
        have hcp := fun o => Chg.putObj (W := W2) (l := s + 5) (S := fun k => k = s + 5) o rfl
        have hj3 := hj.keep (hcp (.loop { state := LoopState.exhausted, pending := none, fn := fn, tmps := tm, params := #[9, 10], assign := asg, body := bdy, defers := s + 4 })) (fun k hk => .inl hk)
        have hsl3 := fun f hf => (hcp (.loop { state := LoopState.exhausted, pending := none, fn := fn, tmps := tm, params := #[9, 10], assign := asg, body := bdy, defers := s + 4 })).sl (hsl f hf).1 (n := f.s.xs.length) ((hsl f hf).2.imp fun k hk => by omega) (by simp)
        generalize W2.putObj (s + 5) _ = W3 at *
        obtain ⟨v, hv, ho⟩ := hj3.row
        obtain ⟨vA, vc, rfl⟩ : ∃ vA vc, v = .slice vA pre.length vc := by
          rcases ho.2 with ⟨rfl, h⟩ | ⟨g, cap, cur, rfl, _⟩
          · exact ⟨none, 0, by rw [h]⟩
          · exact ⟨_, _, rfl⟩
        have c2 := hv.cell 0
        have k00 := hj3.r0.cell 0
        have k01 := hj3.r0.frozen 0
        have k10 := hj3.r1.cell 0
        have k11 := hj3.r1.cell 1
        have k12 := hj3.r1.frozen 0
        have k13 := hj3.r1.frozen 1
        simp only [List.getElem?_toArray, List.getElem?_cons_zero, List.getElem?_cons_succ] at c2 k00 k10 k11
        rw [← htm]
        clear hr hj hJ0 hsW hB1 hK1 hL1 hz1 hsa hk0 hk1 hk2 hk3 hba hza hcp hW1
        gi_wp2
        obtain ⟨hc5, hb0, hb1⟩ := hj3.fin (.slice vA pre.length vc) (.int .i64 0) (.int .i64 0)
        have hd5 := (hc5.block _ (Array.getElem?_eq_some_iff.1 hj3.dfr).1 (by omega)).trans hj3.dfr
        have ho5 := own_chgS ho hc5 fun g hg hk => by have := (ho.lt g hg).1; omega
        have hsl5 := fun f hf => hc5.sl (hsl3 f hf) (n := f.s.xs.length) ((hsl f hf).2.imp fun k hk => by omega) (by simp)
        have hbel5 := hj3.bel.trans (hc5.below (B := s) (fun k hk => by omega) (by have := hj3.r0.lt; omega))
        generalize ((W3.setCell _ _).setCell _ _).setCell _ _ = W4 at *
        refine ⟨by simp, .inl ⟨_, _, rfl, run_takeDeferred hd5, ?_⟩⟩
        have hcf := Chg.putObj (W := W4) (l := s + 4) (S := fun k => k = s + 4) (.deferred none) rfl
        have f0 := (hcf.blk hb0 (by omega)).cell 0
        have f1 := (hcf.blk hb1 (by omega)).cell 0
        have f2 := (hcf.blk hb1 (by omega)).cell 1
        have ho6 := own_chgS ho5 hcf fun g hg hk => by have := (ho5.lt g hg).1; omega
        have hsl6 := fun f hf => hcf.sl (hsl5 f hf) (n := f.s.xs.length) ((hsl f hf).2.imp fun k hk => by omega) (by simp)
        have hbel6 := hbel5.trans (hcf.below (B := s) (fun k hk => by omega) (by have := hb0.lt; omega))
        simp only [List.getElem?_toArray, List.getElem?_cons_zero, List.getElem?_cons_succ] at f0 f1 f2
        generalize W4.putObj _ _ = W5 at *
        exact ⟨.tuple #[.slice vA pre.length vc, .agg #[.int .i64 0, .int .i64 0]], by simp [results, Try.results27, go_sem, f0, f1, f2], .inl ⟨he, _, b, pre, rfl, by omega, ho6, hfa, fun f hf => ⟨hsl6 f hf, (hsl f hf).2.imp fun k hk => by omega⟩⟩, by rw [hsz]; exact hbel6⟩
      · refine ⟨some .ret, _, by have := run_endLoop (P := Try.prog) hr (by rw [hrec]; simp); rw [hrec] at this; exact this, ?_⟩
        simp only []
        gi_wp2
        have hcp := Chg.putObj (W := W2) (l := s + 5) (S := fun k => k = s + 5) (.loop { state := LoopState.exhausted, pending := some .ret, fn := fn, tmps := tm, params := #[9, 10], assign := asg, body := bdy, defers := s + 4 }) rfl
        have hd3 := (hcp.block _ (Array.getElem?_eq_some_iff.1 hd).1 (by omega)).trans hd
        have hb0 := hcp.blk hr0 (by omega)
        have hb1 := hcp.blk hr1 (by omega)
        have hbel3 := hbel.trans (hcp.below (B := s) (fun k hk => by omega) (by have := hr0.lt; omega))
        generalize W2.putObj (s + 5) _ = W3 at *
        refine ⟨by simp, .inl ⟨_, _, rfl, run_takeDeferred hd3, ?_⟩⟩
        have hcf := Chg.putObj (W := W3) (l := s + 4) (S := fun k => k = s + 4) (.deferred none) rfl
        have f0 := (hcf.blk hb0 (by omega)).cell 0
        have f1 := (hcf.blk hb1 (by omega)).cell 0
        have f2 := (hcf.blk hb1 (by omega)).cell 1
        have hbel6 := hbel3.trans (hcf.below (B := s) (fun k hk => by omega) (by have := hb0.lt; omega))
        simp only [List.getElem?_toArray, List.getElem?_cons_zero, List.getElem?_cons_succ] at f0 f1 f2
        generalize W3.putObj _ _ = W5 at *
        exact ⟨.tuple #[.slice none 0 0, .agg #[.int .i64 ((flds bs n 0).2.1 : Nat), .int .i64 ((flds bs n 0).2.2 : Nat)]], by simp [results, Try.results27, go_sem, f0, f1, f2, ← htm], .inr ⟨he, rfl⟩, by rw [hsz]; exact hbel6⟩
end Go.Proofs.Ytealjpolomhdeaa
set_option linter.unusedVariables false
namespace Go.Proofs.Ytealjpolomhdeaa
open Go.RowKit
def sv (s : ByteArray) : Value := .string s
/-- A message. -/
structure MV where
  k : Nat
  n0 : Nat
  n1 : Nat
  n2 : Nat
  n3 : Nat
  n4 : Nat
  n5 : Nat
  s0 : ByteArray
  s1 : ByteArray
  A : Option Addr
  c : Nat
  l : List ByteArray
def MV.num (m : MV) : Int → Nat
  | 0 => m.n0
  | 1 => m.n1
  | 2 => m.n2
  | 3 => m.n3
  | 4 => m.n4
  | 5 => m.n5
  | _ => 0
def MV.text (m : MV) : Int → ByteArray
  | 0 => m.s0
  | 1 => m.s1
  | _ => ⟨#[]⟩
def mvA (m : MV) : Array Value := #[.int .u8 (m.k : Int), .int .u64 (m.n0 : Int), .int .u64 (m.n1 : Int), .int .u64 (m.n2 : Int), .int .u64 (m.n3 : Int), .int .u64 (m.n4 : Int), .int .u64 (m.n5 : Int), .string m.s0, .string m.s1, .slice m.A m.l.length m.c]
def mvV (m : MV) : Value := .agg (mvA m)
structure MvOk (w : World) (m : MV) : Prop where
  k : m.k ≤ 255
  n : ∀ i, m.num i ≤ 18446744073709551615
  s : ∀ i, (m.text i).size ≤ 9223372036854775807
  e : ∀ x ∈ m.l, x.size ≤ 9223372036854775807
  l : Sl w m.A m.c (m.l.map sv)
theorem MvOk.below {w w' : World} {m : MV} (h : MvOk w m) (hb : Below w.heap.size w w') : MvOk w' m := ⟨h.k, h.n, h.s, h.e, h.l.below hb⟩
theorem num_out (m : MV) (i : Int) (h : i < 0 ∨ 6 ≤ i) : m.num i = 0 := by
  unfold MV.num; split <;> first | omega | rfl
theorem text_out (m : MV) (i : Int) (h : i < 0 ∨ 2 ≤ i) : m.text i = ⟨#[]⟩ := by
  unfold MV.text; split <;> first | omega | rfl
/-- Has a field nothing? -/
def dflB (m : MV) (t i : Int) : Bool := if 1 ≤ t ∧ t ≤ 6 then decide (m.num i = 0) else if 7 ≤ t ∧ t ≤ 9 then decide (m.text i = ⟨#[]⟩) else if t = 10 then decide (m.l.length = 0) else true
set_option maxRecDepth 100000 in
set_option maxHeartbeats 1000000 in
theorem vnum_any (m : MV) (i : Int) (w : World) : Calls Try.prog 90 #[mvV m, .int .i64 i] w fun e w' => e = .returned (.int .u64 (m.num i : Nat)) ∧ Below w.heap.size w w' := by
  have hi : i < 0 ∨ 6 ≤ i ∨ i = 0 ∨ i = 1 ∨ i = 2 ∨ i = 3 ∨ i = 4 ∨ i = 5 := by omega
  rcases hi with hi | hi | rfl | rfl | rfl | rfl | rfl | rfl
  case' inl => have ho := hid (num_out m i (by omega))
  case' inr.inl => have ho := hid (num_out m i (by omega))
  all_goals
    unfold mvV mvA
    generalize m.l.length = len
    go_enter Try.func90, Try.ntmps90
    go_wp2
    go_ret
  · rw [ho.out]; exact ⟨rfl, bw_a (Below.refl _ w) _⟩
  · rw [ho.out]; exact ⟨rfl, bw_a (Below.refl _ w) _⟩
  all_goals exact ⟨rfl, bw_a (Below.refl _ w) _⟩
set_option maxRecDepth 100000 in
set_option maxHeartbeats 1000000 in
theorem vtext_any (m : MV) (i : Int) (w : World) : Calls Try.prog 91 #[mvV m, .int .i64 i] w fun e w' => e = .returned (.string (m.text i)) ∧ Below w.heap.size w w' := by
  have hi : i < 0 ∨ 2 ≤ i ∨ i = 0 ∨ i = 1 := by omega
  rcases hi with hi | hi | rfl | rfl
  case' inl => have ho := hid (text_out m i (by omega))
  case' inr.inl => have ho := hid (text_out m i (by omega))
  all_goals
    unfold mvV mvA
    generalize m.l.length = len
    go_enter Try.func91, Try.ntmps91
    go_wp2
    go_ret
  · rw [ho.out]; exact ⟨rfl, bw_a (Below.refl _ w) _⟩
  · rw [ho.out]; exact ⟨rfl, bw_a (Below.refl _ w) _⟩
  all_goals exact ⟨rfl, bw_a (Below.refl _ w) _⟩
set_option maxRecDepth 100000 in
set_option maxHeartbeats 1000000 in
theorem vint_any (m : MV) (i : Int) (w : World) : Calls Try.prog 118 #[mvV m, .int .i64 i] w fun e w' => e = .returned (.int .i64 (wrap64 (m.num i : Nat))) ∧ Below w.heap.size w w' := by
  have hn := fun W => vnum_any m i W
  unfold mvV mvA at *
  generalize m.l.length = len at *
  generalize m.num i = x at *
  have HN := hid hn
  clear hn
  go_enter Try.func118, Try.ntmps118
  go_wp2_with fail
  refine (HN.out _).mono ?_
  rintro e w1 ⟨rfl, hb1⟩
  have hb := (bw_a (Below.refl _ w) (.cells #[.int .u8 (m.k : Int), .int .u64 (m.n0 : Int), .int .u64 (m.n1 : Int), .int .u64 (m.n2 : Int), .int .u64 (m.n3 : Int), .int .u64 (m.n4 : Int), .int .u64 (m.n5 : Int), .string m.s0, .string m.s1, .slice m.A len m.c] 29))
  have HB := hid (bw_t hb hb1)
  clear hb hb1
  go_wp2_with fail
  go_ret
  exact ⟨rfl, HB.out⟩
theorem dfl_num (m : MV) (t i : Int) (h : 1 ≤ t ∧ t ≤ 6) : dflB m t i = decide (m.num i = 0) := by unfold dflB; rw [if_pos h]
theorem dfl_text (m : MV) (t i : Int) (h : 7 ≤ t ∧ t ≤ 9) : dflB m t i = decide (m.text i = ⟨#[]⟩) := by unfold dflB; rw [if_neg (by omega), if_pos h]
theorem dfl_list (m : MV) (i : Int) : dflB m 10 i = decide (m.l.length = 0) := by unfold dflB; rw [if_neg (by omega), if_neg (by omega), if_pos rfl]
theorem dfl_out (m : MV) (t i : Int) (h : t < 1 ∨ 10 < t) : dflB m t i = true := by unfold dflB; rw [if_neg (by omega), if_neg (by omega), if_neg (by omega)]
theorem bytes_nil (s : ByteArray) : (s = ⟨#[]⟩) ↔ s.toList = [] := by
  rw [ByteArray.toList_eq]
  obtain ⟨d⟩ := s
  simp
set_option maxRecDepth 100000 in
set_option maxHeartbeats 2000000 in
theorem vdef_any (m : MV) (num t i : Int) (w : World) : Calls Try.prog 63 #[mvV m, .agg #[.int .i64 num, .int .i64 t, .int .i64 i]] w fun e w' => e = .returned (.bool (dflB m t i)) ∧ Below w.heap.size w w' := by
  have hn := fun W => vnum_any m i W
  have ht := fun W => vtext_any m i W
  have hdn := dfl_num m t i
  have hdt := dfl_text m t i
  have hdl := dfl_list m i
  have hdo := dfl_out m t i
  have hb := fun len => bw_a (bw_a (Below.refl _ w) (.cells #[.int .u8 (m.k : Int), .int .u64 (m.n0 : Int), .int .u64 (m.n1 : Int), .int .u64 (m.n2 : Int), .int .u64 (m.n3 : Int), .int .u64 (m.n4 : Int), .int .u64 (m.n5 : Int), .string m.s0, .string m.s1, .slice m.A len m.c] 29)) (.cells #[.int .i64 num, .int .i64 t, .int .i64 i] 62)
  unfold mvV mvA at *
  generalize hlen : m.l.length = len at *
  generalize m.num i = x at *
  generalize m.text i = y at *
  have HN := hid hn
  have HT := hid ht
  have HB := hid (hb len)
  clear hn ht hb
  have hcase : (t = 1 ∨ t = 2 ∨ t = 3 ∨ t = 4 ∨ t = 5 ∨ t = 6) ∨ (t = 7 ∨ t = 8 ∨ t = 9) ∨ t = 10 ∨ (t < 1 ∨ 10 < t) := by omega
  rcases hcase with h | h | rfl | h
  · have hd := hdn (by omega)
    rw [hd]
    clear hdn hdt hdl hdo hd
    by_cases hx : x = 0
    · have hd : decide (x = 0) = true := by simpa using hx
      rw [hd]
      subst hx
      clear hd
      rcases h with rfl | rfl | rfl | rfl | rfl | rfl
      all_goals
        go_enter Try.func63, Try.ntmps63
        go_wp2_with fail
        refine (HN.out _).mono ?_
        rintro e w1 ⟨rfl, hb1⟩
        have HB1 := hid (bw_t HB.out hb1)
        clear hb1
        go_wp2_with fail
        go_ret
        exact ⟨rfl, HB1.out⟩
    · have hd : decide (x = 0) = false := by simpa using hx
      have hxb : ((x : Int) == 0) = false := by simp; omega
      rw [hd]
      clear hd
      rcases h with rfl | rfl | rfl | rfl | rfl | rfl
      all_goals
        go_enter Try.func63, Try.ntmps63
        go_wp2_with fail
        refine (HN.out _).mono ?_
        rintro e w1 ⟨rfl, hb1⟩
        have HB1 := hid (bw_t HB.out hb1)
        clear hb1
        go_wp2_with fail
        go_ret
        exact ⟨rfl, HB1.out⟩
  · have hd := hdt (by omega)
    rw [hd]
    clear hdn hdt hdl hdo hd
    by_cases hx : y = ⟨#[]⟩
    · have hd : decide (y = ⟨#[]⟩) = true := by simpa using hx
      rw [hd]
      subst hx
      clear hd
      rcases h with rfl | rfl | rfl
      all_goals
        go_enter Try.func63, Try.ntmps63
        go_wp2_with fail
        refine (HT.out _).mono ?_
        rintro e w1 ⟨rfl, hb1⟩
        have HB1 := hid (bw_t HB.out hb1)
        clear hb1
        go_wp2_with fail
        go_ret
        exact ⟨rfl, HB1.out⟩
    · have hd : decide (y = ⟨#[]⟩) = false := by simpa using hx
      have hx1 : ¬ y.toList = [] := fun h => hx ((bytes_nil y).2 h)
      have hx2 : (y.toList == []) = false := by simpa using hx1
      have hx3 : y.toList.isEmpty = false := by simpa using hx1
      have hx4 : (!y.toList.isEmpty) = true := by simpa using hx1
      rw [hd]
      have HX := hid hx
      clear hd hx
      rcases h with rfl | rfl | rfl
      all_goals
        go_enter Try.func63, Try.ntmps63
        go_wp2_with fail
        refine (HT.out _).mono ?_
        rintro e w1 ⟨rfl, hb1⟩
        have HB1 := hid (bw_t HB.out hb1)
        clear hb1
        go_wp2_with fail
        go_ret
        exact ⟨rfl, HB1.out⟩
  · rw [hdl]
    clear hdn hdt hdl hdo
    by_cases hx : len = 0
    · have hd : decide (len = 0) = true := by simpa using hx
      rw [hd]
      clear hd
      subst hx
      go_enter Try.func63, Try.ntmps63
      go_wp2_with fail
      go_ret
      exact ⟨rfl, HB.out⟩
    · have hd : decide (len = 0) = false := by simpa using hx
      have hxb : ((len : Int) == 0) = false := by simp; omega
      rw [hd]
      clear hd
      go_enter Try.func63, Try.ntmps63
      go_wp2_with fail
      go_ret
      exact ⟨rfl, HB.out⟩
  · rw [hdo h]
    clear hdn hdt hdl hdo
    have n1 : (t == 1) = false := by simp; omega
    have n2 : (t == 2) = false := by simp; omega
    have n3 : (t == 3) = false := by simp; omega
    have n4 : (t == 4) = false := by simp; omega
    have n5 : (t == 5) = false := by simp; omega
    have n6 : (t == 6) = false := by simp; omega
    have n7 : (t == 7) = false := by simp; omega
    have n8 : (t == 8) = false := by simp; omega
    have n9 : (t == 9) = false := by simp; omega
    have n10 : (t == 10) = false := by simp; omega
    go_enter Try.func63, Try.ntmps63
    go_wp2_with fail
    go_ret
    exact ⟨rfl, HB.out⟩
end Go.Proofs.Ytealjpolomhdeaa
set_option linter.unusedVariables false
namespace Go.Proofs.Ytealjpolomhdeaa
open Go.RowKit
theorem eq_nums (a0 a1 a2 a3 a4 a5 b0 b1 b2 b3 b4 b5 : Nat) (W : World) : (binOp .eql 25 (.agg #[.int .u64 (a0 : Int), .int .u64 (a1 : Int), .int .u64 (a2 : Int), .int .u64 (a3 : Int), .int .u64 (a4 : Int), .int .u64 (a5 : Int)]) (.agg #[.int .u64 (b0 : Int), .int .u64 (b1 : Int), .int .u64 (b2 : Int), .int .u64 (b3 : Int), .int .u64 (b4 : Int), .int .u64 (b5 : Int)])).run Try.prog W = .ok (.bool (decide (a0 = b0 ∧ a1 = b1 ∧ a2 = b2 ∧ a3 = b3 ∧ a4 = b4 ∧ a5 = b5))) W := by
  have u3 := Try.underlying24
  have g3 := Try.isAgg24
  have z3 := Try.sizeOf24
  rw [run_eql_struct, show (10000 : Nat) = 9999 + 1 from rfl, Op.equalIn]
  simp only [Sem.run_bind, run_underlying Try.underlying25, Result.andThen_ok]
  simp only [Std.Legacy.Range.forIn_eq_forIn_range', Std.Legacy.Range.size, Nat.sub_zero, Nat.add_sub_cancel, Nat.div_one, List.range'_succ, List.range'_zero, List.forIn_cons, List.forIn_nil]
  go_simp
  by_cases h1 : a0 = b0
  case neg => (simp [h1]; try (intros; omega))
  by_cases h2 : a1 = b1
  case neg => (simp [h1, h2]; try (intros; omega))
  by_cases h3 : a2 = b2
  case neg => (simp [h1, h2, h3]; try (intros; omega))
  by_cases h4 : a3 = b3
  case neg => (simp [h1, h2, h3, h4]; try (intros; omega))
  by_cases h5 : a4 = b4
  case neg => (simp [h1, h2, h3, h4, h5]; try (intros; omega))
  by_cases h6 : a5 = b5
  case neg => (simp [h1, h2, h3, h4, h5, h6]; try (intros; omega))
  simp [h1, h2, h3, h4, h5, h6]
theorem bstr_iff (a b : ByteArray) : a.toList = b.toList ↔ a = b := by
  constructor
  · intro h
    rw [ByteArray.toList_eq, ByteArray.toList_eq] at h
    obtain ⟨⟨x⟩⟩ := a
    obtain ⟨⟨y⟩⟩ := b
    simp at h
    rw [h]
  · rintro rfl; rfl
theorem bstr_ne' {q b : ByteArray} (h : q ≠ b) : (q.toList == b.toList) = false := by
  have h2 := fun h2 => h ((bstr_iff q b).1 h2)
  simpa using h2
theorem eq_texts (a0 a1 b0 b1 : ByteArray) (W : World) : (binOp .eql 26 (.agg #[.string a0, .string a1]) (.agg #[.string b0, .string b1])).run Try.prog W = .ok (.bool (decide (a0 = b0 ∧ a1 = b1))) W := by
  have u3 := Try.underlying9
  have g3 := Try.isAgg9
  have z3 := Try.sizeOf9
  rw [run_eql_struct, show (10000 : Nat) = 9999 + 1 from rfl, Op.equalIn]
  simp only [Sem.run_bind, run_underlying Try.underlying26, Result.andThen_ok]
  simp only [Std.Legacy.Range.forIn_eq_forIn_range', Std.Legacy.Range.size, Nat.sub_zero, Nat.add_sub_cancel, Nat.div_one, List.range'_succ, List.range'_zero, List.forIn_cons, List.forIn_nil]
  go_simp
  by_cases h1 : a0 = b0
  case neg => have h1' : ¬ a0.toList = b0.toList := fun h => h1 ((bstr_iff a0 b0).1 h); simp [h1, h1']
  by_cases h2 : a1 = b1
  case neg => have h2' : ¬ a1.toList = b1.toList := fun h => h2 ((bstr_iff a1 b1).1 h); simp [h1, h2, h2']
  simp [h1, h2]
theorem Try.infoStr : (Try.prog.info? 9).map (fun i => (i.zero, i.size, i.bytes)) = some (some (.string ⟨#[]⟩), 1, 16) := by kernel_rfl
theorem sv_one (l : List ByteArray) : ∀ u ∈ l.map sv, u.oneCell' = true := by
  intro u hu; obtain ⟨b, _, rfl⟩ := List.mem_map.1 hu; simp [sv, Value.oneCell']
set_option maxRecDepth 100000 in
set_option maxHeartbeats 1000000 in
theorem sclone_any (l : List ByteArray) (n : Nat) (A : Option Addr) (c : Nat) (w : World) (hn : l.length = n) (hl : n ≤ 1000000) (hs : Sl w A c (l.map sv)) :
    Calls Try.prog 68 #[.slice A n c] w fun e w' => ∃ v, e = .returned v ∧ w'.ownsRow w.heap.size 9 1 v n (l.map sv) ∧ Below w.heap.size w w' := by
  obtain ⟨i0, hi, hz0, hz1, hz2⟩ := info_parts Try.infoStr
  cases A with
  | none =>
    have hnil := hs.rd.none_nil
    obtain rfl : l = [] := by simpa using hnil
    obtain rfl := hs.nil0 rfl
    obtain rfl : n = 0 := by simpa using hn.symm
    have hnil : ∀ W, (binOp .eql 27 (.slice none 0 0) (.slice none 0 0)).run Try.prog W = .ok (.bool true) W := fun W => Lib.run_eql_slice_nil W _ _ none 0 0 0 0 Try.underlying27
    go_enter Try.func68, Try.ntmps68
    go_wp2
    go_ret
    exact ⟨_, rfl, World.ownsRow_nil _ _ _ _, Below.refl _ _⟩
  | some a =>
    have hrow0 : (w.alloc (.cells #[] 9)).ownsRow w.heap.size 9 1 (.slice (some ⟨w.heap.size, 0, none⟩) 0 0) 0 [] := World.ownsRow_made w #[] 0 (Nat.le_refl _) (by decide) rfl
    have hsa : Sl (w.alloc (.cells #[] 9)) (some a) c (l.map sv) := hs.below ((Below.refl _ _).alloc (Nat.le_refl _) _)
    have HN := hid hn
    clear hn
    have hnil : ∀ W, (binOp .eql 27 (.slice (some a) n c) (.slice none 0 0)).run Try.prog W = .ok (.bool false) W := fun W => Lib.run_eql_slice_nil W _ _ (some a) n c 0 0 Try.underlying27
    go_enter Try.func68, Try.ntmps68
    go_wp2_with (at_builtin; refine wpList_append_rd rfl (.tmp 5) (.tmp 6) 27 rfl w.heap.size 9 i0 (.string ⟨#[]⟩) 1 16 Try.underlying27 hi hz0 hz1 hz2 rfl (by decide) _ _ _ rfl hrow0 (some a) n c (l.map sv) rfl (by rw [List.length_map, HN.out, Nat.mul_one]) hsa.rd hsa.nil0 (sv_one _) (by simp only [maxLen]; omega) (by omega) (by simp) ?_; intro v1 w3 hown1 hgrow1)
    go_ret
    rw [Nat.zero_add] at hown1
    exact ⟨_, rfl, hown1, bw_g (bw_a (Below.refl _ _) _) hgrow1 (fun k ek => (hrow0.lt k ek).1)⟩
theorem take_next {α : Type} {l l2 : List α} {j : Nat} (h1 : j < l.length) (h2 : j < l2.length) (h : l.take j = l2.take j) (he : l[j] = l2[j]) : l.take (j + 1) = l2.take (j + 1) := by
  rw [List.take_succ_eq_append_getElem h1, List.take_succ_eq_append_getElem h2, h, he]
set_option maxRecDepth 100000 in
set_option maxHeartbeats 2000000 in
theorem sequal_any (l l2 : List ByteArray) (n n2 : Nat) (A A2 : Option Addr) (c c2 : Nat) (w : World) (hn : l.length = n) (hn2 : l2.length = n2) (hs : Sl w A c (l.map sv)) (hs2 : Sl w A2 c2 (l2.map sv)) :
    Calls Try.prog 44 #[.slice A n c, .slice A2 n2 c2] w fun e w' => e = .returned (.bool (decide (l = l2))) ∧ ∃ q, w' = w.drewN q := by
  have hc1 : n ≤ 9223372036854775807 := by have g1 := hs.cap; have g2 := hs.small; rw [List.length_map] at g1; omega
  have hc2 : n2 ≤ 9223372036854775807 := by have g1 := hs2.cap; have g2 := hs2.small; rw [List.length_map] at g1; omega
  obtain ⟨R, hR⟩ : ∃ R, decide (l = l2) = R := ⟨_, rfl⟩
  rw [hR]
  have HR := hid hR
  have HN := hid hn
  have HN2 := hid hn2
  have HS := hid hs
  have HS2 := hid hs2
  clear hR hn hn2 hs hs2
  by_cases hne : n = n2
  · subst hne
    go_enter Try.func44, Try.ntmps44
    go_wp2_with fail
    go_loopw [13] (fun i wr => ∃ (j q : Nat), j ≤ n ∧ i = .int .i64 (j : Int) ∧ l.take j = l2.take j ∧ wr = w.drewN q) (fun i _ => n - (intOf i).toNat)
    case atStart => exact ⟨0, 0, by omega, rfl, rfl, rfl⟩
    case round =>
      obtain ⟨j, q, hj, rfl, heq, rfl⟩ := hrel
      by_cases hlt : j < n
      · have hj1 : j < l.length := by have := HN.out; omega
        have hj2 : j < l2.length := by have := HN2.out; omega
        obtain ⟨b, off, rfl, hbw, t0⟩ := HS.out.rd j (sv l[j]) (by simp [hj1])
        obtain ⟨d, of2, rfl, hdw, t1⟩ := HS2.out.rd j (sv l2[j]) (by simp [hj2])
        have hnx := take_next hj1 hj2 heq
        have hno : ¬ l[j] = l2[j] → l ≠ l2 := fun h e => by subst e; exact h rfl
        have hji : (j : Int) < (n : Int) := by omega
        have hj0 : (0 : Int) ≤ (j : Int) := by omega
        unfold sv at t0 t1
        generalize l[j] = x at *
        generalize l2[j] = y at *
        have HNX := hid hnx
        have HNO := hid hno
        clear hnx hno heq
        by_cases hxy : x = y
        · subst hxy
          have HX := hid (HNX.out rfl)
          clear HNX HNO
          go_wp2_with fail
          go_quiet (fail)
          go_wp2_with fail
          exact ⟨⟨j + 1, q + nq, by omega, by go_num, HX.out, rfl⟩, by simp [intOf] <;> omega⟩
        · have heb := bstr_ne' hxy
          have HX := hid (HNO.out hxy)
          clear HNX HNO hxy
          go_wp2_with fail
          go_quiet (fail)
          go_wp2_with fail
          go_ret
          exact ⟨by rw [← HR.out, decide_eq_false HX.out]; rfl, q + nq, World.drewN_drewN _ _ _⟩
      · obtain rfl : j = n := by omega
        have hll : l = l2 := by
          have h1 := heq
          rwa [List.take_of_length_le (by have := HN.out; omega), List.take_of_length_le (by have := HN2.out; omega)] at h1
        have HX := hid hll
        clear hll heq
        go_wp2_with fail
        go_ret
        exact ⟨by rw [← HR.out, decide_eq_true HX.out]; rfl, _, rfl⟩
  · have hneb : ((n : Int) != (n2 : Int)) = true := by simp; omega
    have hX : l ≠ l2 := fun e => hne (by rw [← HN.out, ← HN2.out, e])
    have HX := hid hX
    clear hX
    go_enter Try.func44, Try.ntmps44
    go_wp2_with fail
    go_ret
    exact ⟨by rw [← HR.out, decide_eq_false HX.out]; rfl, 0, rfl⟩
end Go.Proofs.Ytealjpolomhdeaa
set_option linter.unusedVariables false
namespace Go.Proofs.Ytealjpolomhdeaa
open Go.RowKit
theorem row_slice' {w : World} {base e size n : Nat} {v : Value} {xs : List Value} (h : w.ownsRow base e size v n xs) : ∃ A c, v = .slice A n c := by
  rcases h.2 with ⟨rfl, h2⟩ | ⟨g, cap, cur, rfl, _⟩
  · exact ⟨none, 0, by rw [h2]⟩
  · exact ⟨_, _, rfl⟩
/-- Are messages alike? -/
def sameN (a b : MV) : Prop := a.n0 = b.n0 ∧ a.n1 = b.n1 ∧ a.n2 = b.n2 ∧ a.n3 = b.n3 ∧ a.n4 = b.n4 ∧ a.n5 = b.n5
instance (a b : MV) : Decidable (sameN a b) := by unfold sameN; infer_instance
def sameT (a b : MV) : Prop := a.s0 = b.s0 ∧ a.s1 = b.s1
instance (a b : MV) : Decidable (sameT a b) := by unfold sameT; infer_instance
def sameB (a b : MV) : Bool := decide (a.k = b.k) && decide (sameN a b) && decide (sameT a b) && decide (a.l = b.l)
set_option maxRecDepth 100000 in
set_option maxHeartbeats 2000000 in
theorem vsame_any (a b : MV) (w : World) (ha : Sl w a.A a.c (a.l.map sv)) (hb : Sl w b.A b.c (b.l.map sv)) : Calls Try.prog 21 #[mvV a, mvV b] w fun e w' => e = .returned (.bool (sameB a b)) ∧ Below w.heap.size w w' := by
  have hq := fun (W : World) (hW : Below w.heap.size w W) => sequal_any a.l b.l a.l.length b.l.length a.A b.A a.c b.c W rfl rfl (ha.below hW) (hb.below hW)
  have hen := fun (W : World) => eq_nums a.n0 a.n1 a.n2 a.n3 a.n4 a.n5 b.n0 b.n1 b.n2 b.n3 b.n4 b.n5 W
  have het := fun (W : World) => eq_texts a.s0 a.s1 b.s0 b.s1 W
  have hen' : ∀ W, _ = Result.ok (Value.bool (decide (sameN a b))) W := hen
  have het' : ∀ W, _ = Result.ok (Value.bool (decide (sameT a b))) W := het
  have hS : sameB a b = (decide (a.k = b.k) && decide (sameN a b) && decide (sameT a b) && decide (a.l = b.l)) := rfl
  have hbb := fun (la lb : Nat) => bw_a (bw_a (Below.refl _ w) (.cells #[.int .u8 (a.k : Int), .int .u64 (a.n0 : Int), .int .u64 (a.n1 : Int), .int .u64 (a.n2 : Int), .int .u64 (a.n3 : Int), .int .u64 (a.n4 : Int), .int .u64 (a.n5 : Int), .string a.s0, .string a.s1, .slice a.A la a.c] 29)) (.cells #[.int .u8 (b.k : Int), .int .u64 (b.n0 : Int), .int .u64 (b.n1 : Int), .int .u64 (b.n2 : Int), .int .u64 (b.n3 : Int), .int .u64 (b.n4 : Int), .int .u64 (b.n5 : Int), .string b.s0, .string b.s1, .slice b.A lb b.c] 29)
  clear hen het ha hb
  generalize sameB a b = R at *
  generalize hdn : decide (sameN a b) = dn at *
  generalize hdt : decide (sameT a b) = dt at *
  generalize hdl : decide (a.l = b.l) = dl at *
  unfold mvV mvA
  generalize a.l.length = la at *
  generalize b.l.length = lb at *
  clear hdn hdt hdl
  have HS := hid hS
  have HQ := hid hq
  have HBB := hid (hbb la lb)
  clear hS hq hbb
  by_cases hk : a.k = b.k
  · have hkb : ((a.k : Int) == (b.k : Int)) = true := by simp [hk]
    have hkd : decide (a.k = b.k) = true := by simp [hk]
    rw [hkd] at HS
    clear hkd
    have HK := hid hk
    clear hk
    cases dn with
    | false =>
      have HS2 := hid (show R = false from by rw [HS.out]; rfl)
      go_enter Try.func21, Try.ntmps21
      go_wp2_with fail
      go_ret
      exact ⟨by rw [HS2.out]; rfl, HBB.out⟩
    | true =>
      cases dt with
      | false =>
        have HS2 := hid (show R = false from by rw [HS.out]; rfl)
        go_enter Try.func21, Try.ntmps21
        go_wp2_with fail
        go_ret
        exact ⟨by rw [HS2.out]; rfl, HBB.out⟩
      | true =>
        have HS2 := hid (show R = dl from by rw [HS.out]; rfl)
        go_enter Try.func21, Try.ntmps21
        go_wp2_with fail
        refine (HQ.out _ HBB.out).mono ?_
        rintro e w1 ⟨rfl, q, rfl⟩
        go_wp2_with fail
        go_ret
        exact ⟨by rw [HS2.out]; rfl, bw_d HBB.out q⟩
  · have hkb : ((a.k : Int) == (b.k : Int)) = false := by simp; omega
    have hkd : decide (a.k = b.k) = false := by simpa using hk
    rw [hkd] at HS
    have HS2 := hid (show R = false from by rw [HS.out]; rfl)
    clear hkd
    have HK := hid hk
    clear hk
    go_enter Try.func21, Try.ntmps21
    go_wp2_with fail
    go_ret
    exact ⟨by rw [HS2.out]; rfl, HBB.out⟩
/-- A message is stored. -/
theorem mstore {w : World} {p : Nat} {o0 o1 o2 o3 o4 o5 o6 o7 o8 o9 : Value} (h : Blk w p 29 #[o0, o1, o2, o3, o4, o5, o6, o7, o8, o9]) (x0 x1 x2 x3 x4 x5 x6 x7 x8 x9 : Value) :
    Blk ((((((((((w.setCell ⟨p, 0, none⟩ x0).setCell ⟨p, 1, none⟩ x1).setCell ⟨p, 2, none⟩ x2).setCell ⟨p, 3, none⟩ x3).setCell ⟨p, 4, none⟩ x4).setCell ⟨p, 5, none⟩ x5).setCell ⟨p, 6, none⟩ x6).setCell ⟨p, 7, none⟩ x7).setCell ⟨p, 8, none⟩ x8).setCell ⟨p, 9, none⟩ x9) p 29 #[x0, x1, x2, x3, x4, x5, x6, x7, x8, x9] ∧ Chg (fun q => q = p) w ((((((((((w.setCell ⟨p, 0, none⟩ x0).setCell ⟨p, 1, none⟩ x1).setCell ⟨p, 2, none⟩ x2).setCell ⟨p, 3, none⟩ x3).setCell ⟨p, 4, none⟩ x4).setCell ⟨p, 5, none⟩ x5).setCell ⟨p, 6, none⟩ x6).setCell ⟨p, 7, none⟩ x7).setCell ⟨p, 8, none⟩ x8).setCell ⟨p, 9, none⟩ x9) := by
  refine ⟨?_, ?_⟩
  · have h2 := ((((((((((h.set_ 0 x0).set_ 1 x1).set_ 2 x2).set_ 3 x3).set_ 4 x4).set_ 5 x5).set_ 6 x6).set_ 7 x7).set_ 8 x8).set_ 9 x9)
    simpa using h2
  · exact (((((((((((Chg.refl (fun q => q = p) w).set_ (.inl rfl) 0 x0).set_ (.inl rfl) 1 x1).set_ (.inl rfl) 2 x2).set_ (.inl rfl) 3 x3).set_ (.inl rfl) 4 x4).set_ (.inl rfl) 5 x5).set_ (.inl rfl) 6 x6).set_ (.inl rfl) 7 x7).set_ (.inl rfl) 8 x8).set_ (.inl rfl) 9 x9)
set_option maxRecDepth 100000 in
set_option maxHeartbeats 2000000 in
theorem vcopy_any (m : MV) (w : World) (hl : m.l.length ≤ 1000000) (hs : Sl w m.A m.c (m.l.map sv)) : Calls Try.prog 46 #[mvV m] w fun e w' => ∃ A' c', e = .returned (mvV { m with A := A', c := c' }) ∧ w'.ownsRow (w.heap.size + 2) 9 1 (.slice A' m.l.length c') m.l.length (m.l.map sv) ∧ Below w.heap.size w w' := by
  have hc := fun (W : World) (hW : Below w.heap.size w W) => sclone_any m.l m.l.length m.A m.c W rfl hl (hs.below hW)
  obtain ⟨k, n0, n1, n2, n3, n4, n5, s0, s1, A, c, l⟩ := m
  unfold mvV mvA
  simp only at hc hl ⊢
  generalize l.length = len at *
  have HC := hid hc
  clear hc hs
  go_enter Try.func46, Try.ntmps46
  go_wp2_with fail
  obtain ⟨s, hsz⟩ : ∃ s, w.heap.size = s := ⟨_, rfl⟩
  have hb0 := bw_a (bw_a (Below.refl w.heap.size w) (.cells #[.int .u8 (k : Int), .int .u64 (n0 : Int), .int .u64 (n1 : Int), .int .u64 (n2 : Int), .int .u64 (n3 : Int), .int .u64 (n4 : Int), .int .u64 (n5 : Int), .string s0, .string s1, .slice A len c] 29)) (.cells #[.int .u8 0, .int .u64 0, .int .u64 0, .int .u64 0, .int .u64 0, .int .u64 0, .int .u64 0, .string ⟨#[]⟩, .string ⟨#[]⟩, .slice none 0 0] 29)
  have hk0 := (Blk.new w 29 #[.int .u8 (k : Int), .int .u64 (n0 : Int), .int .u64 (n1 : Int), .int .u64 (n2 : Int), .int .u64 (n3 : Int), .int .u64 (n4 : Int), .int .u64 (n5 : Int), .string s0, .string s1, .slice A len c]).alloc (.cells #[.int .u8 0, .int .u64 0, .int .u64 0, .int .u64 0, .int .u64 0, .int .u64 0, .int .u64 0, .string ⟨#[]⟩, .string ⟨#[]⟩, .slice none 0 0] 29)
  have hk1 := Blk.new (w.alloc (.cells #[.int .u8 (k : Int), .int .u64 (n0 : Int), .int .u64 (n1 : Int), .int .u64 (n2 : Int), .int .u64 (n3 : Int), .int .u64 (n4 : Int), .int .u64 (n5 : Int), .string s0, .string s1, .slice A len c] 29)) 29 #[.int .u8 0, .int .u64 0, .int .u64 0, .int .u64 0, .int .u64 0, .int .u64 0, .int .u64 0, .string ⟨#[]⟩, .string ⟨#[]⟩, .slice none 0 0]
  rw [World.size_alloc] at hk1
  generalize (w.alloc _).alloc _ = W at *
  rw [hsz] at hk0 hk1 hb0 ⊢
  refine (HC.out W (by rw [hsz]; exact hb0)).mono ?_
  rintro e w1 ⟨v, rfl, ho, hb1⟩
  have hlt0 := hk0.lt
  have hlt1 := hk1.lt
  have hk0 := hk0.below hb1 hk0.lt
  have hk1 := hk1.below hb1 hk1.lt
  have c0 := hk0.cell 0
  have c1 := hk0.cell 1
  have c2 := hk0.cell 2
  have c3 := hk0.cell 3
  have c4 := hk0.cell 4
  have c5 := hk0.cell 5
  have c6 := hk0.cell 6
  have c7 := hk0.cell 7
  have c8 := hk0.cell 8
  have c9 := hk0.cell 9
  have f9 := hk0.frozen 9
  have g0 := hk1.frozen 0
  have d0 := hk1.cell 0
  have g1 := hk1.frozen 1
  have d1 := hk1.cell 1
  have g2 := hk1.frozen 2
  have d2 := hk1.cell 2
  have g3 := hk1.frozen 3
  have d3 := hk1.cell 3
  have g4 := hk1.frozen 4
  have d4 := hk1.cell 4
  have g5 := hk1.frozen 5
  have d5 := hk1.cell 5
  have g6 := hk1.frozen 6
  have d6 := hk1.cell 6
  have g7 := hk1.frozen 7
  have d7 := hk1.cell 7
  have g8 := hk1.frozen 8
  have d8 := hk1.cell 8
  have g9 := hk1.frozen 9
  have d9 := hk1.cell 9
  simp only [List.getElem?_toArray, List.getElem?_cons_zero, List.getElem?_cons_succ] at c0 c1 c2 c3 c4 c5 c6 c7 c8 c9 d0 d1 d2 d3 d4 d5 d6 d7 d8 d9
  obtain ⟨A', c', rfl⟩ : ∃ A' c', v = .slice A' len c' := row_slice' ho
  have hB1 := hb0.trans (hb1.mono (by have := hlt0; omega))
  have hend := mstore (hk1.far (p := ⟨s, 9, none⟩) (by simp) (.slice A' len c')) (.int .u8 (k : Int)) (.int .u64 (n0 : Int)) (.int .u64 (n1 : Int)) (.int .u64 (n2 : Int)) (.int .u64 (n3 : Int)) (.int .u64 (n4 : Int)) (.int .u64 (n5 : Int)) (.string s0) (.string s1) (.slice A' len c')
  have hc1 : Chg (fun q => q = s ∨ q = s + 1) w1 (w1.setCell ⟨s, 9, none⟩ (.slice A' len c')) := (Chg.refl _ w1).set_ (.inl (.inl rfl)) 9 _
  have ho2 := own_mono ho (show s + 2 ≤ W.heap.size by omega)
  have HO := hid ho2
  have HE := hid hend
  have HC1 := hid hc1
  have HB1 := hid hB1
  have hs2 : s + 2 ≤ w1.heap.size := Nat.le_trans (by omega) hb1.size
  clear ho ho2 hend hc1 hB1 hb1 hk0 hk1 HC hb0
  go_wp2_with fail
  have hbk := HE.out.1
  have hch := HC1.out.trans (HE.out.2.mono fun q _ hq => .inr hq)
  have ho3 := own_chgS HO.out hch (fun g hg hk => by have := (HO.out.lt g hg).1; omega)
  have hB3 := HB1.out.trans (hch.below (B := s) (fun q hq => by omega) (by omega))
  have r0 := hbk.cell 0
  have r1 := hbk.cell 1
  have r2 := hbk.cell 2
  have r3 := hbk.cell 3
  have r4 := hbk.cell 4
  have r5 := hbk.cell 5
  have r6 := hbk.cell 6
  have r7 := hbk.cell 7
  have r8 := hbk.cell 8
  have r9 := hbk.cell 9
  clear hch hbk HE HC1 HO HB1 c0 c1 c2 c3 c4 c5 c6 c7 c8 c9 f9 g0 g1 g2 g3 g4 g5 g6 g7 g8 g9 d0 d1 d2 d3 d4 d5 d6 d7 d8 d9
  generalize World.setCell (World.setCell _ _ _) _ _ = W9 at *
  simp only [List.getElem?_toArray, List.getElem?_cons_zero, List.getElem?_cons_succ] at r0 r1 r2 r3 r4 r5 r6 r7 r8 r9
  refine bodyPost_ret (v := .agg #[.int .u8 (k : Int), .int .u64 (n0 : Int), .int .u64 (n1 : Int), .int .u64 (n2 : Int), .int .u64 (n3 : Int), .int .u64 (n4 : Int), .int .u64 (n5 : Int), .string s0, .string s1, .slice A' len c']) (by simp [results, Try.results46, go_sem, r0, r1, r2, r3, r4, r5, r6, r7, r8, r9]) rfl ?_
  rw [hsz]
  exact ⟨A', c', rfl, ho3, hB3⟩
end Go.Proofs.Ytealjpolomhdeaa
set_option linter.unusedVariables false
namespace Go.Proofs.Ytealjpolomhdeaa
open Go.RowKit
def mkN (l : List SRow) (i : Nat) : Bool := l.any fun r => decide (r.typ ≤ 6 ∧ r.slot = i)
def mkS (l : List SRow) (i : Nat) : Bool := l.any fun r => decide ((7 ≤ r.typ ∧ r.typ ≤ 9) ∧ r.slot = i)
def mkL (l : List SRow) : Bool := l.any fun r => decide (r.typ = 10)
def mkA (l : List SRow) : Array Value := #[.bool (mkN l 0), .bool (mkN l 1), .bool (mkN l 2), .bool (mkN l 3), .bool (mkN l 4), .bool (mkN l 5), .bool (mkS l 0), .bool (mkS l 1), .bool (mkL l)]
theorem mkN_app (l : List SRow) (r : SRow) (i : Nat) : mkN (l ++ [r]) i = (mkN l i || decide (r.typ ≤ 6 ∧ r.slot = i)) := by unfold mkN; rw [List.any_append]; simp
theorem mkS_app (l : List SRow) (r : SRow) (i : Nat) : mkS (l ++ [r]) i = (mkS l i || decide ((7 ≤ r.typ ∧ r.typ ≤ 9) ∧ r.slot = i)) := by unfold mkS; rw [List.any_append]; simp
theorem mkL_app (l : List SRow) (r : SRow) : mkL (l ++ [r]) = (mkL l || decide (r.typ = 10)) := by unfold mkL; rw [List.any_append]; simp
theorem mkA_num (l : List SRow) (r : SRow) (h : r.typ ≤ 6) (hs : r.slot ≤ 5) : (mkA l).setIfInBounds r.slot (.bool true) = mkA (l ++ [r]) := by
  have hi : r.slot = 0 ∨ r.slot = 1 ∨ r.slot = 2 ∨ r.slot = 3 ∨ r.slot = 4 ∨ r.slot = 5 := by omega
  have h7 : ¬ (7 ≤ r.typ ∧ r.typ ≤ 9) := by omega
  have h10 : ¬ r.typ = 10 := by omega
  unfold mkA
  simp only [mkN_app, mkS_app, mkL_app]
  rcases hi with hi | hi | hi | hi | hi | hi <;> rw [hi] <;> simp [h, h7, h10]
theorem mkA_text (l : List SRow) (r : SRow) (h : 7 ≤ r.typ ∧ r.typ ≤ 9) (hs : r.slot ≤ 1) : (mkA l).setIfInBounds (6 + r.slot) (.bool true) = mkA (l ++ [r]) := by
  have hi : r.slot = 0 ∨ r.slot = 1 := by omega
  have h7 : ¬ r.typ ≤ 6 := by omega
  have h10 : ¬ r.typ = 10 := by omega
  unfold mkA
  simp only [mkN_app, mkS_app, mkL_app]
  rcases hi with hi | hi <;> rw [hi] <;> simp [h, h7, h10]
theorem mkA_list (l : List SRow) (r : SRow) (h : r.typ = 10) : (mkA l).setIfInBounds 8 (.bool true) = mkA (l ++ [r]) := by
  have h7 : ¬ r.typ ≤ 6 := by omega
  have h9 : ¬ (7 ≤ r.typ ∧ r.typ ≤ 9) := by omega
  unfold mkA
  simp only [mkN_app, mkS_app, mkL_app]
  simp [h]
theorem row_ok2 {r : SRow} (h : r ∈ ROWS) : 1 ≤ r.typ ∧ r.typ ≤ 10 ∧ r.slot ≤ 5 ∧ (7 ≤ r.typ → r.typ ≤ 9 → r.slot ≤ 1) := by
  have h := List.all_eq_true.1 (show ROWS.all (fun r => decide (1 ≤ r.typ ∧ r.typ ≤ 10 ∧ r.slot ≤ 5 ∧ (7 ≤ r.typ → r.typ ≤ 9 → r.slot ≤ 1))) = true by decide) r h
  simp at h
  omega
theorem mkA_cell (l : List SRow) (i : Nat) (h : i < 9) : ∃ b, (mkA l)[i]? = some (.bool b) := by
  have hi : i = 0 ∨ i = 1 ∨ i = 2 ∨ i = 3 ∨ i = 4 ∨ i = 5 ∨ i = 6 ∨ i = 7 ∨ i = 8 := by omega
  rcases hi with rfl | rfl | rfl | rfl | rfl | rfl | rfl | rfl | rfl <;> exact ⟨_, rfl⟩
set_option maxRecDepth 100000 in
set_option maxHeartbeats 4000000 in
theorem vmarked_any (k v : Int) (w : World) (hv1 : -9223372036854775808 ≤ v) (hv2 : v ≤ 9223372036854775807) : Calls Try.prog 69 #[.int .u8 k, .int .i64 v] w fun e w' => e = .returned (.agg (mkA (ofL k v))) ∧ Below w.heap.size w w' := by
  have hsof := fun W => ((callsIn_wide (n := 4)).1 (sof2_in 4 (by omega) k v W hv1 hv2))
  have hq40 := ofL_le40 k v
  have hmem : ∀ r ∈ ofL k v, r ∈ ROWS := fun r hr => ofL_mem k v hr
  generalize ofL k v = L at *
  have HMEM := hid hmem
  have HSOF := hid hsof
  clear hsof hmem
  obtain ⟨s, hsz⟩ : ∃ s, w.heap.size = s := ⟨_, rfl⟩
  rw [hsz]
  go_enter Try.func69, Try.ntmps69
  go_wp2_with fail
  have hz := #[Value.bool false, .bool false, .bool false, .bool false, .bool false, .bool false, .bool false, .bool false, .bool false]
  have hb0 := bw_a (bw_a (Below.refl w.heap.size w) (.cells (mkA []) 117)) (.cells (mkA []) 117)
  have hk0 := (Blk.new w 117 (mkA [])).alloc (.cells (mkA []) 117)
  have hk1 := Blk.new (w.alloc (.cells (mkA []) 117)) 117 (mkA [])
  rw [World.size_alloc] at hk1
  rw [hsz] at hk0 hk1 hb0
  have e0 : mkA [] = #[Value.bool false, .bool false, .bool false, .bool false, .bool false, .bool false, .bool false, .bool false, .bool false] := rfl
  rw [e0] at hk0 hk1 hb0
  clear e0 hz
  have hk1' : Blk _ (s + 1) 117 (mkA []) := hk1
  have hwz : ((w.alloc (.cells #[Value.bool false, .bool false, .bool false, .bool false, .bool false, .bool false, .bool false, .bool false, .bool false] 117)).alloc (.cells #[Value.bool false, .bool false, .bool false, .bool false, .bool false, .bool false, .bool false, .bool false, .bool false] 117)).heap.size = s + 2 := by simp [hsz]
  clear hk1
  generalize (w.alloc _).alloc _ = W at *
  refine (HSOF.out W).mono ?_
  rintro e w1 ⟨vv, rfl, ho, hb1⟩
  have hk0 := hk0.below hb1 hk0.lt
  have hk1 := hk1'.below hb1 hk1'.lt
  have hB1 := hb0.trans (hb1.mono (by omega))
  have hap : ∀ g, vv.ownBlock = some g → s + 3 ≤ g := fun g hg => by have := (ho.lt g hg).1; omega
  obtain ⟨A, c, rfl, hs1⟩ := SlN.of_own (by omega) ho
  obtain ⟨m, hm⟩ : ∃ m, L.length = m := ⟨_, rfl⟩
  rw [hm] at hs1 hq40 hap ⊢
  have hw1 : s + 2 ≤ w1.heap.size := by have := hb1.size; omega
  have HM := hid hm
  have HS1 := hid hs1
  have HK0 := hid hk0
  have HK1 := hid hk1
  have HB1 := hid hB1
  have HAP := hid hap
  clear hm hs1 hk0 hk1 hB1 hap hk1' hb0 hb1 ho HSOF hwz
  go_wp2_with fail
  go_loopw [18] (fun i wr => ∃ j : Nat, j ≤ m ∧ i = .int .i64 (j : Int) ∧ Blk wr (s + 1) 117 (mkA (L.take j)) ∧ Chg (fun q => q = s + 1) w1 wr) (fun i _ => m - (intOf i).toNat)
  case atStart => exact ⟨0, by omega, rfl, HK1.out, Chg.refl _ _⟩
  case round =>
    obtain ⟨j, hj, rfl, hk, hc⟩ := hrel
    by_cases hlt : j < m
    · have hjl : j < L.length := by have := HM.out; omega
      have hn0 : (L.flatMap specC)[j * 3 + 0]? = _ := flatMap_get specC 3 L j 0 hjl (fun _ _ => rfl) (by omega)
      have hn1 : (L.flatMap specC)[j * 3 + 1]? = _ := flatMap_get specC 3 L j 1 hjl (fun _ _ => rfl) (by omega)
      have hn2 : (L.flatMap specC)[j * 3 + 2]? = _ := flatMap_get specC 3 L j 2 hjl (fun _ _ => rfl) (by omega)
      obtain ⟨b, off, hA, hbw, t0⟩ := HS1.out.rd _ _ hn0
      subst hA
      have hbs : s + 3 ≤ b := HAP.out b rfl
      have t1 := HS1.out.rd.addr _ _ hn1
      have t2 := HS1.out.rd.addr _ _ hn2
      rw [addr_add] at t1 t2
      simp only [Nat.add_zero, ← Nat.add_assoc] at t0 t1 t2
      have hbb := hc.block b hbw (by omega)
      have t0 := (World.cell?_of_block (a := ⟨b, off + j * 3, none⟩) hbb).trans t0
      have t1 := (World.cell?_of_block (a := ⟨b, off + j * 3 + 1, none⟩) hbb).trans t1
      have t2 := (World.cell?_of_block (a := ⟨b, off + j * 3 + 2, none⟩) hbb).trans t2
      have hji : (j : Int) < (m : Int) := by omega
      have hj0 : (0 : Int) ≤ (j : Int) := by omega
      have hro := row_ok2 (HMEM.out L[j] (List.getElem_mem hjl))
      have hmn := mkA_num (L.take j) L[j]
      have hmt := mkA_text (L.take j) L[j]
      have hml := mkA_list (L.take j) L[j]
      have htk : L.take (j + 1) = L.take j ++ [L[j]] := List.take_succ_eq_append_getElem hjl
      rw [← htk] at hmn hmt hml
      have hcell := mkA_cell (L.take j)
      obtain ⟨Lj1, hLj1⟩ : ∃ x, L.take (j + 1) = x := ⟨_, rfl⟩
      rw [hLj1] at hmn hmt hml
      have HLJ := hid hLj1
      clear hLj1
      generalize L.take j = Lj at *
      clear hn0 hn1 hn2 htk hbb
      generalize L[j] = r at *
      obtain ⟨rk, si, nu, ty, sl⟩ := r
      simp only at t0 t1 t2 hro hmn hmt hml
      have hls := hk.lt
      have HKW := hid hk
      have HCW := hid hc
      have HMN := hid hmn
      have HMT := hid hmt
      have HML := hid hml
      have HCELL := hid hcell
      clear hmn hmt hml hc hk hcell
      obtain ⟨hro1, hro2, hro3, hro4⟩ := hro
      have hty : ty = 1 ∨ ty = 2 ∨ ty = 3 ∨ ty = 4 ∨ ty = 5 ∨ ty = 6 ∨ ty = 7 ∨ ty = 8 ∨ ty = 9 ∨ ty = 10 := by omega
      rcases hty with rfl | rfl | rfl | rfl | rfl | rfl | rfl | rfl | rfl | rfl
      · have hsI : (sl : Int) < 6 := by omega
        have hsI0 : (0 : Int) ≤ (sl : Int) := by omega
        obtain ⟨bb, hbb⟩ := HCELL.out sl (by omega)
        have q0 := (HKW.out.cell sl).trans hbb
        have q1 := HKW.out.frozen sl
        have hset := HMN.out (by omega) (by omega)
        have HSET := hid hset
        clear hset hbb
        go_wp2_with fail
        have hf := HKW.out.set_ sl (.bool true)
        rw [HSET.out] at hf
        exact ⟨⟨j + 1, by omega, by go_num, by rw [HLJ.out]; exact hf.alloc _, (HCW.out.set_ (.inl rfl) _ _).alloc _⟩, by simp [intOf] <;> omega⟩
      · have hsI : (sl : Int) < 6 := by omega
        have hsI0 : (0 : Int) ≤ (sl : Int) := by omega
        obtain ⟨bb, hbb⟩ := HCELL.out sl (by omega)
        have q0 := (HKW.out.cell sl).trans hbb
        have q1 := HKW.out.frozen sl
        have hset := HMN.out (by omega) (by omega)
        have HSET := hid hset
        clear hset hbb
        go_wp2_with fail
        have hf := HKW.out.set_ sl (.bool true)
        rw [HSET.out] at hf
        exact ⟨⟨j + 1, by omega, by go_num, by rw [HLJ.out]; exact hf.alloc _, (HCW.out.set_ (.inl rfl) _ _).alloc _⟩, by simp [intOf] <;> omega⟩
      · have hsI : (sl : Int) < 6 := by omega
        have hsI0 : (0 : Int) ≤ (sl : Int) := by omega
        obtain ⟨bb, hbb⟩ := HCELL.out sl (by omega)
        have q0 := (HKW.out.cell sl).trans hbb
        have q1 := HKW.out.frozen sl
        have hset := HMN.out (by omega) (by omega)
        have HSET := hid hset
        clear hset hbb
        go_wp2_with fail
        have hf := HKW.out.set_ sl (.bool true)
        rw [HSET.out] at hf
        exact ⟨⟨j + 1, by omega, by go_num, by rw [HLJ.out]; exact hf.alloc _, (HCW.out.set_ (.inl rfl) _ _).alloc _⟩, by simp [intOf] <;> omega⟩
      · have hsI : (sl : Int) < 6 := by omega
        have hsI0 : (0 : Int) ≤ (sl : Int) := by omega
        obtain ⟨bb, hbb⟩ := HCELL.out sl (by omega)
        have q0 := (HKW.out.cell sl).trans hbb
        have q1 := HKW.out.frozen sl
        have hset := HMN.out (by omega) (by omega)
        have HSET := hid hset
        clear hset hbb
        go_wp2_with fail
        have hf := HKW.out.set_ sl (.bool true)
        rw [HSET.out] at hf
        exact ⟨⟨j + 1, by omega, by go_num, by rw [HLJ.out]; exact hf.alloc _, (HCW.out.set_ (.inl rfl) _ _).alloc _⟩, by simp [intOf] <;> omega⟩
      · have hsI : (sl : Int) < 6 := by omega
        have hsI0 : (0 : Int) ≤ (sl : Int) := by omega
        obtain ⟨bb, hbb⟩ := HCELL.out sl (by omega)
        have q0 := (HKW.out.cell sl).trans hbb
        have q1 := HKW.out.frozen sl
        have hset := HMN.out (by omega) (by omega)
        have HSET := hid hset
        clear hset hbb
        go_wp2_with fail
        have hf := HKW.out.set_ sl (.bool true)
        rw [HSET.out] at hf
        exact ⟨⟨j + 1, by omega, by go_num, by rw [HLJ.out]; exact hf.alloc _, (HCW.out.set_ (.inl rfl) _ _).alloc _⟩, by simp [intOf] <;> omega⟩
      · have hsI : (sl : Int) < 6 := by omega
        have hsI0 : (0 : Int) ≤ (sl : Int) := by omega
        obtain ⟨bb, hbb⟩ := HCELL.out sl (by omega)
        have q0 := (HKW.out.cell sl).trans hbb
        have q1 := HKW.out.frozen sl
        have hset := HMN.out (by omega) (by omega)
        have HSET := hid hset
        clear hset hbb
        go_wp2_with fail
        have hf := HKW.out.set_ sl (.bool true)
        rw [HSET.out] at hf
        exact ⟨⟨j + 1, by omega, by go_num, by rw [HLJ.out]; exact hf.alloc _, (HCW.out.set_ (.inl rfl) _ _).alloc _⟩, by simp [intOf] <;> omega⟩
      · have hsI : (sl : Int) < 2 := by omega
        have hsI0 : (0 : Int) ≤ (sl : Int) := by omega
        obtain ⟨bb, hbb⟩ := HCELL.out (6 + sl) (by omega)
        have q0 := (HKW.out.cell (6 + sl)).trans hbb
        have q1 := HKW.out.frozen (6 + sl)
        have hset := HMT.out (by omega) (by omega)
        have HSET := hid hset
        clear hset hbb
        go_wp2_with fail
        have hf := HKW.out.set_ (6 + sl) (.bool true)
        rw [HSET.out] at hf
        exact ⟨⟨j + 1, by omega, by go_num, by rw [HLJ.out]; exact hf.alloc _, (HCW.out.set_ (.inl rfl) _ _).alloc _⟩, by simp [intOf] <;> omega⟩
      · have hsI : (sl : Int) < 2 := by omega
        have hsI0 : (0 : Int) ≤ (sl : Int) := by omega
        obtain ⟨bb, hbb⟩ := HCELL.out (6 + sl) (by omega)
        have q0 := (HKW.out.cell (6 + sl)).trans hbb
        have q1 := HKW.out.frozen (6 + sl)
        have hset := HMT.out (by omega) (by omega)
        have HSET := hid hset
        clear hset hbb
        go_wp2_with fail
        have hf := HKW.out.set_ (6 + sl) (.bool true)
        rw [HSET.out] at hf
        exact ⟨⟨j + 1, by omega, by go_num, by rw [HLJ.out]; exact hf.alloc _, (HCW.out.set_ (.inl rfl) _ _).alloc _⟩, by simp [intOf] <;> omega⟩
      · have hsI : (sl : Int) < 2 := by omega
        have hsI0 : (0 : Int) ≤ (sl : Int) := by omega
        obtain ⟨bb, hbb⟩ := HCELL.out (6 + sl) (by omega)
        have q0 := (HKW.out.cell (6 + sl)).trans hbb
        have q1 := HKW.out.frozen (6 + sl)
        have hset := HMT.out (by omega) (by omega)
        have HSET := hid hset
        clear hset hbb
        go_wp2_with fail
        have hf := HKW.out.set_ (6 + sl) (.bool true)
        rw [HSET.out] at hf
        exact ⟨⟨j + 1, by omega, by go_num, by rw [HLJ.out]; exact hf.alloc _, (HCW.out.set_ (.inl rfl) _ _).alloc _⟩, by simp [intOf] <;> omega⟩
      · obtain ⟨bb, hbb⟩ := HCELL.out 8 (by omega)
        have q0 := (HKW.out.cell 8).trans hbb
        have q1 := HKW.out.frozen 8
        have hset := HML.out rfl
        have HSET := hid hset
        clear hset hbb
        go_wp2_with fail
        have hf := HKW.out.set_ 8 (.bool true)
        rw [HSET.out] at hf
        exact ⟨⟨j + 1, by omega, by go_num, by rw [HLJ.out]; exact hf.alloc _, (HCW.out.set_ (.inl rfl) _ _).alloc _⟩, by simp [intOf] <;> omega⟩
    · obtain rfl : j = m := by omega
      rw [List.take_of_length_le (by have := HM.out; omega)] at hk
      have hk00 := hc.blk HK0.out (by omega)
      obtain ⟨b0, b1, b2, b3, b4, b5, b6, b7, b8, hmk⟩ : ∃ b0 b1 b2 b3 b4 b5 b6 b7 b8, mkA L = #[.bool b0, .bool b1, .bool b2, .bool b3, .bool b4, .bool b5, .bool b6, .bool b7, .bool b8] := ⟨_, _, _, _, _, _, _, _, _, rfl⟩
      rw [hmk] at hk
      have HMK := hid hmk
      clear hmk
      have c0 := hk.cell 0
      have d0 := hk00.cell 0
      have f0 := hk00.frozen 0
      have c1 := hk.cell 1
      have d1 := hk00.cell 1
      have f1 := hk00.frozen 1
      have c2 := hk.cell 2
      have d2 := hk00.cell 2
      have f2 := hk00.frozen 2
      have c3 := hk.cell 3
      have d3 := hk00.cell 3
      have f3 := hk00.frozen 3
      have c4 := hk.cell 4
      have d4 := hk00.cell 4
      have f4 := hk00.frozen 4
      have c5 := hk.cell 5
      have d5 := hk00.cell 5
      have f5 := hk00.frozen 5
      have c6 := hk.cell 6
      have d6 := hk00.cell 6
      have f6 := hk00.frozen 6
      have c7 := hk.cell 7
      have d7 := hk00.cell 7
      have f7 := hk00.frozen 7
      have c8 := hk.cell 8
      have d8 := hk00.cell 8
      have f8 := hk00.frozen 8
      simp only [List.getElem?_toArray, List.getElem?_cons_zero, List.getElem?_cons_succ] at c0 c1 c2 c3 c4 c5 c6 c7 c8 d0 d1 d2 d3 d4 d5 d6 d7 d8
      have hend := (((((((((hk00.set_ 0 (.bool b0)).set_ 1 (.bool b1)).set_ 2 (.bool b2)).set_ 3 (.bool b3)).set_ 4 (.bool b4)).set_ 5 (.bool b5)).set_ 6 (.bool b6)).set_ 7 (.bool b7)).set_ 8 (.bool b8))
      have hch : Chg (fun q => q = s) wr _ := ((((((((((Chg.refl (fun q => q = s) wr).set_ (.inl rfl) 0 (.bool b0)).set_ (.inl rfl) 1 (.bool b1)).set_ (.inl rfl) 2 (.bool b2)).set_ (.inl rfl) 3 (.bool b3)).set_ (.inl rfl) 4 (.bool b4)).set_ (.inl rfl) 5 (.bool b5)).set_ (.inl rfl) 6 (.bool b6)).set_ (.inl rfl) 7 (.bool b7)).set_ (.inl rfl) 8 (.bool b8))
      have hB := HB1.out.trans (hc.below (B := s) (fun q hq => by omega) (by omega))
      have hwr : s ≤ wr.heap.size := by have := hc.size; omega
      have HE := hid hend
      have HCH := hid hch
      have HB := hid hB
      clear hend hch hB hk hk00 hc
      go_wp2_with fail
      have hB := HB.out.trans (HCH.out.below (B := s) (fun q hq => by omega) hwr)
      have hend := HE.out
      have r0 := hend.cell 0
      have r1 := hend.cell 1
      have r2 := hend.cell 2
      have r3 := hend.cell 3
      have r4 := hend.cell 4
      have r5 := hend.cell 5
      have r6 := hend.cell 6
      have r7 := hend.cell 7
      have r8 := hend.cell 8
      clear hend HE HCH
      generalize World.setCell (World.setCell _ _ _) _ _ = W9 at *
      simp at r0 r1 r2 r3 r4 r5 r6 r7 r8
      refine bodyPost_ret (v := .agg #[.bool b0, .bool b1, .bool b2, .bool b3, .bool b4, .bool b5, .bool b6, .bool b7, .bool b8]) (by simp [results, Try.results69, go_sem, r0, r1, r2, r3, r4, r5, r6, r7, r8]) rfl ?_
      exact ⟨by rw [HMK.out], hB⟩
end Go.Proofs.Ytealjpolomhdeaa
set_option linter.unusedVariables false
namespace Go.Proofs.Ytealjpolomhdeaa
open Go.RowKit
def ka (b : Bool) (j i n : Nat) : Nat := if i < j then (if b then n else 0) else n
def kb (b : Bool) (j i : Nat) (s : ByteArray) : ByteArray := if i < j then (if b then s else ⟨#[]⟩) else s
/-- A message without what belongs to no field. -/
def keptM (L : List SRow) (m : MV) : MV := { k := m.k, n0 := ka (mkN L 0) 6 0 m.n0, n1 := ka (mkN L 1) 6 1 m.n1, n2 := ka (mkN L 2) 6 2 m.n2, n3 := ka (mkN L 3) 6 3 m.n3, n4 := ka (mkN L 4) 6 4 m.n4, n5 := ka (mkN L 5) 6 5 m.n5, s0 := kb (mkS L 0) 2 0 m.s0, s1 := kb (mkS L 1) 2 1 m.s1, A := if mkL L then m.A else none, c := if mkL L then m.c else 0, l := if mkL L then m.l else [] }
def kcN (L : List SRow) (m : MV) (len : Nat) (j : Nat) : Array Value := #[.int .u8 (m.k : Int), .int .u64 (ka (mkN L 0) j 0 m.n0 : Nat), .int .u64 (ka (mkN L 1) j 1 m.n1 : Nat), .int .u64 (ka (mkN L 2) j 2 m.n2 : Nat), .int .u64 (ka (mkN L 3) j 3 m.n3 : Nat), .int .u64 (ka (mkN L 4) j 4 m.n4 : Nat), .int .u64 (ka (mkN L 5) j 5 m.n5 : Nat), .string m.s0, .string m.s1, .slice m.A len m.c]
def kcS (L : List SRow) (m : MV) (len : Nat) (j : Nat) : Array Value := #[.int .u8 (m.k : Int), .int .u64 (ka (mkN L 0) 6 0 m.n0 : Nat), .int .u64 (ka (mkN L 1) 6 1 m.n1 : Nat), .int .u64 (ka (mkN L 2) 6 2 m.n2 : Nat), .int .u64 (ka (mkN L 3) 6 3 m.n3 : Nat), .int .u64 (ka (mkN L 4) 6 4 m.n4 : Nat), .int .u64 (ka (mkN L 5) 6 5 m.n5 : Nat), .string (kb (mkS L 0) j 0 m.s0), .string (kb (mkS L 1) j 1 m.s1), .slice m.A len m.c]
theorem kcN_keep (L : List SRow) (m : MV) (len j : Nat) (hj : j < 6) (h : mkN L j = true) : kcN L m len (j + 1) = kcN L m len j := by
  have hi : j = 0 ∨ j = 1 ∨ j = 2 ∨ j = 3 ∨ j = 4 ∨ j = 5 := by omega
  unfold kcN
  rcases hi with rfl | rfl | rfl | rfl | rfl | rfl <;> simp [ka, h]
theorem kcN_zero (L : List SRow) (m : MV) (len j : Nat) (hj : j < 6) (h : mkN L j = false) : (kcN L m len j).setIfInBounds (1 + j) (.int .u64 0) = kcN L m len (j + 1) := by
  have hi : j = 0 ∨ j = 1 ∨ j = 2 ∨ j = 3 ∨ j = 4 ∨ j = 5 := by omega
  unfold kcN
  rcases hi with rfl | rfl | rfl | rfl | rfl | rfl <;> simp [ka, h]
theorem kcS_keep (L : List SRow) (m : MV) (len j : Nat) (hj : j < 2) (h : mkS L j = true) : kcS L m len (j + 1) = kcS L m len j := by
  have hi : j = 0 ∨ j = 1 := by omega
  unfold kcS
  rcases hi with rfl | rfl <;> simp [kb, h]
theorem kcS_zero (L : List SRow) (m : MV) (len j : Nat) (hj : j < 2) (h : mkS L j = false) : (kcS L m len j).setIfInBounds (7 + j) (.string ⟨#[]⟩) = kcS L m len (j + 1) := by
  have hi : j = 0 ∨ j = 1 := by omega
  unfold kcS
  rcases hi with rfl | rfl <;> simp [kb, h]
theorem kc_start (L : List SRow) (m : MV) (len : Nat) : kcN L m len 0 = #[.int .u8 (m.k : Int), .int .u64 (m.n0 : Int), .int .u64 (m.n1 : Int), .int .u64 (m.n2 : Int), .int .u64 (m.n3 : Int), .int .u64 (m.n4 : Int), .int .u64 (m.n5 : Int), .string m.s0, .string m.s1, .slice m.A len m.c] := by
  unfold kcN; simp [ka]
theorem kc_mid (L : List SRow) (m : MV) (len : Nat) : kcS L m len 0 = kcN L m len 6 := by
  unfold kcN kcS; simp [kb]
theorem kc_endT (L : List SRow) (m : MV) (h : mkL L = true) : kcS L m m.l.length 2 = mvA (keptM L m) := by
  unfold kcS mvA keptM; simp [h]
theorem kc_endF (L : List SRow) (m : MV) (h : mkL L = false) : (kcS L m m.l.length 2).setIfInBounds 9 (.slice none 0 0) = mvA (keptM L m) := by
  unfold kcS mvA keptM; simp [h]
theorem kcN_cell (L : List SRow) (m : MV) (len j i : Nat) (h : i < 10) : ∃ u, (kcN L m len j)[i]? = some u := by
  have hi : i = 0 ∨ i = 1 ∨ i = 2 ∨ i = 3 ∨ i = 4 ∨ i = 5 ∨ i = 6 ∨ i = 7 ∨ i = 8 ∨ i = 9 := by omega
  rcases hi with rfl | rfl | rfl | rfl | rfl | rfl | rfl | rfl | rfl | rfl <;> exact ⟨_, rfl⟩
theorem kcS_cell (L : List SRow) (m : MV) (len j i : Nat) (h : i < 10) : ∃ u, (kcS L m len j)[i]? = some u := by
  have hi : i = 0 ∨ i = 1 ∨ i = 2 ∨ i = 3 ∨ i = 4 ∨ i = 5 ∨ i = 6 ∨ i = 7 ∨ i = 8 ∨ i = 9 := by omega
  rcases hi with rfl | rfl | rfl | rfl | rfl | rfl | rfl | rfl | rfl | rfl <;> exact ⟨_, rfl⟩
set_option maxRecDepth 100000 in
set_option maxHeartbeats 4000000 in
theorem vkept_any (m : MV) (v : Int) (w : World) (hv1 : -9223372036854775808 ≤ v) (hv2 : v ≤ 9223372036854775807) : Calls Try.prog 47 #[mvV m, .int .i64 v] w fun e w' => e = .returned (mvV (keptM (ofL (m.k : Int) v) m)) ∧ Below w.heap.size w w' := by
  have hmk := fun W => vmarked_any (m.k : Int) v W hv1 hv2
  have hst := kc_start (ofL (m.k : Int) v) m m.l.length
  have hmid := kc_mid (ofL (m.k : Int) v) m m.l.length
  have hnk := kcN_keep (ofL (m.k : Int) v) m m.l.length
  have hnz := kcN_zero (ofL (m.k : Int) v) m m.l.length
  have hsk := kcS_keep (ofL (m.k : Int) v) m m.l.length
  have hsz := kcS_zero (ofL (m.k : Int) v) m m.l.length
  have heT := kc_endT (ofL (m.k : Int) v) m
  have heF := kc_endF (ofL (m.k : Int) v) m
  have hnc := kcN_cell (ofL (m.k : Int) v) m m.l.length
  have hsc := kcS_cell (ofL (m.k : Int) v) m m.l.length
  obtain ⟨a1, a2, a3, a4, a5, a6, t7, t8, ad9, ln9, cp9, hx⟩ : ∃ (a1 a2 a3 a4 a5 a6 : Nat) (t7 t8 : ByteArray) (ad9 : Option Addr) (ln9 cp9 : Nat), mvA (keptM (ofL (m.k : Int) v) m) = #[.int .u8 (m.k : Int), .int .u64 (a1 : Int), .int .u64 (a2 : Int), .int .u64 (a3 : Int), .int .u64 (a4 : Int), .int .u64 (a5 : Int), .int .u64 (a6 : Int), .string t7, .string t8, .slice ad9 ln9 cp9] := ⟨_, _, _, _, _, _, _, _, _, _, _, rfl⟩
  have hvx : mvV (keptM (ofL (m.k : Int) v) m) = .agg #[.int .u8 (m.k : Int), .int .u64 (a1 : Int), .int .u64 (a2 : Int), .int .u64 (a3 : Int), .int .u64 (a4 : Int), .int .u64 (a5 : Int), .int .u64 (a6 : Int), .string t7, .string t8, .slice ad9 ln9 cp9] := by unfold mvV; rw [hx]
  rw [hvx]
  rw [hx] at heT heF
  clear hvx hx
  generalize ofL (m.k : Int) v = L at *
  unfold mkA at hmk
  generalize kcN L m m.l.length = kn at *
  generalize kcS L m m.l.length = ks at *
  generalize hb0 : mkN L 0 = b0 at *
  generalize hb1 : mkN L 1 = b1 at *
  generalize hb2 : mkN L 2 = b2 at *
  generalize hb3 : mkN L 3 = b3 at *
  generalize hb4 : mkN L 4 = b4 at *
  generalize hb5 : mkN L 5 = b5 at *
  generalize hb6 : mkS L 0 = b6 at *
  generalize hb7 : mkS L 1 = b7 at *
  generalize hb8 : mkL L = b8 at *
  unfold mvV mvA
  generalize m.l.length = len at *

  have hi0 : ∀ W, (Instr.index 114 (.agg #[.bool b0, .bool b1, .bool b2, .bool b3, .bool b4, .bool b5]) (.int .i64 0)).run Try.prog W = .ok (.bool b0) W := fun W => by kernel_rfl
  have hi1 : ∀ W, (Instr.index 114 (.agg #[.bool b0, .bool b1, .bool b2, .bool b3, .bool b4, .bool b5]) (.int .i64 1)).run Try.prog W = .ok (.bool b1) W := fun W => by kernel_rfl
  have hi2 : ∀ W, (Instr.index 114 (.agg #[.bool b0, .bool b1, .bool b2, .bool b3, .bool b4, .bool b5]) (.int .i64 2)).run Try.prog W = .ok (.bool b2) W := fun W => by kernel_rfl
  have hi3 : ∀ W, (Instr.index 114 (.agg #[.bool b0, .bool b1, .bool b2, .bool b3, .bool b4, .bool b5]) (.int .i64 3)).run Try.prog W = .ok (.bool b3) W := fun W => by kernel_rfl
  have hi4 : ∀ W, (Instr.index 114 (.agg #[.bool b0, .bool b1, .bool b2, .bool b3, .bool b4, .bool b5]) (.int .i64 4)).run Try.prog W = .ok (.bool b4) W := fun W => by kernel_rfl
  have hi5 : ∀ W, (Instr.index 114 (.agg #[.bool b0, .bool b1, .bool b2, .bool b3, .bool b4, .bool b5]) (.int .i64 5)).run Try.prog W = .ok (.bool b5) W := fun W => by kernel_rfl
  have hi6 : ∀ W, (Instr.index 115 (.agg #[.bool b6, .bool b7]) (.int .i64 0)).run Try.prog W = .ok (.bool b6) W := fun W => by kernel_rfl
  have hi7 : ∀ W, (Instr.index 115 (.agg #[.bool b6, .bool b7]) (.int .i64 1)).run Try.prog W = .ok (.bool b7) W := fun W => by kernel_rfl
  have hk0 := hnk 0 (by omega)
  have hz0 := hnz 0 (by omega)
  rw [hb0] at hk0 hz0
  have hk1 := hnk 1 (by omega)
  have hz1 := hnz 1 (by omega)
  rw [hb1] at hk1 hz1
  have hk2 := hnk 2 (by omega)
  have hz2 := hnz 2 (by omega)
  rw [hb2] at hk2 hz2
  have hk3 := hnk 3 (by omega)
  have hz3 := hnz 3 (by omega)
  rw [hb3] at hk3 hz3
  have hk4 := hnk 4 (by omega)
  have hz4 := hnz 4 (by omega)
  rw [hb4] at hk4 hz4
  have hk5 := hnk 5 (by omega)
  have hz5 := hnz 5 (by omega)
  rw [hb5] at hk5 hz5
  have hk6 := hsk 0 (by omega)
  have hz6 := hsz 0 (by omega)
  rw [hb6] at hk6 hz6
  have hk7 := hsk 1 (by omega)
  have hz7 := hsz 1 (by omega)
  rw [hb7] at hk7 hz7
  have HK0 := hid hk0
  have HZ0 := hid hz0
  have HI0 := hid hi0
  have HK1 := hid hk1
  have HZ1 := hid hz1
  have HI1 := hid hi1
  have HK2 := hid hk2
  have HZ2 := hid hz2
  have HI2 := hid hi2
  have HK3 := hid hk3
  have HZ3 := hid hz3
  have HI3 := hid hi3
  have HK4 := hid hk4
  have HZ4 := hid hz4
  have HI4 := hid hi4
  have HK5 := hid hk5
  have HZ5 := hid hz5
  have HI5 := hid hi5
  have HK6 := hid hk6
  have HZ6 := hid hz6
  have HI6 := hid hi6
  have HK7 := hid hk7
  have HZ7 := hid hz7
  have HI7 := hid hi7
  clear hk0 hz0 hi0 hk1 hz1 hi1 hk2 hz2 hi2 hk3 hz3 hi3 hk4 hz4 hi4 hk5 hz5 hi5 hk6 hz6 hi6 hk7 hz7 hi7 hnk hnz hsk hsz hb0 hb1 hb2 hb3 hb4 hb5 hb6 hb7 hb8
  have HMK := hid hmk
  have HST := hid hst
  have HMID := hid hmid
  have HET := hid heT
  have HEF := hid heF
  have HNC := hid hnc
  have HSC := hid hsc
  clear hmk hst hmid heT heF hnc hsc
  obtain ⟨s, hws⟩ : ∃ s, w.heap.size = s := ⟨_, rfl⟩
  rw [hws]
  go_enter Try.func47, Try.ntmps47
  go_wp2_with fail
  have hb0 := bw_a (bw_a (Below.refl w.heap.size w) (.cells #[.int .u8 (m.k : Int), .int .u64 (m.n0 : Int), .int .u64 (m.n1 : Int), .int .u64 (m.n2 : Int), .int .u64 (m.n3 : Int), .int .u64 (m.n4 : Int), .int .u64 (m.n5 : Int), .string m.s0, .string m.s1, .slice m.A len m.c] 29)) (.cells #[.int .u8 0, .int .u64 0, .int .u64 0, .int .u64 0, .int .u64 0, .int .u64 0, .int .u64 0, .string ⟨#[]⟩, .string ⟨#[]⟩, .slice none 0 0] 29)
  have hp0 := (Blk.new w 29 #[.int .u8 (m.k : Int), .int .u64 (m.n0 : Int), .int .u64 (m.n1 : Int), .int .u64 (m.n2 : Int), .int .u64 (m.n3 : Int), .int .u64 (m.n4 : Int), .int .u64 (m.n5 : Int), .string m.s0, .string m.s1, .slice m.A len m.c]).alloc (.cells #[.int .u8 0, .int .u64 0, .int .u64 0, .int .u64 0, .int .u64 0, .int .u64 0, .int .u64 0, .string ⟨#[]⟩, .string ⟨#[]⟩, .slice none 0 0] 29)
  have hp1 := Blk.new (w.alloc (.cells #[.int .u8 (m.k : Int), .int .u64 (m.n0 : Int), .int .u64 (m.n1 : Int), .int .u64 (m.n2 : Int), .int .u64 (m.n3 : Int), .int .u64 (m.n4 : Int), .int .u64 (m.n5 : Int), .string m.s0, .string m.s1, .slice m.A len m.c] 29)) 29 #[.int .u8 0, .int .u64 0, .int .u64 0, .int .u64 0, .int .u64 0, .int .u64 0, .int .u64 0, .string ⟨#[]⟩, .string ⟨#[]⟩, .slice none 0 0]
  rw [World.size_alloc] at hp1
  have hwz : ((w.alloc (.cells #[.int .u8 (m.k : Int), .int .u64 (m.n0 : Int), .int .u64 (m.n1 : Int), .int .u64 (m.n2 : Int), .int .u64 (m.n3 : Int), .int .u64 (m.n4 : Int), .int .u64 (m.n5 : Int), .string m.s0, .string m.s1, .slice m.A len m.c] 29)).alloc (.cells #[.int .u8 0, .int .u64 0, .int .u64 0, .int .u64 0, .int .u64 0, .int .u64 0, .int .u64 0, .string ⟨#[]⟩, .string ⟨#[]⟩, .slice none 0 0] 29)).heap.size = s + 2 := by simp [hws]
  rw [hws] at hb0 hp0 hp1
  generalize (w.alloc _).alloc _ = W at *
  refine (HMK.out W).mono ?_
  rintro e w1 ⟨rfl, hb1⟩
  have hw1 : s + 2 ≤ w1.heap.size := by have := hb1.size; omega
  have hp0 := hp0.below hb1 (by omega)
  have hp1 := hp1.below hb1 (by omega)
  have hB1 := hb0.trans (hb1.mono (by omega))
  clear hb0 hb1 hwz HMK
  obtain ⟨q, hq⟩ : ∃ q, w1.heap.size = q := ⟨_, rfl⟩
  have hqq : s + 2 ≤ q := by omega
  have HP0 := hid hp0
  have HP1 := hid hp1
  have HB1 := hid hB1
  clear hp0 hp1 hB1
  go_wp2_with fail
  obtain ⟨W2, hW2⟩ : ∃ W2, w1.alloc (.cells #[.bool b0, .bool b1, .bool b2, .bool b3, .bool b4, .bool b5, .bool b6, .bool b7, .bool b8] 117) = W2 := ⟨_, rfl⟩
  have hq2 : Blk W2 q 117 #[.bool b0, .bool b1, .bool b2, .bool b3, .bool b4, .bool b5, .bool b6, .bool b7, .bool b8] := by rw [← hW2, ← hq]; exact Blk.new w1 _ _
  have hp0 : Blk W2 s 29 (kn 0) := by rw [HST.out, ← hW2]; exact HP0.out.alloc _
  have hp1 : Blk W2 (s + 1) 29 #[.int .u8 0, .int .u64 0, .int .u64 0, .int .u64 0, .int .u64 0, .int .u64 0, .int .u64 0, .string ⟨#[]⟩, .string ⟨#[]⟩, .slice none 0 0] := by rw [← hW2]; exact HP1.out.alloc _
  have hB2 : Below s w W2 := by rw [← hW2]; exact HB1.out.alloc (by omega) _
  rw [hW2]
  have hszq : s + 2 ≤ W2.heap.size := by have := hq2.lt; omega
  have HQ2 := hid hq2
  have HP0 := hid hp0
  have HP1 := hid hp1
  have HB2 := hid hB2
  clear hW2 hq2 hp0 hp1 hB2 hw1 HB1 hq
  go_loopw [16] (fun i wr => ∃ j : Nat, j ≤ 6 ∧ i = .int .i64 (j : Int) ∧ Blk wr s 29 (kn j) ∧ Chg (fun g => g = s) W2 wr) (fun i _ => 6 - (intOf i).toNat)
  case atStart => exact ⟨0, by omega, rfl, HP0.out, Chg.refl _ _⟩
  case round =>
    obtain ⟨j, hj, he, hk, hc⟩ := hrel
    have hj6 : j = 0 ∨ j = 1 ∨ j = 2 ∨ j = 3 ∨ j = 4 ∨ j = 5 ∨ j = 6 := by omega
    rcases hj6 with rfl | rfl | rfl | rfl | rfl | rfl | rfl
    · have he2 : _ = Value.int .i64 0 := he
      subst he2
      obtain ⟨u, hu⟩ := HNC.out 0 1 (by omega)
      have q0 := (hk.cell 1).trans hu
      have q1 := hk.frozen 1
      have hidx := HI0.out
      have HK := hid hk
      have HC := hid hc
      clear hk hc hu he
      cases b0 with
      | true =>
        go_wp2_with fail
        exact ⟨⟨1, by omega, rfl, by rw [HK0.out rfl]; exact HK.out, HC.out⟩, by simp [intOf]⟩
      | false =>
        go_wp2_with fail
        have hf := HK.out.set_ (1 + 0) (.int .u64 0)
        rw [HZ0.out rfl] at hf
        exact ⟨⟨1, by omega, rfl, hf, HC.out.set_ (.inl rfl) _ _⟩, by simp [intOf]⟩
    · have he2 : _ = Value.int .i64 1 := he
      subst he2
      obtain ⟨u, hu⟩ := HNC.out 1 2 (by omega)
      have q0 := (hk.cell 2).trans hu
      have q1 := hk.frozen 2
      have hidx := HI1.out
      have HK := hid hk
      have HC := hid hc
      clear hk hc hu he
      cases b1 with
      | true =>
        go_wp2_with fail
        exact ⟨⟨2, by omega, rfl, by rw [HK1.out rfl]; exact HK.out, HC.out⟩, by simp [intOf]⟩
      | false =>
        go_wp2_with fail
        have hf := HK.out.set_ (1 + 1) (.int .u64 0)
        rw [HZ1.out rfl] at hf
        exact ⟨⟨2, by omega, rfl, hf, HC.out.set_ (.inl rfl) _ _⟩, by simp [intOf]⟩
    · have he2 : _ = Value.int .i64 2 := he
      subst he2
      obtain ⟨u, hu⟩ := HNC.out 2 3 (by omega)
      have q0 := (hk.cell 3).trans hu
      have q1 := hk.frozen 3
      have hidx := HI2.out
      have HK := hid hk
      have HC := hid hc
      clear hk hc hu he
      cases b2 with
      | true =>
        go_wp2_with fail
        exact ⟨⟨3, by omega, rfl, by rw [HK2.out rfl]; exact HK.out, HC.out⟩, by simp [intOf]⟩
      | false =>
        go_wp2_with fail
        have hf := HK.out.set_ (1 + 2) (.int .u64 0)
        rw [HZ2.out rfl] at hf
        exact ⟨⟨3, by omega, rfl, hf, HC.out.set_ (.inl rfl) _ _⟩, by simp [intOf]⟩
    · have he2 : _ = Value.int .i64 3 := he
      subst he2
      obtain ⟨u, hu⟩ := HNC.out 3 4 (by omega)
      have q0 := (hk.cell 4).trans hu
      have q1 := hk.frozen 4
      have hidx := HI3.out
      have HK := hid hk
      have HC := hid hc
      clear hk hc hu he
      cases b3 with
      | true =>
        go_wp2_with fail
        exact ⟨⟨4, by omega, rfl, by rw [HK3.out rfl]; exact HK.out, HC.out⟩, by simp [intOf]⟩
      | false =>
        go_wp2_with fail
        have hf := HK.out.set_ (1 + 3) (.int .u64 0)
        rw [HZ3.out rfl] at hf
        exact ⟨⟨4, by omega, rfl, hf, HC.out.set_ (.inl rfl) _ _⟩, by simp [intOf]⟩
    · have he2 : _ = Value.int .i64 4 := he
      subst he2
      obtain ⟨u, hu⟩ := HNC.out 4 5 (by omega)
      have q0 := (hk.cell 5).trans hu
      have q1 := hk.frozen 5
      have hidx := HI4.out
      have HK := hid hk
      have HC := hid hc
      clear hk hc hu he
      cases b4 with
      | true =>
        go_wp2_with fail
        exact ⟨⟨5, by omega, rfl, by rw [HK4.out rfl]; exact HK.out, HC.out⟩, by simp [intOf]⟩
      | false =>
        go_wp2_with fail
        have hf := HK.out.set_ (1 + 4) (.int .u64 0)
        rw [HZ4.out rfl] at hf
        exact ⟨⟨5, by omega, rfl, hf, HC.out.set_ (.inl rfl) _ _⟩, by simp [intOf]⟩
    · have he2 : _ = Value.int .i64 5 := he
      subst he2
      obtain ⟨u, hu⟩ := HNC.out 5 6 (by omega)
      have q0 := (hk.cell 6).trans hu
      have q1 := hk.frozen 6
      have hidx := HI5.out
      have HK := hid hk
      have HC := hid hc
      clear hk hc hu he
      cases b5 with
      | true =>
        go_wp2_with fail
        exact ⟨⟨6, by omega, rfl, by rw [HK5.out rfl]; exact HK.out, HC.out⟩, by simp [intOf]⟩
      | false =>
        go_wp2_with fail
        have hf := HK.out.set_ (1 + 5) (.int .u64 0)
        rw [HZ5.out rfl] at hf
        exact ⟨⟨6, by omega, rfl, hf, HC.out.set_ (.inl rfl) _ _⟩, by simp [intOf]⟩
    · have he2 : _ = Value.int .i64 6 := he
      subst he2
      clear he
      rw [← HMID.out] at hk
      have hqr := hc.blk HQ2.out (by omega)
      have d6 := hqr.cell 6
      have d7 := hqr.cell 7
      have d8 := hqr.cell 8
      simp only [List.getElem?_toArray, List.getElem?_cons_zero, List.getElem?_cons_succ] at d6 d7 d8
      have HK := hid hk
      have HC := hid hc
      have HQR := hid hqr
      clear hk hc hqr
      generalize wr = W3 at *
      go_wp2_with fail
      clear d6 d7 d8
      go_loopw [28] (fun i wr => ∃ j : Nat, j ≤ 2 ∧ i = .int .i64 (j : Int) ∧ Blk wr s 29 (ks j) ∧ Chg (fun g => g = s) W3 wr) (fun i _ => 2 - (intOf i).toNat)
      case atStart => exact ⟨0, by omega, rfl, HK.out, Chg.refl _ _⟩
      case round =>
        obtain ⟨j, hj, he, hk, hc⟩ := hrel
        have hj6 : j = 0 ∨ j = 1 ∨ j = 2 := by omega
        rcases hj6 with rfl | rfl | rfl
        · have he2 : _ = Value.int .i64 0 := he
          subst he2
          obtain ⟨u, hu⟩ := HSC.out 0 7 (by omega)
          have q0 := (hk.cell 7).trans hu
          have q1 := hk.frozen 7
          have hidx := HI6.out
          have HK := hid hk
          have HC3 := hid hc
          clear hk hc hu he
          cases b6 with
          | true =>
            go_wp2_with fail
            exact ⟨⟨1, by omega, rfl, by rw [HK6.out rfl]; exact HK.out, HC3.out⟩, by simp [intOf]⟩
          | false =>
            go_wp2_with fail
            have hf := HK.out.set_ (7 + 0) (.string ⟨#[]⟩)
            rw [HZ6.out rfl] at hf
            exact ⟨⟨1, by omega, rfl, hf, HC3.out.set_ (.inl rfl) _ _⟩, by simp [intOf]⟩
        · have he2 : _ = Value.int .i64 1 := he
          subst he2
          obtain ⟨u, hu⟩ := HSC.out 1 8 (by omega)
          have q0 := (hk.cell 8).trans hu
          have q1 := hk.frozen 8
          have hidx := HI7.out
          have HK := hid hk
          have HC3 := hid hc
          clear hk hc hu he
          cases b7 with
          | true =>
            go_wp2_with fail
            exact ⟨⟨2, by omega, rfl, by rw [HK7.out rfl]; exact HK.out, HC3.out⟩, by simp [intOf]⟩
          | false =>
            go_wp2_with fail
            have hf := HK.out.set_ (7 + 1) (.string ⟨#[]⟩)
            rw [HZ7.out rfl] at hf
            exact ⟨⟨2, by omega, rfl, hf, HC3.out.set_ (.inl rfl) _ _⟩, by simp [intOf]⟩
        · have he2 : _ = Value.int .i64 2 := he
          subst he2
          clear he
          have hqr := hc.blk HQR.out (by omega)
          have d8 := hqr.cell 8
          simp only [List.getElem?_toArray, List.getElem?_cons_zero, List.getElem?_cons_succ] at d8
          have hp1r := hc.blk (HC.out.blk HP1.out (by omega)) (by omega)
          have hbr := HB2.out.trans ((HC.out.trans hc).below (B := s) (fun g hg => by omega) (by omega))
          have HP1R := hid hp1r
          have HBR := hid hbr
          have hqs := hqr.lt
          cases b8 with
          | true =>
            rw [HET.out rfl] at hk
            have c0 := hk.cell 0
            have c1 := hk.cell 1
            have c2 := hk.cell 2
            have c3 := hk.cell 3
            have c4 := hk.cell 4
            have c5 := hk.cell 5
            have c6 := hk.cell 6
            have c7 := hk.cell 7
            have c8 := hk.cell 8
            have c9 := hk.cell 9
            simp only [List.getElem?_toArray, List.getElem?_cons_zero, List.getElem?_cons_succ] at c0 c1 c2 c3 c4 c5 c6 c7 c8 c9
            have d0 := hp1r.cell 0
            have d1 := hp1r.cell 1
            have d2 := hp1r.cell 2
            have d3 := hp1r.cell 3
            have d4 := hp1r.cell 4
            have d5 := hp1r.cell 5
            have d6 := hp1r.cell 6
            have d7 := hp1r.cell 7
            have d8 := hp1r.cell 8
            have d9 := hp1r.cell 9
            simp only [List.getElem?_toArray, List.getElem?_cons_zero, List.getElem?_cons_succ] at d0 d1 d2 d3 d4 d5 d6 d7 d8 d9
            have g0 := hp1r.frozen 0
            have g1 := hp1r.frozen 1
            have g2 := hp1r.frozen 2
            have g3 := hp1r.frozen 3
            have g4 := hp1r.frozen 4
            have g5 := hp1r.frozen 5
            have g6 := hp1r.frozen 6
            have g7 := hp1r.frozen 7
            have g8 := hp1r.frozen 8
            have g9 := hp1r.frozen 9
            have hend := (mstore HP1R.out (.int .u8 (m.k : Int)) (.int .u64 (a1 : Int)) (.int .u64 (a2 : Int)) (.int .u64 (a3 : Int)) (.int .u64 (a4 : Int)) (.int .u64 (a5 : Int)) (.int .u64 (a6 : Int)) (.string t7) (.string t8) (.slice ad9 ln9 cp9))
            have HE := hid hend
            clear hend hk hc hqr hp1r hbr
            go_wp2_with fail
            have hB := HBR.out.trans (HE.out.2.below (B := s) (fun g hg => by omega) (by have := HP1R.out.lt; omega))
            have hbk := HE.out.1
            have r0 := hbk.cell 0
            have r1 := hbk.cell 1
            have r2 := hbk.cell 2
            have r3 := hbk.cell 3
            have r4 := hbk.cell 4
            have r5 := hbk.cell 5
            have r6 := hbk.cell 6
            have r7 := hbk.cell 7
            have r8 := hbk.cell 8
            have r9 := hbk.cell 9
            simp only [List.getElem?_toArray, List.getElem?_cons_zero, List.getElem?_cons_succ] at r0 r1 r2 r3 r4 r5 r6 r7 r8 r9
            clear HE hbk
            generalize World.setCell (World.setCell _ _ _) _ _ = W9 at *
            clear HNC HSC HI0 HI1 HI2 HI3 HI4 HI5 HI6 HI7 HK0 HK1 HK2 HK3 HK4 HK5 HK6 HK7 HZ0 HZ1 HZ2 HZ3 HZ4 HZ5 HZ6 HZ7
            refine bodyPost_ret (v := .agg #[.int .u8 (m.k : Int), .int .u64 (a1 : Int), .int .u64 (a2 : Int), .int .u64 (a3 : Int), .int .u64 (a4 : Int), .int .u64 (a5 : Int), .int .u64 (a6 : Int), .string t7, .string t8, .slice ad9 ln9 cp9]) (by simp [results, Try.results47, go_sem, r0, r1, r2, r3, r4, r5, r6, r7, r8, r9]) rfl ?_
            exact ⟨rfl, hB⟩
          | false =>
            obtain ⟨u9, hu9⟩ := HSC.out 2 9 (by omega)
            have c9 := (hk.cell 9).trans hu9
            have e9 := hk.frozen 9
            have hk9 := hk.set_ 9 (.slice none 0 0)
            rw [HEF.out rfl] at hk9
            have hp9 := HP1R.out.far (p := ⟨s, 9, none⟩) (by simp) (.slice none 0 0)
            have hc9 : Chg (fun g => g = s) wr (wr.setCell ⟨s, 9, none⟩ (.slice none 0 0)) := (Chg.refl (fun g => g = s) wr).set_ (.inl rfl) 9 _
            have hb9 := HBR.out.trans (hc9.below (B := s) (fun g hg => by omega) (by have := HP1R.out.lt; omega))
            have HK9 := hid hk9
            have HP9 := hid hp9
            have HB9 := hid hb9
            have hlk := hk.lt
            clear hk hc hqr hp1r hbr hc9 hb9 hu9

            have k0 := hk9.cell 0
            have k1 := hk9.cell 1
            have k2 := hk9.cell 2
            have k3 := hk9.cell 3
            have k4 := hk9.cell 4
            have k5 := hk9.cell 5
            have k6 := hk9.cell 6
            have k7 := hk9.cell 7
            have k8 := hk9.cell 8
            have k9 := hk9.cell 9
            simp only [List.getElem?_toArray, List.getElem?_cons_zero, List.getElem?_cons_succ] at k0 k1 k2 k3 k4 k5 k6 k7 k8 k9
            have d0 := hp9.cell 0
            have d1 := hp9.cell 1
            have d2 := hp9.cell 2
            have d3 := hp9.cell 3
            have d4 := hp9.cell 4
            have d5 := hp9.cell 5
            have d6 := hp9.cell 6
            have d7 := hp9.cell 7
            have d8 := hp9.cell 8
            have d9 := hp9.cell 9
            simp only [List.getElem?_toArray, List.getElem?_cons_zero, List.getElem?_cons_succ] at d0 d1 d2 d3 d4 d5 d6 d7 d8 d9
            have g0 := hp9.frozen 0
            have g1 := hp9.frozen 1
            have g2 := hp9.frozen 2
            have g3 := hp9.frozen 3
            have g4 := hp9.frozen 4
            have g5 := hp9.frozen 5
            have g6 := hp9.frozen 6
            have g7 := hp9.frozen 7
            have g8 := hp9.frozen 8
            have g9 := hp9.frozen 9
            have hend := (mstore HP9.out (.int .u8 (m.k : Int)) (.int .u64 (a1 : Int)) (.int .u64 (a2 : Int)) (.int .u64 (a3 : Int)) (.int .u64 (a4 : Int)) (.int .u64 (a5 : Int)) (.int .u64 (a6 : Int)) (.string t7) (.string t8) (.slice ad9 ln9 cp9))
            have hl9 := hp9.lt
            have HE := hid hend
            clear hend hk9 hp9
            go_wp2_with fail
            have hB := HB9.out.trans (HE.out.2.below (B := s) (fun g hg => by omega) (by omega))
            have hbk := HE.out.1
            have r0 := hbk.cell 0
            have r1 := hbk.cell 1
            have r2 := hbk.cell 2
            have r3 := hbk.cell 3
            have r4 := hbk.cell 4
            have r5 := hbk.cell 5
            have r6 := hbk.cell 6
            have r7 := hbk.cell 7
            have r8 := hbk.cell 8
            have r9 := hbk.cell 9
            simp only [List.getElem?_toArray, List.getElem?_cons_zero, List.getElem?_cons_succ] at r0 r1 r2 r3 r4 r5 r6 r7 r8 r9
            clear HE hbk
            generalize World.setCell (World.setCell _ _ _) _ _ = W9 at *
            refine bodyPost_ret (v := .agg #[.int .u8 (m.k : Int), .int .u64 (a1 : Int), .int .u64 (a2 : Int), .int .u64 (a3 : Int), .int .u64 (a4 : Int), .int .u64 (a5 : Int), .int .u64 (a6 : Int), .string t7, .string t8, .slice ad9 ln9 cp9]) (by simp [results, Try.results47, go_sem, r0, r1, r2, r3, r4, r5, r6, r7, r8, r9]) rfl ?_
            exact ⟨rfl, hB⟩
end Go.Proofs.Ytealjpolomhdeaa
set_option linter.unusedVariables false
namespace Go.Proofs.Ytealjpolomhdeaa
open Go.ChangeShapes Go.WideShapes Go.ChangeAt Go.RowKit
section
variable {P : Program} {W : World} {t : TypeId}
theorem opens_array {α : Type} {e : TypeId} {n : Nat} {en : α → Value} {ok : α → Prop} (ht : P.underlying t = some (.array n e)) (hc : P.cellsOf e = 1) (hC : P.cellsOf t = n) (ho : Opens P W e (fun a => [en a]) ok) :
    Opens P W t (fun l : List α => l.map en) (fun l => l.length = n ∧ ∀ a ∈ l, ok a) := by
  intro H enc base spare held fuel cs x h
  obtain ⟨xs, m, _, _, hl, hxn, hf⟩ := DataW.trod_array ht h
  have hcl : cs.length = n := by rw [hl, hC]
  have h1 : ∀ i, i < n → ∃ a, cs[i]? = some (en a) ∧ ok a := by
    intro i hi
    have g := hf i hi
    rw [hc, Nat.mul_one, List.getElem?_eq_getElem (by omega)] at g
    obtain ⟨a, ha, hok⟩ := ho _ _ _ _ _ _ _ _ g
    refine ⟨a, ?_, hok⟩
    have h2 : ((cs.drop i).take 1)[0]? = some (en a) := by rw [ha]; rfl
    simpa using h2
  obtain ⟨l, hll, hlp⟩ := list_choose h1
  refine ⟨l, ?_, hll, ?_⟩
  · apply List.ext_getElem?
    intro i
    by_cases hi : i < n
    · have h3 := (hlp i (by omega)).1
      rw [h3, List.getElem?_map, List.getElem?_eq_getElem (by omega)]; rfl
    · rw [List.getElem?_eq_none (by omega), List.getElem?_eq_none (by simp; omega)]
  · intro a ha
    obtain ⟨i, hi, rfl⟩ := List.getElem_of_mem ha
    exact (hlp i hi).2
theorem opens_msg {f0 f1 f2 f3 : Field} (ht : P.underlying t = some (.struct #[f0, f1, f2, f3])) (hC : P.cellsOf t = 10) (ho : f0.offset = 0 ∧ f1.offset = 1 ∧ f2.offset = 7 ∧ f3.offset = 9)
    (hc : P.cellsOf f0.type = 1 ∧ P.cellsOf f1.type = 6 ∧ P.cellsOf f2.type = 2 ∧ P.cellsOf f3.type = 1)
    (h0 : Opens P W f0.type (fun n : Int => [.int .u8 n]) (fun n => (Lit.int .u8 n).wf = true)) (h1 : Opens P W f1.type (fun l : List Int => l.map fun n => .int .u64 n) (fun l => l.length = 6 ∧ ∀ a ∈ l, (Lit.int .u64 a).wf = true))
    (h2 : Opens P W f2.type (fun l : List ByteArray => l.map fun n => .string n) (fun l => l.length = 2 ∧ ∀ a ∈ l, a.size ≤ 9223372036854775807))
    (h3 : Opens P W f3.type (fun s : SlV ByteArray => [.slice s.A s.xs.length s.c]) (fun s => (∀ x ∈ s.xs, x.size ≤ 9223372036854775807) ∧ SlN W s.A s.xs.length s.c 1 (s.xs.flatMap fun s => [.string s]))) :
    Opens P W t (fun m : MV => (mvA m).toList) (MvOk W) := by
  obtain ⟨o0, o1, o2, o3⟩ := ho
  obtain ⟨c0, c1, c2, c3⟩ := hc
  intro H en base spare held fuel cs x h
  obtain ⟨xs, n, _, _, hl, hlen, hf⟩ := DataW.trod_struct ht h
  have g0 := hf 0 f0 rfl
  have g1 := hf 1 f1 rfl
  have g2 := hf 2 f2 rfl
  have g3 := hf 3 f3 rfl
  rw [o0, c0, List.getElem?_eq_getElem (by rw [hlen]; show 0 < 4; omega)] at g0
  rw [o1, c1, List.getElem?_eq_getElem (by rw [hlen]; show 1 < 4; omega)] at g1
  rw [o2, c2, List.getElem?_eq_getElem (by rw [hlen]; show 2 < 4; omega)] at g2
  rw [o3, c3, List.getElem?_eq_getElem (by rw [hlen]; show 3 < 4; omega)] at g3
  rw [hC] at hl
  obtain ⟨a0, k0, w0⟩ := h0 _ _ _ _ _ _ _ _ g0
  obtain ⟨a1, k1, w1, v1⟩ := h1 _ _ _ _ _ _ _ _ g1
  obtain ⟨a2, k2, w2, v2⟩ := h2 _ _ _ _ _ _ _ _ g2
  obtain ⟨a3, k3, w3, v3⟩ := h3 _ _ _ _ _ _ _ _ g3
  clear g0 g1 g2 g3 hf h0 h1 h2 h3 h
  match a1, w1 with
  | [n0, n1, n2, n3, n4, n5], _ =>
    match a2, w2 with
    | [s0, s1], _ =>
      match cs, hl with
      | [x0, x1, x2, x3, x4, x5, x6, x7, x8, x9], _ =>
        simp at k0 k1 k2 k3
        obtain ⟨rfl, rfl, rfl, rfl, rfl, rfl⟩ := k1
        obtain ⟨rfl, rfl⟩ := k2
        subst k0 k3
        have e0 := wf_u8 w0
        have m0 := wf_u64 (v1 n0 (by simp))
        have m1 := wf_u64 (v1 n1 (by simp))
        have m2 := wf_u64 (v1 n2 (by simp))
        have m3 := wf_u64 (v1 n3 (by simp))
        have m4 := wf_u64 (v1 n4 (by simp))
        have m5 := wf_u64 (v1 n5 (by simp))
        have t0 := v2 s0 (by simp)
        have t1 := v2 s1 (by simp)
        refine ⟨⟨a0.toNat, n0.toNat, n1.toNat, n2.toNat, n3.toNat, n4.toNat, n5.toNat, s0, s1, a3.A, a3.c, a3.xs⟩, ?_, ?_, ?_, ?_, w3, ?_⟩
        · simp only [mvA]
          rw [Int.toNat_of_nonneg e0.1, Int.toNat_of_nonneg m0.1, Int.toNat_of_nonneg m1.1, Int.toNat_of_nonneg m2.1, Int.toNat_of_nonneg m3.1, Int.toNat_of_nonneg m4.1, Int.toNat_of_nonneg m5.1]
        · show a0.toNat ≤ 255; omega
        · intro i; unfold MV.num; split <;> first | (dsimp only; omega) | omega
        · intro i
          unfold MV.text
          split
          · exact t0
          · exact t1
          · show (0 : Nat) ≤ _; omega
        · have e : (a3.xs.flatMap fun s => [Value.string s]) = a3.xs.map sv := by
            induction a3.xs with
            | nil => rfl
            | cons x r ih => rw [List.flatMap_cons, ih]; rfl
          rw [e] at v3
          exact ⟨by rw [v3.len, Nat.mul_one]; exact v3.cap, v3.small, v3.nil0, v3.rd⟩
end
theorem openMsg (W : World) : Opens Try.prog W 29 (fun m : MV => (mvA m).toList) (MvOk W) :=
  opens_msg Try.underlying29 (by kernel_rfl) ⟨rfl, rfl, rfl, rfl⟩ ⟨by kernel_rfl, by kernel_rfl, by kernel_rfl, by kernel_rfl⟩
    (opens_int Try.underlying5) (opens_array Try.underlying25 (by kernel_rfl) (by kernel_rfl) (opens_int Try.underlying24)) (opens_array Try.underlying26 (by kernel_rfl) (by kernel_rfl) (opens_string Try.underlying9))
    (opens_slice (size := 1) Try.underlying27 (by kernel_rfl) (by omega) (fun _ => rfl) (opens_string Try.underlying9))
end Go.Proofs.Ytealjpolomhdeaa
