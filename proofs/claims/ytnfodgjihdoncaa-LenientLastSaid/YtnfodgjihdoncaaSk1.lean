/- The fields of bytes: what is read at a place, and one behind another. · skip.read: a field at a reader's place. · skip.read in one piece. · What came in: bytes, and structs of five fields of a cell each. · skip.each: the fields of bytes, one by one, whatever is done with them. · skip.Fields in one piece. -/
import Derived.Test.YtnfodgjihdoncaaM4
import Derived.Test.YtnfodgjihdoncaaM3
import Derived.Test.YtnfodgjihdoncaaM1
import Derived.RegionTactic
import Derived.ChangeAlike
import Derived.Test.YtnfodgjihdoncaaM2
import Derived.Scope
import Derived.Test.YtnfodgjihdoncaaM6
import Derived.RangeFuncOwn
import Derived.RangeFuncLeaves
import Derived.RangeFuncNested
import Derived.RangeFuncCalls
import Derived.Shelf.RegionOpen
set_option linter.unusedVariables false
namespace Go.Proofs.Ytnfodgjihdoncaa
open Go.RowKit
/-- The value behind a tag: a number, or bytes; what is wrong; the place behind. -/
def rVal (w : Int) (bs : List UInt8) (p : Nat) : Nat × List UInt8 × Nat × Nat :=
  if w = 0 then (if (M.get (bs.drop p)).2.2 = 0 then (M.get (bs.drop p)).1 else 0, [], (M.get (bs.drop p)).2.2, plc (M.get (bs.drop p)).2.2 p (p + (M.get (bs.drop p)).2.1))
  else if w = 1 then (if (rFix 8 bs p).2.1 = 0 then (rFix 8 bs p).1 else 0, [], (rFix 8 bs p).2.1, plc (rFix 8 bs p).2.1 p (rFix 8 bs p).2.2)
  else if w = 2 then (0, if (rCount 8192 bs p).2.1 = 0 then (rCount 8192 bs p).1 else [], (rCount 8192 bs p).2.1, plc (rCount 8192 bs p).2.1 p (rCount 8192 bs p).2.2)
  else (if (rFix 4 bs p).2.1 = 0 then (rFix 4 bs p).1 else 0, [], (rFix 4 bs p).2.1, plc (rFix 4 bs p).2.1 p (rFix 4 bs p).2.2)
/-- A field at a place. -/
structure RF where
  num : Int
  w : Int
  n : Nat
  xs : List UInt8
  e : Nat
  p : Nat
  nx : Nat
def rOne (bs : List UInt8) (p : Nat) : RF :=
  if (rHead bs p).2.2.1 = 0 then
    ⟨(rHead bs p).1, (rHead bs p).2.1, (rVal (rHead bs p).2.1 bs (rHead bs p).2.2.2).1, (rVal (rHead bs p).2.1 bs (rHead bs p).2.2.2).2.1, (rVal (rHead bs p).2.1 bs (rHead bs p).2.2.2).2.2.1, flt (rVal (rHead bs p).2.1 bs (rHead bs p).2.2.2).2.2.1 (rHead bs p).2.2.2, (rVal (rHead bs p).2.1 bs (rHead bs p).2.2.2).2.2.2⟩
  else ⟨0, 0, 0, [], (rHead bs p).2.2.1, p, p⟩
theorem rHead_facts (bs : List UInt8) (p : Nat) (h : (rHead bs p).2.2.1 = 0) : 1 ≤ (rHead bs p).1 ∧ (rHead bs p).1 ≤ 536870911 ∧ ((rHead bs p).2.1 = 0 ∨ (rHead bs p).2.1 = 1 ∨ (rHead bs p).2.1 = 2 ∨ (rHead bs p).2.1 = 5) ∧ p < (rHead bs p).2.2.2 := by
  unfold rHead at h ⊢
  have hg := M.get_facts (bs.drop p)
  by_cases h0 : (M.get (bs.drop p)).2.2 = 0
  · rw [if_pos h0] at h ⊢
    simp only at h ⊢
    have hs := spl_err ((M.get (bs.drop p)).1 : Int)
    have hz : (spl ((M.get (bs.drop p)).1 : Int)).2.2 = 0 := by omega
    obtain ⟨h1, h2, h3, h4⟩ := spl_ok_inv hz
    rw [h4]
    simp only
    refine ⟨h1, h2, ?_, ?_⟩
    · unfold wireB at h3
      simpa using h3
    · have := (hg.1 h0).1; omega
  · rw [if_neg h0] at h
    simp only at h
    exact absurd h h0
theorem rCount_ok (bs : List UInt8) (p : Nat) (hp : p ≤ bs.length) (h : (rCount 8192 bs p).2.1 = 0) : p ≤ (rCount 8192 bs p).2.2 ∧ (rCount 8192 bs p).2.2 ≤ bs.length := by
  have hg := M.get_facts (bs.drop p)
  have hd : (bs.drop p).length = bs.length - p := List.length_drop
  unfold rCount at h ⊢
  split at h
  · simp at h; omega
  · rename_i h0
    rw [if_neg h0]
    have h1 := hg.1 (by omega)
    split at h
    · simp at h
    · rename_i h2
      rw [if_neg h2]
      by_cases hs : ((bs.length - (p + (M.get (bs.drop p)).2.1) : Nat) : Int) < ((M.get (bs.drop p)).1 : Int)
      · rw [rTake_short (by omega) hs] at h; simp at h
      · rw [rTake_ok (by omega) hs]
        simp only [Int.toNat_natCast]
        omega
theorem rVal_facts (w : Int) (bs : List UInt8) (p : Nat) (hp : p ≤ bs.length) : p ≤ (rVal w bs p).2.2.2 ∧ (rVal w bs p).2.2.2 ≤ bs.length ∧ (rVal w bs p).1 ≤ 18446744073709551615 ∧ ((rVal w bs p).2.2.1 ≠ 0 → (rVal w bs p).2.2.2 = p ∧ (rVal w bs p).1 = 0 ∧ (rVal w bs p).2.1 = []) := by
  have hg := M.get_facts (bs.drop p)
  have hd : (bs.drop p).length = bs.length - p := List.length_drop
  have hfx : ∀ k, k ≤ 8 → p ≤ plc (rFix k bs p).2.1 p (rFix k bs p).2.2 ∧ plc (rFix k bs p).2.1 p (rFix k bs p).2.2 ≤ bs.length ∧ (if (rFix k bs p).2.1 = 0 then (rFix k bs p).1 else 0) ≤ 18446744073709551615 ∧ ((rFix k bs p).2.1 ≠ 0 → plc (rFix k bs p).2.1 p (rFix k bs p).2.2 = p ∧ (if (rFix k bs p).2.1 = 0 then (rFix k bs p).1 else 0) = 0) := by
    intro k hk
    unfold rFix
    by_cases h : bs.length - p < k
    · rw [if_pos h]; simp [plc]; exact hp
    · rw [if_neg h]
      have hu := unfixN_lt ((bs.drop p).take k)
      have hl : ((bs.drop p).take k).length = k := by rw [List.length_take, hd]; omega
      rw [hl] at hu
      have hb := pow256 hk
      simp [plc]
      omega
  unfold rVal
  split
  · by_cases h0 : (M.get (bs.drop p)).2.2 = 0
    · have h1 := hg.1 h0
      simp only [h0, plc, if_true]
      refine ⟨by omega, by omega, by omega, fun h => absurd rfl h⟩
    · simp only [h0, plc, if_false]
      exact ⟨Nat.le_refl _, hp, by omega, fun _ => by simp⟩
  split
  · have h := hfx 8 (by omega)
    exact ⟨h.1, h.2.1, h.2.2.1, fun he => ⟨(h.2.2.2 he).1, (h.2.2.2 he).2, rfl⟩⟩
  split
  · have hc := rCount_ok bs p hp
    simp only
    refine ⟨?_, ?_, by omega, ?_⟩
    · unfold plc
      split
      · rename_i h; exact (hc h).1
      · exact Nat.le_refl _
    · unfold plc
      split
      · rename_i h; exact (hc h).2
      · exact hp
    · intro he
      simp [plc, he]
  · have h := hfx 4 (by omega)
    exact ⟨h.1, h.2.1, h.2.2.1, fun he => ⟨(h.2.2.2 he).1, (h.2.2.2 he).2, rfl⟩⟩
theorem rOne_facts (bs : List UInt8) (p : Nat) (hp : p ≤ bs.length) : ((rOne bs p).e = 0 → p < (rOne bs p).nx ∧ (rOne bs p).nx ≤ bs.length ∧ 1 ≤ (rOne bs p).num ∧ (rOne bs p).num ≤ 536870911 ∧ ((rOne bs p).w = 0 ∨ (rOne bs p).w = 1 ∨ (rOne bs p).w = 2 ∨ (rOne bs p).w = 5)) ∧ (rOne bs p).n ≤ 18446744073709551615 := by
  unfold rOne
  split
  · rename_i h
    have hh := rHead_facts bs p h
    have hp1 : (rHead bs p).2.2.2 ≤ bs.length := by
      unfold rHead at h ⊢
      have hg := M.get_facts (bs.drop p)
      have hd : (bs.drop p).length = bs.length - p := List.length_drop
      split
      · rename_i h0; have := (hg.1 h0).2.2.1; simp only; omega
      · exact hp
    have hv := rVal_facts (rHead bs p).2.1 bs (rHead bs p).2.2.2 hp1
    simp only
    exact ⟨fun he => ⟨by omega, hv.2.1, hh.1, hh.2.1, hh.2.2.1⟩, hv.2.2.1⟩
  · rename_i h
    exact ⟨fun he => absurd he h, by simp⟩
/-- The fields from a place on, each with its place; or what is wrong, and where. -/
def flds (bs : List UInt8) : Nat → Nat → List (RF × Nat) × Nat × Nat
  | 0, _ => ([], 0, 0)
  | f + 1, p => if bs.length ≤ p then ([], 0, 0) else if (rOne bs p).e = 0 then ((rOne bs p, p) :: (flds bs f (rOne bs p).nx).1, (flds bs f (rOne bs p).nx).2.1, (flds bs f (rOne bs p).nx).2.2) else ([], (rOne bs p).e, (rOne bs p).p)
theorem flds_end (bs : List UInt8) (f p : Nat) (h : bs.length ≤ p) : flds bs f p = ([], 0, 0) := by
  cases f with
  | zero => rfl
  | succ f => rw [flds, if_pos h]
theorem flds_bad (bs : List UInt8) (f p : Nat) (h : p < bs.length) (hf : bs.length - p ≤ f) (he : (rOne bs p).e ≠ 0) : flds bs f p = ([], (rOne bs p).e, (rOne bs p).p) := by
  obtain ⟨g, rfl⟩ : ∃ g, f = g + 1 := ⟨f - 1, by omega⟩
  rw [flds, if_neg (by omega), if_neg he]
theorem flds_step (bs : List UInt8) (f p : Nat) (h : p < bs.length) (hf : bs.length - p ≤ f) (he : (rOne bs p).e = 0) : ∃ g, bs.length - (rOne bs p).nx ≤ g ∧ flds bs f p = ((rOne bs p, p) :: (flds bs g (rOne bs p).nx).1, (flds bs g (rOne bs p).nx).2.1, (flds bs g (rOne bs p).nx).2.2) := by
  obtain ⟨g, rfl⟩ : ∃ g, f = g + 1 := ⟨f - 1, by omega⟩
  have hn := ((rOne_facts bs p (by omega)).1 he).1
  exact ⟨g, by omega, by rw [flds, if_neg (by omega), if_pos he]⟩
end Go.Proofs.Ytnfodgjihdoncaa
set_option linter.unusedVariables false
namespace Go.Proofs.Ytnfodgjihdoncaa
open Go.RowKit
section
variable {S : Nat → Prop} {w w' : World} {q : Nat}
theorem Rin.chgS {t : TypeId} {A : Option Addr} {c : Nat} {bs : List UInt8} {p : Nat} (h : Rin t w q A c bs p) (hc : Chg S w w') (hq : ¬ S q) (hf : FarS A bs.length S) : Rin t w' q A c bs p := ⟨hc.blk h.blk hq, hc.sl h.sl hf (by simp), h.le, h.far⟩
theorem Only.chgS {w0 : World} (h : Only q w0 w) (hc : Chg S w w') (hS : ∀ k, S k → w0.heap.size ≤ k) : Only q w0 w' :=
  ⟨hc.os.trans h.os, hc.tape.trans h.tape, hc.output.trans h.output, Nat.le_trans h.size hc.size, fun k hk hq => (hc.block k (Nat.lt_of_lt_of_le hk h.size) fun hs => by have := hS k hs; omega).trans (h.block k hk hq)⟩
end
/-- Five cells of one block, two of another one, and a draw. -/
theorem chg52 (w : World) (g h : Nat) (x0 x1 x2 x3 x4 y0 y1 : Value) : Chg (fun k => k = g ∨ k = h) w ((((((((w.setCell ⟨g, 0, none⟩ x0).setCell ⟨g, 1, none⟩ x1).setCell ⟨g, 2, none⟩ x2).setCell ⟨g, 3, none⟩ x3).setCell ⟨g, 4, none⟩ x4).setCell ⟨h, 0, none⟩ y0).setCell ⟨h, 1, none⟩ y1).drew) :=
  (((((((((Chg.refl _ w).set_ (.inl (.inl rfl)) 0 x0).set_ (.inl (.inl rfl)) 1 x1).set_ (.inl (.inl rfl)) 2 x2).set_ (.inl (.inl rfl)) 3 x3).set_ (.inl (.inl rfl)) 4 x4).set_ (.inl (.inr rfl)) 0 y0).set_ (.inl (.inr rfl)) 1 y1)).drew
set_option maxRecDepth 100000 in
set_option maxHeartbeats 400000 in
theorem sread_bad (num x : Int) (e p1 : Nat) (w : World) (q : Nat) (A : Option Addr) (c : Nat) (bs : List UInt8) (p : Nat) (hh : rHead bs p = (num, x, e, p1)) (he : e ≠ 0) (h : Rin 210 w q A c bs p) :
    Calls Try.prog 126 #[.pointer (some ⟨q, 0, none⟩)] w fun e' w' => e' = .returned (.tuple #[.agg #[.int .i64 0, .int .u8 0, .int .u64 0, .slice none 0 0, .int .i64 0], .agg #[.int .i64 (e : Int), .int .i64 (p : Int)]]) ∧ Rin 210 w' q A c bs p ∧ Only q w w' := by
  have hlt := h.blk.lt
  have hat := fun W hb => iat_any 0 W q A c bs p (h.below hb)
  have htg := fun W hb => itagm_any W q A c bs p (h.below hb)
  have hfn := fun g (hg : w.heap.size ≤ g) => far_new h.sl hg
  simp only [hh, he, if_false, flt, plc] at htg
  have heb : ((e : Int) != 0) = true := by simp; omega
  have HAT := hid hat
  have HTG := hid htg
  have HFN := hid hfn
  clear hat htg hfn h hh he
  go_enter Try.func126, Try.ntmps126
  go_wp2_with fail
  generalize hW : World.alloc _ _ = W
  have hbW : Below w.heap.size w W := by rw [← hW]; exact bw_a (bw_a (Below.refl _ w) _) _
  have hoW : Only q w W := .of_below hbW
  have hq2 : Blk W w.heap.size 95 #[.int .i64 0, .int .u8 0, .int .u64 0, .slice none 0 0, .int .i64 0] := by rw [← hW]; exact (Blk.new w _ _).alloc _
  have hq3 : Blk W (w.heap.size + 1) 33 #[.int .i64 0, .int .i64 0] := by
    rw [← hW]
    have := Blk.new (w.alloc (.cells #[.int .i64 0, .int .u8 0, .int .u64 0, .slice none 0 0, .int .i64 0] 95)) 33 #[.int .i64 0, .int .i64 0]
    simpa using this
  clear hW
  refine (HAT.out _ hbW).mono ?_
  rintro e1 w1 ⟨rfl, rfl⟩
  go_wp2_with fail
  refine (HTG.out _ hbW).mono ?_
  rintro e1 w1 ⟨rfl, hrin, ho⟩
  have hk2 := ho.blk hq2 (by omega)
  have hk3 := ho.blk hq3 (by omega)
  have hO := hoW.trans ho
  clear hq2 hq3 hoW ho
  go_wp2_with fail
  generalize hW3 : World.alloc _ _ = W3
  have hb3 : Below w1.heap.size w1 W3 := by rw [← hW3]; exact bw_a (Below.refl _ w1) _
  have hk7 : Blk W3 w1.heap.size 33 #[.int .i64 (e : Int), .int .i64 (p : Int)] := by rw [← hW3]; exact Blk.new w1 _ _
  have m2 := hk2.below hb3 hk2.lt
  have m3 := hk3.below hb3 hk3.lt
  have hn7 : w1.heap.size ≠ w.heap.size := by have := hk2.lt; omega
  have hn8 : w1.heap.size ≠ w.heap.size + 1 := by have := hk3.lt; omega
  have a0 : W3.cell? ⟨w.heap.size, 0, none⟩ = some (.int .i64 0) := m2.cell 0
  have a1 : W3.cell? ⟨w.heap.size, 1, none⟩ = some (.int .u8 0) := m2.cell 1
  have a2 : W3.cell? ⟨w.heap.size, 2, none⟩ = some (.int .u64 0) := m2.cell 2
  have a3 : W3.cell? ⟨w.heap.size, 3, none⟩ = some (.slice none 0 0) := m2.cell 3
  have a4 : W3.cell? ⟨w.heap.size, 4, none⟩ = some (.int .i64 0) := m2.cell 4
  have g0 := m2.frozen 0
  have g1 := m2.frozen 1
  have g2 := m2.frozen 2
  have g3 := m2.frozen 3
  have g4 := m2.frozen 4
  have b0 : W3.cell? ⟨w.heap.size + 1, 0, none⟩ = some (.int .i64 0) := m3.cell 0
  have b1 : W3.cell? ⟨w.heap.size + 1, 1, none⟩ = some (.int .i64 0) := m3.cell 1
  have i0 := m3.frozen 0
  have i1 := m3.frozen 1
  have e0 : W3.cell? ⟨w1.heap.size, 0, none⟩ = some (.int .i64 (e : Int)) := hk7.cell 0
  have e1 : W3.cell? ⟨w1.heap.size, 1, none⟩ = some (.int .i64 (p : Int)) := hk7.cell 1
  have hl2 := m2.lt
  have hl3 := m3.lt
  have hl7 := hk7.lt
  have HR3 := hid (hrin.below hb3)
  have HO3 := hid (hO.trans (.of_below hb3))
  clear hW3 hb3 hk7 m2 m3 hk2 hk3 hrin hO
  go_region
  all_goals go_wp2_with fail
  all_goals refine bodyPost_ret (v := .tuple #[.agg #[.int .i64 0, .int .u8 0, .int .u64 0, .slice none 0 0, .int .i64 0], .agg #[.int .i64 (e : Int), .int .i64 (p : Int)]]) (by simp [results, Try.results126, go_sem, a0, a1, a2, a3, a4, b0, b1]) rfl ⟨rfl, ?_, ?_⟩
  · exact HR3.out.chgS (chg52 W3 w.heap.size (w.heap.size + 1) _ _ _ _ _ _ _) (by omega) (fun hp b o he hS => hS.elim (fun h => HFN.out b (by omega) hp b o he rfl) (fun h => HFN.out b (by omega) hp b o he rfl))
  · exact HO3.out.chgS (chg52 W3 w.heap.size (w.heap.size + 1) _ _ _ _ _ _ _) (fun k hk => by omega)
theorem sval0 (w : World) (q : Nat) (A : Option Addr) (c : Nat) (bs : List UInt8) (p : Nat) (h : Rin 210 w q A c bs p) :
    Calls Try.prog 139 #[.pointer (some ⟨q, 0, none⟩)] w fun e w' => e = .returned (.tuple #[.int .u64 ((rVal 0 bs p).1 : Nat), .agg #[.int .i64 ((rVal 0 bs p).2.2.1 : Nat), .int .i64 (flt (rVal 0 bs p).2.2.1 p : Nat)]]) ∧ Rin 210 w' q A c bs (rVal 0 bs p).2.2.2 ∧ Only q w w' := by
  have h1 := inumm_any w q A c bs p h
  have hr : rVal 0 bs p = (if (M.get (bs.drop p)).2.2 = 0 then (M.get (bs.drop p)).1 else 0, [], (M.get (bs.drop p)).2.2, plc (M.get (bs.drop p)).2.2 p (p + (M.get (bs.drop p)).2.1)) := by unfold rVal; rw [if_pos rfl]
  rw [hr]
  exact h1
theorem sval1 (w : World) (q : Nat) (A : Option Addr) (c : Nat) (bs : List UInt8) (p : Nat) (h : Rin 210 w q A c bs p) :
    Calls Try.prog 140 #[.pointer (some ⟨q, 0, none⟩)] w fun e w' => e = .returned (.tuple #[.int .u64 ((rVal 1 bs p).1 : Nat), .agg #[.int .i64 ((rVal 1 bs p).2.2.1 : Nat), .int .i64 (flt (rVal 1 bs p).2.2.1 p : Nat)]]) ∧ Rin 210 w' q A c bs (rVal 1 bs p).2.2.2 ∧ Only q w w' := by
  have h1 := ieightm_any w q A c bs p h
  have hr : rVal 1 bs p = (if (rFix 8 bs p).2.1 = 0 then (rFix 8 bs p).1 else 0, [], (rFix 8 bs p).2.1, plc (rFix 8 bs p).2.1 p (rFix 8 bs p).2.2) := by unfold rVal; rw [if_neg (by omega), if_pos rfl]
  rw [hr]
  exact h1
theorem sval2 (w : World) (q : Nat) (A : Option Addr) (c : Nat) (bs : List UInt8) (p : Nat) (h : Rin 210 w q A c bs p) :
    Calls Try.prog 141 #[.pointer (some ⟨q, 0, none⟩), .int .i64 8192] w fun e w' => ∃ A' c', e = .returned (.tuple #[.slice A' (rVal 2 bs p).2.1.length c', .agg #[.int .i64 ((rVal 2 bs p).2.2.1 : Nat), .int .i64 (flt (rVal 2 bs p).2.2.1 p : Nat)]]) ∧ Sl w' A' c' ((rVal 2 bs p).2.1.map bv) ∧ (∀ q', Far A bs.length q' → Far A' (rVal 2 bs p).2.1.length q') ∧ Rin 210 w' q A c bs (rVal 2 bs p).2.2.2 ∧ Only q w w' := by
  have h1 := ibytesm_any 8192 w q A c bs p (by omega) (by omega) h
  have hr : rVal 2 bs p = (0, if (rCount 8192 bs p).2.1 = 0 then (rCount 8192 bs p).1 else [], (rCount 8192 bs p).2.1, plc (rCount 8192 bs p).2.1 p (rCount 8192 bs p).2.2) := by unfold rVal; rw [if_neg (by omega), if_neg (by omega), if_pos rfl]
  rw [hr]
  exact h1
theorem sval5 (w : World) (q : Nat) (A : Option Addr) (c : Nat) (bs : List UInt8) (p : Nat) (h : Rin 210 w q A c bs p) :
    Calls Try.prog 142 #[.pointer (some ⟨q, 0, none⟩)] w fun e w' => e = .returned (.tuple #[.int .u32 ((rVal 5 bs p).1 : Nat), .agg #[.int .i64 ((rVal 5 bs p).2.2.1 : Nat), .int .i64 (flt (rVal 5 bs p).2.2.1 p : Nat)]]) ∧ Rin 210 w' q A c bs (rVal 5 bs p).2.2.2 ∧ Only q w w' := by
  have h1 := ifourm_any w q A c bs p h
  have hr : rVal 5 bs p = (if (rFix 4 bs p).2.1 = 0 then (rFix 4 bs p).1 else 0, [], (rFix 4 bs p).2.1, plc (rFix 4 bs p).2.1 p (rFix 4 bs p).2.2) := by unfold rVal; rw [if_neg (by omega), if_neg (by omega), if_neg (by omega)]
  rw [hr]
  exact h1
set_option maxRecDepth 100000 in
set_option maxHeartbeats 1000000 in
theorem sread_0 (num : Int) (p1 : Nat) (v er fa nx : Nat) (w : World) (q : Nat) (A : Option Addr) (c : Nat) (bs : List UInt8) (p : Nat) (hh : rHead bs p = (num, 0, 0, p1)) (hv : rVal 0 bs p1 = (v, [], er, nx)) (hfa : flt er p1 = fa) (hvn : True) (h : Rin 210 w q A c bs p) :
    Calls Try.prog 126 #[.pointer (some ⟨q, 0, none⟩)] w fun e' w' => e' = .returned (.tuple #[.agg #[.int .i64 num, .int .u8 0, .int .u64 (v : Int), .slice none 0 0, .int .i64 (p : Int)], .agg #[.int .i64 (er : Int), .int .i64 (fa : Int)]]) ∧ Rin 210 w' q A c bs nx ∧ Only q w w' := by
  have hlt := h.blk.lt
  have hat := fun W hb => iat_any 0 W q A c bs p (h.below hb)
  have htg := fun W hb => itagm_any W q A c bs p (h.below hb)
  have hvl := fun W hr => sval0 W q A c bs p1 hr
  have hfn := fun g (hg : w.heap.size ≤ g) => far_new h.sl hg
  simp only [hh, if_true, flt, plc] at htg
  simp only [hv, hfa] at hvl
  have HAT := hid hat
  have HTG := hid htg
  have HVL := hid hvl
  have HFN := hid hfn
  clear hat htg hvl hfn h hh hv hfa
  go_enter Try.func126, Try.ntmps126
  go_wp2_with fail
  generalize hW : World.alloc _ _ = W
  have hbW : Below w.heap.size w W := by rw [← hW]; exact bw_a (bw_a (Below.refl _ w) _) _
  have hoW : Only q w W := .of_below hbW
  have hq2 : Blk W w.heap.size 95 #[.int .i64 0, .int .u8 0, .int .u64 0, .slice none 0 0, .int .i64 0] := by rw [← hW]; exact (Blk.new w _ _).alloc _
  have hq3 : Blk W (w.heap.size + 1) 33 #[.int .i64 0, .int .i64 0] := by
    rw [← hW]
    have := Blk.new (w.alloc (.cells #[.int .i64 0, .int .u8 0, .int .u64 0, .slice none 0 0, .int .i64 0] 95)) 33 #[.int .i64 0, .int .i64 0]
    simpa using this
  clear hW
  refine (HAT.out _ hbW).mono ?_
  rintro e1 w1 ⟨rfl, rfl⟩
  go_wp2_with fail
  refine (HTG.out _ hbW).mono ?_
  rintro e1 w1 ⟨rfl, hrin, ho⟩
  have hk2 := ho.blk hq2 (by omega)
  have hk3 := ho.blk hq3 (by omega)
  have hO := hoW.trans ho
  clear hq2 hq3 hoW ho
  go_wp2_with fail
  generalize hW3 : World.alloc _ _ = W3
  have hb3 : Below w1.heap.size w1 W3 := by rw [← hW3]; exact bw_a (bw_a (Below.refl _ w1) _) _
  have hk7 : Blk W3 w1.heap.size 33 #[.int .i64 0, .int .i64 0] := by rw [← hW3]; exact (Blk.new w1 _ _).alloc _
  have hk8 : Blk W3 (w1.heap.size + 1) 95 #[.int .i64 num, .int .u8 0, .int .u64 0, .slice none 0 0, .int .i64 (p : Int)] := by
    rw [← hW3]
    have := Blk.new (w1.alloc (.cells #[.int .i64 0, .int .i64 0] 33)) 95 #[.int .i64 num, .int .u8 0, .int .u64 0, .slice none 0 0, .int .i64 (p : Int)]
    simpa using this
  have hl2 := hk2.lt
  have hl3 := hk3.lt
  have hkk2 := hk2.below hb3 hk2.lt
  have hkk3 := hk3.below hb3 hk3.lt
  have hO3 := hO.trans (.of_below hb3)
  refine (HVL.out _ (hrin.below hb3)).mono ?_
  rintro e5 w5 ⟨rfl, hr5, ho5⟩
  have m2 := ho5.blk hkk2 (by omega)
  have m3 := ho5.blk hkk3 (by omega)
  have m7 := ho5.blk hk7 (by omega)
  have m8 := ho5.blk hk8 (by omega)
  have hO5 := hO3.trans ho5
  clear hW3 hb3 hk7 hk8 hkk2 hkk3 hO3 ho5 hk2 hk3 hO hrin HVL HTG HAT
  have s70 : w5.cell? ⟨w1.heap.size, 0, none⟩ = some (.int .i64 0) := m7.cell 0
  have s71 : w5.cell? ⟨w1.heap.size, 1, none⟩ = some (.int .i64 0) := m7.cell 1
  have s82 : w5.cell? ⟨w1.heap.size + 1, 2, none⟩ = some (.int .u64 0) := m8.cell 2
  have s83 : w5.cell? ⟨w1.heap.size + 1, 3, none⟩ = some (.slice none 0 0) := m8.cell 3
  have y70 := m7.frozen 0
  have y71 := m7.frozen 1
  have y82 := m8.frozen 2
  have y83 := m8.frozen 3
  have hl7 := m7.lt
  have hl8 := m8.lt
  have HR5 := hid hr5
  have HO5 := hid hO5
  have M2 := hid m2
  have M3 := hid m3
  have M7 := hid m7
  have M8 := hid m8
  clear hr5 hO5 m2 m3 m7 m8 
  go_wp2_with fail
  have n8 : Blk (((w5.setCell ⟨w1.heap.size + 1, 2, none⟩ (.int .u64 (v : Int))).setCell ⟨w1.heap.size, 0, none⟩ (.int .i64 (er : Int))).setCell ⟨w1.heap.size, 1, none⟩ (.int .i64 (fa : Int))) (w1.heap.size + 1) 95 #[.int .i64 num, .int .u8 0, .int .u64 (v : Int), .slice none 0 0, .int .i64 (p : Int)] := by
    have := ((M8.out.set_ 2 (.int .u64 (v : Int))).far (p := ⟨w1.heap.size, 0, none⟩) (by simp) (.int .i64 (er : Int))).far (p := ⟨w1.heap.size, 1, none⟩) (by simp) (.int .i64 (fa : Int))
    simpa using this
  have n7 : Blk (((w5.setCell ⟨w1.heap.size + 1, 2, none⟩ (.int .u64 (v : Int))).setCell ⟨w1.heap.size, 0, none⟩ (.int .i64 (er : Int))).setCell ⟨w1.heap.size, 1, none⟩ (.int .i64 (fa : Int))) w1.heap.size 33 #[.int .i64 (er : Int), .int .i64 (fa : Int)] := by
    have := ((M7.out.far (p := ⟨w1.heap.size + 1, 2, none⟩) (by simp) (.int .u64 (v : Int))).set_ 0 (.int .i64 (er : Int))).set_ 1 (.int .i64 (fa : Int))
    simpa using this
  have hc6 : Chg (fun k => k = w1.heap.size ∨ k = w1.heap.size + 1) w5 (((w5.setCell ⟨w1.heap.size + 1, 2, none⟩ (.int .u64 (v : Int))).setCell ⟨w1.heap.size, 0, none⟩ (.int .i64 (er : Int))).setCell ⟨w1.heap.size, 1, none⟩ (.int .i64 (fa : Int))) := ((((Chg.refl _ w5).set_ (.inl (.inr rfl)) 2 (.int .u64 (v : Int))).set_ (.inl (.inl rfl)) 0 (.int .i64 (er : Int))).set_ (.inl (.inl rfl)) 1 (.int .i64 (fa : Int)))
  generalize ((w5.setCell ⟨w1.heap.size + 1, 2, none⟩ (.int .u64 (v : Int))).setCell ⟨w1.heap.size, 0, none⟩ (.int .i64 (er : Int))).setCell ⟨w1.heap.size, 1, none⟩ (.int .i64 (fa : Int)) = W6 at *
  have n2 := hc6.blk M2.out (by omega)
  have n3 := hc6.blk M3.out (by omega)
  have a0 : W6.cell? ⟨w.heap.size, 0, none⟩ = some (.int .i64 0) := n2.cell 0
  have a1 : W6.cell? ⟨w.heap.size, 1, none⟩ = some (.int .u8 0) := n2.cell 1
  have a2 : W6.cell? ⟨w.heap.size, 2, none⟩ = some (.int .u64 0) := n2.cell 2
  have a3 : W6.cell? ⟨w.heap.size, 3, none⟩ = some (.slice none 0 0) := n2.cell 3
  have a4 : W6.cell? ⟨w.heap.size, 4, none⟩ = some (.int .i64 0) := n2.cell 4
  have g0 := n2.frozen 0
  have g1 := n2.frozen 1
  have g2 := n2.frozen 2
  have g3 := n2.frozen 3
  have g4 := n2.frozen 4
  have b0 : W6.cell? ⟨w.heap.size + 1, 0, none⟩ = some (.int .i64 0) := n3.cell 0
  have b1 : W6.cell? ⟨w.heap.size + 1, 1, none⟩ = some (.int .i64 0) := n3.cell 1
  have i0 := n3.frozen 0
  have i1 := n3.frozen 1
  have e0 : W6.cell? ⟨w1.heap.size, 0, none⟩ = some (.int .i64 (er : Int)) := n7.cell 0
  have e1 : W6.cell? ⟨w1.heap.size, 1, none⟩ = some (.int .i64 (fa : Int)) := n7.cell 1
  have f0 : W6.cell? ⟨w1.heap.size + 1, 0, none⟩ = some (.int .i64 num) := n8.cell 0
  have f1 : W6.cell? ⟨w1.heap.size + 1, 1, none⟩ = some (.int .u8 0) := n8.cell 1
  have f2 : W6.cell? ⟨w1.heap.size + 1, 2, none⟩ = some (.int .u64 (v : Int)) := n8.cell 2
  have f3 : W6.cell? ⟨w1.heap.size + 1, 3, none⟩ = some (.slice none 0 0) := n8.cell 3
  have f4 : W6.cell? ⟨w1.heap.size + 1, 4, none⟩ = some (.int .i64 (p : Int)) := n8.cell 4
  have hn7 : w1.heap.size ≠ w.heap.size := by omega
  have hn8 : w1.heap.size ≠ w.heap.size + 1 := by omega
  have hn9 : w1.heap.size + 1 ≠ w.heap.size := by omega
  have hn10 : w1.heap.size + 1 ≠ w.heap.size + 1 := by omega
  have hla := n2.lt
  have hlb := n3.lt
  have hlc := n7.lt
  have hld := n8.lt
  have HC6 := hid hc6
  clear n2 n3 n7 n8 hc6 M2 M3 M7 M8 s70 s71 s82 s83 y70 y71 y82 y83
  go_region
  all_goals go_wp2_with fail
  refine bodyPost_ret (v := .tuple #[.agg #[.int .i64 num, .int .u8 0, .int .u64 (v : Int), .slice none 0 0, .int .i64 (p : Int)], .agg #[.int .i64 (er : Int), .int .i64 (fa : Int)]]) (by simp [results, Try.results126, go_sem, a0, a1, a2, a3, a4, b0, b1]) rfl ⟨rfl, ?_, ?_⟩
  · exact (HR5.out.chgS HC6.out (by omega) (fun hp b o he hS => hS.elim (fun h => HFN.out b (by omega) hp b o he rfl) (fun h => HFN.out b (by omega) hp b o he rfl))).chgS (chg52 W6 w.heap.size (w.heap.size + 1) _ _ _ _ _ _ _) (by omega) (fun hp b o he hS => hS.elim (fun h => HFN.out b (by omega) hp b o he rfl) (fun h => HFN.out b (by omega) hp b o he rfl))
  · exact (HO5.out.chgS HC6.out (fun k hk => by omega)).chgS (chg52 W6 w.heap.size (w.heap.size + 1) _ _ _ _ _ _ _) (fun k hk => by omega)
set_option maxRecDepth 100000 in
set_option maxHeartbeats 1000000 in
theorem sread_1 (num : Int) (p1 : Nat) (v er fa nx : Nat) (w : World) (q : Nat) (A : Option Addr) (c : Nat) (bs : List UInt8) (p : Nat) (hh : rHead bs p = (num, 1, 0, p1)) (hv : rVal 1 bs p1 = (v, [], er, nx)) (hfa : flt er p1 = fa) (hvn : True) (h : Rin 210 w q A c bs p) :
    Calls Try.prog 126 #[.pointer (some ⟨q, 0, none⟩)] w fun e' w' => e' = .returned (.tuple #[.agg #[.int .i64 num, .int .u8 1, .int .u64 (v : Int), .slice none 0 0, .int .i64 (p : Int)], .agg #[.int .i64 (er : Int), .int .i64 (fa : Int)]]) ∧ Rin 210 w' q A c bs nx ∧ Only q w w' := by
  have hlt := h.blk.lt
  have hat := fun W hb => iat_any 0 W q A c bs p (h.below hb)
  have htg := fun W hb => itagm_any W q A c bs p (h.below hb)
  have hvl := fun W hr => sval1 W q A c bs p1 hr
  have hfn := fun g (hg : w.heap.size ≤ g) => far_new h.sl hg
  simp only [hh, if_true, flt, plc] at htg
  simp only [hv, hfa] at hvl
  have HAT := hid hat
  have HTG := hid htg
  have HVL := hid hvl
  have HFN := hid hfn
  clear hat htg hvl hfn h hh hv hfa
  go_enter Try.func126, Try.ntmps126
  go_wp2_with fail
  generalize hW : World.alloc _ _ = W
  have hbW : Below w.heap.size w W := by rw [← hW]; exact bw_a (bw_a (Below.refl _ w) _) _
  have hoW : Only q w W := .of_below hbW
  have hq2 : Blk W w.heap.size 95 #[.int .i64 0, .int .u8 0, .int .u64 0, .slice none 0 0, .int .i64 0] := by rw [← hW]; exact (Blk.new w _ _).alloc _
  have hq3 : Blk W (w.heap.size + 1) 33 #[.int .i64 0, .int .i64 0] := by
    rw [← hW]
    have := Blk.new (w.alloc (.cells #[.int .i64 0, .int .u8 0, .int .u64 0, .slice none 0 0, .int .i64 0] 95)) 33 #[.int .i64 0, .int .i64 0]
    simpa using this
  clear hW
  refine (HAT.out _ hbW).mono ?_
  rintro e1 w1 ⟨rfl, rfl⟩
  go_wp2_with fail
  refine (HTG.out _ hbW).mono ?_
  rintro e1 w1 ⟨rfl, hrin, ho⟩
  have hk2 := ho.blk hq2 (by omega)
  have hk3 := ho.blk hq3 (by omega)
  have hO := hoW.trans ho
  clear hq2 hq3 hoW ho
  go_wp2_with fail
  generalize hW3 : World.alloc _ _ = W3
  have hb3 : Below w1.heap.size w1 W3 := by rw [← hW3]; exact bw_a (bw_a (Below.refl _ w1) _) _
  have hk7 : Blk W3 w1.heap.size 33 #[.int .i64 0, .int .i64 0] := by rw [← hW3]; exact (Blk.new w1 _ _).alloc _
  have hk8 : Blk W3 (w1.heap.size + 1) 95 #[.int .i64 num, .int .u8 1, .int .u64 0, .slice none 0 0, .int .i64 (p : Int)] := by
    rw [← hW3]
    have := Blk.new (w1.alloc (.cells #[.int .i64 0, .int .i64 0] 33)) 95 #[.int .i64 num, .int .u8 1, .int .u64 0, .slice none 0 0, .int .i64 (p : Int)]
    simpa using this
  have hl2 := hk2.lt
  have hl3 := hk3.lt
  have hkk2 := hk2.below hb3 hk2.lt
  have hkk3 := hk3.below hb3 hk3.lt
  have hO3 := hO.trans (.of_below hb3)
  refine (HVL.out _ (hrin.below hb3)).mono ?_
  rintro e5 w5 ⟨rfl, hr5, ho5⟩
  have m2 := ho5.blk hkk2 (by omega)
  have m3 := ho5.blk hkk3 (by omega)
  have m7 := ho5.blk hk7 (by omega)
  have m8 := ho5.blk hk8 (by omega)
  have hO5 := hO3.trans ho5
  clear hW3 hb3 hk7 hk8 hkk2 hkk3 hO3 ho5 hk2 hk3 hO hrin HVL HTG HAT
  have s70 : w5.cell? ⟨w1.heap.size, 0, none⟩ = some (.int .i64 0) := m7.cell 0
  have s71 : w5.cell? ⟨w1.heap.size, 1, none⟩ = some (.int .i64 0) := m7.cell 1
  have s82 : w5.cell? ⟨w1.heap.size + 1, 2, none⟩ = some (.int .u64 0) := m8.cell 2
  have s83 : w5.cell? ⟨w1.heap.size + 1, 3, none⟩ = some (.slice none 0 0) := m8.cell 3
  have y70 := m7.frozen 0
  have y71 := m7.frozen 1
  have y82 := m8.frozen 2
  have y83 := m8.frozen 3
  have hl7 := m7.lt
  have hl8 := m8.lt
  have HR5 := hid hr5
  have HO5 := hid hO5
  have M2 := hid m2
  have M3 := hid m3
  have M7 := hid m7
  have M8 := hid m8
  clear hr5 hO5 m2 m3 m7 m8 
  go_wp2_with fail
  have n8 : Blk (((w5.setCell ⟨w1.heap.size + 1, 2, none⟩ (.int .u64 (v : Int))).setCell ⟨w1.heap.size, 0, none⟩ (.int .i64 (er : Int))).setCell ⟨w1.heap.size, 1, none⟩ (.int .i64 (fa : Int))) (w1.heap.size + 1) 95 #[.int .i64 num, .int .u8 1, .int .u64 (v : Int), .slice none 0 0, .int .i64 (p : Int)] := by
    have := ((M8.out.set_ 2 (.int .u64 (v : Int))).far (p := ⟨w1.heap.size, 0, none⟩) (by simp) (.int .i64 (er : Int))).far (p := ⟨w1.heap.size, 1, none⟩) (by simp) (.int .i64 (fa : Int))
    simpa using this
  have n7 : Blk (((w5.setCell ⟨w1.heap.size + 1, 2, none⟩ (.int .u64 (v : Int))).setCell ⟨w1.heap.size, 0, none⟩ (.int .i64 (er : Int))).setCell ⟨w1.heap.size, 1, none⟩ (.int .i64 (fa : Int))) w1.heap.size 33 #[.int .i64 (er : Int), .int .i64 (fa : Int)] := by
    have := ((M7.out.far (p := ⟨w1.heap.size + 1, 2, none⟩) (by simp) (.int .u64 (v : Int))).set_ 0 (.int .i64 (er : Int))).set_ 1 (.int .i64 (fa : Int))
    simpa using this
  have hc6 : Chg (fun k => k = w1.heap.size ∨ k = w1.heap.size + 1) w5 (((w5.setCell ⟨w1.heap.size + 1, 2, none⟩ (.int .u64 (v : Int))).setCell ⟨w1.heap.size, 0, none⟩ (.int .i64 (er : Int))).setCell ⟨w1.heap.size, 1, none⟩ (.int .i64 (fa : Int))) := ((((Chg.refl _ w5).set_ (.inl (.inr rfl)) 2 (.int .u64 (v : Int))).set_ (.inl (.inl rfl)) 0 (.int .i64 (er : Int))).set_ (.inl (.inl rfl)) 1 (.int .i64 (fa : Int)))
  generalize ((w5.setCell ⟨w1.heap.size + 1, 2, none⟩ (.int .u64 (v : Int))).setCell ⟨w1.heap.size, 0, none⟩ (.int .i64 (er : Int))).setCell ⟨w1.heap.size, 1, none⟩ (.int .i64 (fa : Int)) = W6 at *
  have n2 := hc6.blk M2.out (by omega)
  have n3 := hc6.blk M3.out (by omega)
  have a0 : W6.cell? ⟨w.heap.size, 0, none⟩ = some (.int .i64 0) := n2.cell 0
  have a1 : W6.cell? ⟨w.heap.size, 1, none⟩ = some (.int .u8 0) := n2.cell 1
  have a2 : W6.cell? ⟨w.heap.size, 2, none⟩ = some (.int .u64 0) := n2.cell 2
  have a3 : W6.cell? ⟨w.heap.size, 3, none⟩ = some (.slice none 0 0) := n2.cell 3
  have a4 : W6.cell? ⟨w.heap.size, 4, none⟩ = some (.int .i64 0) := n2.cell 4
  have g0 := n2.frozen 0
  have g1 := n2.frozen 1
  have g2 := n2.frozen 2
  have g3 := n2.frozen 3
  have g4 := n2.frozen 4
  have b0 : W6.cell? ⟨w.heap.size + 1, 0, none⟩ = some (.int .i64 0) := n3.cell 0
  have b1 : W6.cell? ⟨w.heap.size + 1, 1, none⟩ = some (.int .i64 0) := n3.cell 1
  have i0 := n3.frozen 0
  have i1 := n3.frozen 1
  have e0 : W6.cell? ⟨w1.heap.size, 0, none⟩ = some (.int .i64 (er : Int)) := n7.cell 0
  have e1 : W6.cell? ⟨w1.heap.size, 1, none⟩ = some (.int .i64 (fa : Int)) := n7.cell 1
  have f0 : W6.cell? ⟨w1.heap.size + 1, 0, none⟩ = some (.int .i64 num) := n8.cell 0
  have f1 : W6.cell? ⟨w1.heap.size + 1, 1, none⟩ = some (.int .u8 1) := n8.cell 1
  have f2 : W6.cell? ⟨w1.heap.size + 1, 2, none⟩ = some (.int .u64 (v : Int)) := n8.cell 2
  have f3 : W6.cell? ⟨w1.heap.size + 1, 3, none⟩ = some (.slice none 0 0) := n8.cell 3
  have f4 : W6.cell? ⟨w1.heap.size + 1, 4, none⟩ = some (.int .i64 (p : Int)) := n8.cell 4
  have hn7 : w1.heap.size ≠ w.heap.size := by omega
  have hn8 : w1.heap.size ≠ w.heap.size + 1 := by omega
  have hn9 : w1.heap.size + 1 ≠ w.heap.size := by omega
  have hn10 : w1.heap.size + 1 ≠ w.heap.size + 1 := by omega
  have hla := n2.lt
  have hlb := n3.lt
  have hlc := n7.lt
  have hld := n8.lt
  have HC6 := hid hc6
  clear n2 n3 n7 n8 hc6 M2 M3 M7 M8 s70 s71 s82 s83 y70 y71 y82 y83
  go_region
  all_goals go_wp2_with fail
  refine bodyPost_ret (v := .tuple #[.agg #[.int .i64 num, .int .u8 1, .int .u64 (v : Int), .slice none 0 0, .int .i64 (p : Int)], .agg #[.int .i64 (er : Int), .int .i64 (fa : Int)]]) (by simp [results, Try.results126, go_sem, a0, a1, a2, a3, a4, b0, b1]) rfl ⟨rfl, ?_, ?_⟩
  · exact (HR5.out.chgS HC6.out (by omega) (fun hp b o he hS => hS.elim (fun h => HFN.out b (by omega) hp b o he rfl) (fun h => HFN.out b (by omega) hp b o he rfl))).chgS (chg52 W6 w.heap.size (w.heap.size + 1) _ _ _ _ _ _ _) (by omega) (fun hp b o he hS => hS.elim (fun h => HFN.out b (by omega) hp b o he rfl) (fun h => HFN.out b (by omega) hp b o he rfl))
  · exact (HO5.out.chgS HC6.out (fun k hk => by omega)).chgS (chg52 W6 w.heap.size (w.heap.size + 1) _ _ _ _ _ _ _) (fun k hk => by omega)
set_option maxRecDepth 100000 in
set_option maxHeartbeats 1000000 in
theorem sread_2 (num : Int) (p1 : Nat) (er fa nx : Nat) (xs : List UInt8) (xl : Nat) (w : World) (q : Nat) (A : Option Addr) (c : Nat) (bs : List UInt8) (p : Nat) (hh : rHead bs p = (num, 2, 0, p1)) (hv : rVal 2 bs p1 = (0, xs, er, nx)) (hxl : xs.length = xl) (hfa : flt er p1 = fa) (hvn : True) (h : Rin 210 w q A c bs p) :
    Calls Try.prog 126 #[.pointer (some ⟨q, 0, none⟩)] w fun e' w' => ∃ A' c', e' = .returned (.tuple #[.agg #[.int .i64 num, .int .u8 2, .int .u64 0, .slice A' xl c', .int .i64 (p : Int)], .agg #[.int .i64 (er : Int), .int .i64 (fa : Int)]]) ∧ Sl w' A' c' (xs.map bv) ∧ (∀ q', Far A bs.length q' → Far A' xl q') ∧ Rin 210 w' q A c bs nx ∧ Only q w w' := by
  have hlt := h.blk.lt
  have hat := fun W hb => iat_any 0 W q A c bs p (h.below hb)
  have htg := fun W hb => itagm_any W q A c bs p (h.below hb)
  have hvl := fun W hr => sval2 W q A c bs p1 hr
  have hfn := fun g (hg : w.heap.size ≤ g) => far_new h.sl hg
  simp only [hh, if_true, flt, plc] at htg
  simp only [hv, hfa] at hvl
  simp only [hxl] at hvl
  have HXL := hid hxl
  have HAT := hid hat
  have HTG := hid htg
  have HVL := hid hvl
  have HFN := hid hfn
  clear hat htg hvl hfn h hh hv hfa hxl
  go_enter Try.func126, Try.ntmps126
  go_wp2_with fail
  generalize hW : World.alloc _ _ = W
  have hbW : Below w.heap.size w W := by rw [← hW]; exact bw_a (bw_a (Below.refl _ w) _) _
  have hoW : Only q w W := .of_below hbW
  have hq2 : Blk W w.heap.size 95 #[.int .i64 0, .int .u8 0, .int .u64 0, .slice none 0 0, .int .i64 0] := by rw [← hW]; exact (Blk.new w _ _).alloc _
  have hq3 : Blk W (w.heap.size + 1) 33 #[.int .i64 0, .int .i64 0] := by
    rw [← hW]
    have := Blk.new (w.alloc (.cells #[.int .i64 0, .int .u8 0, .int .u64 0, .slice none 0 0, .int .i64 0] 95)) 33 #[.int .i64 0, .int .i64 0]
    simpa using this
  clear hW
  refine (HAT.out _ hbW).mono ?_
  rintro e1 w1 ⟨rfl, rfl⟩
  go_wp2_with fail
  refine (HTG.out _ hbW).mono ?_
  rintro e1 w1 ⟨rfl, hrin, ho⟩
  have hk2 := ho.blk hq2 (by omega)
  have hk3 := ho.blk hq3 (by omega)
  have hO := hoW.trans ho
  clear hq2 hq3 hoW ho
  go_wp2_with fail
  generalize hW3 : World.alloc _ _ = W3
  have hb3 : Below w1.heap.size w1 W3 := by rw [← hW3]; exact bw_a (bw_a (Below.refl _ w1) _) _
  have hk7 : Blk W3 w1.heap.size 33 #[.int .i64 0, .int .i64 0] := by rw [← hW3]; exact (Blk.new w1 _ _).alloc _
  have hk8 : Blk W3 (w1.heap.size + 1) 95 #[.int .i64 num, .int .u8 2, .int .u64 0, .slice none 0 0, .int .i64 (p : Int)] := by
    rw [← hW3]
    have := Blk.new (w1.alloc (.cells #[.int .i64 0, .int .i64 0] 33)) 95 #[.int .i64 num, .int .u8 2, .int .u64 0, .slice none 0 0, .int .i64 (p : Int)]
    simpa using this
  have hl2 := hk2.lt
  have hl3 := hk3.lt
  have hkk2 := hk2.below hb3 hk2.lt
  have hkk3 := hk3.below hb3 hk3.lt
  have hO3 := hO.trans (.of_below hb3)
  refine (HVL.out _ (hrin.below hb3)).mono ?_
  rintro e5 w5 ⟨A9, c9, rfl, hs9, hf9, hr5, ho5⟩
  have m2 := ho5.blk hkk2 (by omega)
  have m3 := ho5.blk hkk3 (by omega)
  have m7 := ho5.blk hk7 (by omega)
  have m8 := ho5.blk hk8 (by omega)
  have hO5 := hO3.trans ho5
  clear hW3 hb3 hk7 hk8 hkk2 hkk3 hO3 ho5 hk2 hk3 hO hrin HVL HTG HAT
  have s70 : w5.cell? ⟨w1.heap.size, 0, none⟩ = some (.int .i64 0) := m7.cell 0
  have s71 : w5.cell? ⟨w1.heap.size, 1, none⟩ = some (.int .i64 0) := m7.cell 1
  have s82 : w5.cell? ⟨w1.heap.size + 1, 2, none⟩ = some (.int .u64 0) := m8.cell 2
  have s83 : w5.cell? ⟨w1.heap.size + 1, 3, none⟩ = some (.slice none 0 0) := m8.cell 3
  have y70 := m7.frozen 0
  have y71 := m7.frozen 1
  have y82 := m8.frozen 2
  have y83 := m8.frozen 3
  have hl7 := m7.lt
  have hl8 := m8.lt
  have HR5 := hid hr5
  have HS9 := hid hs9
  have HF9 := hid hf9
  have HO5 := hid hO5
  have M2 := hid m2
  have M3 := hid m3
  have M7 := hid m7
  have M8 := hid m8
  clear hr5 hO5 m2 m3 m7 m8 hs9 hf9 
  go_wp2_with fail
  have n8 : Blk (((w5.setCell ⟨w1.heap.size + 1, 3, none⟩ (.slice A9 xl c9)).setCell ⟨w1.heap.size, 0, none⟩ (.int .i64 (er : Int))).setCell ⟨w1.heap.size, 1, none⟩ (.int .i64 (fa : Int))) (w1.heap.size + 1) 95 #[.int .i64 num, .int .u8 2, .int .u64 0, .slice A9 xl c9, .int .i64 (p : Int)] := by
    have := ((M8.out.set_ 3 (.slice A9 xl c9)).far (p := ⟨w1.heap.size, 0, none⟩) (by simp) (.int .i64 (er : Int))).far (p := ⟨w1.heap.size, 1, none⟩) (by simp) (.int .i64 (fa : Int))
    simpa using this
  have n7 : Blk (((w5.setCell ⟨w1.heap.size + 1, 3, none⟩ (.slice A9 xl c9)).setCell ⟨w1.heap.size, 0, none⟩ (.int .i64 (er : Int))).setCell ⟨w1.heap.size, 1, none⟩ (.int .i64 (fa : Int))) w1.heap.size 33 #[.int .i64 (er : Int), .int .i64 (fa : Int)] := by
    have := ((M7.out.far (p := ⟨w1.heap.size + 1, 3, none⟩) (by simp) (.slice A9 xl c9)).set_ 0 (.int .i64 (er : Int))).set_ 1 (.int .i64 (fa : Int))
    simpa using this
  have hc6 : Chg (fun k => k = w1.heap.size ∨ k = w1.heap.size + 1) w5 (((w5.setCell ⟨w1.heap.size + 1, 3, none⟩ (.slice A9 xl c9)).setCell ⟨w1.heap.size, 0, none⟩ (.int .i64 (er : Int))).setCell ⟨w1.heap.size, 1, none⟩ (.int .i64 (fa : Int))) := ((((Chg.refl _ w5).set_ (.inl (.inr rfl)) 3 (.slice A9 xl c9)).set_ (.inl (.inl rfl)) 0 (.int .i64 (er : Int))).set_ (.inl (.inl rfl)) 1 (.int .i64 (fa : Int)))
  generalize ((w5.setCell ⟨w1.heap.size + 1, 3, none⟩ (.slice A9 xl c9)).setCell ⟨w1.heap.size, 0, none⟩ (.int .i64 (er : Int))).setCell ⟨w1.heap.size, 1, none⟩ (.int .i64 (fa : Int)) = W6 at *
  have n2 := hc6.blk M2.out (by omega)
  have n3 := hc6.blk M3.out (by omega)
  have a0 : W6.cell? ⟨w.heap.size, 0, none⟩ = some (.int .i64 0) := n2.cell 0
  have a1 : W6.cell? ⟨w.heap.size, 1, none⟩ = some (.int .u8 0) := n2.cell 1
  have a2 : W6.cell? ⟨w.heap.size, 2, none⟩ = some (.int .u64 0) := n2.cell 2
  have a3 : W6.cell? ⟨w.heap.size, 3, none⟩ = some (.slice none 0 0) := n2.cell 3
  have a4 : W6.cell? ⟨w.heap.size, 4, none⟩ = some (.int .i64 0) := n2.cell 4
  have g0 := n2.frozen 0
  have g1 := n2.frozen 1
  have g2 := n2.frozen 2
  have g3 := n2.frozen 3
  have g4 := n2.frozen 4
  have b0 : W6.cell? ⟨w.heap.size + 1, 0, none⟩ = some (.int .i64 0) := n3.cell 0
  have b1 : W6.cell? ⟨w.heap.size + 1, 1, none⟩ = some (.int .i64 0) := n3.cell 1
  have i0 := n3.frozen 0
  have i1 := n3.frozen 1
  have e0 : W6.cell? ⟨w1.heap.size, 0, none⟩ = some (.int .i64 (er : Int)) := n7.cell 0
  have e1 : W6.cell? ⟨w1.heap.size, 1, none⟩ = some (.int .i64 (fa : Int)) := n7.cell 1
  have f0 : W6.cell? ⟨w1.heap.size + 1, 0, none⟩ = some (.int .i64 num) := n8.cell 0
  have f1 : W6.cell? ⟨w1.heap.size + 1, 1, none⟩ = some (.int .u8 2) := n8.cell 1
  have f2 : W6.cell? ⟨w1.heap.size + 1, 2, none⟩ = some (.int .u64 0) := n8.cell 2
  have f3 : W6.cell? ⟨w1.heap.size + 1, 3, none⟩ = some (.slice A9 xl c9) := n8.cell 3
  have f4 : W6.cell? ⟨w1.heap.size + 1, 4, none⟩ = some (.int .i64 (p : Int)) := n8.cell 4
  have hn7 : w1.heap.size ≠ w.heap.size := by omega
  have hn8 : w1.heap.size ≠ w.heap.size + 1 := by omega
  have hn9 : w1.heap.size + 1 ≠ w.heap.size := by omega
  have hn10 : w1.heap.size + 1 ≠ w.heap.size + 1 := by omega
  have hla := n2.lt
  have hlb := n3.lt
  have hlc := n7.lt
  have hld := n8.lt
  have HC6 := hid hc6
  clear n2 n3 n7 n8 hc6 M2 M3 M7 M8 s70 s71 s82 s83 y70 y71 y82 y83
  go_region
  all_goals go_wp2_with fail
  refine bodyPost_ret (v := .tuple #[.agg #[.int .i64 num, .int .u8 2, .int .u64 0, .slice A9 xl c9, .int .i64 (p : Int)], .agg #[.int .i64 (er : Int), .int .i64 (fa : Int)]]) (by simp [results, Try.results126, go_sem, a0, a1, a2, a3, a4, b0, b1]) rfl ⟨A9, c9, rfl, (HC6.out.sl HS9.out (n := xl) (fun hp b o he hS => hS.elim (fun h => HF9.out b (HFN.out b (by omega)) hp b o he rfl) (fun h => HF9.out b (HFN.out b (by omega)) hp b o he rfl)) (by rw [List.length_map]; exact HXL.out) |> fun h => (chg52 W6 w.heap.size (w.heap.size + 1) _ _ _ _ _ _ _).sl h (n := xl) (fun hp b o he hS => hS.elim (fun h => HF9.out b (HFN.out b (by omega)) hp b o he rfl) (fun h => HF9.out b (HFN.out b (by omega)) hp b o he rfl)) (by rw [List.length_map]; exact HXL.out)), HF9.out, ?_, ?_⟩
  · exact (HR5.out.chgS HC6.out (by omega) (fun hp b o he hS => hS.elim (fun h => HFN.out b (by omega) hp b o he rfl) (fun h => HFN.out b (by omega) hp b o he rfl))).chgS (chg52 W6 w.heap.size (w.heap.size + 1) _ _ _ _ _ _ _) (by omega) (fun hp b o he hS => hS.elim (fun h => HFN.out b (by omega) hp b o he rfl) (fun h => HFN.out b (by omega) hp b o he rfl))
  · exact (HO5.out.chgS HC6.out (fun k hk => by omega)).chgS (chg52 W6 w.heap.size (w.heap.size + 1) _ _ _ _ _ _ _) (fun k hk => by omega)
set_option maxRecDepth 100000 in
set_option maxHeartbeats 1000000 in
theorem sread_5 (num : Int) (p1 : Nat) (v er fa nx : Nat) (w : World) (q : Nat) (A : Option Addr) (c : Nat) (bs : List UInt8) (p : Nat) (hh : rHead bs p = (num, 5, 0, p1)) (hv : rVal 5 bs p1 = (v, [], er, nx)) (hfa : flt er p1 = fa) (hvn : v ≤ 4294967295) (h : Rin 210 w q A c bs p) :
    Calls Try.prog 126 #[.pointer (some ⟨q, 0, none⟩)] w fun e' w' => e' = .returned (.tuple #[.agg #[.int .i64 num, .int .u8 5, .int .u64 (v : Int), .slice none 0 0, .int .i64 (p : Int)], .agg #[.int .i64 (er : Int), .int .i64 (fa : Int)]]) ∧ Rin 210 w' q A c bs nx ∧ Only q w w' := by
  have hlt := h.blk.lt
  have hat := fun W hb => iat_any 0 W q A c bs p (h.below hb)
  have htg := fun W hb => itagm_any W q A c bs p (h.below hb)
  have hvl := fun W hr => sval5 W q A c bs p1 hr
  have hfn := fun g (hg : w.heap.size ≤ g) => far_new h.sl hg
  simp only [hh, if_true, flt, plc] at htg
  simp only [hv, hfa] at hvl
  have hw9 : IntKind.u64.wrap (v : Int) = (v : Int) := IntWalk.u64_in _ (by omega)
  have HAT := hid hat
  have HTG := hid htg
  have HVL := hid hvl
  have HFN := hid hfn
  clear hat htg hvl hfn h hh hv hfa
  go_enter Try.func126, Try.ntmps126
  go_wp2_with fail
  generalize hW : World.alloc _ _ = W
  have hbW : Below w.heap.size w W := by rw [← hW]; exact bw_a (bw_a (Below.refl _ w) _) _
  have hoW : Only q w W := .of_below hbW
  have hq2 : Blk W w.heap.size 95 #[.int .i64 0, .int .u8 0, .int .u64 0, .slice none 0 0, .int .i64 0] := by rw [← hW]; exact (Blk.new w _ _).alloc _
  have hq3 : Blk W (w.heap.size + 1) 33 #[.int .i64 0, .int .i64 0] := by
    rw [← hW]
    have := Blk.new (w.alloc (.cells #[.int .i64 0, .int .u8 0, .int .u64 0, .slice none 0 0, .int .i64 0] 95)) 33 #[.int .i64 0, .int .i64 0]
    simpa using this
  clear hW
  refine (HAT.out _ hbW).mono ?_
  rintro e1 w1 ⟨rfl, rfl⟩
  go_wp2_with fail
  refine (HTG.out _ hbW).mono ?_
  rintro e1 w1 ⟨rfl, hrin, ho⟩
  have hk2 := ho.blk hq2 (by omega)
  have hk3 := ho.blk hq3 (by omega)
  have hO := hoW.trans ho
  clear hq2 hq3 hoW ho
  go_wp2_with fail
  generalize hW3 : World.alloc _ _ = W3
  have hb3 : Below w1.heap.size w1 W3 := by rw [← hW3]; exact bw_a (bw_a (Below.refl _ w1) _) _
  have hk7 : Blk W3 w1.heap.size 33 #[.int .i64 0, .int .i64 0] := by rw [← hW3]; exact (Blk.new w1 _ _).alloc _
  have hk8 : Blk W3 (w1.heap.size + 1) 95 #[.int .i64 num, .int .u8 5, .int .u64 0, .slice none 0 0, .int .i64 (p : Int)] := by
    rw [← hW3]
    have := Blk.new (w1.alloc (.cells #[.int .i64 0, .int .i64 0] 33)) 95 #[.int .i64 num, .int .u8 5, .int .u64 0, .slice none 0 0, .int .i64 (p : Int)]
    simpa using this
  have hl2 := hk2.lt
  have hl3 := hk3.lt
  have hkk2 := hk2.below hb3 hk2.lt
  have hkk3 := hk3.below hb3 hk3.lt
  have hO3 := hO.trans (.of_below hb3)
  refine (HVL.out _ (hrin.below hb3)).mono ?_
  rintro e5 w5 ⟨rfl, hr5, ho5⟩
  have m2 := ho5.blk hkk2 (by omega)
  have m3 := ho5.blk hkk3 (by omega)
  have m7 := ho5.blk hk7 (by omega)
  have m8 := ho5.blk hk8 (by omega)
  have hO5 := hO3.trans ho5
  clear hW3 hb3 hk7 hk8 hkk2 hkk3 hO3 ho5 hk2 hk3 hO hrin HVL HTG HAT
  have s70 : w5.cell? ⟨w1.heap.size, 0, none⟩ = some (.int .i64 0) := m7.cell 0
  have s71 : w5.cell? ⟨w1.heap.size, 1, none⟩ = some (.int .i64 0) := m7.cell 1
  have s82 : w5.cell? ⟨w1.heap.size + 1, 2, none⟩ = some (.int .u64 0) := m8.cell 2
  have s83 : w5.cell? ⟨w1.heap.size + 1, 3, none⟩ = some (.slice none 0 0) := m8.cell 3
  have y70 := m7.frozen 0
  have y71 := m7.frozen 1
  have y82 := m8.frozen 2
  have y83 := m8.frozen 3
  have hl7 := m7.lt
  have hl8 := m8.lt
  have HR5 := hid hr5
  have HO5 := hid hO5
  have M2 := hid m2
  have M3 := hid m3
  have M7 := hid m7
  have M8 := hid m8
  clear hr5 hO5 m2 m3 m7 m8 
  go_wp2_with fail
  have n8 : Blk (((w5.setCell ⟨w1.heap.size, 0, none⟩ (.int .i64 (er : Int))).setCell ⟨w1.heap.size, 1, none⟩ (.int .i64 (fa : Int))).setCell ⟨w1.heap.size + 1, 2, none⟩ (.int .u64 (v : Int))) (w1.heap.size + 1) 95 #[.int .i64 num, .int .u8 5, .int .u64 (v : Int), .slice none 0 0, .int .i64 (p : Int)] := by
    have := ((M8.out.far (p := ⟨w1.heap.size, 0, none⟩) (by simp) (.int .i64 (er : Int))).far (p := ⟨w1.heap.size, 1, none⟩) (by simp) (.int .i64 (fa : Int))).set_ 2 (.int .u64 (v : Int))
    simpa using this
  have n7 : Blk (((w5.setCell ⟨w1.heap.size, 0, none⟩ (.int .i64 (er : Int))).setCell ⟨w1.heap.size, 1, none⟩ (.int .i64 (fa : Int))).setCell ⟨w1.heap.size + 1, 2, none⟩ (.int .u64 (v : Int))) w1.heap.size 33 #[.int .i64 (er : Int), .int .i64 (fa : Int)] := by
    have := ((M7.out.set_ 0 (.int .i64 (er : Int))).set_ 1 (.int .i64 (fa : Int))).far (p := ⟨w1.heap.size + 1, 2, none⟩) (by simp) (.int .u64 (v : Int))
    simpa using this
  have hc6 : Chg (fun k => k = w1.heap.size ∨ k = w1.heap.size + 1) w5 (((w5.setCell ⟨w1.heap.size, 0, none⟩ (.int .i64 (er : Int))).setCell ⟨w1.heap.size, 1, none⟩ (.int .i64 (fa : Int))).setCell ⟨w1.heap.size + 1, 2, none⟩ (.int .u64 (v : Int))) := ((((Chg.refl _ w5).set_ (.inl (.inl rfl)) 0 (.int .i64 (er : Int))).set_ (.inl (.inl rfl)) 1 (.int .i64 (fa : Int))).set_ (.inl (.inr rfl)) 2 (.int .u64 (v : Int)))
  generalize ((w5.setCell ⟨w1.heap.size, 0, none⟩ (.int .i64 (er : Int))).setCell ⟨w1.heap.size, 1, none⟩ (.int .i64 (fa : Int))).setCell ⟨w1.heap.size + 1, 2, none⟩ (.int .u64 (v : Int)) = W6 at *
  have n2 := hc6.blk M2.out (by omega)
  have n3 := hc6.blk M3.out (by omega)
  have a0 : W6.cell? ⟨w.heap.size, 0, none⟩ = some (.int .i64 0) := n2.cell 0
  have a1 : W6.cell? ⟨w.heap.size, 1, none⟩ = some (.int .u8 0) := n2.cell 1
  have a2 : W6.cell? ⟨w.heap.size, 2, none⟩ = some (.int .u64 0) := n2.cell 2
  have a3 : W6.cell? ⟨w.heap.size, 3, none⟩ = some (.slice none 0 0) := n2.cell 3
  have a4 : W6.cell? ⟨w.heap.size, 4, none⟩ = some (.int .i64 0) := n2.cell 4
  have g0 := n2.frozen 0
  have g1 := n2.frozen 1
  have g2 := n2.frozen 2
  have g3 := n2.frozen 3
  have g4 := n2.frozen 4
  have b0 : W6.cell? ⟨w.heap.size + 1, 0, none⟩ = some (.int .i64 0) := n3.cell 0
  have b1 : W6.cell? ⟨w.heap.size + 1, 1, none⟩ = some (.int .i64 0) := n3.cell 1
  have i0 := n3.frozen 0
  have i1 := n3.frozen 1
  have e0 : W6.cell? ⟨w1.heap.size, 0, none⟩ = some (.int .i64 (er : Int)) := n7.cell 0
  have e1 : W6.cell? ⟨w1.heap.size, 1, none⟩ = some (.int .i64 (fa : Int)) := n7.cell 1
  have f0 : W6.cell? ⟨w1.heap.size + 1, 0, none⟩ = some (.int .i64 num) := n8.cell 0
  have f1 : W6.cell? ⟨w1.heap.size + 1, 1, none⟩ = some (.int .u8 5) := n8.cell 1
  have f2 : W6.cell? ⟨w1.heap.size + 1, 2, none⟩ = some (.int .u64 (v : Int)) := n8.cell 2
  have f3 : W6.cell? ⟨w1.heap.size + 1, 3, none⟩ = some (.slice none 0 0) := n8.cell 3
  have f4 : W6.cell? ⟨w1.heap.size + 1, 4, none⟩ = some (.int .i64 (p : Int)) := n8.cell 4
  have hn7 : w1.heap.size ≠ w.heap.size := by omega
  have hn8 : w1.heap.size ≠ w.heap.size + 1 := by omega
  have hn9 : w1.heap.size + 1 ≠ w.heap.size := by omega
  have hn10 : w1.heap.size + 1 ≠ w.heap.size + 1 := by omega
  have hla := n2.lt
  have hlb := n3.lt
  have hlc := n7.lt
  have hld := n8.lt
  have HC6 := hid hc6
  clear n2 n3 n7 n8 hc6 M2 M3 M7 M8 s70 s71 s82 s83 y70 y71 y82 y83
  go_region
  all_goals go_wp2_with fail
  refine bodyPost_ret (v := .tuple #[.agg #[.int .i64 num, .int .u8 5, .int .u64 (v : Int), .slice none 0 0, .int .i64 (p : Int)], .agg #[.int .i64 (er : Int), .int .i64 (fa : Int)]]) (by simp [results, Try.results126, go_sem, a0, a1, a2, a3, a4, b0, b1]) rfl ⟨rfl, ?_, ?_⟩
  · exact (HR5.out.chgS HC6.out (by omega) (fun hp b o he hS => hS.elim (fun h => HFN.out b (by omega) hp b o he rfl) (fun h => HFN.out b (by omega) hp b o he rfl))).chgS (chg52 W6 w.heap.size (w.heap.size + 1) _ _ _ _ _ _ _) (by omega) (fun hp b o he hS => hS.elim (fun h => HFN.out b (by omega) hp b o he rfl) (fun h => HFN.out b (by omega) hp b o he rfl))
  · exact (HO5.out.chgS HC6.out (fun k hk => by omega)).chgS (chg52 W6 w.heap.size (w.heap.size + 1) _ _ _ _ _ _ _) (fun k hk => by omega)
end Go.Proofs.Ytnfodgjihdoncaa
set_option linter.unusedVariables false
namespace Go.Proofs.Ytnfodgjihdoncaa
open Go.RowKit
theorem rFix4_lt (bs : List UInt8) (p : Nat) : (rVal 5 bs p).1 ≤ 4294967295 := by
  unfold rVal
  rw [if_neg (by omega), if_neg (by omega), if_neg (by omega)]
  simp only
  unfold rFix
  split
  · simp
  · have hu := unfixN_lt ((bs.drop p).take 4)
    have hl : ((bs.drop p).take 4).length ≤ 4 := by rw [List.length_take]; omega
    have hp : 256 ^ ((bs.drop p).take 4).length ≤ 256 ^ 4 := Nat.pow_le_pow_right (by omega) hl
    simp only [if_true]
    omega
theorem sread_any (w : World) (q : Nat) (A : Option Addr) (c : Nat) (bs : List UInt8) (p : Nat) (h : Rin 210 w q A c bs p) :
    Calls Try.prog 126 #[.pointer (some ⟨q, 0, none⟩)] w fun e w' => ∃ A' c' at', e = .returned (.tuple #[.agg #[.int .i64 (rOne bs p).num, .int .u8 (rOne bs p).w, .int .u64 ((rOne bs p).n : Nat), .slice A' (rOne bs p).xs.length c', .int .i64 at'], .agg #[.int .i64 ((rOne bs p).e : Nat), .int .i64 ((rOne bs p).p : Nat)]]) ∧
      ((rOne bs p).e = 0 → at' = (p : Int)) ∧ Sl w' A' c' ((rOne bs p).xs.map bv) ∧ (∀ q', Far A bs.length q' → Far A' (rOne bs p).xs.length q') ∧ Rin 210 w' q A c bs (rOne bs p).nx ∧ Only q w w' := by
  by_cases he : (rHead bs p).2.2.1 = 0
  · have hf := rHead_facts bs p he
    have hr : rOne bs p = ⟨(rHead bs p).1, (rHead bs p).2.1, (rVal (rHead bs p).2.1 bs (rHead bs p).2.2.2).1, (rVal (rHead bs p).2.1 bs (rHead bs p).2.2.2).2.1, (rVal (rHead bs p).2.1 bs (rHead bs p).2.2.2).2.2.1, flt (rVal (rHead bs p).2.1 bs (rHead bs p).2.2.2).2.2.1 (rHead bs p).2.2.2, (rVal (rHead bs p).2.1 bs (rHead bs p).2.2.2).2.2.2⟩ := by unfold rOne; rw [if_pos he]
    rw [hr]
    obtain ⟨hd, hhd⟩ : ∃ hd, rHead bs p = hd := ⟨_, rfl⟩
    rw [hhd] at he hf ⊢
    obtain ⟨num, x, e, p1⟩ := hd
    simp only at he hf ⊢
    subst he
    have hx1 : ∀ K, K = 0 ∨ K = 1 ∨ K = 5 → (rVal K bs p1).2.1 = [] := by
      rintro K (rfl | rfl | rfl) <;> rfl
    rcases hf.2.2.1 with rfl | rfl | rfl | rfl
    · refine (sread_0 num p1 _ _ _ _ w q A c bs p hhd (show rVal 0 bs p1 = ((rVal 0 bs p1).1, [], (rVal 0 bs p1).2.2.1, (rVal 0 bs p1).2.2.2) from rfl) rfl trivial h).mono ?_
      rintro e' w' ⟨e1, hr, ho⟩
      exact ⟨none, 0, (p : Int), e1, fun _ => rfl, Sl.nil_ _, fun q' _ hp => absurd hp (by simp [hx1 0 (.inl rfl)]), hr, ho⟩
    · refine (sread_1 num p1 _ _ _ _ w q A c bs p hhd (show rVal 1 bs p1 = ((rVal 1 bs p1).1, [], (rVal 1 bs p1).2.2.1, (rVal 1 bs p1).2.2.2) from rfl) rfl trivial h).mono ?_
      rintro e' w' ⟨e1, hr, ho⟩
      exact ⟨none, 0, (p : Int), e1, fun _ => rfl, Sl.nil_ _, fun q' _ hp => absurd hp (by simp [hx1 1 (.inr (.inl rfl))]), hr, ho⟩
    · refine (sread_2 num p1 _ _ _ _ _ w q A c bs p hhd (show rVal 2 bs p1 = (0, (rVal 2 bs p1).2.1, (rVal 2 bs p1).2.2.1, (rVal 2 bs p1).2.2.2) from rfl) rfl rfl trivial h).mono ?_
      rintro e' w' ⟨A', c', e1, hs, hfa, hr, ho⟩
      exact ⟨A', c', (p : Int), e1, fun _ => rfl, hs, hfa, hr, ho⟩
    · refine (sread_5 num p1 _ _ _ _ w q A c bs p hhd (show rVal 5 bs p1 = ((rVal 5 bs p1).1, [], (rVal 5 bs p1).2.2.1, (rVal 5 bs p1).2.2.2) from rfl) rfl (rFix4_lt bs p1) h).mono ?_
      rintro e' w' ⟨e1, hr, ho⟩
      exact ⟨none, 0, (p : Int), e1, fun _ => rfl, Sl.nil_ _, fun q' _ hp => absurd hp (by simp [hx1 5 (.inr (.inr rfl))]), hr, ho⟩
  · have hr : rOne bs p = ⟨0, 0, 0, [], (rHead bs p).2.2.1, p, p⟩ := by unfold rOne; rw [if_neg he]
    rw [hr]
    simp only
    refine (sread_bad (rHead bs p).1 (rHead bs p).2.1 (rHead bs p).2.2.1 (rHead bs p).2.2.2 w q A c bs p rfl he h).mono ?_
    rintro e' w' ⟨e1, hr, ho⟩
    exact ⟨none, 0, 0, e1, fun h => absurd h he, Sl.nil_ _, fun q' _ hp => by simp at hp, hr, ho⟩
end Go.Proofs.Ytnfodgjihdoncaa
set_option linter.unusedVariables false
namespace Go.Proofs.Ytnfodgjihdoncaa
open Go.ChangeShapes Go.WideShapes Go.ChangeAt Go.RowKit
section
variable {P : Program} {W : World} {t e : TypeId}
theorem opens_bytes (ht : P.underlying t = some (.slice e)) (he : P.underlying e = some (.int .u8)) (hc : P.cellsOf e = 1) :
    Opens P W t (fun s : SlV UInt8 => [.slice s.A s.xs.length s.c]) (fun s => Sl W s.A s.c (s.xs.map bv)) :=
  (opens_slice (size := 1) ht hc (by omega) (fun _ => rfl) (opens_int he)).map (fun s => ⟨s.A, s.c, s.xs.map fun z => b8 z.toNat⟩) fun s hs => by
    refine ⟨by simp, ?_⟩
    have h2 := hs.2
    have e : (s.xs.map fun z => b8 z.toNat).map bv = s.xs.flatMap fun n => [.int .u8 n] := by
      rw [List.map_map, show (s.xs.flatMap fun n => [Value.int .u8 n]) = s.xs.map (Value.int .u8) from (List.map_eq_flatMap ..).symm]
      apply List.map_congr_left
      intro z hz
      have := wf_u8 (hs.1 z hz)
      simp only [Function.comp]
      rw [bv_b8 _ (by omega), Int.toNat_of_nonneg this.1]
    show Sl W s.A s.c ((s.xs.map fun z => b8 z.toNat).map bv)
    rw [e]
    exact ⟨by rw [h2.len, Nat.mul_one]; exact h2.cap, h2.small, h2.nil0, h2.rd⟩
theorem opens_struct5 {α0 α1 α2 α3 α4 : Type} {f0 f1 f2 f3 f4 : Field} {e0 : α0 → Value} {ok0 : α0 → Prop} {e1 : α1 → Value} {ok1 : α1 → Prop} {e2 : α2 → Value} {ok2 : α2 → Prop} {e3 : α3 → Value} {ok3 : α3 → Prop} {e4 : α4 → Value} {ok4 : α4 → Prop}
    (ht : P.underlying t = some (.struct #[f0, f1, f2, f3, f4])) (hC : P.cellsOf t = 5) (ho : f0.offset = 0 ∧ f1.offset = 1 ∧ f2.offset = 2 ∧ f3.offset = 3 ∧ f4.offset = 4)
    (hc : P.cellsOf f0.type = 1 ∧ P.cellsOf f1.type = 1 ∧ P.cellsOf f2.type = 1 ∧ P.cellsOf f3.type = 1 ∧ P.cellsOf f4.type = 1)
    (h0 : Opens P W f0.type (fun a => [e0 a]) ok0) (h1 : Opens P W f1.type (fun a => [e1 a]) ok1) (h2 : Opens P W f2.type (fun a => [e2 a]) ok2) (h3 : Opens P W f3.type (fun a => [e3 a]) ok3) (h4 : Opens P W f4.type (fun a => [e4 a]) ok4) :
    Opens P W t (fun p : α0 × α1 × α2 × α3 × α4 => [e0 p.1, e1 p.2.1, e2 p.2.2.1, e3 p.2.2.2.1, e4 p.2.2.2.2]) (fun p => ok0 p.1 ∧ ok1 p.2.1 ∧ ok2 p.2.2.1 ∧ ok3 p.2.2.2.1 ∧ ok4 p.2.2.2.2) := by
  obtain ⟨o0, o1, o2, o3, o4⟩ := ho
  obtain ⟨c0, c1, c2, c3, c4⟩ := hc
  intro H en base spare held fuel cs x h
  obtain ⟨xs, n, _, _, hl, hlen, hf⟩ := DataW.trod_struct ht h
  have g0 := hf 0 f0 rfl
  have g1 := hf 1 f1 rfl
  have g2 := hf 2 f2 rfl
  have g3 := hf 3 f3 rfl
  have g4 := hf 4 f4 rfl
  rw [o0, c0, List.getElem?_eq_getElem (by rw [hlen]; show 0 < 5; omega)] at g0
  rw [o1, c1, List.getElem?_eq_getElem (by rw [hlen]; show 1 < 5; omega)] at g1
  rw [o2, c2, List.getElem?_eq_getElem (by rw [hlen]; show 2 < 5; omega)] at g2
  rw [o3, c3, List.getElem?_eq_getElem (by rw [hlen]; show 3 < 5; omega)] at g3
  rw [o4, c4, List.getElem?_eq_getElem (by rw [hlen]; show 4 < 5; omega)] at g4
  rw [hC] at hl
  obtain ⟨a0, k0, w0⟩ := h0 _ _ _ _ _ _ _ _ g0
  obtain ⟨a1, k1, w1⟩ := h1 _ _ _ _ _ _ _ _ g1
  obtain ⟨a2, k2, w2⟩ := h2 _ _ _ _ _ _ _ _ g2
  obtain ⟨a3, k3, w3⟩ := h3 _ _ _ _ _ _ _ _ g3
  obtain ⟨a4, k4, w4⟩ := h4 _ _ _ _ _ _ _ _ g4
  refine ⟨(a0, a1, a2, a3, a4), ?_, w0, w1, w2, w3, w4⟩
  clear g0 g1 g2 g3 g4 hf h0 h1 h2 h3 h4 h
  match cs, hl with
  | [x0, x1, x2, x3, x4], _ => simp at k0 k1 k2 k3 k4; subst k0 k1 k2 k3 k4; rfl
end
end Go.Proofs.Ytnfodgjihdoncaa
set_option linter.unusedVariables false
namespace Go.Proofs.Ytnfodgjihdoncaa
open Go.RowKit Go.Shelf
attribute [local go_sem] Oper.semAt_some
/-- A field as a value. -/
structure FV where
  num : Int
  w : Int
  n : Nat
  s : SlV UInt8
  at_ : Int
def fvC (f : FV) : List Value := [.int .i64 f.num, .int .u8 f.w, .int .u64 (f.n : Int), .slice f.s.A f.s.xs.length f.s.c, .int .i64 f.at_]
def fvOf (f : FV) (r : RF × Nat) : Prop := f.num = r.1.num ∧ f.w = r.1.w ∧ f.n = r.1.n ∧ f.s.xs = r.1.xs ∧ f.at_ = (r.2 : Int)
/-- Fields as values are those that are read. -/
def fvAll : List FV → List (RF × Nat) → Prop
  | [], [] => True
  | f :: fs, r :: rs => fvOf f r ∧ fvAll fs rs
  | _, _ => False
theorem fvAll_snoc {fs : List FV} {rs : List (RF × Nat)} {f : FV} {r : RF × Nat} (h : fvAll fs rs) (hf : fvOf f r) : fvAll (fs ++ [f]) (rs ++ [r]) := by
  induction fs generalizing rs with
  | nil => cases rs with
    | nil => exact ⟨hf, trivial⟩
    | cons r rs => exact h.elim
  | cons g gs ih => cases rs with
    | nil => exact h.elim
    | cons r rs => exact ⟨h.1, ih h.2⟩
theorem fvAll_len {fs : List FV} {rs : List (RF × Nat)} (h : fvAll fs rs) : fs.length = rs.length := by
  induction fs generalizing rs with
  | nil => cases rs with
    | nil => rfl
    | cons r rs => exact h.elim
  | cons g gs ih => cases rs with
    | nil => exact h.elim
    | cons r rs => simp [ih h.2]
theorem each_in (m : Nat) (A : Option Addr) (n c : Nat) (w : World) :
    CallsIn Fence.wide m Try.prog 107 #[.slice A n c] w fun e w' => e = .returned (.func (.func 123) #[] #[.pointer (some ⟨w.heap.size, 0, none⟩)]) ∧ w' = w.alloc (.cells #[.slice A n c] 30) := by
  refine callsIn_of_wp Try.func107 rfl trivial ?_ rfl
  simp only [Try.ntmps107, List.size_toArray, List.length_cons, List.length_nil, Nat.reduceAdd, Nat.reduceSub, Array.replicate_succ, Array.replicate_zero, List.push_toArray, List.append_toArray, List.nil_append, List.cons_append]
  gi_wp2
  go_ret
  exact ⟨rfl, rfl⟩
set_option maxRecDepth 100000 in
set_option maxHeartbeats 2000000 in
theorem each1_in (m : Nat) (hm : 2 ≤ m) (bs : List UInt8) (n : Nat) (A : Option Addr) (c : Nat) (l Bb B0 : Nat) (J : Nat → List FV → World → Prop) (Jx : Nat → Nat → World → Prop) (W : World) (hn : bs.length = n) (hl : n ≤ 100000)
    (hbb : W.cell? ⟨Bb, 0, none⟩ = some (.slice A n c)) (hs : Sl W A c (bs.map bv)) (hB0 : W.heap.size = B0) (h0 : ∀ b W', B0 ≤ b → Below B0 W W' → J b [] W')
    (hJ : ∀ b pre W q p Aq cq W', B0 ≤ q → q < b → J b pre W → Rin 210 W q Aq cq bs p → Only q W W' → J b pre W')
    (hY : ∀ b pre f W, J b pre W → pre.length < n → b ≤ W.heap.size → YieldAt Fence.wide (m - 1) Try.prog l #[.agg (fvC f).toArray, .agg #[.int .i64 0, .int .i64 0]] W fun e W' => e = .returned (.bool true) ∧ J b (pre ++ [f]) W' ∧ Chg (fun k => k < B0 ∨ b ≤ k) W W')
    (hE : ∀ b pre er ep W, J b pre W → er ≠ 0 → YieldAt Fence.wide (m - 1) Try.prog l #[.agg #[.int .i64 0, .int .u8 0, .int .u64 0, .slice none 0 0, .int .i64 0], .agg #[.int .i64 (er : Nat), .int .i64 (ep : Nat)]] W fun e W' => e = .returned (.bool false) ∧ Jx er ep W') :
    CallsIn Fence.wide m Try.prog 123 #[.func (.yield l) #[] #[], .pointer (some ⟨Bb, 0, none⟩)] W fun e W' => (∃ v, e = .returned v) ∧
      (((flds bs n 0).2.1 = 0 ∧ ∃ b pre, B0 ≤ b ∧ J b pre W' ∧ fvAll pre (flds bs n 0).1 ∧ ∀ f ∈ pre, Sl W' f.s.A f.s.c (f.s.xs.map bv) ∧ FarS f.s.A f.s.xs.length (fun k => k < B0 ∨ b ≤ k)) ∨ ((flds bs n 0).2.1 ≠ 0 ∧ Jx (flds bs n 0).2.1 (flds bs n 0).2.2 W')) := by
  have hbbl := World.block_lt_of_cell? W _ hbb
  have h1 : 1 ≤ m := by omega
  have HS := hid hs
  have HN := hid hn
  have H0 := hid h0
  have HJ := hid hJ
  have HY := hid hY
  have HE := hid hE
  have HBZ := hid hB0
  clear hs hn h0 hJ hY hE hB0
  refine callsIn_of_wp Try.func123 rfl trivial ?_ rfl
  simp only [Try.ntmps123, List.size_toArray, List.length_cons, List.length_nil, Nat.reduceAdd, Nat.reduceSub, Array.replicate_succ, Array.replicate_zero, List.push_toArray, List.append_toArray, List.nil_append, List.cons_append]
  refine wpIn_wide.2 (wp_scope_straight ((wpIn_wide (n := m)).1 ?_))
  gi_wp2_with (refine ⟨trivial, ?_⟩; gi_at_call 124; refine ((callsIn_wide (n := m - 1)).2 (new_any bs n A c W HN.out (by omega) HS.out)).mono ?_; rintro e w1 ⟨q, Aq, cq, rfl, hr1, hq1, hfar, hb1⟩)
  refine wpIn_label ?_
  gi_wp2
  have hqB : B0 ≤ q := by have := HBZ.out; omega
  have hfarS : FarS Aq n (fun k => k < B0 ∨ w1.heap.size ≤ k ∨ k = q) := by
    intro hp b o he hS
    have hq1l := hr1.blk.lt
    refine hfar b ?_ (by rw [HN.out]; exact hp) b o he rfl
    have := HBZ.out
    omega
  have hjb := H0.out w1.heap.size w1 (by have := HBZ.out; have := hb1.size; omega) (by rw [← HBZ.out]; exact hb1)
  have hqb : q < w1.heap.size := hr1.blk.lt
  generalize hb : w1.heap.size = b at *
  have hbb1 : b ≤ w1.heap.size := by omega
  have HFS := hid hfarS
  have HJB := hid hjb
  have HR1 := hid hr1
  clear hfarS hjb hr1 hfar hb1 hb
  gi_loopw [4] (fun _ wr => ∃ (p f : Nat) (pre : List FV), p ≤ n ∧ pre.length ≤ p ∧ n - p ≤ f ∧ Rin 210 wr q Aq cq bs p ∧ J b pre wr ∧ b ≤ wr.heap.size ∧ (∀ g ∈ pre, Sl wr g.s.A g.s.c (g.s.xs.map bv) ∧ FarS g.s.A g.s.xs.length (fun k => k < B0 ∨ b ≤ k ∨ k = q)) ∧
      ∃ rs, fvAll pre rs ∧ flds bs n 0 = (rs ++ (flds bs f p).1, (flds bs f p).2.1, (flds bs f p).2.2)) (fun _ wr => n - (intOf ((wr.cell? ⟨q, 1, none⟩).getD undef)).toNat)
  case atStart => exact ⟨0, n, [], by omega, by simp, by omega, HR1.out, HJB.out, hbb1, by simp, [], trivial, by simp⟩
  case round =>
    obtain ⟨p, f, pre, hp, hpl, hf, hr, hj, hbw, hsl, rs, hrs, hfl⟩ := hrel
    have hqw := hr.blk.lt
    by_cases hlt : p < n
    · have hle := ileft_any wr q Aq cq bs p hr
      obtain ⟨lf, hlf⟩ : ∃ lf : Int, ((bs.length - p : Nat) : Int) = lf := ⟨_, rfl⟩
      have hlf0 : 0 < lf := by rw [HN.out] at hlf; omega
      rw [hlf] at hle
      have hrd := fun W h => sread_any W q Aq cq bs p h
      have hof := rOne_facts bs p (by rw [HN.out]; exact hp)
      have hst := fun he => flds_step bs f p (by rw [HN.out]; exact hlt) (by rw [HN.out]; exact hf) he
      have hbd := fun he => flds_bad bs f p (by rw [HN.out]; exact hlt) (by rw [HN.out]; exact hf) he
      generalize rOne bs p = r at *
      obtain ⟨rnum, rw', rn, rxs, re, rp, rnx⟩ := r
      simp only at hrd hof hst hbd
      generalize hxl : rxs.length = xl at *
      have HLE := hid hle
      have HRD := hid hrd
      have HOF := hid hof
      have HST := hid hst
      have HBD := hid hbd
      have HR := hid hr
      have HJ1 := hid hj
      have HSL := hid hsl
      have HRS := hid hrs
      have HFL := hid hfl
      have HXL := hid hxl
      clear hle hrd hof hst hbd hr hj hsl hrs hfl hxl hlf
      by_cases he : re = 0
      · subst he
        gi_wp2_with (first | (refine ⟨trivial, ?_⟩; gi_at_call 125; refine ((callsIn_wide (n := m - 1)).2 HLE.out).mono ?_; rintro e w2 ⟨rfl, k2, rfl⟩) | (refine ⟨trivial, ?_⟩; gi_at_call 126; refine ((callsIn_wide (n := m - 1)).2 (HRD.out _ (HR.out.below (below_drewN (Below.refl _ wr) k2)))).mono ?_; rintro e w3 ⟨A3, c3, at3, rfl, hat3, hs3, hf3, hr3, ho3⟩; obtain rfl := hat3 (by simp); have hO3 := ((Only.refl q wr).drewN k2).trans ho3; have hO5 := (hO3.alloc (.cells #[.int .i64 rnum, .int .u8 rw', .int .u64 (rn : Int), .slice A3 xl c3, .int .i64 (p : Int)] 95)).alloc (.cells #[.int .i64 0, .int .i64 (rp : Int)] 33); have hb35 := bw_a (bw_a (Below.refl w3.heap.size w3) (.cells #[.int .i64 rnum, .int .u8 rw', .int .u64 (rn : Int), .slice A3 xl c3, .int .i64 (p : Int)] 95)) (.cells #[.int .i64 0, .int .i64 (rp : Int)] 33); have hj5 := HJ1.out; have hj5 := HJ.out b pre wr q p Aq cq _ hqB hqb hj5 HR.out hO5; have hb5 := Nat.le_trans hbw hO5.size; have hr5 := hr3.below hb35; have hs5 := hs3.below hb35; have hsl5 : ∀ g ∈ pre, Sl ((w3.alloc (.cells #[.int .i64 rnum, .int .u8 rw', .int .u64 (rn : Int), .slice A3 xl c3, .int .i64 (p : Int)] 95)).alloc (.cells #[.int .i64 0, .int .i64 (rp : Int)] 33)) g.s.A g.s.c (g.s.xs.map bv) ∧ FarS g.s.A g.s.xs.length (fun k => k < B0 ∨ b ≤ k ∨ k = q) := fun g hg => ⟨hO5.sl (HSL.out g hg).1 (n := g.s.xs.length) ((HSL.out g hg).2.far (.inr (.inr rfl))) (by simp), (HSL.out g hg).2⟩; have hf5 : FarS A3 xl (fun k => k < B0 ∨ b ≤ k ∨ k = q) := fun hp b' o he hS => hf3 b' (fun hp2 b2 o2 he2 hb2 => by subst hb2; exact HFS.out (by rw [← HN.out]; exact hp2) b2 o2 he2 hS) hp b' o he rfl; obtain ⟨fn, tmps, assign, body, hy, hR⟩ := HY.out b pre ⟨rnum, rw', rn, ⟨A3, c3, rxs⟩, (p : Int)⟩ _ hj5 (by omega) hb5; simp only [fvC, HXL.out] at hy; obtain ⟨gg, hgg, hfl2⟩ := HST.out (by simp); have hnx := HOF.out.1 (by simp); have hc1 : wr.cell? ⟨q, 1, none⟩ = some (.int .i64 (p : Int)) := (by simpa using HR.out.blk.cell 1); have HR5 := hid hr5; have HS5 := hid hs5; have HSL5 := hid hsl5; have HF5 := hid hf5; have HFL2 := hid hfl2; have HNX := hid hnx; clear hO3 hO5 hb35 hj5 hr5 hs5 hsl5 hf5 hs3 hf3 hr3 ho3 hfl2 hnx hat3))
        refine hR.mono ?_
        rintro e w6 ⟨rfl, hj6, hch6⟩
        have hqc : ¬ (q < B0 ∨ b ≤ q) := by omega
        have hfq : FarS Aq bs.length (fun k => k < B0 ∨ b ≤ k) := by rw [HN.out]; exact HFS.out.imp (fun k hk => by omega)
        have hr6 := HR5.out.chgS hch6 hqc hfq
        have hc6 := hr6.blk.cell 1
        have hs6 := hch6.sl HS5.out (n := xl) (HF5.out.imp (fun k hk => by omega)) (by simp [HXL.out])
        have hsl6 : ∀ g ∈ pre, Sl w6 g.s.A g.s.c (g.s.xs.map bv) := fun g hg => hch6.sl (HSL5.out g hg).1 (n := g.s.xs.length) ((HSL5.out g hg).2.imp (fun k hk => by omega)) (by simp)
        have hbw6 : b ≤ w6.heap.size := by have := hch6.size; omega
        have HJ6 := hid hj6
        have HR6 := hid hr6
        have HS6 := hid hs6
        have HSL6 := hid hsl6
        clear hj6 hr6 hs6 hsl6 hch6
        gi_wp2
        go_roundw
        case rel =>
          refine ⟨rnx, gg, pre ++ [⟨rnum, rw', rn, ⟨A3, c3, rxs⟩, (p : Int)⟩], by have := HNX.out; rw [HN.out] at this; omega, by have := HNX.out; simp; omega, by rw [← HN.out]; exact hgg, HR6.out, HJ6.out, hbw6, ?_, rs ++ [(⟨rnum, rw', rn, rxs, 0, rp, rnx⟩, p)], fvAll_snoc HRS.out ⟨rfl, rfl, rfl, rfl, rfl⟩, ?_⟩
          · intro g hg
            rcases List.mem_append.1 hg with hg | hg
            · exact ⟨HSL6.out g hg, (HSL5.out g hg).2⟩
            · obtain rfl := List.mem_singleton.1 hg
              exact ⟨HS6.out, by rw [show (SlV.xs _).length = xl from HXL.out]; exact HF5.out⟩
          · rw [HFL.out, HFL2.out]; simp
        case measure => rw [hc1, hc6]; have := HNX.out; simp [intOf]; omega
      · have heb : (((re : Nat) : Int) != 0) = true := by simpa using he
        gi_wp2_with (first | (refine ⟨trivial, ?_⟩; gi_at_call 125; refine ((callsIn_wide (n := m - 1)).2 HLE.out).mono ?_; rintro e w2 ⟨rfl, k2, rfl⟩) | (refine ⟨trivial, ?_⟩; gi_at_call 126; refine ((callsIn_wide (n := m - 1)).2 (HRD.out _ (HR.out.below (below_drewN (Below.refl _ wr) k2)))).mono ?_; rintro e w3 ⟨A3, c3, at3, rfl, hat3, hs3, hf3, hr3, ho3⟩; have hO3 := ((Only.refl q wr).drewN k2).trans ho3; have hO5 := (hO3.alloc (.cells #[.int .i64 rnum, .int .u8 rw', .int .u64 (rn : Int), .slice A3 xl c3, .int .i64 at3] 95)).alloc (.cells #[.int .i64 (re : Int), .int .i64 (rp : Int)] 33); have hj5 := HJ1.out; have hj5 := HJ.out b pre wr q p Aq cq _ hqB hqb hj5 HR.out hO5; obtain ⟨fn, tmps, assign, body, hy, hR⟩ := HE.out b pre re rp _ hj5 he; have hbd := HBD.out he))
        refine hR.mono ?_
        rintro e w6 ⟨rfl, hx6⟩
        gi_wp2
        simp only [Exit.noGoto]
        refine bodyPost_end (results_none rfl _ _ _) rfl ⟨⟨_, rfl⟩, .inr ?_⟩
        rw [HFL.out, hbd]
        exact ⟨he, hx6⟩
    · obtain rfl : p = n := by omega
      have hle := ileft_any wr q Aq cq bs p hr
      rw [HN.out, Nat.sub_self] at hle
      have HLE := hid hle
      gi_wp2_with (refine ⟨trivial, ?_⟩; gi_at_call 125; refine ((callsIn_wide (n := m - 1)).2 HLE.out).mono ?_; rintro e w2 ⟨rfl, k2, rfl⟩)
      have hE0 := flds_end bs f p (by rw [HN.out]; omega)
      rw [hE0] at hfl
      simp only [List.append_nil] at hfl
      simp only [Exit.noGoto]
      refine bodyPost_end (results_none rfl _ _ _) rfl ⟨⟨_, rfl⟩, .inl ⟨by rw [hfl], b, pre, by have := HBZ.out; omega, HJ.out b pre wr q p Aq cq _ hqB hqb hj hr ((Only.refl q wr).drewN k2), by rw [hfl]; exact hrs, fun g hg => ⟨((hsl g hg).1).below (below_drewN (Below.refl _ wr) k2), (hsl g hg).2.imp (fun k hk => by omega)⟩⟩⟩
end Go.Proofs.Ytnfodgjihdoncaa
set_option linter.unusedVariables false
namespace Go.Proofs.Ytnfodgjihdoncaa
open Go.RowKit Go.Shelf
attribute [local go_sem] Oper.semAt_some
theorem Try.infoField : (Try.prog.info? 95).map (fun i => (i.zero, i.size, i.bytes)) = some (some (.agg #[.int .i64 0, .int .u8 0, .int .u64 0, .slice none 0 0, .int .i64 0]), 5, 56) := by kernel_rfl
/-- What Fields keeps beside its loop's record. -/
structure JB (s b : Nat) (w : World) (pre : List FV) (W : World) : Prop where
  le : s + 6 ≤ b
  dfr : W.heap[s + 4]? = some (.deferred (some []))
  r0 : Blk W s 87 #[.slice none 0 0]
  r1 : Blk W (s + 1) 33 #[.int .i64 0, .int .i64 0]
  row : ∃ v, Blk W (s + 2) 87 #[v] ∧ W.ownsRow b 95 5 v pre.length (pre.flatMap fvC)
  bel : Below s w W
theorem JB.keep {s b : Nat} {w W W' : World} {pre : List FV} {S : Nat → Prop} (h : JB s b w pre W) (hc : Chg S W W') (hS : ∀ k, S k → k = s + 5 ∨ (s + 6 ≤ k ∧ k < b) ∨ W.heap.size ≤ k) : JB s b w pre W' := by
  have h4 : s + 4 < W.heap.size := (Array.getElem?_eq_some_iff.1 h.dfr).1
  obtain ⟨v, hv, ho⟩ := h.row
  have hn : ∀ k, k < s + 5 → ¬ S k := fun k hk hs => by have := hS k hs; omega
  refine ⟨h.le, (hc.block _ h4 (hn _ (by omega))).trans h.dfr, hc.blk h.r0 (hn _ (by omega)), hc.blk h.r1 (hn _ (by omega)), ⟨v, hc.blk hv (hn _ (by omega)), own_chgS ho hc fun g hg hs => ?_⟩, h.bel.trans (hc.below (fun k hk => by have := hS k hk; omega) (by omega))⟩
  have := ho.lt g hg
  have := hS g hs
  have := h.le
  omega
theorem Chg.putObj {S : Nat → Prop} {W : World} {l : Nat} (o : Obj) (hl : S l) : Chg S W (W.putObj l o) := Chg.of_grown (grownBy_putObj' W l o) fun g e => by cases e; exact hl
theorem JB.step {s b : Nat} {w W w1 : World} {pre : List FV} {f : FV} {v v' : Value} {o : Obj} (h : JB s b w pre W) (hv : Blk W (s + 2) 87 #[v]) (ho : W.ownsRow b 95 5 v pre.length (pre.flatMap fvC)) (hg : (W.alloc o).grownBy w1 v.ownBlock)
    (ho' : w1.ownsRow b 95 5 v' (pre.length + 1) (pre.flatMap fvC ++ fvC f)) : JB s b w (pre ++ [f]) (w1.setCell ⟨s + 2, 0, none⟩ v') ∧ Chg (fun k => k = s + 2 ∨ b ≤ k) W (w1.setCell ⟨s + 2, 0, none⟩ v') := by
  have hle := h.le
  have hc1 : Chg (fun k => k = s + 2 ∨ b ≤ k) W w1 := ((Chg.refl _ W).alloc o).trans (Chg.of_grown hg fun g e => .inr (ho.lt g e).1)
  have hb1 : Chg (fun k => b ≤ k) W w1 := ((Chg.refl _ W).alloc o).trans (Chg.of_grown hg fun g e => (ho.lt g e).1)
  have hc : Chg (fun k => k = s + 2 ∨ b ≤ k) W (w1.setCell ⟨s + 2, 0, none⟩ v') := hc1.set_ (.inl (.inl rfl)) 0 v'
  have hv1 : Blk w1 (s + 2) 87 #[v] := hb1.blk hv (by omega)
  have h4 : s + 4 < W.heap.size := (Array.getElem?_eq_some_iff.1 h.dfr).1
  have hv2 := hv1.set_ 0 v'
  refine ⟨⟨hle, (hc.block _ h4 (by omega)).trans h.dfr, hc.blk h.r0 (by omega), hc.blk h.r1 (by omega), ⟨v', by simpa using hv2, ?_⟩, h.bel.trans (hc.below (fun k hk => by omega) (by omega))⟩, hc⟩
  have h2 := own_chgS ho' ((Chg.refl (fun k => k = s + 2) w1).set_ (.inl rfl) 0 v') (fun g hg' hk => by have := (ho'.lt g hg').1; omega)
  rw [List.length_append, List.flatMap_append]
  simpa using h2
theorem JB.fin {s b : Nat} {w W : World} {pre : List FV} (h : JB s b w pre W) (v x y : Value) : Chg (fun k => k = s ∨ k = s + 1) W (((W.setCell ⟨s, 0, none⟩ v).setCell ⟨s + 1, 0, none⟩ x).setCell ⟨s + 1, 1, none⟩ y) ∧
    Blk (((W.setCell ⟨s, 0, none⟩ v).setCell ⟨s + 1, 0, none⟩ x).setCell ⟨s + 1, 1, none⟩ y) s 87 #[v] ∧
    Blk (((W.setCell ⟨s, 0, none⟩ v).setCell ⟨s + 1, 0, none⟩ x).setCell ⟨s + 1, 1, none⟩ y) (s + 1) 33 #[x, y] := by
  refine ⟨(((Chg.refl _ W).set_ (.inl (.inl rfl)) 0 _).set_ (.inl (.inr rfl)) 0 _).set_ (.inl (.inr rfl)) 1 _, ?_, ?_⟩
  · have h1 := ((h.r0.set_ 0 v).far (p := ⟨s + 1, 0, none⟩) (by simp) x).far (p := ⟨s + 1, 1, none⟩) (by simp) y
    simpa using h1
  · have h1 := ((h.r1.far (p := ⟨s, 0, none⟩) (by simp) v).set_ 0 x).set_ 1 y
    simpa using h1
theorem JB.stop {s b : Nat} {w W : World} {pre : List FV} (h : JB s b w pre W) (x y : Value) : Chg (fun k => k = s ∨ k = s + 1) W (((W.setCell ⟨s, 0, none⟩ (.slice none 0 0)).setCell ⟨s + 1, 0, none⟩ x).setCell ⟨s + 1, 1, none⟩ y).drew ∧
    Blk (((W.setCell ⟨s, 0, none⟩ (.slice none 0 0)).setCell ⟨s + 1, 0, none⟩ x).setCell ⟨s + 1, 1, none⟩ y).drew s 87 #[.slice none 0 0] ∧
    Blk (((W.setCell ⟨s, 0, none⟩ (.slice none 0 0)).setCell ⟨s + 1, 0, none⟩ x).setCell ⟨s + 1, 1, none⟩ y).drew (s + 1) 33 #[x, y] := ⟨(h.fin _ x y).1.drew, (h.fin _ x y).2.1, (h.fin _ x y).2.2⟩
set_option maxRecDepth 100000 in
set_option maxHeartbeats 2000000 in
theorem fields_in (m : Nat) (hm : 4 ≤ m) (bs : List UInt8) (n : Nat) (A : Option Addr) (c : Nat) (w : World) (hn : bs.length = n) (hl : n ≤ 100000) (hs : Sl w A c (bs.map bv)) :
    CallsIn Fence.wide m Try.prog 81 #[.slice A n c] w fun e W' => (((flds bs n 0).2.1 = 0 ∧ ∃ v b pre, e = .returned (.tuple #[v, .agg #[.int .i64 0, .int .i64 0]]) ∧ w.heap.size ≤ b ∧ W'.ownsRow b 95 5 v pre.length (pre.flatMap fvC) ∧ fvAll pre (flds bs n 0).1 ∧ ∀ f ∈ pre, Sl W' f.s.A f.s.c (f.s.xs.map bv) ∧ FarS f.s.A f.s.xs.length (fun k => k < w.heap.size ∨ b ≤ k)) ∨
      ((flds bs n 0).2.1 ≠ 0 ∧ e = .returned (.tuple #[.slice none 0 0, .agg #[.int .i64 ((flds bs n 0).2.1 : Nat), .int .i64 ((flds bs n 0).2.2 : Nat)]]))) ∧ Below w.heap.size w W' := by
  have h1 : 1 ≤ m := by omega
  obtain ⟨i5, hi5, hi50, hi51, hi52⟩ := info_parts Try.infoField
  have HS := hid hs
  clear hs
  refine callsIn_of_wp_marks Try.func81 rfl trivial ?_ rfl
  simp only [Try.ntmps81, List.size_toArray, List.length_cons, List.length_nil, Nat.reduceAdd, Nat.reduceSub, Array.replicate_succ, Array.replicate_zero, List.push_toArray, List.append_toArray, List.nil_append, List.cons_append]
  gi_wp2_with (refine ⟨trivial, ?_⟩; gi_at_call 107; refine (each_in (m - 1) A n c _).mono ?_; rintro e w' ⟨rfl, rfl⟩)
  obtain ⟨s, hsz⟩ : ∃ s, w.heap.size = s := ⟨_, rfl⟩
  obtain ⟨Wa, hWa⟩ : ∃ Wa, (((w.alloc (.cells #[.slice none 0 0] 87)).alloc (.cells #[.int .i64 0, .int .i64 0] 33)).alloc (.cells #[.slice none 0 0] 87)).alloc (.cells #[.slice A n c] 30) = Wa := ⟨_, rfl⟩
  have hza : Wa.heap.size = s + 4 := by rw [← hWa]; simp [hsz]
  have hba : Below s w Wa := by rw [← hWa, ← hsz]; exact bw_a (bw_a (bw_a (bw_a (Below.refl _ w) _) _) _) _
  have hk0 : Blk Wa s 87 #[.slice none 0 0] := by rw [← hWa, ← hsz]; exact (((Blk.new w _ _).alloc _).alloc _).alloc _
  have hk1 : Blk Wa (s + 1) 33 #[.int .i64 0, .int .i64 0] := by
    have h := ((Blk.new (w.alloc (.cells #[.slice none 0 0] 87)) 33 #[.int .i64 0, .int .i64 0]).alloc (.cells #[.slice none 0 0] 87)).alloc (.cells #[.slice A n c] 30)
    rw [hWa, World.size_alloc, hsz] at h; exact h
  have hk2 : Blk Wa (s + 2) 87 #[.slice none 0 0] := by
    have h := (Blk.new ((w.alloc (.cells #[.slice none 0 0] 87)).alloc (.cells #[.int .i64 0, .int .i64 0] 33)) 87 #[.slice none 0 0]).alloc (.cells #[.slice A n c] 30)
    rw [hWa, World.size_alloc, World.size_alloc, hsz] at h; exact h
  have hk3 : Blk Wa (s + 3) 30 #[.slice A n c] := by
    have h := Blk.new (((w.alloc (.cells #[.slice none 0 0] 87)).alloc (.cells #[.int .i64 0, .int .i64 0] 33)).alloc (.cells #[.slice none 0 0] 87)) 30 #[.slice A n c]
    rw [hWa, World.size_alloc, World.size_alloc, World.size_alloc, hsz] at h; exact h
  have hsa : Sl Wa A c (bs.map bv) := HS.out.below (by rw [hsz]; exact hba)
  rw [hWa, hsz]
  refine wpIn_rangeFunc fun fn _ => ?_
  generalize hasg : (Code.seq _ _ : Code) = asg
  generalize hbdy : (Code.block 1 _ : Code) = bdy
  obtain ⟨tm, htm⟩ : ∃ tm : Array Value, #[.slice A n c, undef, .pointer (some ⟨s, 0, none⟩), .pointer (some ⟨s + 1, 0, none⟩), .pointer (some ⟨s + 1 + 1, 0, none⟩), undef, undef, .slice A n c, .func (.func 123) #[] #[.pointer (some ⟨s + 1 + 1 + 1, 0, none⟩)], undef, undef, undef, undef, undef, undef, undef, undef, undef, undef, undef, undef] = tm := ⟨_, rfl⟩
  rw [htm]
  obtain ⟨rec, hrec⟩ : ∃ rec : LoopState → Option Code → Loop, rec = fun st pe => { state := st, pending := pe, fn, tmps := tm, params := #[9, 10], assign := asg, body := bdy, defers := s + 4 } := ⟨_, rfl⟩
  obtain ⟨W1, hW1⟩ : ∃ W1, (Wa.alloc (.deferred (some []))).alloc (.loop (rec .ready none)) = W1 := ⟨_, rfl⟩
  have hz1 : W1.heap.size = s + 6 := by rw [← hW1]; simp [hza]
  have hL1 : W1.heap[s + 5]? = some (.loop (rec .ready none)) := by
    rw [← hW1]; have := World.alloc_heap_new (Wa.alloc (.deferred (some []))) (.loop (rec .ready none)); rwa [World.size_alloc, hza] at this
  have hK1 : W1.heap[s + 4]? = some (.deferred (some [])) := by
    have h := World.alloc_heap_new Wa (.deferred (some []))
    rw [hza] at h
    rw [← hW1]; exact (Below.heap_alloc _ _ _ (by simp [hza])).trans h
  have hB1 : Below (s + 4) Wa W1 := by rw [← hW1, ← hza]; exact bw_a (bw_a (Below.refl _ Wa) _) _
  have hsW : Sl W1 A c (bs.map bv) := hsa.below (by rw [hza]; exact hB1)
  have hJ0 : ∀ b W', s + 6 ≤ b → Below (s + 6) W1 W' → W'.heap[s + 5]? = some (.loop (rec .ready none)) ∧ JB s b w [] W' := fun b W' hb hB => by
    have hB2 := (hB1.trans (hB.mono (by omega)))
    exact ⟨(hB.block _ (by omega)).trans hL1, hb, (hB.block _ (by omega)).trans hK1, hk0.below hB2 (by omega), hk1.below hB2 (by omega), ⟨_, hk2.below hB2 (by omega), World.ownsRow_nil _ _ _ _⟩, hba.trans (hB2.mono (by omega))⟩
  refine ⟨s + 5, [{ target := .collected (s + 4), args := #[] }], W1, { target := .fn (.func 123) #[.pointer (some ⟨s + 1 + 1 + 1, 0, none⟩)], args := #[.func (.yield (s + 5)) #[] #[]] }, W1, 123,
    #[.func (.yield (s + 5)) #[] #[]] ++ #[.pointer (some ⟨s + 1 + 1 + 1, 0, none⟩)], W1, ?_, ?_, fun _ _ => trivial, ?_, fun _ => h1, ?_⟩
  · have h := run_enterLoop_outer (P := Try.prog) (w := Wa) fn tm #[9, 10] asg bdy
    rw [hza] at h
    rw [← hW1, hrec]
    exact h
  · simp only [resolve]
    simp [go_sem, ← htm]
  · simp [invoke, go_sem]
  · have hy : ∀ (W : World) (x y : Value), W.heap[s + 5]? = some (.loop (rec .ready none)) → (Instr.yield (s + 5) #[x, y]).run Try.prog W = .ok (.round (s + 5) fn ((tm.setIfInBounds 9 x).setIfInBounds 10 y) asg bdy) W := fun W x y h => by
      have h := run_yield (P := Try.prog) (args := #[x, y]) h (by rw [hrec]; rfl)
      rw [hrec] at h
      simpa using h
    refine (each1_in (m - 1) (by omega) bs n A c (s + 5) (s + 1 + 1 + 1) (s + 6) (fun b pre W => W.heap[s + 5]? = some (.loop (rec .ready none)) ∧ JB s b w pre W)
      (fun er ep W => W.heap[s + 5]? = some (.loop (rec .done (some .ret))) ∧ W.heap[s + 4]? = some (.deferred (some [])) ∧ Blk W s 87 #[.slice none 0 0] ∧ Blk W (s + 1) 33 #[.int .i64 (er : Nat), .int .i64 (ep : Nat)] ∧ Below s w W)
      W1 hn hl (by rw [(hk3.below hB1 (by omega)).cell]; rfl) hsW hz1 hJ0 ?hJ ?hY ?hE).mono ?fin
    case hJ =>
      rintro b pre W q p Aq cq W' hq hqb ⟨hr, hj⟩ hR hO
      have hlt : s + 5 < W.heap.size := (Array.getElem?_eq_some_iff.1 hr).1
      exact ⟨(hO.block _ hlt (by omega)).trans hr, hj.keep (Chg.of_only (S := fun k => k = q) hO rfl) fun k hk => by omega⟩
    case hY =>
      rintro b pre f W ⟨hr, hj⟩ hpl hbW
      refine ⟨fn, _, asg, bdy, hy W _ _ hr, roundIn_of_wpIn trivial ?_⟩
      rw [← hasg, ← htm]
      simp only [List.setIfInBounds_toArray, List.set_cons_succ, List.set_cons_zero]
      obtain ⟨fnum, fw, fn_, ⟨fA, fc, fxs⟩, fat⟩ := f
      simp only [fvC]
      gi_wp2
      obtain ⟨W3, hW3⟩ : ∃ W3, (W.alloc (.cells #[.int .i64 fnum, .int .u8 fw, .int .u64 (fn_ : Int), .slice fA fxs.length fc, .int .i64 fat] 95)).alloc (.cells #[.int .i64 0, .int .i64 0] 33) = W3 := ⟨_, rfl⟩
      obtain ⟨z, hz⟩ : ∃ z, W.heap.size = z := ⟨_, rfl⟩
      have hlt : s + 5 < W.heap.size := (Array.getElem?_eq_some_iff.1 hr).1
      have hc3 : ∀ S, Chg S W W3 := fun S => by rw [← hW3]; exact ((Chg.refl S W).alloc _).alloc _
      have hr3 := ((hc3 (fun _ => False)).block _ hlt (fun h => h)).trans hr
      have hj3 := hj.keep (hc3 (fun _ => False)) (fun k hk => hk.elim)
      have hkf : Blk W3 z 95 #[.int .i64 fnum, .int .u8 fw, .int .u64 (fn_ : Int), .slice fA fxs.length fc, .int .i64 fat] := by rw [← hW3, ← hz]; exact (Blk.new W _ _).alloc _
      have hkg : Blk W3 (z + 1) 33 #[.int .i64 0, .int .i64 0] := by
        have h := Blk.new (W.alloc (.cells #[.int .i64 fnum, .int .u8 fw, .int .u64 (fn_ : Int), .slice fA fxs.length fc, .int .i64 fat] 95)) 33 #[.int .i64 0, .int .i64 0]
        rw [World.size_alloc, hz, hW3] at h
        exact h
      rw [hW3, hz]
      have hbr := run_beginRound (P := Try.prog) hr3 (by rw [hrec])
      obtain ⟨W4, hW4⟩ : ∃ W4, W3.putObj (s + 5) (.loop { rec .ready none with state := .busy }) = W4 := ⟨_, rfl⟩
      have hlt3 : s + 5 < W3.heap.size := (Array.getElem?_eq_some_iff.1 hr3).1
      have hc4 : ∀ S : Nat → Prop, S (s + 5) → Chg S W3 W4 := fun S hS => by rw [← hW4]; exact Chg.putObj _ hS
      have hr4 : W4.heap[s + 5]? = some (.loop { rec .ready none with state := .busy }) := by rw [← hW4]; exact World.putObj_heap_same hlt3
      have hj4 := hj3.keep (hc4 (fun k => k = s + 5) rfl) (fun k hk => .inl hk)
      have hkf4 := (hc4 (fun k => k = s + 5) rfl).blk hkf (by omega)
      have hkg4 := (hc4 (fun k => k = s + 5) rfl).blk hkg (by omega)
      have hcW : Chg (fun k => k < s + 6 ∨ b ≤ k) W W4 := (hc3 _).trans (hc4 _ (by omega))
      have hzb : b ≤ z := by omega
      have hz4 : z + 2 ≤ W4.heap.size := hkg4.lt
      rw [hW4] at hbr
      refine ⟨W4, hbr, ?_⟩
      obtain ⟨v, hv, ho⟩ := hj4.row
      have HJ4 := hid hj4
      have HV := hid hv
      have HO := hid ho
      have HR4 := hid hr4
      have HCW := hid hcW
      have hc0 := hv.cell 0
      have hf0 := hv.frozen 0
      have d0 := hkf4.cell 0
      have d1 := hkf4.cell 1
      have d2 := hkf4.cell 2
      have d3 := hkf4.cell 3
      have d4 := hkf4.cell 4
      have e0 := hkg4.cell 0
      simp only [List.getElem?_toArray, List.getElem?_cons_zero, List.getElem?_cons_succ] at hc0 d0 d1 d2 d3 d4 e0
      clear hj4 hv ho hr4 hcW hkf4 hkg4 hkf hkg hj3 hr3 hc3 hc4 hbr hW4 hW3 hlt3 hj hr hlt hJ0 hsW hB1 hK1 hL1 hz1 hsa hk0 hk1 hk2 hk3 hba hza
      rw [← hbdy]
      gi_wp2_with (gi_at_builtin; refine wpListIn_append_rd _ rfl _ _ 87 rfl b 95 i5 (.agg #[.int .i64 0, .int .u8 0, .int .u64 0, .slice none 0 0, .int .i64 0]) 5 56 Try.underlying87 hi5 hi50 hi51 hi52 rfl (by decide) v pre.length (pre.flatMap fvC) rfl (HO.out.alloc _) ⟨W4.heap.size, 0, none⟩ 1 1 [.int .i64 fnum, .int .u8 fw, .int .u64 (fn_ : Int), .slice fA fxs.length fc, .int .i64 fat] rfl rfl (Rd.new W4 95 #[.int .i64 fnum, .int .u8 fw, .int .u64 (fn_ : Int), .slice fA fxs.length fc, .int .i64 fat]) (by simp [Value.oneCell']) (by simp only [maxLen]; omega) (by omega) (by simp; omega) ?_; intro v' w1 hown' hgrow; obtain ⟨g', cap', rfl⟩ := ownsRow_succ hown'; have hst := JB.step (f := ⟨fnum, fw, fn_, ⟨fA, fc, fxs⟩, fat⟩) HJ4.out HV.out HO.out hgrow hown'; have hg1 : some (s + 2) ≠ v.ownBlock := (fun e => by have := (HO.out.lt _ e.symm).1; have := HJ4.out.le; omega); have hw1 := (hgrow.block (s + 2) (by have := HV.out.lt; simp; omega) hg1).trans (HV.out.alloc _); have hc1 := Blk.cell hw1 0; have hf1 := Blk.frozen hw1 0; simp only [List.getElem?_toArray, List.getElem?_cons_zero] at hc1)
      obtain ⟨hj5, hc5⟩ := hst
      have hle := hj5.le
      have hlt5 := (Array.getElem?_eq_some_iff.1 HR4.out).1
      have hr5 := (hc5.block _ hlt5 (by omega)).trans HR4.out
      simp only [hrec] at hr5
      have hend := run_endRound (P := Try.prog) none hr5
      refine ⟨_, _, hend, rfl, ⟨World.putObj_heap_same (Array.getElem?_eq_some_iff.1 hr5).1, hj5.keep (Chg.putObj (S := fun k => k = s + 5) _ rfl) (fun k hk => .inl hk)⟩, ?_⟩
      exact (HCW.out.trans (hc5.mono fun k _ hk => by omega)).trans (Chg.putObj _ (by omega))
    case hE =>
      rintro b pre er ep W ⟨hr, hj⟩ her
      refine ⟨fn, _, asg, bdy, hy W _ _ hr, roundIn_of_wpIn trivial ?_⟩
      rw [← hasg, ← htm]
      simp only [List.setIfInBounds_toArray, List.set_cons_succ, List.set_cons_zero]
      gi_wp2
      obtain ⟨W3, hW3⟩ : ∃ W3, (W.alloc (.cells #[.int .i64 0, .int .u8 0, .int .u64 0, .slice none 0 0, .int .i64 0] 95)).alloc (.cells #[.int .i64 (er : Int), .int .i64 (ep : Int)] 33) = W3 := ⟨_, rfl⟩
      obtain ⟨z, hz⟩ : ∃ z, W.heap.size = z := ⟨_, rfl⟩
      have hlt : s + 5 < W.heap.size := (Array.getElem?_eq_some_iff.1 hr).1
      have hc3 : ∀ S, Chg S W W3 := fun S => by rw [← hW3]; exact ((Chg.refl S W).alloc _).alloc _
      have hr3 := ((hc3 (fun _ => False)).block _ hlt (fun h => h)).trans hr
      have hj3 := hj.keep (hc3 (fun _ => False)) (fun k hk => hk.elim)
      have hkf : Blk W3 z 95 #[.int .i64 0, .int .u8 0, .int .u64 0, .slice none 0 0, .int .i64 0] := by rw [← hW3, ← hz]; exact (Blk.new W _ _).alloc _
      have hkg : Blk W3 (z + 1) 33 #[.int .i64 (er : Int), .int .i64 (ep : Int)] := by
        have h := Blk.new (W.alloc (.cells #[.int .i64 0, .int .u8 0, .int .u64 0, .slice none 0 0, .int .i64 0] 95)) 33 #[.int .i64 (er : Int), .int .i64 (ep : Int)]
        rw [World.size_alloc, hz, hW3] at h
        exact h
      rw [hW3, hz]
      have hbr := run_beginRound (P := Try.prog) hr3 (by rw [hrec])
      obtain ⟨W4, hW4⟩ : ∃ W4, W3.putObj (s + 5) (.loop { rec .ready none with state := .busy }) = W4 := ⟨_, rfl⟩
      have hlt3 : s + 5 < W3.heap.size := (Array.getElem?_eq_some_iff.1 hr3).1
      have hc4 : ∀ S : Nat → Prop, S (s + 5) → Chg S W3 W4 := fun S hS => by rw [← hW4]; exact Chg.putObj _ hS
      have hr4 : W4.heap[s + 5]? = some (.loop { rec .ready none with state := .busy }) := by rw [← hW4]; exact World.putObj_heap_same hlt3
      have hj4 := hj3.keep (hc4 (fun k => k = s + 5) rfl) (fun k hk => .inl hk)
      have hkf4 := (hc4 (fun k => k = s + 5) rfl).blk hkf (by omega)
      have hkg4 := (hc4 (fun k => k = s + 5) rfl).blk hkg (by omega)
      have hz4 : z + 2 ≤ W4.heap.size := hkg4.lt
      rw [hW4] at hbr
      refine ⟨W4, hbr, ?_⟩
      obtain ⟨v, hv, ho⟩ := hj4.row
      have HJ4 := hid hj4
      have HV := hid hv
      have HO := hid ho
      have HR4 := hid hr4
      have k00 := hj4.r0.cell 0
      have k01 := hj4.r0.frozen 0
      have k10 := hj4.r1.cell 0
      have k11 := hj4.r1.cell 1
      have k12 := hj4.r1.frozen 0
      have k13 := hj4.r1.frozen 1
      have e1 := hkg4.cell 1
      have e2 := hkg4.frozen 0
      have e3 := hkg4.frozen 1
      have hsz5 : s + 5 < z := by omega
      have hmx : Try.prog.follows .mixedOrders = true := by kernel_rfl
      have heb : (((er : Nat) : Int) != 0) = true := by simpa using her
      have hc0 := hv.cell 0
      have hf0 := hv.frozen 0
      have d0 := hkf4.cell 0
      have d1 := hkf4.cell 1
      have d2 := hkf4.cell 2
      have d3 := hkf4.cell 3
      have d4 := hkf4.cell 4
      have e0 := hkg4.cell 0
      simp only [List.getElem?_toArray, List.getElem?_cons_zero, List.getElem?_cons_succ] at e0 e1 k00 k10 k11
      clear hj4 hv ho hr4 hkf4 hkg4 hkf hkg hj3 hr3 hc3 hc4 hbr hW4 hW3 hlt3 hj hr hlt hJ0 hsW hB1 hK1 hL1 hz1 hsa hk0 hk1 hk2 hk3 hba hza
      rw [← hbdy]
      gi_wp2
      gi_region_with_o (fail)
      all_goals
        gi_wp2
        obtain ⟨hc5, hb0, hb1⟩ := HJ4.out.stop (.int .i64 (er : Int)) (.int .i64 (ep : Int))
        have hle := HJ4.out.le
        have hlt5 := (Array.getElem?_eq_some_iff.1 HR4.out).1
        have hr5 := (hc5.block _ hlt5 (by omega)).trans HR4.out
        have hd5 := (hc5.block _ (by omega) (by omega)).trans HJ4.out.dfr
        have hbel5 := HJ4.out.bel.trans (hc5.below (B := s) (fun k hk => by omega) (by omega))
        simp only [hrec] at hr5
        have hend := run_endRound (P := Try.prog) (some .ret) hr5
        have hcp := fun o => Chg.putObj (W := (((W4.setCell ⟨s, 0, none⟩ (.slice none 0 0)).setCell ⟨s + 1, 0, none⟩ (.int .i64 (er : Int))).setCell ⟨s + 1, 1, none⟩ (.int .i64 (ep : Int))).drew) (l := s + 5) (S := fun k => k = s + 5) o rfl
        exact ⟨_, _, hend, rfl, by simp only [hrec]; exact World.putObj_heap_same (Array.getElem?_eq_some_iff.1 hr5).1, ((hcp _).block _ (Array.getElem?_eq_some_iff.1 hd5).1 (by omega)).trans hd5, (hcp _).blk hb0 (by omega), (hcp _).blk hb1 (by omega), hbel5.trans ((hcp _).below (fun k hk => by omega) (by have := hb1.lt; omega))⟩
    case fin =>
      clear hy
      rintro e W2 ⟨⟨v, rfl⟩, (⟨he, b, pre, hb, ⟨hr, hj⟩, hfa, hsl⟩ | ⟨he, hr, hd, hr0, hr1, hbel⟩)⟩
      · refine ⟨none, _, by have := run_endLoop (P := Try.prog) hr (by rw [hrec]; simp); rw [hrec] at this; exact this, ?_⟩
        simp only []
        have hcp := fun o => Chg.putObj (W := W2) (l := s + 5) (S := fun k => k = s + 5) o rfl
        have hj3 := hj.keep (hcp (.loop { state := LoopState.exhausted, pending := none, fn := fn, tmps := tm, params := #[9, 10], assign := asg, body := bdy, defers := s + 4 })) (fun k hk => .inl hk)
        have hsl3 := fun f hf => (hcp (.loop { state := LoopState.exhausted, pending := none, fn := fn, tmps := tm, params := #[9, 10], assign := asg, body := bdy, defers := s + 4 })).sl (hsl f hf).1 (n := f.s.xs.length) ((hsl f hf).2.imp fun k hk => by omega) (by simp)
        generalize W2.putObj (s + 5) _ = W3 at *
        obtain ⟨v, hv, ho⟩ := hj3.row
        obtain ⟨vA, vc, rfl⟩ : ∃ vA vc, v = .slice vA pre.length vc := by
          rcases ho.2 with ⟨rfl, h⟩ | ⟨g, cap, cur, rfl, _⟩
          · exact ⟨none, 0, by rw [h]⟩
          · exact ⟨_, _, rfl⟩
        have c2 := hv.cell 0
        have k00 := hj3.r0.cell 0
        have k01 := hj3.r0.frozen 0
        have k10 := hj3.r1.cell 0
        have k11 := hj3.r1.cell 1
        have k12 := hj3.r1.frozen 0
        have k13 := hj3.r1.frozen 1
        simp only [List.getElem?_toArray, List.getElem?_cons_zero, List.getElem?_cons_succ] at c2 k00 k10 k11
        rw [← htm]
        clear hr hj hJ0 hsW hB1 hK1 hL1 hz1 hsa hk0 hk1 hk2 hk3 hba hza hcp hW1
        gi_wp2
        obtain ⟨hc5, hb0, hb1⟩ := hj3.fin (.slice vA pre.length vc) (.int .i64 0) (.int .i64 0)
        have hd5 := (hc5.block _ (Array.getElem?_eq_some_iff.1 hj3.dfr).1 (by omega)).trans hj3.dfr
        have ho5 := own_chgS ho hc5 fun g hg hk => by have := (ho.lt g hg).1; omega
        have hsl5 := fun f hf => hc5.sl (hsl3 f hf) (n := f.s.xs.length) ((hsl f hf).2.imp fun k hk => by omega) (by simp)
        have hbel5 := hj3.bel.trans (hc5.below (B := s) (fun k hk => by omega) (by have := hj3.r0.lt; omega))
        generalize ((W3.setCell _ _).setCell _ _).setCell _ _ = W4 at *
        refine ⟨by simp, .inl ⟨_, _, rfl, run_takeDeferred hd5, ?_⟩⟩
        have hcf := Chg.putObj (W := W4) (l := s + 4) (S := fun k => k = s + 4) (.deferred none) rfl
        have f0 := (hcf.blk hb0 (by omega)).cell 0
        have f1 := (hcf.blk hb1 (by omega)).cell 0
        have f2 := (hcf.blk hb1 (by omega)).cell 1
        have ho6 := own_chgS ho5 hcf fun g hg hk => by have := (ho5.lt g hg).1; omega
        have hsl6 := fun f hf => hcf.sl (hsl5 f hf) (n := f.s.xs.length) ((hsl f hf).2.imp fun k hk => by omega) (by simp)
        have hbel6 := hbel5.trans (hcf.below (B := s) (fun k hk => by omega) (by have := hb0.lt; omega))
        simp only [List.getElem?_toArray, List.getElem?_cons_zero, List.getElem?_cons_succ] at f0 f1 f2
        generalize W4.putObj _ _ = W5 at *
        exact ⟨.tuple #[.slice vA pre.length vc, .agg #[.int .i64 0, .int .i64 0]], by simp [results, Try.results81, go_sem, f0, f1, f2], .inl ⟨he, _, b, pre, rfl, by omega, ho6, hfa, fun f hf => ⟨hsl6 f hf, (hsl f hf).2.imp fun k hk => by omega⟩⟩, by rw [hsz]; exact hbel6⟩
      · refine ⟨some .ret, _, by have := run_endLoop (P := Try.prog) hr (by rw [hrec]; simp); rw [hrec] at this; exact this, ?_⟩
        simp only []
        gi_wp2
        have hcp := Chg.putObj (W := W2) (l := s + 5) (S := fun k => k = s + 5) (.loop { state := LoopState.exhausted, pending := some .ret, fn := fn, tmps := tm, params := #[9, 10], assign := asg, body := bdy, defers := s + 4 }) rfl
        have hd3 := (hcp.block _ (Array.getElem?_eq_some_iff.1 hd).1 (by omega)).trans hd
        have hb0 := hcp.blk hr0 (by omega)
        have hb1 := hcp.blk hr1 (by omega)
        have hbel3 := hbel.trans (hcp.below (B := s) (fun k hk => by omega) (by have := hr0.lt; omega))
        generalize W2.putObj (s + 5) _ = W3 at *
        refine ⟨by simp, .inl ⟨_, _, rfl, run_takeDeferred hd3, ?_⟩⟩
        have hcf := Chg.putObj (W := W3) (l := s + 4) (S := fun k => k = s + 4) (.deferred none) rfl
        have f0 := (hcf.blk hb0 (by omega)).cell 0
        have f1 := (hcf.blk hb1 (by omega)).cell 0
        have f2 := (hcf.blk hb1 (by omega)).cell 1
        have hbel6 := hbel3.trans (hcf.below (B := s) (fun k hk => by omega) (by have := hb0.lt; omega))
        simp only [List.getElem?_toArray, List.getElem?_cons_zero, List.getElem?_cons_succ] at f0 f1 f2
        generalize W3.putObj _ _ = W5 at *
        exact ⟨.tuple #[.slice none 0 0, .agg #[.int .i64 ((flds bs n 0).2.1 : Nat), .int .i64 ((flds bs n 0).2.2 : Nat)]], by simp [results, Try.results81, go_sem, f0, f1, f2, ← htm], .inr ⟨he, rfl⟩, by rw [hsz]; exact hbel6⟩
end Go.Proofs.Ytnfodgjihdoncaa
