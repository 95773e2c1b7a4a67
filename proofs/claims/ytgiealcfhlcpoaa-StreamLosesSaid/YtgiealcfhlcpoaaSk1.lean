/- The fields of bytes: what is read at a place, and one behind another. · skip.read: a field at a reader's place. · skip.read in one piece. · What came in: bytes, and structs of five fields of a cell each. · skip.each: the fields of bytes, one by one, whatever is done with them. · skip.Fields in one piece. -/
import Derived.Test.YtgiealcfhlcpoaaM4
import Derived.Test.YtgiealcfhlcpoaaM3
import Derived.Test.YtgiealcfhlcpoaaM1
import Derived.RegionTactic
import Derived.ChangeAlike
import Derived.Test.YtgiealcfhlcpoaaM2
import Derived.Scope
import Derived.Test.YtgiealcfhlcpoaaM6
import Derived.RangeFuncOwn
import Derived.RangeFuncLeaves
import Derived.RangeFuncNested
import Derived.RangeFuncCalls
import Derived.Shelf.RegionOpen
set_option linter.unusedVariables false
namespace Go.Proofs.Ytgiealcfhlcpoaa
open Go.RowKit
/-- The value behind a tag: a number, or bytes; what is wrong; the place behind. -/
def rVal (w : Int) (bs : List UInt8) (p : Nat) : Nat × List UInt8 × Nat × Nat :=
  if w = 0 then (if (M.get (bs.drop p)).2.2 = 0 then (M.get (bs.drop p)).1 else 0, [], (M.get (bs.drop p)).2.2, plc (M.get (bs.drop p)).2.2 p (p + (M.get (bs.drop p)).2.1))
  else if w = 1 then (if (rFix 8 bs p).2.1 = 0 then (rFix 8 bs p).1 else 0, [], (rFix 8 bs p).2.1, plc (rFix 8 bs p).2.1 p (rFix 8 bs p).2.2)
  else if w = 2 then (0, if (rCount 8192 bs p).2.1 = 0 then (rCount 8192 bs p).1 else [], (rCount 8192 bs p).2.1, plc (rCount 8192 bs p).2.1 p (rCount 8192 bs p).2.2)
  else (if (rFix 4 bs p).2.1 = 0 then (rFix 4 bs p).1 else 0, [], (rFix 4 bs p).2.1, plc (rFix 4 bs p).2.1 p (rFix 4 bs p).2.2)
/-- A field at a place. -/
structure RF where
  num : Int
  w : Int
  n : Nat
  xs : List UInt8
  e : Nat
  p : Nat
  nx : Nat
def rOne (bs : List UInt8) (p : Nat) : RF :=
  if (rHead bs p).2.2.1 = 0 then
    ⟨(rHead bs p).1, (rHead bs p).2.1, (rVal (rHead bs p).2.1 bs (rHead bs p).2.2.2).1, (rVal (rHead bs p).2.1 bs (rHead bs p).2.2.2).2.1, (rVal (rHead bs p).2.1 bs (rHead bs p).2.2.2).2.2.1, flt (rVal (rHead bs p).2.1 bs (rHead bs p).2.2.2).2.2.1 (rHead bs p).2.2.2, (rVal (rHead bs p).2.1 bs (rHead bs p).2.2.2).2.2.2⟩
  else ⟨0, 0, 0, [], (rHead bs p).2.2.1, p, p⟩
theorem rHead_facts (bs : List UInt8) (p : Nat) (h : (rHead bs p).2.2.1 = 0) : 1 ≤ (rHead bs p).1 ∧ (rHead bs p).1 ≤ 536870911 ∧ ((rHead bs p).2.1 = 0 ∨ (rHead bs p).2.1 = 1 ∨ (rHead bs p).2.1 = 2 ∨ (rHead bs p).2.1 = 5) ∧ p < (rHead bs p).2.2.2 := by
  unfold rHead at h ⊢
  have hg := M.get_facts (bs.drop p)
  by_cases h0 : (M.get (bs.drop p)).2.2 = 0
  · rw [if_pos h0] at h ⊢
    simp only at h ⊢
    have hs := spl_err ((M.get (bs.drop p)).1 : Int)
    have hz : (spl ((M.get (bs.drop p)).1 : Int)).2.2 = 0 := by omega
    obtain ⟨h1, h2, h3, h4⟩ := spl_ok_inv hz
    rw [h4]
    simp only
    refine ⟨h1, h2, ?_, ?_⟩
    · unfold wireB at h3
      simpa using h3
    · have := (hg.1 h0).1; omega
  · rw [if_neg h0] at h
    simp only at h
    exact absurd h h0
theorem rCount_ok (bs : List UInt8) (p : Nat) (hp : p ≤ bs.length) (h : (rCount 8192 bs p).2.1 = 0) : p ≤ (rCount 8192 bs p).2.2 ∧ (rCount 8192 bs p).2.2 ≤ bs.length := by
  have hg := M.get_facts (bs.drop p)
  have hd : (bs.drop p).length = bs.length - p := List.length_drop
  unfold rCount at h ⊢
  split at h
  · simp at h; omega
  · rename_i h0
    rw [if_neg h0]
    have h1 := hg.1 (by omega)
    split at h
    · simp at h
    · rename_i h2
      rw [if_neg h2]
      by_cases hs : ((bs.length - (p + (M.get (bs.drop p)).2.1) : Nat) : Int) < ((M.get (bs.drop p)).1 : Int)
      · rw [rTake_short (by omega) hs] at h; simp at h
      · rw [rTake_ok (by omega) hs]
        simp only [Int.toNat_natCast]
        omega
theorem rVal_facts (w : Int) (bs : List UInt8) (p : Nat) (hp : p ≤ bs.length) : p ≤ (rVal w bs p).2.2.2 ∧ (rVal w bs p).2.2.2 ≤ bs.length ∧ (rVal w bs p).1 ≤ 18446744073709551615 ∧ ((rVal w bs p).2.2.1 ≠ 0 → (rVal w bs p).2.2.2 = p ∧ (rVal w bs p).1 = 0 ∧ (rVal w bs p).2.1 = []) := by
  have hg := M.get_facts (bs.drop p)
  have hd : (bs.drop p).length = bs.length - p := List.length_drop
  have hfx : ∀ k, k ≤ 8 → p ≤ plc (rFix k bs p).2.1 p (rFix k bs p).2.2 ∧ plc (rFix k bs p).2.1 p (rFix k bs p).2.2 ≤ bs.length ∧ (if (rFix k bs p).2.1 = 0 then (rFix k bs p).1 else 0) ≤ 18446744073709551615 ∧ ((rFix k bs p).2.1 ≠ 0 → plc (rFix k bs p).2.1 p (rFix k bs p).2.2 = p ∧ (if (rFix k bs p).2.1 = 0 then (rFix k bs p).1 else 0) = 0) := by
    intro k hk
    unfold rFix
    by_cases h : bs.length - p < k
    · rw [if_pos h]; simp [plc]; exact hp
    · rw [if_neg h]
      have hu := unfixN_lt ((bs.drop p).take k)
      have hl : ((bs.drop p).take k).length = k := by rw [List.length_take, hd]; omega
      rw [hl] at hu
      have hb := pow256 hk
      simp [plc]
      omega
  unfold rVal
  split
  · by_cases h0 : (M.get (bs.drop p)).2.2 = 0
    · have h1 := hg.1 h0
      simp only [h0, plc, if_true]
      refine ⟨by omega, by omega, by omega, fun h => absurd rfl h⟩
    · simp only [h0, plc, if_false]
      exact ⟨Nat.le_refl _, hp, by omega, fun _ => by simp⟩
  split
  · have h := hfx 8 (by omega)
    exact ⟨h.1, h.2.1, h.2.2.1, fun he => ⟨(h.2.2.2 he).1, (h.2.2.2 he).2, rfl⟩⟩
  split
  · have hc := rCount_ok bs p hp
    simp only
    refine ⟨?_, ?_, by omega, ?_⟩
    · unfold plc
      split
      · rename_i h; exact (hc h).1
      · exact Nat.le_refl _
    · unfold plc
      split
      · rename_i h; exact (hc h).2
      · exact hp
    · intro he
      simp [plc, he]
  · have h := hfx 4 (by omega)
    exact ⟨h.1, h.2.1, h.2.2.1, fun he => ⟨(h.2.2.2 he).1, (h.2.2.2 he).2, rfl⟩⟩
theorem rOne_facts (bs : List UInt8) (p : Nat) (hp : p ≤ bs.length) : ((rOne bs p).e = 0 → p < (rOne bs p).nx ∧ (rOne bs p).nx ≤ bs.length ∧ 1 ≤ (rOne bs p).num ∧ (rOne bs p).num ≤ 536870911 ∧ ((rOne bs p).w = 0 ∨ (rOne bs p).w = 1 ∨ (rOne bs p).w = 2 ∨ (rOne bs p).w = 5)) ∧ (rOne bs p).n ≤ 18446744073709551615 := by
  unfold rOne
  split
  · rename_i h
    have hh := rHead_facts bs p h
    have hp1 : (rHead bs p).2.2.2 ≤ bs.length := by
      unfold rHead at h ⊢
      have hg := M.get_facts (bs.drop p)
      have hd : (bs.drop p).length = bs.length - p := List.length_drop
      split
      · rename_i h0; have := (hg.1 h0).2.2.1; simp only; omega
      · exact hp
    have hv := rVal_facts (rHead bs p).2.1 bs (rHead bs p).2.2.2 hp1
    simp only
    exact ⟨fun he => ⟨by omega, hv.2.1, hh.1, hh.2.1, hh.2.2.1⟩, hv.2.2.1⟩
  · rename_i h
    exact ⟨fun he => absurd he h, by simp⟩
/-- The fields from a place on, each with its place; or what is wrong, and where. -/
def flds (bs : List UInt8) : Nat → Nat → List (RF × Nat) × Nat × Nat
  | 0, _ => ([], 0, 0)
  | f + 1, p => if bs.length ≤ p then ([], 0, 0) else if (rOne bs p).e = 0 then ((rOne bs p, p) :: (flds bs f (rOne bs p).nx).1, (flds bs f (rOne bs p).nx).2.1, (flds bs f (rOne bs p).nx).2.2) else ([], (rOne bs p).e, (rOne bs p).p)
theorem flds_end (bs : List UInt8) (f p : Nat) (h : bs.length ≤ p) : flds bs f p = ([], 0, 0) := by
  cases f with
  | zero => rfl
  | succ f => rw [flds, if_pos h]
theorem flds_bad (bs : List UInt8) (f p : Nat) (h : p < bs.length) (hf : bs.length - p ≤ f) (he : (rOne bs p).e ≠ 0) : flds bs f p = ([], (rOne bs p).e, (rOne bs p).p) := by
  obtain ⟨g, rfl⟩ : ∃ g, f = g + 1 := ⟨f - 1, by omega⟩
  rw [flds, if_neg (by omega), if_neg he]
theorem flds_step (bs : List UInt8) (f p : Nat) (h : p < bs.length) (hf : bs.length - p ≤ f) (he : (rOne bs p).e = 0) : ∃ g, bs.length - (rOne bs p).nx ≤ g ∧ flds bs f p = ((rOne bs p, p) :: (flds bs g (rOne bs p).nx).1, (flds bs g (rOne bs p).nx).2.1, (flds bs g (rOne bs p).nx).2.2) := by
  obtain ⟨g, rfl⟩ : ∃ g, f = g + 1 := ⟨f - 1, by omega⟩
  have hn := ((rOne_facts bs p (by omega)).1 he).1
  exact ⟨g, by omega, by rw [flds, if_neg (by omega), if_pos he]⟩
end Go.Proofs.Ytgiealcfhlcpoaa
set_option linter.unusedVariables false
namespace Go.Proofs.Ytgiealcfhlcpoaa
open Go.RowKit
section
variable {S : Nat → Prop} {w w' : World} {q : Nat}
theorem Rin.chgS {t : TypeId} {A : Option Addr} {c : Nat} {bs : List UInt8} {p : Nat} (h : Rin t w q A c bs p) (hc : Chg S w w') (hq : ¬ S q) (hf : FarS A bs.length S) : Rin t w' q A c bs p := ⟨hc.blk h.blk hq, hc.sl h.sl hf (by simp), h.le, h.far⟩
theorem Only.chgS {w0 : World} (h : Only q w0 w) (hc : Chg S w w') (hS : ∀ k, S k → w0.heap.size ≤ k) : Only q w0 w' :=
  ⟨hc.os.trans h.os, hc.tape.trans h.tape, hc.output.trans h.output, Nat.le_trans h.size hc.size, fun k hk hq => (hc.block k (Nat.lt_of_lt_of_le hk h.size) fun hs => by have := hS k hs; omega).trans (h.block k hk hq)⟩
end
/-- Five cells of one block, two of another one, and a draw. -/
theorem chg52 (w : World) (g h : Nat) (x0 x1 x2 x3 x4 y0 y1 : Value) : Chg (fun k => k = g ∨ k = h) w ((((((((w.setCell ⟨g, 0, none⟩ x0).setCell ⟨g, 1, none⟩ x1).setCell ⟨g, 2, none⟩ x2).setCell ⟨g, 3, none⟩ x3).setCell ⟨g, 4, none⟩ x4).setCell ⟨h, 0, none⟩ y0).setCell ⟨h, 1, none⟩ y1).drew) :=
  (((((((((Chg.refl _ w).set_ (.inl (.inl rfl)) 0 x0).set_ (.inl (.inl rfl)) 1 x1).set_ (.inl (.inl rfl)) 2 x2).set_ (.inl (.inl rfl)) 3 x3).set_ (.inl (.inl rfl)) 4 x4).set_ (.inl (.inr rfl)) 0 y0).set_ (.inl (.inr rfl)) 1 y1)).drew
end Go.Proofs.Ytgiealcfhlcpoaa
set_option linter.unusedVariables false
namespace Go.Proofs.Ytgiealcfhlcpoaa
open Go.RowKit
theorem rFix4_lt (bs : List UInt8) (p : Nat) : (rVal 5 bs p).1 ≤ 4294967295 := by
  unfold rVal
  rw [if_neg (by omega), if_neg (by omega), if_neg (by omega)]
  simp only
  unfold rFix
  split
  · simp
  · have hu := unfixN_lt ((bs.drop p).take 4)
    have hl : ((bs.drop p).take 4).length ≤ 4 := by rw [List.length_take]; omega
    have hp : 256 ^ ((bs.drop p).take 4).length ≤ 256 ^ 4 := Nat.pow_le_pow_right (by omega) hl
    simp only [if_true]
    omega
end Go.Proofs.Ytgiealcfhlcpoaa
set_option linter.unusedVariables false
namespace Go.Proofs.Ytgiealcfhlcpoaa
open Go.ChangeShapes Go.WideShapes Go.ChangeAt Go.RowKit
section
variable {P : Program} {W : World} {t e : TypeId}
theorem opens_bytes (ht : P.underlying t = some (.slice e)) (he : P.underlying e = some (.int .u8)) (hc : P.cellsOf e = 1) :
    Opens P W t (fun s : SlV UInt8 => [.slice s.A s.xs.length s.c]) (fun s => Sl W s.A s.c (s.xs.map bv)) :=
  (opens_slice (size := 1) ht hc (by omega) (fun _ => rfl) (opens_int he)).map (fun s => ⟨s.A, s.c, s.xs.map fun z => b8 z.toNat⟩) fun s hs => by
    refine ⟨by simp, ?_⟩
    have h2 := hs.2
    have e : (s.xs.map fun z => b8 z.toNat).map bv = s.xs.flatMap fun n => [.int .u8 n] := by
      rw [List.map_map, show (s.xs.flatMap fun n => [Value.int .u8 n]) = s.xs.map (Value.int .u8) from (List.map_eq_flatMap ..).symm]
      apply List.map_congr_left
      intro z hz
      have := wf_u8 (hs.1 z hz)
      simp only [Function.comp]
      rw [bv_b8 _ (by omega), Int.toNat_of_nonneg this.1]
    show Sl W s.A s.c ((s.xs.map fun z => b8 z.toNat).map bv)
    rw [e]
    exact ⟨by rw [h2.len, Nat.mul_one]; exact h2.cap, h2.small, h2.nil0, h2.rd⟩
theorem opens_struct5 {α0 α1 α2 α3 α4 : Type} {f0 f1 f2 f3 f4 : Field} {e0 : α0 → Value} {ok0 : α0 → Prop} {e1 : α1 → Value} {ok1 : α1 → Prop} {e2 : α2 → Value} {ok2 : α2 → Prop} {e3 : α3 → Value} {ok3 : α3 → Prop} {e4 : α4 → Value} {ok4 : α4 → Prop}
    (ht : P.underlying t = some (.struct #[f0, f1, f2, f3, f4])) (hC : P.cellsOf t = 5) (ho : f0.offset = 0 ∧ f1.offset = 1 ∧ f2.offset = 2 ∧ f3.offset = 3 ∧ f4.offset = 4)
    (hc : P.cellsOf f0.type = 1 ∧ P.cellsOf f1.type = 1 ∧ P.cellsOf f2.type = 1 ∧ P.cellsOf f3.type = 1 ∧ P.cellsOf f4.type = 1)
    (h0 : Opens P W f0.type (fun a => [e0 a]) ok0) (h1 : Opens P W f1.type (fun a => [e1 a]) ok1) (h2 : Opens P W f2.type (fun a => [e2 a]) ok2) (h3 : Opens P W f3.type (fun a => [e3 a]) ok3) (h4 : Opens P W f4.type (fun a => [e4 a]) ok4) :
    Opens P W t (fun p : α0 × α1 × α2 × α3 × α4 => [e0 p.1, e1 p.2.1, e2 p.2.2.1, e3 p.2.2.2.1, e4 p.2.2.2.2]) (fun p => ok0 p.1 ∧ ok1 p.2.1 ∧ ok2 p.2.2.1 ∧ ok3 p.2.2.2.1 ∧ ok4 p.2.2.2.2) := by
  obtain ⟨o0, o1, o2, o3, o4⟩ := ho
  obtain ⟨c0, c1, c2, c3, c4⟩ := hc
  intro H en base spare held fuel cs x h
  obtain ⟨xs, n, _, _, hl, hlen, hf⟩ := DataW.trod_struct ht h
  have g0 := hf 0 f0 rfl
  have g1 := hf 1 f1 rfl
  have g2 := hf 2 f2 rfl
  have g3 := hf 3 f3 rfl
  have g4 := hf 4 f4 rfl
  rw [o0, c0, List.getElem?_eq_getElem (by rw [hlen]; show 0 < 5; omega)] at g0
  rw [o1, c1, List.getElem?_eq_getElem (by rw [hlen]; show 1 < 5; omega)] at g1
  rw [o2, c2, List.getElem?_eq_getElem (by rw [hlen]; show 2 < 5; omega)] at g2
  rw [o3, c3, List.getElem?_eq_getElem (by rw [hlen]; show 3 < 5; omega)] at g3
  rw [o4, c4, List.getElem?_eq_getElem (by rw [hlen]; show 4 < 5; omega)] at g4
  rw [hC] at hl
  obtain ⟨a0, k0, w0⟩ := h0 _ _ _ _ _ _ _ _ g0
  obtain ⟨a1, k1, w1⟩ := h1 _ _ _ _ _ _ _ _ g1
  obtain ⟨a2, k2, w2⟩ := h2 _ _ _ _ _ _ _ _ g2
  obtain ⟨a3, k3, w3⟩ := h3 _ _ _ _ _ _ _ _ g3
  obtain ⟨a4, k4, w4⟩ := h4 _ _ _ _ _ _ _ _ g4
  refine ⟨(a0, a1, a2, a3, a4), ?_, w0, w1, w2, w3, w4⟩
  clear g0 g1 g2 g3 g4 hf h0 h1 h2 h3 h4 h
  match cs, hl with
  | [x0, x1, x2, x3, x4], _ => simp at k0 k1 k2 k3 k4; subst k0 k1 k2 k3 k4; rfl
end
end Go.Proofs.Ytgiealcfhlcpoaa
set_option linter.unusedVariables false
namespace Go.Proofs.Ytgiealcfhlcpoaa
open Go.RowKit Go.Shelf
attribute [local go_sem] Oper.semAt_some
/-- A field as a value. -/
structure FV where
  num : Int
  w : Int
  n : Nat
  s : SlV UInt8
  at_ : Int
def fvC (f : FV) : List Value := [.int .i64 f.num, .int .u8 f.w, .int .u64 (f.n : Int), .slice f.s.A f.s.xs.length f.s.c, .int .i64 f.at_]
def fvOf (f : FV) (r : RF × Nat) : Prop := f.num = r.1.num ∧ f.w = r.1.w ∧ f.n = r.1.n ∧ f.s.xs = r.1.xs ∧ f.at_ = (r.2 : Int)
/-- Fields as values are those that are read. -/
def fvAll : List FV → List (RF × Nat) → Prop
  | [], [] => True
  | f :: fs, r :: rs => fvOf f r ∧ fvAll fs rs
  | _, _ => False
theorem fvAll_snoc {fs : List FV} {rs : List (RF × Nat)} {f : FV} {r : RF × Nat} (h : fvAll fs rs) (hf : fvOf f r) : fvAll (fs ++ [f]) (rs ++ [r]) := by
  induction fs generalizing rs with
  | nil => cases rs with
    | nil => exact ⟨hf, trivial⟩
    | cons r rs => exact h.elim
  | cons g gs ih => cases rs with
    | nil => exact h.elim
    | cons r rs => exact ⟨h.1, ih h.2⟩
theorem fvAll_len {fs : List FV} {rs : List (RF × Nat)} (h : fvAll fs rs) : fs.length = rs.length := by
  induction fs generalizing rs with
  | nil => cases rs with
    | nil => rfl
    | cons r rs => exact h.elim
  | cons g gs ih => cases rs with
    | nil => exact h.elim
    | cons r rs => simp [ih h.2]
end Go.Proofs.Ytgiealcfhlcpoaa
set_option linter.unusedVariables false
namespace Go.Proofs.Ytgiealcfhlcpoaa
open Go.RowKit Go.Shelf
attribute [local go_sem] Oper.semAt_some
theorem Chg.putObj {S : Nat → Prop} {W : World} {l : Nat} (o : Obj) (hl : S l) : Chg S W (W.putObj l o) := Chg.of_grown (grownBy_putObj' W l o) fun g e => by cases e; exact hl
end Go.Proofs.Ytgiealcfhlcpoaa
