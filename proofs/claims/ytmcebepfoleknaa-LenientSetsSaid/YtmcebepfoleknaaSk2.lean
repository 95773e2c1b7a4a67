/- A writer in a block, and what its methods do. · skip.put: a field's bytes behind bytes. · skip.Put in one piece. · skip.Put of few fields with long bytes. · skip.End. · The fields of bytes: shifted; of bytes that were put; of fields that were read. -/
import Derived.Test.YtmcebepfoleknaaProg
import Derived.Test.YtmcebepfoleknaaM1
import Derived.Test.YtmcebepfoleknaaM2
import Derived.Test.YtmcebepfoleknaaM3
import Derived.Test.YtmcebepfoleknaaSk1
import Derived.Test.YtmcebepfoleknaaM4
set_option linter.unusedVariables false
namespace Go.Proofs.Ytmcebepfoleknaa
open Go.RowKit
/-- The blocks of a writer. -/
def Oset (q : Nat) (v : Value) (k : Nat) : Prop := k = q ∨ v.ownBlock = some k
/-- What a write does to memory. -/
structure Stp (q : Nat) (v v' : Value) (n : Nat) (w w' : World) : Prop where
  chg : Chg (Oset q v) w w'
  new : NewOr w v v'
  views : Views 5 v n w w'
section
variable {w w1 w2 : World} {B q : Nat} {v v1 v2 : Value} {bs : List UInt8} {most n n1 : Nat}
theorem NewOr.trans (h : NewOr w v v1) (k : NewOr w1 v1 v2) (hz : w.heap.size ≤ w1.heap.size) : NewOr w v v2 := by
  rcases k with k | k
  · rcases h with h | h
    · exact .inl (k.trans h)
    · exact .inr fun g hg => h g (k ▸ hg)
  · exact .inr fun g hg => Nat.le_trans hz (k g hg)
theorem Oset.back (h : NewOr w v v1) {k : Nat} (hk : k < w.heap.size) (ho : Oset q v1 k) : Oset q v k := by
  rcases ho with ho | ho
  · exact .inl ho
  · rcases h with h | h
    · exact .inr (h ▸ ho)
    · have := h k ho; omega
theorem Stp.refl (q : Nat) (v : Value) (n : Nat) (w : World) : Stp q v v n w w := ⟨.refl _ _, .inl rfl, fun _ _ _ _ h _ => h⟩
theorem Stp.trans (h : Stp q v v1 n w w1) (k : Stp q v1 v2 n1 w1 w2) (hn : n ≤ n1) : Stp q v v2 n w w2 := by
  refine ⟨?_, h.new.trans k.new h.chg.size, ?_⟩
  · refine ⟨k.chg.os.trans h.chg.os, k.chg.tape.trans h.chg.tape, k.chg.output.trans h.chg.output, Nat.le_trans h.chg.size k.chg.size, fun i hi hq => ?_⟩
    rw [k.chg.block i (Nat.lt_of_lt_of_le hi h.chg.size) fun ho => hq (ho.back h.new hi)]
    exact h.chg.block i hi hq
  · intro B v0 n0 xs0 h0 hle
    refine k.views B v0 n0 xs0 (h.views B v0 n0 xs0 h0 hle) fun hne he => ?_
    rcases h.new with hv | hv
    · exact Nat.le_trans (hle hne (he.trans hv)) hn
    · exfalso
      cases hb : v0.ownBlock with
      | none => exact hne hb
      | some g =>
        have h1 := (h0.lt g hb).2
        have h2 := hv g (by rw [← he, hb])
        omega
theorem Stp.of_new (h : Below w.heap.size w w1) : Stp q v v n w w1 := ⟨.of_new h, .inl rfl, views_kept h⟩
end
end Go.Proofs.Ytmcebepfoleknaa
set_option linter.unusedVariables false
namespace Go.Proofs.Ytmcebepfoleknaa
open Go.RowKit
def pTail (x : Int) (n : Nat) (xs : List UInt8) : List UInt8 := if x = 0 then putN n else if x = 1 then fixN 8 n else if x = 2 then putN xs.length ++ xs else fixN 4 (n % 4294967296)
def pErr (num x : Int) (xs : List UInt8) : Nat := if (mk num x).2 ≠ 0 then (mk num x).2.toNat else if x = 2 ∧ 8192 < xs.length then 2 else 0
def pB (num x : Int) (n : Nat) (xs : List UInt8) : List UInt8 := putN (mk num x).1.toNat ++ pTail x n xs
/-- What put keeps. -/
structure PS (w : World) (B z : Nat) (fs : Array Value) (A : Option Addr) (c : Nat) (xs : List UInt8) (v : Value) (n : Nat) (bs : List UInt8) (W : World) : Prop where
  own : W.ownsRow B 5 1 v n (bs.map bv)
  fld : Blk W z 44 fs
  src : Sl W A c (xs.map bv)
  bel : Below B w W
theorem PS.new {w : World} {B z : Nat} {fs : Array Value} {A : Option Addr} {c : Nat} {xs : List UInt8} {v : Value} {n : Nat} {bs : List UInt8} {W W' : World} (h : PS w B z fs A c xs v n bs W) (hB : B ≤ W.heap.size) (hb : Below W.heap.size W W') : PS w B z fs A c xs v n bs W' :=
  ⟨own_below h.own hb, h.fld.below hb h.fld.lt, h.src.below hb, h.bel.trans (hb.mono hB)⟩
end Go.Proofs.Ytmcebepfoleknaa
set_option linter.unusedVariables false
namespace Go.Proofs.Ytmcebepfoleknaa
open Go.RowKit
/-- A field that may be handed in. -/
structure FvOk (w : World) (f : FV) : Prop where
  w0 : 0 ≤ f.w
  w1 : f.w ≤ 255
  n : f.n ≤ 18446744073709551615
  n1 : -9223372036854775808 ≤ f.num
  n2 : f.num ≤ 9223372036854775807
  a1 : -9223372036854775808 ≤ f.at_
  a2 : f.at_ ≤ 9223372036854775807
  s : Sl w f.s.A f.s.c (f.s.xs.map bv)
def pErrF (f : FV) : Nat := pErr f.num f.w f.s.xs
def pBF (f : FV) : List UInt8 := pB f.num f.w f.n f.s.xs
end Go.Proofs.Ytmcebepfoleknaa
set_option linter.unusedVariables false
namespace Go.Proofs.Ytmcebepfoleknaa
open Go.RowKit
end Go.Proofs.Ytmcebepfoleknaa
set_option linter.unusedVariables false
namespace Go.Proofs.Ytmcebepfoleknaa
open Go.RowKit
theorem rHead_le (bs : List UInt8) (p : Nat) (hp : p ≤ bs.length) (h : (rHead bs p).2.2.1 = 0) : (rHead bs p).2.2.2 ≤ bs.length := by
  unfold rHead at h ⊢
  have hg := M.get_facts (bs.drop p)
  have hd : (bs.drop p).length = bs.length - p := List.length_drop
  split
  · rename_i h0
    rw [if_pos h0] at h
    have h2 := (hg.1 h0).2.2.1
    simp only
    omega
  · exact hp
end Go.Proofs.Ytmcebepfoleknaa
set_option linter.unusedVariables false
namespace Go.Proofs.Ytmcebepfoleknaa
/-- What a field's wire type has. -/
def bareN (f : FV) : Nat := if f.w = 2 then 0 else if f.w = 5 then f.n % 4294967296 else f.n
def bareX (f : FV) : List UInt8 := if f.w = 2 then f.s.xs else []
section
variable {E pre rest : List UInt8} {p : Nat}
end
/-- Fields as values, one by one. -/
theorem fvAll_get {fs : List FV} {rs : List (RF × Nat)} (h : fvAll fs rs) (k : Nat) (hk : k < fs.length) (hk2 : k < rs.length) : fvOf fs[k] rs[k] := by
  induction fs generalizing rs k with
  | nil => simp at hk
  | cons f fs ih => cases rs with
    | nil => exact h.elim
    | cons r rs => cases k with
      | zero => exact h.1
      | succ k => exact ih h.2 k (by simpa using hk) (by simpa using hk2)
theorem put_get_len (b : List UInt8) (h : (M.get b).2.2 = 0) : (putN (M.get b).1).length ≤ (M.get b).2.1 := by
  obtain ⟨v, hv, hs, -⟩ := put_getF b 0 0 (by omega) (by simp) h
  have hv2 : (M.get b).1 = v := by unfold M.get; rw [hv]; simp
  rw [hv2, putN_size]
  have : 0 + sizeN v ≤ (M.get b).2.1 := hs
  omega
/-- A field that was read: it can be put, has just what its wire type has, and is no longer. -/
theorem again_one (f : FV) (bs : List UInt8) (p : Nat) (hp : p ≤ bs.length) (h : (rOne bs p).e = 0) (hf : fvOf f (rOne bs p, p)) : pErrF f = 0 ∧ bareN f = f.n ∧ bareX f = f.s.xs ∧ p + (pBF f).length ≤ (rOne bs p).nx := by
  obtain ⟨f1, f2, f3, f4, -⟩ := hf
  simp only at f1 f2 f3 f4
  unfold bareN bareX pErrF pErr pBF pB
  rw [f1, f2, f3, f4]
  clear f1 f2 f3 f4
  unfold rOne at h ⊢
  by_cases h0 : (rHead bs p).2.2.1 = 0
  · rw [if_pos h0] at h ⊢
    have hh := rHead_facts bs p h0
    simp only at h ⊢
    have hle := rHead_le bs p hp h0
    have hmk : (mk (rHead bs p).1 (rHead bs p).2.1).2 = 0 ∧ p + (putN (mk (rHead bs p).1 (rHead bs p).2.1).1.toNat).length ≤ (rHead bs p).2.2.2 := by
      unfold rHead at h0 ⊢
      by_cases hg : (M.get (bs.drop p)).2.2 = 0
      · rw [if_pos hg] at h0 ⊢
        simp only at h0 ⊢
        have hse := spl_err ((M.get (bs.drop p)).1 : Int)
        have hms := mk_spl (n := ((M.get (bs.drop p)).1 : Int)) (by omega)
        rw [hms]
        have hl := put_get_len _ hg
        simp only [Int.toNat_natCast]
        exact ⟨trivial, by omega⟩
      · rw [if_neg hg] at h0; exact absurd h0 hg
    generalize (rHead bs p).2.2.2 = r at *
    generalize hw0 : (rHead bs p).2.1 = w at *
    generalize (rHead bs p).1 = num at *
    obtain ⟨hm, hlm⟩ := hmk
    obtain ⟨-, -, hw, -⟩ := hh
    have hd : (bs.drop r).length = bs.length - r := List.length_drop
    rcases hw with rfl | rfl | rfl | rfl
    · have hv : rVal 0 bs r = (if (M.get (bs.drop r)).2.2 = 0 then (M.get (bs.drop r)).1 else 0, [], (M.get (bs.drop r)).2.2, plc (M.get (bs.drop r)).2.2 r (r + (M.get (bs.drop r)).2.1)) := by unfold rVal; rw [if_pos rfl]
      rw [hv] at h ⊢
      simp only at h ⊢
      have hl := put_get_len _ h
      rw [h]
      refine ⟨by rw [if_neg (by omega), if_neg (by omega)], by rw [if_neg (by omega), if_neg (by omega)], rfl, ?_⟩
      simp only [pTail, plc, if_true, List.length_append]
      omega
    · have hv : rVal 1 bs r = (if (rFix 8 bs r).2.1 = 0 then (rFix 8 bs r).1 else 0, [], (rFix 8 bs r).2.1, plc (rFix 8 bs r).2.1 r (rFix 8 bs r).2.2) := by unfold rVal; rw [if_neg (by omega), if_pos rfl]
      rw [hv] at h ⊢
      simp only at h ⊢
      rw [h]
      refine ⟨by rw [if_neg (by omega), if_neg (by omega)], by rw [if_neg (by omega), if_neg (by omega)], rfl, ?_⟩
      have h2 : (rFix 8 bs r).2.2 = r + 8 := by
        unfold rFix at h ⊢
        split
        · rename_i hx; rw [if_pos hx] at h; simp at h
        · rfl
      simp only [pTail, plc, if_true, List.length_append, h2]
      rw [if_neg (by omega), length_fixN]
      omega
    · have hv : rVal 2 bs r = (0, if (rCount 8192 bs r).2.1 = 0 then (rCount 8192 bs r).1 else [], (rCount 8192 bs r).2.1, plc (rCount 8192 bs r).2.1 r (rCount 8192 bs r).2.2) := by unfold rVal; rw [if_neg (by omega), if_neg (by omega), if_pos rfl]
      rw [hv] at h ⊢
      simp only at h ⊢
      rw [h]
      simp only [if_true, plc]
      have hc : (rCount 8192 bs r).1.length ≤ 8192 ∧ r + (putN (rCount 8192 bs r).1.length ++ (rCount 8192 bs r).1).length ≤ (rCount 8192 bs r).2.2 := by
        unfold rCount at h ⊢
        by_cases g1 : (M.get (bs.drop r)).2.2 ≠ 0
        · rw [if_pos g1] at h; exact absurd h g1
        · rw [if_neg g1] at h ⊢
          by_cases g2 : (8192 : Int) < 0 ∨ (8192 : Int) < ((M.get (bs.drop r)).1 : Int)
          · rw [if_pos g2] at h; simp at h
          · rw [if_neg g2] at h ⊢
            have hl := put_get_len _ (show (M.get (bs.drop r)).2.2 = 0 by omega)
            have hgf := M.get_facts (bs.drop r)
            by_cases g3 : ((bs.length - (r + (M.get (bs.drop r)).2.1) : Nat) : Int) < ((M.get (bs.drop r)).1 : Int)
            · rw [rTake_short (by omega) g3] at h; simp at h
            · rw [rTake_ok (by omega) g3]
              simp only [Int.toNat_natCast]
              have hlen : ((bs.drop (r + (M.get (bs.drop r)).2.1)).take (M.get (bs.drop r)).1).length = (M.get (bs.drop r)).1 := by rw [List.length_take, List.length_drop]; omega
              rw [List.length_append, hlen]
              omega
      refine ⟨by rw [if_neg (by omega), if_neg (by omega)], trivial, trivial, ?_⟩
      have ht : pTail 2 0 (rCount 8192 bs r).1 = putN (rCount 8192 bs r).1.length ++ (rCount 8192 bs r).1 := rfl
      rw [ht, List.length_append]
      omega
    · have hv : rVal 5 bs r = (if (rFix 4 bs r).2.1 = 0 then (rFix 4 bs r).1 else 0, [], (rFix 4 bs r).2.1, plc (rFix 4 bs r).2.1 r (rFix 4 bs r).2.2) := by unfold rVal; rw [if_neg (by omega), if_neg (by omega), if_neg (by omega)]
      have h5 := rFix4_lt bs r
      rw [hv] at h h5 ⊢
      simp only at h h5 ⊢
      have h2 : (rFix 4 bs r).2.2 = r + 4 := by
        unfold rFix at h ⊢
        split
        · rename_i hx; rw [if_pos hx] at h; simp at h
        · rfl
      rw [h] at h5 ⊢
      simp only [if_true] at h5 ⊢
      refine ⟨by rw [if_neg (by omega), if_neg (by omega)], by rw [if_neg (by omega)]; omega, rfl, ?_⟩
      have ht : ∀ n xs, pTail 5 n xs = fixN 4 (n % 4294967296) := fun _ _ => rfl
      rw [ht, List.length_append, length_fixN, h2]
      simp only [plc, if_true]
      omega
  · rw [if_neg h0] at h
    exact absurd h h0
/-- Where fields stand: each ends where the next one begins. -/
def At (bs : List UInt8) : List (RF × Nat) → Nat → Prop
  | [], _ => True
  | r :: rs, p => r = (rOne bs p, p) ∧ p < bs.length ∧ (rOne bs p).e = 0 ∧ At bs rs (rOne bs p).nx
end Go.Proofs.Ytmcebepfoleknaa
