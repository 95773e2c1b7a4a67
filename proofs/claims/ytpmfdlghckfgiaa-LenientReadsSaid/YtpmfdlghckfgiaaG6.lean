/- A writer in a block, and what its methods do. · skip.put: a field's bytes behind bytes. · skip.Put in one piece. · skip.Put of few fields with long bytes. · skip.End. · The fields of bytes: shifted; of bytes that were put; of fields that were read. · encode.parts: the fields of a field that has something. · skip.own, and the functions of Of and Without. · skip.Of, skip.Without, skip.Last. · skip.Last. · What must be whatever is asked: layer 6. · What was read: numbers, lengths, places; End by the fields' words. · Fields alike; few fields. · The document's Same of fields. · encode.parts of a text. · encode.parts of a number with a sign. · encode.parts of a list. · encode.parts of a list: the walk. · encode.Field. · A field's bytes, in the document's words. · A range over a function of which the iterator's own memory ends where it says itself, and whose arguments are told by a relation. · encode.each: the bytes of a message's fields, one by one. · encode.Bytes. · The document's Field. · What a message's bytes say: plain mathematics. · The document's Bytes. · encode.Bytes and Size as plain contracts; the examples' messages. · What must be whatever is asked: layer 10; and of the theorem through the layers of stage 5. · How long a message's bytes are at most, and in which order its fields stand: plain mathematics. · Layer 11: what a field sets of a message; lenient's placed, number, text. · Reading a message: mathematics. · A message of which one field has nothing: plain mathematics. · A message behind the parts of another one; a message read may be: mathematics. · To which of a message's fields one of bytes belongs: lenient.owner. · The document's Belongs. · lenient.each as an iterator. · A message that is read may be: mathematics. -/
import Derived.Test.YtpmfdlghckfgiaaProg
import Derived.Test.YtpmfdlghckfgiaaG0
import Derived.Test.YtpmfdlghckfgiaaSk1
import Derived.Test.YtpmfdlghckfgiaaM4
import Derived.Test.YtpmfdlghckfgiaaG3
import Derived.Lib.ConvBytes
import Derived.Laws.AppendOwn
import Derived.Test.YtpmfdlghckfgiaaM5
import Derived.Deep.QuietTactic
import Derived.BigQuiet
import Derived.Shelf.RegionOpen
import Derived.Sort.QuietIn
set_option linter.unusedVariables false
namespace Go.Proofs.Ytpmfdlghckfgiaa
open Go.RowKit
theorem own_blk_ne {w : World} {B e s n q : Nat} {t : TypeId} {v : Value} {xs : List Value} {cs : Array Value} (h : w.ownsRow B e s v n xs) (hb : Blk w q t cs) (hne : t ≠ e) : v.ownBlock ≠ some q := by
  rcases h.2 with ⟨rfl, _⟩ | ⟨g, c, cur, rfl, _, hg, _⟩
  · simp [Value.ownBlock]
  · intro he
    have hgq : g = q := by simpa [Value.ownBlock] using he
    subst hgq
    rw [show w.heap[g]? = _ from hb] at hg
    injection hg with hg
    injection hg with _ ht
    exact hne ht
/-- The blocks of a writer. -/
def Oset (q : Nat) (v : Value) (k : Nat) : Prop := k = q ∨ v.ownBlock = some k
/-- What a write does to memory. -/
structure Stp (q : Nat) (v v' : Value) (n : Nat) (w w' : World) : Prop where
  chg : Chg (Oset q v) w w'
  new : NewOr w v v'
  views : Views 5 v n w w'
section
variable {w w1 w2 : World} {B q : Nat} {v v1 v2 : Value} {bs : List UInt8} {most n n1 : Nat}
theorem NewOr.trans (h : NewOr w v v1) (k : NewOr w1 v1 v2) (hz : w.heap.size ≤ w1.heap.size) : NewOr w v v2 := by
  rcases k with k | k
  · rcases h with h | h
    · exact .inl (k.trans h)
    · exact .inr fun g hg => h g (k ▸ hg)
  · exact .inr fun g hg => Nat.le_trans hz (k g hg)
theorem Oset.back (h : NewOr w v v1) {k : Nat} (hk : k < w.heap.size) (ho : Oset q v1 k) : Oset q v k := by
  rcases ho with ho | ho
  · exact .inl ho
  · rcases h with h | h
    · exact .inr (h ▸ ho)
    · have := h k ho; omega
theorem Stp.refl (q : Nat) (v : Value) (n : Nat) (w : World) : Stp q v v n w w := ⟨.refl _ _, .inl rfl, fun _ _ _ _ h _ => h⟩
theorem Stp.trans (h : Stp q v v1 n w w1) (k : Stp q v1 v2 n1 w1 w2) (hn : n ≤ n1) : Stp q v v2 n w w2 := by
  refine ⟨?_, h.new.trans k.new h.chg.size, ?_⟩
  · refine ⟨k.chg.os.trans h.chg.os, k.chg.tape.trans h.chg.tape, k.chg.output.trans h.chg.output, Nat.le_trans h.chg.size k.chg.size, fun i hi hq => ?_⟩
    rw [k.chg.block i (Nat.lt_of_lt_of_le hi h.chg.size) fun ho => hq (ho.back h.new hi)]
    exact h.chg.block i hi hq
  · intro B v0 n0 xs0 h0 hle
    refine k.views B v0 n0 xs0 (h.views B v0 n0 xs0 h0 hle) fun hne he => ?_
    rcases h.new with hv | hv
    · exact Nat.le_trans (hle hne (he.trans hv)) hn
    · exfalso
      cases hb : v0.ownBlock with
      | none => exact hne hb
      | some g =>
        have h1 := (h0.lt g hb).2
        have h2 := hv g (by rw [← he, hb])
        omega
theorem Stp.of_new (h : Below w.heap.size w w1) : Stp q v v n w w1 := ⟨.of_new h, .inl rfl, views_kept h⟩
end
end Go.Proofs.Ytpmfdlghckfgiaa
set_option linter.unusedVariables false
namespace Go.Proofs.Ytpmfdlghckfgiaa
open Go.RowKit
def pTail (x : Int) (n : Nat) (xs : List UInt8) : List UInt8 := if x = 0 then putN n else if x = 1 then fixN 8 n else if x = 2 then putN xs.length ++ xs else fixN 4 (n % 4294967296)
def pErr (num x : Int) (xs : List UInt8) : Nat := if (mk num x).2 ≠ 0 then (mk num x).2.toNat else if x = 2 ∧ 8192 < xs.length then 2 else 0
def pB (num x : Int) (n : Nat) (xs : List UInt8) : List UInt8 := putN (mk num x).1.toNat ++ pTail x n xs
/-- What put keeps. -/
structure PS (w : World) (B z : Nat) (fs : Array Value) (A : Option Addr) (c : Nat) (xs : List UInt8) (v : Value) (n : Nat) (bs : List UInt8) (W : World) : Prop where
  own : W.ownsRow B 5 1 v n (bs.map bv)
  fld : Blk W z 50 fs
  src : Sl W A c (xs.map bv)
  bel : Below B w W
theorem PS.new {w : World} {B z : Nat} {fs : Array Value} {A : Option Addr} {c : Nat} {xs : List UInt8} {v : Value} {n : Nat} {bs : List UInt8} {W W' : World} (h : PS w B z fs A c xs v n bs W) (hB : B ≤ W.heap.size) (hb : Below W.heap.size W W') : PS w B z fs A c xs v n bs W' :=
  ⟨own_below h.own hb, h.fld.below hb h.fld.lt, h.src.below hb, h.bel.trans (hb.mono hB)⟩
end Go.Proofs.Ytpmfdlghckfgiaa
set_option linter.unusedVariables false
namespace Go.Proofs.Ytpmfdlghckfgiaa
open Go.RowKit
/-- A field that may be handed in. -/
structure FvOk (w : World) (f : FV) : Prop where
  w0 : 0 ≤ f.w
  w1 : f.w ≤ 255
  n : f.n ≤ 18446744073709551615
  n1 : -9223372036854775808 ≤ f.num
  n2 : f.num ≤ 9223372036854775807
  a1 : -9223372036854775808 ≤ f.at_
  a2 : f.at_ ≤ 9223372036854775807
  s : Sl w f.s.A f.s.c (f.s.xs.map bv)
def pErrF (f : FV) : Nat := pErr f.num f.w f.s.xs
def pBF (f : FV) : List UInt8 := pB f.num f.w f.n f.s.xs
end Go.Proofs.Ytpmfdlghckfgiaa
set_option linter.unusedVariables false
namespace Go.Proofs.Ytpmfdlghckfgiaa
open Go.RowKit
end Go.Proofs.Ytpmfdlghckfgiaa
set_option linter.unusedVariables false
namespace Go.Proofs.Ytpmfdlghckfgiaa
open Go.RowKit
theorem rHead_le (bs : List UInt8) (p : Nat) (hp : p ≤ bs.length) (h : (rHead bs p).2.2.1 = 0) : (rHead bs p).2.2.2 ≤ bs.length := by
  unfold rHead at h ⊢
  have hg := M.get_facts (bs.drop p)
  have hd : (bs.drop p).length = bs.length - p := List.length_drop
  split
  · rename_i h0
    rw [if_pos h0] at h
    have h2 := (hg.1 h0).2.2.1
    simp only
    omega
  · exact hp
end Go.Proofs.Ytpmfdlghckfgiaa
set_option linter.unusedVariables false
namespace Go.Proofs.Ytpmfdlghckfgiaa
/-- What a field's wire type has. -/
def bareN (f : FV) : Nat := if f.w = 2 then 0 else if f.w = 5 then f.n % 4294967296 else f.n
def bareX (f : FV) : List UInt8 := if f.w = 2 then f.s.xs else []
section
variable {E pre rest : List UInt8} {p : Nat}
end
/-- Fields as values, one by one. -/
theorem fvAll_get {fs : List FV} {rs : List (RF × Nat)} (h : fvAll fs rs) (k : Nat) (hk : k < fs.length) (hk2 : k < rs.length) : fvOf fs[k] rs[k] := by
  induction fs generalizing rs k with
  | nil => simp at hk
  | cons f fs ih => cases rs with
    | nil => exact h.elim
    | cons r rs => cases k with
      | zero => exact h.1
      | succ k => exact ih h.2 k (by simpa using hk) (by simpa using hk2)
theorem put_get_len (b : List UInt8) (h : (M.get b).2.2 = 0) : (putN (M.get b).1).length ≤ (M.get b).2.1 := by
  obtain ⟨v, hv, hs, -⟩ := put_getF b 0 0 (by omega) (by simp) h
  have hv2 : (M.get b).1 = v := by unfold M.get; rw [hv]; simp
  rw [hv2, putN_size]
  have : 0 + sizeN v ≤ (M.get b).2.1 := hs
  omega
/-- A field that was read: it can be put, has just what its wire type has, and is no longer. -/
theorem again_one (f : FV) (bs : List UInt8) (p : Nat) (hp : p ≤ bs.length) (h : (rOne bs p).e = 0) (hf : fvOf f (rOne bs p, p)) : pErrF f = 0 ∧ bareN f = f.n ∧ bareX f = f.s.xs ∧ p + (pBF f).length ≤ (rOne bs p).nx := by
  obtain ⟨f1, f2, f3, f4, -⟩ := hf
  simp only at f1 f2 f3 f4
  unfold bareN bareX pErrF pErr pBF pB
  rw [f1, f2, f3, f4]
  clear f1 f2 f3 f4
  unfold rOne at h ⊢
  by_cases h0 : (rHead bs p).2.2.1 = 0
  · rw [if_pos h0] at h ⊢
    have hh := rHead_facts bs p h0
    simp only at h ⊢
    have hle := rHead_le bs p hp h0
    have hmk : (mk (rHead bs p).1 (rHead bs p).2.1).2 = 0 ∧ p + (putN (mk (rHead bs p).1 (rHead bs p).2.1).1.toNat).length ≤ (rHead bs p).2.2.2 := by
      unfold rHead at h0 ⊢
      by_cases hg : (M.get (bs.drop p)).2.2 = 0
      · rw [if_pos hg] at h0 ⊢
        simp only at h0 ⊢
        have hse := spl_err ((M.get (bs.drop p)).1 : Int)
        have hms := mk_spl (n := ((M.get (bs.drop p)).1 : Int)) (by omega)
        rw [hms]
        have hl := put_get_len _ hg
        simp only [Int.toNat_natCast]
        exact ⟨trivial, by omega⟩
      · rw [if_neg hg] at h0; exact absurd h0 hg
    generalize (rHead bs p).2.2.2 = r at *
    generalize hw0 : (rHead bs p).2.1 = w at *
    generalize (rHead bs p).1 = num at *
    obtain ⟨hm, hlm⟩ := hmk
    obtain ⟨-, -, hw, -⟩ := hh
    have hd : (bs.drop r).length = bs.length - r := List.length_drop
    rcases hw with rfl | rfl | rfl | rfl
    · have hv : rVal 0 bs r = (if (M.get (bs.drop r)).2.2 = 0 then (M.get (bs.drop r)).1 else 0, [], (M.get (bs.drop r)).2.2, plc (M.get (bs.drop r)).2.2 r (r + (M.get (bs.drop r)).2.1)) := by unfold rVal; rw [if_pos rfl]
      rw [hv] at h ⊢
      simp only at h ⊢
      have hl := put_get_len _ h
      rw [h]
      refine ⟨by rw [if_neg (by omega), if_neg (by omega)], by rw [if_neg (by omega), if_neg (by omega)], rfl, ?_⟩
      simp only [pTail, plc, if_true, List.length_append]
      omega
    · have hv : rVal 1 bs r = (if (rFix 8 bs r).2.1 = 0 then (rFix 8 bs r).1 else 0, [], (rFix 8 bs r).2.1, plc (rFix 8 bs r).2.1 r (rFix 8 bs r).2.2) := by unfold rVal; rw [if_neg (by omega), if_pos rfl]
      rw [hv] at h ⊢
      simp only at h ⊢
      rw [h]
      refine ⟨by rw [if_neg (by omega), if_neg (by omega)], by rw [if_neg (by omega), if_neg (by omega)], rfl, ?_⟩
      have h2 : (rFix 8 bs r).2.2 = r + 8 := by
        unfold rFix at h ⊢
        split
        · rename_i hx; rw [if_pos hx] at h; simp at h
        · rfl
      simp only [pTail, plc, if_true, List.length_append, h2]
      rw [if_neg (by omega), length_fixN]
      omega
    · have hv : rVal 2 bs r = (0, if (rCount 8192 bs r).2.1 = 0 then (rCount 8192 bs r).1 else [], (rCount 8192 bs r).2.1, plc (rCount 8192 bs r).2.1 r (rCount 8192 bs r).2.2) := by unfold rVal; rw [if_neg (by omega), if_neg (by omega), if_pos rfl]
      rw [hv] at h ⊢
      simp only at h ⊢
      rw [h]
      simp only [if_true, plc]
      have hc : (rCount 8192 bs r).1.length ≤ 8192 ∧ r + (putN (rCount 8192 bs r).1.length ++ (rCount 8192 bs r).1).length ≤ (rCount 8192 bs r).2.2 := by
        unfold rCount at h ⊢
        by_cases g1 : (M.get (bs.drop r)).2.2 ≠ 0
        · rw [if_pos g1] at h; exact absurd h g1
        · rw [if_neg g1] at h ⊢
          by_cases g2 : (8192 : Int) < 0 ∨ (8192 : Int) < ((M.get (bs.drop r)).1 : Int)
          · rw [if_pos g2] at h; simp at h
          · rw [if_neg g2] at h ⊢
            have hl := put_get_len _ (show (M.get (bs.drop r)).2.2 = 0 by omega)
            have hgf := M.get_facts (bs.drop r)
            by_cases g3 : ((bs.length - (r + (M.get (bs.drop r)).2.1) : Nat) : Int) < ((M.get (bs.drop r)).1 : Int)
            · rw [rTake_short (by omega) g3] at h; simp at h
            · rw [rTake_ok (by omega) g3]
              simp only [Int.toNat_natCast]
              have hlen : ((bs.drop (r + (M.get (bs.drop r)).2.1)).take (M.get (bs.drop r)).1).length = (M.get (bs.drop r)).1 := by rw [List.length_take, List.length_drop]; omega
              rw [List.length_append, hlen]
              omega
      refine ⟨by rw [if_neg (by omega), if_neg (by omega)], trivial, trivial, ?_⟩
      have ht : pTail 2 0 (rCount 8192 bs r).1 = putN (rCount 8192 bs r).1.length ++ (rCount 8192 bs r).1 := rfl
      rw [ht, List.length_append]
      omega
    · have hv : rVal 5 bs r = (if (rFix 4 bs r).2.1 = 0 then (rFix 4 bs r).1 else 0, [], (rFix 4 bs r).2.1, plc (rFix 4 bs r).2.1 r (rFix 4 bs r).2.2) := by unfold rVal; rw [if_neg (by omega), if_neg (by omega), if_neg (by omega)]
      have h5 := rFix4_lt bs r
      rw [hv] at h h5 ⊢
      simp only at h h5 ⊢
      have h2 : (rFix 4 bs r).2.2 = r + 4 := by
        unfold rFix at h ⊢
        split
        · rename_i hx; rw [if_pos hx] at h; simp at h
        · rfl
      rw [h] at h5 ⊢
      simp only [if_true] at h5 ⊢
      refine ⟨by rw [if_neg (by omega), if_neg (by omega)], by rw [if_neg (by omega)]; omega, rfl, ?_⟩
      have ht : ∀ n xs, pTail 5 n xs = fixN 4 (n % 4294967296) := fun _ _ => rfl
      rw [ht, List.length_append, length_fixN, h2]
      simp only [plc, if_true]
      omega
  · rw [if_neg h0] at h
    exact absurd h h0
/-- Fields that were read. -/
theorem again_all (bs : List UInt8) : ∀ (fu p : Nat) (fs : List FV), p ≤ bs.length → (flds bs fu p).2.1 = 0 → fvAll fs (flds bs fu p).1 → (∀ f ∈ fs, pErrF f = 0 ∧ bareN f = f.n ∧ bareX f = f.s.xs) ∧ p + (fs.flatMap pBF).length ≤ bs.length
  | 0, p, fs, hp, _, hf => by
    cases fs with
    | nil => simpa using hp
    | cons f fs => exact hf.elim
  | fu + 1, p, fs, hp, he, hf => by
    rw [flds] at he hf
    by_cases h1 : bs.length ≤ p
    · rw [if_pos h1] at hf
      cases fs with
      | nil => simpa using hp
      | cons f fs => exact hf.elim
    · rw [if_neg h1] at he hf
      by_cases h2 : (rOne bs p).e = 0
      · rw [if_pos h2] at he hf
        simp only at he hf
        cases fs with
        | nil => exact hf.elim
        | cons f fs =>
          have hn := (rOne_facts bs p hp).1 h2
          obtain ⟨a1, a2, a3, a4⟩ := again_one f bs p hp h2 hf.1
          obtain ⟨b1, b2⟩ := again_all bs fu (rOne bs p).nx fs hn.2.1 he hf.2
          refine ⟨fun g hg => ?_, ?_⟩
          · rcases List.mem_cons.1 hg with rfl | hg
            · exact ⟨a1, a2, a3⟩
            · exact b1 g hg
          · rw [List.flatMap_cons, List.length_append]; omega
      · rw [if_neg h2] at he
        exact absurd he h2
/-- Where fields stand: each ends where the next one begins. -/
def At (bs : List UInt8) : List (RF × Nat) → Nat → Prop
  | [], _ => True
  | r :: rs, p => r = (rOne bs p, p) ∧ p < bs.length ∧ (rOne bs p).e = 0 ∧ At bs rs (rOne bs p).nx
end Go.Proofs.Ytpmfdlghckfgiaa
set_option linter.unusedVariables false
namespace Go.Proofs.Ytpmfdlghckfgiaa
open Go.RowKit
/-- What a field's parts are: number, wire type, number held, bytes. -/
def partW (m : MV) (num t i : Int) : List (Int × Int × Nat × List UInt8) := if t = 10 then m.l.map (fun s => (num, 2, 0, s.data.toList)) else if 7 ≤ t ∧ t ≤ 9 then [(num, 2, 0, (m.text i).data.toList)] else if t = 3 then [(num, 0, (zig (wrap64 (m.num i : Nat))).toNat, [])] else [(num, (wireN t : Nat), m.num i, [])]
end Go.Proofs.Ytpmfdlghckfgiaa
set_option linter.unusedVariables false
namespace Go.Proofs.Ytpmfdlghckfgiaa
open Go.RowKit
/-- A field without its memory. -/
def fvK (f : FV) : Int × Int × Nat × List UInt8 × Int := (f.num, f.w, f.n, f.s.xs, f.at_)
end Go.Proofs.Ytpmfdlghckfgiaa
set_option linter.unusedVariables false
namespace Go.Proofs.Ytpmfdlghckfgiaa
open Go.RowKit
theorem FvOk.below {w w' : World} {f : FV} (h : FvOk w f) (hb : Below w.heap.size w w') : FvOk w' f := ⟨h.w0, h.w1, h.n, h.n1, h.n2, h.a1, h.a2, h.s.below hb⟩
end Go.Proofs.Ytpmfdlghckfgiaa
set_option linter.unusedVariables false
namespace Go.Proofs.Ytpmfdlghckfgiaa
open Go.RowKit
end Go.Proofs.Ytpmfdlghckfgiaa
set_option linter.unusedVariables false
namespace Go.Proofs.Ytpmfdlghckfgiaa
open Go.RowKit
theorem sln_own {w : World} {base e size n : Nat} {v : Value} {xs : List Value} (hsz : 0 < size) (h : w.ownsRow base e size v n xs) : ∃ A c, v = .slice A n c ∧ SlN w A n c size xs := by
  rcases h.2 with ⟨rfl, rfl⟩ | ⟨g, cap, cur, rfl, hb, hg, hnc, hcm, hcs, htake⟩
  · have hx : xs = [] := List.eq_nil_of_length_eq_zero (by simpa using h.1)
    subst hx
    exact ⟨none, 0, rfl, ⟨by simp, by omega, by omega, fun _ => rfl, Rd.nil_ w _⟩⟩
  · refine ⟨_, cap, rfl, ⟨h.1, hnc, hcm, (fun h => by cases h), fun k u hk => ⟨g, 0, rfl, (Array.getElem?_eq_some_iff.1 hg).1, ?_⟩⟩⟩
    have := h.cells (g := g) rfl k u hk
    rwa [addr_add] at this
theorem sl_lit (w : World) (t : TypeId) (bs : List UInt8) (cs : Array Value) (n : Nat) (hn : bs.length = n) (hm : n ≤ 9223372036854775807) (h : cs.toList = bs.map bv) : Sl (w.alloc (.cells cs t)) (some ⟨w.heap.size, 0, none⟩) n (bs.map bv) :=
  ⟨by simp [hn], hm, (fun h => by cases h), by rw [← h]; exact Rd.new w t cs⟩
/-- The two fields. -/
def L6 (A1 : Option Addr) (c1 : Nat) (A2 : Option Addr) (c2 : Nat) : List FV := [⟨1, 0, 5, ⟨A1, c1, []⟩, 0⟩, ⟨2, 2, 0, ⟨A2, c2, [97]⟩, 2⟩]
structure L6Ok (w : World) (Al : Option Addr) (cl : Nat) (A1 : Option Addr) (c1 : Nat) (A2 : Option Addr) (c2 : Nat) : Prop where
  sl : SlN w Al 2 cl 5 ((L6 A1 c1 A2 c2).flatMap fvC)
  ok : ∀ f ∈ L6 A1 c1 A2 c2, FvOk w f
theorem L6Ok.below {w w' : World} {Al A1 A2 : Option Addr} {cl c1 c2 : Nat} (h : L6Ok w Al cl A1 c1 A2 c2) (hb : Below w.heap.size w w') : L6Ok w' Al cl A1 c1 A2 c2 := ⟨h.sl.below hb, fun f hf => (h.ok f hf).below hb⟩
section
variable {w : World} {Al A1 A2 : Option Addr} {cl c1 c2 : Nat}
end
end Go.Proofs.Ytpmfdlghckfgiaa
set_option linter.unusedVariables false
namespace Go.Proofs.Ytpmfdlghckfgiaa
open Go.RowKit
/-- What may be of a field that was read of n bytes. -/
def ReadOk (n : Nat) (f : FV) : Prop := 0 ≤ f.w ∧ f.w ≤ 255 ∧ f.n ≤ 18446744073709551615 ∧ 1 ≤ f.num ∧ f.num ≤ 536870911 ∧ 0 ≤ f.at_ ∧ f.at_ ≤ n ∧ f.s.xs.length ≤ n
theorem read_ok (bs : List UInt8) : ∀ (fu p : Nat) (fs : List FV), p ≤ bs.length → fvAll fs (flds bs fu p).1 → fs.length + p ≤ bs.length ∧ ∀ f ∈ fs, ReadOk bs.length f
  | 0, p, fs, hp, hf => by
    cases fs with
    | nil => exact ⟨by simpa using hp, fun f hf => by simp at hf⟩
    | cons f fs => exact hf.elim
  | fu + 1, p, fs, hp, hf => by
    rw [flds] at hf
    by_cases h1 : bs.length ≤ p
    · rw [if_pos h1] at hf
      cases fs with
      | nil => exact ⟨by simpa using hp, fun f hf => by simp at hf⟩
      | cons f fs => exact hf.elim
    · rw [if_neg h1] at hf
      by_cases h2 : (rOne bs p).e = 0
      · rw [if_pos h2] at hf
        cases fs with
        | nil => exact ⟨by simpa using hp, fun f hf => by simp at hf⟩
        | cons f fs =>
          have hn := rOne_facts bs p hp
          obtain ⟨n1, n2, n3, n4, n5⟩ := hn.1 h2
          obtain ⟨a1, a2, a3, a4⟩ := again_one f bs p hp h2 hf.1
          obtain ⟨b1, b2⟩ := read_ok bs fu (rOne bs p).nx fs n2 hf.2
          obtain ⟨f1, f2, f3, f4, f5⟩ := hf.1
          simp only at f1 f2 f3 f4 f5
          refine ⟨by rw [List.length_cons]; omega, fun g hg => ?_⟩
          rcases List.mem_cons.1 hg with rfl | hg
          · have hx : g.s.xs.length ≤ bs.length := by
              have hp2 : (pBF g).length = (putN (mk g.num g.w).1.toNat).length + (pTail g.w g.n g.s.xs).length := by unfold pBF pB; rw [List.length_append]
              by_cases hw : g.w = 2
              · have ht : pTail g.w g.n g.s.xs = putN g.s.xs.length ++ g.s.xs := by rw [hw]; rfl
                rw [ht, List.length_append] at hp2
                omega
              · unfold bareX at a3
                rw [if_neg hw] at a3
                rw [← a3]; simp
            refine ⟨by rw [f2]; omega, by rw [f2]; omega, by rw [f3]; exact hn.2, by rw [f1]; exact n3, by rw [f1]; exact n4, by rw [f5]; omega, by rw [f5]; omega, hx⟩
          · exact b2 g hg
      · rw [if_neg h2] at hf
        cases fs with
        | nil => exact ⟨by simpa using hp, fun f hf => by simp at hf⟩
        | cons f fs => exact hf.elim
end Go.Proofs.Ytpmfdlghckfgiaa
set_option linter.unusedVariables false
namespace Go.Proofs.Ytpmfdlghckfgiaa
open Go.RowKit
def likeB (f g : FV) : Bool := decide (f.num = g.num ∧ f.w = g.w ∧ f.n = g.n ∧ f.s.xs = g.s.xs)
set_option maxRecDepth 100000 in
set_option maxHeartbeats 2000000 in
theorem like_any (f g : FV) (w : World) (hf : Sl w f.s.A f.s.c (f.s.xs.map bv)) (hg : Sl w g.s.A g.s.c (g.s.xs.map bv)) :
    Calls Try.prog 21 #[.agg (fvC f).toArray, .agg (fvC g).toArray] w fun e w' => e = .returned (.bool (likeB f g)) ∧ Below w.heap.size w w' := by
  obtain ⟨fnum, fw, fn_, ⟨fA, fc, fxs⟩, fat⟩ := f
  obtain ⟨gnum, gw, gn_, ⟨gA, gc, gxs⟩, gat⟩ := g
  simp only at hf hg
  have hlf : fxs.length ≤ 9223372036854775807 := by have h1 := hf.cap; have h2 := hf.small; rw [List.length_map] at h1; omega
  have hsm := fun W (hW : Below w.heap.size w W) => same_any fxs gxs fA gA fc gc W hlf (hf.below hW).rd (hg.below hW).rd
  obtain ⟨R, hR⟩ : ∃ R : Ending → World → Prop, R = fun e w' => e = .returned (.bool (likeB ⟨fnum, fw, fn_, ⟨fA, fc, fxs⟩, fat⟩ ⟨gnum, gw, gn_, ⟨gA, gc, gxs⟩, gat⟩)) ∧ Below w.heap.size w w' := ⟨_, rfl⟩
  rw [← hR]
  have HR := hid hR
  have HSM := hid hsm
  clear hR hsm hf hg
  have hbb := bw_a (bw_a (Below.refl w.heap.size w) (.cells #[.int .i64 fnum, .int .u8 fw, .int .u64 (fn_ : Int), .slice fA fxs.length fc, .int .i64 fat] 50)) (.cells #[.int .i64 gnum, .int .u8 gw, .int .u64 (gn_ : Int), .slice gA gxs.length gc, .int .i64 gat] 50)
  have HB := hid hbb
  clear hbb
  simp only [fvC]
  by_cases h1 : fnum = gnum
  · subst h1
    by_cases h2 : fw = gw
    · subst h2
      by_cases h3 : fn_ = gn_
      · subst h3
        go_enter Try.func21, Try.ntmps21
        go_wp2_with (go_at_call 37; refine (HSM.out _ HB.out).mono ?_; rintro e w2 ⟨rfl, hk⟩)
        rw [HR.out]
        obtain ⟨k, rfl⟩ := hk
        exact ⟨by simp [likeB], bw_d HB.out k⟩
      · have h3b : ((fn_ : Int) == (gn_ : Int)) = false := by simp; omega
        go_enter Try.func21, Try.ntmps21
        go_wp2_with fail
        rw [HR.out]
        exact ⟨by simp [likeB, h3], HB.out⟩
    · have h2b : (fw == gw) = false := by simpa using h2
      go_enter Try.func21, Try.ntmps21
      go_wp2_with fail
      rw [HR.out]
      exact ⟨by simp [likeB, h2], HB.out⟩
  · have h1b : (fnum == gnum) = false := by simpa using h1
    go_enter Try.func21, Try.ntmps21
    go_wp2_with fail
    rw [HR.out]
    exact ⟨by simp [likeB, h1], HB.out⟩
end Go.Proofs.Ytpmfdlghckfgiaa
set_option linter.unusedVariables false
namespace Go.Proofs.Ytpmfdlghckfgiaa
open Go.RowKit
theorem likeK (f g : FV) : (likeB f g = true ∧ f.at_ = g.at_) ↔ fvK f = fvK g := by
  unfold likeB fvK
  simp only [decide_eq_true_eq, Prod.mk.injEq]
  constructor
  · rintro ⟨⟨h1, h2, h3, h4⟩, h5⟩; exact ⟨h1, h2, h3, h4, h5⟩
  · rintro ⟨h1, h2, h3, h4, h5⟩; exact ⟨⟨h1, h2, h3, h4⟩, h5⟩
theorem held10 {w w' : World} (hc : Below w.heap.size w w') {p0 p1 p2 p3 p4 p5 p6 p7 p8 p9 : Addr} {x0 x1 x2 x3 x4 x5 x6 x7 x8 x9 : Value} (h : w.cell? p0 = some x0 ∧ w.cell? p1 = some x1 ∧ w.cell? p2 = some x2 ∧ w.cell? p3 = some x3 ∧ w.cell? p4 = some x4 ∧ w.cell? p5 = some x5 ∧ w.cell? p6 = some x6 ∧ w.cell? p7 = some x7 ∧ w.cell? p8 = some x8 ∧ w.cell? p9 = some x9) : w'.cell? p0 = some x0 ∧ w'.cell? p1 = some x1 ∧ w'.cell? p2 = some x2 ∧ w'.cell? p3 = some x3 ∧ w'.cell? p4 = some x4 ∧ w'.cell? p5 = some x5 ∧ w'.cell? p6 = some x6 ∧ w'.cell? p7 = some x7 ∧ w'.cell? p8 = some x8 ∧ w'.cell? p9 = some x9 := by
  obtain ⟨h0, h1, h2, h3, h4, h5, h6, h7, h8, h9⟩ := h
  have f : ∀ (p : Addr) (x : Value), w.cell? p = some x → w'.cell? p = some x := fun p x h => (hc.cell (World.block_lt_of_cell? w p h)).trans h
  exact ⟨f _ _ h0, f _ _ h1, f _ _ h2, f _ _ h3, f _ _ h4, f _ _ h5, f _ _ h6, f _ _ h7, f _ _ h8, f _ _ h9⟩
set_option maxRecDepth 100000 in
set_option maxHeartbeats 4000000 in
theorem same6_any (l1 l2 : List FV) (m m2 : Nat) (A1 A2 : Option Addr) (c1 c2 : Nat) (w : World) (hm : l1.length = m) (hm2 : l2.length = m2) (hl1 : SlN w A1 m c1 5 (l1.flatMap fvC)) (hl2 : SlN w A2 m2 c2 5 (l2.flatMap fvC))
    (hs1 : ∀ f ∈ l1, Sl w f.s.A f.s.c (f.s.xs.map bv)) (hs2 : ∀ f ∈ l2, Sl w f.s.A f.s.c (f.s.xs.map bv)) (hE : l1.map fvK = l2.map fvK) :
    Calls Try.prog 11 #[.slice A1 m c1, .slice A2 m2 c2] w fun e w' => e = .returned (.bool true) ∧ Below w.heap.size w w' := by
  have hcm : m ≤ 9223372036854775807 := by have g1 := hl1.cap; have g2 := hl1.small; omega
  have hcm2 : m2 ≤ 9223372036854775807 := by have g1 := hl2.cap; have g2 := hl2.small; omega
  obtain ⟨R, hR⟩ : ∃ R : Ending → World → Prop, R = fun e w' => e = .returned (.bool true) ∧ Below w.heap.size w w' := ⟨_, rfl⟩
  rw [← hR]
  have HR := hid hR
  have HM := hid hm
  have HM2 := hid hm2
  have HL1 := hid hl1
  have HL2 := hid hl2
  have HS1 := hid hs1
  have HS2 := hid hs2
  clear hR hm hm2 hl1 hl2 hs1 hs2
  have hne : m = m2 := by have h1 := congrArg List.length hE; simp only [List.length_map] at h1; have := HM.out; have := HM2.out; omega
  have HE := hid hE
  clear hE
  have _ : True := trivial
  · subst hne
    go_enter Try.func11, Try.ntmps11
    go_wp2_with fail
    go_loopw [5] (fun i wr => ∃ j : Nat, j ≤ m ∧ i = .int .i64 (j : Int) ∧ (l1.take j).map fvK = (l2.take j).map fvK ∧ Below w.heap.size w wr) (fun i _ => m - (intOf i).toNat)
    case atStart => exact ⟨0, by omega, rfl, rfl, Below.refl _ _⟩
    case round =>
      obtain ⟨j, hj, rfl, heq, hB⟩ := hrel
      have HEQ := hid heq
      clear heq
      by_cases hlt : j < m
      · have hjl : j < l1.length := by have := HM.out; omega
        have hjl2 : j < l2.length := by have := HM2.out; omega
        have ha0 : (l1.flatMap fvC)[j * 5 + 0]? = _ := flatMap_get fvC 5 l1 j 0 hjl (fun _ _ => rfl) (by omega)
        have ha1 : (l1.flatMap fvC)[j * 5 + 1]? = _ := flatMap_get fvC 5 l1 j 1 hjl (fun _ _ => rfl) (by omega)
        have ha2 : (l1.flatMap fvC)[j * 5 + 2]? = _ := flatMap_get fvC 5 l1 j 2 hjl (fun _ _ => rfl) (by omega)
        have ha3 : (l1.flatMap fvC)[j * 5 + 3]? = _ := flatMap_get fvC 5 l1 j 3 hjl (fun _ _ => rfl) (by omega)
        have ha4 : (l1.flatMap fvC)[j * 5 + 4]? = _ := flatMap_get fvC 5 l1 j 4 hjl (fun _ _ => rfl) (by omega)
        have hb0 : (l2.flatMap fvC)[j * 5 + 0]? = _ := flatMap_get fvC 5 l2 j 0 hjl2 (fun _ _ => rfl) (by omega)
        have hb1 : (l2.flatMap fvC)[j * 5 + 1]? = _ := flatMap_get fvC 5 l2 j 1 hjl2 (fun _ _ => rfl) (by omega)
        have hb2 : (l2.flatMap fvC)[j * 5 + 2]? = _ := flatMap_get fvC 5 l2 j 2 hjl2 (fun _ _ => rfl) (by omega)
        have hb3 : (l2.flatMap fvC)[j * 5 + 3]? = _ := flatMap_get fvC 5 l2 j 3 hjl2 (fun _ _ => rfl) (by omega)
        have hb4 : (l2.flatMap fvC)[j * 5 + 4]? = _ := flatMap_get fvC 5 l2 j 4 hjl2 (fun _ _ => rfl) (by omega)
        have hsf := HS1.out l1[j] (List.getElem_mem hjl)
        have hsg := HS2.out l2[j] (List.getElem_mem hjl2)
        have hlk := fun W (hW : Below w.heap.size w W) => like_any l1[j] l2[j] W (hsf.below hW) (hsg.below hW)
        have hk := likeK l1[j] l2[j]
        have htk : (l1.take (j + 1)).map fvK = (l1.take j).map fvK ++ [fvK l1[j]] := by rw [List.take_succ_eq_append_getElem hjl, List.map_append]; rfl
        have htk2 : (l2.take (j + 1)).map fvK = (l2.take j).map fvK ++ [fvK l2[j]] := by rw [List.take_succ_eq_append_getElem hjl2, List.map_append]; rfl
        have hkk : fvK l1[j] = fvK l2[j] := by
          have e1 : (l1.map fvK)[j]? = some (fvK l1[j]) := by simp [List.getElem?_eq_getElem hjl]
          have e2 : (l2.map fvK)[j]? = some (fvK l2[j]) := by simp [List.getElem?_eq_getElem hjl2]
          rw [HE.out, e2] at e1
          exact (Option.some.inj e1).symm
        obtain ⟨b, off, rfl, hbl, t0⟩ := HL1.out.rd _ _ ha0
        have t1 := HL1.out.rd.addr _ _ ha1
        have t2 := HL1.out.rd.addr _ _ ha2
        have t3 := HL1.out.rd.addr _ _ ha3
        have t4 := HL1.out.rd.addr _ _ ha4
        obtain ⟨d, of2, rfl, hdl, u0⟩ := HL2.out.rd _ _ hb0
        have u1 := HL2.out.rd.addr _ _ hb1
        have u2 := HL2.out.rd.addr _ _ hb2
        have u3 := HL2.out.rd.addr _ _ hb3
        have u4 := HL2.out.rd.addr _ _ hb4
        rw [addr_add] at t1 t2 t3 t4 u1 u2 u3 u4
        simp only [Nat.add_zero, ← Nat.add_assoc] at t0 t1 t2 t3 t4 u0 u1 u2 u3 u4
        replace t0 := (hB.cell (p := ⟨b, off + j * 5, none⟩) hbl).trans t0
        replace t1 := (hB.cell (p := ⟨b, off + j * 5 + 1, none⟩) hbl).trans t1
        replace t2 := (hB.cell (p := ⟨b, off + j * 5 + 2, none⟩) hbl).trans t2
        replace t3 := (hB.cell (p := ⟨b, off + j * 5 + 3, none⟩) hbl).trans t3
        replace t4 := (hB.cell (p := ⟨b, off + j * 5 + 4, none⟩) hbl).trans t4
        replace u0 := (hB.cell (p := ⟨d, of2 + j * 5, none⟩) hdl).trans u0
        replace u1 := (hB.cell (p := ⟨d, of2 + j * 5 + 1, none⟩) hdl).trans u1
        replace u2 := (hB.cell (p := ⟨d, of2 + j * 5 + 2, none⟩) hdl).trans u2
        replace u3 := (hB.cell (p := ⟨d, of2 + j * 5 + 3, none⟩) hdl).trans u3
        replace u4 := (hB.cell (p := ⟨d, of2 + j * 5 + 4, none⟩) hdl).trans u4
        have hji : (j : Int) < (m : Int) := by omega
        have hj0 : (0 : Int) ≤ (j : Int) := by omega
        clear ha0 ha1 ha2 ha3 ha4 hb0 hb1 hb2 hb3 hb4 hsf hsg
        generalize l1[j] = f at *
        generalize l2[j] = g at *
        generalize hlb : likeB f g = lb at *
        obtain ⟨fnum, fw, fn_, ⟨fA, fc, fxs⟩, fat⟩ := f
        obtain ⟨gnum, gw, gn_, ⟨gA, gc, gxs⟩, gat⟩ := g
        generalize hfk : fvK ⟨fnum, fw, fn_, ⟨fA, fc, fxs⟩, fat⟩ = fk at *
        generalize hgk : fvK ⟨gnum, gw, gn_, ⟨gA, gc, gxs⟩, gat⟩ = gk at *
        generalize hxl : fxs.length = xl at *
        generalize hyl : gxs.length = yl at *
        simp only [fvC, hxl, hyl] at t0 t1 t2 t3 t4 u0 u1 u2 u3 u4 hlk hk
        have HLK := hid hlk
        have HK := hid hk
        have HTK := hid htk
        have HTK2 := hid htk2
        have HBB := hid hB
        clear hlk hk htk htk2 hB hlb hfk hgk hxl hyl
        have HT := hid (And.intro t0 (And.intro t1 (And.intro t2 (And.intro t3 (And.intro t4 (And.intro u0 (And.intro u1 (And.intro u2 (And.intro u3 u4)))))))))
        clear t0 t1 t2 t3 t4 u0 u1 u2 u3 u4
        · obtain ⟨rfl, hat⟩ := HK.out.2 hkk
          have hat : fat = gat := hat
          subst hat
          go_wp2_with fail
          go_region_held3 (fun w' => w'.cell? ⟨b, off + j * 5, none⟩ = some (.int .i64 fnum) ∧ w'.cell? ⟨b, off + j * 5 + 1, none⟩ = some (.int .u8 fw) ∧ w'.cell? ⟨b, off + j * 5 + 2, none⟩ = some (.int .u64 (fn_ : Int)) ∧ w'.cell? ⟨b, off + j * 5 + 3, none⟩ = some (.slice fA xl fc) ∧ w'.cell? ⟨b, off + j * 5 + 4, none⟩ = some (.int .i64 fat) ∧ w'.cell? ⟨d, of2 + j * 5, none⟩ = some (.int .i64 gnum) ∧ w'.cell? ⟨d, of2 + j * 5 + 1, none⟩ = some (.int .u8 gw) ∧ w'.cell? ⟨d, of2 + j * 5 + 2, none⟩ = some (.int .u64 (gn_ : Int)) ∧ w'.cell? ⟨d, of2 + j * 5 + 3, none⟩ = some (.slice gA yl gc) ∧ w'.cell? ⟨d, of2 + j * 5 + 4, none⟩ = some (.int .i64 fat)) (first | exact HT2.out | exact HT.out | go_keep) (first | (go_at_call 21; refine (HLK.out _ (bw_d HBB.out 1)).mono ?_; rintro e w2 ⟨rfl, hb2⟩; have HT2 := hid (held10 (w := wr.drewN 1) hb2 HT.out)))
          go_wp2_with fail
          go_roundw
          case rel => exact ⟨j + 1, by omega, by go_num, by rw [HTK.out, HTK2.out, HEQ.out, hkk], bw_t HBB.out (bw_t (bw_d (Below.refl _ wr) 1) hb2)⟩
          case measure => simp [intOf] <;> omega
      · obtain rfl : j = m := by omega
        go_wp2_with fail
        rw [HR.out]
        exact ⟨rfl, hB⟩
end Go.Proofs.Ytpmfdlghckfgiaa
set_option linter.unusedVariables false
namespace Go.Proofs.Ytpmfdlghckfgiaa
open Go.RowKit
end Go.Proofs.Ytpmfdlghckfgiaa
set_option linter.unusedVariables false
namespace Go.Proofs.Ytpmfdlghckfgiaa
open Go.RowKit
end Go.Proofs.Ytpmfdlghckfgiaa
set_option linter.unusedVariables false
namespace Go.Proofs.Ytpmfdlghckfgiaa
open Go.RowKit
/-- A row of bytes starts there. -/
def U8 (w : World) (A : Option Addr) : Prop := ∃ g cs k, A = some ⟨g, 0, none⟩ ∧ w.heap[g]? = some (.cells cs 5 k)
theorem U8.chg {S : Nat → Prop} {w w' : World} {A : Option Addr} (h : U8 w A) (hc : Chg S w w') (hn : ∀ g, A = some ⟨g, 0, none⟩ → ¬ S g) : U8 w' A := by
  obtain ⟨g, cs, k, rfl, hg⟩ := h
  exact ⟨g, cs, k, rfl, (hc.block g (Array.getElem?_eq_some_iff.1 hg).1 (hn g rfl)).trans hg⟩
theorem U8.ne_blk {w : World} {g : Nat} {t : TypeId} {cs : Array Value} {q : Nat} (h : U8 w (some ⟨g, 0, none⟩)) (hb : Blk w q t cs) (ht : t ≠ 5) : g ≠ q := by
  rintro rfl
  obtain ⟨g2, cs2, k2, e, h2⟩ := h
  injection e with e
  injection e with e
  subst e
  have h3 := h2.symm.trans hb
  injection h3 with h3
  injection h3 with h4 h5
  exact ht h5.symm
theorem FvOk.chg {S : Nat → Prop} {w w' : World} {f : FV} (h : FvOk w f) (hc : Chg S w w') (hu : U8 w f.s.A) (hn : ∀ g, f.s.A = some ⟨g, 0, none⟩ → ¬ S g) : FvOk w' f := by
  refine ⟨h.w0, h.w1, h.n, h.n1, h.n2, h.a1, h.a2, hc.sl h.s (fun _ b off e hb => ?_) rfl⟩
  obtain ⟨g, cs, k, e2, hg⟩ := hu
  rw [e2] at e
  injection e with e
  injection e with e
  subst e
  exact hn _ e2 hb
end Go.Proofs.Ytpmfdlghckfgiaa
set_option linter.unusedVariables false
namespace Go.Proofs.Ytpmfdlghckfgiaa
open Go.RowKit
end Go.Proofs.Ytpmfdlghckfgiaa
set_option linter.unusedVariables false
namespace Go.Proofs.Ytpmfdlghckfgiaa
open Go.RowKit
/-- Few texts, none long. -/
structure MvSm (m : MV) : Prop where
  l : m.l.length ≤ 100
  s : ∀ i, (m.text i).size ≤ 8000
  e : ∀ s ∈ m.l, s.size ≤ 8000
end Go.Proofs.Ytpmfdlghckfgiaa
set_option linter.unusedVariables false
namespace Go.Proofs.Ytpmfdlghckfgiaa
open Go.RowKit
end Go.Proofs.Ytpmfdlghckfgiaa
set_option linter.unusedVariables false
namespace Go.Proofs.Ytpmfdlghckfgiaa
open Go.RowKit
/-- Some blocks lie as they lay. -/
def KBl (z b : Nat) (W W' : World) : Prop := ∀ q, z ≤ q → q < b → W'.heap[q]? = W.heap[q]?
theorem KBl.of_chg {z b : Nat} {W W' : World} {S : Nat → Prop} (h : Chg S W W') (hz : b ≤ W.heap.size) (h0 : ∀ q, z ≤ q → q < b → ¬ S q) : KBl z b W W' := fun q h1 h2 => h.block q (by omega) (h0 q h1 h2)
theorem KBl.trans {z b : Nat} {W W' W'' : World} (h : KBl z b W W') (k : KBl z b W' W'') : KBl z b W W'' := fun q h1 h2 => (k q h1 h2).trans (h q h1 h2)
theorem KBl.refl (z b : Nat) (W : World) : KBl z b W W := fun _ _ _ => rfl
theorem KBl.sub {z b a c : Nat} {W W' : World} (h : KBl z b W W') (h1 : z ≤ a) (h2 : c ≤ b) : KBl a c W W' := fun q g1 g2 => h q (by omega) (by omega)
theorem KBl.size {z b : Nat} {W W' : World} (h : KBl z b W W') (hz : z < b) (hb : b ≤ W.heap.size) : b ≤ W'.heap.size := by
  have h1 := h (b - 1) (by omega) (by omega)
  have h2 : W'.heap[b - 1]? = some W.heap[b - 1] := by rw [h1]; exact Array.getElem?_eq_getElem (by omega)
  have := (Array.getElem?_eq_some_iff.1 h2).1
  omega
theorem Sl.loop {W W' : World} {A : Option Addr} {c g : Nat} {xs : List Value} (h : Sl W A c xs) (hl : ∃ o, W.heap[g]? = some (.loop o)) (hc : Chg (fun q => q = g) W W') : Sl W' A c xs := by
  refine ⟨h.cap, h.small, h.nil0, fun k u hk => ?_⟩
  obtain ⟨b, off, rfl, hb, hcl⟩ := h.rd k u hk
  have hne : b ≠ g := by
    rintro rfl
    obtain ⟨o, ho⟩ := hl
    simp [World.cell?, ho] at hcl
  refine ⟨b, off, rfl, Nat.lt_of_lt_of_le hb hc.size, ?_⟩
  rw [← hcl]
  unfold World.cell?
  rw [hc.block b hb hne]
/-- How a round's body ends. -/
def bPost (z b : Nat) (I : Nat → World → Prop) (Ix : Code → World → Prop) (j : Nat) (W : World) : Exit → Act → World → Prop
  | .normal, _, W' => KBl z b W W' ∧ I (j + 1) W'
  | .ret, _, W' => KBl z b W W' ∧ Ix .ret W'
  | .exit id, _, W' => KBl z b W W' ∧ Ix (.exit id) W'
  | .goto t, _, W' => KBl z b W W' ∧ Ix (.goto t) W'
  | .panic _, _, _ => False
  | .outgrown, _, _ => False
set_option maxRecDepth 100000 in
set_option maxHeartbeats 2000000 in
theorem range_b {P : Program} {g : Operand} {ps : Array Tmp} {assign body : Code} {Q : Exit → Act → World → Prop} {a : Act} {w : World} (m : Nat) (hm : 2 ≤ m) (z : Nat) (hz : w.heap.size = z)
    {gf : Nat} {lb : Array Value} (hg : a.eval g = .func (.func gf) #[] lb) (eg : ∀ args w, (callFunc gf args).run P w = .ok (.enter gf args) w)
    (N : Nat) (E : Nat → Array Value → World → Prop) (hps : ∀ j xs W, E j xs W → xs.size = ps.size) (I : Nat → Nat → World → Prop) (Ix : Nat → Code → World → Prop)
    (hI : ∀ b j W W', I b j W → Chg (fun q => z ≤ q ∧ q < b) W W' → I b j W') (hIx : ∀ b c W W', Ix b c W → Chg (fun q => z ≤ q ∧ q < b) W W' → Ix b c W') (h0 : ∀ b W', z + 2 ≤ b → Below z w W' → I b 0 W')
    (hseq : ∀ (l : Nat) (J : Nat → Nat → World → Prop) (Jx : Nat → World → Prop) (W : World), W.heap.size = z + 2 → Below z w W → (∀ b j W, J b j W → I b j W ∧ z + 2 ≤ W.heap.size) → (∀ b j W W', z + 2 ≤ b → J b j W → Chg (fun q => z + 2 ≤ q ∧ q < b) W W' → J b j W') → (∀ b W W', z + 2 ≤ b → Jx b W → Chg (fun q => z + 2 ≤ q ∧ q < b) W W' → Jx b W') → (∀ b W', z + 2 ≤ b → Below (z + 2) W W' → J b 0 W') →
      (∀ b j W xs, j < N → z + 2 ≤ b → b ≤ W.heap.size → J b j W → E j xs W → YieldAt Fence.wide (m - 1 - 1) P l xs W fun e W' => (e = .returned (.bool true) ∧ J b (j + 1) W' ∧ KBl (z + 2) b W W' ∧ b ≤ W'.heap.size) ∨ (e = .returned (.bool false) ∧ Jx b W' ∧ KBl (z + 2) b W W' ∧ b ≤ W'.heap.size)) →
      CallsIn Fence.wide (m - 1) P gf (#[.func (.yield l) #[] #[]] ++ lb) W fun e W' => (∃ v, e = .returned v) ∧ ∃ b, z + 2 ≤ b ∧ (J b N W' ∨ Jx b W'))
    (hbody : ∀ (l b j : Nat) (W : World) (xs : Array Value), j < N → z + 2 ≤ b → b ≤ W.heap.size → I b j W → E j xs W → (∃ o, W.heap[z + 1]? = some (.loop o)) →
      assign.wpIn (Fence.wide.inRound l) (m - 1 - 1) P (Exit.then (fun a₁ W₁ => KBl z b W W₁ ∧ ∀ W₂, Chg (fun q => q = z + 1) W₁ W₂ → body.wpIn (Fence.wide.inRound l) (m - 1 - 1) P (bPost z b (I b) (Ix b) j W₂) a₁ W₂) (fun _ _ _ => False))
        { tmps := (ps.zip xs).foldl (fun t (p, v) => t.setIfInBounds p v) a.tmps, defers := [] } W)
    (hdone : ∀ b W, z + 2 ≤ b → I b N W → W.heap[z]? = some (.deferred (some [])) → Q .normal { a with defers := { target := .collected z, args := #[] } :: a.defers } W)
    (hstop : ∀ b c W, z + 2 ≤ b → Ix b c W → W.heap[z]? = some (.deferred (some [])) → c.wpIn Fence.wide m P Q { a with defers := { target := .collected z, args := #[] } :: a.defers } W) :
    (Code.rangeFunc g ps assign body).wpIn Fence.wide m P Q a w := by
  refine wpIn_rangeFunc fun fn _ => ?_
  obtain ⟨rec, hrec⟩ : ∃ rec : LoopState → Option Code → Loop, rec = fun st pe => { state := st, pending := pe, fn, tmps := a.tmps, params := ps, assign := assign, body := body, defers := z } := ⟨_, rfl⟩
  obtain ⟨W1, hW1⟩ : ∃ W1, (w.alloc (.deferred (some []))).alloc (.loop (rec .ready none)) = W1 := ⟨_, rfl⟩
  have hz1 : W1.heap.size = z + 2 := by rw [← hW1]; simp [hz]
  have hL1 : W1.heap[z + 1]? = some (.loop (rec .ready none)) := by
    rw [← hW1]; have := World.alloc_heap_new (w.alloc (.deferred (some []))) (.loop (rec .ready none)); rwa [World.size_alloc, hz] at this
  have hK1 : W1.heap[z]? = some (.deferred (some [])) := by
    have h := World.alloc_heap_new w (.deferred (some []))
    rw [hz] at h
    rw [← hW1]; exact (Below.heap_alloc _ _ _ (by simp [hz])).trans h
  have hB1 : Below z w W1 := by rw [← hW1, ← hz]; exact bw_a (bw_a (Below.refl _ w) _) _
  refine ⟨z + 1, [{ target := .collected z, args := #[] }], W1, { target := .fn (.func gf) lb, args := #[.func (.yield (z + 1)) #[] #[]] }, W1, gf, #[.func (.yield (z + 1)) #[] #[]] ++ lb, W1, ?_, ?_, fun _ _ => trivial, ?_, fun _ => by omega, ?_⟩
  · have h := run_enterLoop_outer (P := P) (w := w) fn a.tmps ps assign body
    rw [hz] at h
    rw [← hW1, hrec]
    exact h
  · unfold resolve rangeCall
    dsimp only
    rw [hg]
    simp [go_sem]
  · simp [invoke, go_sem, eg]
  · have hy : ∀ (W : World) (xs : Array Value), xs.size = ps.size → W.heap[z + 1]? = some (.loop (rec .ready none)) → (Instr.yield (z + 1) xs).run P W = .ok (.round (z + 1) fn ((ps.zip xs).foldl (fun t (p, v) => t.setIfInBounds p v) a.tmps) assign body) W := fun W xs hs h => by
      have h := run_yield (P := P) (args := xs) h (by rw [hrec]; exact hs)
      rw [hrec] at h
      simpa using h
    have hput : ∀ (W : World) (o : Obj) (b j : Nat), z + 2 ≤ b → I b j W → I b j (W.putObj (z + 1) o) := fun W o b j hb h => hI b j _ _ h (chg_putObj o (by omega))
    refine (hseq (z + 1) (fun b j W => I b j W ∧ z + 2 ≤ W.heap.size ∧ W.heap[z + 1]? = some (.loop (rec .ready none)) ∧ W.heap[z]? = some (.deferred (some []))) (fun b W => ∃ c, Ix b c W ∧ W.heap[z + 1]? = some (.loop (rec .done (some c))) ∧ W.heap[z]? = some (.deferred (some [])))
      W1 hz1 hB1 (fun b j W h => ⟨h.1, h.2.1⟩) (fun b j W W' hb h hc => ⟨hI b j _ _ h.1 (hc.mono fun _ _ hf => by omega), Nat.le_trans h.2.1 hc.size, (hc.block _ (by have := h.2.1; omega) (fun hf => by omega)).trans h.2.2.1, (hc.block _ (by have := h.2.1; omega) (fun hf => by omega)).trans h.2.2.2⟩) (fun b W W' hb ⟨c, h1, h2, h3⟩ hc => ⟨c, hIx b c _ _ h1 (hc.mono fun _ _ hf => by omega), (hc.block _ (Array.getElem?_eq_some_iff.1 h2).1 (fun hf => by omega)).trans h2, (hc.block _ (Array.getElem?_eq_some_iff.1 h3).1 (fun hf => by omega)).trans h3⟩)
      (fun b W' hb hB => ⟨h0 b W' hb (hB1.trans (hB.mono (by omega))), by have := hB.size; omega, (hB.block _ (by omega)).trans hL1, (hB.block _ (by omega)).trans hK1⟩) ?hY).mono ?fin
    case hY =>
      rintro b j W xs hj hb hbW ⟨hij, hsz, hr, hd⟩ hE
      refine ⟨fn, _, assign, body, hy W _ (hps j xs W hE) hr, roundIn_of_wpIn trivial ?_⟩
      refine wpIn_mono (hbody (z + 1) b j W xs hj hb hbW hij hE ⟨_, hr⟩) ?_
      intro e a1 W₁ hq
      cases e <;> try exact hq
      obtain ⟨hk, hbd⟩ := hq
      have hs1 := hk.size (by omega) hbW
      have hr1 := (hk (z + 1) (by omega) (by omega)).trans hr
      have hd1 := (hk z (by omega) (by omega)).trans hd
      have hbr := run_beginRound (P := P) hr1 (by rw [hrec])
      refine ⟨_, hbr, ?_⟩
      obtain ⟨W2, hW2⟩ : ∃ W2, W₁.putObj (z + 1) (.loop { rec .ready none with state := .busy }) = W2 := ⟨_, rfl⟩
      have hc2 : Chg (fun q => q = z + 1) W₁ W2 := by rw [← hW2]; exact chg_putObj _ rfl
      have hr2 : W2.heap[z + 1]? = some (.loop { rec .ready none with state := .busy }) := by rw [← hW2]; exact World.putObj_heap_same (Array.getElem?_eq_some_iff.1 hr1).1
      have hd2 := (hc2.block z (by omega) (by omega)).trans hd1
      rw [hW2]
      refine wpIn_mono (hbd W2 hc2) ?_
      have fin : ∀ (W' : World) (jump : Option Code), KBl z b W2 W' → ∃ W3, (Instr.endRound (z + 1) jump).run P W' = .ok (.bool jump.isNone) W3 ∧ Chg (fun q => z ≤ q ∧ q < b) W' W3 ∧ KBl (z + 2) b W W3 ∧ W3.heap[z + 1]? = some (.loop (rec (if jump.isNone then .ready else .done) jump)) ∧ W3.heap[z]? = some (.deferred (some [])) ∧ z + 2 ≤ W3.heap.size ∧ b ≤ W3.heap.size := by
        intro W' jump hk'
        have hr' := (hk' (z + 1) (by omega) (by omega)).trans hr2
        have hl' := (Array.getElem?_eq_some_iff.1 hr').1
        have hsz' : b ≤ W'.heap.size := hk'.size (by omega) (by have := hc2.size; omega)
        have hend := run_endRound (P := P) jump hr'
        have hcp := fun o => chg_putObj (W := W') (l := z + 1) (S := fun q => q = z + 1) o rfl
        refine ⟨_, hend, chg_putObj _ (by omega), ?_, ?_, ((hcp _).block z (by omega) (by omega)).trans ((hk' z (by omega) (by omega)).trans hd2), Nat.le_trans (by omega) (hcp _).size, Nat.le_trans hsz' (hcp _).size⟩
        · intro q g1 g2
          rw [show (W'.putObj (z + 1) _).heap[q]? = W'.heap[q]? from World.putObj_heap_other (by omega)]
          rw [hk' q (by omega) (by omega), hc2.block q (by omega) (by omega)]
          exact hk q (by omega) (by omega)
        simp only [hrec]
        exact World.putObj_heap_same hl'
      intro e a' W' hq
      cases e with
      | normal =>
        obtain ⟨hk', hi'⟩ := hq
        obtain ⟨W3, he3, hc3, hkn, hr3, hd3, hs3, hb3⟩ := fin W' none hk'
        exact ⟨_, W3, he3, .inl ⟨rfl, ⟨hI _ _ _ _ hi' hc3, hs3, hr3, hd3⟩, hkn, hb3⟩⟩
      | ret =>
        obtain ⟨hk', hi'⟩ := hq
        obtain ⟨W3, he3, hc3, hkn, hr3, hd3, hs3, hb3⟩ := fin W' (some .ret) hk'
        exact ⟨_, W3, he3, .inr ⟨rfl, ⟨.ret, hIx _ _ _ _ hi' hc3, hr3, hd3⟩, hkn, hb3⟩⟩
      | exit id =>
        obtain ⟨hk', hi'⟩ := hq
        obtain ⟨W3, he3, hc3, hkn, hr3, hd3, hs3, hb3⟩ := fin W' (some (.exit id)) hk'
        exact ⟨_, W3, he3, .inr ⟨rfl, ⟨.exit id, hIx _ _ _ _ hi' hc3, hr3, hd3⟩, hkn, hb3⟩⟩
      | goto t =>
        obtain ⟨hk', hi'⟩ := hq
        obtain ⟨W3, he3, hc3, hkn, hr3, hd3, hs3, hb3⟩ := fin W' (some (.goto t)) hk'
        exact ⟨_, W3, he3, .inr ⟨rfl, ⟨.goto t, hIx _ _ _ _ hi' hc3, hr3, hd3⟩, hkn, hb3⟩⟩
      | panic c => exact hq.elim
      | outgrown => exact hq.elim
    case fin =>
      rintro e W2 ⟨⟨v, rfl⟩, b, hb, (⟨hij, hs, hr, hd⟩ | ⟨c, hix, hr, hd⟩)⟩
      · refine ⟨none, _, by have := run_endLoop (P := P) hr (by rw [hrec]; simp); rw [hrec] at this; exact this, ?_⟩
        exact hdone b _ hb (hput _ _ _ _ hb hij) (((chg_putObj (S := fun q => q = z + 1) _ rfl).block z (by omega) (by omega)).trans hd)
      · refine ⟨some c, _, by have := run_endLoop (P := P) hr (by rw [hrec]; simp); rw [hrec] at this; exact this, ?_⟩
        have hlz := (Array.getElem?_eq_some_iff.1 hd).1
        exact hstop b c _ hb (hIx _ _ _ _ hix (chg_putObj _ (by omega))) (((chg_putObj (S := fun q => q = z + 1) _ rfl).block z hlz (by omega)).trans hd)
end Go.Proofs.Ytpmfdlghckfgiaa
set_option linter.unusedVariables false
namespace Go.Proofs.Ytpmfdlghckfgiaa
open Go.RowKit Go.Shelf
attribute [local go_sem] Oper.semAt_some
end Go.Proofs.Ytpmfdlghckfgiaa
set_option linter.unusedVariables false
namespace Go.Proofs.Ytpmfdlghckfgiaa
open Go.RowKit Go.Shelf
attribute [local go_sem] Oper.semAt_some
/-- What Bytes keeps between two rounds. -/
structure EJ (s q b : Nat) (w : World) (M : MV) (v : Int) (bs : List UInt8) (W : World) : Prop where
  rf : Blk W (s + 1) 32 #[.int .i64 0, .int .i64 0]
  ro : ∃ vv, Blk W (q + 1) 22 #[vv] ∧ W.ownsRow b 5 1 vv bs.length (bs.map bv)
  rm : Blk W (q + 2) 29 (mvA M)
  rv : Blk W (q + 3) 3 #[.int .i64 v]
  bel : Below s w W
theorem EJ.keep {s q b : Nat} {w W W' : World} {M : MV} {v : Int} {bs : List UInt8} {S : Nat → Prop} (h : EJ s q b w M v bs W) (hsq : s + 2 ≤ q) (hqb : q + 6 ≤ b) (hc : Chg S W W') (hS : ∀ x, S x → q + 4 ≤ x ∧ x < b) : EJ s q b w M v bs W' := by
  have g := h.rv.lt
  obtain ⟨vv, h1, h2⟩ := h.ro
  exact ⟨hc.blk h.rf (fun hx => by have := hS _ hx; omega), ⟨vv, hc.blk h1 (fun hx => by have := hS _ hx; omega), own_chgS h2 hc (fun g hg hk => by have := (h2.lt g hg).1; have := hS _ hk; omega)⟩, hc.blk h.rm (fun hx => by have := hS _ hx; omega), hc.blk h.rv (fun hx => by have := hS _ hx; omega), h.bel.trans (hc.below (B := s) (fun x hx => by have := hS x hx; omega) (by omega))⟩
theorem EJ.step {s q b : Nat} {w W w1 : World} {M : MV} {v : Int} {bs new : List UInt8} {vv v' : Value} (h : EJ s q b w M v bs W) (hsq : s + 2 ≤ q) (hqb : q + 6 ≤ b) (hv : Blk W (q + 1) 22 #[vv]) (ho : W.ownsRow b 5 1 vv bs.length (bs.map bv)) (hg : W.grownBy w1 vv.ownBlock)
    (ho' : w1.ownsRow b 5 1 v' (bs.length + new.length) (bs.map bv ++ new.map bv)) : EJ s q b w M v (bs ++ new) (w1.setCell ⟨q + 1, 0, none⟩ v') ∧ Chg (fun x => x = q + 1 ∨ b ≤ x) W (w1.setCell ⟨q + 1, 0, none⟩ v') := by
  have hb1 : Chg (fun x => b ≤ x) W w1 := Chg.of_grown hg fun g e => (ho.lt g e).1
  have hc : Chg (fun x => x = q + 1 ∨ b ≤ x) W (w1.setCell ⟨q + 1, 0, none⟩ v') := (hb1.mono fun x _ hx => .inr hx).set_ (.inl (.inl rfl)) 0 v'
  have hv1 : Blk w1 (q + 1) 22 #[vv] := hb1.blk hv (by omega)
  have hv2 := hv1.set_ 0 v'
  have g := h.rv.lt
  refine ⟨⟨hc.blk h.rf (by omega), ⟨v', by simpa using hv2, ?_⟩, hc.blk h.rm (by omega), hc.blk h.rv (by omega), h.bel.trans (hc.below (B := s) (fun x hx => by omega) (by omega))⟩, hc⟩
  have h2 := own_chgS ho' ((Chg.refl (fun x => x = q + 1) w1).set_ (.inl rfl) 0 v') (fun g hg' hk => by have := (ho'.lt g hg').1; omega)
  rw [List.length_append, List.map_append]
  exact h2
end Go.Proofs.Ytpmfdlghckfgiaa
set_option linter.unusedVariables false
namespace Go.Proofs.Ytpmfdlghckfgiaa
open Go.RowKit
/-- Bytes of a text, in a block of bytes. -/
def ConvS (w : World) (A : Option Addr) (c : Nat) (qs : ByteArray) : Prop := Sl w A c (qs.data.toList.map bv) ∧ U8 w A
theorem ConvS.below {w w' : World} {A : Option Addr} {c : Nat} {qs : ByteArray} (h : ConvS w A c qs) (hb : Below w.heap.size w w') : ConvS w' A c qs := by
  refine ⟨h.1.below hb, ?_⟩
  obtain ⟨g, cs, k, rfl, hg⟩ := h.2
  exact ⟨g, cs, k, rfl, (hb.block g (Array.getElem?_eq_some_iff.1 hg).1).trans hg⟩
theorem ConvS.chg {w w' : World} {A : Option Addr} {c q : Nat} {qs : ByteArray} {t : TypeId} {cs : Array Value} (h : ConvS w A c qs) (hb : Blk w q t cs) (ht : t ≠ 5) (hc : Chg (fun k => k = q) w w') : ConvS w' A c qs := by
  have hu := h.2
  obtain ⟨g, cs1, k, rfl, hg⟩ := h.2
  have hne := U8.ne_blk hu hb ht
  refine ⟨hc.sl h.1 (n := (qs.data.toList.map bv).length) (fun _ b o he hS => ?_) rfl, hu.chg hc (fun g2 he hS => ?_)⟩
  · injection he with he
    injection he with he1
    omega
  · injection he with he
    injection he with he1
    omega
/-- What the document's Field takes for a field. -/
structure PlF (m : MV) (num t i : Int) : Prop where
  n : plN m t i ≤ 18446744073709551615
  s : (plS m t i).data.toList.length ≤ 8000
  one : t ≠ 10 → t ≠ 3 → 1 ≤ t → t ≤ 10 → partW m num t i = [(num, ((wireD t : Nat) : Int), plN m t i, (plS m t i).data.toList)]
  zig : t = 3 → partW m num t i = [(num, 0, (zig (wrap64 (plN m t i : Nat))).toNat, (plS m t i).data.toList)]
  lst : t = 10 → partW m num t i = m.l.map (fun s => (num, 2, 0, s.data.toList)) ∧ plN m t i = 0 ∧ plV m t = .slice m.A m.l.length m.c
end Go.Proofs.Ytpmfdlghckfgiaa
set_option linter.unusedVariables false
namespace Go.Proofs.Ytpmfdlghckfgiaa
open Go.RowKit
def ptF (x : Int × Int × Nat × List UInt8) : FV := ⟨x.1, x.2.1, x.2.2.1, ⟨none, 0, x.2.2.2⟩, 0⟩
theorem row_num {r : SRow} (h : r ∈ ROWS) : 1 ≤ r.num ∧ r.num ≤ 7 ∧ 1 ≤ r.typ ∧ r.typ ≤ 10 := by have := row_ok h; omega
/-- What a part may be. -/
structure PtOk (r : SRow) (x : Int × Int × Nat × List UInt8) : Prop where
  num : x.1 = (r.num : Int)
  w : x.2.1 = (wireN (r.typ : Nat) : Int)
  n : x.2.2.1 ≤ 18446744073709551615
  len : x.2.2.2.length ≤ 8000
theorem wireN_cases (t : Int) : wireN t = 0 ∨ wireN t = 1 ∨ wireN t = 2 ∨ wireN t = 5 := by
  unfold wireN
  split
  · exact .inr (.inr (.inr rfl))
  split
  · exact .inr (.inl rfl)
  split
  · exact .inr (.inr (.inl rfl))
  · exact .inl rfl
theorem PtOk.put {r : SRow} {x : Int × Int × Nat × List UInt8} (hr : r ∈ ROWS) (h : PtOk r x) : pErrF (ptF x) = 0 ∧ (ptF x).n ≤ 18446744073709551615 ∧ 0 ≤ (ptF x).w ∧ (ptF x).w ≤ 255 := by
  have hk := row_num hr
  have hw := wireN_cases (r.typ : Nat)
  have hw2 : (ptF x).w = (wireN (r.typ : Nat) : Int) := h.w
  refine ⟨?_, h.n, by rw [hw2]; omega, by rw [hw2]; omega⟩
  show pErr x.1 x.2.1 x.2.2.2 = 0
  have hwb : wireB x.2.1 = true := by rw [h.w]; rcases hw with e | e | e | e <;> rw [e] <;> rfl
  unfold pErr
  have h1 := h.num
  have h2 := h.len
  rw [mk_ok (by omega) (by omega) hwb, if_neg (by simp), if_neg (by omega)]
end Go.Proofs.Ytpmfdlghckfgiaa
set_option linter.unusedVariables false
namespace Go.Proofs.Ytpmfdlghckfgiaa
open Go.RowKit
theorem own_ne_blk {w : World} {B e sz n q : Nat} {v : Value} {xs : List Value} {t : TypeId} {cs : Array Value} (h : w.ownsRow B e sz v n xs) (hb : Blk w q t cs) (ht : t ≠ e) (g : Nat) (hg : v.ownBlock = some g) (hq : g = q) : False := by
  subst hq
  rcases h.2 with ⟨rfl, -⟩ | ⟨g1, cap, cur, rfl, -, hg1, -⟩
  · cases hg
  · have e1 : g1 = g := by simpa [Value.ownBlock] using hg
    subst e1
    have h2 := hg1.symm.trans hb
    injection h2 with h2
    injection h2 with _ h3
    exact ht h3.symm
end Go.Proofs.Ytpmfdlghckfgiaa
set_option linter.unusedVariables false
namespace Go.Proofs.Ytpmfdlghckfgiaa
open Go.RowKit
end Go.Proofs.Ytpmfdlghckfgiaa
namespace Go.Proofs.Ytpmfdlghckfgiaa
open Go.RowKit
end Go.Proofs.Ytpmfdlghckfgiaa
set_option linter.unusedVariables false
namespace Go.Proofs.Ytpmfdlghckfgiaa
open Go.RowKit
end Go.Proofs.Ytpmfdlghckfgiaa
set_option linter.unusedVariables false
namespace Go.Proofs.Ytpmfdlghckfgiaa
open Go.RowKit
theorem txtE_each {most : Int} : ∀ (l : List ByteArray), txtE most l = 0 → ∀ s ∈ l, chk s most = 0
  | [], _, s, hs => by simp at hs
  | x :: l, h, s, hs => by
    rw [txtE] at h
    by_cases c : chk x most = 0
    · rw [if_pos c] at h
      rcases List.mem_cons.1 hs with rfl | hs
      · exact c
      · exact txtE_each l h s hs
    · rw [if_neg c] at h; exact absurd h c
theorem lstE_each {l : List ByteArray} (h : lstE l = 0) : l.length ≤ 64 ∧ ∀ s ∈ l, chk s 64 = 0 := by
  unfold lstE at h
  split at h
  · cases h
  · exact ⟨by omega, txtE_each l h⟩
end Go.Proofs.Ytpmfdlghckfgiaa
namespace Go.Proofs.Ytpmfdlghckfgiaa
open Go.RowKit
end Go.Proofs.Ytpmfdlghckfgiaa
set_option linter.unusedVariables false
namespace Go.Proofs.Ytpmfdlghckfgiaa
open Go.RowKit
def zagU (n : Nat) : Nat := if n % 2 = 0 then n / 2 else 18446744073709551615 - n / 2
/-- What a field's number means in a type. -/
def numV (t : Int) (n : Nat) : Nat := if t = 1 then n % 4294967296 else if t = 4 then (if n = 0 then 0 else 1) else if t = 3 then zagU n else n
def MV.setN (m : MV) (i : Int) (x : Nat) : MV := { m with n0 := if i = 0 then x else m.n0, n1 := if i = 1 then x else m.n1, n2 := if i = 2 then x else m.n2, n3 := if i = 3 then x else m.n3, n4 := if i = 4 then x else m.n4, n5 := if i = 5 then x else m.n5 }
def MV.setS (m : MV) (i : Int) (s : ByteArray) : MV := { m with s0 := if i = 0 then s else m.s0, s1 := if i = 1 then s else m.s1 }
def ZM : MV := ⟨0, 0, 0, 0, 0, 0, 0, ⟨#[]⟩, ⟨#[]⟩, none, 0, []⟩
def plB (t i : Int) : Bool := decide ((1 ≤ t ∧ t ≤ 6) ∧ 0 ≤ i ∧ i < 6) || decide ((7 ≤ t ∧ t ≤ 9) ∧ 0 ≤ i ∧ i < 2) || decide (t = 10)
/-- What is wrong with a field that is to be set. -/
def setE (m : MV) (t i : Int) (s : ByteArray) : Int := if plB t i = false then 7 else if t ≤ 6 then 0 else if t ≤ 9 then chk s (mostN t : Nat) else if 64 ≤ m.l.length then 2 else chk s 64
/-- A message behind a field. -/
def setM (m : MV) (t i : Int) (n : Nat) (s : ByteArray) : MV := if setE m t i s ≠ 0 then ZM else if t ≤ 6 then m.setN i (numV t n) else if t ≤ 9 then m.setS i s else { m with l := m.l ++ [s] }
set_option maxRecDepth 100000 in
set_option maxHeartbeats 2000000 in
theorem placed_any (m : MV) (num t i : Int) (w : World) : Calls Try.prog 24 #[mvV m, .agg #[.int .i64 num, .int .i64 t, .int .i64 i]] w fun e w' => e = .returned (.bool (plB t i)) ∧ Below w.heap.size w w' := by
  obtain ⟨b, hb⟩ : ∃ b, plB t i = b := ⟨_, rfl⟩
  rw [hb]
  obtain ⟨k, n0, n1, n2, n3, n4, n5, s0, s1, A, c, l⟩ := m
  unfold mvV mvA
  simp only
  generalize l.length = len
  have hbb := bw_a (bw_a (Below.refl _ w) (.cells #[.int .u8 (k : Int), .int .u64 (n0 : Int), .int .u64 (n1 : Int), .int .u64 (n2 : Int), .int .u64 (n3 : Int), .int .u64 (n4 : Int), .int .u64 (n5 : Int), .string s0, .string s1, .slice A len c] 29)) (.cells #[.int .i64 num, .int .i64 t, .int .i64 i] 48)
  have HBB := hid hbb
  clear hbb
  have hcase : (t = 1 ∨ t = 2 ∨ t = 3 ∨ t = 4 ∨ t = 5 ∨ t = 6) ∨ (t = 7 ∨ t = 8 ∨ t = 9) ∨ t = 10 ∨ (t < 1 ∨ 10 < t) := by omega
  rcases hcase with h | h | rfl | h
  · have hv : b = decide (0 ≤ i ∧ i < 6) := by
      rw [← hb]; unfold plB
      rw [decide_eq_false (p := ((7 ≤ t ∧ t ≤ 9) ∧ 0 ≤ i ∧ i < 2)) (by omega), decide_eq_false (p := t = 10) (by omega)]
      simp only [Bool.or_false]
      exact decide_eq_decide.2 (by omega)
    subst hv
    clear hb
    rcases h with rfl | rfl | rfl | rfl | rfl | rfl
    all_goals
      by_cases h1 : 0 ≤ i
      · by_cases h2 : i < 6
        · rw [decide_eq_true (show 0 ≤ i ∧ i < 6 from ⟨h1, h2⟩)]
          go_enter Try.func24, Try.ntmps24
          go_wp2
          go_ret
          exact ⟨by first | rfl | exact ret_bool (by simp [h1, h2]), HBB.out⟩
        · rw [decide_eq_false (show ¬ (0 ≤ i ∧ i < 6) by omega)]
          go_enter Try.func24, Try.ntmps24
          go_wp2
          go_ret
          exact ⟨by first | rfl | exact ret_bool (by simp; omega), HBB.out⟩
      · rw [decide_eq_false (show ¬ (0 ≤ i ∧ i < 6) by omega)]
        go_enter Try.func24, Try.ntmps24
        go_wp2
        go_ret
        exact ⟨by first | rfl | exact ret_bool (by simp; omega), HBB.out⟩
  · have hv : b = decide (0 ≤ i ∧ i < 2) := by
      rw [← hb]; unfold plB
      rw [decide_eq_false (p := ((1 ≤ t ∧ t ≤ 6) ∧ 0 ≤ i ∧ i < 6)) (by omega), decide_eq_false (p := t = 10) (by omega)]
      simp only [Bool.or_false, Bool.false_or]
      exact decide_eq_decide.2 (by omega)
    subst hv
    clear hb
    rcases h with rfl | rfl | rfl
    all_goals
      by_cases h1 : 0 ≤ i
      · by_cases h2 : i < 2
        · rw [decide_eq_true (show 0 ≤ i ∧ i < 2 from ⟨h1, h2⟩)]
          go_enter Try.func24, Try.ntmps24
          go_wp2
          go_ret
          exact ⟨by first | rfl | exact ret_bool (by simp [h1, h2]), HBB.out⟩
        · rw [decide_eq_false (show ¬ (0 ≤ i ∧ i < 2) by omega)]
          go_enter Try.func24, Try.ntmps24
          go_wp2
          go_ret
          exact ⟨by first | rfl | exact ret_bool (by simp; omega), HBB.out⟩
      · rw [decide_eq_false (show ¬ (0 ≤ i ∧ i < 2) by omega)]
        go_enter Try.func24, Try.ntmps24
        go_wp2
        go_ret
        exact ⟨by first | rfl | exact ret_bool (by simp; omega), HBB.out⟩
  · have hv : b = true := by rw [← hb]; unfold plB; simp
    subst hv
    clear hb
    go_enter Try.func24, Try.ntmps24
    go_wp2
    go_ret
    exact ⟨by first | rfl | exact ret_bool (by simp), HBB.out⟩
  · have hv : b = false := by
      rw [← hb]; unfold plB
      rw [decide_eq_false (p := ((1 ≤ t ∧ t ≤ 6) ∧ 0 ≤ i ∧ i < 6)) (by omega), decide_eq_false (p := ((7 ≤ t ∧ t ≤ 9) ∧ 0 ≤ i ∧ i < 2)) (by omega), decide_eq_false (p := t = 10) (by omega)]
      rfl
    subst hv
    clear hb
    have g1 : (t == 1) = false := by simp; omega
    have g2 : (t == 2) = false := by simp; omega
    have g3 : (t == 3) = false := by simp; omega
    have g4 : (t == 4) = false := by simp; omega
    have g5 : (t == 5) = false := by simp; omega
    have g6 : (t == 6) = false := by simp; omega
    have g7 : (t == 7) = false := by simp; omega
    have g8 : (t == 8) = false := by simp; omega
    have g9 : (t == 9) = false := by simp; omega
    have g10 : (t == 10) = false := by simp; omega
    go_enter Try.func24, Try.ntmps24
    go_wp2
    go_ret
    exact ⟨by first | rfl | exact ret_bool (by simp; omega), HBB.out⟩
theorem zag_u (n : Nat) (h : n ≤ 18446744073709551615) : IntKind.u64.wrap (zag (n : Int)) = ((zagU n : Nat) : Int) := by
  unfold zag zagU
  by_cases h2 : n % 2 = 0
  · rw [if_pos (by omega), if_pos h2, IntWalk.u64_in _ (by omega)]; omega
  · rw [if_neg (by omega), if_neg h2]
    show (-((n : Int) / 2) - 1) % 18446744073709551616 = _
    omega
set_option maxRecDepth 100000 in
set_option maxHeartbeats 2000000 in
theorem lnum_any (t : Int) (n : Nat) (w : World) (hn : n ≤ 18446744073709551615) : Calls Try.prog 27 #[.int .i64 t, .int .u64 (n : Int)] w fun e w' => e = .returned (.int .u64 (numV t n : Nat)) ∧ w' = w := by
  by_cases c1 : t = 1
  · subst c1
    have hv : numV 1 n = n % 4294967296 := rfl
    rw [hv]
    go_enter Try.func27, Try.ntmps27
    go_wp2
    go_ret
    exact ⟨by first | rfl | exact ret_int (by first | rfl | omega), rfl⟩
  by_cases c4 : t = 4
  · subst c4
    obtain ⟨q, hq⟩ : ∃ q, numV 4 n = q := ⟨_, rfl⟩
    have hq2 : min (n : Int) 1 = (q : Int) := by
      rw [← hq]; show _ = (((if n = 0 then 0 else 1 : Nat)) : Int)
      split <;> omega
    rw [hq]
    have HQ := hid hq2
    clear hq hq2
    go_enter Try.func27, Try.ntmps27
    go_wp2
    go_ret
    exact ⟨ret_int HQ.out, rfl⟩
  by_cases c3 : t = 3
  · subst c3
    have hv : numV 3 n = zagU n := rfl
    rw [hv]
    have hz := fun W => zag_any (n : Int) W (by omega) (by omega)
    have HZ := hid hz
    have HU := hid (zag_u n hn)
    clear hz
    go_enter Try.func27, Try.ntmps27
    go_wp2_with fail
    refine (HZ.out _).mono ?_
    rintro e w1 ⟨rfl, rfl⟩
    go_wp2_with fail
    go_ret
    exact ⟨ret_int HU.out, rfl⟩
  · have hv : numV t n = n := by unfold numV; rw [if_neg c1, if_neg c4, if_neg c3]
    rw [hv]
    have g1 : (t == 1) = false := by simpa using c1
    have g4 : (t == 4) = false := by simpa using c4
    have g3 : (t == 3) = false := by simpa using c3
    go_enter Try.func27, Try.ntmps27
    go_wp2
    go_ret
    exact ⟨rfl, rfl⟩
end Go.Proofs.Ytpmfdlghckfgiaa
set_option linter.unusedVariables false
namespace Go.Proofs.Ytpmfdlghckfgiaa
open Go.RowKit
/-- The row to which a field of bytes belongs. -/
def ownR (L : List SRow) (num w : Int) : Option SRow := L.find? fun r => decide ((r.num : Int) = num) && decide (((wireN (r.typ : Int) : Nat) : Int) = w)
/-- A field's bytes as a string. -/
def rfS (f : RF × Nat) : ByteArray := ⟨f.1.xs.toArray⟩
/-- A message behind fields: the message and the fields that belong to none, or what is wrong, and where. -/
def decF (L : List SRow) : MV → List (RF × Nat) → MV × List (RF × Nat) × Int × Nat
  | M, [] => (M, [], 0, 0)
  | M, f :: fs => match ownR L f.1.num f.1.w with
    | none => ((decF L M fs).1, f :: (decF L M fs).2.1, (decF L M fs).2.2)
    | some r => if setE M (r.typ : Int) (r.slot : Int) (rfS f) = 0 then decF L (setM M (r.typ : Int) (r.slot : Int) f.1.n (rfS f)) fs else (ZM, [], setE M (r.typ : Int) (r.slot : Int) (rfS f), f.2)
theorem decF_none {L : List SRow} {M : MV} {f : RF × Nat} {fs : List (RF × Nat)} (h : ownR L f.1.num f.1.w = none) : decF L M (f :: fs) = ((decF L M fs).1, f :: (decF L M fs).2.1, (decF L M fs).2.2) := by
  rw [decF, h]
theorem decF_ok {L : List SRow} {M : MV} {f : RF × Nat} {fs : List (RF × Nat)} {r : SRow} (h : ownR L f.1.num f.1.w = some r) (he : setE M (r.typ : Int) (r.slot : Int) (rfS f) = 0) : decF L M (f :: fs) = decF L (setM M (r.typ : Int) (r.slot : Int) f.1.n (rfS f)) fs := by
  rw [decF, h]; simp only; rw [if_pos he]
theorem decF_bad {L : List SRow} {M : MV} {f : RF × Nat} {fs : List (RF × Nat)} {r : SRow} (h : ownR L f.1.num f.1.w = some r) (he : setE M (r.typ : Int) (r.slot : Int) (rfS f) ≠ 0) : decF L M (f :: fs) = (ZM, [], setE M (r.typ : Int) (r.slot : Int) (rfS f), f.2) := by
  rw [decF, h]; simp only; rw [if_neg he]
/-- A message without where its list lies. -/
def MV.z (m : MV) : MV := { m with A := none, c := 0 }
theorem setE_z (m : MV) (A : Option Addr) (c : Nat) (t i : Int) (s : ByteArray) : setE { m with A := A, c := c } t i s = setE m t i s := rfl
/-- Setting makes a list longer by one at most. -/
theorem setM_len (m : MV) (t i : Int) (n : Nat) (s : ByteArray) (hl : m.l.length ≤ 64) : (setM m t i n s).l.length ≤ 64 := by
  unfold setM
  split
  · simp [ZM]
  · rename_i he
    split
    · exact hl
    · split
      · exact hl
      · rename_i h1 h2
        simp only [List.length_append, List.length_cons, List.length_nil]
        unfold setE at he
        by_cases hp : plB t i = false
        · rw [if_pos hp] at he; simp at he
        · rw [if_neg hp, if_neg h1, if_neg h2] at he
          by_cases h64 : 64 ≤ m.l.length
          · rw [if_pos h64] at he; simp at he
          · omega
theorem find_and {α : Type} (p q : α → Bool) (L : List α) (hu : ∀ a ∈ L, ∀ b ∈ L, p a = true → p b = true → a = b) : L.find? (fun a => p a && q a) = match L.find? p with | some r => if q r then some r else none | none => none := by
  induction L with
  | nil => rfl
  | cons x L ih =>
    have ih := ih (fun a ha b hb => hu a (List.mem_cons_of_mem _ ha) b (List.mem_cons_of_mem _ hb))
    rw [List.find?_cons, List.find?_cons]
    cases hp : p x
    · simp only [Bool.false_and]; exact ih
    · cases hq : q x
      · simp only [Bool.and_false]
        rw [hq]
        simp only [Bool.false_eq_true, if_false]
        rw [List.find?_eq_none]
        intro a ha h
        simp only [Bool.and_eq_true] at h
        have := hu a (List.mem_cons_of_mem _ ha) x (List.mem_cons_self ..) h.1 hp
        subst this
        rw [hq] at h; exact absurd h.2 (by simp)
      · simp [hq]
theorem rows_uni : ∀ a ∈ ROWS, ∀ b ∈ ROWS, a.kind = b.kind → a.num = b.num → a = b := by decide +kernel
theorem rows_wire : ∀ a ∈ ROWS, wireN (a.typ : Int) = wireD (a.typ : Int) := by decide +kernel
/-- To which row a field belongs: the one of its number, if its wire type is that of the row. -/
theorem ownR_fin (k v num w : Int) : ownR (ofL k v) num w = match finS k v num with | some r => if decide (((wireD (r.typ : Int) : Nat) : Int) = w) then some r else none | none => none := by
  have h1 : ownR (ofL k v) num w = (kn v).find? (fun r => pF k num r && decide (((wireN (r.typ : Int) : Nat) : Int) = w)) := by
    unfold ownR ofL
    rw [List.find?_filter]
    congr 1
    funext r
    unfold pF
    by_cases a : (r.kind : Int) = k <;> by_cases b : (r.num : Int) = num <;> simp [a, b]
  rw [h1, find_and (pF k num) (fun r => decide (((wireN (r.typ : Int) : Nat) : Int) = w)) (kn v) (by
    intro a ha b hb h2 h3
    unfold pF at h2 h3
    simp only [decide_eq_true_eq] at h2 h3
    exact rows_uni a (kn_mem v ha) b (kn_mem v hb) (by omega) (by omega))]
  have hf : finS k v num = (kn v).find? (pF k num) := rfl
  rw [hf]
  cases hq : (kn v).find? (pF k num) with
  | none => rfl
  | some r =>
    simp only
    rw [rows_wire r (kn_mem v (List.mem_of_find?_eq_some hq))]
end Go.Proofs.Ytpmfdlghckfgiaa
set_option linter.unusedVariables false
namespace Go.Proofs.Ytpmfdlghckfgiaa
open Go.RowKit
theorem num_top (M : MV) (i : Int) : (∃ k : Nat, k ≤ 5 ∧ i = (k : Int)) ∨ M.num i = 0 := by
  by_cases h : i < 0 ∨ 6 ≤ i
  · exact .inr (num_out M i h)
  · exact .inl ⟨i.toNat, by omega, by omega⟩
theorem row_slot {r : SRow} (h : r ∈ ROWS) : r.slot ≤ 5 ∧ (7 ≤ r.typ → r.typ ≤ 9 → r.slot ≤ 1) := by have := row_ok2 h; exact ⟨this.2.2.1, this.2.2.2⟩
/-- Two rows of a kind have unlike numbers and places. -/
theorem rows_apart (k : Nat) (v : Int) {r x : SRow} (hr : r ∈ ofL (k : Int) v) (hx : x ∈ ofL (k : Int) v) (hne : r ≠ x) : r.num ≠ x.num ∧ ¬ (sortN r.typ = sortN x.typ ∧ r.slot = x.slot) := by
  obtain ⟨i, hi, rfl⟩ := List.getElem_of_mem hr
  obtain ⟨j, hj, rfl⟩ := List.getElem_of_mem hx
  rcases Nat.lt_trichotomy i j with h | h | h
  · have := grow_apart k v j i hj h
    exact ⟨by omega, this.2⟩
  · subst h; exact absurd rfl hne
  · have := grow_apart k v i j hi h
    exact ⟨by omega, fun h2 => this.2 ⟨h2.1.symm, h2.2.symm⟩⟩
def k4 (f : FV) : Int × Int × Nat × List UInt8 := (f.num, f.w, f.n, f.s.xs)
def KOk (x : Int × Int × Nat × List UInt8 × Int) : Prop := 0 ≤ x.2.1 ∧ x.2.1 ≤ 255 ∧ x.2.2.1 ≤ 18446744073709551615 ∧ -9223372036854775808 ≤ x.1 ∧ x.1 ≤ 9223372036854775807 ∧ -9223372036854775808 ≤ x.2.2.2.2 ∧ x.2.2.2.2 ≤ 9223372036854775807 ∧ x.2.2.2.1.length ≤ 8000
theorem KOk.ok {w : World} {f : FV} (h : KOk (fvK f)) (hs : Sl w f.s.A f.s.c (f.s.xs.map bv)) : FvOk w f := ⟨h.1, h.2.1, h.2.2.1, h.2.2.2.1, h.2.2.2.2.1, h.2.2.2.2.2.1, h.2.2.2.2.2.2.1, hs⟩
end Go.Proofs.Ytpmfdlghckfgiaa
set_option linter.unusedVariables false
namespace Go.Proofs.Ytpmfdlghckfgiaa
open Go.RowKit
theorem ofL_kindN {k v : Int} {r : SRow} (h : r ∈ ofL k v) : (r.kind : Int) = k := ((ofL_iff k v r).1 h).2.2.2
theorem own_mem {k v num w : Int} {r : SRow} (h : ownR (ofL k v) num w = some r) : r ∈ ofL k v ∧ (r.num : Int) = num ∧ ((wireN (r.typ : Int) : Nat) : Int) = w := by
  unfold ownR at h
  have h1 := List.mem_of_find?_eq_some h
  have h2 := List.find?_some h
  simp only [Bool.and_eq_true, decide_eq_true_eq] at h2
  exact ⟨h1, h2.1, h2.2⟩
theorem plB_text {t i : Nat} (h7 : 7 ≤ t) (h9 : t ≤ 9) (hi : i ≤ 1) : plB (t : Int) (i : Int) = true := by
  unfold plB; rw [decide_eq_true (p := ((7 ≤ (t : Int) ∧ (t : Int) ≤ 9) ∧ 0 ≤ (i : Int) ∧ (i : Int) < 2)) (by omega)]; simp
theorem plB_list (i : Int) : plB 10 i = true := by unfold plB; simp
theorem fldE_wrong {b : MV} {r : SRow} (h : fldE b r = 0) (hd : dflB b (r.typ : Nat) (r.slot : Nat) = false) : wrongE b (r.typ : Nat) (r.slot : Nat) = 0 := by
  unfold fldE at h
  rw [hd] at h
  simpa using h
/-- A row's list texts may be. -/
theorem fldE_list {b : MV} {r : SRow} (ht : r.typ = 10) (h : fldE b r = 0) : b.l.length ≤ 64 ∧ ∀ s ∈ b.l, chk s 64 = 0 := by
  cases hd : dflB b (r.typ : Nat) (r.slot : Nat) with
  | true =>
    unfold dflB at hd
    rw [ht, if_neg (by omega), if_neg (by omega), if_pos (by omega)] at hd
    have : b.l = [] := by simpa using hd
    rw [this]; simp
  | false =>
    have hw := fldE_wrong h hd
    unfold wrongE at hw
    rw [ht, if_neg (by omega), if_neg (by omega), if_neg (by omega), if_pos (by omega)] at hw
    exact lstE_each hw
theorem lists_uni {a b : SRow} (ha : a ∈ ROWS) (hb : b ∈ ROWS) (hk : a.kind = b.kind) (h1 : a.typ = 10) (h2 : b.typ = 10) : a = b := by
  have h := List.all_eq_true.1 (List.all_eq_true.1 (show (ROWS.all fun a => ROWS.all fun b => !(decide (a.kind = b.kind) && decide (a.typ = 10) && decide (b.typ = 10)) || decide (a = b)) = true by decide +kernel) a ha) b hb
  rw [decide_eq_true hk, decide_eq_true h1, decide_eq_true h2] at h
  simpa using h
end Go.Proofs.Ytpmfdlghckfgiaa
set_option linter.unusedVariables false
namespace Go.Proofs.Ytpmfdlghckfgiaa
open Go.RowKit
theorem spRow_get {w : World} {A : Option Addr} {n c : Nat} {l : List SRow} (hn : l.length = n) (h : SlN w A n c 3 (l.flatMap specC)) (j : Nat) (hj : j < l.length) :
    ∃ b off, A = some ⟨b, off, none⟩ ∧ b < w.heap.size ∧ w.cell? ⟨b, off + j * 3, none⟩ = some (.int .i64 (l[j].num : Nat)) ∧ w.cell? ⟨b, off + j * 3 + 1, none⟩ = some (.int .i64 (l[j].typ : Nat)) ∧ w.cell? ⟨b, off + j * 3 + 2, none⟩ = some (.int .i64 (l[j].slot : Nat)) := by
  have hn0 : (l.flatMap specC)[j * 3 + 0]? = _ := flatMap_get specC 3 l j 0 hj (fun _ _ => rfl) (by omega)
  have hn1 : (l.flatMap specC)[j * 3 + 1]? = _ := flatMap_get specC 3 l j 1 hj (fun _ _ => rfl) (by omega)
  have hn2 : (l.flatMap specC)[j * 3 + 2]? = _ := flatMap_get specC 3 l j 2 hj (fun _ _ => rfl) (by omega)
  obtain ⟨b, off, rfl, hb, t0⟩ := h.rd (j * 3) (.int .i64 (l[j].num : Nat)) (by simpa [specC] using hn0)
  have t1 := h.rd.addr (j * 3 + 1) (.int .i64 (l[j].typ : Nat)) (by simpa [specC] using hn1)
  have t2 := h.rd.addr (j * 3 + 2) (.int .i64 (l[j].slot : Nat)) (by simpa [specC] using hn2)
  rw [addr_add] at t1 t2
  exact ⟨b, off, rfl, hb, t0, by rw [Nat.add_assoc]; exact t1, by rw [Nat.add_assoc]; exact t2⟩
set_option maxRecDepth 100000 in
set_option maxHeartbeats 4000000 in
theorem lowner_any (L : List SRow) (nL : Nat) (A : Option Addr) (c : Nat) (num fw : Int) (fn : Nat) (fA : Option Addr) (xl fc : Nat) (fat : Int) (w : World) (hn : L.length = nL) (hl : nL ≤ 1000) (hs : SlN w A nL c 3 (L.flatMap specC)) :
    Calls Try.prog 51 #[.slice A nL c, .agg #[.int .i64 num, .int .u8 fw, .int .u64 (fn : Int), .slice fA xl fc, .int .i64 fat]] w fun e w' => e = .returned (specO (ownR L num fw)) ∧ Below w.heap.size w w' := by
  have HN := hid hn
  have HS := hid hs
  have hcap : nL ≤ c := hs.cap
  obtain ⟨s, hsz⟩ : ∃ s, w.heap.size = s := ⟨_, rfl⟩
  rw [hsz]
  obtain ⟨R, hR⟩ : ∃ R, ownR L num fw = R := ⟨_, rfl⟩
  rw [hR]
  have HR := hid hR
  clear hn hs hR
  go_enter Try.func51, Try.ntmps51
  go_wp2_with fail
  have hk0 : Blk ((w.alloc (.cells #[.int .i64 num, .int .u8 fw, .int .u64 (fn : Int), .slice fA xl fc, .int .i64 fat] 50)).alloc (.cells #[.int .i64 0, .int .i64 0, .int .i64 0] 48)) s 50 #[.int .i64 num, .int .u8 fw, .int .u64 (fn : Int), .slice fA xl fc, .int .i64 fat] := by
    rw [← hsz]; exact (Blk.new w _ _).alloc _
  have hk1 : Blk ((w.alloc (.cells #[.int .i64 num, .int .u8 fw, .int .u64 (fn : Int), .slice fA xl fc, .int .i64 fat] 50)).alloc (.cells #[.int .i64 0, .int .i64 0, .int .i64 0] 48)) (s + 1) 48 #[.int .i64 0, .int .i64 0, .int .i64 0] := by
    have h1 := Blk.new (w.alloc (.cells #[.int .i64 num, .int .u8 fw, .int .u64 (fn : Int), .slice fA xl fc, .int .i64 fat] 50)) 48 #[.int .i64 0, .int .i64 0, .int .i64 0]
    rw [World.size_alloc, hsz] at h1; exact h1
  have hb0 : Below s w ((w.alloc (.cells #[.int .i64 num, .int .u8 fw, .int .u64 (fn : Int), .slice fA xl fc, .int .i64 fat] 50)).alloc (.cells #[.int .i64 0, .int .i64 0, .int .i64 0] 48)) := by
    rw [← hsz]; exact bw_a (bw_a (Below.refl _ w) _) _
  generalize ((w.alloc (.cells #[.int .i64 num, .int .u8 fw, .int .u64 (fn : Int), .slice fA xl fc, .int .i64 fat] 50)).alloc (.cells #[.int .i64 0, .int .i64 0, .int .i64 0] 48)) = W0 at *
  have HK0 := hid hk0
  have HK1 := hid hk1
  have HB0 := hid hb0
  have HSZ := hid hsz
  clear hk0 hk1 hb0
  go_loopw [6, 7, 8, 11] (fun _ _ _ i wr => ∃ j : Nat, j ≤ nL ∧ i = .int .i64 (j : Int) ∧ ownR (L.take j) num fw = none ∧ Blk wr s 50 #[.int .i64 num, .int .u8 fw, .int .u64 (fn : Int), .slice fA xl fc, .int .i64 fat] ∧ Blk wr (s + 1) 48 #[.int .i64 0, .int .i64 0, .int .i64 0] ∧ Below s w wr) (fun _ _ _ i _ => nL - (intOf i).toNat)
  case atStart => exact ⟨0, by omega, rfl, rfl, HK0.out, HK1.out, HB0.out⟩
  case round =>
    obtain ⟨j, hj, rfl, hno, hk0, hk1, hB⟩ := hrel
    by_cases hlt : j < nL
    · have hjl : j < L.length := by have := HN.out; omega
      obtain ⟨b, off, rfl, hb, t0, t1, t2⟩ := spRow_get HN.out HS.out j hjl
      have t0 := (hB.cell (p := ⟨b, off + j * 3, none⟩) (by show b < s; omega)).trans t0
      have t1 := (hB.cell (p := ⟨b, off + j * 3 + 1, none⟩) (by show b < s; omega)).trans t1
      have t2 := (hB.cell (p := ⟨b, off + j * 3 + 2, none⟩) (by show b < s; omega)).trans t2
      have htk : L.take (j + 1) = L.take j ++ [L[j]] := List.take_succ_eq_append_getElem hjl
      have hsz2 := hB.size
      have hbw : b < wr.heap.size := by omega
      have hji : (j : Int) < (nL : Int) := by omega
      have hj0 : (0 : Int) ≤ (j : Int) := by omega
      have hown1 : ownR (L.take (j + 1)) num fw = ownR [L[j]] num fw := by
        unfold ownR at hno ⊢
        rw [htk, List.find?_append, hno]; rfl
      have hownL : ownR [L[j]] num fw = some L[j] → ownR L num fw = some L[j] := by
        intro h
        rw [h] at hown1
        have key : ownR (L.take (j + 1) ++ L.drop (j + 1)) num fw = some L[j] := by
          unfold ownR at hown1 ⊢
          rw [List.find?_append, hown1]; rfl
        rw [List.take_append_drop] at key
        exact key
      have hone : ownR [L[j]] num fw = if ((L[j].num : Int) == num && (((wireN (L[j].typ : Int) : Nat) : Int) == fw)) = true then some L[j] else none := by
        unfold ownR
        rw [List.find?_cons]
        by_cases h1 : (L[j].num : Int) = num <;> by_cases h2 : ((wireN (L[j].typ : Int) : Nat) : Int) = fw <;> simp [h1, h2]
      have hw := fun W => swire_any (L[j].typ : Int) W
      have hc0 := hk0.cell 0
      have hc1 := hk0.cell 1
      simp only [List.getElem?_toArray, List.getElem?_cons_zero, List.getElem?_cons_succ] at hc0 hc1
      have hkl := hk0.lt
      have hkl1 := hk1.lt
      have z0 := hk1.cell 0
      have z1 := hk1.cell 1
      have z2 := hk1.cell 2
      simp only [List.getElem?_toArray, List.getElem?_cons_zero, List.getElem?_cons_succ] at z0 z1 z2
      have g0 := hk1.frozen 0
      have g1 := hk1.frozen 1
      have g2 := hk1.frozen 2
      have HK0 := hid hk0
      have HK1 := hid hk1
      have HB := hid hB
      have HO1 := hid hown1
      have HOL := hid hownL
      have HOO := hid hone
      have HW := hid hw
      clear hown1 hownL hone hw hk0 hk1 hB hno htk
      generalize L[j] = r at *
      obtain ⟨rk, rsi, rn, rt, rs⟩ := r
      simp only at t0 t1 t2
      generalize wireN (rt : Int) = wn at *
      generalize wireK (rt : Int) = wk at *
      by_cases hnum : (rn : Int) = num
      · by_cases hwire : (wn : Int) = fw
        · have hR : R = some ⟨rk, rsi, rn, rt, rs⟩ := by rw [← HR.out]; exact HOL.out (by rw [HOO.out]; simp [hnum, hwire])
          subst hR
          subst hnum
          subst hwire
          go_wp2_with (go_at_call 72; refine (HW.out _).mono ?_; rintro e w' ⟨rfl, rfl⟩)
          have hkR := ((((HK1.out).set_ 0 (.int .i64 (rn : Nat))).set_ 1 (.int .i64 (rt : Nat))).set_ 2 (.int .i64 (rs : Nat))).alloc (.cells #[.int .i64 (rn : Nat), .int .i64 (rt : Nat), .int .i64 (rs : Nat)] 48)
          simp only [Array.setIfInBounds, List.size_toArray, List.length_cons, List.length_nil, Nat.reduceAdd, Nat.reduceLT, dite_true, List.set_toArray, List.set_cons_zero, List.set_cons_succ, Nat.zero_lt_succ, Nat.lt_add_one] at hkR
          have r0 := hkR.cell 0
          have r1 := hkR.cell 1
          have r2 := hkR.cell 2
          simp only [List.getElem?_toArray, List.getElem?_cons_zero, List.getElem?_cons_succ] at r0 r1 r2
          have hbR := (((HB.out.setCell (p := ⟨s + 1, 0, none⟩) (by show s ≤ s + 1; omega) (.int .i64 (rn : Nat))).setCell (p := ⟨s + 1, 1, none⟩) (by show s ≤ s + 1; omega) (.int .i64 (rt : Nat))).setCell (p := ⟨s + 1, 2, none⟩) (by show s ≤ s + 1; omega) (.int .i64 (rs : Nat))).alloc (by have := HB.out.size; simp only [World.setCell]; simp; omega) (.cells #[.int .i64 (rn : Nat), .int .i64 (rt : Nat), .int .i64 (rs : Nat)] 48)
          try simp only [Exit.inBlock, Exit.then]
          refine bodyPost_ret (v := specV ⟨rk, rsi, rn, rt, rs⟩) (by simp [results, Try.results51, go_sem, r0, r1, r2, specV]) rfl ⟨rfl, hbR⟩
        · have hne : ((wn : Int) == fw) = false := by simp; exact hwire
          subst hnum
          have hno2 : ownR (L.take (j + 1)) (rn : Int) fw = none := by rw [HO1.out, HOO.out, hne]; simp
          have HNO := hid hno2
          have HB2 := hid (HB.out.alloc (by omega) (.cells #[.int .i64 (rn : Nat), .int .i64 (rt : Nat), .int .i64 (rs : Nat)] 48))
          clear hno2
          go_wp2_with (go_at_call 72; refine (HW.out _).mono ?_; rintro e w' ⟨rfl, rfl⟩)
          go_roundw
          case rel => exact ⟨j + 1, by omega, by go_num, HNO.out, HK0.out.alloc _, HK1.out.alloc _, HB2.out⟩
          case measure => simp [intOf]; omega
      · have hne : ((rn : Int) == num) = false := by simp; exact hnum
        have hno2 : ownR (L.take (j + 1)) num fw = none := by rw [HO1.out, HOO.out, hne]; simp
        have HNO := hid hno2
        have HB2 := hid (HB.out.alloc (by omega) (.cells #[.int .i64 (rn : Nat), .int .i64 (rt : Nat), .int .i64 (rs : Nat)] 48))
        clear hno2
        go_wp2_with (go_at_call 72; refine (HW.out _).mono ?_; rintro e w' ⟨rfl, rfl⟩)
        go_roundw
        case rel => exact ⟨j + 1, by omega, by go_num, HNO.out, HK0.out.alloc _, HK1.out.alloc _, HB2.out⟩
        case measure => simp [intOf]; omega
    · obtain rfl : j = nL := by omega
      rw [List.take_of_length_le (by have := HN.out; omega)] at hno
      have hR : R = none := by rw [← HR.out]; exact hno
      subst hR
      have HK1 := hid hk1
      have HB := hid hB
      have z0 := hk1.cell 0
      have z1 := hk1.cell 1
      have z2 := hk1.cell 2
      simp only [List.getElem?_toArray, List.getElem?_cons_zero, List.getElem?_cons_succ] at z0 z1 z2
      clear hk0 hno hB
      have hkl1 := hk1.lt
      have g0 := hk1.frozen 0
      have g1 := hk1.frozen 1
      have g2 := hk1.frozen 2
      clear hk1
      go_wp2_with fail
      have hkR := (((HK1.out.set_ 0 (.int .i64 0)).set_ 1 (.int .i64 0)).set_ 2 (.int .i64 0))
      simp only [Array.setIfInBounds, List.size_toArray, List.length_cons, List.length_nil, Nat.reduceAdd, Nat.reduceLT, dite_true, List.set_toArray, List.set_cons_zero, List.set_cons_succ, Nat.zero_lt_succ, Nat.lt_add_one] at hkR
      have r0 := hkR.cell 0
      have r1 := hkR.cell 1
      have r2 := hkR.cell 2
      simp only [List.getElem?_toArray, List.getElem?_cons_zero, List.getElem?_cons_succ] at r0 r1 r2
      have hbR := ((HB.out.setCell (p := ⟨s + 1, 0, none⟩) (by show s ≤ s + 1; omega) (.int .i64 0)).setCell (p := ⟨s + 1, 1, none⟩) (by show s ≤ s + 1; omega) (.int .i64 0)).setCell (p := ⟨s + 1, 2, none⟩) (by show s ≤ s + 1; omega) (.int .i64 0)
      try simp only [Exit.inBlock, Exit.then]
      refine bodyPost_ret (v := specO none) (by simp [results, Try.results51, go_sem, r0, r1, r2, specO]) rfl ⟨rfl, hbR⟩
end Go.Proofs.Ytpmfdlghckfgiaa
set_option linter.unusedVariables false
namespace Go.Proofs.Ytpmfdlghckfgiaa
open Go.RowKit
theorem below_drwR {B : Nat} {a b : World} (h : Below B a b) : Below B a b.drew := ⟨h.os, h.tape, h.output, h.size, h.block⟩
theorem specO_cases (o : Option SRow) : ∃ a b c : Nat, specO o = .agg #[.int .i64 (a : Int), .int .i64 (b : Int), .int .i64 (c : Int)] ∧ (∀ r, o = some r → b = r.typ) := by
  cases o with
  | none => exact ⟨0, 0, 0, rfl, fun r h => by cases h⟩
  | some r => exact ⟨r.num, r.typ, r.slot, rfl, fun r' h => by injection h with h; rw [h]⟩
set_option maxRecDepth 100000 in
set_option maxHeartbeats 4000000 in
theorem rbelongs_any (k v : Int) (num fw : Int) (fn : Nat) (fA : Option Addr) (xl fc : Nat) (fat : Int) (w : World) (hk0 : 0 ≤ k) (hk : k ≤ 255) (hv1 : -9223372036854775808 ≤ v) (hv2 : v ≤ 9223372036854775807) :
    Calls Try.prog 18 #[.int .u8 k, .int .i64 v, .agg #[.int .i64 num, .int .u8 fw, .int .u64 (fn : Int), .slice fA xl fc, .int .i64 fat]] w fun e w' => e = .returned (.tuple #[specO (finS k v num), .bool (ownR (ofL k v) num fw).isSome]) ∧ Below w.heap.size w w' := by
  have hf := fun W => r8find_any k v num W hk0 hk hv1 hv2
  have hown := ownR_fin k v num fw
  obtain ⟨a, b, c, hsp, hspt⟩ := specO_cases (finS k v num)
  rw [hsp] at hf ⊢
  have hwr := fun W => rwire_any (b : Int) W
  obtain ⟨R, hR⟩ : ∃ R, (ownR (ofL k v) num fw).isSome = R := ⟨_, rfl⟩
  rw [hR]
  have hRe : R = ((finS k v num).isSome && decide (((wireD (b : Int) : Nat) : Int) = fw)) := by
    rw [← hR, hown]
    cases hq : finS k v num with
    | none => rfl
    | some r =>
      have := hspt r hq
      subst this
      simp only [Option.isSome_some, Bool.true_and]
      split <;> simp_all
  generalize (finS k v num).isSome = ok at *
  generalize wireD (b : Int) = wn at *
  obtain ⟨s, hsz⟩ : ∃ s, w.heap.size = s := ⟨_, rfl⟩
  rw [hsz]
  have HF := hid hf
  have HWR := hid hwr
  have HR := hid hRe
  have HSZ := hid hsz
  clear hf hwr hRe hR hown hsp hspt
  go_enter Try.func18, Try.ntmps18
  go_wp2_with fail
  have hk0 : Blk ((w.alloc (.cells #[.int .i64 num, .int .u8 fw, .int .u64 (fn : Int), .slice fA xl fc, .int .i64 fat] 50)).alloc (.cells #[.int .i64 0, .int .i64 0, .int .i64 0] 48)) s 50 #[.int .i64 num, .int .u8 fw, .int .u64 (fn : Int), .slice fA xl fc, .int .i64 fat] := by
    rw [← hsz]; exact (Blk.new w _ _).alloc _
  have hk1 : Blk ((w.alloc (.cells #[.int .i64 num, .int .u8 fw, .int .u64 (fn : Int), .slice fA xl fc, .int .i64 fat] 50)).alloc (.cells #[.int .i64 0, .int .i64 0, .int .i64 0] 48)) (s + 1) 48 #[.int .i64 0, .int .i64 0, .int .i64 0] := by
    have h1 := Blk.new (w.alloc (.cells #[.int .i64 num, .int .u8 fw, .int .u64 (fn : Int), .slice fA xl fc, .int .i64 fat] 50)) 48 #[.int .i64 0, .int .i64 0, .int .i64 0]
    rw [World.size_alloc, hsz] at h1; exact h1
  have hb0 : Below s w ((w.alloc (.cells #[.int .i64 num, .int .u8 fw, .int .u64 (fn : Int), .slice fA xl fc, .int .i64 fat] 50)).alloc (.cells #[.int .i64 0, .int .i64 0, .int .i64 0] 48)) := by
    rw [← hsz]; exact bw_a (bw_a (Below.refl _ w) _) _
  generalize ((w.alloc (.cells #[.int .i64 num, .int .u8 fw, .int .u64 (fn : Int), .slice fA xl fc, .int .i64 fat] 50)).alloc (.cells #[.int .i64 0, .int .i64 0, .int .i64 0] 48)) = W0 at *
  refine (HF.out W0).mono ?_
  rintro e w1 ⟨rfl, hb1⟩
  have hl0 := hk0.lt
  have hl1 := hk1.lt
  have hk0 := (hk0.below hb1 hl0).alloc (.cells #[.int .i64 (a : Int), .int .i64 (b : Int), .int .i64 (c : Int)] 48)
  have hk1 := (hk1.below hb1 hl1).alloc (.cells #[.int .i64 (a : Int), .int .i64 (b : Int), .int .i64 (c : Int)] 48)
  have hk2 := Blk.new w1 48 #[.int .i64 (a : Int), .int .i64 (b : Int), .int .i64 (c : Int)]
  have hs1 := hb1.size
  have hb2 : Below s w (w1.alloc (.cells #[.int .i64 (a : Int), .int .i64 (b : Int), .int .i64 (c : Int)] 48)) := (hb0.trans (hb1.mono (by have := hb0.size; omega))).alloc (by omega) _
  clear hb0 hb1
  obtain ⟨g, hg⟩ : ∃ g, w1.heap.size = g := ⟨_, rfl⟩
  have hz0 := HSZ.out
  have hgs : s + 2 ≤ g := by have := hk1.lt; rw [World.size_alloc] at this; have h2 := hs1; omega
  rw [hg] at hk2
  have x0 := hk2.cell 0
  have x1 := hk2.cell 1
  have x2 := hk2.cell 2
  have f1 := hk0.cell 1
  have r0 := hk1.cell 0
  have r1 := hk1.cell 1
  have r2 := hk1.cell 2
  have z0 := hk1.frozen 0
  have z1 := hk1.frozen 1
  have z2 := hk1.frozen 2
  simp only [List.getElem?_toArray, List.getElem?_cons_zero, List.getElem?_cons_succ] at x0 x1 x2 f1 r0 r1 r2
  have l0 := hk0.lt
  have l1 := hk1.lt
  have l2 := hk2.lt
  have n1 : ¬ g = s + 1 := by omega
  have n2 : ¬ s + 1 = g := by omega
  have n3 : ¬ s = s + 1 := by omega
  have n4 : ¬ s + 1 = s := by omega
  have HK1 := hid hk1
  have HB2 := hid hb2
  clear hk0 hk1 hk2 hb2 hs1
  go_wp2_with fail
  try rw [hg]
  generalize (w1.alloc (.cells #[.int .i64 (a : Int), .int .i64 (b : Int), .int .i64 (c : Int)] 48)) = W2 at *
  have HRc := HR.out
  clear HR
  cases ok
  · have hR : R = false := HRc
    clear HRc
    subst hR
    go_region
    go_wp2_with fail
    have hkR := ((((HK1.out).set_ 0 (.int .i64 (a : Int))).set_ 1 (.int .i64 (b : Int))).set_ 2 (.int .i64 (c : Int)))
    simp only [Array.setIfInBounds, List.size_toArray, List.length_cons, List.length_nil, Nat.reduceAdd, Nat.reduceLT, dite_true, List.set_toArray, List.set_cons_zero, List.set_cons_succ, Nat.zero_lt_succ, Nat.lt_add_one] at hkR
    have hbR := ((HB2.out.setCell (p := ⟨s + 1, 0, none⟩) (by show s ≤ s + 1; omega) (.int .i64 (a : Int))).setCell (p := ⟨s + 1, 1, none⟩) (by show s ≤ s + 1; omega) (.int .i64 (b : Int))).setCell (p := ⟨s + 1, 2, none⟩) (by show s ≤ s + 1; omega) (.int .i64 (c : Int))
    generalize (((W2.setCell ⟨s + 1, 0, none⟩ (.int .i64 (a : Int))).setCell ⟨s + 1, 1, none⟩ (.int .i64 (b : Int))).setCell ⟨s + 1, 2, none⟩ (.int .i64 (c : Int))) = W3 at *
    have hkD : Blk W3.drew (s + 1) 48 #[.int .i64 (a : Int), .int .i64 (b : Int), .int .i64 (c : Int)] := hkR
    have q0 := hkD.cell 0
    have q1 := hkD.cell 1
    have q2 := hkD.cell 2
    simp only [List.getElem?_toArray, List.getElem?_cons_zero, List.getElem?_cons_succ] at q0 q1 q2
    try simp only [Exit.inBlock, Exit.then]
    refine bodyPost_ret (v := .tuple #[.agg #[.int .i64 (a : Int), .int .i64 (b : Int), .int .i64 (c : Int)], .bool false]) (by simp [results, Try.results18, go_sem, q0, q1, q2]) rfl ⟨rfl, below_drwR hbR⟩
  · by_cases hw : (wn : Int) = fw
    · have hR : R = true := by rw [HRc]; simp [hw]
      clear HRc
      subst hR
      have hw1 : ((wn : Int) == fw) = true := by simp [hw]
      clear hw
      go_region_held3 (fun w' => w'.cell? ⟨g, 0, none⟩ = some (.int .i64 (a : Int)) ∧ w'.cell? ⟨g, 1, none⟩ = some (.int .i64 (b : Int)) ∧ w'.cell? ⟨g, 2, none⟩ = some (.int .i64 (c : Int)) ∧ w'.cell? ⟨s, 1, none⟩ = some (.int .u8 fw)) (first | exact ⟨x0, x1, x2, f1⟩ | go_keep) (first | (go_at_call 34; (with_reducible refine (HWR.out _).mono ?_); rintro e w' ⟨rfl, rfl⟩))
      go_wp2_with fail
      have hkR := ((((HK1.out).set_ 0 (.int .i64 (a : Int))).set_ 1 (.int .i64 (b : Int))).set_ 2 (.int .i64 (c : Int)))
      simp only [Array.setIfInBounds, List.size_toArray, List.length_cons, List.length_nil, Nat.reduceAdd, Nat.reduceLT, dite_true, List.set_toArray, List.set_cons_zero, List.set_cons_succ, Nat.zero_lt_succ, Nat.lt_add_one] at hkR
      have hbR := ((HB2.out.setCell (p := ⟨s + 1, 0, none⟩) (by show s ≤ s + 1; omega) (.int .i64 (a : Int))).setCell (p := ⟨s + 1, 1, none⟩) (by show s ≤ s + 1; omega) (.int .i64 (b : Int))).setCell (p := ⟨s + 1, 2, none⟩) (by show s ≤ s + 1; omega) (.int .i64 (c : Int))
      generalize (((W2.setCell ⟨s + 1, 0, none⟩ (.int .i64 (a : Int))).setCell ⟨s + 1, 1, none⟩ (.int .i64 (b : Int))).setCell ⟨s + 1, 2, none⟩ (.int .i64 (c : Int))) = W3 at *
      have hkD : Blk W3.drew (s + 1) 48 #[.int .i64 (a : Int), .int .i64 (b : Int), .int .i64 (c : Int)] := hkR
      have q0 := hkD.cell 0
      have q1 := hkD.cell 1
      have q2 := hkD.cell 2
      simp only [List.getElem?_toArray, List.getElem?_cons_zero, List.getElem?_cons_succ] at q0 q1 q2
      try simp only [Exit.inBlock, Exit.then]
      refine bodyPost_ret (v := .tuple #[.agg #[.int .i64 (a : Int), .int .i64 (b : Int), .int .i64 (c : Int)], .bool true]) (by simp [results, Try.results18, go_sem, q0, q1, q2]) rfl ⟨rfl, below_drwR hbR⟩
    · have hR : R = false := by rw [HRc]; simp [hw]
      clear HRc
      subst hR
      have hw1 : ((wn : Int) == fw) = false := by simp; exact hw
      clear hw
      go_region_held3 (fun w' => w'.cell? ⟨g, 0, none⟩ = some (.int .i64 (a : Int)) ∧ w'.cell? ⟨g, 1, none⟩ = some (.int .i64 (b : Int)) ∧ w'.cell? ⟨g, 2, none⟩ = some (.int .i64 (c : Int)) ∧ w'.cell? ⟨s, 1, none⟩ = some (.int .u8 fw)) (first | exact ⟨x0, x1, x2, f1⟩ | go_keep) (first | (go_at_call 34; (with_reducible refine (HWR.out _).mono ?_); rintro e w' ⟨rfl, rfl⟩))
      go_wp2_with fail
      have hkR := ((((HK1.out).set_ 0 (.int .i64 (a : Int))).set_ 1 (.int .i64 (b : Int))).set_ 2 (.int .i64 (c : Int)))
      simp only [Array.setIfInBounds, List.size_toArray, List.length_cons, List.length_nil, Nat.reduceAdd, Nat.reduceLT, dite_true, List.set_toArray, List.set_cons_zero, List.set_cons_succ, Nat.zero_lt_succ, Nat.lt_add_one] at hkR
      have hbR := ((HB2.out.setCell (p := ⟨s + 1, 0, none⟩) (by show s ≤ s + 1; omega) (.int .i64 (a : Int))).setCell (p := ⟨s + 1, 1, none⟩) (by show s ≤ s + 1; omega) (.int .i64 (b : Int))).setCell (p := ⟨s + 1, 2, none⟩) (by show s ≤ s + 1; omega) (.int .i64 (c : Int))
      generalize (((W2.setCell ⟨s + 1, 0, none⟩ (.int .i64 (a : Int))).setCell ⟨s + 1, 1, none⟩ (.int .i64 (b : Int))).setCell ⟨s + 1, 2, none⟩ (.int .i64 (c : Int))) = W3 at *
      have hkD : Blk W3.drew (s + 1) 48 #[.int .i64 (a : Int), .int .i64 (b : Int), .int .i64 (c : Int)] := hkR
      have q0 := hkD.cell 0
      have q1 := hkD.cell 1
      have q2 := hkD.cell 2
      simp only [List.getElem?_toArray, List.getElem?_cons_zero, List.getElem?_cons_succ] at q0 q1 q2
      try simp only [Exit.inBlock, Exit.then]
      refine bodyPost_ret (v := .tuple #[.agg #[.int .i64 (a : Int), .int .i64 (b : Int), .int .i64 (c : Int)], .bool false]) (by simp [results, Try.results18, go_sem, q0, q1, q2]) rfl ⟨rfl, below_drwR hbR⟩
end Go.Proofs.Ytpmfdlghckfgiaa
set_option linter.unusedVariables false
namespace Go.Proofs.Ytpmfdlghckfgiaa
open Go.RowKit Go.Shelf
attribute [local go_sem] Oper.semAt_some
theorem below_drw {B : Nat} {a b : World} (h : Below B a b) : Below B a b.drew := ⟨h.os, h.tape, h.output, h.size, h.block⟩
/-- What a round is given. -/
def LArg (pre : List FV) (L : List SRow) (j : Nat) (xs : Array Value) (W : World) : Prop := ∃ f, pre[j]? = some f ∧ xs = #[.agg (fvC f).toArray, specO (ownR L f.num f.w)]
theorem leach_in (m : Nat) (A B : Option Addr) (n c k d : Nat) (w : World) : CallsIn Fence.wide m Try.prog 30 #[.slice A n c, .slice B k d] w fun e w' => e = .returned (.func (.func 50) #[] #[.pointer (some ⟨w.heap.size, 0, none⟩), .pointer (some ⟨w.heap.size + 1, 0, none⟩)]) ∧ w' = (w.alloc (.cells #[.slice A n c] 36)).alloc (.cells #[.slice B k d] 53) := by
  refine callsIn_of_wp Try.func30 rfl trivial ?_ rfl
  simp only [Try.ntmps30, List.size_toArray, List.length_cons, List.length_nil, Nat.reduceAdd, Nat.reduceSub, Array.replicate_succ, Array.replicate_zero, List.push_toArray, List.append_toArray, List.nil_append, List.cons_append]
  gi_wp2
  go_ret
  exact ⟨rfl, rfl⟩
set_option maxRecDepth 100000 in
set_option maxHeartbeats 4000000 in
theorem leach1_in (m : Nat) (hm : 4 ≤ m) (pre : List FV) (L : List SRow) (n nL : Nat) (A AL : Option Addr) (c cL : Nat) (l Bl Bo B0 : Nat) (hn : pre.length = n) (hnL : L.length = nL) (hl : nL ≤ 1000) (J : Nat → Nat → World → Prop) (Jx : Nat → World → Prop) (W : World) (hB0 : W.heap.size = B0)
    (hJc : ∀ b j W, J b j W → Blk W Bl 36 #[.slice A n c] ∧ Blk W Bo 53 #[.slice AL nL cL] ∧ SlN W A n c 5 (pre.flatMap fvC) ∧ SlN W AL nL cL 3 (L.flatMap specC) ∧ B0 ≤ W.heap.size) (h0 : ∀ b W', B0 ≤ b → Below B0 W W' → J b 0 W') (hJn : ∀ b j W W', B0 ≤ b → J b j W → Chg (fun q => B0 ≤ q ∧ q < b) W W' → J b j W')
    (hY : ∀ b j W xs, j < n → B0 ≤ b → b ≤ W.heap.size → J b j W → LArg pre L j xs W → YieldAt Fence.wide (m - 1) Try.prog l xs W fun e W' => (e = .returned (.bool true) ∧ J b (j + 1) W' ∧ KBl B0 b W W' ∧ b ≤ W'.heap.size) ∨ (e = .returned (.bool false) ∧ Jx b W' ∧ KBl B0 b W W' ∧ b ≤ W'.heap.size)) :
    CallsIn Fence.wide m Try.prog 50 #[.func (.yield l) #[] #[], .pointer (some ⟨Bl, 0, none⟩), .pointer (some ⟨Bo, 0, none⟩)] W fun e W' => (∃ v, e = .returned v) ∧ ∃ b, B0 ≤ b ∧ (J b n W' ∨ Jx b W') := by
  have h1 : 1 ≤ m := by omega
  have hj0 := h0 B0 W (Nat.le_refl _) ⟨rfl, rfl, rfl, Nat.le_refl _, fun _ _ => rfl⟩
  obtain ⟨hbl, -, -, -, -⟩ := hJc _ _ _ hj0
  have c0 := hbl.cell 0
  simp only [List.getElem?_toArray, List.getElem?_cons_zero] at c0
  have hblt := hbl.lt
  have hncap := (hJc _ _ _ hj0).2.2.1.cap
  have hnsm := (hJc _ _ _ hj0).2.2.1.small
  have HN := hid hn
  have HNL := hid hnL
  have HY := hid hY
  have HJC := hid hJc
  have HJN := hid hJn
  have HJ0 := hid hj0
  have HZ := hid hB0
  clear hn hnL hY hJc hJn hj0 h0 hB0 hbl
  refine callsIn_of_wp Try.func50 rfl trivial ?_ rfl
  simp only [Try.ntmps50, List.size_toArray, List.length_cons, List.length_nil, Nat.reduceAdd, Nat.reduceSub, Array.replicate_succ, Array.replicate_zero, List.push_toArray, List.append_toArray, List.nil_append, List.cons_append]
  gi_wp2
  gi_loopw [5, 8] (fun _ i wr => ∃ j : Nat, j ≤ n ∧ i = .int .i64 (j : Int) ∧ J B0 j wr) (fun _ i _ => n - (intOf i).toNat)
  case atStart => exact ⟨0, by omega, rfl, HJ0.out⟩
  case round =>
    obtain ⟨j, hj, rfl, hjw⟩ := hrel
    by_cases hlt : j < n
    · have hjl : j < pre.length := by have := HN.out; omega
      have hfd : (wr.alloc (.cells (fvC pre[j]).toArray 50)).heap.size = wr.heap.size + 1 := World.size_alloc ..
      have hjc := HJC.out _ _ _ hjw
      have hca : Chg (fun _ => False) wr (wr.alloc (.cells (fvC pre[j]).toArray 50)) := (Chg.refl _ wr).alloc _
      have hja := HJN.out B0 j wr _ (Nat.le_refl _) hjw (hca.mono fun _ _ h => h.elim)
      have hn0 : (pre.flatMap fvC)[j * 5 + 0]? = _ := flatMap_get fvC 5 pre j 0 hjl (fun _ _ => rfl) (by omega)
      have hn1 : (pre.flatMap fvC)[j * 5 + 1]? = _ := flatMap_get fvC 5 pre j 1 hjl (fun _ _ => rfl) (by omega)
      have hn2 : (pre.flatMap fvC)[j * 5 + 2]? = _ := flatMap_get fvC 5 pre j 2 hjl (fun _ _ => rfl) (by omega)
      have hn3 : (pre.flatMap fvC)[j * 5 + 3]? = _ := flatMap_get fvC 5 pre j 3 hjl (fun _ _ => rfl) (by omega)
      have hn4 : (pre.flatMap fvC)[j * 5 + 4]? = _ := flatMap_get fvC 5 pre j 4 hjl (fun _ _ => rfl) (by omega)
      have hsl := hjc.2.2.1
      obtain ⟨q, off, hA, hqw, t0⟩ := hsl.rd _ _ hn0
      subst hA
      have t1 := hsl.rd.addr _ _ hn1
      have t2 := hsl.rd.addr _ _ hn2
      have t3 := hsl.rd.addr _ _ hn3
      have t4 := hsl.rd.addr _ _ hn4
      rw [addr_add] at t1 t2 t3 t4
      simp only [Nat.add_zero, ← Nat.add_assoc] at t0 t1 t2 t3 t4
      have hji : (j : Int) < (n : Int) := by omega
      have hj0 : (0 : Int) ≤ (j : Int) := by omega
      have hget : pre[j]? = some pre[j] := List.getElem?_eq_getElem hjl
      have hjca := HJC.out _ _ _ hja
      have hjca' : True ∧ B0 ≤ wr.heap.size := ⟨trivial, (HJC.out _ _ _ hjw).2.2.2.2⟩
      have hBoA := hjca.2.1
      have d0 := hBoA.cell 0
      simp only [List.getElem?_toArray, List.getElem?_cons_zero] at d0
      have hBol := hBoA.lt
      have hks := Blk.new wr 50 (fvC pre[j]).toArray
      have how := fun W' (hW : Below (wr.alloc (.cells (fvC pre[j]).toArray 50)).heap.size (wr.alloc (.cells (fvC pre[j]).toArray 50)) W') => lowner_any L nL AL cL pre[j].num pre[j].w pre[j].n pre[j].s.A pre[j].s.xs.length pre[j].s.c pre[j].at_ W' HNL.out hl (hjca.2.2.2.1.below hW)
      generalize pre[j] = f at *
      obtain ⟨fnum, fw, fn, ⟨fA, fc, fxs⟩, fat⟩ := f
      simp only [fvC] at t0 t1 t2 t3 t4 hks how hja hca hjca hBoA d0 hBol hfd
      have HGET := hid hget
      have HOW := hid how
      have HJA := hid hja
      have HCA := hid hca
      clear hn0 hn1 hn2 hn3 hn4 hsl hjc hget how hja hca hjca hjw
      have e0 := hks.cell 0
      have e1 := hks.cell 1
      have e2 := hks.cell 2
      have e3 := hks.cell 3
      have e4 := hks.cell 4
      have hkl := hks.lt
      simp only [List.getElem?_toArray, List.getElem?_cons_zero, List.getElem?_cons_succ] at e0 e1 e2 e3 e4
      clear hks hBoA
      gi_wp2
      have hbwa : B0 ≤ wr.heap.size := by have := hjca'.2; omega
      generalize hwa : (wr.alloc (.cells [Value.int .i64 fnum, .int .u8 fw, .int .u64 (fn : Int), .slice fA fxs.length fc, .int .i64 fat].toArray 50)) = wa at *
      have hfol : Try.prog.follows .mixedOrders = true := by kernel_rfl
      gi_region_with_o (first | (refine ⟨trivial, ?_⟩; gi_at_call 51; refine ((callsIn_wide (n := m - 1)).2 (HOW.out _ (by first | exact Below.refl _ _ | exact below_drw (Below.refl _ _) | exact bw_d (Below.refl _ _) _))).mono ?_; rintro e w2 ⟨rfl, hb2⟩; have hbq : Below wa.heap.size wa w2 := (by first | exact hb2 | exact (below_drw (Below.refl _ wa)).trans hb2); have e0' := (hbq.cell (p := ⟨wr.heap.size, 0, none⟩) hkl).trans e0; have e1' := (hbq.cell (p := ⟨wr.heap.size, 1, none⟩) hkl).trans e1; have e2' := (hbq.cell (p := ⟨wr.heap.size, 2, none⟩) hkl).trans e2; have e3' := (hbq.cell (p := ⟨wr.heap.size, 3, none⟩) hkl).trans e3; have e4' := (hbq.cell (p := ⟨wr.heap.size, 4, none⟩) hkl).trans e4; have hkl' := Nat.lt_of_lt_of_le hkl hbq.size; have hj2 := HJN.out B0 j wa w2 (Nat.le_refl _) HJA.out (Chg.of_new hbq); obtain ⟨fnx, tmps, assign, body, hy, hR⟩ := HY.out B0 j w2 #[.agg #[.int .i64 fnum, .int .u8 fw, .int .u64 (fn : Int), .slice fA fxs.length fc, .int .i64 fat], specO (ownR L fnum fw)] hlt (Nat.le_refl _) (by have := hbq.size; omega) hj2 ⟨_, HGET.out, rfl⟩; have HR := hid hR; clear hR hj2 hbq hb2) | (refine HR.out.mono ?_; rintro e w6 hw6; obtain ⟨bb, rfl, hw7⟩ : ∃ bb, e = .returned (.bool bb) ∧ ((bb = true ∧ J B0 (j + 1) w6) ∨ (bb = false ∧ Jx B0 w6)) := (by rcases hw6 with ⟨h1, h2, -⟩ | ⟨h1, h2, -⟩; exact ⟨true, h1, .inl ⟨rfl, h2⟩⟩; exact ⟨false, h1, .inr ⟨rfl, h2⟩⟩); clear hw6))
      all_goals
        rcases hw7 with ⟨rfl, hj6⟩ | ⟨rfl, hx6⟩
        · have HJ6 := hid hj6
          clear hj6
          gi_wp2
          go_roundw
          case rel => exact ⟨j + 1, by omega, by go_num, HJ6.out⟩
          case measure => simp [intOf]; omega
        · have HX6 := hid hx6
          clear hx6
          gi_wp2
          first | exact bodyPost_ret (results_none rfl _ _ _) rfl ⟨⟨_, rfl⟩, B0, Nat.le_refl _, .inr HX6.out⟩ | exact bodyPost_end (results_none rfl _ _ _) rfl ⟨⟨_, rfl⟩, B0, Nat.le_refl _, .inr HX6.out⟩ | exact ⟨⟨_, rfl⟩, B0, Nat.le_refl _, .inr HX6.out⟩ | trace_state
    · obtain rfl : j = n := by omega
      have HJ6 := hid hjw
      clear hjw
      gi_wp2
      first | exact bodyPost_ret (results_none rfl _ _ _) rfl ⟨⟨_, rfl⟩, B0, Nat.le_refl _, .inl HJ6.out⟩ | exact bodyPost_end (results_none rfl _ _ _) rfl ⟨⟨_, rfl⟩, B0, Nat.le_refl _, .inl HJ6.out⟩ | exact ⟨⟨_, rfl⟩, B0, Nat.le_refl _, .inl HJ6.out⟩ | trace_state
end Go.Proofs.Ytpmfdlghckfgiaa
set_option linter.unusedVariables false
namespace Go.Proofs.Ytpmfdlghckfgiaa
open Go.RowKit
theorem setM_k {m : MV} {t i : Int} {n : Nat} {s : ByteArray} (he : setE m t i s = 0) : (setM m t i n s).k = m.k := by
  unfold setM
  rw [he, if_neg (by simp)]
  split
  · rfl
  · split <;> rfl
theorem setM_num {m : MV} {t i : Int} {n : Nat} {s : ByteArray} (he : setE m t i s = 0) (j : Nat) (hj : j ≤ 5) : (setM m t i n s).num (j : Int) = if t ≤ 6 ∧ i = (j : Int) then numV t n else m.num (j : Int) := by
  have hj : j = 0 ∨ j = 1 ∨ j = 2 ∨ j = 3 ∨ j = 4 ∨ j = 5 := by omega
  unfold setM
  rw [he, if_neg (by simp)]
  by_cases h6 : t ≤ 6
  · rw [if_pos h6]
    rcases hj with rfl | rfl | rfl | rfl | rfl | rfl <;> simp [MV.setN, MV.num, h6]
  · have hc : ¬ (t ≤ 6 ∧ i = ((j : Nat) : Int)) := by omega
    rw [if_neg h6]
    split
    · try rw [if_neg hc]
      rcases hj with rfl | rfl | rfl | rfl | rfl | rfl <;> simp [MV.setS, MV.num]
    · try rw [if_neg hc]
      rcases hj with rfl | rfl | rfl | rfl | rfl | rfl <;> rfl
theorem setM_text {m : MV} {t i : Int} {n : Nat} {s : ByteArray} (he : setE m t i s = 0) (j : Nat) (hj : j ≤ 1) : (setM m t i n s).text (j : Int) = if (7 ≤ t ∧ t ≤ 9) ∧ i = (j : Int) then s else m.text (j : Int) := by
  have hj : j = 0 ∨ j = 1 := by omega
  unfold setM
  rw [he, if_neg (by simp)]
  by_cases h6 : t ≤ 6
  · rw [if_pos h6, if_neg (by omega)]
    rcases hj with rfl | rfl <;> simp [MV.setN, MV.text]
  · rw [if_neg h6]
    by_cases h9 : t ≤ 9
    · rw [if_pos h9]
      rcases hj with rfl | rfl <;> simp [MV.setS, MV.text, show 7 ≤ t by omega, h9]
    · rw [if_neg h9, if_neg (by omega)]
      rcases hj with rfl | rfl <;> rfl
theorem setM_l {m : MV} {t i : Int} {n : Nat} {s : ByteArray} (he : setE m t i s = 0) : (setM m t i n s).l = if 10 ≤ t then m.l ++ [s] else m.l := by
  unfold setM
  rw [he, if_neg (by simp)]
  by_cases h6 : t ≤ 6
  · rw [if_pos h6, if_neg (by omega)]; rfl
  · rw [if_neg h6]
    by_cases h9 : t ≤ 9
    · rw [if_pos h9, if_neg (by omega)]; rfl
    · rw [if_neg h9, if_pos (by omega)]
theorem numV_le {t : Int} {n : Nat} (h : n ≤ 18446744073709551615) : numV t n ≤ 18446744073709551615 := by
  unfold numV zagU
  split
  · omega
  · split
    · split <;> omega
    · split
      · split <;> omega
      · exact h
theorem txtE_app (most : Int) : ∀ (l : List ByteArray) (s : ByteArray), txtE most l = 0 → chk s most = 0 → txtE most (l ++ [s]) = 0
  | [], s, _, h => by simp [txtE, h]
  | x :: l, s, h, hs => by
    rw [txtE] at h
    rw [List.cons_append, txtE]
    by_cases c : chk x most = 0
    · rw [if_pos c] at h ⊢; exact txtE_app most l s h hs
    · rw [if_neg c] at h; exact absurd h c
theorem txtE_of (most : Int) : ∀ (l : List ByteArray), (∀ s ∈ l, chk s most = 0) → txtE most l = 0
  | [], _ => rfl
  | x :: l, h => by rw [txtE, if_pos (h x (List.mem_cons_self ..)), txtE_of most l fun s hs => h s (List.mem_cons_of_mem _ hs)]
/-- What holds of a message while it is read. -/
structure Good (k : Nat) (v : Int) (m : MV) : Prop where
  hk : m.k = k
  f : ∀ r ∈ ofL (k : Int) v, fldE m r = 0
  n : ∀ j : Nat, j ≤ 5 → mkN (ofL (k : Int) v) j = false → m.num (j : Int) = 0
  s : ∀ j : Nat, j ≤ 1 → mkS (ofL (k : Int) v) j = false → m.text (j : Int) = ⟨#[]⟩
  l : mkL (ofL (k : Int) v) = false → m.l = []
  len : m.l.length ≤ 64
  hn : ∀ i, m.num i ≤ 18446744073709551615
theorem ZM_num (k : Nat) (i : Int) : ({ ZM with k := k } : MV).num i = 0 := by
  unfold MV.num ZM; split <;> rfl
theorem ZM_text (k : Nat) (i : Int) : ({ ZM with k := k } : MV).text i = ⟨#[]⟩ := by
  unfold MV.text ZM; split <;> rfl
theorem good_zero (k : Nat) (v : Int) : Good k v { ZM with k := k } := by
  refine ⟨rfl, fun r hr => ?_, fun j _ _ => ZM_num k _, fun j _ _ => ZM_text k _, fun _ => rfl, by simp [ZM], fun i => by rw [ZM_num]; omega⟩
  have hk := row_num (ofL_mem _ _ hr)
  unfold fldE
  rw [if_pos]
  unfold dflB
  rw [ZM_num, ZM_text]
  split
  · simp
  · split
    · simp
    · split
      · simp [ZM]
      · rfl
theorem good_set {k : Nat} {v : Int} {m : MV} (h : Good k v m) {r : SRow} (hr : r ∈ ofL (k : Int) v) {n : Nat} {s : ByteArray} (hn : n ≤ 18446744073709551615) (h5 : r.typ = 5 → n ≤ 4294967295) (he : setE m (r.typ : Int) (r.slot : Int) s = 0) : Good k v (setM m (r.typ : Int) (r.slot : Int) n s) := by
  have hR := ofL_mem _ _ hr
  have hk := row_num hR
  have hs := row_slot hR
  have hnum := setM_num (n := n) he
  have htext := setM_text (n := n) he
  have hl := setM_l (n := n) he
  have hlen : (setM m (r.typ : Int) (r.slot : Int) n s).l.length ≤ 64 := setM_len m _ _ n s h.len
  refine ⟨by rw [setM_k he]; exact h.hk, fun q hq => ?_, fun j hj hm => ?_, fun j hj hm => ?_, fun hm => ?_, hlen, fun i => ?_⟩
  · by_cases hqr : q = r
    · subst hqr
      unfold fldE
      split
      · rfl
      · unfold wrongE
        have e1 := hnum q.slot hs.1
        have hE := he
        unfold setE at hE
        by_cases t6 : q.typ ≤ 6
        · rw [if_pos ⟨by omega, rfl⟩] at e1
          rw [e1]
          by_cases c1 : ((q.typ : Nat) : Int) = 1 ∨ ((q.typ : Nat) : Int) = 5
          · rw [if_pos c1, if_neg]
            unfold numV
            rcases c1 with c1 | c1
            · rw [if_pos c1]; omega
            · rw [if_neg (by omega), if_neg (by omega), if_neg (by omega)]
              have := h5 (by omega); omega
          · rw [if_neg c1]
            by_cases c4 : ((q.typ : Nat) : Int) = 4
            · rw [if_pos c4, if_neg]
              unfold numV
              rw [if_neg (by omega), if_pos c4]
              split <;> omega
            · rw [if_neg c4, if_neg (by omega), if_neg (by omega)]
        · by_cases t9 : q.typ ≤ 9
          · rw [plB_text (by omega) t9 (hs.2 (by omega) t9), if_neg (by simp), if_neg (by omega), if_pos (by omega)] at hE
            have e2 := htext q.slot (hs.2 (by omega) t9)
            rw [if_pos ⟨by omega, rfl⟩] at e2
            rw [if_neg (by omega), if_neg (by omega), if_pos (by omega), e2]
            exact hE
          · have h10 : ((q.typ : Nat) : Int) = 10 := by omega
            rw [h10, plB_list, if_neg (by simp), if_neg (by decide), if_neg (by decide)] at hE
            rw [h10, if_neg (by decide), if_neg (by decide), if_neg (by decide), if_pos rfl]
            by_cases c64 : 64 ≤ m.l.length
            · rw [if_pos c64] at hE; simp at hE
            · rw [if_neg c64] at hE
              rw [h10] at hl
              rw [if_pos (by decide)] at hl
              unfold lstE
              rw [h10] at hlen
              rw [if_neg (by omega), hl]
              have hx := fldE_list (by omega : q.typ = 10) (h.f q hq)
              exact txtE_app 64 m.l s (txtE_of 64 _ hx.2) hE
    · have hap := (rows_apart k v hq hr hqr).2
      have hqR := ofL_mem _ _ hq
      have hqk := row_num hqR
      have hqs := row_slot hqR
      rw [← h.f q hq]
      unfold sortN at hap
      refine fldE_dep ⟨by omega, by omega⟩ (fun g6 => ?_) (fun g7 g9 => ?_) (fun g10 => ?_)
      · rw [hnum q.slot hqs.1, if_neg]
        rintro ⟨a1, a2⟩
        apply hap
        rw [if_pos (by omega), if_pos a1]
        exact ⟨rfl, by omega⟩
      · rw [htext q.slot (hqs.2 g7 g9), if_neg]
        rintro ⟨a1, a2⟩
        apply hap
        rw [if_neg (by omega), if_pos (by omega), if_neg (by omega), if_pos (by omega)]
        exact ⟨rfl, by omega⟩
      · rw [hl, if_neg]
        intro a1
        have := lists_uni hqR hR (by have := ofL_kindN hq; have := ofL_kindN hr; omega) g10 (by omega)
        exact hqr this
  · rw [hnum j hj, if_neg]
    · exact h.n j hj hm
    · rintro ⟨a1, a2⟩
      unfold mkN at hm
      rw [List.any_eq_false] at hm
      exact hm r hr (by simp only [decide_eq_true_eq]; omega)
  · rw [htext j hj, if_neg]
    · exact h.s j hj hm
    · rintro ⟨a1, a2⟩
      unfold mkS at hm
      rw [List.any_eq_false] at hm
      exact hm r hr (by simp only [decide_eq_true_eq]; omega)
  · rw [hl, if_neg]
    · exact h.l hm
    · intro a1
      unfold mkL at hm
      rw [List.any_eq_false] at hm
      exact hm r hr (by simp only [decide_eq_true_eq]; omega)
  · rcases num_top (setM m (r.typ : Int) (r.slot : Int) n s) i with ⟨j, hj, rfl⟩ | h0
    · rw [hnum j hj]
      split
      · exact numV_le hn
      · exact h.hn _
    · rw [h0]; omega
/-- What a field that is read has. -/
def RdOk (f : RF × Nat) : Prop := f.1.n ≤ 18446744073709551615 ∧ (f.1.w = 5 → f.1.n ≤ 4294967295)
theorem good_dec {k : Nat} {v : Int} : ∀ (l : List (RF × Nat)) (m : MV), Good k v m → (∀ f ∈ l, RdOk f) → (decF (ofL (k : Int) v) m l).2.2.1 = 0 → Good k v (decF (ofL (k : Int) v) m l).1
  | [], m, h, _, _ => h
  | f :: l, m, h, hl, he => by
    cases ho : ownR (ofL (k : Int) v) f.1.num f.1.w with
    | none =>
      rw [decF_none ho] at he ⊢
      exact good_dec l m h (fun g hg => hl g (List.mem_cons_of_mem _ hg)) he
    | some r =>
      by_cases hs : setE m (r.typ : Int) (r.slot : Int) (rfS f) = 0
      · rw [decF_ok ho hs] at he ⊢
        have hm := own_mem ho
        have hf := hl f (List.mem_cons_self ..)
        refine good_dec l _ (good_set h hm.1 hf.1 (fun h5 => hf.2 ?_) hs) (fun g hg => hl g (List.mem_cons_of_mem _ hg)) he
        rw [← hm.2.2, h5]; rfl
      · rw [decF_bad ho hs] at he
        exact absurd he hs
end Go.Proofs.Ytpmfdlghckfgiaa
