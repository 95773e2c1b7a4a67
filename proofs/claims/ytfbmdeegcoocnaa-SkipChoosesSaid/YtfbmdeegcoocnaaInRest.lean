/- The inlet's own parts: rest, At, Left, number. -/
import Derived.Test.YtfbmdeegcoocnaaProg
import Derived.Test.YtfbmdeegcoocnaaBase
import Derived.Test.YtfbmdeegcoocnaaOnly
import Derived.Test.YtfbmdeegcoocnaaAll
import Derived.Deep.QuietTactic
import Derived.BigQuiet
set_option linter.unusedVariables false
namespace Go.Proofs.Ytfbmdeegcoocnaa
open Go.RowKit
/-- A reader of type t in block q: its bytes and its place. -/
structure Rin (t : TypeId) (w : World) (q : Nat) (A : Option Addr) (c : Nat) (bs : List UInt8) (p : Nat) : Prop where
  blk : Blk w q t #[.slice A bs.length c, .int .i64 (p : Int)]
  sl : Sl w A c (bs.map bv)
  le : p ≤ bs.length
  far : Far A bs.length q
theorem Rin.cap {t : TypeId} {w : World} {q : Nat} {A : Option Addr} {c : Nat} {bs : List UInt8} {p : Nat} (h : Rin t w q A c bs p) : bs.length ≤ c := by have := h.sl.cap; simpa using this
theorem Rin.move {t : TypeId} {w w' : World} {q : Nat} {A : Option Addr} {c : Nat} {bs : List UInt8} {p p' : Nat} (h : Rin t w q A c bs p) (ho : Only q w w') (hb : Blk w' q t #[.slice A bs.length c, .int .i64 (p' : Int)]) (hp : p' ≤ bs.length) : Rin t w' q A c bs p' :=
  ⟨hb, ho.sl h.sl h.far (by simp), hp, h.far⟩
theorem Rin.other {t : TypeId} {w w' : World} {q q' : Nat} {A : Option Addr} {c : Nat} {bs : List UInt8} {p : Nat} (h : Rin t w q A c bs p) (ho : Only q' w w') (hq : q ≠ q') (hf : Far A bs.length q') : Rin t w' q A c bs p :=
  ⟨ho.blk h.blk hq, ho.sl h.sl hf (by simp), h.le, h.far⟩
theorem Rin.below {t : TypeId} {w w' : World} {q : Nat} {A : Option Addr} {c : Nat} {bs : List UInt8} {p : Nat} (h : Rin t w q A c bs p) (hb : Below w.heap.size w w') : Rin t w' q A c bs p :=
  ⟨h.blk.below hb h.blk.lt, h.sl.below hb, h.le, h.far⟩
/-- The slice from a place on, as the model cuts it. -/
def cutA (A : Option Addr) (c p : Nat) : Option Addr := if c = p then A else A.map fun a => a.add p
theorem Sl.cut {w : World} {A : Option Addr} {c : Nat} {bs : List UInt8} (h : Sl w A c (bs.map bv)) (p : Nat) (hp : p ≤ bs.length) : Sl w (cutA A c p) (c - p) ((bs.drop p).map bv) := by
  have hc := h.cap
  simp only [List.length_map] at hc
  refine ⟨by simp; omega, by have := h.small; omega, ?_, ?_⟩
  · intro hn
    unfold cutA at hn
    split at hn
    · have := h.nil0 hn; omega
    · cases A with
      | none => have := h.nil0 rfl; omega
      | some a => simp at hn
  · unfold cutA
    split
    · rename_i he
      have : p = bs.length := by omega
      subst this
      rw [List.drop_length]; exact Rd.nil_ _ _
    · cases A with
      | none => have := h.rd.none_nil; simp at this; subst this; simp; exact Rd.nil_ _ _
      | some a =>
        intro j u hj
        obtain ⟨b, off, he, hl, hcell⟩ := h.rd (p + j) u (by rw [← List.getElem?_drop, ← List.map_drop]; exact hj)
        injection he with he
        subst he
        refine ⟨b, off + p, ?_, hl, by rw [Nat.add_assoc]; exact hcell⟩
        simp [addr_add]
theorem Far.cut {w : World} {A : Option Addr} {q c p n : Nat} {bs : List UInt8} (h : Far A bs.length q) (hs : Sl w A c (bs.map bv)) (hn : n ≤ bs.length) : Far (cutA A c p) n q := by
  intro hpos b off he
  obtain ⟨b', off', hA, _⟩ := hs.rd 0 (bv (bs[0]'(by omega))) (by simp [List.getElem?_eq_getElem (show 0 < bs.length by omega)])
  subst hA
  have hne := h (by omega) b' off' rfl
  unfold cutA at he
  split at he
  · injection he with he; injection he with h1 h2; omega
  · simp only [Option.map_some, addr_add] at he
    injection he with he; injection he with h1 h2; omega
set_option maxRecDepth 100000 in
set_option maxHeartbeats 1000000 in
theorem irest_any (w : World) (q : Nat) (A : Option Addr) (c : Nat) (bs : List UInt8) (p : Nat) (h : Rin 113 w q A c bs p) :
    Calls Try.prog 114 #[.pointer (some ⟨q, 0, none⟩)] w fun e w' => e = .returned (.slice (cutA A c p) (bs.length - p) (c - p)) ∧ ∃ n, w' = w.drewN n := by
  have hcap := h.cap
  have hsm := h.sl.small
  have hle := h.le
  have c0 := h.blk.cell 0
  have c1 := h.blk.cell 1
  simp at c0 c1
  generalize bs.length = n at *
  go_enter Try.func114, Try.ntmps114
  go_wp2
  go_quiet (fail)
  go_wp2
  · go_ret
    exact ⟨by simp [cutA], _, rfl⟩
  · go_ret
    exact ⟨by simp [cutA]; intro e; exact absurd e ‹_›, _, rfl⟩
set_option maxRecDepth 100000 in
set_option maxHeartbeats 1000000 in
theorem inum_any (w : World) (q : Nat) (A : Option Addr) (c : Nat) (bs : List UInt8) (p : Nat) (h : Rin 113 w q A c bs p) :
    Calls Try.prog 101 #[.pointer (some ⟨q, 0, none⟩)] w fun e w' => e = .returned (.tuple #[.int .u64 (M.get (bs.drop p)).1, .int .i64 (M.get (bs.drop p)).2.2]) ∧ Rin 113 w' q A c bs (p + (M.get (bs.drop p)).2.1) ∧ Only q w w' := by
  have hcap := h.cap
  have hsm := h.sl.small
  have hle := h.le
  have hf := M.get_facts (bs.drop p)
  have hk : (M.get (bs.drop p)).2.1 ≤ bs.length - p := by
    by_cases he : (M.get (bs.drop p)).2.2 = 0
    · have := (hf.1 he).2.2.1; simpa using this
    · have := (hf.2 he).2.1; omega
  have hget := fun n => get_at (bs.drop p) (bs.length - p) (cutA A c p) (c - p) (w.drewN n) (by simp) (by omega) ((h.sl.cut p hle).rd.drewN n)
  have hrest := irest_any w q A c bs p h
  generalize M.get (bs.drop p) = g at *
  obtain ⟨v, k, e⟩ := g
  simp only at hk hget
  have HG := hid hget
  have HR := hid hrest
  have HRin := hid h
  have b1 := h.blk
  have l1 := b1.lt
  clear hget hrest hf h
  have c1 : w.cell? ⟨q, 1, none⟩ = some (.int .i64 (p : Int)) := by simpa using b1.cell 1
  have f1 := b1.frozen 1
  have B1 := hid b1
  clear b1
  generalize hN : bs.length = N at *
  go_enter Try.func101, Try.ntmps101
  go_wp2_with fail
  refine HR.out.mono ?_
  rintro e1 w1 ⟨rfl, n, rfl⟩
  go_wp2_with fail
  refine (HG.out n).mono ?_
  rintro e2 w2 ⟨rfl, rfl⟩
  go_wp2_with fail
  go_ret2
  have ho : Only q w ((w.drewN n).setCell ⟨q, 1, none⟩ (.int .i64 ((p : Int) + (k : Int)))) := ((Only.refl q w).drewN n).set_ 1 _
  refine ⟨rfl, ?_, ho⟩
  have hb2 : Blk (w.drewN n) q 113 #[.slice A N c, .int .i64 (p : Int)] := B1.out
  have hb3 := hb2.set_ 1 (.int .i64 ((p : Int) + (k : Int)))
  refine HRin.out.move ho ?_ (by omega)
  simpa [hN] using hb3
end Go.Proofs.Ytfbmdeegcoocnaa
