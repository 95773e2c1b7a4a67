/- The inlet's own parts: rest, At, Left, number. · The inlet's own parts: At, Left, four, eight, next, counted, head. · The inlet's At. · The inlet's own parts: next, counted. · What the inlet tells: told, at each kind, and the methods that read. · The inlet's methods that read bytes: Bytes, Take. · The inlet's tag: head, told, Tag. · inlet.New, and what a reader that is nil answers. · A region that draws: a call in its midst, and behind it whatever only reads, in one walk. -/
import Derived.Test.YtnfodgjihdoncaaProg
import Derived.Test.YtnfodgjihdoncaaM1
import Derived.Test.YtnfodgjihdoncaaM2
import Derived.Deep.QuietTactic
import Derived.BigQuiet
import Derived.Deep.RegionHeld3
import Derived.StillTailTactics
import Derived.Lib.SliceRun
set_option linter.unusedVariables false
namespace Go.Proofs.Ytnfodgjihdoncaa
open Go.RowKit
/-- A reader of type t in block q: its bytes and its place. -/
structure Rin (t : TypeId) (w : World) (q : Nat) (A : Option Addr) (c : Nat) (bs : List UInt8) (p : Nat) : Prop where
  blk : Blk w q t #[.slice A bs.length c, .int .i64 (p : Int)]
  sl : Sl w A c (bs.map bv)
  le : p ≤ bs.length
  far : Far A bs.length q
theorem Rin.cap {t : TypeId} {w : World} {q : Nat} {A : Option Addr} {c : Nat} {bs : List UInt8} {p : Nat} (h : Rin t w q A c bs p) : bs.length ≤ c := by have := h.sl.cap; simpa using this
theorem Rin.move {t : TypeId} {w w' : World} {q : Nat} {A : Option Addr} {c : Nat} {bs : List UInt8} {p p' : Nat} (h : Rin t w q A c bs p) (ho : Only q w w') (hb : Blk w' q t #[.slice A bs.length c, .int .i64 (p' : Int)]) (hp : p' ≤ bs.length) : Rin t w' q A c bs p' :=
  ⟨hb, ho.sl h.sl h.far (by simp), hp, h.far⟩
theorem Rin.other {t : TypeId} {w w' : World} {q q' : Nat} {A : Option Addr} {c : Nat} {bs : List UInt8} {p : Nat} (h : Rin t w q A c bs p) (ho : Only q' w w') (hq : q ≠ q') (hf : Far A bs.length q') : Rin t w' q A c bs p :=
  ⟨ho.blk h.blk hq, ho.sl h.sl hf (by simp), h.le, h.far⟩
theorem Rin.below {t : TypeId} {w w' : World} {q : Nat} {A : Option Addr} {c : Nat} {bs : List UInt8} {p : Nat} (h : Rin t w q A c bs p) (hb : Below w.heap.size w w') : Rin t w' q A c bs p :=
  ⟨h.blk.below hb h.blk.lt, h.sl.below hb, h.le, h.far⟩
/-- The slice from a place on, as the model cuts it. -/
def cutA (A : Option Addr) (c p : Nat) : Option Addr := if c = p then A else A.map fun a => a.add p
theorem Sl.cut {w : World} {A : Option Addr} {c : Nat} {bs : List UInt8} (h : Sl w A c (bs.map bv)) (p : Nat) (hp : p ≤ bs.length) : Sl w (cutA A c p) (c - p) ((bs.drop p).map bv) := by
  have hc := h.cap
  simp only [List.length_map] at hc
  refine ⟨by simp; omega, by have := h.small; omega, ?_, ?_⟩
  · intro hn
    unfold cutA at hn
    split at hn
    · have := h.nil0 hn; omega
    · cases A with
      | none => have := h.nil0 rfl; omega
      | some a => simp at hn
  · unfold cutA
    split
    · rename_i he
      have : p = bs.length := by omega
      subst this
      rw [List.drop_length]; exact Rd.nil_ _ _
    · cases A with
      | none => have := h.rd.none_nil; simp at this; subst this; simp; exact Rd.nil_ _ _
      | some a =>
        intro j u hj
        obtain ⟨b, off, he, hl, hcell⟩ := h.rd (p + j) u (by rw [← List.getElem?_drop, ← List.map_drop]; exact hj)
        injection he with he
        subst he
        refine ⟨b, off + p, ?_, hl, by rw [Nat.add_assoc]; exact hcell⟩
        simp [addr_add]
theorem Far.cut {w : World} {A : Option Addr} {q c p n : Nat} {bs : List UInt8} (h : Far A bs.length q) (hs : Sl w A c (bs.map bv)) (hn : n ≤ bs.length) : Far (cutA A c p) n q := by
  intro hpos b off he
  obtain ⟨b', off', hA, _⟩ := hs.rd 0 (bv (bs[0]'(by omega))) (by simp [List.getElem?_eq_getElem (show 0 < bs.length by omega)])
  subst hA
  have hne := h (by omega) b' off' rfl
  unfold cutA at he
  split at he
  · injection he with he; injection he with h1 h2; omega
  · simp only [Option.map_some, addr_add] at he
    injection he with he; injection he with h1 h2; omega
set_option maxRecDepth 100000 in
set_option maxHeartbeats 1000000 in
theorem irest_any (w : World) (q : Nat) (A : Option Addr) (c : Nat) (bs : List UInt8) (p : Nat) (h : Rin 210 w q A c bs p) :
    Calls Try.prog 165 #[.pointer (some ⟨q, 0, none⟩)] w fun e w' => e = .returned (.slice (cutA A c p) (bs.length - p) (c - p)) ∧ ∃ n, w' = w.drewN n := by
  have hcap := h.cap
  have hsm := h.sl.small
  have hle := h.le
  have c0 := h.blk.cell 0
  have c1 := h.blk.cell 1
  simp at c0 c1
  generalize bs.length = n at *
  go_enter Try.func165, Try.ntmps165
  go_wp2
  go_quiet (fail)
  go_wp2
  · go_ret
    exact ⟨by simp [cutA], _, rfl⟩
  · go_ret
    exact ⟨by simp [cutA]; intro e; exact absurd e ‹_›, _, rfl⟩
set_option maxRecDepth 100000 in
set_option maxHeartbeats 1000000 in
theorem inum_any (w : World) (q : Nat) (A : Option Addr) (c : Nat) (bs : List UInt8) (p : Nat) (h : Rin 210 w q A c bs p) :
    Calls Try.prog 152 #[.pointer (some ⟨q, 0, none⟩)] w fun e w' => e = .returned (.tuple #[.int .u64 (M.get (bs.drop p)).1, .int .i64 (M.get (bs.drop p)).2.2]) ∧ Rin 210 w' q A c bs (p + (M.get (bs.drop p)).2.1) ∧ Only q w w' := by
  have hcap := h.cap
  have hsm := h.sl.small
  have hle := h.le
  have hf := M.get_facts (bs.drop p)
  have hk : (M.get (bs.drop p)).2.1 ≤ bs.length - p := by
    by_cases he : (M.get (bs.drop p)).2.2 = 0
    · have := (hf.1 he).2.2.1; simpa using this
    · have := (hf.2 he).2.1; omega
  have hget := fun n => get_at (bs.drop p) (bs.length - p) (cutA A c p) (c - p) (w.drewN n) (by simp) (by omega) ((h.sl.cut p hle).rd.drewN n)
  have hrest := irest_any w q A c bs p h
  generalize M.get (bs.drop p) = g at *
  obtain ⟨v, k, e⟩ := g
  simp only at hk hget
  have HG := hid hget
  have HR := hid hrest
  have HRin := hid h
  have b1 := h.blk
  have l1 := b1.lt
  clear hget hrest hf h
  have c1 : w.cell? ⟨q, 1, none⟩ = some (.int .i64 (p : Int)) := by simpa using b1.cell 1
  have f1 := b1.frozen 1
  have B1 := hid b1
  clear b1
  generalize hN : bs.length = N at *
  go_enter Try.func152, Try.ntmps152
  go_wp2_with fail
  refine HR.out.mono ?_
  rintro e1 w1 ⟨rfl, n, rfl⟩
  go_wp2_with fail
  refine (HG.out n).mono ?_
  rintro e2 w2 ⟨rfl, rfl⟩
  go_wp2_with fail
  go_ret2
  have ho : Only q w ((w.drewN n).setCell ⟨q, 1, none⟩ (.int .i64 ((p : Int) + (k : Int)))) := ((Only.refl q w).drewN n).set_ 1 _
  refine ⟨rfl, ?_, ho⟩
  have hb2 : Blk (w.drewN n) q 210 #[.slice A N c, .int .i64 (p : Int)] := B1.out
  have hb3 := hb2.set_ 1 (.int .i64 ((p : Int) + (k : Int)))
  refine HRin.out.move ho ?_ (by omega)
  simpa [hN] using hb3
end Go.Proofs.Ytnfodgjihdoncaa
set_option linter.unusedVariables false
namespace Go.Proofs.Ytnfodgjihdoncaa
open Go.RowKit
theorem ileft_any (w : World) (q : Nat) (A : Option Addr) (c : Nat) (bs : List UInt8) (p : Nat) (h : Rin 210 w q A c bs p) :
    Calls Try.prog 125 #[.pointer (some ⟨q, 0, none⟩)] w fun e w' => e = .returned (.int .i64 ((bs.length - p : Nat) : Int)) ∧ ∃ n, w' = w.drewN n := by
  have hcap := h.cap
  have hsm := h.sl.small
  have hle := h.le
  have c0 := h.blk.cell 0
  have c1 := h.blk.cell 1
  simp at c0 c1
  clear h
  generalize bs.length = n at *
  have hc : ((n - p : Nat) : Int) = (n : Int) - (p : Int) := by omega
  have HC := hid hc
  clear hc
  go_enter Try.func125, Try.ntmps125
  go_wp2
  go_quiet (fail)
  go_wp2
  go_ret
  exact ⟨ret_int (by rw [HC.out]), _, rfl⟩
theorem ileft_nil (w : World) :
    Calls Try.prog 125 #[.pointer none] w fun e w' => e = .returned (.int .i64 0) ∧ w = w' := by
  go_enter Try.func125, Try.ntmps125
  go_wp2
  go_ret
  exact ⟨rfl, rfl⟩
/-- So many bytes, read as a number: it, what is wrong, and the place behind. -/
def rFix (k : Nat) (bs : List UInt8) (p : Nat) : Nat × Nat × Nat := if bs.length - p < k then (0, 4, p) else (unfixN ((bs.drop p).take k), 0, p + k)
theorem g32_at (bs : List UInt8) (n : Nat) (A : Option Addr) (c : Nat) (w : World) (hn : bs.length = n) (hR : Sl w A c (bs.map bv)) :
    Calls Try.prog 128 #[.slice A n c] w fun e w' => e = .returned (.tuple #[.int .u32 (if n < 4 then 0 else unfixN (bs.take 4)), .int .i64 (if n < 4 then 4 else 0)]) ∧ w = w' := by
  subst hn; exact get32_any bs A c w hR
theorem g64_at (bs : List UInt8) (n : Nat) (A : Option Addr) (c : Nat) (w : World) (hn : bs.length = n) (hR : Sl w A c (bs.map bv)) :
    Calls Try.prog 166 #[.slice A n c] w fun e w' => e = .returned (.tuple #[.int .u64 (if n < 8 then 0 else unfixN (bs.take 8)), .int .i64 (if n < 8 then 4 else 0)]) ∧ w = w' := by
  subst hn; exact get64_any bs A c w hR
set_option maxRecDepth 100000 in
set_option maxHeartbeats 1000000 in
theorem ifour_any (w : World) (q : Nat) (A : Option Addr) (c : Nat) (bs : List UInt8) (p : Nat) (h : Rin 210 w q A c bs p) :
    Calls Try.prog 158 #[.pointer (some ⟨q, 0, none⟩)] w fun e w' => e = .returned (.tuple #[.int .u32 ((rFix 4 bs p).1 : Nat), .int .i64 ((rFix 4 bs p).2.1 : Nat)]) ∧ Rin 210 w' q A c bs (rFix 4 bs p).2.2 ∧ Only q w w' := by
  have hcap := h.cap
  have hsm := h.sl.small
  have hle := h.le
  have hget := fun n => g32_at (bs.drop p) (bs.length - p) (cutA A c p) (c - p) (w.drewN n) (by simp) ((h.sl.cut p hle).drewN n)
  have hrest := irest_any w q A c bs p h
  have hr : rFix 4 bs p = if bs.length - p < 4 then (0, 4, p) else (unfixN ((bs.drop p).take 4), 0, p + 4) := rfl
  have HR := hid hrest
  have HRin := hid h
  have b1 := h.blk
  have l1 := b1.lt
  clear hrest h
  have c1 : w.cell? ⟨q, 1, none⟩ = some (.int .i64 (p : Int)) := by simpa using b1.cell 1
  have f1 := b1.frozen 1
  have B1 := hid b1
  clear b1
  generalize hN : bs.length = N at *
  by_cases hlt : N - p < 4
  · rw [if_pos hlt] at hr
    simp only [hlt, if_true] at hget
    rw [hr]
    have HG := hid hget
    clear hget hr
    go_enter Try.func158, Try.ntmps158
    go_wp2_with fail
    refine HR.out.mono ?_
    rintro e1 w1 ⟨rfl, n, rfl⟩
    go_wp2_with fail
    refine (HG.out n).mono ?_
    rintro e2 w2 ⟨rfl, rfl⟩
    go_wp2_with fail
    go_ret2
    exact ⟨rfl, HRin.out.move ((Only.refl q w).drewN n) (by rw [hN]; exact B1.out) (by omega), (Only.refl q w).drewN n⟩
  · rw [if_neg hlt] at hr
    simp only [hlt, if_false] at hget
    rw [hr]
    generalize unfixN ((bs.drop p).take 4) = v at *
    have HG := hid hget
    clear hget hr
    go_enter Try.func158, Try.ntmps158
    go_wp2_with fail
    refine HR.out.mono ?_
    rintro e1 w1 ⟨rfl, n, rfl⟩
    go_wp2_with fail
    refine (HG.out n).mono ?_
    rintro e2 w2 ⟨rfl, rfl⟩
    go_wp2_with fail
    go_ret2
    have ho : Only q w ((w.drewN n).setCell ⟨q, 1, none⟩ (.int .i64 ((p : Int) + 4))) := ((Only.refl q w).drewN n).set_ 1 _
    refine ⟨rfl, ?_, ho⟩
    have hb2 : Blk (w.drewN n) q 210 #[.slice A N c, .int .i64 (p : Int)] := B1.out
    have hb3 := hb2.set_ 1 (.int .i64 ((p : Int) + 4))
    refine HRin.out.move ho ?_ (by omega)
    simpa [hN] using hb3
set_option maxRecDepth 100000 in
set_option maxHeartbeats 1000000 in
theorem ieight_any (w : World) (q : Nat) (A : Option Addr) (c : Nat) (bs : List UInt8) (p : Nat) (h : Rin 210 w q A c bs p) :
    Calls Try.prog 153 #[.pointer (some ⟨q, 0, none⟩)] w fun e w' => e = .returned (.tuple #[.int .u64 ((rFix 8 bs p).1 : Nat), .int .i64 ((rFix 8 bs p).2.1 : Nat)]) ∧ Rin 210 w' q A c bs (rFix 8 bs p).2.2 ∧ Only q w w' := by
  have hcap := h.cap
  have hsm := h.sl.small
  have hle := h.le
  have hget := fun n => g64_at (bs.drop p) (bs.length - p) (cutA A c p) (c - p) (w.drewN n) (by simp) ((h.sl.cut p hle).drewN n)
  have hrest := irest_any w q A c bs p h
  have hr : rFix 8 bs p = if bs.length - p < 8 then (0, 4, p) else (unfixN ((bs.drop p).take 8), 0, p + 8) := rfl
  have HR := hid hrest
  have HRin := hid h
  have b1 := h.blk
  have l1 := b1.lt
  clear hrest h
  have c1 : w.cell? ⟨q, 1, none⟩ = some (.int .i64 (p : Int)) := by simpa using b1.cell 1
  have f1 := b1.frozen 1
  have B1 := hid b1
  clear b1
  generalize hN : bs.length = N at *
  by_cases hlt : N - p < 8
  · rw [if_pos hlt] at hr
    simp only [hlt, if_true] at hget
    rw [hr]
    have HG := hid hget
    clear hget hr
    go_enter Try.func153, Try.ntmps153
    go_wp2_with fail
    refine HR.out.mono ?_
    rintro e1 w1 ⟨rfl, n, rfl⟩
    go_wp2_with fail
    refine (HG.out n).mono ?_
    rintro e2 w2 ⟨rfl, rfl⟩
    go_wp2_with fail
    go_ret2
    exact ⟨rfl, HRin.out.move ((Only.refl q w).drewN n) (by rw [hN]; exact B1.out) (by omega), (Only.refl q w).drewN n⟩
  · rw [if_neg hlt] at hr
    simp only [hlt, if_false] at hget
    rw [hr]
    generalize unfixN ((bs.drop p).take 8) = v at *
    have HG := hid hget
    clear hget hr
    go_enter Try.func153, Try.ntmps153
    go_wp2_with fail
    refine HR.out.mono ?_
    rintro e1 w1 ⟨rfl, n, rfl⟩
    go_wp2_with fail
    refine (HG.out n).mono ?_
    rintro e2 w2 ⟨rfl, rfl⟩
    go_wp2_with fail
    go_ret2
    have ho : Only q w ((w.drewN n).setCell ⟨q, 1, none⟩ (.int .i64 ((p : Int) + 8))) := ((Only.refl q w).drewN n).set_ 1 _
    refine ⟨rfl, ?_, ho⟩
    have hb2 : Blk (w.drewN n) q 210 #[.slice A N c, .int .i64 (p : Int)] := B1.out
    have hb3 := hb2.set_ 1 (.int .i64 ((p : Int) + 8))
    refine HRin.out.move ho ?_ (by omega)
    simpa [hN] using hb3
end Go.Proofs.Ytnfodgjihdoncaa
set_option linter.unusedVariables false
namespace Go.Proofs.Ytnfodgjihdoncaa
open Go.RowKit
theorem iat_any (t : TypeId) (w : World) (q : Nat) (A : Option Addr) (c : Nat) (bs : List UInt8) (p : Nat) (h : Rin 210 w q A c bs p) :
    Calls Try.prog 137 #[.pointer (some ⟨q, 0, none⟩)] w fun e w' => e = .returned (.int .i64 (p : Int)) ∧ w = w' := by
  have c1 : w.cell? ⟨q, 1, none⟩ = some (.int .i64 (p : Int)) := by simpa using h.blk.cell 1
  clear h
  go_enter Try.func137, Try.ntmps137
  go_wp2
  go_ret
  exact ⟨rfl, rfl⟩
theorem iat_nil (w : World) :
    Calls Try.prog 137 #[.pointer none] w fun e w' => e = .returned (.int .i64 0) ∧ w = w' := by
  go_enter Try.func137, Try.ntmps137
  go_wp2
  go_ret
  exact ⟨rfl, rfl⟩
end Go.Proofs.Ytnfodgjihdoncaa
set_option linter.unusedVariables false
namespace Go.Proofs.Ytnfodgjihdoncaa
open Go.RowKit
/-- So many bytes: they, what is wrong, and the place behind. -/
def rTake (n : Int) (bs : List UInt8) (p : Nat) : List UInt8 × Nat × Nat :=
  if n < 0 then ([], 1, p) else if ((bs.length - p : Nat) : Int) < n then ([], 4, p) else ((bs.drop p).take n.toNat, 0, p + n.toNat)
theorem rTake_neg {n : Int} {bs : List UInt8} {p : Nat} (h : n < 0) : rTake n bs p = ([], 1, p) := by rw [rTake, if_pos h]
theorem rTake_short {n : Int} {bs : List UInt8} {p : Nat} (h : ¬ n < 0) (h2 : ((bs.length - p : Nat) : Int) < n) : rTake n bs p = ([], 4, p) := by rw [rTake, if_neg h, if_pos h2]
theorem rTake_ok {n : Int} {bs : List UInt8} {p : Nat} (h : ¬ n < 0) (h2 : ¬ ((bs.length - p : Nat) : Int) < n) : rTake n bs p = ((bs.drop p).take n.toNat, 0, p + n.toNat) := by rw [rTake, if_neg h, if_neg h2]
/-- A piece of a slice. -/
theorem Sl.piece {w : World} {A : Option Addr} {c : Nat} {bs : List UInt8} (h : Sl w A c (bs.map bv)) (p m : Nat) (hp : p + m ≤ bs.length) : Sl w (cutA A (p + m) p) m (((bs.drop p).take m).map bv) := by
  have hc := h.cap
  simp only [List.length_map] at hc
  have hl : ((bs.drop p).take m).length = m := by simp; omega
  refine ⟨by simp; omega, by have := h.small; omega, ?_, ?_⟩
  · intro hn
    unfold cutA at hn
    split at hn
    · omega
    · cases A with
      | none => have := h.nil0 rfl; omega
      | some a => simp at hn
  · unfold cutA
    split
    · have : m = 0 := by omega
      subst this
      simp; exact Rd.nil_ _ _
    · cases A with
      | none => have := h.rd.none_nil; simp at this; subst this; simp; exact Rd.nil_ _ _
      | some a =>
        intro j u hj
        rw [List.map_take, List.getElem?_take] at hj
        split at hj
        · obtain ⟨b, off, he, hl, hcell⟩ := h.rd (p + j) u (by rw [← List.getElem?_drop, ← List.map_drop]; exact hj)
          injection he with he
          subst he
          refine ⟨b, off + p, ?_, hl, by rw [Nat.add_assoc]; exact hcell⟩
          simp [addr_add]
        · cases hj
theorem Blk.drewN {w : World} {g : Nat} {t : TypeId} {cs : Array Value} (h : Blk w g t cs) (n : Nat) : Blk (w.drewN n) g t cs := h
theorem Far.cutP {w : World} {A : Option Addr} {q c d p n N : Nat} {bs : List UInt8} (h : Far A N q) (hs : Sl w A c (bs.map bv)) (hn : n ≤ N) (hN : bs.length = N := by assumption) : Far (cutA A d p) n q := by
  subst hN
  intro hpos b off he
  obtain ⟨b', off', hA, _⟩ := hs.rd 0 (bv (bs[0]'(by omega))) (by simp [List.getElem?_eq_getElem (show 0 < bs.length by omega)])
  subst hA
  have hne := h (by omega) b' off' rfl
  unfold cutA at he
  split at he
  · injection he with he; injection he with h1 h2; omega
  · simp only [Option.map_some, addr_add] at he
    injection he with he; injection he with h1 h2; omega
set_option maxRecDepth 100000 in
set_option maxHeartbeats 1000000 in
theorem inext_any (n : Int) (w : World) (q : Nat) (A : Option Addr) (c : Nat) (bs : List UInt8) (p : Nat) (hn1 : -9223372036854775808 ≤ n) (hn2 : n ≤ 9223372036854775807) (h : Rin 210 w q A c bs p) :
    Calls Try.prog 167 #[.pointer (some ⟨q, 0, none⟩), .int .i64 n] w fun e w' => ∃ A' c', e = .returned (.tuple #[.slice A' (rTake n bs p).1.length c', .int .i64 ((rTake n bs p).2.1 : Nat)]) ∧ Sl w' A' c' ((rTake n bs p).1.map bv) ∧ (∀ q', Far A bs.length q' → Far A' (rTake n bs p).1.length q') ∧ Rin 210 w' q A c bs (rTake n bs p).2.2 ∧ Only q w w' := by
  have hcap := h.cap
  have hsm := h.sl.small
  have hle := h.le
  by_cases a1 : n < 0
  · rw [rTake_neg a1]
    have HRin := hid h
    clear h
    go_enter Try.func167, Try.ntmps167
    go_wp2_with fail
    go_ret2
    exact ⟨none, 0, rfl, Sl.nil_ _, fun q' _ hp => by simp at hp, HRin.out, Only.refl _ _⟩
  have hleft := ileft_any w q A c bs p h
  have HL := hid hleft
  have HRin := hid h
  have b1 := h.blk
  clear hleft h
  by_cases a2 : ((bs.length - p : Nat) : Int) < n
  · rw [rTake_short a1 a2]
    generalize ((bs.length - p : Nat) : Int) = lf at *
    clear b1
    go_enter Try.func167, Try.ntmps167
    go_wp2_with fail
    refine HL.out.mono ?_
    rintro e1 w1 ⟨rfl, k, rfl⟩
    go_wp2_with fail
    go_ret2
    exact ⟨none, 0, rfl, Sl.nil_ _, fun q' _ hp => by simp at hp, HRin.out.below (below_drewN (Below.refl _ _) k), (Only.refl _ _).drewN k⟩
  · rw [rTake_ok a1 a2]
    obtain ⟨m, rfl⟩ : ∃ m : Nat, n = (m : Int) := ⟨n.toNat, by omega⟩
    have hm : p + m ≤ bs.length := by omega
    rw [show (m : Int).toNat = m from rfl]
    have hlen : ((bs.drop p).take m).length = m := by simp; omega
    rw [hlen]
    have HLEN := hid hlen
    clear hlen
    have c0 : w.cell? ⟨q, 0, none⟩ = some (.slice A bs.length c) := by simpa using b1.cell 0
    have c1 : w.cell? ⟨q, 1, none⟩ = some (.int .i64 (p : Int)) := by simpa using b1.cell 1
    have f1 := b1.frozen 1
    have l1 := b1.lt
    have B1 := hid b1
    clear b1
    generalize hN : bs.length = N at *
    have hlf : (m : Int) ≤ ((N - p : Nat) : Int) := by omega
    generalize ((N - p : Nat) : Int) = lf at *
    go_enter Try.func167, Try.ntmps167
    go_wp2_with fail
    refine HL.out.mono ?_
    rintro e1 w1 ⟨rfl, k, rfl⟩
    go_wp2_with fail
    go_quiet (fail)
    go_wp2_with fail
    · have hm0 : m = 0 := by omega
      subst hm0
      go_ret2
      have ho : Only q w ((((w.drewN k).setCell ⟨q, 1, none⟩ (.int .i64 ((p : Int) + ((0 : Nat) : Int)))).drewN nq)) := (((Only.refl q w).drewN k).set_ 1 _).drewN nq
      refine ⟨A, 0, rfl, ⟨by simp, by omega, fun _ => rfl, by simp; exact Rd.nil_ _ _⟩, fun q' _ hp => by omega, ?_, ho⟩
      have hb2 : Blk (w.drewN k) q 210 #[.slice A N c, .int .i64 (p : Int)] := B1.out
      have hb3 := (hb2.set_ 1 (.int .i64 ((p : Int) + ((0 : Nat) : Int)))).drewN nq
      refine HRin.out.move ho ?_ (by omega)
      simpa [hN] using hb3
    · go_ret2
      have ho : Only q w ((((w.drewN k).setCell ⟨q, 1, none⟩ (.int .i64 ((p : Int) + (m : Int)))).drewN nq)) := (((Only.refl q w).drewN k).set_ 1 _).drewN nq
      have hs := ho.sl HRin.out.sl HRin.out.far (by simp)
      have hpc := hs.piece p m (by omega)
      have hA : cutA A (p + m) p = Option.map (fun x => x.add p) A := by unfold cutA; rw [if_neg ‹¬ p + m = p›]
      rw [hA] at hpc
      have hs0 := HRin.out.sl
      refine ⟨_, m, rfl, by simpa using hpc, fun q' hf => ?_, ?_, ho⟩
      · rw [← hA]
        exact Far.cutP hf hs0 (by omega)
      · have hb2 : Blk (w.drewN k) q 210 #[.slice A N c, .int .i64 (p : Int)] := B1.out
        have hb3 := (hb2.set_ 1 (.int .i64 ((p : Int) + (m : Int)))).drewN nq
        refine HRin.out.move ho ?_ (by omega)
        simpa [hN] using hb3
/-- A length, and so many bytes. -/
def rCount (most : Int) (bs : List UInt8) (p : Nat) : List UInt8 × Nat × Nat :=
  if (M.get (bs.drop p)).2.2 ≠ 0 then ([], (M.get (bs.drop p)).2.2, p)
  else if most < 0 ∨ most < ((M.get (bs.drop p)).1 : Int) then ([], 2, p + (M.get (bs.drop p)).2.1)
  else rTake ((M.get (bs.drop p)).1 : Int) bs (p + (M.get (bs.drop p)).2.1)
set_option maxRecDepth 100000 in
set_option maxHeartbeats 1000000 in
theorem icounted_any (most : Int) (w : World) (q : Nat) (A : Option Addr) (c : Nat) (bs : List UInt8) (p : Nat) (hn1 : -9223372036854775808 ≤ most) (hn2 : most ≤ 9223372036854775807) (h : Rin 210 w q A c bs p) :
    Calls Try.prog 156 #[.pointer (some ⟨q, 0, none⟩), .int .i64 most] w fun e w' => ∃ A' c', e = .returned (.tuple #[.slice A' (rCount most bs p).1.length c', .int .i64 ((rCount most bs p).2.1 : Nat)]) ∧ Sl w' A' c' ((rCount most bs p).1.map bv) ∧ (∀ q', Far A bs.length q' → Far A' (rCount most bs p).1.length q') ∧ Rin 210 w' q A c bs (rCount most bs p).2.2 ∧ Only q w w' := by
  have hnum := inum_any w q A c bs p h
  have hr : rCount most bs p = if (M.get (bs.drop p)).2.2 ≠ 0 then ([], (M.get (bs.drop p)).2.2, p)
    else if most < 0 ∨ most < ((M.get (bs.drop p)).1 : Int) then ([], 2, p + (M.get (bs.drop p)).2.1)
    else rTake ((M.get (bs.drop p)).1 : Int) bs (p + (M.get (bs.drop p)).2.1) := rfl
  have hf := M.get_facts (bs.drop p)
  have hle := h.le
  clear h
  generalize M.get (bs.drop p) = g at *
  obtain ⟨v, k, e⟩ := g
  simp only at hnum hr hf
  have HN := hid hnum
  clear hnum
  by_cases he : e = 0
  · subst he
    have hv := (hf.1 rfl).2.2.2
    clear hf
    by_cases a1 : most < 0
    · rw [if_neg (by simp), if_pos (.inl a1)] at hr
      rw [hr]
      clear hr
      go_enter Try.func156, Try.ntmps156
      go_wp2_with fail
      refine HN.out.mono ?_
      rintro e1 w1 ⟨rfl, hrin, ho⟩
      go_wp2_with fail
      go_ret2
      exact ⟨none, 0, rfl, Sl.nil_ _, fun q' _ hp => by simp at hp, hrin, ho⟩
    obtain ⟨mo, rfl⟩ : ∃ mo : Nat, most = (mo : Int) := ⟨most.toNat, by omega⟩
    have hmo : 0 ≤ (mo : Int) := by omega
    by_cases a2 : mo < v
    · rw [if_neg (by simp), if_pos (.inr (by omega))] at hr
      rw [hr]
      clear hr
      go_enter Try.func156, Try.ntmps156
      go_wp2_with fail
      refine HN.out.mono ?_
      rintro e1 w1 ⟨rfl, hrin, ho⟩
      go_wp2_with fail
      go_ret2
      exact ⟨none, 0, rfl, Sl.nil_ _, fun q' _ hp => by simp at hp, hrin, ho⟩
    · rw [if_neg (by simp), if_neg (by omega)] at hr
      rw [hr]
      clear hr
      have hv2 : (v : Int) ≤ 9223372036854775807 := by omega
      go_enter Try.func156, Try.ntmps156
      go_wp2_with fail
      refine HN.out.mono ?_
      rintro e1 w1 ⟨rfl, hrin, ho⟩
      have hnext := inext_any (v : Int) w1 q A c bs (p + k) (by omega) (by omega) hrin
      have HX := hid hnext
      clear hnext
      go_wp2_with fail
      refine HX.out.mono ?_
      rintro e2 w2 ⟨A', c', rfl, hs2, hf2, hrin2, ho2⟩
      go_wp2_with fail
      go_ret2
      exact ⟨A', c', rfl, hs2, hf2, hrin2, ho.trans ho2⟩
  · have hz := (hf.2 he).2.1
    subst hz
    clear hf
    rw [if_pos he] at hr
    rw [hr]
    have heb : ((e : Int) != 0) = true := by simp; omega
    clear hr he
    go_enter Try.func156, Try.ntmps156
    go_wp2_with fail
    refine HN.out.mono ?_
    rintro e1 w1 ⟨rfl, hrin, ho⟩
    go_wp2_with fail
    go_ret2
    exact ⟨none, 0, rfl, Sl.nil_ _, fun q' _ hp => by simp at hp, hrin, ho⟩
end Go.Proofs.Ytnfodgjihdoncaa
set_option linter.unusedVariables false
namespace Go.Proofs.Ytnfodgjihdoncaa
open Go.RowKit
theorem func_run {P : Program} (fn : Fn) (first cap : Array Value) (w : World) : (Instr.makeFunc fn first cap).run P w = .ok (.func fn first cap) w := rfl
/-- The place of a fault. -/
def flt (e p : Nat) : Nat := if e = 0 then 0 else p
/-- Where the reader is behind. -/
def plc (e p p1 : Nat) : Nat := if e = 0 then p1 else p
theorem Rin.set_ {t : TypeId} {w w1 : World} {q : Nat} {A : Option Addr} {c : Nat} {bs : List UInt8} {p p1 : Nat} (h : Rin t w q A c bs p) (h1 : Rin t w1 q A c bs p1) : Rin t (w1.setCell ⟨q, 1, none⟩ (.int .i64 (p : Int))) q A c bs p := by
  refine h1.move ((Only.refl q w1).set_ 1 _) ?_ h.le
  have := h1.blk.set_ 1 (.int .i64 (p : Int))
  simpa using this
theorem Rin.far_set {t : TypeId} {w : World} {q g : Nat} {A : Option Addr} {c : Nat} {bs : List UInt8} {p : Nat} (h : Rin t w q A c bs p) (hq : q ≠ g) (hf : Far A bs.length g) (i : Nat) (u : Value) : Rin t (w.setCell ⟨g, i, none⟩ u) q A c bs p :=
  h.other ((Only.refl g w).set_ i u) hq hf
theorem far_new {w : World} {A : Option Addr} {c : Nat} {bs : List UInt8} {g : Nat} (h : Sl w A c (bs.map bv)) (hg : w.heap.size ≤ g) : Far A bs.length g := by
  intro hpos b off he
  obtain ⟨b', off', hA, hlt, _⟩ := h.rd 0 (bv (bs[0]'hpos)) (by simp [List.getElem?_eq_getElem hpos])
  rw [he] at hA
  injection hA with hA
  injection hA with h1 h2
  omega
set_option maxRecDepth 100000 in
set_option maxHeartbeats 1000000 in
theorem told_num (w : World) (q : Nat) (A : Option Addr) (c : Nat) (bs : List UInt8) (p : Nat) (h : Rin 210 w q A c bs p) :
    Calls Try.prog 151 #[.pointer (some ⟨q, 0, none⟩), .func (.func 152) #[.pointer (some ⟨q, 0, none⟩)] #[]] w fun e w' => e = .returned (.tuple #[.int .u64 (if (M.get (bs.drop p)).2.2 = 0 then (M.get (bs.drop p)).1 else 0 : Nat), .agg #[.int .i64 ((M.get (bs.drop p)).2.2 : Nat), .int .i64 (flt (M.get (bs.drop p)).2.2 p : Nat)]]) ∧ Rin 210 w' q A c bs (plc (M.get (bs.drop p)).2.2 p (p + (M.get (bs.drop p)).2.1)) ∧ Only q w w' := by
  have hlt := h.blk.lt
  have h0 := h.below ((Below.refl _ w).alloc (Nat.le_refl _) (.cells #[.int .i64 0, .int .i64 0] 33))
  have hc := inum_any _ q A c bs p h0
  have c1 : w.cell? ⟨q, 1, none⟩ = some (.int .i64 (p : Int)) := by simpa using h.blk.cell 1
  have hfn := far_new h.sl (Nat.le_refl _)
  have HC := hid hc
  have H0 := hid h0
  clear hc h h0
  have hq : Blk (w.alloc (.cells #[.int .i64 0, .int .i64 0] 33)) w.heap.size 33 #[.int .i64 0, .int .i64 0] := Blk.new w _ _
  generalize (M.get (bs.drop p)).2.2 = e at *
  generalize (M.get (bs.drop p)).1 = v at *
  generalize (p + (M.get (bs.drop p)).2.1) = p1 at *
  by_cases he : e = 0
  · subst he
    simp only [flt, plc, if_true]
    go_enter Try.func151, Try.ntmps151
    go_wp2_with fail
    refine HC.out.mono ?_
    rintro e1 w1 ⟨rfl, hrin, ho⟩
    have hq1 := ho.blk hq (by omega)
    have c0 : w1.cell? ⟨w.heap.size, 0, none⟩ = some (.int .i64 0) := hq1.cell 0
    have c1 : w1.cell? ⟨w.heap.size, 1, none⟩ = some (.int .i64 0) := hq1.cell 1
    have f0 := hq1.frozen 0
    have f1 := hq1.frozen 1
    have hsz := ho.size
    have hl := hq1.lt
    have HO := hid ho
    have HR := hid hrin
    clear hq hq1 ho hrin
    go_wp2_with fail
    refine bodyPost_ret (v := .tuple #[.int .u64 (v : Nat), .agg #[.int .i64 0, .int .i64 0]]) (by simp [results, Try.results151, go_sem, c0, c1]) rfl ⟨rfl, ?_, ?_⟩
    · exact (HR.out.far_set (by omega) hfn _ _).far_set (by omega) hfn _ _
    · have hw := (Only.refl q w).alloc (.cells #[.int .i64 0, .int .i64 0] 33)
      exact ((hw.trans HO.out).new_ (Nat.le_refl _) _ _).new_ (Nat.le_refl _) _ _
  · have heb : ((e : Int) != 0) = true := by simp; omega
    simp only [flt, plc, he, if_false]
    clear he
    go_enter Try.func151, Try.ntmps151
    go_wp2_with fail
    refine HC.out.mono ?_
    rintro e1 w1 ⟨rfl, hrin, ho⟩
    have hq1 := ho.blk hq (by omega)
    have c0 : w1.cell? ⟨w.heap.size, 0, none⟩ = some (.int .i64 0) := hq1.cell 0
    have c1 : w1.cell? ⟨w.heap.size, 1, none⟩ = some (.int .i64 0) := hq1.cell 1
    have f0 := hq1.frozen 0
    have f1 := hq1.frozen 1
    have r1 := hrin.blk.frozen 1
    have rl := hrin.blk.lt
    have rc : w1.cell? ⟨q, 1, none⟩ = some (.int .i64 (p1 : Int)) := by simpa using hrin.blk.cell 1
    have hsz := ho.size
    have hl := hq1.lt
    have HO := hid ho
    have HR := hid hrin
    clear hq hq1 ho hrin
    go_wp2_with fail
    refine bodyPost_ret (v := .tuple #[.int .u64 0, .agg #[.int .i64 (e : Int), .int .i64 (p : Int)]]) (by simp [results, Try.results151, go_sem, c0, c1]) rfl ⟨rfl, ?_, ?_⟩
    · exact ((H0.out.set_ HR.out).far_set (by omega) hfn _ _).far_set (by omega) hfn _ _
    · have hw := (Only.refl q w).alloc (.cells #[.int .i64 0, .int .i64 0] 33)
      exact (((hw.trans HO.out).set_ 1 _).new_ (Nat.le_refl _) _ _).new_ (Nat.le_refl _) _ _
set_option maxRecDepth 100000 in
set_option maxHeartbeats 1000000 in
theorem told_four (w : World) (q : Nat) (A : Option Addr) (c : Nat) (bs : List UInt8) (p : Nat) (h : Rin 210 w q A c bs p) :
    Calls Try.prog 157 #[.pointer (some ⟨q, 0, none⟩), .func (.func 158) #[.pointer (some ⟨q, 0, none⟩)] #[]] w fun e w' => e = .returned (.tuple #[.int .u32 (if (rFix 4 bs p).2.1 = 0 then (rFix 4 bs p).1 else 0 : Nat), .agg #[.int .i64 ((rFix 4 bs p).2.1 : Nat), .int .i64 (flt (rFix 4 bs p).2.1 p : Nat)]]) ∧ Rin 210 w' q A c bs (plc (rFix 4 bs p).2.1 p (rFix 4 bs p).2.2) ∧ Only q w w' := by
  have hlt := h.blk.lt
  have h0 := h.below ((Below.refl _ w).alloc (Nat.le_refl _) (.cells #[.int .i64 0, .int .i64 0] 33))
  have hc := ifour_any _ q A c bs p h0
  have c1 : w.cell? ⟨q, 1, none⟩ = some (.int .i64 (p : Int)) := by simpa using h.blk.cell 1
  have hfn := far_new h.sl (Nat.le_refl _)
  have HC := hid hc
  have H0 := hid h0
  clear hc h h0
  have hq : Blk (w.alloc (.cells #[.int .i64 0, .int .i64 0] 33)) w.heap.size 33 #[.int .i64 0, .int .i64 0] := Blk.new w _ _
  generalize (rFix 4 bs p).2.1 = e at *
  generalize (rFix 4 bs p).1 = v at *
  generalize (rFix 4 bs p).2.2 = p1 at *
  by_cases he : e = 0
  · subst he
    simp only [flt, plc, if_true]
    go_enter Try.func157, Try.ntmps157
    go_wp2_with fail
    refine HC.out.mono ?_
    rintro e1 w1 ⟨rfl, hrin, ho⟩
    have hq1 := ho.blk hq (by omega)
    have c0 : w1.cell? ⟨w.heap.size, 0, none⟩ = some (.int .i64 0) := hq1.cell 0
    have c1 : w1.cell? ⟨w.heap.size, 1, none⟩ = some (.int .i64 0) := hq1.cell 1
    have f0 := hq1.frozen 0
    have f1 := hq1.frozen 1
    have hsz := ho.size
    have hl := hq1.lt
    have HO := hid ho
    have HR := hid hrin
    clear hq hq1 ho hrin
    go_wp2_with fail
    refine bodyPost_ret (v := .tuple #[.int .u32 (v : Nat), .agg #[.int .i64 0, .int .i64 0]]) (by simp [results, Try.results157, go_sem, c0, c1]) rfl ⟨rfl, ?_, ?_⟩
    · exact (HR.out.far_set (by omega) hfn _ _).far_set (by omega) hfn _ _
    · have hw := (Only.refl q w).alloc (.cells #[.int .i64 0, .int .i64 0] 33)
      exact ((hw.trans HO.out).new_ (Nat.le_refl _) _ _).new_ (Nat.le_refl _) _ _
  · have heb : ((e : Int) != 0) = true := by simp; omega
    simp only [flt, plc, he, if_false]
    clear he
    go_enter Try.func157, Try.ntmps157
    go_wp2_with fail
    refine HC.out.mono ?_
    rintro e1 w1 ⟨rfl, hrin, ho⟩
    have hq1 := ho.blk hq (by omega)
    have c0 : w1.cell? ⟨w.heap.size, 0, none⟩ = some (.int .i64 0) := hq1.cell 0
    have c1 : w1.cell? ⟨w.heap.size, 1, none⟩ = some (.int .i64 0) := hq1.cell 1
    have f0 := hq1.frozen 0
    have f1 := hq1.frozen 1
    have r1 := hrin.blk.frozen 1
    have rl := hrin.blk.lt
    have rc : w1.cell? ⟨q, 1, none⟩ = some (.int .i64 (p1 : Int)) := by simpa using hrin.blk.cell 1
    have hsz := ho.size
    have hl := hq1.lt
    have HO := hid ho
    have HR := hid hrin
    clear hq hq1 ho hrin
    go_wp2_with fail
    refine bodyPost_ret (v := .tuple #[.int .u32 0, .agg #[.int .i64 (e : Int), .int .i64 (p : Int)]]) (by simp [results, Try.results157, go_sem, c0, c1]) rfl ⟨rfl, ?_, ?_⟩
    · exact ((H0.out.set_ HR.out).far_set (by omega) hfn _ _).far_set (by omega) hfn _ _
    · have hw := (Only.refl q w).alloc (.cells #[.int .i64 0, .int .i64 0] 33)
      exact (((hw.trans HO.out).set_ 1 _).new_ (Nat.le_refl _) _ _).new_ (Nat.le_refl _) _ _
set_option maxRecDepth 100000 in
set_option maxHeartbeats 1000000 in
theorem told_eight (w : World) (q : Nat) (A : Option Addr) (c : Nat) (bs : List UInt8) (p : Nat) (h : Rin 210 w q A c bs p) :
    Calls Try.prog 151 #[.pointer (some ⟨q, 0, none⟩), .func (.func 153) #[.pointer (some ⟨q, 0, none⟩)] #[]] w fun e w' => e = .returned (.tuple #[.int .u64 (if (rFix 8 bs p).2.1 = 0 then (rFix 8 bs p).1 else 0 : Nat), .agg #[.int .i64 ((rFix 8 bs p).2.1 : Nat), .int .i64 (flt (rFix 8 bs p).2.1 p : Nat)]]) ∧ Rin 210 w' q A c bs (plc (rFix 8 bs p).2.1 p (rFix 8 bs p).2.2) ∧ Only q w w' := by
  have hlt := h.blk.lt
  have h0 := h.below ((Below.refl _ w).alloc (Nat.le_refl _) (.cells #[.int .i64 0, .int .i64 0] 33))
  have hc := ieight_any _ q A c bs p h0
  have c1 : w.cell? ⟨q, 1, none⟩ = some (.int .i64 (p : Int)) := by simpa using h.blk.cell 1
  have hfn := far_new h.sl (Nat.le_refl _)
  have HC := hid hc
  have H0 := hid h0
  clear hc h h0
  have hq : Blk (w.alloc (.cells #[.int .i64 0, .int .i64 0] 33)) w.heap.size 33 #[.int .i64 0, .int .i64 0] := Blk.new w _ _
  generalize (rFix 8 bs p).2.1 = e at *
  generalize (rFix 8 bs p).1 = v at *
  generalize (rFix 8 bs p).2.2 = p1 at *
  by_cases he : e = 0
  · subst he
    simp only [flt, plc, if_true]
    go_enter Try.func151, Try.ntmps151
    go_wp2_with fail
    refine HC.out.mono ?_
    rintro e1 w1 ⟨rfl, hrin, ho⟩
    have hq1 := ho.blk hq (by omega)
    have c0 : w1.cell? ⟨w.heap.size, 0, none⟩ = some (.int .i64 0) := hq1.cell 0
    have c1 : w1.cell? ⟨w.heap.size, 1, none⟩ = some (.int .i64 0) := hq1.cell 1
    have f0 := hq1.frozen 0
    have f1 := hq1.frozen 1
    have hsz := ho.size
    have hl := hq1.lt
    have HO := hid ho
    have HR := hid hrin
    clear hq hq1 ho hrin
    go_wp2_with fail
    refine bodyPost_ret (v := .tuple #[.int .u64 (v : Nat), .agg #[.int .i64 0, .int .i64 0]]) (by simp [results, Try.results151, go_sem, c0, c1]) rfl ⟨rfl, ?_, ?_⟩
    · exact (HR.out.far_set (by omega) hfn _ _).far_set (by omega) hfn _ _
    · have hw := (Only.refl q w).alloc (.cells #[.int .i64 0, .int .i64 0] 33)
      exact ((hw.trans HO.out).new_ (Nat.le_refl _) _ _).new_ (Nat.le_refl _) _ _
  · have heb : ((e : Int) != 0) = true := by simp; omega
    simp only [flt, plc, he, if_false]
    clear he
    go_enter Try.func151, Try.ntmps151
    go_wp2_with fail
    refine HC.out.mono ?_
    rintro e1 w1 ⟨rfl, hrin, ho⟩
    have hq1 := ho.blk hq (by omega)
    have c0 : w1.cell? ⟨w.heap.size, 0, none⟩ = some (.int .i64 0) := hq1.cell 0
    have c1 : w1.cell? ⟨w.heap.size, 1, none⟩ = some (.int .i64 0) := hq1.cell 1
    have f0 := hq1.frozen 0
    have f1 := hq1.frozen 1
    have r1 := hrin.blk.frozen 1
    have rl := hrin.blk.lt
    have rc : w1.cell? ⟨q, 1, none⟩ = some (.int .i64 (p1 : Int)) := by simpa using hrin.blk.cell 1
    have hsz := ho.size
    have hl := hq1.lt
    have HO := hid ho
    have HR := hid hrin
    clear hq hq1 ho hrin
    go_wp2_with fail
    refine bodyPost_ret (v := .tuple #[.int .u64 0, .agg #[.int .i64 (e : Int), .int .i64 (p : Int)]]) (by simp [results, Try.results151, go_sem, c0, c1]) rfl ⟨rfl, ?_, ?_⟩
    · exact ((H0.out.set_ HR.out).far_set (by omega) hfn _ _).far_set (by omega) hfn _ _
    · have hw := (Only.refl q w).alloc (.cells #[.int .i64 0, .int .i64 0] 33)
      exact (((hw.trans HO.out).set_ 1 _).new_ (Nat.le_refl _) _ _).new_ (Nat.le_refl _) _ _
set_option maxRecDepth 100000 in
set_option maxHeartbeats 1000000 in
theorem inumm_any (w : World) (q : Nat) (A : Option Addr) (c : Nat) (bs : List UInt8) (p : Nat) (h : Rin 210 w q A c bs p) :
    Calls Try.prog 139 #[.pointer (some ⟨q, 0, none⟩)] w fun e w' => e = .returned (.tuple #[.int .u64 (if (M.get (bs.drop p)).2.2 = 0 then (M.get (bs.drop p)).1 else 0 : Nat), .agg #[.int .i64 ((M.get (bs.drop p)).2.2 : Nat), .int .i64 (flt (M.get (bs.drop p)).2.2 p : Nat)]]) ∧ Rin 210 w' q A c bs (plc (M.get (bs.drop p)).2.2 p (p + (M.get (bs.drop p)).2.1)) ∧ Only q w w' := by
  have hlt := h.blk.lt
  have h0 := h.below ((Below.refl _ w).alloc (Nat.le_refl _) (.cells #[.int .i64 0, .int .i64 0] 33))
  have hc := told_num _ q A c bs p h0
  have hfn := far_new h.sl (Nat.le_refl _)
  have HC := hid hc
  clear hc h h0
  have hq : Blk (w.alloc (.cells #[.int .i64 0, .int .i64 0] 33)) w.heap.size 33 #[.int .i64 0, .int .i64 0] := Blk.new w _ _
  generalize (if (M.get (bs.drop p)).2.2 = 0 then (M.get (bs.drop p)).1 else 0 : Nat) = v at *
  generalize plc (M.get (bs.drop p)).2.2 p (p + (M.get (bs.drop p)).2.1) = p1 at *
  generalize (flt (M.get (bs.drop p)).2.2 p : Nat) = fa at *
  generalize (M.get (bs.drop p)).2.2 = e at *
  have hmf := func_run (P := Try.prog)
  go_enter Try.func139, Try.ntmps139
  go_wp2_with fail
  refine HC.out.mono ?_
  rintro e1 w1 ⟨rfl, hrin, ho⟩
  have hq1 := ho.blk hq (by omega)
  have c0 : w1.cell? ⟨w.heap.size, 0, none⟩ = some (.int .i64 0) := hq1.cell 0
  have c1 : w1.cell? ⟨w.heap.size, 1, none⟩ = some (.int .i64 0) := hq1.cell 1
  have f0 := hq1.frozen 0
  have f1 := hq1.frozen 1
  have hsz := ho.size
  have hl := hq1.lt
  have HO := hid ho
  have HR := hid hrin
  clear hq hq1 ho hrin
  go_wp2_with fail
  refine bodyPost_ret (v := .tuple #[.int .u64 (v : Nat), .agg #[.int .i64 (e : Int), .int .i64 (fa : Int)]]) (by simp [results, Try.results139, go_sem, c0, c1]) rfl ⟨rfl, ?_, ?_⟩
  · exact (HR.out.far_set (by omega) hfn _ _).far_set (by omega) hfn _ _
  · have hw := (Only.refl q w).alloc (.cells #[.int .i64 0, .int .i64 0] 33)
    exact ((hw.trans HO.out).new_ (Nat.le_refl _) _ _).new_ (Nat.le_refl _) _ _
set_option maxRecDepth 100000 in
set_option maxHeartbeats 1000000 in
theorem ifourm_any (w : World) (q : Nat) (A : Option Addr) (c : Nat) (bs : List UInt8) (p : Nat) (h : Rin 210 w q A c bs p) :
    Calls Try.prog 142 #[.pointer (some ⟨q, 0, none⟩)] w fun e w' => e = .returned (.tuple #[.int .u32 (if (rFix 4 bs p).2.1 = 0 then (rFix 4 bs p).1 else 0 : Nat), .agg #[.int .i64 ((rFix 4 bs p).2.1 : Nat), .int .i64 (flt (rFix 4 bs p).2.1 p : Nat)]]) ∧ Rin 210 w' q A c bs (plc (rFix 4 bs p).2.1 p (rFix 4 bs p).2.2) ∧ Only q w w' := by
  have hlt := h.blk.lt
  have h0 := h.below ((Below.refl _ w).alloc (Nat.le_refl _) (.cells #[.int .i64 0, .int .i64 0] 33))
  have hc := told_four _ q A c bs p h0
  have hfn := far_new h.sl (Nat.le_refl _)
  have HC := hid hc
  clear hc h h0
  have hq : Blk (w.alloc (.cells #[.int .i64 0, .int .i64 0] 33)) w.heap.size 33 #[.int .i64 0, .int .i64 0] := Blk.new w _ _
  generalize (if (rFix 4 bs p).2.1 = 0 then (rFix 4 bs p).1 else 0 : Nat) = v at *
  generalize plc (rFix 4 bs p).2.1 p (rFix 4 bs p).2.2 = p1 at *
  generalize (flt (rFix 4 bs p).2.1 p : Nat) = fa at *
  generalize (rFix 4 bs p).2.1 = e at *
  have hmf := func_run (P := Try.prog)
  go_enter Try.func142, Try.ntmps142
  go_wp2_with fail
  refine HC.out.mono ?_
  rintro e1 w1 ⟨rfl, hrin, ho⟩
  have hq1 := ho.blk hq (by omega)
  have c0 : w1.cell? ⟨w.heap.size, 0, none⟩ = some (.int .i64 0) := hq1.cell 0
  have c1 : w1.cell? ⟨w.heap.size, 1, none⟩ = some (.int .i64 0) := hq1.cell 1
  have f0 := hq1.frozen 0
  have f1 := hq1.frozen 1
  have hsz := ho.size
  have hl := hq1.lt
  have HO := hid ho
  have HR := hid hrin
  clear hq hq1 ho hrin
  go_wp2_with fail
  refine bodyPost_ret (v := .tuple #[.int .u32 (v : Nat), .agg #[.int .i64 (e : Int), .int .i64 (fa : Int)]]) (by simp [results, Try.results142, go_sem, c0, c1]) rfl ⟨rfl, ?_, ?_⟩
  · exact (HR.out.far_set (by omega) hfn _ _).far_set (by omega) hfn _ _
  · have hw := (Only.refl q w).alloc (.cells #[.int .i64 0, .int .i64 0] 33)
    exact ((hw.trans HO.out).new_ (Nat.le_refl _) _ _).new_ (Nat.le_refl _) _ _
set_option maxRecDepth 100000 in
set_option maxHeartbeats 1000000 in
theorem ieightm_any (w : World) (q : Nat) (A : Option Addr) (c : Nat) (bs : List UInt8) (p : Nat) (h : Rin 210 w q A c bs p) :
    Calls Try.prog 140 #[.pointer (some ⟨q, 0, none⟩)] w fun e w' => e = .returned (.tuple #[.int .u64 (if (rFix 8 bs p).2.1 = 0 then (rFix 8 bs p).1 else 0 : Nat), .agg #[.int .i64 ((rFix 8 bs p).2.1 : Nat), .int .i64 (flt (rFix 8 bs p).2.1 p : Nat)]]) ∧ Rin 210 w' q A c bs (plc (rFix 8 bs p).2.1 p (rFix 8 bs p).2.2) ∧ Only q w w' := by
  have hlt := h.blk.lt
  have h0 := h.below ((Below.refl _ w).alloc (Nat.le_refl _) (.cells #[.int .i64 0, .int .i64 0] 33))
  have hc := told_eight _ q A c bs p h0
  have hfn := far_new h.sl (Nat.le_refl _)
  have HC := hid hc
  clear hc h h0
  have hq : Blk (w.alloc (.cells #[.int .i64 0, .int .i64 0] 33)) w.heap.size 33 #[.int .i64 0, .int .i64 0] := Blk.new w _ _
  generalize (if (rFix 8 bs p).2.1 = 0 then (rFix 8 bs p).1 else 0 : Nat) = v at *
  generalize plc (rFix 8 bs p).2.1 p (rFix 8 bs p).2.2 = p1 at *
  generalize (flt (rFix 8 bs p).2.1 p : Nat) = fa at *
  generalize (rFix 8 bs p).2.1 = e at *
  have hmf := func_run (P := Try.prog)
  go_enter Try.func140, Try.ntmps140
  go_wp2_with fail
  refine HC.out.mono ?_
  rintro e1 w1 ⟨rfl, hrin, ho⟩
  have hq1 := ho.blk hq (by omega)
  have c0 : w1.cell? ⟨w.heap.size, 0, none⟩ = some (.int .i64 0) := hq1.cell 0
  have c1 : w1.cell? ⟨w.heap.size, 1, none⟩ = some (.int .i64 0) := hq1.cell 1
  have f0 := hq1.frozen 0
  have f1 := hq1.frozen 1
  have hsz := ho.size
  have hl := hq1.lt
  have HO := hid ho
  have HR := hid hrin
  clear hq hq1 ho hrin
  go_wp2_with fail
  refine bodyPost_ret (v := .tuple #[.int .u64 (v : Nat), .agg #[.int .i64 (e : Int), .int .i64 (fa : Int)]]) (by simp [results, Try.results140, go_sem, c0, c1]) rfl ⟨rfl, ?_, ?_⟩
  · exact (HR.out.far_set (by omega) hfn _ _).far_set (by omega) hfn _ _
  · have hw := (Only.refl q w).alloc (.cells #[.int .i64 0, .int .i64 0] 33)
    exact ((hw.trans HO.out).new_ (Nat.le_refl _) _ _).new_ (Nat.le_refl _) _ _
end Go.Proofs.Ytnfodgjihdoncaa
set_option linter.unusedVariables false
namespace Go.Proofs.Ytnfodgjihdoncaa
open Go.RowKit
theorem cell_second (w : World) (o1 o3 : Obj) (v : Value) (t : TypeId) : (((w.alloc o1).alloc (.cells #[v] t)).alloc o3).cell? ⟨w.heap.size + 1, 0, none⟩ = some v := by
  have h := ((Blk.new (w.alloc o1) t #[v]).alloc o3).cell 0
  simpa using h
theorem blk_third (w : World) (o1 o2 : Obj) (cs : Array Value) (t : TypeId) : Blk (((w.alloc o1).alloc o2).alloc (.cells cs t)) (w.heap.size + 1 + 1) t cs := by
  have h := Blk.new ((w.alloc o1).alloc o2) t cs
  simpa using h
set_option maxRecDepth 100000 in
set_option maxHeartbeats 1000000 in
theorem bytes_clo (n : Int) (w : World) (q x y : Nat) (A : Option Addr) (c : Nat) (bs : List UInt8) (p : Nat) (hn1 : -9223372036854775808 ≤ n) (hn2 : n ≤ 9223372036854775807) (h : Rin 210 w q A c bs p)
    (hx : w.cell? ⟨x, 0, none⟩ = some (.pointer (some ⟨q, 0, none⟩))) (hy : w.cell? ⟨y, 0, none⟩ = some (.int .i64 n)) :
    Calls Try.prog 155 #[.pointer (some ⟨x, 0, none⟩), .pointer (some ⟨y, 0, none⟩)] w fun e w' => ∃ A' c', e = .returned (.tuple #[.slice A' (rCount n bs p).1.length c', .int .i64 ((rCount n bs p).2.1 : Nat)]) ∧ Sl w' A' c' ((rCount n bs p).1.map bv) ∧ (∀ q', Far A bs.length q' → Far A' (rCount n bs p).1.length q') ∧ Rin 210 w' q A c bs (rCount n bs p).2.2 ∧ Only q w w' := by
  have hc := icounted_any n w q A c bs p hn1 hn2 h
  generalize rCount n bs p = rr at *
  have HC := hid hc
  clear hc h
  go_enter Try.func155, Try.ntmps155
  go_wp2_with fail
  refine HC.out.mono ?_
  rintro e1 w1 ⟨A', c', rfl, hs, hf, hrin, ho⟩
  go_wp2_with fail
  go_ret2
  exact ⟨A', c', rfl, hs, hf, hrin, ho⟩
set_option maxRecDepth 100000 in
set_option maxHeartbeats 1000000 in
theorem bytes_told (n : Int) (w : World) (q x y : Nat) (A : Option Addr) (c : Nat) (bs : List UInt8) (p : Nat) (hn1 : -9223372036854775808 ≤ n) (hn2 : n ≤ 9223372036854775807) (h : Rin 210 w q A c bs p)
    (hx : w.cell? ⟨x, 0, none⟩ = some (.pointer (some ⟨q, 0, none⟩))) (hy : w.cell? ⟨y, 0, none⟩ = some (.int .i64 n)) :
    Calls Try.prog 154 #[.pointer (some ⟨q, 0, none⟩), .func (.func 155) #[] #[.pointer (some ⟨x, 0, none⟩), .pointer (some ⟨y, 0, none⟩)]] w fun e w' => ∃ A' c', e = .returned (.tuple #[.slice A' (if (rCount n bs p).2.1 = 0 then (rCount n bs p).1 else []).length c', .agg #[.int .i64 ((rCount n bs p).2.1 : Nat), .int .i64 (flt (rCount n bs p).2.1 p : Nat)]]) ∧ Sl w' A' c' ((if (rCount n bs p).2.1 = 0 then (rCount n bs p).1 else []).map bv) ∧ (∀ q', Far A bs.length q' → Far A' (if (rCount n bs p).2.1 = 0 then (rCount n bs p).1 else []).length q') ∧ Rin 210 w' q A c bs (plc (rCount n bs p).2.1 p (rCount n bs p).2.2) ∧ Only q w w' := by
  have hlt := h.blk.lt
  have hxl := World.block_lt_of_cell? w _ hx
  have hyl := World.block_lt_of_cell? w _ hy
  simp only at hxl hyl
  have hb0 : Below w.heap.size w (w.alloc (.cells #[.int .i64 0, .int .i64 0] 33)) := (Below.refl _ w).alloc (Nat.le_refl _) _
  have h0 := h.below hb0
  have hc := bytes_clo n _ q x y A c bs p hn1 hn2 h0 ((hb0.cell (p := ⟨x, 0, none⟩) hxl).trans hx) ((hb0.cell (p := ⟨y, 0, none⟩) hyl).trans hy)
  have c1 : w.cell? ⟨q, 1, none⟩ = some (.int .i64 (p : Int)) := by simpa using h.blk.cell 1
  have hfn := far_new h.sl (Nat.le_refl _)
  have HC := hid hc
  have H0 := hid h0
  clear hc h h0 hb0 hx hy hxl hyl
  have hq : Blk (w.alloc (.cells #[.int .i64 0, .int .i64 0] 33)) w.heap.size 33 #[.int .i64 0, .int .i64 0] := Blk.new w _ _
  generalize rCount n bs p = rr at *
  obtain ⟨l, e, p1⟩ := rr
  simp only at HC
  by_cases he : e = 0
  · subst he
    simp only [flt, plc, if_true]
    go_enter Try.func154, Try.ntmps154
    go_wp2_with fail
    refine HC.out.mono ?_
    rintro e1 w1 ⟨A', c', rfl, hs, hf, hrin, ho⟩
    have hq1 := ho.blk hq (by omega)
    have c0 : w1.cell? ⟨w.heap.size, 0, none⟩ = some (.int .i64 0) := hq1.cell 0
    have c1 : w1.cell? ⟨w.heap.size, 1, none⟩ = some (.int .i64 0) := hq1.cell 1
    have f0 := hq1.frozen 0
    have f1 := hq1.frozen 1
    have hsz := ho.size
    have hl := hq1.lt
    have HO := hid ho
    have HR := hid hrin
    have HS := hid hs
    have HF := hid hf
    clear hq hq1 ho hrin hs hf
    go_wp2_with fail
    refine bodyPost_ret (v := .tuple #[.slice A' l.length c', .agg #[.int .i64 0, .int .i64 0]]) (by simp [results, Try.results154, go_sem, c0, c1]) rfl ⟨A', c', rfl, ?_, HF.out, ?_, ?_⟩
    · have hfg := HF.out _ hfn
      have o1 := (Only.refl w.heap.size w1).set_ 0 (.int .i64 0)
      have s1 := o1.sl HS.out hfg (by simp)
      exact ((Only.refl w.heap.size _).set_ 1 (.int .i64 0)).sl s1 hfg (by simp)
    · exact (HR.out.far_set (by omega) hfn _ _).far_set (by omega) hfn _ _
    · have hw := (Only.refl q w).alloc (.cells #[.int .i64 0, .int .i64 0] 33)
      exact ((hw.trans HO.out).new_ (Nat.le_refl _) _ _).new_ (Nat.le_refl _) _ _
  · have heb : ((e : Int) != 0) = true := by simp; omega
    simp only [flt, plc, he, if_false]
    clear he
    go_enter Try.func154, Try.ntmps154
    go_wp2_with fail
    refine HC.out.mono ?_
    rintro e1 w1 ⟨A', c', rfl, hs, hf, hrin, ho⟩
    have hq1 := ho.blk hq (by omega)
    have c0 : w1.cell? ⟨w.heap.size, 0, none⟩ = some (.int .i64 0) := hq1.cell 0
    have c1 : w1.cell? ⟨w.heap.size, 1, none⟩ = some (.int .i64 0) := hq1.cell 1
    have f0 := hq1.frozen 0
    have f1 := hq1.frozen 1
    have r1 := hrin.blk.frozen 1
    have rl := hrin.blk.lt
    have rc : w1.cell? ⟨q, 1, none⟩ = some (.int .i64 (p1 : Int)) := by simpa using hrin.blk.cell 1
    have hsz := ho.size
    have hl := hq1.lt
    have HO := hid ho
    have HR := hid hrin
    clear hq hq1 ho hrin hs hf
    go_wp2_with fail
    refine bodyPost_ret (v := .tuple #[.slice none 0 0, .agg #[.int .i64 (e : Int), .int .i64 (p : Int)]]) (by simp [results, Try.results154, go_sem, c0, c1]) rfl ⟨none, 0, rfl, Sl.nil_ _, fun q' _ hp => by simp at hp, ?_, ?_⟩
    · exact ((H0.out.set_ HR.out).far_set (by omega) hfn _ _).far_set (by omega) hfn _ _
    · have hw := (Only.refl q w).alloc (.cells #[.int .i64 0, .int .i64 0] 33)
      exact (((hw.trans HO.out).set_ 1 _).new_ (Nat.le_refl _) _ _).new_ (Nat.le_refl _) _ _
set_option maxRecDepth 100000 in
set_option maxHeartbeats 1000000 in
theorem ibytesm_any (n : Int) (w : World) (q : Nat) (A : Option Addr) (c : Nat) (bs : List UInt8) (p : Nat) (hn1 : -9223372036854775808 ≤ n) (hn2 : n ≤ 9223372036854775807) (h : Rin 210 w q A c bs p) :
    Calls Try.prog 141 #[.pointer (some ⟨q, 0, none⟩), .int .i64 n] w fun e w' => ∃ A' c', e = .returned (.tuple #[.slice A' (if (rCount n bs p).2.1 = 0 then (rCount n bs p).1 else []).length c', .agg #[.int .i64 ((rCount n bs p).2.1 : Nat), .int .i64 (flt (rCount n bs p).2.1 p : Nat)]]) ∧ Sl w' A' c' ((if (rCount n bs p).2.1 = 0 then (rCount n bs p).1 else []).map bv) ∧ (∀ q', Far A bs.length q' → Far A' (if (rCount n bs p).2.1 = 0 then (rCount n bs p).1 else []).length q') ∧ Rin 210 w' q A c bs (plc (rCount n bs p).2.1 p (rCount n bs p).2.2) ∧ Only q w w' := by
  have hlt := h.blk.lt
  have ht := fun W hW hx hy => bytes_told n W q w.heap.size (w.heap.size + 1) A c bs p hn1 hn2 (h.below hW) hx hy
  have hfn2 : Far A bs.length (w.heap.size + 1 + 1) := far_new h.sl (by omega)
  generalize (if (rCount n bs p).2.1 = 0 then (rCount n bs p).1 else []) = l at *
  generalize (flt (rCount n bs p).2.1 p : Nat) = fa at *
  generalize plc (rCount n bs p).2.1 p (rCount n bs p).2.2 = p1 at *
  generalize (rCount n bs p).2.1 = e at *
  have HT := hid ht
  clear ht h
  have hmf := func_run (P := Try.prog)
  go_enter Try.func141, Try.ntmps141
  go_wp2_with fail
  generalize hW : World.alloc _ _ = W
  have hbW : Below w.heap.size w W := by rw [← hW]; exact ((((Below.refl _ w).alloc (Nat.le_refl _) _).alloc (by simp) _).alloc (by simp; omega) _)
  have hoW : Only q w W := by rw [← hW]; exact ((((Only.refl q w).alloc _).alloc _).alloc _)
  have hx : W.cell? ⟨w.heap.size, 0, none⟩ = some (.pointer (some ⟨q, 0, none⟩)) := by
    rw [← hW]
    have h1 : ∀ (t : TypeId) (o2 o3 : Obj), (((w.alloc (.cells #[.pointer (some ⟨q, 0, none⟩)] t)).alloc o2).alloc o3).cell? ⟨w.heap.size, 0, none⟩ = some (.pointer (some ⟨q, 0, none⟩)) := fun t o2 o3 => (((Blk.new w t #[.pointer (some ⟨q, 0, none⟩)]).alloc o2).alloc o3).cell 0
    exact h1 _ _ _
  have hy : W.cell? ⟨w.heap.size + 1, 0, none⟩ = some (.int .i64 n) := by rw [← hW]; exact cell_second w _ _ _ _
  have hq : Blk W (w.heap.size + 1 + 1) 33 #[.int .i64 0, .int .i64 0] := by rw [← hW]; exact blk_third w _ _ _ _
  clear hW
  refine (HT.out _ hbW hx hy).mono ?_
  rintro e1 w1 ⟨A', c', rfl, hs, hf, hrin, ho⟩
  have hq1 := ho.blk hq (by omega)
  have c0 : w1.cell? ⟨w.heap.size + 1 + 1, 0, none⟩ = some (.int .i64 0) := hq1.cell 0
  have c1 : w1.cell? ⟨w.heap.size + 1 + 1, 1, none⟩ = some (.int .i64 0) := hq1.cell 1
  have f0 := hq1.frozen 0
  have f1 := hq1.frozen 1
  have hl := hq1.lt
  have HO := hid (hoW.trans ho)
  have HR := hid hrin
  have HS := hid hs
  have HF := hid hf
  clear hq hq1 ho hrin hs hf hbW hoW hx hy
  go_wp2_with fail
  refine bodyPost_ret (v := .tuple #[.slice A' l.length c', .agg #[.int .i64 (e : Int), .int .i64 (fa : Int)]]) (by simp [results, Try.results141, go_sem, c0, c1]) rfl ⟨A', c', rfl, ?_, HF.out, ?_, ?_⟩
  · have hfg := HF.out _ hfn2
    have s1 := ((Only.refl (w.heap.size + 1 + 1) w1).set_ 0 (.int .i64 (e : Int))).sl HS.out hfg (by simp)
    exact ((Only.refl (w.heap.size + 1 + 1) _).set_ 1 (.int .i64 (fa : Int))).sl s1 hfg (by simp)
  · exact (HR.out.far_set (by omega) hfn2 _ _).far_set (by omega) hfn2 _ _
  · exact (HO.out.new_ (by omega) _ _).new_ (by omega) _ _
end Go.Proofs.Ytnfodgjihdoncaa
set_option linter.unusedVariables false
namespace Go.Proofs.Ytnfodgjihdoncaa
open Go.RowKit
/-- A tag: number, wire type, what is wrong, the place behind. -/
def rHead (bs : List UInt8) (p : Nat) : Int × Int × Nat × Nat :=
  if (M.get (bs.drop p)).2.2 = 0 then ((spl (M.get (bs.drop p)).1).1, (spl (M.get (bs.drop p)).1).2.1, (spl (M.get (bs.drop p)).1).2.2.toNat, p + (M.get (bs.drop p)).2.1) else (0, 0, (M.get (bs.drop p)).2.2, p)
theorem spl_err (n : Int) : 0 ≤ (spl n).2.2 ∧ (spl n).2.2 ≤ 7 ∧ ((spl n).2.2 ≠ 0 → (spl n).1 = 0 ∧ (spl n).2.1 = 0) := by
  unfold spl
  split
  · simp
  · split <;> simp
set_option maxRecDepth 100000 in
set_option maxHeartbeats 1000000 in
theorem ihead_any (w : World) (q : Nat) (A : Option Addr) (c : Nat) (bs : List UInt8) (p : Nat) (h : Rin 210 w q A c bs p) :
    Calls Try.prog 150 #[.pointer (some ⟨q, 0, none⟩)] w fun e w' => e = .returned (.tuple #[.agg #[.int .i64 (rHead bs p).1, .int .u8 (rHead bs p).2.1], .int .i64 ((rHead bs p).2.2.1 : Nat)]) ∧ Rin 210 w' q A c bs (rHead bs p).2.2.2 ∧ Only q w w' := by
  have hlt := h.blk.lt
  have h0 := h.below ((Below.refl _ w).alloc (Nat.le_refl _) (.cells #[.int .i64 0, .int .u8 0] 230))
  have hc := inum_any _ q A c bs p h0
  have hf := M.get_facts (bs.drop p)
  have hr : rHead bs p = if (M.get (bs.drop p)).2.2 = 0 then ((spl (M.get (bs.drop p)).1).1, (spl (M.get (bs.drop p)).1).2.1, (spl (M.get (bs.drop p)).1).2.2.toNat, p + (M.get (bs.drop p)).2.1) else (0, 0, (M.get (bs.drop p)).2.2, p) := rfl
  have hfn := far_new h.sl (Nat.le_refl _)
  have hq : Blk (w.alloc (.cells #[.int .i64 0, .int .u8 0] 230)) w.heap.size 230 #[.int .i64 0, .int .u8 0] := Blk.new w _ _
  clear h h0
  generalize M.get (bs.drop p) = g at *
  obtain ⟨v, k, e⟩ := g
  simp only at hc hf hr
  have HC := hid hc
  clear hc
  by_cases he : e = 0
  · subst he
    have hv := (hf.1 rfl).2.2.2
    rw [if_pos rfl] at hr
    have hsp := fun w => split_any (v : Int) w (by omega) (by omega)
    have hse := spl_err (v : Int)
    rw [hr]
    clear hf hr
    generalize spl (v : Int) = s at *
    obtain ⟨s1, s2, s3⟩ := s
    simp only at hsp hse
    obtain ⟨e3, rfl⟩ : ∃ n : Nat, s3 = (n : Int) := ⟨s3.toNat, by omega⟩
    rw [show ((e3 : Nat) : Int).toNat = e3 from rfl]
    have HS := hid hsp
    clear hsp hse
    go_enter Try.func150, Try.ntmps150
    go_wp2_with fail
    refine HC.out.mono ?_
    rintro e1 w1 ⟨rfl, hrin, ho⟩
    have hq1 := ho.blk hq (by omega)
    have c0 : w1.cell? ⟨w.heap.size, 0, none⟩ = some (.int .i64 0) := hq1.cell 0
    have c1 : w1.cell? ⟨w.heap.size, 1, none⟩ = some (.int .u8 0) := hq1.cell 1
    have f0 := hq1.frozen 0
    have f1 := hq1.frozen 1
    have hl := hq1.lt
    have HO := hid ho
    have HR := hid hrin
    clear hq hq1 ho hrin
    go_wp2_with fail
    refine (HS.out _).mono ?_
    rintro e2 w2 ⟨rfl, rfl⟩
    go_wp2_with fail
    refine bodyPost_ret (v := .tuple #[.agg #[.int .i64 s1, .int .u8 s2], .int .i64 (e3 : Int)]) (by simp [results, Try.results150, go_sem, c0, c1]) rfl ⟨rfl, ?_, ?_⟩
    · exact (HR.out.far_set (by omega) hfn _ _).far_set (by omega) hfn _ _
    · have hw := (Only.refl q w).alloc (.cells #[.int .i64 0, .int .u8 0] 230)
      exact ((hw.trans HO.out).new_ (Nat.le_refl _) _ _).new_ (Nat.le_refl _) _ _
  · have heb : ((e : Int) != 0) = true := by simp; omega
    have hk := (hf.2 he).2.1
    subst hk
    rw [if_neg he] at hr
    rw [hr]
    clear hf hr he
    go_enter Try.func150, Try.ntmps150
    go_wp2_with fail
    refine HC.out.mono ?_
    rintro e1 w1 ⟨rfl, hrin, ho⟩
    have hq1 := ho.blk hq (by omega)
    have c0 : w1.cell? ⟨w.heap.size, 0, none⟩ = some (.int .i64 0) := hq1.cell 0
    have c1 : w1.cell? ⟨w.heap.size, 1, none⟩ = some (.int .u8 0) := hq1.cell 1
    have f0 := hq1.frozen 0
    have f1 := hq1.frozen 1
    have hl := hq1.lt
    have HO := hid ho
    have HR := hid hrin
    clear hq hq1 ho hrin
    go_wp2_with fail
    refine bodyPost_ret (v := .tuple #[.agg #[.int .i64 0, .int .u8 0], .int .i64 (e : Int)]) (by simp [results, Try.results150, go_sem, c0, c1]) rfl ⟨rfl, ?_, ?_⟩
    · exact (HR.out.far_set (by omega) hfn _ _).far_set (by omega) hfn _ _
    · have hw := (Only.refl q w).alloc (.cells #[.int .i64 0, .int .u8 0] 230)
      exact ((hw.trans HO.out).new_ (Nat.le_refl _) _ _).new_ (Nat.le_refl _) _ _
set_option maxRecDepth 100000 in
set_option maxHeartbeats 1000000 in
theorem told_head (w : World) (q : Nat) (A : Option Addr) (c : Nat) (bs : List UInt8) (p : Nat) (h : Rin 210 w q A c bs p) :
    Calls Try.prog 149 #[.pointer (some ⟨q, 0, none⟩), .func (.func 150) #[.pointer (some ⟨q, 0, none⟩)] #[]] w fun e w' => e = .returned (.tuple #[.agg #[.int .i64 (if (rHead bs p).2.2.1 = 0 then (rHead bs p).1 else 0), .int .u8 (if (rHead bs p).2.2.1 = 0 then (rHead bs p).2.1 else 0)], .agg #[.int .i64 ((rHead bs p).2.2.1 : Nat), .int .i64 (flt (rHead bs p).2.2.1 p : Nat)]]) ∧ Rin 210 w' q A c bs (plc (rHead bs p).2.2.1 p (rHead bs p).2.2.2) ∧ Only q w w' := by
  have hlt := h.blk.lt
  have hlt1 : q < w.heap.size + 1 := by omega
  have hlt2 : q < w.heap.size + 1 + 1 := by omega
  have hc := fun W hb => ihead_any W q A c bs p (h.below hb)
  have hset := fun (W w1 : World) (p1 : Nat) hb (hr : Rin 210 w1 q A c bs p1) => (h.below (w' := W) hb).set_ hr
  have c1 : w.cell? ⟨q, 1, none⟩ = some (.int .i64 (p : Int)) := by simpa using h.blk.cell 1
  have hfn := fun g (hg : w.heap.size ≤ g) => far_new h.sl hg
  have HC := hid hc
  have HSET := hid hset
  have HFN := hid hfn
  clear hc h hset hfn
  generalize rHead bs p = rr at *
  obtain ⟨s1, s2, e, p1⟩ := rr
  simp only at HC
  by_cases he : e = 0
  case' pos =>
    subst he
    simp only [flt, plc, if_true]
  case' neg =>
    have heb : ((e : Int) != 0) = true := by simp; omega
    simp only [flt, plc, he, if_false]
    clear he
  all_goals
    go_enter Try.func149, Try.ntmps149
    go_wp2_with fail
    generalize hW : World.alloc _ _ = W
    have hbW : Below w.heap.size w W := by rw [← hW]; exact ((((Below.refl _ w).alloc (Nat.le_refl _) _).alloc (by simp) _).alloc (by simp; omega) _)
    have hoW : Only q w W := by rw [← hW]; exact ((((Only.refl q w).alloc _).alloc _).alloc _)
    have hq4 : Blk W w.heap.size 230 #[.int .i64 0, .int .u8 0] := by rw [← hW]; exact (((Blk.new w _ _).alloc _).alloc _)
    have hq5 : Blk W (w.heap.size + 1) 33 #[.int .i64 0, .int .i64 0] := by
      rw [← hW]
      have h1 : ∀ (o1 o3 : Obj), Blk (((w.alloc o1).alloc (.cells #[.int .i64 0, .int .i64 0] 33)).alloc o3) (w.heap.size + 1) 33 #[.int .i64 0, .int .i64 0] := by
        intro o1 o3
        have := (Blk.new (w.alloc o1) 33 #[.int .i64 0, .int .i64 0]).alloc o3
        simpa using this
      exact h1 _ _
    have hq6 : Blk W (w.heap.size + 1 + 1) 230 #[.int .i64 0, .int .u8 0] := by
      rw [← hW]
      have h1 : ∀ (o1 o2 : Obj), Blk (((w.alloc o1).alloc o2).alloc (.cells #[.int .i64 0, .int .u8 0] 230)) (w.heap.size + 1 + 1) 230 #[.int .i64 0, .int .u8 0] := by
        intro o1 o2
        have := Blk.new ((w.alloc o1).alloc o2) 230 #[.int .i64 0, .int .u8 0]
        simpa using this
      exact h1 _ _
    clear hW
    refine (HC.out _ hbW).mono ?_
    rintro e1 w1 ⟨rfl, hrin, ho⟩
    have hq4' := ho.blk hq4 (by omega)
    have hq5' := ho.blk hq5 (by omega)
    have hq6' := ho.blk hq6 (by omega)
    have c40 : w1.cell? ⟨w.heap.size, 0, none⟩ = some (.int .i64 0) := hq4'.cell 0
    have c41 : w1.cell? ⟨w.heap.size, 1, none⟩ = some (.int .u8 0) := hq4'.cell 1
    have f40 := hq4'.frozen 0
    have f41 := hq4'.frozen 1
    have c50 : w1.cell? ⟨w.heap.size + 1, 0, none⟩ = some (.int .i64 0) := hq5'.cell 0
    have c51 : w1.cell? ⟨w.heap.size + 1, 1, none⟩ = some (.int .i64 0) := hq5'.cell 1
    have f50 := hq5'.frozen 0
    have f51 := hq5'.frozen 1
    have c60 : w1.cell? ⟨w.heap.size + 1 + 1, 0, none⟩ = some (.int .i64 0) := hq6'.cell 0
    have c61 : w1.cell? ⟨w.heap.size + 1 + 1, 1, none⟩ = some (.int .u8 0) := hq6'.cell 1
    have l4 := hq4'.lt
    have l5 := hq5'.lt
    have l6 := hq6'.lt
    have r1 := hrin.blk.frozen 1
    have rl := hrin.blk.lt
    have rc : w1.cell? ⟨q, 1, none⟩ = some (.int .i64 (p1 : Int)) := by simpa using hrin.blk.cell 1
    have HO := hid (hoW.trans ho)
    have HR := hid hrin
    have HB := hid hbW
    clear hq4 hq5 hq6 hq4' hq5' hq6' ho hrin hoW hbW
    go_wp2_with fail
  · refine bodyPost_ret (v := .tuple #[.agg #[.int .i64 0, .int .u8 0], .agg #[.int .i64 (e : Int), .int .i64 (p : Int)]]) (by simp [results, Try.results149, go_sem, c40, c41, c50, c51, l4, l5]) rfl ⟨rfl, ?_, ?_⟩
    · have h8 := HSET.out _ _ _ HB.out HR.out
      exact ((((h8.far_set (by omega) (HFN.out _ (by omega)) _ _).far_set (by omega) (HFN.out _ (by omega)) _ _).far_set (by omega) (HFN.out _ (by omega)) _ _).far_set (by omega) (HFN.out _ (by omega)) _ _).below ((Below.refl _ _).alloc (Nat.le_refl _) _)
    · exact (((((HO.out.set_ 1 _).new_ (by omega) _ _).new_ (by omega) _ _).new_ (by omega) _ _).new_ (by omega) _ _).alloc _
  · refine bodyPost_ret (v := .tuple #[.agg #[.int .i64 s1, .int .u8 s2], .agg #[.int .i64 0, .int .i64 0]]) (by simp [results, Try.results149, go_sem, c40, c41, c50, c51, l4, l5]) rfl ⟨rfl, ?_, ?_⟩
    · exact ((((HR.out.far_set (by omega) (HFN.out _ (by omega)) _ _).far_set (by omega) (HFN.out _ (by omega)) _ _).far_set (by omega) (HFN.out _ (by omega)) _ _).far_set (by omega) (HFN.out _ (by omega)) _ _).below ((Below.refl _ _).alloc (Nat.le_refl _) _)
    · exact ((((HO.out.new_ (by omega) _ _).new_ (by omega) _ _).new_ (by omega) _ _).new_ (by omega) _ _).alloc _
theorem cell_far2 {W : World} {g b o i j : Nat} {u v : Value} (h : b ≠ g) : (((W.setCell ⟨g, i, none⟩ u).setCell ⟨g, j, none⟩ v).drew).cell? ⟨b, o, none⟩ = W.cell? ⟨b, o, none⟩ :=
  World.cell?_of_block (a := ⟨b, o, none⟩) ((Below.heap_setCell _ ⟨g, j, none⟩ v b h).trans (Below.heap_setCell _ ⟨g, i, none⟩ u b h))
set_option maxRecDepth 100000 in
set_option maxHeartbeats 1000000 in
theorem itagm_any (w : World) (q : Nat) (A : Option Addr) (c : Nat) (bs : List UInt8) (p : Nat) (h : Rin 210 w q A c bs p) :
    Calls Try.prog 138 #[.pointer (some ⟨q, 0, none⟩)] w fun e w' => e = .returned (.tuple #[.int .i64 (if (rHead bs p).2.2.1 = 0 then (rHead bs p).1 else 0), .int .u8 (if (rHead bs p).2.2.1 = 0 then (rHead bs p).2.1 else 0), .agg #[.int .i64 ((rHead bs p).2.2.1 : Nat), .int .i64 (flt (rHead bs p).2.2.1 p : Nat)]]) ∧ Rin 210 w' q A c bs (plc (rHead bs p).2.2.1 p (rHead bs p).2.2.2) ∧ Only q w w' := by
  have hlt := h.blk.lt
  have h0 := h.below ((Below.refl _ w).alloc (Nat.le_refl _) (.cells #[.int .i64 0, .int .i64 0] 33))
  have hc := told_head _ q A c bs p h0
  have hfn := fun g (hg : w.heap.size ≤ g) => far_new h.sl hg
  have HC := hid hc
  have HFN := hid hfn
  clear hc h h0 hfn
  have hq : Blk (w.alloc (.cells #[.int .i64 0, .int .i64 0] 33)) w.heap.size 33 #[.int .i64 0, .int .i64 0] := Blk.new w _ _
  generalize (if (rHead bs p).2.2.1 = 0 then (rHead bs p).1 else 0) = v1 at *
  generalize (if (rHead bs p).2.2.1 = 0 then (rHead bs p).2.1 else 0) = v2 at *
  generalize plc (rHead bs p).2.2.1 p (rHead bs p).2.2.2 = p1 at *
  generalize (flt (rHead bs p).2.2.1 p : Nat) = fa at *
  generalize (rHead bs p).2.2.1 = e at *
  have hmf := func_run (P := Try.prog)
  go_enter Try.func138, Try.ntmps138
  go_wp2_with fail
  refine HC.out.mono ?_
  rintro e1 w1 ⟨rfl, hrin, ho⟩
  have hq1 := ho.blk hq (by omega)
  have c0 : w1.cell? ⟨w.heap.size, 0, none⟩ = some (.int .i64 0) := hq1.cell 0
  have c1 : w1.cell? ⟨w.heap.size, 1, none⟩ = some (.int .i64 0) := hq1.cell 1
  have f0 := hq1.frozen 0
  have f1 := hq1.frozen 1
  have hl := hq1.lt
  have HO := hid ho
  have HR := hid hrin
  clear hq hq1 ho hrin
  go_wp2_with fail
  have hne1 : w1.heap.size ≠ w.heap.size := by omega
  have hne2 : w1.heap.size + 1 ≠ w.heap.size := by omega
  have hll : w.heap.size < w1.heap.size + 1 := by omega
  have hll2 : w.heap.size < w1.heap.size + 1 + 1 := by omega
  generalize hW : World.alloc _ _ = W
  have hbW : Below w1.heap.size w1 W := by rw [← hW]; exact ((Below.refl _ w1).alloc (Nat.le_refl _) _).alloc (by simp) _
  have d0 : W.cell? ⟨w1.heap.size, 0, none⟩ = some (.int .i64 v1) := by rw [← hW]; exact ((Blk.new w1 230 #[.int .i64 v1, .int .u8 v2]).alloc _).cell 0
  have d1 : W.cell? ⟨w1.heap.size, 1, none⟩ = some (.int .u8 v2) := by rw [← hW]; exact ((Blk.new w1 230 #[.int .i64 v1, .int .u8 v2]).alloc _).cell 1
  have hbk : Blk W (w1.heap.size + 1) 33 #[.int .i64 (e : Int), .int .i64 (fa : Int)] := by
    rw [← hW]
    have := Blk.new (w1.alloc (.cells #[.int .i64 v1, .int .u8 v2] 230)) 33 #[.int .i64 (e : Int), .int .i64 (fa : Int)]
    simpa using this
  have d2 : W.cell? ⟨w1.heap.size + 1, 0, none⟩ = some (.int .i64 (e : Int)) := hbk.cell 0
  have d3 : W.cell? ⟨w1.heap.size + 1, 1, none⟩ = some (.int .i64 (fa : Int)) := hbk.cell 1
  have dl := hbk.lt
  have c0' : W.cell? ⟨w.heap.size, 0, none⟩ = some (.int .i64 0) := (hbW.cell (p := ⟨w.heap.size, 0, none⟩) hl).trans c0
  have c1' : W.cell? ⟨w.heap.size, 1, none⟩ = some (.int .i64 0) := (hbW.cell (p := ⟨w.heap.size, 1, none⟩) hl).trans c1
  have f0' : W.frozen? ⟨w.heap.size, 0, none⟩ = false := (hbW.frozen (p := ⟨w.heap.size, 0, none⟩) hl).trans f0
  have f1' : W.frozen? ⟨w.heap.size, 1, none⟩ = false := (hbW.frozen (p := ⟨w.heap.size, 1, none⟩) hl).trans f1
  have HB := hid hbW
  clear hW hbW hbk c0 c1 f0 f1
  go_still_tail 7, (by kernel_rfl)
  change wpList _ _ _ _ _ W.drew
  go_wp2_with fail
  refine bodyPost_ret (v := .tuple #[.int .i64 v1, .int .u8 v2, .agg #[.int .i64 (e : Int), .int .i64 (fa : Int)]]) (by simp [results, Try.results138, go_sem, c0', c1']) rfl ⟨rfl, ?_, ?_⟩
  · have h1 := (HR.out.below HB.out).below (below_drewN (Below.refl W.heap.size W) 1)
    exact (h1.far_set (by omega) (HFN.out _ (by omega)) _ _).far_set (by omega) (HFN.out _ (by omega)) _ _
  · exact ((((((Only.refl q w).alloc _).trans HO.out).trans (.of_below HB.out)).drewN 1).new_ (by omega) _ _).new_ (by omega) _ _
end Go.Proofs.Ytnfodgjihdoncaa
set_option linter.unusedVariables false
namespace Go.Proofs.Ytnfodgjihdoncaa
open Go.RowKit
set_option maxRecDepth 100000 in
set_option maxHeartbeats 1000000 in
theorem clone_any (bs : List UInt8) (n : Nat) (A : Option Addr) (c : Nat) (w : World) (hn : bs.length = n) (hl : n ≤ 1000000) (hs : Sl w A c (bs.map bv)) :
    Calls Try.prog 62 #[.slice A n c] w fun e w' => ∃ v, e = .returned v ∧ w'.ownsRow w.heap.size 5 1 v n (bs.map bv) ∧ Below w.heap.size w w' := by
  obtain ⟨i0, hi, hz0, hz1, hz2⟩ := info_parts Try.info5
  cases A with
  | none =>
    have hnil := hs.rd.none_nil
    obtain rfl : bs = [] := by simpa using hnil
    obtain rfl := hs.nil0 rfl
    obtain rfl : n = 0 := by simpa using hn.symm
    have hnil : ∀ W, (binOp .eql 30 (.slice none 0 0) (.slice none 0 0)).run Try.prog W = .ok (.bool true) W := fun W => Lib.run_eql_slice_nil W _ _ none 0 0 0 0 Try.underlying30
    go_enter Try.func62, Try.ntmps62
    go_wp2
    go_ret
    exact ⟨_, rfl, World.ownsRow_nil _ _ _ _, Below.refl _ _⟩
  | some a =>
    have hrow0 : (w.alloc (.cells #[] 5)).ownsRow w.heap.size 5 1 (.slice (some ⟨w.heap.size, 0, none⟩) 0 0) 0 [] := World.ownsRow_made w #[] 0 (Nat.le_refl _) (by decide) rfl
    have hsa : Sl (w.alloc (.cells #[] 5)) (some a) c (bs.map bv) := hs.below ((Below.refl _ _).alloc (Nat.le_refl _) _)
    have HN := hid hn
    clear hn
    have hnil : ∀ W, (binOp .eql 30 (.slice (some a) n c) (.slice none 0 0)).run Try.prog W = .ok (.bool false) W := fun W => Lib.run_eql_slice_nil W _ _ (some a) n c 0 0 Try.underlying30
    go_enter Try.func62, Try.ntmps62
    go_wp2_with (at_builtin; refine wpList_append_rd rfl (.tmp 5) (.tmp 6) 30 rfl w.heap.size 5 i0 (.int .u8 0) 1 1 Try.underlying30 hi hz0 hz1 hz2 rfl (by decide) _ _ _ rfl hrow0 (some a) n c (bs.map bv) rfl (by rw [List.length_map, HN.out, Nat.mul_one]) hsa.rd hsa.nil0 (bv_one _) (by simp only [maxLen]; omega) (by omega) (by simp) ?_; intro v1 w3 hown1 hgrow1)
    go_ret
    rw [Nat.zero_add] at hown1
    exact ⟨_, rfl, hown1, bw_g (bw_a (Below.refl _ _) _) hgrow1 (fun k ek => (hrow0.lt k ek).1)⟩
set_option maxRecDepth 100000 in
set_option maxHeartbeats 1000000 in
theorem new_any (bs : List UInt8) (n : Nat) (A : Option Addr) (c : Nat) (w : World) (hn : bs.length = n) (hl : n ≤ 1000000) (hs : Sl w A c (bs.map bv)) :
    Calls Try.prog 124 #[.slice A n c] w fun e w' => ∃ q A' c', e = .returned (.pointer (some ⟨q, 0, none⟩)) ∧ Rin 210 w' q A' c' bs 0 ∧ w.heap.size ≤ q ∧ (∀ g, g < w.heap.size ∨ q ≤ g → Far A' bs.length g) ∧ Below w.heap.size w w' := by
  have hc := clone_any bs n A c w hn hl hs
  have HC := hid hc
  have HN := hid hn
  clear hc hn
  go_enter Try.func124, Try.ntmps124
  go_wp2_with fail
  refine HC.out.mono ?_
  rintro e w1 ⟨v, rfl, hown, hb⟩
  obtain ⟨A', c', rfl, -, hs'⟩ := Sl.of_own hown
  have hfar : ∀ g, g < w.heap.size ∨ w1.heap.size ≤ g → Far A' bs.length g := by
    intro g hg hpos b off he
    have hbk := hown.lt b (by subst he; rfl)
    omega
  have HS := hid hs'
  have HF := hid hfar
  have HB := hid hb
  clear hown hs' hfar hb
  go_wp2_with fail
  go_ret
  refine ⟨w1.heap.size, A', c', rfl, ⟨?_, HS.out.below ((Below.refl _ _).alloc (Nat.le_refl _) _), Nat.zero_le _, HF.out _ (.inr (Nat.le_refl _))⟩, HB.out.size, HF.out, bw_a HB.out _⟩
  rw [HN.out]
  exact Blk.new w1 _ _
set_option maxRecDepth 100000 in
theorem nil_told (fn : Fn) (f1 f2 : Array Value) (w : World) : Calls Try.prog 151 #[.pointer none, .func fn f1 f2] w fun e w' => e = .returned (.tuple #[.int .u64 0, .agg #[.int .i64 4, .int .i64 0]]) ∧ Below w.heap.size w w' := by
  go_enter Try.func151, Try.ntmps151
  go_wp2
  refine bodyPost_ret (v := .tuple #[.int .u64 0, .agg #[.int .i64 4, .int .i64 0]]) (by simp [results, Try.results151, go_sem]) rfl ⟨rfl, (Below.refl _ w).alloc (Nat.le_refl _) _⟩
set_option maxRecDepth 100000 in
theorem nil_tolds (fn : Fn) (f1 f2 : Array Value) (w : World) : Calls Try.prog 154 #[.pointer none, .func fn f1 f2] w fun e w' => e = .returned (.tuple #[.slice none 0 0, .agg #[.int .i64 4, .int .i64 0]]) ∧ Below w.heap.size w w' := by
  go_enter Try.func154, Try.ntmps154
  go_wp2
  refine bodyPost_ret (v := .tuple #[.slice none 0 0, .agg #[.int .i64 4, .int .i64 0]]) (by simp [results, Try.results154, go_sem]) rfl ⟨rfl, (Below.refl _ w).alloc (Nat.le_refl _) _⟩
set_option maxRecDepth 100000 in
set_option maxHeartbeats 1000000 in
theorem nil_varint (w : World) : Calls Try.prog 139 #[.pointer none] w fun e w' => e = .returned (.tuple #[.int .u64 0, .agg #[.int .i64 4, .int .i64 0]]) ∧ Below w.heap.size w w' := by
  have hmf := func_run (P := Try.prog)
  have hq : Blk (w.alloc (.cells #[.int .i64 0, .int .i64 0] 33)) w.heap.size 33 #[.int .i64 0, .int .i64 0] := Blk.new w _ _
  go_enter Try.func139, Try.ntmps139
  go_wp2_with fail
  refine (nil_told _ _ _ _).mono ?_
  rintro e w1 ⟨rfl, hb⟩
  have hq1 := hq.below hb (by simp)
  have hb1 := bw_t (bw_a (Below.refl _ w) _) hb
  have c0 : w1.cell? ⟨w.heap.size, 0, none⟩ = some (.int .i64 0) := hq1.cell 0
  have c1 : w1.cell? ⟨w.heap.size, 1, none⟩ = some (.int .i64 0) := hq1.cell 1
  have f0 := hq1.frozen 0
  have f1 := hq1.frozen 1
  have HB := hid hb1
  clear hq hq1 hb hb1
  go_wp2_with fail
  exact bodyPost_ret (v := .tuple #[.int .u64 0, .agg #[.int .i64 4, .int .i64 0]]) (by simp [results, Try.results139, go_sem, c0, c1]) rfl ⟨rfl, (HB.out.setCell (p := ⟨w.heap.size, 0, none⟩) (Nat.le_refl _) _).setCell (p := ⟨w.heap.size, 1, none⟩) (Nat.le_refl _) _⟩
end Go.Proofs.Ytnfodgjihdoncaa
set_option linter.unusedVariables false
namespace Go.Proofs.Ytnfodgjihdoncaa
section
variable {P : Program} {ops : Array Oper} {md : Region.Mode}
theorem held_of_quiet {S C : World → Prop} {Q : Act → Prop} {Q' : Exit → Act → World → Prop} (hS : ∀ w, C w → S w) (hQ : ∀ a w, C w → Q a → Q' .normal a w) :
    ∀ (fuel : Nat) (listed : Array Bool) (a : Act) (w : World), C w → wpAnyQ P md ops C Q fuel listed a → wpAnyH P md ops Q' S fuel listed a w
  | 0, _, _, _, hw, h => ⟨h.1, hQ _ _ hw h.2⟩
  | fuel + 1, listed, _, _, hw, h => ⟨fun h0 => hQ _ _ hw (h.1 h0), fun i hi => wpOp_of_qOp (K' := fun a' w' => S w' ∧ wpAnyH P md ops Q' S fuel (listed.setIfInBounds i true) a' w') hw (fun a' w' hw' hk => ⟨hS w' hw', held_of_quiet hS hQ fuel _ a' w' hw' hk⟩) (h.2 i hi)⟩
/-- The rest of a region, from operation k on, in the order of the text, in the class of a world behind some draws. -/
theorem held_rest {S : World → Prop} {Q' : Exit → Act → World → Prop} {fuel : Nat} {listed : Array Bool} {a : Act} {w : World} (l : List Oper) (k : Nat) (hs : Region.noSelect ops = true) (hf : l.length = fuel) (hl : ∀ j, l[j]? = ops[k + j]?)
    (hB : Region.lexFrom md ops l.length k listed = true) (hS : ∀ n, S (w.drewN n))
    (h : wpQuiet P ops (fun w' => ∃ n, w' = w.drewN n) (fun a' => ∀ w', (∃ n, w' = w.drewN n) → Q' .normal a' w') l a) : wpAnyH P md ops Q' S fuel listed a w := by
  subst hf
  exact held_of_quiet (C := fun w' => ∃ n, w' = w.drewN n) (fun w' ⟨n, hn⟩ => hn ▸ hS n) (fun _ w' hw' h => h w' hw') _ _ _ _ ⟨0, rfl⟩ (wpAnyQ_lex hs l k listed a hl hB h)
/-- The same behind the first seven operations of a region that is written out. -/
theorem held_rest7 {S : World → Prop} {Q' : Exit → Act → World → Prop} {fuel : Nat} {listed : Array Bool} {a : Act} {w : World} {o0 o1 o2 o3 o4 o5 o6 : Oper} {l : List Oper} (hs : Region.noSelect (o0 :: o1 :: o2 :: o3 :: o4 :: o5 :: o6 :: l).toArray = true) (hf : l.length = fuel)
    (hB : Region.lexFrom md (o0 :: o1 :: o2 :: o3 :: o4 :: o5 :: o6 :: l).toArray l.length 7 listed = true) (hS : ∀ n, S (w.drewN n))
    (h : wpQuiet P (o0 :: o1 :: o2 :: o3 :: o4 :: o5 :: o6 :: l).toArray (fun w' => ∃ n, w' = w.drewN n) (fun a' => ∀ w', (∃ n, w' = w.drewN n) → Q' .normal a' w') l a) :
    wpAnyH P md (o0 :: o1 :: o2 :: o3 :: o4 :: o5 :: o6 :: l).toArray Q' S fuel listed a w :=
  held_rest l 7 hs hf (fun j => by rw [Nat.add_comm]; simp) hB hS h
end
end Go.Proofs.Ytnfodgjihdoncaa
