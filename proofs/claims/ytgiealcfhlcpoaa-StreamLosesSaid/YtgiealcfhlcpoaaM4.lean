/- The inlet's own parts: rest, At, Left, number. · The inlet's own parts: At, Left, four, eight, next, counted, head. · The inlet's At. · The inlet's own parts: next, counted. · What the inlet tells: told, at each kind, and the methods that read. · The inlet's methods that read bytes: Bytes, Take. · The inlet's tag: head, told, Tag. · inlet.New, and what a reader that is nil answers. · A region that draws: a call in its midst, and behind it whatever only reads, in one walk. -/
import Derived.Test.YtgiealcfhlcpoaaProg
import Derived.Test.YtgiealcfhlcpoaaM1
import Derived.Test.YtgiealcfhlcpoaaM2
import Derived.Deep.QuietTactic
import Derived.BigQuiet
import Derived.Deep.RegionHeld3
import Derived.StillTailTactics
import Derived.Lib.SliceRun
set_option linter.unusedVariables false
namespace Go.Proofs.Ytgiealcfhlcpoaa
open Go.RowKit
/-- A reader of type t in block q: its bytes and its place. -/
structure Rin (t : TypeId) (w : World) (q : Nat) (A : Option Addr) (c : Nat) (bs : List UInt8) (p : Nat) : Prop where
  blk : Blk w q t #[.slice A bs.length c, .int .i64 (p : Int)]
  sl : Sl w A c (bs.map bv)
  le : p ≤ bs.length
  far : Far A bs.length q
theorem Rin.cap {t : TypeId} {w : World} {q : Nat} {A : Option Addr} {c : Nat} {bs : List UInt8} {p : Nat} (h : Rin t w q A c bs p) : bs.length ≤ c := by have := h.sl.cap; simpa using this
theorem Rin.move {t : TypeId} {w w' : World} {q : Nat} {A : Option Addr} {c : Nat} {bs : List UInt8} {p p' : Nat} (h : Rin t w q A c bs p) (ho : Only q w w') (hb : Blk w' q t #[.slice A bs.length c, .int .i64 (p' : Int)]) (hp : p' ≤ bs.length) : Rin t w' q A c bs p' :=
  ⟨hb, ho.sl h.sl h.far (by simp), hp, h.far⟩
theorem Rin.other {t : TypeId} {w w' : World} {q q' : Nat} {A : Option Addr} {c : Nat} {bs : List UInt8} {p : Nat} (h : Rin t w q A c bs p) (ho : Only q' w w') (hq : q ≠ q') (hf : Far A bs.length q') : Rin t w' q A c bs p :=
  ⟨ho.blk h.blk hq, ho.sl h.sl hf (by simp), h.le, h.far⟩
theorem Rin.below {t : TypeId} {w w' : World} {q : Nat} {A : Option Addr} {c : Nat} {bs : List UInt8} {p : Nat} (h : Rin t w q A c bs p) (hb : Below w.heap.size w w') : Rin t w' q A c bs p :=
  ⟨h.blk.below hb h.blk.lt, h.sl.below hb, h.le, h.far⟩
/-- The slice from a place on, as the model cuts it. -/
def cutA (A : Option Addr) (c p : Nat) : Option Addr := if c = p then A else A.map fun a => a.add p
theorem Sl.cut {w : World} {A : Option Addr} {c : Nat} {bs : List UInt8} (h : Sl w A c (bs.map bv)) (p : Nat) (hp : p ≤ bs.length) : Sl w (cutA A c p) (c - p) ((bs.drop p).map bv) := by
  have hc := h.cap
  simp only [List.length_map] at hc
  refine ⟨by simp; omega, by have := h.small; omega, ?_, ?_⟩
  · intro hn
    unfold cutA at hn
    split at hn
    · have := h.nil0 hn; omega
    · cases A with
      | none => have := h.nil0 rfl; omega
      | some a => simp at hn
  · unfold cutA
    split
    · rename_i he
      have : p = bs.length := by omega
      subst this
      rw [List.drop_length]; exact Rd.nil_ _ _
    · cases A with
      | none => have := h.rd.none_nil; simp at this; subst this; simp; exact Rd.nil_ _ _
      | some a =>
        intro j u hj
        obtain ⟨b, off, he, hl, hcell⟩ := h.rd (p + j) u (by rw [← List.getElem?_drop, ← List.map_drop]; exact hj)
        injection he with he
        subst he
        refine ⟨b, off + p, ?_, hl, by rw [Nat.add_assoc]; exact hcell⟩
        simp [addr_add]
theorem Far.cut {w : World} {A : Option Addr} {q c p n : Nat} {bs : List UInt8} (h : Far A bs.length q) (hs : Sl w A c (bs.map bv)) (hn : n ≤ bs.length) : Far (cutA A c p) n q := by
  intro hpos b off he
  obtain ⟨b', off', hA, _⟩ := hs.rd 0 (bv (bs[0]'(by omega))) (by simp [List.getElem?_eq_getElem (show 0 < bs.length by omega)])
  subst hA
  have hne := h (by omega) b' off' rfl
  unfold cutA at he
  split at he
  · injection he with he; injection he with h1 h2; omega
  · simp only [Option.map_some, addr_add] at he
    injection he with he; injection he with h1 h2; omega
end Go.Proofs.Ytgiealcfhlcpoaa
set_option linter.unusedVariables false
namespace Go.Proofs.Ytgiealcfhlcpoaa
open Go.RowKit
/-- So many bytes, read as a number: it, what is wrong, and the place behind. -/
def rFix (k : Nat) (bs : List UInt8) (p : Nat) : Nat × Nat × Nat := if bs.length - p < k then (0, 4, p) else (unfixN ((bs.drop p).take k), 0, p + k)
theorem g32_at (bs : List UInt8) (n : Nat) (A : Option Addr) (c : Nat) (w : World) (hn : bs.length = n) (hR : Sl w A c (bs.map bv)) :
    Calls Try.prog 40 #[.slice A n c] w fun e w' => e = .returned (.tuple #[.int .u32 (if n < 4 then 0 else unfixN (bs.take 4)), .int .i64 (if n < 4 then 4 else 0)]) ∧ w = w' := by
  subst hn; exact get32_any bs A c w hR
end Go.Proofs.Ytgiealcfhlcpoaa
set_option linter.unusedVariables false
namespace Go.Proofs.Ytgiealcfhlcpoaa
open Go.RowKit
end Go.Proofs.Ytgiealcfhlcpoaa
set_option linter.unusedVariables false
namespace Go.Proofs.Ytgiealcfhlcpoaa
open Go.RowKit
/-- So many bytes: they, what is wrong, and the place behind. -/
def rTake (n : Int) (bs : List UInt8) (p : Nat) : List UInt8 × Nat × Nat :=
  if n < 0 then ([], 1, p) else if ((bs.length - p : Nat) : Int) < n then ([], 4, p) else ((bs.drop p).take n.toNat, 0, p + n.toNat)
theorem rTake_neg {n : Int} {bs : List UInt8} {p : Nat} (h : n < 0) : rTake n bs p = ([], 1, p) := by rw [rTake, if_pos h]
theorem rTake_short {n : Int} {bs : List UInt8} {p : Nat} (h : ¬ n < 0) (h2 : ((bs.length - p : Nat) : Int) < n) : rTake n bs p = ([], 4, p) := by rw [rTake, if_neg h, if_pos h2]
theorem rTake_ok {n : Int} {bs : List UInt8} {p : Nat} (h : ¬ n < 0) (h2 : ¬ ((bs.length - p : Nat) : Int) < n) : rTake n bs p = ((bs.drop p).take n.toNat, 0, p + n.toNat) := by rw [rTake, if_neg h, if_neg h2]
/-- A piece of a slice. -/
theorem Sl.piece {w : World} {A : Option Addr} {c : Nat} {bs : List UInt8} (h : Sl w A c (bs.map bv)) (p m : Nat) (hp : p + m ≤ bs.length) : Sl w (cutA A (p + m) p) m (((bs.drop p).take m).map bv) := by
  have hc := h.cap
  simp only [List.length_map] at hc
  have hl : ((bs.drop p).take m).length = m := by simp; omega
  refine ⟨by simp; omega, by have := h.small; omega, ?_, ?_⟩
  · intro hn
    unfold cutA at hn
    split at hn
    · omega
    · cases A with
      | none => have := h.nil0 rfl; omega
      | some a => simp at hn
  · unfold cutA
    split
    · have : m = 0 := by omega
      subst this
      simp; exact Rd.nil_ _ _
    · cases A with
      | none => have := h.rd.none_nil; simp at this; subst this; simp; exact Rd.nil_ _ _
      | some a =>
        intro j u hj
        rw [List.map_take, List.getElem?_take] at hj
        split at hj
        · obtain ⟨b, off, he, hl, hcell⟩ := h.rd (p + j) u (by rw [← List.getElem?_drop, ← List.map_drop]; exact hj)
          injection he with he
          subst he
          refine ⟨b, off + p, ?_, hl, by rw [Nat.add_assoc]; exact hcell⟩
          simp [addr_add]
        · cases hj
theorem Blk.drewN {w : World} {g : Nat} {t : TypeId} {cs : Array Value} (h : Blk w g t cs) (n : Nat) : Blk (w.drewN n) g t cs := h
theorem Far.cutP {w : World} {A : Option Addr} {q c d p n N : Nat} {bs : List UInt8} (h : Far A N q) (hs : Sl w A c (bs.map bv)) (hn : n ≤ N) (hN : bs.length = N := by assumption) : Far (cutA A d p) n q := by
  subst hN
  intro hpos b off he
  obtain ⟨b', off', hA, _⟩ := hs.rd 0 (bv (bs[0]'(by omega))) (by simp [List.getElem?_eq_getElem (show 0 < bs.length by omega)])
  subst hA
  have hne := h (by omega) b' off' rfl
  unfold cutA at he
  split at he
  · injection he with he; injection he with h1 h2; omega
  · simp only [Option.map_some, addr_add] at he
    injection he with he; injection he with h1 h2; omega
/-- A length, and so many bytes. -/
def rCount (most : Int) (bs : List UInt8) (p : Nat) : List UInt8 × Nat × Nat :=
  if (M.get (bs.drop p)).2.2 ≠ 0 then ([], (M.get (bs.drop p)).2.2, p)
  else if most < 0 ∨ most < ((M.get (bs.drop p)).1 : Int) then ([], 2, p + (M.get (bs.drop p)).2.1)
  else rTake ((M.get (bs.drop p)).1 : Int) bs (p + (M.get (bs.drop p)).2.1)
end Go.Proofs.Ytgiealcfhlcpoaa
set_option linter.unusedVariables false
namespace Go.Proofs.Ytgiealcfhlcpoaa
open Go.RowKit
theorem func_run {P : Program} (fn : Fn) (first cap : Array Value) (w : World) : (Instr.makeFunc fn first cap).run P w = .ok (.func fn first cap) w := rfl
/-- The place of a fault. -/
def flt (e p : Nat) : Nat := if e = 0 then 0 else p
/-- Where the reader is behind. -/
def plc (e p p1 : Nat) : Nat := if e = 0 then p1 else p
theorem Rin.set_ {t : TypeId} {w w1 : World} {q : Nat} {A : Option Addr} {c : Nat} {bs : List UInt8} {p p1 : Nat} (h : Rin t w q A c bs p) (h1 : Rin t w1 q A c bs p1) : Rin t (w1.setCell ⟨q, 1, none⟩ (.int .i64 (p : Int))) q A c bs p := by
  refine h1.move ((Only.refl q w1).set_ 1 _) ?_ h.le
  have := h1.blk.set_ 1 (.int .i64 (p : Int))
  simpa using this
theorem Rin.far_set {t : TypeId} {w : World} {q g : Nat} {A : Option Addr} {c : Nat} {bs : List UInt8} {p : Nat} (h : Rin t w q A c bs p) (hq : q ≠ g) (hf : Far A bs.length g) (i : Nat) (u : Value) : Rin t (w.setCell ⟨g, i, none⟩ u) q A c bs p :=
  h.other ((Only.refl g w).set_ i u) hq hf
theorem far_new {w : World} {A : Option Addr} {c : Nat} {bs : List UInt8} {g : Nat} (h : Sl w A c (bs.map bv)) (hg : w.heap.size ≤ g) : Far A bs.length g := by
  intro hpos b off he
  obtain ⟨b', off', hA, hlt, _⟩ := h.rd 0 (bv (bs[0]'hpos)) (by simp [List.getElem?_eq_getElem hpos])
  rw [he] at hA
  injection hA with hA
  injection hA with h1 h2
  omega
end Go.Proofs.Ytgiealcfhlcpoaa
set_option linter.unusedVariables false
namespace Go.Proofs.Ytgiealcfhlcpoaa
open Go.RowKit
theorem cell_second (w : World) (o1 o3 : Obj) (v : Value) (t : TypeId) : (((w.alloc o1).alloc (.cells #[v] t)).alloc o3).cell? ⟨w.heap.size + 1, 0, none⟩ = some v := by
  have h := ((Blk.new (w.alloc o1) t #[v]).alloc o3).cell 0
  simpa using h
theorem blk_third (w : World) (o1 o2 : Obj) (cs : Array Value) (t : TypeId) : Blk (((w.alloc o1).alloc o2).alloc (.cells cs t)) (w.heap.size + 1 + 1) t cs := by
  have h := Blk.new ((w.alloc o1).alloc o2) t cs
  simpa using h
end Go.Proofs.Ytgiealcfhlcpoaa
set_option linter.unusedVariables false
namespace Go.Proofs.Ytgiealcfhlcpoaa
open Go.RowKit
/-- A tag: number, wire type, what is wrong, the place behind. -/
def rHead (bs : List UInt8) (p : Nat) : Int × Int × Nat × Nat :=
  if (M.get (bs.drop p)).2.2 = 0 then ((spl (M.get (bs.drop p)).1).1, (spl (M.get (bs.drop p)).1).2.1, (spl (M.get (bs.drop p)).1).2.2.toNat, p + (M.get (bs.drop p)).2.1) else (0, 0, (M.get (bs.drop p)).2.2, p)
theorem spl_err (n : Int) : 0 ≤ (spl n).2.2 ∧ (spl n).2.2 ≤ 7 ∧ ((spl n).2.2 ≠ 0 → (spl n).1 = 0 ∧ (spl n).2.1 = 0) := by
  unfold spl
  split
  · simp
  · split <;> simp
theorem cell_far2 {W : World} {g b o i j : Nat} {u v : Value} (h : b ≠ g) : (((W.setCell ⟨g, i, none⟩ u).setCell ⟨g, j, none⟩ v).drew).cell? ⟨b, o, none⟩ = W.cell? ⟨b, o, none⟩ :=
  World.cell?_of_block (a := ⟨b, o, none⟩) ((Below.heap_setCell _ ⟨g, j, none⟩ v b h).trans (Below.heap_setCell _ ⟨g, i, none⟩ u b h))
end Go.Proofs.Ytgiealcfhlcpoaa
set_option linter.unusedVariables false
namespace Go.Proofs.Ytgiealcfhlcpoaa
open Go.RowKit
set_option maxRecDepth 100000 in
set_option maxHeartbeats 1000000 in
theorem clone_any (bs : List UInt8) (n : Nat) (A : Option Addr) (c : Nat) (w : World) (hn : bs.length = n) (hl : n ≤ 1000000) (hs : Sl w A c (bs.map bv)) :
    Calls Try.prog 17 #[.slice A n c] w fun e w' => ∃ v, e = .returned v ∧ w'.ownsRow w.heap.size 5 1 v n (bs.map bv) ∧ Below w.heap.size w w' := by
  obtain ⟨i0, hi, hz0, hz1, hz2⟩ := info_parts Try.info5
  cases A with
  | none =>
    have hnil := hs.rd.none_nil
    obtain rfl : bs = [] := by simpa using hnil
    obtain rfl := hs.nil0 rfl
    obtain rfl : n = 0 := by simpa using hn.symm
    have hnil : ∀ W, (binOp .eql 25 (.slice none 0 0) (.slice none 0 0)).run Try.prog W = .ok (.bool true) W := fun W => Lib.run_eql_slice_nil W _ _ none 0 0 0 0 Try.underlying25
    go_enter Try.func17, Try.ntmps17
    go_wp2
    go_ret
    exact ⟨_, rfl, World.ownsRow_nil _ _ _ _, Below.refl _ _⟩
  | some a =>
    have hrow0 : (w.alloc (.cells #[] 5)).ownsRow w.heap.size 5 1 (.slice (some ⟨w.heap.size, 0, none⟩) 0 0) 0 [] := World.ownsRow_made w #[] 0 (Nat.le_refl _) (by decide) rfl
    have hsa : Sl (w.alloc (.cells #[] 5)) (some a) c (bs.map bv) := hs.below ((Below.refl _ _).alloc (Nat.le_refl _) _)
    have HN := hid hn
    clear hn
    have hnil : ∀ W, (binOp .eql 25 (.slice (some a) n c) (.slice none 0 0)).run Try.prog W = .ok (.bool false) W := fun W => Lib.run_eql_slice_nil W _ _ (some a) n c 0 0 Try.underlying25
    go_enter Try.func17, Try.ntmps17
    go_wp2_with (at_builtin; refine wpList_append_rd rfl (.tmp 5) (.tmp 6) 25 rfl w.heap.size 5 i0 (.int .u8 0) 1 1 Try.underlying25 hi hz0 hz1 hz2 rfl (by decide) _ _ _ rfl hrow0 (some a) n c (bs.map bv) rfl (by rw [List.length_map, HN.out, Nat.mul_one]) hsa.rd hsa.nil0 (bv_one _) (by simp only [maxLen]; omega) (by omega) (by simp) ?_; intro v1 w3 hown1 hgrow1)
    go_ret
    rw [Nat.zero_add] at hown1
    exact ⟨_, rfl, hown1, bw_g (bw_a (Below.refl _ _) _) hgrow1 (fun k ek => (hrow0.lt k ek).1)⟩
end Go.Proofs.Ytgiealcfhlcpoaa
set_option linter.unusedVariables false
namespace Go.Proofs.Ytgiealcfhlcpoaa
section
variable {P : Program} {ops : Array Oper} {md : Region.Mode}
theorem held_of_quiet {S C : World → Prop} {Q : Act → Prop} {Q' : Exit → Act → World → Prop} (hS : ∀ w, C w → S w) (hQ : ∀ a w, C w → Q a → Q' .normal a w) :
    ∀ (fuel : Nat) (listed : Array Bool) (a : Act) (w : World), C w → wpAnyQ P md ops C Q fuel listed a → wpAnyH P md ops Q' S fuel listed a w
  | 0, _, _, _, hw, h => ⟨h.1, hQ _ _ hw h.2⟩
  | fuel + 1, listed, _, _, hw, h => ⟨fun h0 => hQ _ _ hw (h.1 h0), fun i hi => wpOp_of_qOp (K' := fun a' w' => S w' ∧ wpAnyH P md ops Q' S fuel (listed.setIfInBounds i true) a' w') hw (fun a' w' hw' hk => ⟨hS w' hw', held_of_quiet hS hQ fuel _ a' w' hw' hk⟩) (h.2 i hi)⟩
/-- The rest of a region, from operation k on, in the order of the text, in the class of a world behind some draws. -/
theorem held_rest {S : World → Prop} {Q' : Exit → Act → World → Prop} {fuel : Nat} {listed : Array Bool} {a : Act} {w : World} (l : List Oper) (k : Nat) (hs : Region.noSelect ops = true) (hf : l.length = fuel) (hl : ∀ j, l[j]? = ops[k + j]?)
    (hB : Region.lexFrom md ops l.length k listed = true) (hS : ∀ n, S (w.drewN n))
    (h : wpQuiet P ops (fun w' => ∃ n, w' = w.drewN n) (fun a' => ∀ w', (∃ n, w' = w.drewN n) → Q' .normal a' w') l a) : wpAnyH P md ops Q' S fuel listed a w := by
  subst hf
  exact held_of_quiet (C := fun w' => ∃ n, w' = w.drewN n) (fun w' ⟨n, hn⟩ => hn ▸ hS n) (fun _ w' hw' h => h w' hw') _ _ _ _ ⟨0, rfl⟩ (wpAnyQ_lex hs l k listed a hl hB h)
/-- The same behind the first seven operations of a region that is written out. -/
theorem held_rest7 {S : World → Prop} {Q' : Exit → Act → World → Prop} {fuel : Nat} {listed : Array Bool} {a : Act} {w : World} {o0 o1 o2 o3 o4 o5 o6 : Oper} {l : List Oper} (hs : Region.noSelect (o0 :: o1 :: o2 :: o3 :: o4 :: o5 :: o6 :: l).toArray = true) (hf : l.length = fuel)
    (hB : Region.lexFrom md (o0 :: o1 :: o2 :: o3 :: o4 :: o5 :: o6 :: l).toArray l.length 7 listed = true) (hS : ∀ n, S (w.drewN n))
    (h : wpQuiet P (o0 :: o1 :: o2 :: o3 :: o4 :: o5 :: o6 :: l).toArray (fun w' => ∃ n, w' = w.drewN n) (fun a' => ∀ w', (∃ n, w' = w.drewN n) → Q' .normal a' w') l a) :
    wpAnyH P md (o0 :: o1 :: o2 :: o3 :: o4 :: o5 :: o6 :: l).toArray Q' S fuel listed a w :=
  held_rest l 7 hs hf (fun j => by rw [Nat.add_comm]; simp) hB hS h
end
end Go.Proofs.Ytgiealcfhlcpoaa
