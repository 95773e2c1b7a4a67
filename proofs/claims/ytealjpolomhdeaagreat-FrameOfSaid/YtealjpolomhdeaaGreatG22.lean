/- strict.each: all kinds, with all versions. · strict.Any. · What laws with strict share. -/
import Derived.Test.YtealjpolomhdeaaGreatStrDec
import Derived.Test.YtealjpolomhdeaaGreatG5
import Derived.Test.YtealjpolomhdeaaGreatG4
import Derived.Test.YtealjpolomhdeaaGreatEn4
import Derived.Test.YtealjpolomhdeaaGreatLenBm
set_option linter.unusedVariables false
namespace Go.Proofs.YtealjpolomhdeaaGreat
open Go.RowKit Go.Shelf
attribute [local go_sem] Oper.semAt_some
end Go.Proofs.YtealjpolomhdeaaGreat
set_option linter.unusedVariables false
namespace Go.Proofs.YtealjpolomhdeaaGreat
open Go.RowKit Go.Shelf
attribute [local go_sem] Oper.semAt_some
/-- Whether bytes are a message's of a kind and version, of the thirty ones. -/
def anyJ (bs : List UInt8) (j : Nat) : Bool := decide ((strD (j / 3 + 1) ((j % 3 + 1 : Nat) : Int) bs).2.1 = 0)
/-- What holds between two rounds. -/
structure AJ (s : Nat) (w : World) (bs : List UInt8) (n : Nat) (A : Option Addr) (c : Nat) (j : Nat) (W : World) : Prop where
  bx : Blk W s 22 #[.slice A n c]
  r1 : Blk W (s + 1) 29 #[.int .u8 0, .int .u64 0, .int .u64 0, .int .u64 0, .int .u64 0, .int .u64 0, .int .u64 0, .string ⟨#[]⟩, .string ⟨#[]⟩, .slice none 0 0]
  r2 : Blk W (s + 1 + 1) 3 #[.int .i64 0]
  r3 : Blk W (s + 1 + 1 + 1) 4 #[.bool false]
  bel : Below s w W
  sz : s + 4 ≤ W.heap.size
  no : ∀ i, i < j → anyJ bs i = false
section
variable {s : Nat} {w W W' : World} {bs : List UInt8} {n : Nat} {A : Option Addr} {c j : Nat} {S : Nat → Prop}
theorem AJ.keep (h : AJ s w bs n A c j W) (hc : Chg S W W') (hS : ∀ q, S q → s + 4 ≤ q) : AJ s w bs n A c j W' := by
  have g := h.sz
  exact ⟨hc.blk h.bx (fun hx => by have := hS _ hx; omega), hc.blk h.r1 (fun hx => by have := hS _ hx; omega), hc.blk h.r2 (fun hx => by have := hS _ hx; omega), hc.blk h.r3 (fun hx => by have := hS _ hx; omega), h.bel.trans (hc.below (B := s) (fun x hx => by have := hS x hx; omega) (by omega)), Nat.le_trans g hc.size, h.no⟩
theorem AJ.next (h : AJ s w bs n A c j W) (hn : anyJ bs j = false) : AJ s w bs n A c (j + 1) W := ⟨h.bx, h.r1, h.r2, h.r3, h.bel, h.sz, fun i hi => by
  rcases Nat.lt_or_ge i j with hlt | hge
  · exact h.no i hlt
  · obtain rfl : i = j := by omega
    exact hn⟩
end
/-- What holds where a message was found. -/
structure AX (s b : Nat) (w : World) (M : MV) (vv : Int) (A' : Option Addr) (c' : Nat) (W : World) : Prop where
  r1 : Blk W (s + 1) 29 #[.int .u8 (M.k : Int), .int .u64 (M.n0 : Int), .int .u64 (M.n1 : Int), .int .u64 (M.n2 : Int), .int .u64 (M.n3 : Int), .int .u64 (M.n4 : Int), .int .u64 (M.n5 : Int), .string M.s0, .string M.s1, .slice A' M.l.length c']
  r2 : Blk W (s + 1 + 1) 3 #[.int .i64 vv]
  r3 : Blk W (s + 1 + 1 + 1) 4 #[.bool true]
  row : Ow W b 9 M.l.length A' c' (M.l.map sv)
  bel : Below s w W
  sz : s + 4 ≤ W.heap.size
theorem AX.keep {s b : Nat} {w W W' : World} {M : MV} {vv : Int} {A' : Option Addr} {c' : Nat} {S : Nat → Prop} (h : AX s b w M vv A' c' W) (hc : Chg S W W') (hS : ∀ q, S q → s + 4 ≤ q ∧ q < b) : AX s b w M vv A' c' W' := by
  have g := h.sz
  exact ⟨hc.blk h.r1 (fun hx => by have := hS _ hx; omega), hc.blk h.r2 (fun hx => by have := hS _ hx; omega), hc.blk h.r3 (fun hx => by have := hS _ hx; omega), h.row.chg hc (fun q hq => (hS q hq).2), h.bel.trans (hc.below (B := s) (fun x hx => by have := hS x hx; omega) (by omega)), Nat.le_trans g hc.size⟩
end Go.Proofs.YtealjpolomhdeaaGreat
set_option linter.unusedVariables false
namespace Go.Proofs.YtealjpolomhdeaaGreat
open Go.RowKit
theorem dec_st {k : Nat} {v : Int} {bs : List UInt8} {n : Nat} {A : Option Addr} {c : Nat} {w : World} (hk : k ≤ 255) (hv1 : -9223372036854775808 ≤ v) (hv2 : v ≤ 9223372036854775807) (hn : bs.length = n) (hs : Sl w A c (bs.map bv)) {R : MV} {E : Int} {P : Nat} (hR : strD k v bs = (R, E, P)) :
    Calls Tryz.prog 7 #[.int .u8 (k : Int), .int .i64 v, .slice A n c] w fun e w' => ∃ A' c', e = .returned (.tuple #[.agg #[.int .u8 (R.k : Int), .int .u64 (R.n0 : Int), .int .u64 (R.n1 : Int), .int .u64 (R.n2 : Int), .int .u64 (R.n3 : Int), .int .u64 (R.n4 : Int), .int .u64 (R.n5 : Int), .string R.s0, .string R.s1, .slice A' R.l.length c'], .agg #[.int .i64 E, .int .i64 (P : Int)]]) ∧ Sl w' A' c' (R.l.map sv) ∧ Below w.heap.size w w' := by
  refine (tdec_any k v bs n A c w hk hv1 hv2 hn hs).mono ?_
  rw [hR]
  rintro e w' ⟨A', c', rfl, ho, hb⟩
  exact ⟨_, _, rfl, ho.sl, hb⟩
theorem bsame (xs ys : List UInt8) (n m : Nat) (A B : Option Addr) (c d : Nat) (w : World) (hn : xs.length = n) (hm : ys.length = m) (hA : Sl w A c (xs.map bv)) (hB : Sl w B d (ys.map bv)) : Calls Tryz.prog 17 #[.slice A n c, .slice B m d] w fun e w' => e = .returned (.bool (decide (xs = ys))) ∧ Below w.heap.size w w' := by
  subst hn; subst hm
  have h1 := hA.cap; have h2 := hA.small
  rw [List.length_map] at h1
  refine (same_any xs ys A B c d w (by omega) hA.rd hB.rd).mono ?_
  rintro e w' ⟨he, k, rfl⟩
  exact ⟨he, below_drewN (Below.refl _ w) k⟩
theorem msame (R M : MV) (A' : Option Addr) (c' : Nat) (B : Option Addr) (d len : Nat) (W : World) (hlen : M.l.length = len) (h1 : Sl W A' c' (R.l.map sv)) (h2 : Sl W B d (M.l.map sv)) : Calls Tryz.prog 18 #[.agg #[.int .u8 (R.k : Int), .int .u64 (R.n0 : Int), .int .u64 (R.n1 : Int), .int .u64 (R.n2 : Int), .int .u64 (R.n3 : Int), .int .u64 (R.n4 : Int), .int .u64 (R.n5 : Int), .string R.s0, .string R.s1, .slice A' R.l.length c'], .agg #[.int .u8 (M.k : Int), .int .u64 (M.n0 : Int), .int .u64 (M.n1 : Int), .int .u64 (M.n2 : Int), .int .u64 (M.n3 : Int), .int .u64 (M.n4 : Int), .int .u64 (M.n5 : Int), .string M.s0, .string M.s1, .slice B len d]] W fun e w' => e = .returned (.bool (sameB R M)) ∧ Below W.heap.size W w' := by
  subst hlen
  exact vsame_any { R with A := A', c := c' } { M with A := B, c := d } W h1 h2
end Go.Proofs.YtealjpolomhdeaaGreat
