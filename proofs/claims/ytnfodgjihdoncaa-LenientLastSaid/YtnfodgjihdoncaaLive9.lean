/- What must be whatever is asked: layer 9. -/
import Derived.Test.YtnfodgjihdoncaaV3
set_option linter.unusedVariables false
namespace Go.Proofs.Ytnfodgjihdoncaa
open Go.RowKit
theorem held20 {w w' : World} (hc : Below w.heap.size w w') {p0 p1 p2 p3 p4 p5 p6 p7 p8 p9 p10 p11 p12 p13 p14 p15 p16 p17 p18 p19 : Addr} {x0 x1 x2 x3 x4 x5 x6 x7 x8 x9 x10 x11 x12 x13 x14 x15 x16 x17 x18 x19 : Value} (h : w.cell? p0 = some x0 ∧ w.cell? p1 = some x1 ∧ w.cell? p2 = some x2 ∧ w.cell? p3 = some x3 ∧ w.cell? p4 = some x4 ∧ w.cell? p5 = some x5 ∧ w.cell? p6 = some x6 ∧ w.cell? p7 = some x7 ∧ w.cell? p8 = some x8 ∧ w.cell? p9 = some x9 ∧ w.cell? p10 = some x10 ∧ w.cell? p11 = some x11 ∧ w.cell? p12 = some x12 ∧ w.cell? p13 = some x13 ∧ w.cell? p14 = some x14 ∧ w.cell? p15 = some x15 ∧ w.cell? p16 = some x16 ∧ w.cell? p17 = some x17 ∧ w.cell? p18 = some x18 ∧ w.cell? p19 = some x19) : w'.cell? p0 = some x0 ∧ w'.cell? p1 = some x1 ∧ w'.cell? p2 = some x2 ∧ w'.cell? p3 = some x3 ∧ w'.cell? p4 = some x4 ∧ w'.cell? p5 = some x5 ∧ w'.cell? p6 = some x6 ∧ w'.cell? p7 = some x7 ∧ w'.cell? p8 = some x8 ∧ w'.cell? p9 = some x9 ∧ w'.cell? p10 = some x10 ∧ w'.cell? p11 = some x11 ∧ w'.cell? p12 = some x12 ∧ w'.cell? p13 = some x13 ∧ w'.cell? p14 = some x14 ∧ w'.cell? p15 = some x15 ∧ w'.cell? p16 = some x16 ∧ w'.cell? p17 = some x17 ∧ w'.cell? p18 = some x18 ∧ w'.cell? p19 = some x19 := by
  obtain ⟨h0, h1, h2, h3, h4, h5, h6, h7, h8, h9, h10, h11, h12, h13, h14, h15, h16, h17, h18, h19⟩ := h
  have f : ∀ (p : Addr) (x : Value), w.cell? p = some x → w'.cell? p = some x := fun p x h => (hc.cell (World.block_lt_of_cell? w p h)).trans h
  exact ⟨f _ _ h0, f _ _ h1, f _ _ h2, f _ _ h3, f _ _ h4, f _ _ h5, f _ _ h6, f _ _ h7, f _ _ h8, f _ _ h9, f _ _ h10, f _ _ h11, f _ _ h12, f _ _ h13, f _ _ h14, f _ _ h15, f _ _ h16, f _ _ h17, f _ _ h18, f _ _ h19⟩
/-- The two messages in their boxes. -/
def L9S (s : Nat) (w' : World) : Prop := w'.cell? ⟨s, 0, none⟩ = some (.int .u8 8) ∧ w'.cell? ⟨s, 1, none⟩ = some (.int .u64 5) ∧ w'.cell? ⟨s, 2, none⟩ = some (.int .u64 0) ∧ w'.cell? ⟨s, 3, none⟩ = some (.int .u64 0) ∧ w'.cell? ⟨s, 4, none⟩ = some (.int .u64 0) ∧ w'.cell? ⟨s, 5, none⟩ = some (.int .u64 0) ∧ w'.cell? ⟨s, 6, none⟩ = some (.int .u64 0) ∧ w'.cell? ⟨s, 7, none⟩ = some (.string ⟨#[]⟩) ∧ w'.cell? ⟨s, 8, none⟩ = some (.string ⟨#[]⟩) ∧ w'.cell? ⟨s, 9, none⟩ = some (.slice none 0 0) ∧ w'.cell? ⟨s + 1, 0, none⟩ = some (.int .u8 7) ∧ w'.cell? ⟨s + 1, 1, none⟩ = some (.int .u64 0) ∧ w'.cell? ⟨s + 1, 2, none⟩ = some (.int .u64 0) ∧ w'.cell? ⟨s + 1, 3, none⟩ = some (.int .u64 0) ∧ w'.cell? ⟨s + 1, 4, none⟩ = some (.int .u64 0) ∧ w'.cell? ⟨s + 1, 5, none⟩ = some (.int .u64 0) ∧ w'.cell? ⟨s + 1, 6, none⟩ = some (.int .u64 0) ∧ w'.cell? ⟨s + 1, 7, none⟩ = some (.string ⟨#[120]⟩) ∧ w'.cell? ⟨s + 1, 8, none⟩ = some (.string ⟨#[]⟩) ∧ w'.cell? ⟨s + 1, 9, none⟩ = some (.slice none 0 0)
theorem L9S.step {s : Nat} {w w' : World} (hb : Below w.heap.size w w') (h : L9S s w) : L9S s w' := held20 hb h
theorem drew_bel {B : Nat} {a b : World} (h : Below B a b) : Below B a b.drew := ⟨h.os, h.tape, h.output, h.size, h.block⟩
def MQ : MV := ⟨8, 5, 0, 0, 0, 0, 0, ⟨#[]⟩, ⟨#[]⟩, none, 0, []⟩
def MC9 : MV := ⟨7, 0, 0, 0, 0, 0, 0, ⟨#[120]⟩, ⟨#[]⟩, none, 0, []⟩
def MX9 : MV := ⟨0, 18446744073709551615, 0, 0, 0, 0, 0, ⟨#[]⟩, ⟨#[]⟩, none, 0, []⟩
theorem mvok_of (w : World) (k n0 : Nat) (s0 : ByteArray) (hk : k ≤ 255) (hn : n0 ≤ 18446744073709551615) (hs : s0.size ≤ 100) : MvOk w ⟨k, n0, 0, 0, 0, 0, 0, s0, ⟨#[]⟩, none, 0, []⟩ := by
  refine ⟨hk, fun i => ?_, fun i => ?_, fun x hx => by simp at hx, Sl.nil_ w⟩
  · unfold MV.num; split <;> simp <;> omega
  · unfold MV.text
    split
    · show s0.size ≤ _; omega
    · show (0 : Nat) ≤ _; omega
    · show (0 : Nat) ≤ _; omega
theorem chk_x : chk ⟨#[120]⟩ 4096 = 0 := by
  have h1 : oneL [120] = (1, 120) := by decide
  have h2 : (scan [120] 0).2 = none := by rw [scan_more (by rw [h1]; decide)]; simp only [h1]; exact congrArg Prod.snd (scan_nil _)
  unfold chk checkI
  show (if (4096 : Int) < ((1 : Nat) : Int) then _ else _) = _
  rw [h2]; rfl
theorem l9_o1 : ofL ((8 : Nat) : Int) 1 = [] := by decide +kernel
theorem l9_o2 : ofL ((8 : Nat) : Int) 2 = [⟨8, 2, 1, 2, 0⟩] := by decide +kernel
theorem l9_o3 : ofL ((7 : Nat) : Int) 1 = [⟨7, 1, 1, 2, 0⟩] := by decide +kernel
theorem l9_o4 : ofL ((7 : Nat) : Int) 2 = [⟨7, 1, 1, 2, 0⟩, ⟨7, 2, 2, 8, 0⟩] := by decide +kernel
theorem l9_k1 : chkV MQ (ofL (MQ.k : Int) 1) = (7, 0) := by
  show chkV MQ (ofL ((8 : Nat) : Int) 1) = _
  rw [l9_o1]; rfl
theorem l9_k2 : chkV MQ (ofL (MQ.k : Int) 2) = (0, 0) := by
  show chkV MQ (ofL ((8 : Nat) : Int) 2) = _
  rw [l9_o2]; decide +kernel
theorem l9_k3 : chkV MC9 (ofL (MC9.k : Int) 1) = (20, 0) := by
  show chkV MC9 (ofL ((7 : Nat) : Int) 1) = _
  rw [l9_o3]; decide +kernel
theorem l9_k4 : chkV MC9 (ofL (MC9.k : Int) 2) = (0, 0) := by
  show chkV MC9 (ofL ((7 : Nat) : Int) 2) = _
  rw [l9_o4]
  have h1 : fldE MC9 ⟨7, 1, 1, 2, 0⟩ = 0 := by decide +kernel
  have h2 : fldE MC9 ⟨7, 2, 2, 8, 0⟩ = 0 := by rw [fldE_eq]; exact chk_x
  have h3 : sameB MC9 (keptM [⟨7, 1, 1, 2, 0⟩, ⟨7, 2, 2, 8, 0⟩] MC9) = true := by decide +kernel
  unfold chkV
  rw [if_neg (by decide), chkL, if_pos h1, chkL, if_pos h2, chkL, if_neg (by simp), if_pos h3]
theorem l9_clean : keptM (ofL (MC9.k : Int) 1) MC9 = ⟨7, 0, 0, 0, 0, 0, 0, ⟨#[]⟩, ⟨#[]⟩, none, 0, []⟩ := by
  show keptM (ofL ((7 : Nat) : Int) 1) MC9 = _
  rw [l9_o3]; rfl
theorem l9_c1 (W : World) : Calls Try.prog 51 #[.agg #[.int .u8 8, .int .u64 5, .int .u64 0, .int .u64 0, .int .u64 0, .int .u64 0, .int .u64 0, .string ⟨#[]⟩, .string ⟨#[]⟩, .slice none 0 0], .int .i64 1] W fun e w' => e = .returned (.agg #[.int .i64 7, .int .i64 0]) ∧ Below W.heap.size W w' := by
  have h := vcheck_any MQ 1 W (mvok_of W 8 5 _ (by omega) (by omega) (by decide)) (by omega) (by omega)
  rw [l9_k1] at h; exact h
theorem l9_c2 (W : World) : Calls Try.prog 51 #[.agg #[.int .u8 8, .int .u64 5, .int .u64 0, .int .u64 0, .int .u64 0, .int .u64 0, .int .u64 0, .string ⟨#[]⟩, .string ⟨#[]⟩, .slice none 0 0], .int .i64 2] W fun e w' => e = .returned (.agg #[.int .i64 0, .int .i64 0]) ∧ Below W.heap.size W w' := by
  have h := vcheck_any MQ 2 W (mvok_of W 8 5 _ (by omega) (by omega) (by decide)) (by omega) (by omega)
  rw [l9_k2] at h; exact h
theorem l9_c3 (W : World) : Calls Try.prog 51 #[.agg #[.int .u8 7, .int .u64 0, .int .u64 0, .int .u64 0, .int .u64 0, .int .u64 0, .int .u64 0, .string ⟨#[120]⟩, .string ⟨#[]⟩, .slice none 0 0], .int .i64 1] W fun e w' => e = .returned (.agg #[.int .i64 20, .int .i64 0]) ∧ Below W.heap.size W w' := by
  have h := vcheck_any MC9 1 W (mvok_of W 7 0 _ (by omega) (by omega) (by decide)) (by omega) (by omega)
  rw [l9_k3] at h; exact h
theorem l9_c4 (W : World) : Calls Try.prog 51 #[.agg #[.int .u8 7, .int .u64 0, .int .u64 0, .int .u64 0, .int .u64 0, .int .u64 0, .int .u64 0, .string ⟨#[120]⟩, .string ⟨#[]⟩, .slice none 0 0], .int .i64 2] W fun e w' => e = .returned (.agg #[.int .i64 0, .int .i64 0]) ∧ Below W.heap.size W w' := by
  have h := vcheck_any MC9 2 W (mvok_of W 7 0 _ (by omega) (by omega) (by decide)) (by omega) (by omega)
  rw [l9_k4] at h; exact h
theorem l9_s1 (W : World) : Calls Try.prog 77 #[.agg #[.int .u8 8, .int .u64 5, .int .u64 0, .int .u64 0, .int .u64 0, .int .u64 0, .int .u64 0, .string ⟨#[]⟩, .string ⟨#[]⟩, .slice none 0 0], .agg #[.int .u8 8, .int .u64 5, .int .u64 0, .int .u64 0, .int .u64 0, .int .u64 0, .int .u64 0, .string ⟨#[]⟩, .string ⟨#[]⟩, .slice none 0 0]] W fun e w' => e = .returned (.bool true) ∧ Below W.heap.size W w' := by
  have h := vsame_any MQ MQ W (Sl.nil_ W) (Sl.nil_ W)
  rw [show sameB MQ MQ = true by decide +kernel] at h; exact h
theorem l9_s2 (W : World) : Calls Try.prog 77 #[.agg #[.int .u8 8, .int .u64 5, .int .u64 0, .int .u64 0, .int .u64 0, .int .u64 0, .int .u64 0, .string ⟨#[]⟩, .string ⟨#[]⟩, .slice none 0 0], .agg #[.int .u8 7, .int .u64 0, .int .u64 0, .int .u64 0, .int .u64 0, .int .u64 0, .int .u64 0, .string ⟨#[120]⟩, .string ⟨#[]⟩, .slice none 0 0]] W fun e w' => e = .returned (.bool false) ∧ Below W.heap.size W w' := by
  have h := vsame_any MQ MC9 W (Sl.nil_ W) (Sl.nil_ W)
  rw [show sameB MQ MC9 = false by decide +kernel] at h; exact h
theorem l9_s3 (W : World) (A' : Option Addr) (c' : Nat) (hs : Sl W A' c' []) : Calls Try.prog 77 #[.agg #[.int .u8 7, .int .u64 0, .int .u64 0, .int .u64 0, .int .u64 0, .int .u64 0, .int .u64 0, .string ⟨#[120]⟩, .string ⟨#[]⟩, .slice A' 0 c'], .agg #[.int .u8 7, .int .u64 0, .int .u64 0, .int .u64 0, .int .u64 0, .int .u64 0, .int .u64 0, .string ⟨#[120]⟩, .string ⟨#[]⟩, .slice none 0 0]] W fun e w' => e = .returned (.bool true) ∧ Below W.heap.size W w' := by
  have h := vsame_any { MC9 with A := A', c := c' } MC9 W hs (Sl.nil_ W)
  have h2 : sameB { MC9 with A := A', c := c' } MC9 = true := rfl
  rw [h2] at h; exact h
theorem l9_d1 (W : World) : Calls Try.prog 75 #[.agg #[.int .u8 8, .int .u64 5, .int .u64 0, .int .u64 0, .int .u64 0, .int .u64 0, .int .u64 0, .string ⟨#[]⟩, .string ⟨#[]⟩, .slice none 0 0], .agg #[.int .i64 0, .int .i64 2, .int .i64 1]] W fun e w' => e = .returned (.bool true) ∧ Below W.heap.size W w' := vdef_any MQ 0 2 1 W
theorem l9_d2 (W : World) : Calls Try.prog 75 #[.agg #[.int .u8 8, .int .u64 5, .int .u64 0, .int .u64 0, .int .u64 0, .int .u64 0, .int .u64 0, .string ⟨#[]⟩, .string ⟨#[]⟩, .slice none 0 0], .agg #[.int .i64 0, .int .i64 2, .int .i64 0]] W fun e w' => e = .returned (.bool false) ∧ Below W.heap.size W w' := vdef_any MQ 0 2 0 W
theorem l9_i (W : World) : Calls Try.prog 122 #[.agg #[.int .u8 0, .int .u64 18446744073709551615, .int .u64 0, .int .u64 0, .int .u64 0, .int .u64 0, .int .u64 0, .string ⟨#[]⟩, .string ⟨#[]⟩, .slice none 0 0], .int .i64 0] W fun e w' => e = .returned (.int .i64 (-1)) ∧ Below W.heap.size W w' := by
  have h := vint_any MX9 0 W
  rw [show wrap64 ((MX9.num 0 : Nat) : Int) = -1 by decide +kernel] at h; exact h
theorem l9_cp (W : World) : Calls Try.prog 71 #[.agg #[.int .u8 7, .int .u64 0, .int .u64 0, .int .u64 0, .int .u64 0, .int .u64 0, .int .u64 0, .string ⟨#[120]⟩, .string ⟨#[]⟩, .slice none 0 0]] W fun e w' => ∃ A' c', e = .returned (.agg #[.int .u8 7, .int .u64 0, .int .u64 0, .int .u64 0, .int .u64 0, .int .u64 0, .int .u64 0, .string ⟨#[120]⟩, .string ⟨#[]⟩, .slice A' 0 c']) ∧ Sl w' A' c' [] ∧ Below W.heap.size W w' := by
  refine (vcopy_any MC9 W (by decide) (Sl.nil_ W)).mono ?_
  rintro e w' ⟨A', c', rfl, ho, hb⟩
  obtain ⟨A2, c2, h1, -, hs⟩ := Sl.of_own ho
  injection h1 with h1 h2 h3
  subst h1
  subst h3
  exact ⟨A', c', rfl, hs, hb⟩
end Go.Proofs.Ytnfodgjihdoncaa
