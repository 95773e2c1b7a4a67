/- strict.read, strict.Decode, strict.Fix. -/
import Derived.Test.YtnfodgjihdoncaaStrMath
import Derived.Test.YtnfodgjihdoncaaRegInvB
import Derived.Test.YtnfodgjihdoncaaLenDec
set_option linter.unusedVariables false
namespace Go.Proofs.Ytnfodgjihdoncaa
open Go.RowKit
/-- A row of the call's own, of cells of one. -/
structure Ow (w : World) (B e n : Nat) (A : Option Addr) (c : Nat) (xs : List Value) : Prop where
  own : w.ownsRow B e 1 (.slice A n c) n xs
theorem Ow.below {w w' : World} {B e n : Nat} {A : Option Addr} {c : Nat} {xs : List Value} (h : Ow w B e n A c xs) (hb : Below w.heap.size w w') : Ow w' B e n A c xs := ⟨own_below h.own hb⟩
theorem Ow.chg {w w' : World} {B e n : Nat} {A : Option Addr} {c : Nat} {xs : List Value} {S : Nat → Prop} (h : Ow w B e n A c xs) (hc : Chg S w w') (hS : ∀ q, S q → q < B) : Ow w' B e n A c xs := ⟨own_chgS h.own hc fun g hg hx => by have := (h.own.lt g hg).1; have := hS g hx; omega⟩
theorem Ow.mono {w : World} {B B' e n : Nat} {A : Option Addr} {c : Nat} {xs : List Value} (h : Ow w B e n A c xs) (hb : B' ≤ B) : Ow w B' e n A c xs := ⟨own_mono h.own hb⟩
theorem Ow.sl {w : World} {B e n : Nat} {A : Option Addr} {c : Nat} {xs : List Value} (h : Ow w B e n A c xs) : Sl w A c xs := by
  obtain ⟨A', c', he, -, hs⟩ := Sl.of_own h.own
  injection he with h1 h2 h3
  subst h1; subst h3
  exact hs
theorem Ow.nil_ (w : World) (B e : Nat) : Ow w B e 0 none 0 [] := ⟨World.ownsRow_nil _ _ _ _⟩
theorem dec_p {k : Nat} {v : Int} {bs : List UInt8} {n : Nat} {A : Option Addr} {c : Nat} {w : World} (hk : k ≤ 255) (hv1 : -9223372036854775808 ≤ v) (hv2 : v ≤ 9223372036854775807) (hn : bs.length = n) (hs : Sl w A c (bs.map bv)) {R : MV} {O : List (RF × Nat)} {E : Int} {P : Nat} (hR : readR k v bs = (R, O, E, P)) :
    Calls Try.prog 17 #[.int .u8 (k : Int), .int .i64 v, .slice A n c] w fun e w' => ∃ A' c', e = .returned (.tuple #[.agg #[.int .u8 (R.k : Int), .int .u64 (R.n0 : Int), .int .u64 (R.n1 : Int), .int .u64 (R.n2 : Int), .int .u64 (R.n3 : Int), .int .u64 (R.n4 : Int), .int .u64 (R.n5 : Int), .string R.s0, .string R.s1, .slice A' R.l.length c'], .agg #[.int .i64 E, .int .i64 (P : Int)]]) ∧ Ow w' w.heap.size 9 R.l.length A' c' (R.l.map sv) ∧ Below w.heap.size w w' := by
  refine (ldec_any k v bs n A c w hk hv1 hv2 hn hs).mono ?_
  rw [hR]
  rintro e w' ⟨A', c', rfl, ho, hb⟩
  exact ⟨_, _, rfl, ⟨ho⟩, hb⟩
theorem enc_good {k : Nat} {v : Int} {M : MV} (hk : k ≤ 255) (hv1 : -9223372036854775808 ≤ v) (hv2 : v ≤ 9223372036854775807) (hg : Good k v M) (hc : chkV M (ofL (k : Int) v) = (0, 0)) (W : World) (A : Option Addr) (c : Nat) (hs : Sl W A c (M.l.map sv)) :
    Calls Try.prog 16 #[.agg #[.int .u8 (M.k : Int), .int .u64 (M.n0 : Int), .int .u64 (M.n1 : Int), .int .u64 (M.n2 : Int), .int .u64 (M.n3 : Int), .int .u64 (M.n4 : Int), .int .u64 (M.n5 : Int), .string M.s0, .string M.s1, .slice A M.l.length c], .int .i64 v] W fun e w' => ∃ Ao co, e = .returned (.tuple #[.slice Ao (encB M (ofL (k : Int) v)).length co, .agg #[.int .i64 0, .int .i64 0]]) ∧ Ow w' W.heap.size 5 (encB M (ofL (k : Int) v)).length Ao co ((encB M (ofL (k : Int) v)).map bv) ∧ Below W.heap.size W w' := by
  have hsm := good_sm hg
  have h := (ebytes_any { M with A := A, c := c } v W (good_mvok hg hk hs) ⟨hsm.l, hsm.s, hsm.e⟩ hv1 hv2).mono (fun e w' h => bytesR_sl h)
  have e1 : encB { M with A := A, c := c } (ofL (M.k : Int) v) = encB M (ofL (k : Int) v) := (enc_alike (a := { M with A := A, c := c }) (b := M) ((sameB_iff _ _).2 ⟨rfl, ⟨rfl, rfl, rfl, rfl, rfl, rfl⟩, ⟨rfl, rfl⟩, rfl⟩)).trans (by rw [hg.hk])
  have e2 : chkV { M with A := A, c := c } (ofL (M.k : Int) v) = (0, 0) := by rw [chkV_ac, hg.hk]; exact hc
  rw [e1, e2] at h
  refine h.mono ?_
  rintro e w' ⟨Ao, co, he, -, ho, hb⟩
  exact ⟨Ao, co, he, ⟨ho⟩, hb⟩
/-- The results' boxes, stored. -/
def rW2 (w : World) (s f : Nat) (x0 x1 x2 x3 x4 x5 x6 x7 x8 x9 z0 z1 : Value) : World := (((((((((((w.setCell ⟨s, 0, none⟩ x0).setCell ⟨s, 1, none⟩ x1).setCell ⟨s, 2, none⟩ x2).setCell ⟨s, 3, none⟩ x3).setCell ⟨s, 4, none⟩ x4).setCell ⟨s, 5, none⟩ x5).setCell ⟨s, 6, none⟩ x6).setCell ⟨s, 7, none⟩ x7).setCell ⟨s, 8, none⟩ x8).setCell ⟨s, 9, none⟩ x9).setCell ⟨f, 0, none⟩ z0).setCell ⟨f, 1, none⟩ z1
theorem rst2 {w : World} {s f : Nat} {o0 o1 o2 o3 o4 o5 o6 o7 o8 o9 q0 q1 : Value} (hne : s ≠ f) (h6 : Blk w s 27 #[o0, o1, o2, o3, o4, o5, o6, o7, o8, o9]) (h8 : Blk w f 33 #[q0, q1]) (x0 x1 x2 x3 x4 x5 x6 x7 x8 x9 z0 z1 : Value) :
    Blk (rW2 w s f x0 x1 x2 x3 x4 x5 x6 x7 x8 x9 z0 z1) s 27 #[x0, x1, x2, x3, x4, x5, x6, x7, x8, x9] ∧ Blk (rW2 w s f x0 x1 x2 x3 x4 x5 x6 x7 x8 x9 z0 z1) f 33 #[z0, z1] ∧ Chg (fun q => q = s ∨ q = f) w (rW2 w s f x0 x1 x2 x3 x4 x5 x6 x7 x8 x9 z0 z1) := by
  obtain ⟨h1, h2⟩ := mstore h6 x0 x1 x2 x3 x4 x5 x6 x7 x8 x9
  have k8 := h2.blk h8 (by omega)
  have hc := h2.mono (T := fun q => q = s ∨ q = f) (fun q _ h => .inl h)
  unfold rW2
  generalize ((((((((((w.setCell ⟨s, 0, none⟩ x0).setCell ⟨s, 1, none⟩ x1).setCell ⟨s, 2, none⟩ x2).setCell ⟨s, 3, none⟩ x3).setCell ⟨s, 4, none⟩ x4).setCell ⟨s, 5, none⟩ x5).setCell ⟨s, 6, none⟩ x6).setCell ⟨s, 7, none⟩ x7).setCell ⟨s, 8, none⟩ x8).setCell ⟨s, 9, none⟩ x9) = W at *
  refine ⟨(h1.far (p := ⟨f, 0, none⟩) (by show ¬ s = f; omega) z0).far (p := ⟨f, 1, none⟩) (by show ¬ s = f; omega) z1, ?_, ?_⟩
  · have := (k8.set_ 0 z0).set_ 1 z1
    simpa using this
  · exact (hc.set_ (.inl (.inr rfl)) 0 z0).set_ (.inl (.inr rfl)) 1 z1
/-- What read answers. -/
def TrdR (w : World) (R : MV × List UInt8 × Int × Nat) (e : Ending) (w' : World) : Prop :=
  ∃ (A' : Option Addr) (c' : Nat) (Ao : Option Addr) (co : Nat), e = .returned (.tuple #[.agg #[.int .u8 (R.1.k : Int), .int .u64 (R.1.n0 : Int), .int .u64 (R.1.n1 : Int), .int .u64 (R.1.n2 : Int), .int .u64 (R.1.n3 : Int), .int .u64 (R.1.n4 : Int), .int .u64 (R.1.n5 : Int), .string R.1.s0, .string R.1.s1, .slice A' R.1.l.length c'], .slice Ao R.2.1.length co, .agg #[.int .i64 R.2.2.1, .int .i64 (R.2.2.2 : Int)]]) ∧ Ow w' w.heap.size 9 R.1.l.length A' c' (R.1.l.map sv) ∧ Ow w' w.heap.size 5 R.2.1.length Ao co (R.2.1.map bv) ∧ Below w.heap.size w w'
/-- What Decode answers. -/
def TdcR (w : World) (R : MV × Int × Nat) (e : Ending) (w' : World) : Prop :=
  ∃ (A' : Option Addr) (c' : Nat), e = .returned (.tuple #[.agg #[.int .u8 (R.1.k : Int), .int .u64 (R.1.n0 : Int), .int .u64 (R.1.n1 : Int), .int .u64 (R.1.n2 : Int), .int .u64 (R.1.n3 : Int), .int .u64 (R.1.n4 : Int), .int .u64 (R.1.n5 : Int), .string R.1.s0, .string R.1.s1, .slice A' R.1.l.length c'], .agg #[.int .i64 R.2.1, .int .i64 (R.2.2 : Int)]]) ∧ Ow w' w.heap.size 9 R.1.l.length A' c' (R.1.l.map sv) ∧ Below w.heap.size w w'
def TrB2 (s p2 : Nat) (E P : Int) (a0 : Act) (w0 : World) (f : Nat → Bool) (a : Act) (w : World) : Prop := ∃ x0 x1 x3 : Value, a = (((a0.put (some 23) x0).put (some 24) x1).put (some 7) x3) ∧ (f 0 = true → x0 = .agg #[.int .u8 0, .int .u64 0, .int .u64 0, .int .u64 0, .int .u64 0, .int .u64 0, .int .u64 0, .string ⟨#[]⟩, .string ⟨#[]⟩, .slice none 0 0]) ∧ (f 1 = true → x1 = .agg #[.int .i64 E, .int .i64 P]) ∧ (f 3 = true → x3 = .slice none 0 0) ∧ Blk w (s) 27 (if f 2 = true then #[.int .u8 0, .int .u64 0, .int .u64 0, .int .u64 0, .int .u64 0, .int .u64 0, .int .u64 0, .string ⟨#[]⟩, .string ⟨#[]⟩, .slice none 0 0] else #[.int .u8 0, .int .u64 0, .int .u64 0, .int .u64 0, .int .u64 0, .int .u64 0, .int .u64 0, .string ⟨#[]⟩, .string ⟨#[]⟩, .slice none 0 0]) ∧ Blk w (s + 1) 33 (if f 4 = true then #[.int .i64 E, .int .i64 P] else #[.int .i64 0, .int .i64 0]) ∧ Chg (fun q => q = s ∨ q = s + 1) w0 w
def TdB2 (s p2 : Nat) (E P : Int) (a0 : Act) (w0 : World) (f : Nat → Bool) (a : Act) (w : World) : Prop := ∃ x0 x1 : Value, a = ((a0.put (some 23) x0).put (some 24) x1) ∧ (f 0 = true → x0 = .agg #[.int .u8 0, .int .u64 0, .int .u64 0, .int .u64 0, .int .u64 0, .int .u64 0, .int .u64 0, .string ⟨#[]⟩, .string ⟨#[]⟩, .slice none 0 0]) ∧ (f 1 = true → x1 = .agg #[.int .i64 E, .int .i64 P]) ∧ Blk w (s) 27 (if f 2 = true then #[.int .u8 0, .int .u64 0, .int .u64 0, .int .u64 0, .int .u64 0, .int .u64 0, .int .u64 0, .string ⟨#[]⟩, .string ⟨#[]⟩, .slice none 0 0] else #[.int .u8 0, .int .u64 0, .int .u64 0, .int .u64 0, .int .u64 0, .int .u64 0, .int .u64 0, .string ⟨#[]⟩, .string ⟨#[]⟩, .slice none 0 0]) ∧ Blk w (s + 1) 33 (if f 3 = true then #[.int .i64 E, .int .i64 P] else #[.int .i64 0, .int .i64 0]) ∧ Chg (fun q => q = s ∨ q = s + 1) w0 w
def TxB2 (s p2 el co : Nat) (Ao : Option Addr) (E P : Int) (a0 : Act) (w0 : World) (f : Nat → Bool) (a : Act) (w : World) : Prop := ∃ x0 x1 x2 : Value, a = (((a0.put (some 19) x0).put (some 20) x1).put (some 6) x2) ∧ (f 0 = true → x0 = .slice Ao el co) ∧ (f 1 = true → x1 = .agg #[.int .i64 E, .int .i64 P]) ∧ (f 2 = true → x2 = .slice Ao el co) ∧ Blk w (s) 33 (if f 3 = true then #[.int .i64 E, .int .i64 P] else #[.int .i64 0, .int .i64 0]) ∧ Chg (fun q => q = s) w0 w
end Go.Proofs.Ytnfodgjihdoncaa
