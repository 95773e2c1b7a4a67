/- What the readers of frames and streams share. -/
import Derived.Test.YtgiealcfhlcpoaaFrRefR
import Derived.Test.YtgiealcfhlcpoaaM6
import Derived.Test.YtgiealcfhlcpoaaM3
import Derived.Shelf.RegionOpen
set_option linter.unusedVariables false
namespace Go.Proofs.Ytgiealcfhlcpoaa
open Go.RowKit
theorem Sl.of_own'' {w : World} {B n c : Nat} {A : Option Addr} {xs : List Value} (h : w.ownsRow B 5 1 (.slice A n c) n xs) : Sl w A c xs := by
  obtain ⟨A', c', he, -, hs⟩ := Sl.of_own h
  injection he with h1 h2 h3
  subst h1; subst h3
  exact hs
/-- Reading what was put. -/
theorem fread_ok (t : UInt8) (p m : List UInt8) (n k : Nat) (A : Option Addr) (c : Nat) (w : World) (hp : p.length = n) (hl : n ≤ 8192) (hk : n + 9 + m.length = k) (hS : Sl w A c ((Fr.put t p ++ m).map bv)) :
    Calls Try.prog 28 #[.slice A k c] w fun e w' => ∃ A' c', e = .returned (.tuple #[.agg #[.int .u8 (t.toNat : Int), .slice A' n c'], .int .i64 ((n + 9 : Nat) : Int), .int .i64 0]) ∧ Pay w.heap.size w' A' c' p ∧ Below w.heap.size w w' := by
  obtain ⟨h0, ht, hpl, hln⟩ := Fr.rE_put t p m (by omega)
  refine (fread_any (Fr.put t p ++ m) k A c w (by rw [List.length_append, Fr.put_len]; omega) hS).mono ?_
  rintro e w' ⟨(⟨-, A', c', rfl, hpay⟩ | ⟨hne, -⟩), hb⟩
  · rw [ht, hpl, hln, hp] at *
    exact ⟨A', c', rfl, hpay, hb⟩
  · exact absurd h0 hne
theorem fread_no (bs : List UInt8) (n k : Nat) (A : Option Addr) (c : Nat) (w : World) (hk : Fr.rE bs = k) (h0 : k ≠ 0) (hn : bs.length = n) (hS : Sl w A c (bs.map bv)) :
    Calls Try.prog 28 #[.slice A n c] w fun e w' => e = .returned (.tuple #[.agg #[.int .u8 0, .slice none 0 0], .int .i64 0, .int .i64 (k : Int)]) ∧ Below w.heap.size w w' := by
  refine (fread_any bs n A c w hn hS).mono ?_
  rintro e w' ⟨(⟨h, -⟩ | ⟨-, rfl⟩), hb⟩
  · exact absurd (hk.symm.trans h) h0
  · exact ⟨by rw [hk], hb⟩
theorem l13_e1 : Fr.rE [197, 155] = 3 := by decide +kernel
theorem l13_e2 : Fr.rE [197] = 4 := by decide +kernel
theorem l13_e3 : Fr.rE [197, 154, 0, 0, 255] = 2 := by decide +kernel
theorem RdR.ok {w w' : World} {bs : List UInt8} {e : Ending} (h : RdR w bs e w') (h0 : Fr.rE bs = 0) : ∃ A c, e = .returned (.tuple #[.agg #[.int .u8 ((Fr.ty bs).toNat : Int), .slice A (Fr.ln bs) c], .int .i64 ((Fr.ln bs + 9 : Nat) : Int), .int .i64 0]) ∧ Pay w.heap.size w' A c (Fr.pl bs) ∧ Below w.heap.size w w' := by
  rcases h with ⟨⟨-, A, c, h1, h2⟩ | ⟨h1, -⟩, h3⟩
  · exact ⟨A, c, h1, h2, h3⟩
  · exact absurd h0 h1
theorem RdR.no {w w' : World} {bs : List UInt8} {e : Ending} (h : RdR w bs e w') (h0 : Fr.rE bs ≠ 0) : e = .returned (.tuple #[.agg #[.int .u8 0, .slice none 0 0], .int .i64 0, .int .i64 (Fr.rE bs : Nat)]) ∧ Below w.heap.size w w' := by
  rcases h with ⟨⟨h1, -⟩ | ⟨-, h1⟩, h3⟩
  · exact absurd h1 h0
  · exact ⟨h1, h3⟩
theorem rfsame_zero (w : World) : Calls Try.prog 10 #[.agg #[.int .u8 0, .slice none 0 0], .agg #[.int .u8 0, .slice none 0 0]] w fun e w' => e = .returned (.bool true) ∧ Below w.heap.size w w' := by
  have h := rfsame_any 0 0 [] [] 0 0 none none 0 0 w rfl rfl (by omega) (Sl.nil_ w) (Sl.nil_ w)
  exact h
theorem Fr.pl_len {bs : List UInt8} (h : Fr.rE bs = 0) : (Fr.pl bs).length = Fr.ln bs := (Fr.rE_ok h).2.1
theorem row_slice_g {w : World} {B e sz n : Nat} {v : Value} {xs : List Value} (h : w.ownsRow B e sz v n xs) : ∃ A c, v = .slice A n c := by
  rcases h.2 with ⟨rfl, rfl⟩ | ⟨g, cap, cur, rfl, -⟩
  · exact ⟨_, _, rfl⟩
  · exact ⟨_, _, rfl⟩
section
open Go.Shelf
attribute [local go_sem] Oper.semAt_some
theorem wpListIn_append_noneg {F : Fence} {n : Nat} {P : Program} (w : World) {ops : Array Oper} {rest : List Oper} {o : Oper} {a : Act} {Q : Exit → Act → World → Prop} (hgd : o.guard = none) (s x : Operand) (t : TypeId)
    (ho : o.op = .call { callee := .builtin .append, args := #[s, x], argTypes := #[t, t] })
    (base : Nat) (e : TypeId) (i : TypeInfo) (size : Nat) (ht : P.underlying t = some (.slice e)) (hi : P.info? e = some i)
    (v : Value) (k : Nat) (xs : List Value) (hs : a.eval s = v) (hown : w.ownsRow base e size v k xs) (hx : a.eval x = .slice none 0 0)
    (h : wpListIn F n P ops Q rest (a.put o.dst v) w) : wpListIn F n P ops Q (o :: rest) a w := by
  refine wpListIn_plain hgd fun K hK' => ?_
  have hrun := run_append_owned_none (P := P) (w := w) base t o.type e i size ht hi v k xs hown
  unfold Oper.wpIn
  refine ⟨?_, ?_⟩
  · simp [Oper.about, ho, resolve, Target.leads, Sem.run_pure]
  · rw [Oper.semAt_plain F _ _ (by rw [ho]; intro c hc'; cases hc')]
    simp [execOp, ho, resolve, invoke, builtin, hs, hx, hrun, Result.andThen]
    exact hK' _ _ h
/-- append onto a row of the call's own, whatever slice the source is, within a fence -/
theorem wpListIn_append_slg {F : Fence} {n : Nat} {P : Program} (w : World) {ops : Array Oper} {rest : List Oper} {o : Oper} {a : Act} {Q : Exit → Act → World → Prop} (hgd : o.guard = none) (s x : Operand) (t : TypeId)
    (ho : o.op = .call { callee := .builtin .append, args := #[s, x], argTypes := #[t, t] })
    (base : Nat) (e : TypeId) (i : TypeInfo) (z : Value) (size bytes : Nat) (ht : P.underlying t = some (.slice e)) (hi : P.info? e = some i) (hz : i.zero = some z)
    (hsize : i.size = size) (hby : i.bytes = bytes) (hzs : z.cells.size = size) (hsz : 0 < size)
    (v : Value) (k : Nat) (xs : List Value) (hs : a.eval s = v) (hown : w.ownsRow base e size v k xs)
    (A : Option Addr) (m c : Nat) (news : List Value) (hx : a.eval x = .slice A m c) (hl : news.length = m * size) (hr : Rd w A news) (hn : A = none → c = 0) (h1 : ∀ u ∈ news, u.oneCell' = true)
    (h63 : k + m ≤ maxLen) (hbytes : (k + m) * bytes ≤ 140737488355328) (hbase : base ≤ w.heap.size)
    (h : ∀ v' w', w'.ownsRow base e size v' (k + m) (xs ++ news) → w.grownBy w' v.ownBlock → wpListIn F n P ops Q rest (a.put o.dst v') w') : wpListIn F n P ops Q (o :: rest) a w := by
  cases A with
  | none =>
    obtain rfl := hr.none_nil
    obtain rfl := hn rfl
    have hm : m = 0 := by
      have h0 : m * size = 0 := by simpa using hl.symm
      rcases Nat.mul_eq_zero.1 h0 with q | q <;> omega
    subst hm
    exact wpListIn_append_noneg w hgd s x t ho base e i size ht hi v k xs hs hown hx (h v w (by simpa using hown) ⟨rfl, rfl, rfl, Nat.le_refl _, fun _ _ _ => rfl⟩)
  | some ad => exact wpListIn_append_own w hgd s x t ho base e i z size bytes ht hi hz hsize hby hzs hsz v k xs hs hown ad m c news hx hl hr.addr h1 h63 hbytes hbase fun v' w' h2 h3 _ => h v' w' h2 h3
end
theorem own_slg {w : World} {B e sz n c : Nat} {A : Option Addr} {xs : List Value} (hsz : 0 < sz) (h : w.ownsRow B e sz (.slice A n c) n xs) : SlN w A n c sz xs := by
  obtain ⟨A', c', he, hs⟩ := SlN.of_own hsz h
  injection he with h1 h2 h3
  subst h1; subst h3
  exact hs
/-- Some blocks lie as they lay. -/
def KBg (z b : Nat) (W W' : World) : Prop := ∀ q, z ≤ q → q < b → W'.heap[q]? = W.heap[q]?
theorem KBg.of_chg {z b : Nat} {W W' : World} {S : Nat → Prop} (h : Chg S W W') (hz : b ≤ W.heap.size) (h0 : ∀ q, z ≤ q → q < b → ¬ S q) : KBg z b W W' := fun q h1 h2 => h.block q (by omega) (h0 q h1 h2)
theorem KBg.trans {z b : Nat} {W W' W'' : World} (h : KBg z b W W') (k : KBg z b W' W'') : KBg z b W W'' := fun q h1 h2 => (k q h1 h2).trans (h q h1 h2)
theorem KBg.refl (z b : Nat) (W : World) : KBg z b W W := fun _ _ _ => rfl
theorem KBg.size {z b : Nat} {W W' : World} (h : KBg z b W W') (hz : z < b) (hb : b ≤ W.heap.size) : b ≤ W'.heap.size := by
  have h1 := h (b - 1) (by omega) (by omega)
  have h2 : W'.heap[b - 1]? = some W.heap[b - 1] := by rw [h1]; exact Array.getElem?_eq_getElem (by omega)
  have := (Array.getElem?_eq_some_iff.1 h2).1
  omega
end Go.Proofs.Ytgiealcfhlcpoaa
