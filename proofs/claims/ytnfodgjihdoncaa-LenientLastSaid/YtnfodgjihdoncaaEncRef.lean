/- The document's Field. -/
import Derived.Test.YtnfodgjihdoncaaEn2
import Derived.Test.YtnfodgjihdoncaaV4
import Derived.Test.YtnfodgjihdoncaaSk4
import Derived.Test.YtnfodgjihdoncaaRegInv
set_option linter.unusedVariables false
namespace Go.Proofs.Ytnfodgjihdoncaa
open Go.RowKit
/-- Bytes of a text, in a block of bytes. -/
def ConvS (w : World) (A : Option Addr) (c : Nat) (qs : ByteArray) : Prop := Sl w A c (qs.data.toList.map bv) ∧ U8 w A
theorem ConvS.below {w w' : World} {A : Option Addr} {c : Nat} {qs : ByteArray} (h : ConvS w A c qs) (hb : Below w.heap.size w w') : ConvS w' A c qs := by
  refine ⟨h.1.below hb, ?_⟩
  obtain ⟨g, cs, k, rfl, hg⟩ := h.2
  exact ⟨g, cs, k, rfl, (hb.block g (Array.getElem?_eq_some_iff.1 hg).1).trans hg⟩
theorem ConvS.chg {w w' : World} {A : Option Addr} {c q : Nat} {qs : ByteArray} {t : TypeId} {cs : Array Value} (h : ConvS w A c qs) (hb : Blk w q t cs) (ht : t ≠ 5) (hc : Chg (fun k => k = q) w w') : ConvS w' A c qs := by
  have hu := h.2
  obtain ⟨g, cs1, k, rfl, hg⟩ := h.2
  have hne := U8.ne_blk hu hb ht
  refine ⟨hc.sl h.1 (n := (qs.data.toList.map bv).length) (fun _ b o he hS => ?_) rfl, hu.chg hc (fun g2 he hS => ?_)⟩
  · injection he with he
    injection he with he1
    omega
  · injection he with he
    injection he with he1
    omega
theorem fstep {w : World} {g : Nat} {y0 y1 y2 y3 y4 : Value} (h : Blk w g 95 #[y0, y1, y2, y3, y4]) (x0 x1 x2 x3 x4 : Value) : Blk (((((w.setCell ⟨g, 0, none⟩ x0).setCell ⟨g, 1, none⟩ x1).setCell ⟨g, 2, none⟩ x2).setCell ⟨g, 3, none⟩ x3).setCell ⟨g, 4, none⟩ x4) g 95 #[x0, x1, x2, x3, x4] ∧ Chg (fun k => k = g) w (((((w.setCell ⟨g, 0, none⟩ x0).setCell ⟨g, 1, none⟩ x1).setCell ⟨g, 2, none⟩ x2).setCell ⟨g, 3, none⟩ x3).setCell ⟨g, 4, none⟩ x4) := by
  refine ⟨by simpa using ((((h.set_ 0 x0).set_ 1 x1).set_ 2 x2).set_ 3 x3).set_ 4 x4, ?_⟩
  exact (((((Chg.refl (fun k => k = g) w).set_ (.inl rfl) 0 x0).set_ (.inl rfl) 1 x1).set_ (.inl rfl) 2 x2).set_ (.inl rfl) 3 x3).set_ (.inl rfl) 4 x4
theorem zig_nat (n : Int) (h1 : -9223372036854775808 ≤ n) (h2 : n ≤ 9223372036854775807) : ∃ q : Nat, zig n = (q : Int) ∧ q ≤ 18446744073709551615 := by
  have hz := zig_range n h1 h2
  exact ⟨(zig n).toNat, by omega, by omega⟩
theorem wireD_cases (t : Int) : wireD t = 0 ∨ wireD t = 1 ∨ wireD t = 2 ∨ wireD t = 5 := by
  unfold wireD
  split
  · exact .inl rfl
  split
  · exact .inr (.inr (.inr rfl))
  split
  · exact .inr (.inl rfl)
  · exact .inr (.inr (.inl rfl))
theorem wB_len8 (num : Int) (wd qn : Nat) (xs : List UInt8) (hw : wd = 0 ∨ wd = 1 ∨ wd = 2 ∨ wd = 5) (hq : qn ≤ 18446744073709551615) (hl : xs.length ≤ 8000) : (wB (num, (wd : Int), qn, xs)).length ≤ 8100 :=
  pBF_len8 ⟨num, (wd : Int), qn, ⟨none, 0, xs⟩, 0⟩ hq (by dsimp only; omega) (by dsimp only; omega) hl
/-- What the document's Field takes for a field. -/
structure PlF (m : MV) (num t i : Int) : Prop where
  n : plN m t i ≤ 18446744073709551615
  s : (plS m t i).data.toList.length ≤ 8000
  one : t ≠ 10 → t ≠ 3 → 1 ≤ t → t ≤ 10 → partW m num t i = [(num, ((wireD t : Nat) : Int), plN m t i, (plS m t i).data.toList)]
  zig : t = 3 → partW m num t i = [(num, 0, (zig (wrap64 (plN m t i : Nat))).toNat, (plS m t i).data.toList)]
  lst : t = 10 → partW m num t i = m.l.map (fun s => (num, 2, 0, s.data.toList)) ∧ plN m t i = 0 ∧ plV m t = .slice m.A m.l.length m.c
theorem pl_facts (m : MV) (num t i : Int) {w : World} (hok : MvOk w m) (hsm : MvSm m) : PlF m num t i := by
  have he : ((⟨#[]⟩ : ByteArray).data.toList) = [] := rfl
  refine ⟨?_, ?_, ?_, ?_, ?_⟩
  · unfold plN; split
    · exact hok.n i
    · omega
  · unfold plS; split
    · have := hsm.s i; simpa using this
    · simp
  · intro h1 h2 h3 h4
    unfold partW plN plS
    rw [if_neg h1]
    by_cases hx : 7 ≤ t ∧ t ≤ 9
    · rw [if_pos hx, if_pos hx, if_neg (by omega)]
      have : wireD t = 2 := by unfold wireD; rw [if_neg (by omega), if_neg (by omega), if_neg (by omega)]
      rw [this]; rfl
    · rw [if_neg hx, if_neg hx, if_neg h2, if_pos (by omega), he]
      have : wireN t = wireD t := by
        unfold wireN wireD
        by_cases c5 : t = 5
        · subst c5; rfl
        by_cases c6 : t = 6
        · subst c6; rfl
        rw [if_neg c5, if_neg c6, if_neg (by omega), if_pos (by omega)]
      rw [this]
  · rintro rfl
    rfl
  · rintro rfl
    exact ⟨rfl, rfl, rfl⟩
def R4 (s : Nat) (num t : Int) (wd qn : Nat) (qs : ByteArray) (a0 : Act) (w0 : World) (f : Nat → Bool) (a : Act) (w : World) : Prop := ∃ x0 x1 x2 x3 x4 x5 x6 x7 x8 x9 : Value, a = ((((((((((a0.put (some 31) x0).put (some 32) x1).put (some 33) x2).put (some 34) x3).put (some 35) x4).put (some 36) x5).put (some 37) x6).put (some 38) x7).put (some 39) x8).put (some 8) x9) ∧ (f 0 = true → x0 = .pointer (some ⟨s + 1, 0, none⟩)) ∧ (f 1 = true → x1 = .int .i64 num) ∧ (f 2 = true → x2 = .pointer (some ⟨s + 1, 1, none⟩)) ∧ (f 3 = true → x3 = .int .i64 t) ∧ (f 4 = true → x4 = .int .u8 (wd : Int)) ∧ (f 5 = true → x5 = .int .u64 (qn : Int)) ∧ (f 6 = true → x6 = .string qs) ∧ (f 7 = true → ∃ A c, x7 = .slice A qs.size c ∧ ConvS w A c qs) ∧ (f 8 = true → ∃ A c, x8 = .agg #[.int .i64 num, .int .u8 (wd : Int), .int .u64 (qn : Int), .slice A qs.size c, .int .i64 0] ∧ ConvS w A c qs) ∧ (f 9 = true → ∃ g, x9 = .pointer (some ⟨g, 0, none⟩) ∧ w0.heap.size ≤ g ∧ (f 10 = false → Blk w g 95 #[.int .i64 0, .int .u8 0, .int .u64 0, .slice none 0 0, .int .i64 0]) ∧ (f 10 = true → ∃ A c, Blk w g 95 #[.int .i64 num, .int .u8 (wd : Int), .int .u64 (qn : Int), .slice A qs.size c, .int .i64 0] ∧ ConvS w A c qs)) ∧ (f 10 = true → f 9 = true) ∧ Below w0.heap.size w0 w
end Go.Proofs.Ytnfodgjihdoncaa
