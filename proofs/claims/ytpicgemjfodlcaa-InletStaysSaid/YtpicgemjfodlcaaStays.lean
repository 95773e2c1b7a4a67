/- What each method of the inlet leaves: an error leaves the place, and tells it. -/
import Derived.Test.YtpicgemjfodlcaaProg
import Derived.Test.YtpicgemjfodlcaaBase
import Derived.Test.YtpicgemjfodlcaaInTag
import Derived.Test.YtpicgemjfodlcaaInBytes
set_option linter.unusedVariables false
namespace Go.Proofs.Ytpicgemjfodlcaa
open Go.RowKit
/-- What is left behind a method: what is wrong, the place it tells, the place. -/
def StayR (w w' : World) (q : Nat) (A : Option Addr) (c : Nat) (bs : List UInt8) (p er a p' : Nat) : Prop :=
  ((er = 0 ∧ p ≤ p') ∨ ((er : Int) ≠ 0 ∧ p' = p ∧ a = p)) ∧ p' ≤ bs.length ∧ Hid (Rin 51 w' q A c bs p') ∧ Hid (Only q w w')
theorem stay_of {w w' : World} {q : Nat} {A : Option Addr} {c : Nat} {bs : List UInt8} {p er p1 : Nat} (hr : Rin 51 w' q A c bs (plc er p p1)) (ho : Only q w w') (hp : er = 0 → p ≤ p1) :
    StayR w w' q A c bs p er (flt er p) (plc er p p1) := by
  refine ⟨?_, hr.le, hid hr, hid ho⟩
  by_cases h : er = 0
  · subst h; exact .inl ⟨rfl, by simpa [plc] using hp rfl⟩
  · exact .inr ⟨by omega, by simp [plc, h], by simp [flt, h]⟩
theorem rFix_ok (k : Nat) (bs : List UInt8) (p : Nat) : (rFix k bs p).2.1 = 0 → (rFix k bs p).2.2 = p + k := by
  unfold rFix
  split <;> simp
theorem rTake_ok_facts (n : Int) (bs : List UInt8) (p : Nat) : (rTake n bs p).2.1 = 0 → (rTake n bs p).2.2 = p + (rTake n bs p).1.length ∧ (rTake n bs p).1 = (bs.drop p).take (rTake n bs p).1.length := by
  unfold rTake
  split
  · intro h; cases h
  · split
    · intro h; cases h
    · intro _
      have hl : ((bs.drop p).take n.toNat).length = n.toNat := by simp; omega
      simp only [hl]
      exact ⟨trivial, trivial⟩
theorem rCount_ok_facts (n : Int) (bs : List UInt8) (p : Nat) : (rCount n bs p).2.1 = 0 → p + (rCount n bs p).1.length ≤ (rCount n bs p).2.2 ∧ (rCount n bs p).1 = (bs.drop ((rCount n bs p).2.2 - (rCount n bs p).1.length)).take (rCount n bs p).1.length := by
  unfold rCount
  split
  · rename_i h; intro h2; exact absurd h2 h
  · split
    · intro h; cases h
    · intro h
      have hf := rTake_ok_facts _ bs _ h
      rw [hf.1, Nat.add_sub_cancel]
      exact ⟨by omega, hf.2⟩
section
variable (w : World) (q : Nat) (A : Option Addr) (c : Nat) (bs : List UInt8) (p : Nat) (h : Rin 51 w q A c bs p)
include h
theorem sv_any : Calls Try.prog 10 #[.pointer (some ⟨q, 0, none⟩)] w fun e w' => ∃ v er a p' : Nat, e = .returned (.tuple #[.int .u64 (v : Int), .agg #[.int .i64 (er : Int), .int .i64 (a : Int)]]) ∧ StayR w w' q A c bs p er a p' := by
  refine (inumm_any w q A c bs p h).mono ?_
  rintro e w' ⟨rfl, hr, ho⟩
  exact ⟨_, _, _, _, rfl, stay_of hr ho fun _ => by omega⟩
theorem st_any : Calls Try.prog 11 #[.pointer (some ⟨q, 0, none⟩)] w fun e w' => ∃ (v x : Int) (er a p' : Nat), e = .returned (.tuple #[.int .i64 v, .int .u8 x, .agg #[.int .i64 (er : Int), .int .i64 (a : Int)]]) ∧ StayR w w' q A c bs p er a p' := by
  refine (itagm_any w q A c bs p h).mono ?_
  rintro e w' ⟨rfl, hr, ho⟩
  refine ⟨_, _, _, _, _, rfl, stay_of hr ho fun _ => ?_⟩
  unfold rHead
  split <;> simp
theorem sf_any : Calls Try.prog 12 #[.pointer (some ⟨q, 0, none⟩)] w fun e w' => ∃ v er a p' : Nat, e = .returned (.tuple #[.int .u32 (v : Int), .agg #[.int .i64 (er : Int), .int .i64 (a : Int)]]) ∧ (er = 0 → p' = p + 4) ∧ StayR w w' q A c bs p er a p' := by
  refine (ifourm_any w q A c bs p h).mono ?_
  rintro e w' ⟨rfl, hr, ho⟩
  exact ⟨_, _, _, _, rfl, fun h0 => by rw [h0]; exact (rFix_ok 4 bs p h0), stay_of hr ho fun h0 => by rw [rFix_ok 4 bs p h0]; omega⟩
theorem se_any : Calls Try.prog 13 #[.pointer (some ⟨q, 0, none⟩)] w fun e w' => ∃ v er a p' : Nat, e = .returned (.tuple #[.int .u64 (v : Int), .agg #[.int .i64 (er : Int), .int .i64 (a : Int)]]) ∧ (er = 0 → p' = p + 8) ∧ StayR w w' q A c bs p er a p' := by
  refine (ieightm_any w q A c bs p h).mono ?_
  rintro e w' ⟨rfl, hr, ho⟩
  exact ⟨_, _, _, _, rfl, fun h0 => by rw [h0]; exact (rFix_ok 8 bs p h0), stay_of hr ho fun h0 => by rw [rFix_ok 8 bs p h0]; omega⟩
theorem sb_any (n : Int) (hn1 : -9223372036854775808 ≤ n) (hn2 : n ≤ 9223372036854775807) :
    Calls Try.prog 14 #[.pointer (some ⟨q, 0, none⟩), .int .i64 n] w fun e w' => ∃ (A' : Option Addr) (c' : Nat) (L : List UInt8) (er a p' : Nat), e = .returned (.tuple #[.slice A' L.length c', .agg #[.int .i64 (er : Int), .int .i64 (a : Int)]]) ∧ Hid (Sl w' A' c' (L.map bv)) ∧ Hid (∀ q', Far A bs.length q' → Far A' L.length q') ∧ (er = 0 → p + L.length ≤ p' ∧ L = (bs.drop (p' - L.length)).take L.length) ∧ StayR w w' q A c bs p er a p' := by
  refine (ibytesm_any n w q A c bs p hn1 hn2 h).mono ?_
  rintro e w' ⟨A', c', rfl, hs, hfr, hr, ho⟩
  exact ⟨A', c', _, _, _, _, rfl, hid hs, hid hfr, fun h0 => by rw [if_pos h0, h0]; exact rCount_ok_facts n bs p h0, stay_of hr ho fun h0 => by have := rCount_ok_facts n bs p h0; omega⟩
theorem sk_any (n : Int) (hn1 : -9223372036854775808 ≤ n) (hn2 : n ≤ 9223372036854775807) :
    Calls Try.prog 16 #[.pointer (some ⟨q, 0, none⟩), .int .i64 n] w fun e w' => ∃ (A' : Option Addr) (c' : Nat) (L : List UInt8) (er a p' : Nat), e = .returned (.tuple #[.slice A' L.length c', .agg #[.int .i64 (er : Int), .int .i64 (a : Int)]]) ∧ (er = 0 → p' = p + L.length) ∧ StayR w w' q A c bs p er a p' := by
  refine (itakem_any n w q A c bs p hn1 hn2 h).mono ?_
  rintro e w' ⟨A', c', rfl, hs, _, hr, ho⟩
  exact ⟨A', c', _, _, _, _, rfl, fun h0 => by rw [if_pos h0, h0]; exact (rTake_ok_facts n bs p h0).1, stay_of hr ho fun h0 => by have := rTake_ok_facts n bs p h0; omega⟩
end
end Go.Proofs.Ytpicgemjfodlcaa
