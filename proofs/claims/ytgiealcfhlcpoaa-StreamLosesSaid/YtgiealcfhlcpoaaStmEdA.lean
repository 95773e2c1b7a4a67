/- What happens to a stream: all kinds in one. -/
import Derived.Test.YtgiealcfhlcpoaaStmEd3
import Derived.Test.YtgiealcfhlcpoaaStmEd4
import Derived.Test.YtgiealcfhlcpoaaStmDo
set_option linter.unusedVariables false
namespace Go.Proofs.Ytgiealcfhlcpoaa
open Go.RowKit
/-- The bytes behind an edit. -/
def edF (kd at_ nn to_ : Int) (ys bs : List UInt8) : List UInt8 :=
  let p := (at_ % ((bs.length : Int) + 1)).toNat
  let k := (nn % (((bs.length - p : Nat) : Int) + 1)).toNat
  if kd = 1 then flipL bs p (to_ % 8).toNat
  else if kd = 2 then bs.take p ++ bs.drop (p + k)
  else if kd = 3 then bs.take (p + k) ++ bs.drop p
  else if kd = 4 then bs.take p ++ (ys.take (min ys.length 10000) ++ bs.drop p)
  else if kd = 5 then
    let lf := bs.take p ++ bs.drop (p + k)
    let t := (to_ % ((lf.length : Int) + 1)).toNat
    lf.take t ++ ((bs.drop p).take k ++ lf.drop t)
  else bs
theorem flipL_len' (bs : List UInt8) (p t : Nat) : (flipL bs p t).length = bs.length := by
  unfold flipL
  split <;> simp
theorem edF_len (kd at_ nn to_ : Int) (ys bs : List UInt8) : (edF kd at_ nn to_ ys bs).length ≤ 2 * bs.length + ys.length := by
  have hp : at_ % ((bs.length : Int) + 1) < (bs.length : Int) + 1 := Int.emod_lt_of_pos _ (by omega)
  unfold edF
  simp only
  generalize (at_ % ((bs.length : Int) + 1)).toNat = p
  have hk : nn % (((bs.length - p : Nat) : Int) + 1) < ((bs.length - p : Nat) : Int) + 1 := Int.emod_lt_of_pos _ (by omega)
  generalize (nn % (((bs.length - p : Nat) : Int) + 1)).toNat = k
  split
  · rw [flipL_len']; omega
  split
  · simp only [List.length_append, List.length_take, List.length_drop]; omega
  split
  · simp only [List.length_append, List.length_take, List.length_drop]; omega
  split
  · simp only [List.length_append, List.length_take, List.length_drop]; omega
  split
  · simp only [List.length_append, List.length_take, List.length_drop]; omega
  · omega
theorem ed_pk (at_ nn : Int) (n : Nat) : ∃ p k : Nat, at_ % ((n : Int) + 1) = (p : Int) ∧ nn % (((n - p : Nat) : Int) + 1) = (k : Int) ∧ p + k ≤ n := by
  have h1 := rest_in at_ ((n : Int) + 1) (by omega)
  obtain ⟨p, hp⟩ : ∃ p : Nat, at_ % ((n : Int) + 1) = (p : Int) := ⟨_, (Int.toNat_of_nonneg h1.1).symm⟩
  have h2 := rest_in nn (((n - p : Nat) : Int) + 1) (by omega)
  obtain ⟨k, hk⟩ : ∃ k : Nat, nn % (((n - p : Nat) : Int) + 1) = (k : Int) := ⟨_, (Int.toNat_of_nonneg h2.1).symm⟩
  exact ⟨p, k, hp, hk, by omega⟩
theorem sedit_any (x : EdV) (bs : List UInt8) (B : Nat) (A : Option Addr) (n c : Nat) (w : World) (h : EdS B w A n c bs) (hB : B ≤ w.heap.size) (hl : 2 * n + x.s.xs.length ≤ 1048576) (hk0 : -9223372036854775808 ≤ x.p ∧ x.p ≤ 9223372036854775807) (hk1 : -9223372036854775808 ≤ x.n ∧ x.n ≤ 9223372036854775807) (hk2 : -9223372036854775808 ≤ x.t ∧ x.t ≤ 9223372036854775807) (hs2 : Sl w x.s.A x.s.c (x.s.xs.map bv)) :
    Calls Try.prog 18 #[.slice A n c, edA x] w fun e w' => ∃ A2 n2 c2, e = .returned (.slice A2 n2 c2) ∧ EdS B w' A2 n2 c2 (edF x.k x.p x.n x.t x.s.xs bs) ∧ Chg (fun q => ∃ o, A = some ⟨q, o, none⟩) w w' := by
  obtain ⟨kd, at_, nn, to_, yA, yc, ys⟩ := x
  simp only [edA] at *
  have hn := h.len
  obtain ⟨p, k, hp, hk, hpk⟩ := ed_pk at_ nn n
  have hA : A = none ∨ ∃ ga oa, A = some (⟨ga, oa, none⟩ : Addr) := h.own.imp id fun ⟨g, cs, e, _⟩ => ⟨g, 0, e⟩
  have hF : edF kd at_ nn to_ ys bs = if kd = 1 then flipL bs p (to_ % 8).toNat
      else if kd = 2 then bs.take p ++ bs.drop (p + k)
      else if kd = 3 then bs.take (p + k) ++ bs.drop p
      else if kd = 4 then bs.take p ++ (ys.take (min ys.length 10000) ++ bs.drop p)
      else if kd = 5 then (bs.take p ++ bs.drop (p + k)).take (to_ % (((bs.take p ++ bs.drop (p + k)).length : Int) + 1)).toNat ++ ((bs.drop p).take k ++ (bs.take p ++ bs.drop (p + k)).drop (to_ % (((bs.take p ++ bs.drop (p + k)).length : Int) + 1)).toNat)
      else bs := by
    unfold edF
    simp only [hn, hp, Int.toNat_natCast, hk]
  rw [hF]
  by_cases k1 : kd = 1
  · subst k1
    have ht := rest_in to_ 8 (by omega)
    refine (sedit_flip bs at_ nn to_ yA ys.length yc B A n c p k (to_ % 8).toNat w h (by omega) hk0.1 hk0.2 hk1.1 hk1.2 hk2.1 hk2.2 hp hk (Int.toNat_of_nonneg ht.1).symm).mono ?_
    rintro e w' ⟨rfl, e1, e2⟩
    exact ⟨_, _, _, rfl, by simpa using e1, e2⟩
  by_cases k2 : kd = 2
  · subst k2
    refine (sedit_lose bs at_ nn to_ yA ys.length yc A n c p k (p + k) (p + (n - (p + k))) w hn (by omega) h.sl hA hk0.1 hk0.2 hk1.1 hk1.2 hp hk rfl hpk rfl).mono ?_
    rintro e w' ⟨A2, c2, rfl, e1, e2⟩
    exact ⟨_, _, _, rfl, by simpa using e1.mono hB, Chg.of_new e2⟩
  by_cases k3 : kd = 3
  · subst k3
    refine (sedit_copy bs at_ nn to_ yA ys.length yc A n c p k (p + k) (p + k + (n - p)) w hn (by omega) h.sl hA hk0.1 hk0.2 hk1.1 hk1.2 hp hk rfl hpk rfl (by omega)).mono ?_
    rintro e w' ⟨A2, c2, rfl, e1, e2⟩
    exact ⟨_, _, _, rfl, by simpa using e1.mono hB, Chg.of_new e2⟩
  by_cases k4 : kd = 4
  · subst k4
    refine (sedit_put bs ys at_ nn to_ yA ys.length yc A n c p k (p + k) (p + min ys.length 10000 + (n - p)) w hn (by omega) h.sl hk0.1 hk0.2 hk1.1 hk1.2 hp hk rfl hpk hs2 rfl _ rfl rfl (by omega)).mono ?_
    rintro e w' ⟨A2, c2, rfl, e1, e2⟩
    exact ⟨_, _, _, rfl, by simpa using e1.mono hB, Chg.of_new e2⟩
  by_cases k5 : kd = 5
  · subst k5
    have hL : (bs.take p ++ bs.drop (p + k)).length = p + (n - (p + k)) := by rw [List.length_append, List.length_take, List.length_drop]; omega
    have ht := rest_in to_ (((p + (n - (p + k)) : Nat) : Int) + 1) (by omega)
    rw [hL]
    refine (sedit_move bs at_ nn to_ yA ys.length yc A n c p k (p + k) w hn (by omega) h.sl hk0.1 hk0.2 hk1.1 hk1.2 hp hk rfl hpk hk2.1 hk2.2 (p + (n - (p + k))) _ rfl (Int.toNat_of_nonneg ht.1).symm).mono ?_
    rintro e w' ⟨A2, c2, rfl, e1, e2⟩
    exact ⟨_, _, _, rfl, by simpa using e1.mono hB, Chg.of_new e2⟩
  · refine (sedit_none bs kd at_ nn to_ yA ys.length yc B A n c p k w h (by omega) hk0.1 hk0.2 hk1.1 hk1.2 hp hk (by omega)).mono ?_
    rintro e w' ⟨rfl, e1, e2⟩
    exact ⟨_, _, _, rfl, by simpa [k1, k2, k3, k4, k5] using e1, e2⟩
end Go.Proofs.Ytgiealcfhlcpoaa
