/- The inlet's own parts: next, counted. -/
import Derived.Test.YtfbmdeegcoocnaaProg
import Derived.Test.YtfbmdeegcoocnaaBase
import Derived.Test.YtfbmdeegcoocnaaInParts
set_option linter.unusedVariables false
namespace Go.Proofs.Ytfbmdeegcoocnaa
open Go.RowKit
/-- So many bytes: they, what is wrong, and the place behind. -/
def rTake (n : Int) (bs : List UInt8) (p : Nat) : List UInt8 × Nat × Nat :=
  if n < 0 then ([], 1, p) else if ((bs.length - p : Nat) : Int) < n then ([], 4, p) else ((bs.drop p).take n.toNat, 0, p + n.toNat)
theorem rTake_neg {n : Int} {bs : List UInt8} {p : Nat} (h : n < 0) : rTake n bs p = ([], 1, p) := by rw [rTake, if_pos h]
theorem rTake_short {n : Int} {bs : List UInt8} {p : Nat} (h : ¬ n < 0) (h2 : ((bs.length - p : Nat) : Int) < n) : rTake n bs p = ([], 4, p) := by rw [rTake, if_neg h, if_pos h2]
theorem rTake_ok {n : Int} {bs : List UInt8} {p : Nat} (h : ¬ n < 0) (h2 : ¬ ((bs.length - p : Nat) : Int) < n) : rTake n bs p = ((bs.drop p).take n.toNat, 0, p + n.toNat) := by rw [rTake, if_neg h, if_neg h2]
/-- A piece of a slice. -/
theorem Sl.piece {w : World} {A : Option Addr} {c : Nat} {bs : List UInt8} (h : Sl w A c (bs.map bv)) (p m : Nat) (hp : p + m ≤ bs.length) : Sl w (cutA A (p + m) p) m (((bs.drop p).take m).map bv) := by
  have hc := h.cap
  simp only [List.length_map] at hc
  have hl : ((bs.drop p).take m).length = m := by simp; omega
  refine ⟨by simp; omega, by have := h.small; omega, ?_, ?_⟩
  · intro hn
    unfold cutA at hn
    split at hn
    · omega
    · cases A with
      | none => have := h.nil0 rfl; omega
      | some a => simp at hn
  · unfold cutA
    split
    · have : m = 0 := by omega
      subst this
      simp; exact Rd.nil_ _ _
    · cases A with
      | none => have := h.rd.none_nil; simp at this; subst this; simp; exact Rd.nil_ _ _
      | some a =>
        intro j u hj
        rw [List.map_take, List.getElem?_take] at hj
        split at hj
        · obtain ⟨b, off, he, hl, hcell⟩ := h.rd (p + j) u (by rw [← List.getElem?_drop, ← List.map_drop]; exact hj)
          injection he with he
          subst he
          refine ⟨b, off + p, ?_, hl, by rw [Nat.add_assoc]; exact hcell⟩
          simp [addr_add]
        · cases hj
theorem Blk.drewN {w : World} {g : Nat} {t : TypeId} {cs : Array Value} (h : Blk w g t cs) (n : Nat) : Blk (w.drewN n) g t cs := h
theorem Far.cutP {w : World} {A : Option Addr} {q c d p n N : Nat} {bs : List UInt8} (h : Far A N q) (hs : Sl w A c (bs.map bv)) (hn : n ≤ N) (hN : bs.length = N := by assumption) : Far (cutA A d p) n q := by
  subst hN
  intro hpos b off he
  obtain ⟨b', off', hA, _⟩ := hs.rd 0 (bv (bs[0]'(by omega))) (by simp [List.getElem?_eq_getElem (show 0 < bs.length by omega)])
  subst hA
  have hne := h (by omega) b' off' rfl
  unfold cutA at he
  split at he
  · injection he with he; injection he with h1 h2; omega
  · simp only [Option.map_some, addr_add] at he
    injection he with he; injection he with h1 h2; omega
set_option maxRecDepth 100000 in
set_option maxHeartbeats 1000000 in
theorem inext_any (n : Int) (w : World) (q : Nat) (A : Option Addr) (c : Nat) (bs : List UInt8) (p : Nat) (hn1 : -9223372036854775808 ≤ n) (hn2 : n ≤ 9223372036854775807) (h : Rin 113 w q A c bs p) :
    Calls Try.prog 116 #[.pointer (some ⟨q, 0, none⟩), .int .i64 n] w fun e w' => ∃ A' c', e = .returned (.tuple #[.slice A' (rTake n bs p).1.length c', .int .i64 ((rTake n bs p).2.1 : Nat)]) ∧ Sl w' A' c' ((rTake n bs p).1.map bv) ∧ (∀ q', Far A bs.length q' → Far A' (rTake n bs p).1.length q') ∧ Rin 113 w' q A c bs (rTake n bs p).2.2 ∧ Only q w w' := by
  have hcap := h.cap
  have hsm := h.sl.small
  have hle := h.le
  by_cases a1 : n < 0
  · rw [rTake_neg a1]
    have HRin := hid h
    clear h
    go_enter Try.func116, Try.ntmps116
    go_wp2_with fail
    go_ret2
    exact ⟨none, 0, rfl, Sl.nil_ _, fun q' _ hp => by simp at hp, HRin.out, Only.refl _ _⟩
  have hleft := ileft_any w q A c bs p h
  have HL := hid hleft
  have HRin := hid h
  have b1 := h.blk
  clear hleft h
  by_cases a2 : ((bs.length - p : Nat) : Int) < n
  · rw [rTake_short a1 a2]
    generalize ((bs.length - p : Nat) : Int) = lf at *
    clear b1
    go_enter Try.func116, Try.ntmps116
    go_wp2_with fail
    refine HL.out.mono ?_
    rintro e1 w1 ⟨rfl, k, rfl⟩
    go_wp2_with fail
    go_ret2
    exact ⟨none, 0, rfl, Sl.nil_ _, fun q' _ hp => by simp at hp, HRin.out.below (below_drewN (Below.refl _ _) k), (Only.refl _ _).drewN k⟩
  · rw [rTake_ok a1 a2]
    obtain ⟨m, rfl⟩ : ∃ m : Nat, n = (m : Int) := ⟨n.toNat, by omega⟩
    have hm : p + m ≤ bs.length := by omega
    rw [show (m : Int).toNat = m from rfl]
    have hlen : ((bs.drop p).take m).length = m := by simp; omega
    rw [hlen]
    have HLEN := hid hlen
    clear hlen
    have c0 : w.cell? ⟨q, 0, none⟩ = some (.slice A bs.length c) := by simpa using b1.cell 0
    have c1 : w.cell? ⟨q, 1, none⟩ = some (.int .i64 (p : Int)) := by simpa using b1.cell 1
    have f1 := b1.frozen 1
    have l1 := b1.lt
    have B1 := hid b1
    clear b1
    generalize hN : bs.length = N at *
    have hlf : (m : Int) ≤ ((N - p : Nat) : Int) := by omega
    generalize ((N - p : Nat) : Int) = lf at *
    go_enter Try.func116, Try.ntmps116
    go_wp2_with fail
    refine HL.out.mono ?_
    rintro e1 w1 ⟨rfl, k, rfl⟩
    go_wp2_with fail
    go_quiet (fail)
    go_wp2_with fail
    · have hm0 : m = 0 := by omega
      subst hm0
      go_ret2
      have ho : Only q w ((((w.drewN k).setCell ⟨q, 1, none⟩ (.int .i64 ((p : Int) + ((0 : Nat) : Int)))).drewN nq)) := (((Only.refl q w).drewN k).set_ 1 _).drewN nq
      refine ⟨A, 0, rfl, ⟨by simp, by omega, fun _ => rfl, by simp; exact Rd.nil_ _ _⟩, fun q' _ hp => by omega, ?_, ho⟩
      have hb2 : Blk (w.drewN k) q 113 #[.slice A N c, .int .i64 (p : Int)] := B1.out
      have hb3 := (hb2.set_ 1 (.int .i64 ((p : Int) + ((0 : Nat) : Int)))).drewN nq
      refine HRin.out.move ho ?_ (by omega)
      simpa [hN] using hb3
    · go_ret2
      have ho : Only q w ((((w.drewN k).setCell ⟨q, 1, none⟩ (.int .i64 ((p : Int) + (m : Int)))).drewN nq)) := (((Only.refl q w).drewN k).set_ 1 _).drewN nq
      have hs := ho.sl HRin.out.sl HRin.out.far (by simp)
      have hpc := hs.piece p m (by omega)
      have hA : cutA A (p + m) p = Option.map (fun x => x.add p) A := by unfold cutA; rw [if_neg ‹¬ p + m = p›]
      rw [hA] at hpc
      have hs0 := HRin.out.sl
      refine ⟨_, m, rfl, by simpa using hpc, fun q' hf => ?_, ?_, ho⟩
      · rw [← hA]
        exact Far.cutP hf hs0 (by omega)
      · have hb2 : Blk (w.drewN k) q 113 #[.slice A N c, .int .i64 (p : Int)] := B1.out
        have hb3 := (hb2.set_ 1 (.int .i64 ((p : Int) + (m : Int)))).drewN nq
        refine HRin.out.move ho ?_ (by omega)
        simpa [hN] using hb3
/-- A length, and so many bytes. -/
def rCount (most : Int) (bs : List UInt8) (p : Nat) : List UInt8 × Nat × Nat :=
  if (M.get (bs.drop p)).2.2 ≠ 0 then ([], (M.get (bs.drop p)).2.2, p)
  else if most < 0 ∨ most < ((M.get (bs.drop p)).1 : Int) then ([], 2, p + (M.get (bs.drop p)).2.1)
  else rTake ((M.get (bs.drop p)).1 : Int) bs (p + (M.get (bs.drop p)).2.1)
set_option maxRecDepth 100000 in
set_option maxHeartbeats 1000000 in
theorem icounted_any (most : Int) (w : World) (q : Nat) (A : Option Addr) (c : Nat) (bs : List UInt8) (p : Nat) (hn1 : -9223372036854775808 ≤ most) (hn2 : most ≤ 9223372036854775807) (h : Rin 113 w q A c bs p) :
    Calls Try.prog 105 #[.pointer (some ⟨q, 0, none⟩), .int .i64 most] w fun e w' => ∃ A' c', e = .returned (.tuple #[.slice A' (rCount most bs p).1.length c', .int .i64 ((rCount most bs p).2.1 : Nat)]) ∧ Sl w' A' c' ((rCount most bs p).1.map bv) ∧ (∀ q', Far A bs.length q' → Far A' (rCount most bs p).1.length q') ∧ Rin 113 w' q A c bs (rCount most bs p).2.2 ∧ Only q w w' := by
  have hnum := inum_any w q A c bs p h
  have hr : rCount most bs p = if (M.get (bs.drop p)).2.2 ≠ 0 then ([], (M.get (bs.drop p)).2.2, p)
    else if most < 0 ∨ most < ((M.get (bs.drop p)).1 : Int) then ([], 2, p + (M.get (bs.drop p)).2.1)
    else rTake ((M.get (bs.drop p)).1 : Int) bs (p + (M.get (bs.drop p)).2.1) := rfl
  have hf := M.get_facts (bs.drop p)
  have hle := h.le
  clear h
  generalize M.get (bs.drop p) = g at *
  obtain ⟨v, k, e⟩ := g
  simp only at hnum hr hf
  have HN := hid hnum
  clear hnum
  by_cases he : e = 0
  · subst he
    have hv := (hf.1 rfl).2.2.2
    clear hf
    by_cases a1 : most < 0
    · rw [if_neg (by simp), if_pos (.inl a1)] at hr
      rw [hr]
      clear hr
      go_enter Try.func105, Try.ntmps105
      go_wp2_with fail
      refine HN.out.mono ?_
      rintro e1 w1 ⟨rfl, hrin, ho⟩
      go_wp2_with fail
      go_ret2
      exact ⟨none, 0, rfl, Sl.nil_ _, fun q' _ hp => by simp at hp, hrin, ho⟩
    obtain ⟨mo, rfl⟩ : ∃ mo : Nat, most = (mo : Int) := ⟨most.toNat, by omega⟩
    have hmo : 0 ≤ (mo : Int) := by omega
    by_cases a2 : mo < v
    · rw [if_neg (by simp), if_pos (.inr (by omega))] at hr
      rw [hr]
      clear hr
      go_enter Try.func105, Try.ntmps105
      go_wp2_with fail
      refine HN.out.mono ?_
      rintro e1 w1 ⟨rfl, hrin, ho⟩
      go_wp2_with fail
      go_ret2
      exact ⟨none, 0, rfl, Sl.nil_ _, fun q' _ hp => by simp at hp, hrin, ho⟩
    · rw [if_neg (by simp), if_neg (by omega)] at hr
      rw [hr]
      clear hr
      have hv2 : (v : Int) ≤ 9223372036854775807 := by omega
      go_enter Try.func105, Try.ntmps105
      go_wp2_with fail
      refine HN.out.mono ?_
      rintro e1 w1 ⟨rfl, hrin, ho⟩
      have hnext := inext_any (v : Int) w1 q A c bs (p + k) (by omega) (by omega) hrin
      have HX := hid hnext
      clear hnext
      go_wp2_with fail
      refine HX.out.mono ?_
      rintro e2 w2 ⟨A', c', rfl, hs2, hf2, hrin2, ho2⟩
      go_wp2_with fail
      go_ret2
      exact ⟨A', c', rfl, hs2, hf2, hrin2, ho.trans ho2⟩
  · have hz := (hf.2 he).2.1
    subst hz
    clear hf
    rw [if_pos he] at hr
    rw [hr]
    have heb : ((e : Int) != 0) = true := by simp; omega
    clear hr he
    go_enter Try.func105, Try.ntmps105
    go_wp2_with fail
    refine HN.out.mono ?_
    rintro e1 w1 ⟨rfl, hrin, ho⟩
    go_wp2_with fail
    go_ret2
    exact ⟨none, 0, rfl, Sl.nil_ _, fun q' _ hp => by simp at hp, hrin, ho⟩
end Go.Proofs.Ytfbmdeegcoocnaa
