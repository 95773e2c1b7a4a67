/- What is live in layer 5's statements. -/
import Derived.Test.YtefoccpgnijamaaOutBytes
import Derived.Test.YtefoccpgnijamaaM2
import Derived.Test.YtefoccpgnijamaaM3
set_option linter.unusedVariables false
namespace Go.Proofs.Ytefoccpgnijamaa
open Go.RowKit
theorem Wr.mono {w : World} {B B' q : Nat} {v : Value} {bs : List UInt8} {most : Nat} (h : Wr w B q v bs most) (hB : B' ≤ B) : Wr w B' q v bs most := ⟨h.blk, own_mono h.row hB, h.le, h.lim, Nat.le_trans hB h.low⟩
theorem put3 : putN 3 = [3] := by rw [putN_small (by omega)]; rfl
theorem put2 : putN 2 = [2] := by rw [putN_small (by omega)]; rfl
theorem capN_of {m : Nat} (h : m ≤ 16777216) : capN (m : Int) = m := by unfold capN; omega
theorem l5_new (m : Nat) (w : World) (h : m ≤ 16777216) :
    Calls Try.prog 17 #[.int .i64 (m : Int)] w fun e w' => ∃ q, e = .returned (.pointer (some ⟨q, 0, none⟩)) ∧ Wr w' w.heap.size q (.slice none 0 0) [] m ∧ Below w.heap.size w w' := by
  have h1 := onew_any (m : Int) w (by omega) (by omega)
  rwa [capN_of h] at h1
/-- The bytes of a slice that was just made. -/
theorem l5_bytes (xs ys : List UInt8) (n N : Nat) (cs : Array Value) (E : Nat) (bs' : List UInt8) (W : World) (B q : Nat) (v : Value) (bs : List UInt8) (most : Nat) (hN : W.heap.size = N) (hcs : cs.toList = xs.map bv) (hn : xs.length = n) (hl : n ≤ 1000)
    (hp : wput most bs (putN n ++ xs) = (bs', E)) (h : Wr W B q v bs most) :
    Calls Try.prog 25 #[.pointer (some ⟨q, 0, none⟩), .slice (some ⟨N, 0, none⟩) n n] (W.alloc (.cells cs 5)) fun e w' => ∃ v', e = .returned (.int .i64 (E : Nat)) ∧ Wr w' B q v' bs' most ∧ Stp q v v' bs.length W w' := by
  subst hN
  have hb := bw_a (Below.refl W.heap.size W) (.cells cs 5)
  have hrd := Rd.new W 5 cs
  rw [hcs] at hrd
  have h1 := obytes_any xs n (some ⟨W.heap.size, 0, none⟩) n (W.alloc (.cells cs 5)) B q v bs most hn (by omega) ⟨by simp [hn], by omega, (fun h => by cases h), hrd⟩
    (fun _ b o he ho => by injection he with he; injection he with he; have := (h.sets b ho).2; omega) (h.new hb)
  rw [hp] at h1
  exact h1.mono fun e w' ⟨v', he, hw, hst⟩ => ⟨v', he, hw, (Stp.of_new hb).trans hst (Nat.le_refl _)⟩
theorem l5_raw (xs : List UInt8) (n N : Nat) (cs : Array Value) (E : Nat) (bs' : List UInt8) (W : World) (B q : Nat) (v : Value) (bs : List UInt8) (most : Nat) (hN : W.heap.size = N) (hcs : cs.toList = xs.map bv) (hn : xs.length = n) (hl : n ≤ 1000)
    (hp : wput most bs xs = (bs', E)) (h : Wr W B q v bs most) :
    Calls Try.prog 44 #[.pointer (some ⟨q, 0, none⟩), .slice (some ⟨N, 0, none⟩) n n] (W.alloc (.cells cs 5)) fun e w' => ∃ v', e = .returned (.int .i64 (E : Nat)) ∧ Wr w' B q v' bs' most ∧ Stp q v v' bs.length W w' := by
  subst hN
  have hb := bw_a (Below.refl W.heap.size W) (.cells cs 5)
  have hrd := Rd.new W 5 cs
  rw [hcs] at hrd
  have h1 := raw_any xs n (some ⟨W.heap.size, 0, none⟩) n (W.alloc (.cells cs 5)) B q v bs most hn ⟨by simp [hn], by omega, (fun h => by cases h), hrd⟩ (h.new hb)
  rw [hp] at h1
  exact h1.mono fun e w' ⟨v', he, hw, hst⟩ => ⟨v', he, hw, (Stp.of_new hb).trans hst (Nat.le_refl _)⟩
section
variable (W : World) (B q : Nat) (v : Value) (bs : List UInt8) (most : Nat)
end
/-- All of closures in a slice that was just made. -/
theorem l5_all (gs : List Wf) (fs : List Value) (n N : Nat) (cs : Array Value) (E : Nat) (bs' : List UInt8) (W : World) (B q : Nat) (v : Value) (bs : List UInt8) (most : Nat) (hN : W.heap.size = N) (hcs : cs.toList = fs) (hn : fs.length = n) (hg : gs.length = n) (hl : n ≤ 1000)
    (hc : ∀ W', Below W.heap.size W W' → ∀ j (h1 : j < fs.length) (h2 : j < gs.length), CloOK W' B q v bs.length most fs[j] gs[j]) (hp : allW gs bs = (bs', E)) (h : Wr W B q v bs most) :
    Calls Try.prog 18 #[.pointer (some ⟨q, 0, none⟩), .slice (some ⟨N, 0, none⟩) n n] (W.alloc (.cells cs 45)) fun e w' => ∃ v', e = .returned (.int .i64 (E : Nat)) ∧ Wr w' B q v' bs' most ∧ Stp q v v' bs.length W w' := by
  subst hN
  have hb := bw_a (Below.refl W.heap.size W) (.cells cs 45)
  have hrd := Rd.new W 45 cs
  rw [hcs] at hrd
  have h1 := oall_any gs fs n (some ⟨W.heap.size, 0, none⟩) n (W.alloc (.cells cs 45)) B q v bs most hn hg ⟨by omega, by omega, (fun h => by cases h), hrd⟩
    (fun b o he ho => by injection he with he; injection he with he; have := (h.sets b ho).2; omega) (hc _ hb) (h.new hb)
  rw [hp] at h1
  exact h1.mono fun e w' ⟨v', he, hw, hst, _⟩ => ⟨v', he, hw, (Stp.of_new hb).trans hst (Nat.le_refl _)⟩
theorem l5_out (n : Nat) (w : World) (B q : Nat) (v : Value) (bs : List UInt8) (most : Nat) (hn : bs.length = n) (h : Wr w B q v bs most) (hl : n ≤ 1000000) :
    Calls Try.prog 28 #[.pointer (some ⟨q, 0, none⟩)] w fun e w' => ∃ A c, e = .returned (.slice A n c) ∧ Sl w' A c (bs.map bv) ∧ (∀ b o, A = some ⟨b, o, none⟩ → w.heap.size ≤ b) ∧ Below w.heap.size w w' := by
  subst hn; exact oout_any w B q v bs most h hl
theorem l5_left (l : Int) (w : World) (B q : Nat) (v : Value) (bs : List UInt8) (most : Nat) (hl : ((most - bs.length : Nat) : Int) = l) (h : Wr w B q v bs most) :
    Calls Try.prog 58 #[.pointer (some ⟨q, 0, none⟩)] w fun e w' => e = .returned (.int .i64 l) ∧ ∃ n, w' = w.drewN n := by
  subst hl; exact oleft_any w B q v bs most h
end Go.Proofs.Ytefoccpgnijamaa
