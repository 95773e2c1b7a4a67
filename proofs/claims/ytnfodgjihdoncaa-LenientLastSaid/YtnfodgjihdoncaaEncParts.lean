/- encode.parts: the fields of a field that has something. -/
import Derived.Test.YtnfodgjihdoncaaV3
import Derived.Test.YtnfodgjihdoncaaSk2
import Derived.Test.YtnfodgjihdoncaaV2
import Derived.Lib.ConvBytes
set_option linter.unusedVariables false
namespace Go.Proofs.Ytnfodgjihdoncaa
open Go.RowKit
/-- What a field's parts are: number, wire type, number held, bytes. -/
def partW (m : MV) (num t i : Int) : List (Int × Int × Nat × List UInt8) := if t = 10 then m.l.map (fun s => (num, 2, 0, s.data.toList)) else if 7 ≤ t ∧ t ≤ 9 then [(num, 2, 0, (m.text i).data.toList)] else if t = 3 then [(num, 0, (zig (wrap64 (m.num i : Nat))).toNat, [])] else [(num, (wireN t : Nat), m.num i, [])]
def fvW (f : FV) : Int × Int × Nat × List UInt8 := (f.num, f.w, f.n, f.s.xs)
/-- One field in a row of its own. -/
theorem own_one {w : World} {B g : Nat} {f : FV} (hg : B ≤ g) (hk : Blk w g 95 (fvC f).toArray) : w.ownsRow B 95 5 (.slice (some ⟨g, 0, none⟩) 1 1) 1 ([f].flatMap fvC) := by
  refine ⟨by simp [fvC], .inr ⟨g, 1, _, rfl, hg, hk, Nat.le_refl 1, by decide, by simp [fvC], ?_⟩⟩
  simp [fvC]
def PartsR (m : MV) (num t i : Int) (w : World) (e : Ending) (w' : World) : Prop := ∃ (l : List FV) (v : Value), e = .returned v ∧ w'.ownsRow w.heap.size 95 5 v l.length (l.flatMap fvC) ∧ l.map fvW = partW m num t i ∧ (∀ f ∈ l, FvOk w' f) ∧ Below w.heap.size w w'
theorem blk_top {W : World} {g : Nat} {t : TypeId} {cs : Array Value} (h : W.heap.size = g) : Blk (W.alloc (.cells cs t)) g t cs := by rw [← h]; exact Blk.new W t cs
theorem parts_fin {w W : World} {m : MV} {num t i : Int} {wi q g : Nat} (hpw : partW m num t i = [(num, (wi : Int), q, [])]) (hwi : wi ≤ 5) (hq : q ≤ 18446744073709551615) (hn1 : -9223372036854775808 ≤ num) (hn2 : num ≤ 9223372036854775807) (hB : Below w.heap.size w W) (hg : w.heap.size ≤ g) (hk : Blk W g 95 #[.int .i64 num, .int .u8 (wi : Int), .int .u64 (q : Int), .slice none 0 0, .int .i64 0]) : PartsR m num t i w (.returned (.slice (some ⟨g, 0, none⟩) 1 1)) W := by
  refine ⟨[⟨num, (wi : Int), q, ⟨none, 0, []⟩, 0⟩], _, rfl, own_one hg hk, by rw [hpw]; rfl, fun f hf => ?_, hB⟩
  simp only [List.mem_singleton] at hf
  subst hf
  exact ⟨by dsimp only; omega, by dsimp only; omega, hq, hn1, hn2, by dsimp only; omega, by dsimp only; omega, Sl.nil_ W⟩
set_option maxRecDepth 100000 in
set_option maxHeartbeats 4000000 in
theorem parts_num (m : MV) (num t : Int) (i : Nat) (w : World) (hok : MvOk w m) (hi : i ≤ 5) (ht : t = 1 ∨ t = 2 ∨ t = 4 ∨ t = 5 ∨ t = 6) (hn1 : -9223372036854775808 ≤ num) (hn2 : num ≤ 9223372036854775807) :
    Calls Try.prog 106 #[mvV m, .agg #[.int .i64 num, .int .i64 t, .int .i64 (i : Int)]] w (PartsR m num t i w) := by
  have hx := hok.n (i : Int)
  have hpw : partW m num t (i : Int) = [(num, ((wireN t : Nat) : Int), m.num (i : Int), [])] := by
    unfold partW
    rw [if_neg (by omega), if_neg (by omega), if_neg (by omega)]
  have hww : wireN t ≤ 5 := by unfold wireN; split; omega; split; omega; split <;> omega
  obtain ⟨R, hR⟩ : ∃ R, PartsR m num t i w = R := ⟨_, rfl⟩
  rw [hR]
  have HR := hid hR
  have hwi := fun W => swire_any t W
  have HPW := hid hpw
  clear hR hpw hok
  generalize wireN t = wi at *
  generalize wireK t = wk at *
  have hmi : m.num (i : Int) = [m.n0, m.n1, m.n2, m.n3, m.n4, m.n5].getD i 0 := by
    have hi : i = 0 ∨ i = 1 ∨ i = 2 ∨ i = 3 ∨ i = 4 ∨ i = 5 := by omega
    rcases hi with rfl | rfl | rfl | rfl | rfl | rfl <;> rfl
  generalize hq : m.num (i : Int) = q at *
  have HQ := hid hmi
  clear hmi hq
  unfold mvV mvA
  generalize m.l.length = len at *
  rcases ht with rfl | rfl | rfl | rfl | rfl
  all_goals
    have hi : i = 0 ∨ i = 1 ∨ i = 2 ∨ i = 3 ∨ i = 4 ∨ i = 5 := by omega
    rcases hi with rfl | rfl | rfl | rfl | rfl | rfl
    all_goals
      go_enter Try.func106, Try.ntmps106
      go_wp2_with fail
      refine (hwi _).mono ?_
      rintro e w3 ⟨rfl, rfl⟩
      go_wp2_with fail
      rw [← HR.out]
      show PartsR _ _ _ _ _ (.returned (.slice (some ⟨w.heap.size + 1 + 1 + 1, 0, none⟩) 1 1)) _
      first | (have e : q = m.n0 := HQ.out; subst e) | (have e : q = m.n1 := HQ.out; subst e) | (have e : q = m.n2 := HQ.out; subst e) | (have e : q = m.n3 := HQ.out; subst e) | (have e : q = m.n4 := HQ.out; subst e) | (have e : q = m.n5 := HQ.out; subst e)
      refine parts_fin HPW.out hww hx hn1 hn2 (bw_a (bw_a (bw_a (bw_a (Below.refl _ w) _) _) _) _) (by omega) ?_
      exact blk_top (by simp only [World.size_alloc])
end Go.Proofs.Ytnfodgjihdoncaa
