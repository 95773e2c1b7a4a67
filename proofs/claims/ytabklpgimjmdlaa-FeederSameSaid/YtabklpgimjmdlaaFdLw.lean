/- What is asked of a feeder: rows of asks; are they few, and short? · The walk of FeederTells. · Parts of what came in. · The walk of FeederHolds. -/
import Derived.Test.YtabklpgimjmdlaaFdLive
import Derived.Test.YtabklpgimjmdlaaOpen13
set_option linter.unusedVariables false
namespace Go.Proofs.Ytabklpgimjmdlaa
open Go.ChangeShapes Go.WideShapes Go.ChangeAt Go.RowKit
structure AskV where
  e : Bool
  s : SlV UInt8
def askC (a : AskV) : List Value := [.bool a.e, .slice a.s.A a.s.xs.length a.s.c]
def AskOk (W : World) (a : AskV) : Prop := Sl W a.s.A a.s.c (a.s.xs.map bv)
theorem askRow_get {w : World} {A : Option Addr} {n c : Nat} {l : List AskV} (hn : l.length = n) (h : SlN w A n c 2 (l.flatMap askC)) (j : Nat) (hj : j < l.length) :
    ∃ b off, A = some ⟨b, off, none⟩ ∧ b < w.heap.size ∧ w.cell? ⟨b, off + j * 2, none⟩ = some (.bool l[j].e) ∧ w.cell? ⟨b, off + j * 2 + 1, none⟩ = some (.slice l[j].s.A l[j].s.xs.length l[j].s.c) := by
  have hn0 : (l.flatMap askC)[j * 2 + 0]? = _ := flatMap_get askC 2 l j 0 hj (fun _ _ => rfl) (by omega)
  have hn1 : (l.flatMap askC)[j * 2 + 1]? = _ := flatMap_get askC 2 l j 1 hj (fun _ _ => rfl) (by omega)
  obtain ⟨b, off, rfl, hb, t0⟩ := h.rd (j * 2) (.bool l[j].e) (by simpa [askC] using hn0)
  obtain ⟨b', off', he, -, t1⟩ := h.rd (j * 2 + 1) (.slice l[j].s.A l[j].s.xs.length l[j].s.c) (by simpa [askC] using hn1)
  injection he with he
  injection he with h1 h2
  subst h1; subst h2
  exact ⟨b, off, rfl, hb, t0, by rw [Nat.add_assoc]; exact t1⟩
def askSum (l : List AskV) : Nat := (l.map fun a => min a.s.xs.length 5000).sum
def askSm (l : List AskV) : Bool := decide (l.length ≤ 40) && decide (askSum l ≤ 3000)
theorem askSum_snoc (l : List AskV) (j : Nat) (hj : j < l.length) : askSum (l.take (j + 1)) = askSum (l.take j) + min l[j].s.xs.length 5000 := by
  unfold askSum
  rw [List.take_succ_eq_append_getElem hj, List.map_append, List.sum_append]
  simp
theorem askSum_le (l : List AskV) (j : Nat) : askSum (l.take j) ≤ askSum l := by
  have h : askSum l = askSum (l.take j) + askSum (l.drop j) := by
    unfold askSum
    rw [← List.sum_append, ← List.map_append, List.take_append_drop]
  omega
theorem askSum_max (l : List AskV) : askSum l ≤ 5000 * l.length := by
  unfold askSum
  induction l with
  | nil => simp
  | cons x l ih => simp only [List.map_cons, List.sum_cons, List.length_cons]; omega
theorem askSum_mem {l : List AskV} {a : AskV} (h : a ∈ l) : min a.s.xs.length 5000 ≤ askSum l := by
  obtain ⟨j, hj, rfl⟩ := List.getElem_of_mem h
  have h1 := askSum_snoc l j hj
  have h2 := askSum_le l (j + 1)
  omega
end Go.Proofs.Ytabklpgimjmdlaa
set_option linter.unusedVariables false
namespace Go.Proofs.Ytabklpgimjmdlaa
open Go.RowKit
theorem bw_dq15 {a b : World} {B : Nat} (h : Below B a b) (n : Nat) : Below B a (b.drewN n) := ⟨h.os, h.tape, h.output, h.size, h.block⟩
theorem newsT_bd {T U : List UInt8} {f : Fnd} (h : f ∈ newsT T U) : f.at_ ≤ U.length ∧ f.pl.length ≤ U.length := by
  have h1 := (Rs.wk_facts false U 0).1 f (List.mem_of_mem_drop h)
  have h2 := (Rs.wk_facts false U 0).2.2 (by omega)
  have h3 := h1.2.2
  unfold Fnd.size at h3
  exact ⟨by omega, by omega⟩
/-- What is found at the end. -/
def lastT (T : List UInt8) : List Fnd := (Rs.wk true (hldT T) 0).1.map (Fnd.shift (Rs.wk false T 0).2)
theorem lastT_bd {T : List UInt8} {f : Fnd} (h : f ∈ lastT T) : f.at_ ≤ T.length ∧ f.pl.length ≤ T.length := by
  unfold lastT at h
  obtain ⟨f0, hf0, rfl⟩ := List.mem_map.1 h
  have h1 := (Rs.wk_facts true (hldT T) 0).1 f0 hf0
  have h2 := (Rs.wk_facts true (hldT T) 0).2.2 (by omega)
  have h3 := h1.2.2
  have h4 := hldT_len T
  unfold Fnd.size at h3
  simp only [Fnd.shift]
  exact ⟨by omega, by omega⟩
theorem lastT_len (T : List UInt8) : (lastT T).length ≤ T.length := by
  unfold lastT
  rw [List.length_map]
  have h1 := Rs.wk_len true (hldT T) 0
  have h4 := hldT_len T
  omega
set_option maxRecDepth 100000 in
set_option maxHeartbeats 1000000 in
theorem ffeed_over (g came n : Nat) (vb : Value) (A : Option Addr) (c : Nat) (w : World) (hk : Blk w g 69 #[vb, .int .i64 (came : Int), .bool true]) : Calls Try.prog 12 #[.pointer (some ⟨g, 0, none⟩), .slice A n c] w fun e w' => e = .returned (.slice none 0 0) ∧ Below w.heap.size w w' := by
  have HD := hid (fdeaf_any g vb came true _ (hk.alloc (.cells #[.pointer (some ⟨g, 0, none⟩)] 24)))
  have c0 := (Blk.new w 24 #[.pointer (some ⟨g, 0, none⟩)]).cell 0
  simp only [List.getElem?_toArray, List.getElem?_cons_zero] at c0
  have HB := hid (bw_a (Below.refl _ w) (.cells #[.pointer (some ⟨g, 0, none⟩)] 24))
  clear hk
  go_enter Try.func12, Try.ntmps12
  go_wp2_with fail
  refine HD.out.mono ?_
  rintro e w1 ⟨rfl, rfl⟩
  go_wp2_with fail
  go_ret
  exact ⟨rfl, HB.out⟩
set_option maxRecDepth 100000 in
set_option maxHeartbeats 1000000 in
theorem fend_over (g came : Nat) (vb : Value) (w : World) (hk : Blk w g 69 #[vb, .int .i64 (came : Int), .bool true]) : Calls Try.prog 17 #[.pointer (some ⟨g, 0, none⟩)] w fun e w' => e = .returned (.slice none 0 0) ∧ w' = w := by
  have HD := hid (fdeaf_any g vb came true _ hk)
  clear hk
  go_enter Try.func17, Try.ntmps17
  go_wp2_with fail
  refine HD.out.mono ?_
  rintro e w1 ⟨rfl, rfl⟩
  go_wp2_with fail
  go_ret
  exact ⟨rfl, rfl⟩
theorem FdO.sl {B : Nat} {w : World} {A : Option Addr} {n c : Nat} {vb : Value} {l : List Fnd} (h : FdO B w (.slice A n c) l vb) (hn : l.length = n) : FdSl w A n c l := h.row.sl hn
def FSW (g s0 : Nat) (w : World) (T : List UInt8) (vb : Value) (W : World) : Prop := FdS (g + 2) g (hldT T) T.length false vb W ∧ Below s0 w W ∧ g + 2 ≤ W.heap.size
/-- The program's feeder was fed, the document's not yet. -/
def PrD (g s0 N : Nat) (w : World) (T U : List UInt8) (vb : Value) (A5 : Option Addr) (c5 : Nat) (w5 : World) : Prop :=
  ∃ W0 vb5, Below s0 w W0 ∧ g + 2 ≤ W0.heap.size ∧ FdO W0.heap.size w5 (.slice A5 N c5) (newsT T U) vb5 ∧ FdS (g + 2) g (hldT U) U.length false vb5 w5 ∧ Chg (fun q => q = g ∨ vb.ownBlock = some q) W0 w5
def FDR (g N : Nat) (T U : List UInt8) (vb : Value) (W : World) (e : Ending) (w' : World) : Prop :=
  ∃ A5 c5 vb5, e = .returned (.slice A5 N c5) ∧ FdO W.heap.size w' (.slice A5 N c5) (newsT T U) vb5 ∧ FdS (g + 2) g (hldT U) U.length false vb5 w' ∧ Chg (fun q => q = g ∨ vb.ownBlock = some q) W w' ∧ (vb5.ownBlock = vb.ownBlock ∨ ∀ q, vb5.ownBlock = some q → W.heap.size ≤ q)
theorem FSW.of {g s0 : Nat} {w wr W : World} {T : List UInt8} {vb : Value} (hgs : s0 ≤ g) (h : FSW g s0 w T vb wr) (hc : Chg (fun _ => False) wr W) : FSW g s0 w T vb W :=
  ⟨h.1.chg hc (fun h => h) (fun _ _ h => h), h.2.1.trans (hc.below (fun _ h => h.elim) (by have := h.2.2; omega)), Nat.le_trans h.2.2 hc.size⟩
end Go.Proofs.Ytabklpgimjmdlaa
set_option linter.unusedVariables false
namespace Go.Proofs.Ytabklpgimjmdlaa
open Go.RowKit
theorem far_arg {w : World} {A : Option Addr} {c m : Nat} {ps : List UInt8} {S : Nat → Prop} (h : Sl w A c (ps.map bv)) (hm : ps.length = m) (hS : ∀ q, S q → w.heap.size ≤ q) : FarS A m S := fun hp b o e hs => by
  obtain ⟨b2, o2, he, hb2, -⟩ := BRd.at_ h.rd (k := 0) (by omega)
  rw [he] at e
  injection e with e
  injection e with e1
  have := hS b hs
  omega
/-- A part of what came in. -/
theorem sl_part {w : World} {A : Option Addr} {c n : Nat} {bs : List UInt8} (h : Sl w A c (bs.map bv)) (hn : bs.length = n) (lo hi : Nat) (h1 : lo ≤ hi) (h2 : hi ≤ n) : Sl w (cutA A c lo) (c - lo) (((bs.drop lo).take (hi - lo)).map bv) ∧ ((bs.drop lo).take (hi - lo)).length = hi - lo :=
  ⟨sl_take (h.cut lo (by omega)) _, by rw [List.length_take, List.length_drop]; omega⟩
theorem cutA_none (c p : Nat) : cutA none c p = none := by unfold cutA; split <;> rfl
theorem cutA_eq (A : Option Addr) (c : Nat) : cutA A c c = A := by unfold cutA; rw [if_pos rfl]
theorem cutA_ne (a : Addr) {c p : Nat} (h : ¬ c = p) : cutA (some a) c p = some (a.add p) := by unfold cutA; rw [if_neg h]; rfl
end Go.Proofs.Ytabklpgimjmdlaa
set_option linter.unusedVariables false
namespace Go.Proofs.Ytabklpgimjmdlaa
open Go.RowKit
end Go.Proofs.Ytabklpgimjmdlaa
