/- Loops within which ranges over functions begin, and the marks that these leave. -/
import Derived.RangeFuncNested
import Derived.RangeFuncBound
import Derived.RangeFuncCalls
import Derived.RangeFuncLeaves
import Derived.LoopNIn
import Derived.TacticsInMore
import Derived.Test.YtolafcmaikjioaaGrow
set_option linter.unusedVariables false
namespace Go.Proofs.Ytolafcmaikjioaa
open Go.RowKit
theorem rounds_inv {F : Fence} {n : Nat} {P : Program} {Q : Exit → Act → World → Prop} {c : Code} (N : Nat) (I : Nat → Act → World → Prop)
    (h : ∀ k a w, k ≤ N → I k a w → c.wpIn F n P (Exit.then (fun a' w' => k < N ∧ I (k + 1) a' w') Q) a w) : ∀ r k a w, k + r = N → I k a w → Code.roundsIn F n P c Q (r + 1) a w := by
  intro r
  induction r with
  | zero =>
    intro k a w hk hi
    rw [roundsIn_succ]
    refine wpIn_mono (h k a w (by omega) hi) ?_
    intro e a' w' hq
    cases e <;> try exact hq
    obtain ⟨h1, _⟩ := hq
    omega
  | succ r ih =>
    intro k a w hk hi
    rw [roundsIn_succ]
    refine wpIn_mono (h k a w (by omega) hi) ?_
    intro e a' w' hq
    cases e <;> try exact hq
    exact ih (k + 1) a' w' (by omega) hq.2
/-- A loop of which each round may leave marks. -/
theorem wpIn_loop_inv {F : Fence} {n : Nat} {P : Program} {Q : Exit → Act → World → Prop} {c : Code} {a : Act} {w : World} (N : Nat) (I : Nat → Act → World → Prop) (h0 : I 0 a w)
    (h : ∀ k a w, k ≤ N → I k a w → c.wpIn F n P (Exit.then (fun a' w' => k < N ∧ I (k + 1) a' w') Q) a w) : (Code.loop c).wpIn F n P Q a w :=
  wpIn_loop_rounds (N + 1) (rounds_inv N I h N 0 a w (by omega) h0)
/-- Marks: blocks from B on, each of which collected no call. -/
def Marks (B : Nat) (W : World) (Ds : List Nat) : Prop := Ds.Nodup ∧ ∀ D ∈ Ds, B ≤ D ∧ W.heap[D]? = some (.deferred (some []))
def marksOf (Ds : List Nat) : List Deferred := Ds.map fun D => { target := .collected D, args := #[] }
theorem Marks.nil_ (B : Nat) (W : World) : Marks B W [] := ⟨List.nodup_nil, fun D h => by simp at h⟩
theorem Marks.lt {B : Nat} {W : World} {Ds : List Nat} (h : Marks B W Ds) {D : Nat} (hD : D ∈ Ds) : D < W.heap.size := (Array.getElem?_eq_some_iff.1 (h.2 D hD).2).1
theorem Marks.cons_ {B : Nat} {W : World} {Ds : List Nat} (h : Marks B W Ds) {D : Nat} (hD : B ≤ D) (hn : D ∉ Ds) (hk : W.heap[D]? = some (.deferred (some []))) : Marks B W (D :: Ds) :=
  ⟨List.nodup_cons.2 ⟨hn, h.1⟩, fun x hx => by rcases List.mem_cons.1 hx with rfl | hx; exact ⟨hD, hk⟩; exact h.2 x hx⟩
theorem Marks.chg {B : Nat} {W W' : World} {Ds : List Nat} {S : Nat → Prop} (h : Marks B W Ds) (hc : Chg S W W') (hS : ∀ D ∈ Ds, ¬ S D) : Marks B W' Ds :=
  ⟨h.1, fun D hD => ⟨(h.2 D hD).1, (hc.block D (h.lt hD) (hS D hD)).trans (h.2 D hD).2⟩⟩
theorem chg_putObj {S : Nat → Prop} {W : World} {l : Nat} (o : Obj) (hl : S l) : Chg S W (W.putObj l o) := Chg.of_grown (grownBy_putObj' W l o) fun g e => by cases e; exact hl
/-- Whoever leaves with such marks leaves as without. -/
theorem leaves_marks {F : Fence} {n : Nat} {P : Program} {fn : Func} {tmps : Array Value} {R : Ending → World → Prop} (B : Nat) : ∀ (Ds : List Nat) (W : World), Marks B W Ds →
    (∀ W', Chg (fun k => k ∈ Ds) W W' → LeavesInM F n P fn tmps R [] .returning W') → LeavesInM F n P fn tmps R (marksOf Ds) .returning W
  | [], W, _, h => h W (Chg.refl _ _)
  | D :: Ds, W, hm, h => by
    obtain ⟨hnd, hall⟩ := hm
    have hD := hall D (List.mem_cons_self ..)
    refine ⟨by simp, .inl ⟨D, _, rfl, run_takeDeferred hD.2, ?_⟩⟩
    have hc : Chg (fun k => k ∈ D :: Ds) W (W.putObj D (.deferred none)) := chg_putObj _ (List.mem_cons_self ..)
    have hc1 : Chg (fun k => k = D) W (W.putObj D (.deferred none)) := chg_putObj _ rfl
    refine leaves_marks B Ds _ (Marks.chg ⟨(List.nodup_cons.1 hnd).2, fun x hx => hall x (List.mem_cons_of_mem _ hx)⟩ hc1 fun x hx e => ?_) fun W' hW' => h W' (hc.trans (hW'.mono fun k _ hk => List.mem_cons_of_mem _ hk))
    subst e
    exact (List.nodup_cons.1 hnd).1 hx
end Go.Proofs.Ytolafcmaikjioaa
