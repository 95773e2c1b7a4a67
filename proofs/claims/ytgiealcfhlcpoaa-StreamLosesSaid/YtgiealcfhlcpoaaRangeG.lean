/- A range over a function whose iterator keeps its state in a block of the caller's, and whose body never leaves. -/
import Derived.Test.YtgiealcfhlcpoaaFrU
set_option linter.unusedVariables false
namespace Go.Proofs.Ytgiealcfhlcpoaa
open Go.RowKit
/-- How a round's body ends. -/
def gPost (z G : Nat) (I : Nat → World → Prop) (j : Nat) (W : World) : Exit → Act → World → Prop
  | .normal, _, W' => KBg z (z + 2) W W' ∧ W'.heap[G]? = W.heap[G]? ∧ I (j + 1) W'
  | .ret, _, _ => False
  | .exit _, _, _ => False
  | .goto _, _, _ => False
  | .panic _, _, _ => False
  | .outgrown, _, _ => False
set_option maxRecDepth 100000 in
set_option maxHeartbeats 2000000 in
theorem range_g {P : Program} {g : Operand} {ps : Array Tmp} {assign body : Code} {Q : Exit → Act → World → Prop} {a : Act} {w : World} (m : Nat) (hm : 2 ≤ m) (z : Nat) (hz : w.heap.size = z)
    {gf : Nat} {lb : Array Value} (hg : a.eval g = .func (.func gf) #[] lb) (eg : ∀ args w, (callFunc gf args).run P w = .ok (.enter gf args) w)
    (N : Nat) (E : Nat → Array Value → World → Prop) (hps : ∀ j xs W, E j xs W → xs.size = ps.size) (G : Nat) (hG : G < z) (I : Nat → World → Prop) (Fin : World → Prop)
    (hI : ∀ j W W', I j W → Chg (fun q => z ≤ q ∧ q < z + 2 ∨ q = G) W W' → I j W') (hFin : ∀ W W', Fin W → Chg (fun q => q = z + 1) W W' → Fin W') (h0 : I 0 w)
    (hseq : ∀ (l : Nat) (J : Nat → World → Prop) (W : World), W.heap.size = z + 2 → Below z w W → (∀ j W, J j W → I j W ∧ z + 2 ≤ W.heap.size) → (∀ j W W', J j W → Chg (fun q => q = G) W W' → J j W') → J 0 W →
      (∀ j W xs, j < N → J j W → E j xs W → YieldAt Fence.wide (m - 1 - 1) P l xs W fun e W' => e = .returned (.bool true) ∧ J (j + 1) W' ∧ W'.heap[G]? = W.heap[G]?) →
      CallsIn Fence.wide (m - 1) P gf (#[.func (.yield l) #[] #[]] ++ lb) W fun e W' => (∃ v, e = .returned v) ∧ J N W' ∧ Fin W')
    (hbody : ∀ (l j : Nat) (W : World) (xs : Array Value), j < N → z + 2 ≤ W.heap.size → I j W → E j xs W → (∃ o, W.heap[z + 1]? = some (.loop o)) →
      assign.wpIn (Fence.wide.inRound l) (m - 1 - 1) P (Exit.then (fun a₁ W₁ => KBg z (z + 2) W W₁ ∧ W₁.heap[G]? = W.heap[G]? ∧ ∀ W₂, Chg (fun q => q = z + 1) W₁ W₂ → body.wpIn (Fence.wide.inRound l) (m - 1 - 1) P (gPost z G I j W₂) a₁ W₂) (fun _ _ _ => False))
        { tmps := (ps.zip xs).foldl (fun t (p, v) => t.setIfInBounds p v) a.tmps, defers := [] } W)
    (hdone : ∀ W, I N W → Fin W → W.heap[z]? = some (.deferred (some [])) → Q .normal { a with defers := { target := .collected z, args := #[] } :: a.defers } W) :
    (Code.rangeFunc g ps assign body).wpIn Fence.wide m P Q a w := by
  refine wpIn_rangeFunc fun fn _ => ?_
  obtain ⟨rec, hrec⟩ : ∃ rec : LoopState → Option Code → Loop, rec = fun st pe => { state := st, pending := pe, fn, tmps := a.tmps, params := ps, assign := assign, body := body, defers := z } := ⟨_, rfl⟩
  obtain ⟨W1, hW1⟩ : ∃ W1, (w.alloc (.deferred (some []))).alloc (.loop (rec .ready none)) = W1 := ⟨_, rfl⟩
  have hz1 : W1.heap.size = z + 2 := by rw [← hW1]; simp [hz]
  have hL1 : W1.heap[z + 1]? = some (.loop (rec .ready none)) := by
    rw [← hW1]; have := World.alloc_heap_new (w.alloc (.deferred (some []))) (.loop (rec .ready none)); rwa [World.size_alloc, hz] at this
  have hK1 : W1.heap[z]? = some (.deferred (some [])) := by
    have h := World.alloc_heap_new w (.deferred (some []))
    rw [hz] at h
    rw [← hW1]; exact (Below.heap_alloc _ _ _ (by simp [hz])).trans h
  have hB1 : Below z w W1 := by rw [← hW1, ← hz]; exact bw_a (bw_a (Below.refl _ w) _) _
  have hC1 : ∀ S, Chg S w W1 := fun S => by rw [← hW1]; exact ((Chg.refl S w).alloc _).alloc _
  refine ⟨z + 1, [{ target := .collected z, args := #[] }], W1, { target := .fn (.func gf) lb, args := #[.func (.yield (z + 1)) #[] #[]] }, W1, gf, #[.func (.yield (z + 1)) #[] #[]] ++ lb, W1, ?_, ?_, fun _ _ => trivial, ?_, fun _ => by omega, ?_⟩
  · have h := run_enterLoop_outer (P := P) (w := w) fn a.tmps ps assign body
    rw [hz] at h
    rw [← hW1, hrec]
    exact h
  · unfold resolve rangeCall
    dsimp only
    rw [hg]
    simp [go_sem]
  · simp [invoke, go_sem, eg]
  · have hy : ∀ (W : World) (xs : Array Value), xs.size = ps.size → W.heap[z + 1]? = some (.loop (rec .ready none)) → (Instr.yield (z + 1) xs).run P W = .ok (.round (z + 1) fn ((ps.zip xs).foldl (fun t (p, v) => t.setIfInBounds p v) a.tmps) assign body) W := fun W xs hs h => by
      have h := run_yield (P := P) (args := xs) h (by rw [hrec]; exact hs)
      rw [hrec] at h
      simpa using h
    have hput : ∀ (W : World) (o : Obj) (j : Nat), I j W → I j (W.putObj (z + 1) o) := fun W o j h => hI j _ _ h (chg_putObj o (.inl ⟨by omega, by omega⟩))
    refine (hseq (z + 1) (fun j W => I j W ∧ z + 2 ≤ W.heap.size ∧ W.heap[z + 1]? = some (.loop (rec .ready none)) ∧ W.heap[z]? = some (.deferred (some [])))
      W1 hz1 hB1 (fun j W h => ⟨h.1, h.2.1⟩) (fun j W W' h hc => ⟨hI j _ _ h.1 (hc.mono fun _ _ hf => .inr hf), Nat.le_trans h.2.1 hc.size, (hc.block _ (by have := h.2.1; omega) (fun hf => by omega)).trans h.2.2.1, (hc.block _ (by have := h.2.1; omega) (fun hf => by omega)).trans h.2.2.2⟩)
      ⟨hI 0 _ _ h0 (hC1 _), by omega, hL1, hK1⟩ ?hY).mono ?fin
    case hY =>
      rintro j W xs hj ⟨hij, hsz, hr, hd⟩ hE
      refine ⟨fn, _, assign, body, hy W _ (hps j xs W hE) hr, roundIn_of_wpIn trivial ?_⟩
      refine wpIn_mono (hbody (z + 1) j W xs hj hsz hij hE ⟨_, hr⟩) ?_
      intro e a1 W₁ hq
      cases e <;> try exact hq
      obtain ⟨hk, hg1, hbd⟩ := hq
      have hs1 := hk.size (by omega) hsz
      have hr1 := (hk (z + 1) (by omega) (by omega)).trans hr
      have hd1 := (hk z (by omega) (by omega)).trans hd
      have hbr := run_beginRound (P := P) hr1 (by rw [hrec])
      refine ⟨_, hbr, ?_⟩
      obtain ⟨W2, hW2⟩ : ∃ W2, W₁.putObj (z + 1) (.loop { rec .ready none with state := .busy }) = W2 := ⟨_, rfl⟩
      have hc2 : Chg (fun q => q = z + 1) W₁ W2 := by rw [← hW2]; exact chg_putObj _ rfl
      have hr2 : W2.heap[z + 1]? = some (.loop { rec .ready none with state := .busy }) := by rw [← hW2]; exact World.putObj_heap_same (Array.getElem?_eq_some_iff.1 hr1).1
      have hd2 := (hc2.block z (by omega) (by omega)).trans hd1
      have hg2 := (hc2.block G (by omega) (by omega)).trans hg1
      rw [hW2]
      refine wpIn_mono (hbd W2 hc2) ?_
      intro e a' W' hq
      cases e with
      | normal =>
        obtain ⟨hk', hg', hi'⟩ := hq
        have hr' := (hk' (z + 1) (by omega) (by omega)).trans hr2
        have hl' := (Array.getElem?_eq_some_iff.1 hr').1
        have hend := run_endRound (P := P) none hr'
        have hcp := fun o => chg_putObj (W := W') (l := z + 1) (S := fun q => q = z + 1) o rfl
        refine ⟨_, _, hend, rfl, ⟨hput _ _ _ hi', Nat.le_trans (by omega) (hcp _).size, ?_, ((hcp _).block z (by omega) (by omega)).trans ((hk' z (by omega) (by omega)).trans hd2)⟩, ((hcp _).block G (by omega) (by omega)).trans (hg'.trans hg2)⟩
        simp only [hrec]
        exact World.putObj_heap_same hl'
      | ret => exact hq.elim
      | exit id => exact hq.elim
      | goto t => exact hq.elim
      | panic c => exact hq.elim
      | outgrown => exact hq.elim
    case fin =>
      rintro e W2 ⟨⟨v, rfl⟩, ⟨hij, hs, hr, hd⟩, hf⟩
      refine ⟨none, _, by have := run_endLoop (P := P) hr (by rw [hrec]; simp); rw [hrec] at this; exact this, ?_⟩
      exact hdone _ (hput _ _ _ hij) (hFin _ _ hf (chg_putObj _ rfl)) (((chg_putObj (S := fun q => q = z + 1) _ rfl).block z (by omega) (by omega)).trans hd)
end Go.Proofs.Ytgiealcfhlcpoaa
