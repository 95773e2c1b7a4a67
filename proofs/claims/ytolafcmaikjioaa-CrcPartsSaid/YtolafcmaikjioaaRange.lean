/- A range over a function, at the wide fence: the records are laid, kept and shut here. -/
import Derived.Test.YtolafcmaikjioaaMarks
set_option linter.unusedVariables false
namespace Go.Proofs.Ytolafcmaikjioaa
open Go.RowKit
/-- Two blocks lie as they lay. -/
def K2 (z : Nat) (W W' : World) : Prop := W'.heap[z]? = W.heap[z]? ∧ W'.heap[z + 1]? = W.heap[z + 1]?
theorem K2.of_chg {z : Nat} {W W' : World} {S : Nat → Prop} (h : Chg S W W') (hz : z + 2 ≤ W.heap.size) (h0 : ¬ S z) (h1 : ¬ S (z + 1)) : K2 z W W' := ⟨h.block z (by omega) h0, h.block (z + 1) (by omega) h1⟩
theorem K2.trans {z : Nat} {W W' W'' : World} (h : K2 z W W') (k : K2 z W' W'') : K2 z W W'' := ⟨k.1.trans h.1, k.2.trans h.2⟩
/-- How a round's body ends. -/
def rPost (z : Nat) (I : Nat → World → Prop) (Ix : Code → World → Prop) (j : Nat) (W : World) : Exit → Act → World → Prop
  | .normal, _, W' => K2 z W W' ∧ I (j + 1) W'
  | .ret, _, W' => K2 z W W' ∧ Ix .ret W'
  | .exit id, _, W' => K2 z W W' ∧ Ix (.exit id) W'
  | .goto t, _, W' => K2 z W W' ∧ Ix (.goto t) W'
  | .panic _, _, _ => False
  | .outgrown, _, _ => False
set_option maxRecDepth 100000 in
set_option maxHeartbeats 2000000 in
theorem range_wide {P : Program} {g : Operand} {ps : Array Tmp} {assign body : Code} {Q : Exit → Act → World → Prop} {a : Act} {w : World} (m : Nat) (hm : 2 ≤ m) (z : Nat) (hz : w.heap.size = z)
    {gf : Nat} {lb : Array Value} (hg : a.eval g = .func (.func gf) #[] lb) (eg : ∀ args w, (callFunc gf args).run P w = .ok (.enter gf args) w)
    (N : Nat) (enc : Nat → Array Value) (hps : ∀ j, (enc j).size = ps.size) (I : Nat → World → Prop) (Ix : Code → World → Prop)
    (hI : ∀ j W W', I j W → Chg (fun q => q = z ∨ q = z + 1) W W' → I j W') (hIx : ∀ c W W', Ix c W → Chg (fun q => q = z ∨ q = z + 1) W W' → Ix c W') (h0 : I 0 w)
    (hseq : ∀ (l : Nat) (J : Nat → World → Prop) (Jx : World → Prop) (W : World), (∀ j W, J j W → I j W) → J 0 W →
      (∀ j W, j < N → J j W → YieldAt Fence.wide (m - 1 - 1) P l (enc j) W fun e W' => (e = .returned (.bool true) ∧ J (j + 1) W') ∨ (e = .returned (.bool false) ∧ Jx W')) →
      CallsIn Fence.wide (m - 1) P gf (#[.func (.yield l) #[] #[]] ++ lb) W fun e W' => (∃ v, e = .returned v) ∧ (J N W' ∨ Jx W'))
    (hbody : ∀ (l j : Nat) (W : World), j < N → I j W → z + 2 ≤ W.heap.size →
      assign.wpIn (Fence.wide.inRound l) (m - 1 - 1) P (Exit.then (fun a₁ W₁ => K2 z W W₁ ∧ z + 2 ≤ W₁.heap.size ∧ ∀ W₂, Chg (fun q => q = z + 1) W₁ W₂ → body.wpIn (Fence.wide.inRound l) (m - 1 - 1) P (rPost z I Ix j W₂) a₁ W₂) (fun _ _ _ => False))
        { tmps := (ps.zip (enc j)).foldl (fun t (p, v) => t.setIfInBounds p v) a.tmps, defers := [] } W)
    (hdone : ∀ W, I N W → W.heap[z]? = some (.deferred (some [])) → Q .normal { a with defers := { target := .collected z, args := #[] } :: a.defers } W)
    (hstop : ∀ c W, Ix c W → W.heap[z]? = some (.deferred (some [])) → c.wpIn Fence.wide m P Q { a with defers := { target := .collected z, args := #[] } :: a.defers } W) :
    (Code.rangeFunc g ps assign body).wpIn Fence.wide m P Q a w := by
  refine wpIn_rangeFunc fun fn _ => ?_
  obtain ⟨rec, hrec⟩ : ∃ rec : LoopState → Option Code → Loop, rec = fun st pe => { state := st, pending := pe, fn, tmps := a.tmps, params := ps, assign := assign, body := body, defers := z } := ⟨_, rfl⟩
  obtain ⟨W1, hW1⟩ : ∃ W1, (w.alloc (.deferred (some []))).alloc (.loop (rec .ready none)) = W1 := ⟨_, rfl⟩
  have hz1 : W1.heap.size = z + 2 := by rw [← hW1]; simp [hz]
  have hL1 : W1.heap[z + 1]? = some (.loop (rec .ready none)) := by
    rw [← hW1]; have := World.alloc_heap_new (w.alloc (.deferred (some []))) (.loop (rec .ready none)); rwa [World.size_alloc, hz] at this
  have hK1 : W1.heap[z]? = some (.deferred (some [])) := by
    have h := World.alloc_heap_new w (.deferred (some []))
    rw [hz] at h
    rw [← hW1]; exact (Below.heap_alloc _ _ _ (by simp [hz])).trans h
  have hC1 : ∀ S, Chg S w W1 := fun S => by rw [← hW1]; exact ((Chg.refl S w).alloc _).alloc _
  refine ⟨z + 1, [{ target := .collected z, args := #[] }], W1, { target := .fn (.func gf) lb, args := #[.func (.yield (z + 1)) #[] #[]] }, W1, gf, #[.func (.yield (z + 1)) #[] #[]] ++ lb, W1, ?_, ?_, fun _ _ => trivial, ?_, fun _ => by omega, ?_⟩
  · have h := run_enterLoop_outer (P := P) (w := w) fn a.tmps ps assign body
    rw [hz] at h
    rw [← hW1, hrec]
    exact h
  · unfold resolve rangeCall
    dsimp only
    rw [hg]
    simp [go_sem]
  · simp [invoke, go_sem, eg]
  · have hy : ∀ (W : World) (xs : Array Value), xs.size = ps.size → W.heap[z + 1]? = some (.loop (rec .ready none)) → (Instr.yield (z + 1) xs).run P W = .ok (.round (z + 1) fn ((ps.zip xs).foldl (fun t (p, v) => t.setIfInBounds p v) a.tmps) assign body) W := fun W xs hs h => by
      have h := run_yield (P := P) (args := xs) h (by rw [hrec]; exact hs)
      rw [hrec] at h
      simpa using h
    have hput : ∀ (W : World) (o : Obj) (j : Nat), I j W → I j (W.putObj (z + 1) o) := fun W o j h => hI j _ _ h (chg_putObj o (.inr rfl))
    refine (hseq (z + 1) (fun j W => I j W ∧ z + 2 ≤ W.heap.size ∧ W.heap[z + 1]? = some (.loop (rec .ready none)) ∧ W.heap[z]? = some (.deferred (some []))) (fun W => ∃ c, Ix c W ∧ W.heap[z + 1]? = some (.loop (rec .done (some c))) ∧ W.heap[z]? = some (.deferred (some [])))
      W1 (fun j W h => h.1) ⟨hI 0 _ _ h0 (hC1 _), by omega, hL1, hK1⟩ ?hY).mono ?fin
    case hY =>
      rintro j W hj ⟨hij, hsz, hr, hd⟩
      refine ⟨fn, _, assign, body, hy W _ (hps j) hr, roundIn_of_wpIn trivial ?_⟩
      refine wpIn_mono (hbody (z + 1) j W hj hij hsz) ?_
      intro e a1 W₁ hq
      cases e <;> try exact hq
      obtain ⟨hk, hs1, hb⟩ := hq
      have hr1 := hk.2.trans hr
      have hd1 := hk.1.trans hd
      have hbr := run_beginRound (P := P) hr1 (by rw [hrec])
      refine ⟨_, hbr, ?_⟩
      obtain ⟨W2, hW2⟩ : ∃ W2, W₁.putObj (z + 1) (.loop { rec .ready none with state := .busy }) = W2 := ⟨_, rfl⟩
      have hc2 : Chg (fun q => q = z + 1) W₁ W2 := by rw [← hW2]; exact chg_putObj _ rfl
      have hr2 : W2.heap[z + 1]? = some (.loop { rec .ready none with state := .busy }) := by rw [← hW2]; exact World.putObj_heap_same (Array.getElem?_eq_some_iff.1 hr1).1
      have hd2 := (hc2.block z (by omega) (by omega)).trans hd1
      rw [hW2]
      refine wpIn_mono (hb W2 hc2) ?_
      have fin : ∀ (W' : World) (jump : Option Code), K2 z W2 W' → ∃ W3, (Instr.endRound (z + 1) jump).run P W' = .ok (.bool jump.isNone) W3 ∧ Chg (fun q => q = z ∨ q = z + 1) W' W3 ∧ W3.heap[z + 1]? = some (.loop (rec (if jump.isNone then .ready else .done) jump)) ∧ W3.heap[z]? = some (.deferred (some [])) ∧ z + 2 ≤ W3.heap.size := by
        intro W' jump hk'
        have hr' := hk'.2.trans hr2
        have hl' := (Array.getElem?_eq_some_iff.1 hr').1
        have hend := run_endRound (P := P) jump hr'
        have hcp := fun o => chg_putObj (W := W') (l := z + 1) (S := fun q => q = z + 1) o rfl
        refine ⟨_, hend, chg_putObj _ (.inr rfl), ?_, ((hcp _).block z (by omega) (by omega)).trans (hk'.1.trans hd2), Nat.le_trans (by omega) (hcp _).size⟩
        simp only [hrec]
        exact World.putObj_heap_same hl'
      intro e a' W' hq
      cases e with
      | normal =>
        obtain ⟨hk', hi'⟩ := hq
        obtain ⟨W3, he3, hc3, hr3, hd3, hs3⟩ := fin W' none hk'
        exact ⟨_, W3, he3, .inl ⟨rfl, hI _ _ _ hi' hc3, hs3, hr3, hd3⟩⟩
      | ret =>
        obtain ⟨hk', hi'⟩ := hq
        obtain ⟨W3, he3, hc3, hr3, hd3, hs3⟩ := fin W' (some .ret) hk'
        exact ⟨_, W3, he3, .inr ⟨rfl, .ret, hIx _ _ _ hi' hc3, hr3, hd3⟩⟩
      | exit id =>
        obtain ⟨hk', hi'⟩ := hq
        obtain ⟨W3, he3, hc3, hr3, hd3, hs3⟩ := fin W' (some (.exit id)) hk'
        exact ⟨_, W3, he3, .inr ⟨rfl, .exit id, hIx _ _ _ hi' hc3, hr3, hd3⟩⟩
      | goto t =>
        obtain ⟨hk', hi'⟩ := hq
        obtain ⟨W3, he3, hc3, hr3, hd3, hs3⟩ := fin W' (some (.goto t)) hk'
        exact ⟨_, W3, he3, .inr ⟨rfl, .goto t, hIx _ _ _ hi' hc3, hr3, hd3⟩⟩
      | panic c => exact hq.elim
      | outgrown => exact hq.elim
    case fin =>
      rintro e W2 ⟨⟨v, rfl⟩, (⟨hij, hs, hr, hd⟩ | ⟨c, hix, hr, hd⟩)⟩
      · refine ⟨none, _, by have := run_endLoop (P := P) hr (by rw [hrec]; simp); rw [hrec] at this; exact this, ?_⟩
        exact hdone _ (hput _ _ _ hij) (((chg_putObj (S := fun q => q = z + 1) _ rfl).block z (by omega) (by omega)).trans hd)
      · refine ⟨some c, _, by have := run_endLoop (P := P) hr (by rw [hrec]; simp); rw [hrec] at this; exact this, ?_⟩
        have hlz := (Array.getElem?_eq_some_iff.1 hd).1
        exact hstop c _ (hIx _ _ _ hix (chg_putObj _ (.inr rfl))) (((chg_putObj (S := fun q => q = z + 1) _ rfl).block z hlz (by omega)).trans hd)
end Go.Proofs.Ytolafcmaikjioaa
