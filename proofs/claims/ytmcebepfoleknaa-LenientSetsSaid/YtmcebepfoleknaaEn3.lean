/- A range over a function of which the iterator's own memory ends where it says itself, and whose arguments are told by a relation. · encode.each: the bytes of a message's fields, one by one. · encode.Bytes. -/
import Derived.Test.YtmcebepfoleknaaM6
import Derived.Test.YtmcebepfoleknaaEn2
import Derived.Test.YtmcebepfoleknaaV2
import Derived.Test.YtmcebepfoleknaaVGrow
import Derived.Shelf.RegionOpen
import Derived.Sort.QuietIn
set_option linter.unusedVariables false
namespace Go.Proofs.Ytmcebepfoleknaa
open Go.RowKit
/-- Some blocks lie as they lay. -/
def KBl (z b : Nat) (W W' : World) : Prop := ∀ q, z ≤ q → q < b → W'.heap[q]? = W.heap[q]?
theorem KBl.of_chg {z b : Nat} {W W' : World} {S : Nat → Prop} (h : Chg S W W') (hz : b ≤ W.heap.size) (h0 : ∀ q, z ≤ q → q < b → ¬ S q) : KBl z b W W' := fun q h1 h2 => h.block q (by omega) (h0 q h1 h2)
theorem KBl.trans {z b : Nat} {W W' W'' : World} (h : KBl z b W W') (k : KBl z b W' W'') : KBl z b W W'' := fun q h1 h2 => (k q h1 h2).trans (h q h1 h2)
theorem KBl.refl (z b : Nat) (W : World) : KBl z b W W := fun _ _ _ => rfl
theorem KBl.sub {z b a c : Nat} {W W' : World} (h : KBl z b W W') (h1 : z ≤ a) (h2 : c ≤ b) : KBl a c W W' := fun q g1 g2 => h q (by omega) (by omega)
theorem KBl.size {z b : Nat} {W W' : World} (h : KBl z b W W') (hz : z < b) (hb : b ≤ W.heap.size) : b ≤ W'.heap.size := by
  have h1 := h (b - 1) (by omega) (by omega)
  have h2 : W'.heap[b - 1]? = some W.heap[b - 1] := by rw [h1]; exact Array.getElem?_eq_getElem (by omega)
  have := (Array.getElem?_eq_some_iff.1 h2).1
  omega
theorem Sl.loop {W W' : World} {A : Option Addr} {c g : Nat} {xs : List Value} (h : Sl W A c xs) (hl : ∃ o, W.heap[g]? = some (.loop o)) (hc : Chg (fun q => q = g) W W') : Sl W' A c xs := by
  refine ⟨h.cap, h.small, h.nil0, fun k u hk => ?_⟩
  obtain ⟨b, off, rfl, hb, hcl⟩ := h.rd k u hk
  have hne : b ≠ g := by
    rintro rfl
    obtain ⟨o, ho⟩ := hl
    simp [World.cell?, ho] at hcl
  refine ⟨b, off, rfl, Nat.lt_of_lt_of_le hb hc.size, ?_⟩
  rw [← hcl]
  unfold World.cell?
  rw [hc.block b hb hne]
/-- How a round's body ends. -/
def bPost (z b : Nat) (I : Nat → World → Prop) (Ix : Code → World → Prop) (j : Nat) (W : World) : Exit → Act → World → Prop
  | .normal, _, W' => KBl z b W W' ∧ I (j + 1) W'
  | .ret, _, W' => KBl z b W W' ∧ Ix .ret W'
  | .exit id, _, W' => KBl z b W W' ∧ Ix (.exit id) W'
  | .goto t, _, W' => KBl z b W W' ∧ Ix (.goto t) W'
  | .panic _, _, _ => False
  | .outgrown, _, _ => False
set_option maxRecDepth 100000 in
set_option maxHeartbeats 2000000 in
theorem range_b {P : Program} {g : Operand} {ps : Array Tmp} {assign body : Code} {Q : Exit → Act → World → Prop} {a : Act} {w : World} (m : Nat) (hm : 2 ≤ m) (z : Nat) (hz : w.heap.size = z)
    {gf : Nat} {lb : Array Value} (hg : a.eval g = .func (.func gf) #[] lb) (eg : ∀ args w, (callFunc gf args).run P w = .ok (.enter gf args) w)
    (N : Nat) (E : Nat → Array Value → World → Prop) (hps : ∀ j xs W, E j xs W → xs.size = ps.size) (I : Nat → Nat → World → Prop) (Ix : Nat → Code → World → Prop)
    (hI : ∀ b j W W', I b j W → Chg (fun q => z ≤ q ∧ q < b) W W' → I b j W') (hIx : ∀ b c W W', Ix b c W → Chg (fun q => z ≤ q ∧ q < b) W W' → Ix b c W') (h0 : ∀ b W', z + 2 ≤ b → Below z w W' → I b 0 W')
    (hseq : ∀ (l : Nat) (J : Nat → Nat → World → Prop) (Jx : Nat → World → Prop) (W : World), W.heap.size = z + 2 → Below z w W → (∀ b j W, J b j W → I b j W ∧ z + 2 ≤ W.heap.size) → (∀ b j W W', z + 2 ≤ b → J b j W → Chg (fun q => z + 2 ≤ q ∧ q < b) W W' → J b j W') → (∀ b W W', z + 2 ≤ b → Jx b W → Chg (fun q => z + 2 ≤ q ∧ q < b) W W' → Jx b W') → (∀ b W', z + 2 ≤ b → Below (z + 2) W W' → J b 0 W') →
      (∀ b j W xs, j < N → z + 2 ≤ b → b ≤ W.heap.size → J b j W → E j xs W → YieldAt Fence.wide (m - 1 - 1) P l xs W fun e W' => (e = .returned (.bool true) ∧ J b (j + 1) W' ∧ KBl (z + 2) b W W' ∧ b ≤ W'.heap.size) ∨ (e = .returned (.bool false) ∧ Jx b W' ∧ KBl (z + 2) b W W' ∧ b ≤ W'.heap.size)) →
      CallsIn Fence.wide (m - 1) P gf (#[.func (.yield l) #[] #[]] ++ lb) W fun e W' => (∃ v, e = .returned v) ∧ ∃ b, z + 2 ≤ b ∧ (J b N W' ∨ Jx b W'))
    (hbody : ∀ (l b j : Nat) (W : World) (xs : Array Value), j < N → z + 2 ≤ b → b ≤ W.heap.size → I b j W → E j xs W → (∃ o, W.heap[z + 1]? = some (.loop o)) →
      assign.wpIn (Fence.wide.inRound l) (m - 1 - 1) P (Exit.then (fun a₁ W₁ => KBl z b W W₁ ∧ ∀ W₂, Chg (fun q => q = z + 1) W₁ W₂ → body.wpIn (Fence.wide.inRound l) (m - 1 - 1) P (bPost z b (I b) (Ix b) j W₂) a₁ W₂) (fun _ _ _ => False))
        { tmps := (ps.zip xs).foldl (fun t (p, v) => t.setIfInBounds p v) a.tmps, defers := [] } W)
    (hdone : ∀ b W, z + 2 ≤ b → I b N W → W.heap[z]? = some (.deferred (some [])) → Q .normal { a with defers := { target := .collected z, args := #[] } :: a.defers } W)
    (hstop : ∀ b c W, z + 2 ≤ b → Ix b c W → W.heap[z]? = some (.deferred (some [])) → c.wpIn Fence.wide m P Q { a with defers := { target := .collected z, args := #[] } :: a.defers } W) :
    (Code.rangeFunc g ps assign body).wpIn Fence.wide m P Q a w := by
  refine wpIn_rangeFunc fun fn _ => ?_
  obtain ⟨rec, hrec⟩ : ∃ rec : LoopState → Option Code → Loop, rec = fun st pe => { state := st, pending := pe, fn, tmps := a.tmps, params := ps, assign := assign, body := body, defers := z } := ⟨_, rfl⟩
  obtain ⟨W1, hW1⟩ : ∃ W1, (w.alloc (.deferred (some []))).alloc (.loop (rec .ready none)) = W1 := ⟨_, rfl⟩
  have hz1 : W1.heap.size = z + 2 := by rw [← hW1]; simp [hz]
  have hL1 : W1.heap[z + 1]? = some (.loop (rec .ready none)) := by
    rw [← hW1]; have := World.alloc_heap_new (w.alloc (.deferred (some []))) (.loop (rec .ready none)); rwa [World.size_alloc, hz] at this
  have hK1 : W1.heap[z]? = some (.deferred (some [])) := by
    have h := World.alloc_heap_new w (.deferred (some []))
    rw [hz] at h
    rw [← hW1]; exact (Below.heap_alloc _ _ _ (by simp [hz])).trans h
  have hB1 : Below z w W1 := by rw [← hW1, ← hz]; exact bw_a (bw_a (Below.refl _ w) _) _
  refine ⟨z + 1, [{ target := .collected z, args := #[] }], W1, { target := .fn (.func gf) lb, args := #[.func (.yield (z + 1)) #[] #[]] }, W1, gf, #[.func (.yield (z + 1)) #[] #[]] ++ lb, W1, ?_, ?_, fun _ _ => trivial, ?_, fun _ => by omega, ?_⟩
  · have h := run_enterLoop_outer (P := P) (w := w) fn a.tmps ps assign body
    rw [hz] at h
    rw [← hW1, hrec]
    exact h
  · unfold resolve rangeCall
    dsimp only
    rw [hg]
    simp [go_sem]
  · simp [invoke, go_sem, eg]
  · have hy : ∀ (W : World) (xs : Array Value), xs.size = ps.size → W.heap[z + 1]? = some (.loop (rec .ready none)) → (Instr.yield (z + 1) xs).run P W = .ok (.round (z + 1) fn ((ps.zip xs).foldl (fun t (p, v) => t.setIfInBounds p v) a.tmps) assign body) W := fun W xs hs h => by
      have h := run_yield (P := P) (args := xs) h (by rw [hrec]; exact hs)
      rw [hrec] at h
      simpa using h
    have hput : ∀ (W : World) (o : Obj) (b j : Nat), z + 2 ≤ b → I b j W → I b j (W.putObj (z + 1) o) := fun W o b j hb h => hI b j _ _ h (chg_putObj o (by omega))
    refine (hseq (z + 1) (fun b j W => I b j W ∧ z + 2 ≤ W.heap.size ∧ W.heap[z + 1]? = some (.loop (rec .ready none)) ∧ W.heap[z]? = some (.deferred (some []))) (fun b W => ∃ c, Ix b c W ∧ W.heap[z + 1]? = some (.loop (rec .done (some c))) ∧ W.heap[z]? = some (.deferred (some [])))
      W1 hz1 hB1 (fun b j W h => ⟨h.1, h.2.1⟩) (fun b j W W' hb h hc => ⟨hI b j _ _ h.1 (hc.mono fun _ _ hf => by omega), Nat.le_trans h.2.1 hc.size, (hc.block _ (by have := h.2.1; omega) (fun hf => by omega)).trans h.2.2.1, (hc.block _ (by have := h.2.1; omega) (fun hf => by omega)).trans h.2.2.2⟩) (fun b W W' hb ⟨c, h1, h2, h3⟩ hc => ⟨c, hIx b c _ _ h1 (hc.mono fun _ _ hf => by omega), (hc.block _ (Array.getElem?_eq_some_iff.1 h2).1 (fun hf => by omega)).trans h2, (hc.block _ (Array.getElem?_eq_some_iff.1 h3).1 (fun hf => by omega)).trans h3⟩)
      (fun b W' hb hB => ⟨h0 b W' hb (hB1.trans (hB.mono (by omega))), by have := hB.size; omega, (hB.block _ (by omega)).trans hL1, (hB.block _ (by omega)).trans hK1⟩) ?hY).mono ?fin
    case hY =>
      rintro b j W xs hj hb hbW ⟨hij, hsz, hr, hd⟩ hE
      refine ⟨fn, _, assign, body, hy W _ (hps j xs W hE) hr, roundIn_of_wpIn trivial ?_⟩
      refine wpIn_mono (hbody (z + 1) b j W xs hj hb hbW hij hE ⟨_, hr⟩) ?_
      intro e a1 W₁ hq
      cases e <;> try exact hq
      obtain ⟨hk, hbd⟩ := hq
      have hs1 := hk.size (by omega) hbW
      have hr1 := (hk (z + 1) (by omega) (by omega)).trans hr
      have hd1 := (hk z (by omega) (by omega)).trans hd
      have hbr := run_beginRound (P := P) hr1 (by rw [hrec])
      refine ⟨_, hbr, ?_⟩
      obtain ⟨W2, hW2⟩ : ∃ W2, W₁.putObj (z + 1) (.loop { rec .ready none with state := .busy }) = W2 := ⟨_, rfl⟩
      have hc2 : Chg (fun q => q = z + 1) W₁ W2 := by rw [← hW2]; exact chg_putObj _ rfl
      have hr2 : W2.heap[z + 1]? = some (.loop { rec .ready none with state := .busy }) := by rw [← hW2]; exact World.putObj_heap_same (Array.getElem?_eq_some_iff.1 hr1).1
      have hd2 := (hc2.block z (by omega) (by omega)).trans hd1
      rw [hW2]
      refine wpIn_mono (hbd W2 hc2) ?_
      have fin : ∀ (W' : World) (jump : Option Code), KBl z b W2 W' → ∃ W3, (Instr.endRound (z + 1) jump).run P W' = .ok (.bool jump.isNone) W3 ∧ Chg (fun q => z ≤ q ∧ q < b) W' W3 ∧ KBl (z + 2) b W W3 ∧ W3.heap[z + 1]? = some (.loop (rec (if jump.isNone then .ready else .done) jump)) ∧ W3.heap[z]? = some (.deferred (some [])) ∧ z + 2 ≤ W3.heap.size ∧ b ≤ W3.heap.size := by
        intro W' jump hk'
        have hr' := (hk' (z + 1) (by omega) (by omega)).trans hr2
        have hl' := (Array.getElem?_eq_some_iff.1 hr').1
        have hsz' : b ≤ W'.heap.size := hk'.size (by omega) (by have := hc2.size; omega)
        have hend := run_endRound (P := P) jump hr'
        have hcp := fun o => chg_putObj (W := W') (l := z + 1) (S := fun q => q = z + 1) o rfl
        refine ⟨_, hend, chg_putObj _ (by omega), ?_, ?_, ((hcp _).block z (by omega) (by omega)).trans ((hk' z (by omega) (by omega)).trans hd2), Nat.le_trans (by omega) (hcp _).size, Nat.le_trans hsz' (hcp _).size⟩
        · intro q g1 g2
          rw [show (W'.putObj (z + 1) _).heap[q]? = W'.heap[q]? from World.putObj_heap_other (by omega)]
          rw [hk' q (by omega) (by omega), hc2.block q (by omega) (by omega)]
          exact hk q (by omega) (by omega)
        simp only [hrec]
        exact World.putObj_heap_same hl'
      intro e a' W' hq
      cases e with
      | normal =>
        obtain ⟨hk', hi'⟩ := hq
        obtain ⟨W3, he3, hc3, hkn, hr3, hd3, hs3, hb3⟩ := fin W' none hk'
        exact ⟨_, W3, he3, .inl ⟨rfl, ⟨hI _ _ _ _ hi' hc3, hs3, hr3, hd3⟩, hkn, hb3⟩⟩
      | ret =>
        obtain ⟨hk', hi'⟩ := hq
        obtain ⟨W3, he3, hc3, hkn, hr3, hd3, hs3, hb3⟩ := fin W' (some .ret) hk'
        exact ⟨_, W3, he3, .inr ⟨rfl, ⟨.ret, hIx _ _ _ _ hi' hc3, hr3, hd3⟩, hkn, hb3⟩⟩
      | exit id =>
        obtain ⟨hk', hi'⟩ := hq
        obtain ⟨W3, he3, hc3, hkn, hr3, hd3, hs3, hb3⟩ := fin W' (some (.exit id)) hk'
        exact ⟨_, W3, he3, .inr ⟨rfl, ⟨.exit id, hIx _ _ _ _ hi' hc3, hr3, hd3⟩, hkn, hb3⟩⟩
      | goto t =>
        obtain ⟨hk', hi'⟩ := hq
        obtain ⟨W3, he3, hc3, hkn, hr3, hd3, hs3, hb3⟩ := fin W' (some (.goto t)) hk'
        exact ⟨_, W3, he3, .inr ⟨rfl, ⟨.goto t, hIx _ _ _ _ hi' hc3, hr3, hd3⟩, hkn, hb3⟩⟩
      | panic c => exact hq.elim
      | outgrown => exact hq.elim
    case fin =>
      rintro e W2 ⟨⟨v, rfl⟩, b, hb, (⟨hij, hs, hr, hd⟩ | ⟨c, hix, hr, hd⟩)⟩
      · refine ⟨none, _, by have := run_endLoop (P := P) hr (by rw [hrec]; simp); rw [hrec] at this; exact this, ?_⟩
        exact hdone b _ hb (hput _ _ _ _ hb hij) (((chg_putObj (S := fun q => q = z + 1) _ rfl).block z (by omega) (by omega)).trans hd)
      · refine ⟨some c, _, by have := run_endLoop (P := P) hr (by rw [hrec]; simp); rw [hrec] at this; exact this, ?_⟩
        have hlz := (Array.getElem?_eq_some_iff.1 hd).1
        exact hstop b c _ hb (hIx _ _ _ _ hix (chg_putObj _ (by omega))) (((chg_putObj (S := fun q => q = z + 1) _ rfl).block z hlz (by omega)).trans hd)
end Go.Proofs.Ytmcebepfoleknaa
set_option linter.unusedVariables false
namespace Go.Proofs.Ytmcebepfoleknaa
open Go.RowKit Go.Shelf
attribute [local go_sem] Oper.semAt_some
end Go.Proofs.Ytmcebepfoleknaa
set_option linter.unusedVariables false
namespace Go.Proofs.Ytmcebepfoleknaa
open Go.RowKit Go.Shelf
attribute [local go_sem] Oper.semAt_some
/-- What Bytes keeps between two rounds. -/
structure EJ (s q b : Nat) (w : World) (M : MV) (v : Int) (bs : List UInt8) (W : World) : Prop where
  rf : Blk W (s + 1) 32 #[.int .i64 0, .int .i64 0]
  ro : ∃ vv, Blk W (q + 1) 22 #[vv] ∧ W.ownsRow b 5 1 vv bs.length (bs.map bv)
  rm : Blk W (q + 2) 29 (mvA M)
  rv : Blk W (q + 3) 3 #[.int .i64 v]
  bel : Below s w W
theorem EJ.keep {s q b : Nat} {w W W' : World} {M : MV} {v : Int} {bs : List UInt8} {S : Nat → Prop} (h : EJ s q b w M v bs W) (hsq : s + 2 ≤ q) (hqb : q + 6 ≤ b) (hc : Chg S W W') (hS : ∀ x, S x → q + 4 ≤ x ∧ x < b) : EJ s q b w M v bs W' := by
  have g := h.rv.lt
  obtain ⟨vv, h1, h2⟩ := h.ro
  exact ⟨hc.blk h.rf (fun hx => by have := hS _ hx; omega), ⟨vv, hc.blk h1 (fun hx => by have := hS _ hx; omega), own_chgS h2 hc (fun g hg hk => by have := (h2.lt g hg).1; have := hS _ hk; omega)⟩, hc.blk h.rm (fun hx => by have := hS _ hx; omega), hc.blk h.rv (fun hx => by have := hS _ hx; omega), h.bel.trans (hc.below (B := s) (fun x hx => by have := hS x hx; omega) (by omega))⟩
theorem EJ.step {s q b : Nat} {w W w1 : World} {M : MV} {v : Int} {bs new : List UInt8} {vv v' : Value} (h : EJ s q b w M v bs W) (hsq : s + 2 ≤ q) (hqb : q + 6 ≤ b) (hv : Blk W (q + 1) 22 #[vv]) (ho : W.ownsRow b 5 1 vv bs.length (bs.map bv)) (hg : W.grownBy w1 vv.ownBlock)
    (ho' : w1.ownsRow b 5 1 v' (bs.length + new.length) (bs.map bv ++ new.map bv)) : EJ s q b w M v (bs ++ new) (w1.setCell ⟨q + 1, 0, none⟩ v') ∧ Chg (fun x => x = q + 1 ∨ b ≤ x) W (w1.setCell ⟨q + 1, 0, none⟩ v') := by
  have hb1 : Chg (fun x => b ≤ x) W w1 := Chg.of_grown hg fun g e => (ho.lt g e).1
  have hc : Chg (fun x => x = q + 1 ∨ b ≤ x) W (w1.setCell ⟨q + 1, 0, none⟩ v') := (hb1.mono fun x _ hx => .inr hx).set_ (.inl (.inl rfl)) 0 v'
  have hv1 : Blk w1 (q + 1) 22 #[vv] := hb1.blk hv (by omega)
  have hv2 := hv1.set_ 0 v'
  have g := h.rv.lt
  refine ⟨⟨hc.blk h.rf (by omega), ⟨v', by simpa using hv2, ?_⟩, hc.blk h.rm (by omega), hc.blk h.rv (by omega), h.bel.trans (hc.below (B := s) (fun x hx => by omega) (by omega))⟩, hc⟩
  have h2 := own_chgS ho' ((Chg.refl (fun x => x = q + 1) w1).set_ (.inl rfl) 0 v') (fun g hg' hk => by have := (ho'.lt g hg').1; omega)
  rw [List.length_append, List.map_append]
  exact h2
end Go.Proofs.Ytmcebepfoleknaa
