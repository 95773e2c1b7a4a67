/- Loops within which ranges over functions begin, and the marks that these leave. · A range over a function, at the wide fence: the records are laid, kept and shut here. -/
import Derived.RangeFuncOwn
import Derived.OwnWalkIn
import Derived.RangeFuncNested
import Derived.RangeFuncBound
import Derived.RangeFuncCalls
import Derived.RangeFuncLeaves
import Derived.LoopNIn
import Derived.TacticsInMore
import Derived.Test.YtejdlhjbakndaaaM1
set_option linter.unusedVariables false
namespace Go.Proofs.Ytejdlhjbakndaaa
open Go.RowKit
theorem rounds_inv {F : Fence} {n : Nat} {P : Program} {Q : Exit → Act → World → Prop} {c : Code} (N : Nat) (I : Nat → Act → World → Prop)
    (h : ∀ k a w, k ≤ N → I k a w → c.wpIn F n P (Exit.then (fun a' w' => k < N ∧ I (k + 1) a' w') Q) a w) : ∀ r k a w, k + r = N → I k a w → Code.roundsIn F n P c Q (r + 1) a w := by
  intro r
  induction r with
  | zero =>
    intro k a w hk hi
    rw [roundsIn_succ]
    refine wpIn_mono (h k a w (by omega) hi) ?_
    intro e a' w' hq
    cases e <;> try exact hq
    obtain ⟨h1, _⟩ := hq
    omega
  | succ r ih =>
    intro k a w hk hi
    rw [roundsIn_succ]
    refine wpIn_mono (h k a w (by omega) hi) ?_
    intro e a' w' hq
    cases e <;> try exact hq
    exact ih (k + 1) a' w' (by omega) hq.2
/-- A loop of which each round may leave marks. -/
theorem wpIn_loop_inv {F : Fence} {n : Nat} {P : Program} {Q : Exit → Act → World → Prop} {c : Code} {a : Act} {w : World} (N : Nat) (I : Nat → Act → World → Prop) (h0 : I 0 a w)
    (h : ∀ k a w, k ≤ N → I k a w → c.wpIn F n P (Exit.then (fun a' w' => k < N ∧ I (k + 1) a' w') Q) a w) : (Code.loop c).wpIn F n P Q a w :=
  wpIn_loop_rounds (N + 1) (rounds_inv N I h N 0 a w (by omega) h0)
/-- Marks: blocks from B on, each of which collected no call. -/
def Marks (B : Nat) (W : World) (Ds : List Nat) : Prop := Ds.Nodup ∧ ∀ D ∈ Ds, B ≤ D ∧ W.heap[D]? = some (.deferred (some []))
def marksOf (Ds : List Nat) : List Deferred := Ds.map fun D => { target := .collected D, args := #[] }
theorem Marks.nil_ (B : Nat) (W : World) : Marks B W [] := ⟨List.nodup_nil, fun D h => by simp at h⟩
theorem Marks.lt {B : Nat} {W : World} {Ds : List Nat} (h : Marks B W Ds) {D : Nat} (hD : D ∈ Ds) : D < W.heap.size := (Array.getElem?_eq_some_iff.1 (h.2 D hD).2).1
theorem Marks.cons_ {B : Nat} {W : World} {Ds : List Nat} (h : Marks B W Ds) {D : Nat} (hD : B ≤ D) (hn : D ∉ Ds) (hk : W.heap[D]? = some (.deferred (some []))) : Marks B W (D :: Ds) :=
  ⟨List.nodup_cons.2 ⟨hn, h.1⟩, fun x hx => by rcases List.mem_cons.1 hx with rfl | hx; exact ⟨hD, hk⟩; exact h.2 x hx⟩
theorem Marks.chg {B : Nat} {W W' : World} {Ds : List Nat} {S : Nat → Prop} (h : Marks B W Ds) (hc : Chg S W W') (hS : ∀ D ∈ Ds, ¬ S D) : Marks B W' Ds :=
  ⟨h.1, fun D hD => ⟨(h.2 D hD).1, (hc.block D (h.lt hD) (hS D hD)).trans (h.2 D hD).2⟩⟩
theorem chg_putObj {S : Nat → Prop} {W : World} {l : Nat} (o : Obj) (hl : S l) : Chg S W (W.putObj l o) := Chg.of_grown (grownBy_putObj' W l o) fun g e => by cases e; exact hl
/-- Whoever leaves with such marks leaves as without. -/
theorem leaves_marks {F : Fence} {n : Nat} {P : Program} {fn : Func} {tmps : Array Value} {R : Ending → World → Prop} (B : Nat) : ∀ (Ds : List Nat) (W : World), Marks B W Ds →
    (∀ W', Chg (fun k => k ∈ Ds) W W' → LeavesInM F n P fn tmps R [] .returning W') → LeavesInM F n P fn tmps R (marksOf Ds) .returning W
  | [], W, _, h => h W (Chg.refl _ _)
  | D :: Ds, W, hm, h => by
    obtain ⟨hnd, hall⟩ := hm
    have hD := hall D (List.mem_cons_self ..)
    refine ⟨by simp, .inl ⟨D, _, rfl, run_takeDeferred hD.2, ?_⟩⟩
    have hc : Chg (fun k => k ∈ D :: Ds) W (W.putObj D (.deferred none)) := chg_putObj _ (List.mem_cons_self ..)
    have hc1 : Chg (fun k => k = D) W (W.putObj D (.deferred none)) := chg_putObj _ rfl
    refine leaves_marks B Ds _ (Marks.chg ⟨(List.nodup_cons.1 hnd).2, fun x hx => hall x (List.mem_cons_of_mem _ hx)⟩ hc1 fun x hx e => ?_) fun W' hW' => h W' (hc.trans (hW'.mono fun k _ hk => List.mem_cons_of_mem _ hk))
    subst e
    exact (List.nodup_cons.1 hnd).1 hx
end Go.Proofs.Ytejdlhjbakndaaa
set_option linter.unusedVariables false
namespace Go.Proofs.Ytejdlhjbakndaaa
open Go.RowKit
/-- Some blocks lie as they lay. -/
def KN (z n : Nat) (W W' : World) : Prop := ∀ q, z ≤ q → q < z + n → W'.heap[q]? = W.heap[q]?
theorem KN.of_chg {z n : Nat} {W W' : World} {S : Nat → Prop} (h : Chg S W W') (hz : z + n ≤ W.heap.size) (h0 : ∀ q, z ≤ q → q < z + n → ¬ S q) : KN z n W W' := fun q h1 h2 => h.block q (by omega) (h0 q h1 h2)
theorem KN.trans {z n : Nat} {W W' W'' : World} (h : KN z n W W') (k : KN z n W' W'') : KN z n W W'' := fun q h1 h2 => (k q h1 h2).trans (h q h1 h2)
theorem KN.refl (z n : Nat) (W : World) : KN z n W W := fun _ _ _ => rfl
theorem KN.sub {z n a k : Nat} {W W' : World} (h : KN z n W W') (h1 : z ≤ a) (h2 : a + k ≤ z + n) : KN a k W W' := fun q g1 g2 => h q (by omega) (by omega)
/-- How a round's body ends. -/
def rPost (z n : Nat) (I : Nat → World → Prop) (Ix : Code → World → Prop) (j : Nat) (W : World) : Exit → Act → World → Prop
  | .normal, _, W' => KN z n W W' ∧ I (j + 1) W'
  | .ret, _, W' => KN z n W W' ∧ Ix .ret W'
  | .exit id, _, W' => KN z n W W' ∧ Ix (.exit id) W'
  | .goto t, _, W' => KN z n W W' ∧ Ix (.goto t) W'
  | .panic _, _, _ => False
  | .outgrown, _, _ => False
set_option maxRecDepth 100000 in
set_option maxHeartbeats 2000000 in
theorem range_wide {P : Program} {g : Operand} {ps : Array Tmp} {assign body : Code} {Q : Exit → Act → World → Prop} {a : Act} {w : World} (m : Nat) (hm : 2 ≤ m) (z : Nat) (hz : w.heap.size = z)
    {gf : Nat} {lb : Array Value} (hg : a.eval g = .func (.func gf) #[] lb) (eg : ∀ args w, (callFunc gf args).run P w = .ok (.enter gf args) w)
    (N : Nat) (enc : Nat → Array Value) (hps : ∀ j, (enc j).size = ps.size) (own : Nat) (I : Nat → World → Prop) (Ix : Code → World → Prop)
    (hI : ∀ j W W', I j W → Chg (fun q => z ≤ q ∧ q < z + 2 + own) W W' → I j W') (hIx : ∀ c W W', Ix c W → Chg (fun q => z ≤ q ∧ q < z + 2 + own) W W' → Ix c W') (h0 : I 0 w)
    (hseq : ∀ (l : Nat) (J : Nat → World → Prop) (Jx : World → Prop) (W : World), W.heap.size = z + 2 → (∀ j W, J j W → I j W ∧ z + 2 ≤ W.heap.size) → (∀ j W W', J j W → Chg (fun q => z + 2 ≤ q ∧ q < z + 2 + own) W W' → J j W') → (∀ W W', Jx W → Chg (fun q => z + 2 ≤ q ∧ q < z + 2 + own) W W' → Jx W') → J 0 W →
      (∀ j W, j < N → J j W → z + 2 + own ≤ W.heap.size → YieldAt Fence.wide (m - 1 - 1) P l (enc j) W fun e W' => (e = .returned (.bool true) ∧ J (j + 1) W' ∧ KN (z + 2) own W W') ∨ (e = .returned (.bool false) ∧ Jx W' ∧ KN (z + 2) own W W')) →
      CallsIn Fence.wide (m - 1) P gf (#[.func (.yield l) #[] #[]] ++ lb) W fun e W' => (∃ v, e = .returned v) ∧ (J N W' ∨ Jx W'))
    (hbody : ∀ (l j : Nat) (W : World), j < N → I j W → z + 2 + own ≤ W.heap.size →
      assign.wpIn (Fence.wide.inRound l) (m - 1 - 1) P (Exit.then (fun a₁ W₁ => KN z (2 + own) W W₁ ∧ z + 2 + own ≤ W₁.heap.size ∧ ∀ W₂, Chg (fun q => q = z + 1) W₁ W₂ → body.wpIn (Fence.wide.inRound l) (m - 1 - 1) P (rPost z (2 + own) I Ix j W₂) a₁ W₂) (fun _ _ _ => False))
        { tmps := (ps.zip (enc j)).foldl (fun t (p, v) => t.setIfInBounds p v) a.tmps, defers := [] } W)
    (hdone : ∀ W, I N W → W.heap[z]? = some (.deferred (some [])) → Q .normal { a with defers := { target := .collected z, args := #[] } :: a.defers } W)
    (hstop : ∀ c W, Ix c W → W.heap[z]? = some (.deferred (some [])) → c.wpIn Fence.wide m P Q { a with defers := { target := .collected z, args := #[] } :: a.defers } W) :
    (Code.rangeFunc g ps assign body).wpIn Fence.wide m P Q a w := by
  refine wpIn_rangeFunc fun fn _ => ?_
  obtain ⟨rec, hrec⟩ : ∃ rec : LoopState → Option Code → Loop, rec = fun st pe => { state := st, pending := pe, fn, tmps := a.tmps, params := ps, assign := assign, body := body, defers := z } := ⟨_, rfl⟩
  obtain ⟨W1, hW1⟩ : ∃ W1, (w.alloc (.deferred (some []))).alloc (.loop (rec .ready none)) = W1 := ⟨_, rfl⟩
  have hz1 : W1.heap.size = z + 2 := by rw [← hW1]; simp [hz]
  have hL1 : W1.heap[z + 1]? = some (.loop (rec .ready none)) := by
    rw [← hW1]; have := World.alloc_heap_new (w.alloc (.deferred (some []))) (.loop (rec .ready none)); rwa [World.size_alloc, hz] at this
  have hK1 : W1.heap[z]? = some (.deferred (some [])) := by
    have h := World.alloc_heap_new w (.deferred (some []))
    rw [hz] at h
    rw [← hW1]; exact (Below.heap_alloc _ _ _ (by simp [hz])).trans h
  have hC1 : ∀ S, Chg S w W1 := fun S => by rw [← hW1]; exact ((Chg.refl S w).alloc _).alloc _
  refine ⟨z + 1, [{ target := .collected z, args := #[] }], W1, { target := .fn (.func gf) lb, args := #[.func (.yield (z + 1)) #[] #[]] }, W1, gf, #[.func (.yield (z + 1)) #[] #[]] ++ lb, W1, ?_, ?_, fun _ _ => trivial, ?_, fun _ => by omega, ?_⟩
  · have h := run_enterLoop_outer (P := P) (w := w) fn a.tmps ps assign body
    rw [hz] at h
    rw [← hW1, hrec]
    exact h
  · unfold resolve rangeCall
    dsimp only
    rw [hg]
    simp [go_sem]
  · simp [invoke, go_sem, eg]
  · have hy : ∀ (W : World) (xs : Array Value), xs.size = ps.size → W.heap[z + 1]? = some (.loop (rec .ready none)) → (Instr.yield (z + 1) xs).run P W = .ok (.round (z + 1) fn ((ps.zip xs).foldl (fun t (p, v) => t.setIfInBounds p v) a.tmps) assign body) W := fun W xs hs h => by
      have h := run_yield (P := P) (args := xs) h (by rw [hrec]; exact hs)
      rw [hrec] at h
      simpa using h
    have hput : ∀ (W : World) (o : Obj) (j : Nat), I j W → I j (W.putObj (z + 1) o) := fun W o j h => hI j _ _ h (chg_putObj o (by omega))
    refine (hseq (z + 1) (fun j W => I j W ∧ z + 2 ≤ W.heap.size ∧ W.heap[z + 1]? = some (.loop (rec .ready none)) ∧ W.heap[z]? = some (.deferred (some []))) (fun W => ∃ c, Ix c W ∧ W.heap[z + 1]? = some (.loop (rec .done (some c))) ∧ W.heap[z]? = some (.deferred (some [])))
      W1 hz1 (fun j W h => ⟨h.1, h.2.1⟩) (fun j W W' h hc => ⟨hI j _ _ h.1 (hc.mono fun _ _ hf => by omega), Nat.le_trans h.2.1 hc.size, (hc.block _ (by have := h.2.1; omega) (fun hf => by omega)).trans h.2.2.1, (hc.block _ (by have := h.2.1; omega) (fun hf => by omega)).trans h.2.2.2⟩) (fun W W' ⟨c, h1, h2, h3⟩ hc => ⟨c, hIx c _ _ h1 (hc.mono fun _ _ hf => by omega), (hc.block _ (Array.getElem?_eq_some_iff.1 h2).1 (fun hf => by omega)).trans h2, (hc.block _ (Array.getElem?_eq_some_iff.1 h3).1 (fun hf => by omega)).trans h3⟩) ⟨hI 0 _ _ h0 (hC1 _), by omega, hL1, hK1⟩ ?hY).mono ?fin
    case hY =>
      rintro j W hj ⟨hij, hsz, hr, hd⟩ hown
      refine ⟨fn, _, assign, body, hy W _ (hps j) hr, roundIn_of_wpIn trivial ?_⟩
      refine wpIn_mono (hbody (z + 1) j W hj hij hown) ?_
      intro e a1 W₁ hq
      cases e <;> try exact hq
      obtain ⟨hk, hs1, hb⟩ := hq
      have hr1 := (hk (z + 1) (by omega) (by omega)).trans hr
      have hd1 := (hk z (by omega) (by omega)).trans hd
      have hbr := run_beginRound (P := P) hr1 (by rw [hrec])
      refine ⟨_, hbr, ?_⟩
      obtain ⟨W2, hW2⟩ : ∃ W2, W₁.putObj (z + 1) (.loop { rec .ready none with state := .busy }) = W2 := ⟨_, rfl⟩
      have hc2 : Chg (fun q => q = z + 1) W₁ W2 := by rw [← hW2]; exact chg_putObj _ rfl
      have hr2 : W2.heap[z + 1]? = some (.loop { rec .ready none with state := .busy }) := by rw [← hW2]; exact World.putObj_heap_same (Array.getElem?_eq_some_iff.1 hr1).1
      have hd2 := (hc2.block z (by omega) (by omega)).trans hd1
      rw [hW2]
      refine wpIn_mono (hb W2 hc2) ?_
      have fin : ∀ (W' : World) (jump : Option Code), KN z (2 + own) W2 W' → ∃ W3, (Instr.endRound (z + 1) jump).run P W' = .ok (.bool jump.isNone) W3 ∧ Chg (fun q => z ≤ q ∧ q < z + 2 + own) W' W3 ∧ KN (z + 2) own W W3 ∧ W3.heap[z + 1]? = some (.loop (rec (if jump.isNone then .ready else .done) jump)) ∧ W3.heap[z]? = some (.deferred (some [])) ∧ z + 2 ≤ W3.heap.size := by
        intro W' jump hk'
        have hr' := (hk' (z + 1) (by omega) (by omega)).trans hr2
        have hl' := (Array.getElem?_eq_some_iff.1 hr').1
        have hend := run_endRound (P := P) jump hr'
        have hcp := fun o => chg_putObj (W := W') (l := z + 1) (S := fun q => q = z + 1) o rfl
        refine ⟨_, hend, chg_putObj _ (by omega), ?_, ?_, ((hcp _).block z (by omega) (by omega)).trans ((hk' z (by omega) (by omega)).trans hd2), Nat.le_trans (by omega) (hcp _).size⟩
        · intro q g1 g2
          rw [show (W'.putObj (z + 1) _).heap[q]? = W'.heap[q]? from World.putObj_heap_other (by omega)]
          rw [hk' q (by omega) (by omega), hc2.block q (by omega) (by omega)]
          exact hk q (by omega) (by omega)
        simp only [hrec]
        exact World.putObj_heap_same hl'
      intro e a' W' hq
      cases e with
      | normal =>
        obtain ⟨hk', hi'⟩ := hq
        obtain ⟨W3, he3, hc3, hkn, hr3, hd3, hs3⟩ := fin W' none hk'
        exact ⟨_, W3, he3, .inl ⟨rfl, ⟨hI _ _ _ hi' hc3, hs3, hr3, hd3⟩, hkn⟩⟩
      | ret =>
        obtain ⟨hk', hi'⟩ := hq
        obtain ⟨W3, he3, hc3, hkn, hr3, hd3, hs3⟩ := fin W' (some .ret) hk'
        exact ⟨_, W3, he3, .inr ⟨rfl, ⟨.ret, hIx _ _ _ hi' hc3, hr3, hd3⟩, hkn⟩⟩
      | exit id =>
        obtain ⟨hk', hi'⟩ := hq
        obtain ⟨W3, he3, hc3, hkn, hr3, hd3, hs3⟩ := fin W' (some (.exit id)) hk'
        exact ⟨_, W3, he3, .inr ⟨rfl, ⟨.exit id, hIx _ _ _ hi' hc3, hr3, hd3⟩, hkn⟩⟩
      | goto t =>
        obtain ⟨hk', hi'⟩ := hq
        obtain ⟨W3, he3, hc3, hkn, hr3, hd3, hs3⟩ := fin W' (some (.goto t)) hk'
        exact ⟨_, W3, he3, .inr ⟨rfl, ⟨.goto t, hIx _ _ _ hi' hc3, hr3, hd3⟩, hkn⟩⟩
      | panic c => exact hq.elim
      | outgrown => exact hq.elim
    case fin =>
      rintro e W2 ⟨⟨v, rfl⟩, (⟨hij, hs, hr, hd⟩ | ⟨c, hix, hr, hd⟩)⟩
      · refine ⟨none, _, by have := run_endLoop (P := P) hr (by rw [hrec]; simp); rw [hrec] at this; exact this, ?_⟩
        exact hdone _ (hput _ _ _ hij) (((chg_putObj (S := fun q => q = z + 1) _ rfl).block z (by omega) (by omega)).trans hd)
      · refine ⟨some c, _, by have := run_endLoop (P := P) hr (by rw [hrec]; simp); rw [hrec] at this; exact this, ?_⟩
        have hlz := (Array.getElem?_eq_some_iff.1 hd).1
        exact hstop c _ (hIx _ _ _ hix (chg_putObj _ (by omega))) (((chg_putObj (S := fun q => q = z + 1) _ rfl).block z hlz (by omega)).trans hd)
theorem own_chgS {S : Nat → Prop} {w w' : World} {B e sz n : Nat} {v : Value} {xs : List Value} (h : w.ownsRow B e sz v n xs) (hc : Chg S w w') (hS : ∀ g, v.ownBlock = some g → ¬ S g) : w'.ownsRow B e sz v n xs := by
  refine ⟨h.1, h.2.imp_right ?_⟩
  rintro ⟨g, cap, cur, rfl, hg, hc1, r⟩
  exact ⟨g, cap, cur, rfl, hg, (hc.block g (Array.getElem?_eq_some_iff.1 hc1).1 (hS g rfl)).trans hc1, r⟩
theorem wpListIn_append_rd {F : Fence} {n : Nat} {P : Program} (w : World) {ops : Array Oper} {rest : List Oper} {o : Oper} {a : Act} {Q : Exit → Act → World → Prop} (hgd : o.guard = none) (s x : Operand) (t : TypeId)
    (ho : o.op = .call { callee := .builtin .append, args := #[s, x], argTypes := #[t, t] })
    (base : Nat) (e : TypeId) (i : TypeInfo) (z : Value) (size bytes : Nat) (ht : P.underlying t = some (.slice e)) (hi : P.info? e = some i) (hz : i.zero = some z)
    (hsize : i.size = size) (hby : i.bytes = bytes) (hzs : z.cells.size = size) (hsz : 0 < size)
    (v : Value) (k : Nat) (xs : List Value) (hs : a.eval s = v) (hown : w.ownsRow base e size v k xs)
    (A : Addr) (m c : Nat) (news : List Value) (hx : a.eval x = .slice (some A) m c) (hl : news.length = m * size) (hr : Rd w (some A) news) (h1 : ∀ u ∈ news, u.oneCell' = true)
    (h63 : k + m ≤ maxLen) (hbytes : (k + m) * bytes ≤ 140737488355328) (hbase : base ≤ w.heap.size)
    (h : ∀ v' w', w'.ownsRow base e size v' (k + m) (xs ++ news) → w.grownBy w' v.ownBlock → wpListIn F n P ops Q rest (a.put o.dst v') w') : wpListIn F n P ops Q (o :: rest) a w :=
  wpListIn_append_own w hgd s x t ho base e i z size bytes ht hi hz hsize hby hzs hsz v k xs hs hown A m c news hx hl hr.addr h1 h63 hbytes hbase fun v' w' h2 h3 _ => h v' w' h2 h3
end Go.Proofs.Ytejdlhjbakndaaa
