/- A range over a function of which the iterator's own memory ends where it says itself, and whose arguments are told by a relation. · encode.each: the bytes of a message's fields, one by one. · encode.Bytes. -/
import Derived.Test.YtnfodgjihdoncaaM6
import Derived.Test.YtnfodgjihdoncaaEn2
import Derived.Test.YtnfodgjihdoncaaV2
import Derived.Test.YtnfodgjihdoncaaVGrow
import Derived.Shelf.RegionOpen
import Derived.Sort.QuietIn
set_option linter.unusedVariables false
namespace Go.Proofs.Ytnfodgjihdoncaa
open Go.RowKit
/-- Some blocks lie as they lay. -/
def KBl (z b : Nat) (W W' : World) : Prop := ∀ q, z ≤ q → q < b → W'.heap[q]? = W.heap[q]?
theorem KBl.of_chg {z b : Nat} {W W' : World} {S : Nat → Prop} (h : Chg S W W') (hz : b ≤ W.heap.size) (h0 : ∀ q, z ≤ q → q < b → ¬ S q) : KBl z b W W' := fun q h1 h2 => h.block q (by omega) (h0 q h1 h2)
theorem KBl.trans {z b : Nat} {W W' W'' : World} (h : KBl z b W W') (k : KBl z b W' W'') : KBl z b W W'' := fun q h1 h2 => (k q h1 h2).trans (h q h1 h2)
theorem KBl.refl (z b : Nat) (W : World) : KBl z b W W := fun _ _ _ => rfl
theorem KBl.sub {z b a c : Nat} {W W' : World} (h : KBl z b W W') (h1 : z ≤ a) (h2 : c ≤ b) : KBl a c W W' := fun q g1 g2 => h q (by omega) (by omega)
theorem KBl.size {z b : Nat} {W W' : World} (h : KBl z b W W') (hz : z < b) (hb : b ≤ W.heap.size) : b ≤ W'.heap.size := by
  have h1 := h (b - 1) (by omega) (by omega)
  have h2 : W'.heap[b - 1]? = some W.heap[b - 1] := by rw [h1]; exact Array.getElem?_eq_getElem (by omega)
  have := (Array.getElem?_eq_some_iff.1 h2).1
  omega
theorem Sl.loop {W W' : World} {A : Option Addr} {c g : Nat} {xs : List Value} (h : Sl W A c xs) (hl : ∃ o, W.heap[g]? = some (.loop o)) (hc : Chg (fun q => q = g) W W') : Sl W' A c xs := by
  refine ⟨h.cap, h.small, h.nil0, fun k u hk => ?_⟩
  obtain ⟨b, off, rfl, hb, hcl⟩ := h.rd k u hk
  have hne : b ≠ g := by
    rintro rfl
    obtain ⟨o, ho⟩ := hl
    simp [World.cell?, ho] at hcl
  refine ⟨b, off, rfl, Nat.lt_of_lt_of_le hb hc.size, ?_⟩
  rw [← hcl]
  unfold World.cell?
  rw [hc.block b hb hne]
/-- How a round's body ends. -/
def bPost (z b : Nat) (I : Nat → World → Prop) (Ix : Code → World → Prop) (j : Nat) (W : World) : Exit → Act → World → Prop
  | .normal, _, W' => KBl z b W W' ∧ I (j + 1) W'
  | .ret, _, W' => KBl z b W W' ∧ Ix .ret W'
  | .exit id, _, W' => KBl z b W W' ∧ Ix (.exit id) W'
  | .goto t, _, W' => KBl z b W W' ∧ Ix (.goto t) W'
  | .panic _, _, _ => False
  | .outgrown, _, _ => False
set_option maxRecDepth 100000 in
set_option maxHeartbeats 2000000 in
theorem range_b {P : Program} {g : Operand} {ps : Array Tmp} {assign body : Code} {Q : Exit → Act → World → Prop} {a : Act} {w : World} (m : Nat) (hm : 2 ≤ m) (z : Nat) (hz : w.heap.size = z)
    {gf : Nat} {lb : Array Value} (hg : a.eval g = .func (.func gf) #[] lb) (eg : ∀ args w, (callFunc gf args).run P w = .ok (.enter gf args) w)
    (N : Nat) (E : Nat → Array Value → World → Prop) (hps : ∀ j xs W, E j xs W → xs.size = ps.size) (I : Nat → Nat → World → Prop) (Ix : Nat → Code → World → Prop)
    (hI : ∀ b j W W', I b j W → Chg (fun q => z ≤ q ∧ q < b) W W' → I b j W') (hIx : ∀ b c W W', Ix b c W → Chg (fun q => z ≤ q ∧ q < b) W W' → Ix b c W') (h0 : ∀ b W', z + 2 ≤ b → Below z w W' → I b 0 W')
    (hseq : ∀ (l : Nat) (J : Nat → Nat → World → Prop) (Jx : Nat → World → Prop) (W : World), W.heap.size = z + 2 → Below z w W → (∀ b j W, J b j W → I b j W ∧ z + 2 ≤ W.heap.size) → (∀ b j W W', z + 2 ≤ b → J b j W → Chg (fun q => z + 2 ≤ q ∧ q < b) W W' → J b j W') → (∀ b W W', z + 2 ≤ b → Jx b W → Chg (fun q => z + 2 ≤ q ∧ q < b) W W' → Jx b W') → (∀ b W', z + 2 ≤ b → Below (z + 2) W W' → J b 0 W') →
      (∀ b j W xs, j < N → z + 2 ≤ b → b ≤ W.heap.size → J b j W → E j xs W → YieldAt Fence.wide (m - 1 - 1) P l xs W fun e W' => (e = .returned (.bool true) ∧ J b (j + 1) W' ∧ KBl (z + 2) b W W' ∧ b ≤ W'.heap.size) ∨ (e = .returned (.bool false) ∧ Jx b W' ∧ KBl (z + 2) b W W' ∧ b ≤ W'.heap.size)) →
      CallsIn Fence.wide (m - 1) P gf (#[.func (.yield l) #[] #[]] ++ lb) W fun e W' => (∃ v, e = .returned v) ∧ ∃ b, z + 2 ≤ b ∧ (J b N W' ∨ Jx b W'))
    (hbody : ∀ (l b j : Nat) (W : World) (xs : Array Value), j < N → z + 2 ≤ b → b ≤ W.heap.size → I b j W → E j xs W → (∃ o, W.heap[z + 1]? = some (.loop o)) →
      assign.wpIn (Fence.wide.inRound l) (m - 1 - 1) P (Exit.then (fun a₁ W₁ => KBl z b W W₁ ∧ ∀ W₂, Chg (fun q => q = z + 1) W₁ W₂ → body.wpIn (Fence.wide.inRound l) (m - 1 - 1) P (bPost z b (I b) (Ix b) j W₂) a₁ W₂) (fun _ _ _ => False))
        { tmps := (ps.zip xs).foldl (fun t (p, v) => t.setIfInBounds p v) a.tmps, defers := [] } W)
    (hdone : ∀ b W, z + 2 ≤ b → I b N W → W.heap[z]? = some (.deferred (some [])) → Q .normal { a with defers := { target := .collected z, args := #[] } :: a.defers } W)
    (hstop : ∀ b c W, z + 2 ≤ b → Ix b c W → W.heap[z]? = some (.deferred (some [])) → c.wpIn Fence.wide m P Q { a with defers := { target := .collected z, args := #[] } :: a.defers } W) :
    (Code.rangeFunc g ps assign body).wpIn Fence.wide m P Q a w := by
  refine wpIn_rangeFunc fun fn _ => ?_
  obtain ⟨rec, hrec⟩ : ∃ rec : LoopState → Option Code → Loop, rec = fun st pe => { state := st, pending := pe, fn, tmps := a.tmps, params := ps, assign := assign, body := body, defers := z } := ⟨_, rfl⟩
  obtain ⟨W1, hW1⟩ : ∃ W1, (w.alloc (.deferred (some []))).alloc (.loop (rec .ready none)) = W1 := ⟨_, rfl⟩
  have hz1 : W1.heap.size = z + 2 := by rw [← hW1]; simp [hz]
  have hL1 : W1.heap[z + 1]? = some (.loop (rec .ready none)) := by
    rw [← hW1]; have := World.alloc_heap_new (w.alloc (.deferred (some []))) (.loop (rec .ready none)); rwa [World.size_alloc, hz] at this
  have hK1 : W1.heap[z]? = some (.deferred (some [])) := by
    have h := World.alloc_heap_new w (.deferred (some []))
    rw [hz] at h
    rw [← hW1]; exact (Below.heap_alloc _ _ _ (by simp [hz])).trans h
  have hB1 : Below z w W1 := by rw [← hW1, ← hz]; exact bw_a (bw_a (Below.refl _ w) _) _
  refine ⟨z + 1, [{ target := .collected z, args := #[] }], W1, { target := .fn (.func gf) lb, args := #[.func (.yield (z + 1)) #[] #[]] }, W1, gf, #[.func (.yield (z + 1)) #[] #[]] ++ lb, W1, ?_, ?_, fun _ _ => trivial, ?_, fun _ => by omega, ?_⟩
  · have h := run_enterLoop_outer (P := P) (w := w) fn a.tmps ps assign body
    rw [hz] at h
    rw [← hW1, hrec]
    exact h
  · unfold resolve rangeCall
    dsimp only
    rw [hg]
    simp [go_sem]
  · simp [invoke, go_sem, eg]
  · have hy : ∀ (W : World) (xs : Array Value), xs.size = ps.size → W.heap[z + 1]? = some (.loop (rec .ready none)) → (Instr.yield (z + 1) xs).run P W = .ok (.round (z + 1) fn ((ps.zip xs).foldl (fun t (p, v) => t.setIfInBounds p v) a.tmps) assign body) W := fun W xs hs h => by
      have h := run_yield (P := P) (args := xs) h (by rw [hrec]; exact hs)
      rw [hrec] at h
      simpa using h
    have hput : ∀ (W : World) (o : Obj) (b j : Nat), z + 2 ≤ b → I b j W → I b j (W.putObj (z + 1) o) := fun W o b j hb h => hI b j _ _ h (chg_putObj o (by omega))
    refine (hseq (z + 1) (fun b j W => I b j W ∧ z + 2 ≤ W.heap.size ∧ W.heap[z + 1]? = some (.loop (rec .ready none)) ∧ W.heap[z]? = some (.deferred (some []))) (fun b W => ∃ c, Ix b c W ∧ W.heap[z + 1]? = some (.loop (rec .done (some c))) ∧ W.heap[z]? = some (.deferred (some [])))
      W1 hz1 hB1 (fun b j W h => ⟨h.1, h.2.1⟩) (fun b j W W' hb h hc => ⟨hI b j _ _ h.1 (hc.mono fun _ _ hf => by omega), Nat.le_trans h.2.1 hc.size, (hc.block _ (by have := h.2.1; omega) (fun hf => by omega)).trans h.2.2.1, (hc.block _ (by have := h.2.1; omega) (fun hf => by omega)).trans h.2.2.2⟩) (fun b W W' hb ⟨c, h1, h2, h3⟩ hc => ⟨c, hIx b c _ _ h1 (hc.mono fun _ _ hf => by omega), (hc.block _ (Array.getElem?_eq_some_iff.1 h2).1 (fun hf => by omega)).trans h2, (hc.block _ (Array.getElem?_eq_some_iff.1 h3).1 (fun hf => by omega)).trans h3⟩)
      (fun b W' hb hB => ⟨h0 b W' hb (hB1.trans (hB.mono (by omega))), by have := hB.size; omega, (hB.block _ (by omega)).trans hL1, (hB.block _ (by omega)).trans hK1⟩) ?hY).mono ?fin
    case hY =>
      rintro b j W xs hj hb hbW ⟨hij, hsz, hr, hd⟩ hE
      refine ⟨fn, _, assign, body, hy W _ (hps j xs W hE) hr, roundIn_of_wpIn trivial ?_⟩
      refine wpIn_mono (hbody (z + 1) b j W xs hj hb hbW hij hE ⟨_, hr⟩) ?_
      intro e a1 W₁ hq
      cases e <;> try exact hq
      obtain ⟨hk, hbd⟩ := hq
      have hs1 := hk.size (by omega) hbW
      have hr1 := (hk (z + 1) (by omega) (by omega)).trans hr
      have hd1 := (hk z (by omega) (by omega)).trans hd
      have hbr := run_beginRound (P := P) hr1 (by rw [hrec])
      refine ⟨_, hbr, ?_⟩
      obtain ⟨W2, hW2⟩ : ∃ W2, W₁.putObj (z + 1) (.loop { rec .ready none with state := .busy }) = W2 := ⟨_, rfl⟩
      have hc2 : Chg (fun q => q = z + 1) W₁ W2 := by rw [← hW2]; exact chg_putObj _ rfl
      have hr2 : W2.heap[z + 1]? = some (.loop { rec .ready none with state := .busy }) := by rw [← hW2]; exact World.putObj_heap_same (Array.getElem?_eq_some_iff.1 hr1).1
      have hd2 := (hc2.block z (by omega) (by omega)).trans hd1
      rw [hW2]
      refine wpIn_mono (hbd W2 hc2) ?_
      have fin : ∀ (W' : World) (jump : Option Code), KBl z b W2 W' → ∃ W3, (Instr.endRound (z + 1) jump).run P W' = .ok (.bool jump.isNone) W3 ∧ Chg (fun q => z ≤ q ∧ q < b) W' W3 ∧ KBl (z + 2) b W W3 ∧ W3.heap[z + 1]? = some (.loop (rec (if jump.isNone then .ready else .done) jump)) ∧ W3.heap[z]? = some (.deferred (some [])) ∧ z + 2 ≤ W3.heap.size ∧ b ≤ W3.heap.size := by
        intro W' jump hk'
        have hr' := (hk' (z + 1) (by omega) (by omega)).trans hr2
        have hl' := (Array.getElem?_eq_some_iff.1 hr').1
        have hsz' : b ≤ W'.heap.size := hk'.size (by omega) (by have := hc2.size; omega)
        have hend := run_endRound (P := P) jump hr'
        have hcp := fun o => chg_putObj (W := W') (l := z + 1) (S := fun q => q = z + 1) o rfl
        refine ⟨_, hend, chg_putObj _ (by omega), ?_, ?_, ((hcp _).block z (by omega) (by omega)).trans ((hk' z (by omega) (by omega)).trans hd2), Nat.le_trans (by omega) (hcp _).size, Nat.le_trans hsz' (hcp _).size⟩
        · intro q g1 g2
          rw [show (W'.putObj (z + 1) _).heap[q]? = W'.heap[q]? from World.putObj_heap_other (by omega)]
          rw [hk' q (by omega) (by omega), hc2.block q (by omega) (by omega)]
          exact hk q (by omega) (by omega)
        simp only [hrec]
        exact World.putObj_heap_same hl'
      intro e a' W' hq
      cases e with
      | normal =>
        obtain ⟨hk', hi'⟩ := hq
        obtain ⟨W3, he3, hc3, hkn, hr3, hd3, hs3, hb3⟩ := fin W' none hk'
        exact ⟨_, W3, he3, .inl ⟨rfl, ⟨hI _ _ _ _ hi' hc3, hs3, hr3, hd3⟩, hkn, hb3⟩⟩
      | ret =>
        obtain ⟨hk', hi'⟩ := hq
        obtain ⟨W3, he3, hc3, hkn, hr3, hd3, hs3, hb3⟩ := fin W' (some .ret) hk'
        exact ⟨_, W3, he3, .inr ⟨rfl, ⟨.ret, hIx _ _ _ _ hi' hc3, hr3, hd3⟩, hkn, hb3⟩⟩
      | exit id =>
        obtain ⟨hk', hi'⟩ := hq
        obtain ⟨W3, he3, hc3, hkn, hr3, hd3, hs3, hb3⟩ := fin W' (some (.exit id)) hk'
        exact ⟨_, W3, he3, .inr ⟨rfl, ⟨.exit id, hIx _ _ _ _ hi' hc3, hr3, hd3⟩, hkn, hb3⟩⟩
      | goto t =>
        obtain ⟨hk', hi'⟩ := hq
        obtain ⟨W3, he3, hc3, hkn, hr3, hd3, hs3, hb3⟩ := fin W' (some (.goto t)) hk'
        exact ⟨_, W3, he3, .inr ⟨rfl, ⟨.goto t, hIx _ _ _ _ hi' hc3, hr3, hd3⟩, hkn, hb3⟩⟩
      | panic c => exact hq.elim
      | outgrown => exact hq.elim
    case fin =>
      rintro e W2 ⟨⟨v, rfl⟩, b, hb, (⟨hij, hs, hr, hd⟩ | ⟨c, hix, hr, hd⟩)⟩
      · refine ⟨none, _, by have := run_endLoop (P := P) hr (by rw [hrec]; simp); rw [hrec] at this; exact this, ?_⟩
        exact hdone b _ hb (hput _ _ _ _ hb hij) (((chg_putObj (S := fun q => q = z + 1) _ rfl).block z (by omega) (by omega)).trans hd)
      · refine ⟨some c, _, by have := run_endLoop (P := P) hr (by rw [hrec]; simp); rw [hrec] at this; exact this, ?_⟩
        have hlz := (Array.getElem?_eq_some_iff.1 hd).1
        exact hstop b c _ hb (hIx _ _ _ _ hix (chg_putObj _ (by omega))) (((chg_putObj (S := fun q => q = z + 1) _ rfl).block z hlz (by omega)).trans hd)
end Go.Proofs.Ytnfodgjihdoncaa
set_option linter.unusedVariables false
namespace Go.Proofs.Ytnfodgjihdoncaa
open Go.RowKit Go.Shelf
attribute [local go_sem] Oper.semAt_some
def fldR (M : MV) (r : SRow) : List UInt8 := fldB M (r.num : Nat) (r.typ : Nat) (r.slot : Nat)
/-- A message's bytes, if it may be. -/
def encB (M : MV) (L : List SRow) : List UInt8 := if (chkV M L).1 = 0 then L.flatMap (fldR M) else []
theorem wpListIn_append_none {F : Fence} {n : Nat} {P : Program} (w : World) {ops : Array Oper} {rest : List Oper} {o : Oper} {a : Act} {Q : Exit → Act → World → Prop} (hgd : o.guard = none) (s x : Operand) (t : TypeId)
    (ho : o.op = .call { callee := .builtin .append, args := #[s, x], argTypes := #[t, t] })
    (base : Nat) (e : TypeId) (i : TypeInfo) (size : Nat) (ht : P.underlying t = some (.slice e)) (hi : P.info? e = some i)
    (v : Value) (k : Nat) (xs : List Value) (hs : a.eval s = v) (hown : w.ownsRow base e size v k xs) (hx : a.eval x = .slice none 0 0)
    (h : wpListIn F n P ops Q rest (a.put o.dst v) w) : wpListIn F n P ops Q (o :: rest) a w := by
  refine wpListIn_plain hgd fun K hK' => ?_
  have hrun := run_append_owned_none (P := P) (w := w) base t o.type e i size ht hi v k xs hown
  unfold Oper.wpIn
  refine ⟨?_, ?_⟩
  · simp [Oper.about, ho, resolve, Target.leads, Sem.run_pure]
  · rw [Oper.semAt_plain F _ _ (by rw [ho]; intro c hc'; cases hc')]
    simp [execOp, ho, resolve, invoke, builtin, hs, hx, hrun, Result.andThen]
    exact hK' _ _ h
/-- append onto a row of the call's own, whatever slice the source is, within a fence -/
theorem wpListIn_append_sl {F : Fence} {n : Nat} {P : Program} (w : World) {ops : Array Oper} {rest : List Oper} {o : Oper} {a : Act} {Q : Exit → Act → World → Prop} (hgd : o.guard = none) (s x : Operand) (t : TypeId)
    (ho : o.op = .call { callee := .builtin .append, args := #[s, x], argTypes := #[t, t] })
    (base : Nat) (e : TypeId) (i : TypeInfo) (z : Value) (size bytes : Nat) (ht : P.underlying t = some (.slice e)) (hi : P.info? e = some i) (hz : i.zero = some z)
    (hsize : i.size = size) (hby : i.bytes = bytes) (hzs : z.cells.size = size) (hsz : 0 < size)
    (v : Value) (k : Nat) (xs : List Value) (hs : a.eval s = v) (hown : w.ownsRow base e size v k xs)
    (A : Option Addr) (m c : Nat) (news : List Value) (hx : a.eval x = .slice A m c) (hl : news.length = m * size) (hr : Rd w A news) (hn : A = none → c = 0) (h1 : ∀ u ∈ news, u.oneCell' = true)
    (h63 : k + m ≤ maxLen) (hbytes : (k + m) * bytes ≤ 140737488355328) (hbase : base ≤ w.heap.size)
    (h : ∀ v' w', w'.ownsRow base e size v' (k + m) (xs ++ news) → w.grownBy w' v.ownBlock → wpListIn F n P ops Q rest (a.put o.dst v') w') : wpListIn F n P ops Q (o :: rest) a w := by
  cases A with
  | none =>
    obtain rfl := hr.none_nil
    obtain rfl := hn rfl
    have hm : m = 0 := by
      have h0 : m * size = 0 := by simpa using hl.symm
      rcases Nat.mul_eq_zero.1 h0 with q | q <;> omega
    subst hm
    exact wpListIn_append_none w hgd s x t ho base e i size ht hi v k xs hs hown hx (h v w (by simpa using hown) ⟨rfl, rfl, rfl, Nat.le_refl _, fun _ _ _ => rfl⟩)
  | some ad => exact wpListIn_append_own w hgd s x t ho base e i z size bytes ht hi hz hsize hby hzs hsz v k xs hs hown ad m c news hx hl hr.addr h1 h63 hbytes hbase fun v' w' h2 h3 _ => h v' w' h2 h3
theorem own_kb {w w' : World} {B e sz n z b : Nat} {v : Value} {xs : List Value} (h : w.ownsRow B e sz v n xs) (hk : KBl z b w w') (hg : ∀ g, v.ownBlock = some g → z ≤ g ∧ g < b) : w'.ownsRow B e sz v n xs := by
  refine ⟨h.1, h.2.imp_right ?_⟩
  rintro ⟨g, cap, cur, rfl, hg1, hc1, r⟩
  have := hg g rfl
  exact ⟨g, cap, cur, rfl, hg1, (hk g this.1 this.2).trans hc1, r⟩
theorem own_sln {w : World} {B e sz n c : Nat} {A : Option Addr} {xs : List Value} (hsz : 0 < sz) (h : w.ownsRow B e sz (.slice A n c) n xs) : SlN w A n c sz xs := by
  obtain ⟨A', c', he, hs⟩ := SlN.of_own hsz h
  injection he with h1 h2 h3
  subst h1; subst h3
  exact hs
theorem eeach_in (m : Nat) (M : MV) (v : Int) (w : World) :
    CallsIn Fence.wide m Try.prog 52 #[mvV M, .int .i64 v] w fun e w' => e = .returned (.func (.func 79) #[] #[.pointer (some ⟨w.heap.size, 0, none⟩), .pointer (some ⟨w.heap.size + 1, 0, none⟩)]) ∧ w' = (w.alloc (.cells (mvA M) 27)).alloc (.cells #[.int .i64 v] 3) := by
  unfold mvV mvA
  generalize M.l.length = len
  refine callsIn_of_wp Try.func52 rfl trivial ?_ rfl
  simp only [Try.ntmps52, List.size_toArray, List.length_cons, List.length_nil, Nat.reduceAdd, Nat.reduceSub, Array.replicate_succ, Array.replicate_zero, List.push_toArray, List.append_toArray, List.nil_append, List.cons_append]
  gi_wp2
  go_ret
  exact ⟨rfl, rfl⟩
/-- What a round is handed. -/
def EArg (M : MV) (L : List SRow) (j : Nat) (xs : Array Value) (W : World) : Prop := ∃ r A c, L[j]? = some r ∧ xs = #[.slice A (fldR M r).length c] ∧ Sl W A c ((fldR M r).map bv)
set_option maxRecDepth 100000 in
set_option maxHeartbeats 4000000 in
theorem eeach1_in (m : Nat) (hm : 6 ≤ m) (M : MV) (v : Int) (l Bm Bv B0 : Nat) (hsm : MvSm M) (hv1 : -9223372036854775808 ≤ v) (hv2 : v ≤ 9223372036854775807) (J : Nat → Nat → World → Prop) (Jx : Nat → World → Prop) (W : World) (hB0 : W.heap.size = B0)
    (hJc : ∀ b j W, J b j W → Blk W Bm 27 (mvA M) ∧ Blk W Bv 3 #[.int .i64 v] ∧ MvOk W M) (h0 : ∀ b W', B0 ≤ b → Below B0 W W' → J b 0 W') (hJn : ∀ b j W W', B0 ≤ b → J b j W → Chg (fun q => B0 ≤ q ∧ q < b) W W' → J b j W')
    (hY : ∀ b j W xs, j < (ofL (M.k : Int) v).length → B0 ≤ b → b ≤ W.heap.size → J b j W → EArg M (ofL (M.k : Int) v) j xs W → YieldAt Fence.wide (m - 1) Try.prog l xs W fun e W' => (e = .returned (.bool true) ∧ J b (j + 1) W' ∧ KBl B0 b W W' ∧ b ≤ W'.heap.size) ∨ (e = .returned (.bool false) ∧ Jx b W' ∧ KBl B0 b W W' ∧ b ≤ W'.heap.size)) :
    CallsIn Fence.wide m Try.prog 79 #[.func (.yield l) #[] #[], .pointer (some ⟨Bm, 0, none⟩), .pointer (some ⟨Bv, 0, none⟩)] W fun e W' => (∃ v, e = .returned v) ∧ ∃ b, B0 ≤ b ∧ (J b (ofL (M.k : Int) v).length W' ∨ Jx b W') := by
  have h1 : 1 ≤ m := by omega
  obtain ⟨hbm, hbv, hok⟩ := hJc _ _ _ (h0 B0 W (Nat.le_refl _) ⟨rfl, rfl, rfl, Nat.le_refl _, fun _ _ => rfl⟩)
  have hsof := sof2_in (m - 1) (by omega) (M.k : Int) v W hv1 hv2
  have hq40 := ofL_le40 (M.k : Int) v
  have hmem := fun r (h : r ∈ ofL (M.k : Int) v) => row_ok (ofL_mem _ _ h)
  generalize ofL (M.k : Int) v = L at *
  obtain ⟨nL, hnL⟩ : ∃ n, L.length = n := ⟨_, rfl⟩
  rw [hnL] at hsof hq40 hY ⊢
  have hfd := fun (r : SRow) (hr : r ∈ L) W' (hW : MvOk W' M) => field_any M (r.num : Nat) (r.typ : Nat) (r.slot : Nat) W' hW hsm (by omega) (by have := hmem r hr; omega)
  have HNL := hid hnL
  have HFD := hid hfd
  have HY := hid hY
  have HJC := hid hJc
  have H0 := hid h0
  have HJN := hid hJn
  have HZ := hid hB0
  clear hnL hfd hY hJc h0 hJn hB0 hmem hok
  have c0 := hbm.cell 0
  have d0 := hbv.cell 0
  unfold mvV at HFD
  unfold mvA at c0 HFD HJC
  generalize M.l.length = len at *
  simp only [List.getElem?_toArray, List.getElem?_cons_zero] at c0 d0
  have HBM := hid hbm
  have HBV := hid hbv
  have HSOF := hid hsof
  clear hbm hbv hsof
  refine callsIn_of_wp Try.func79 rfl trivial ?_ rfl
  simp only [Try.ntmps79, List.size_toArray, List.length_cons, List.length_nil, Nat.reduceAdd, Nat.reduceSub, Array.replicate_succ, Array.replicate_zero, List.push_toArray, List.append_toArray, List.nil_append, List.cons_append]
  gi_wp2_with (refine ⟨trivial, ?_⟩; gi_at_call 74; refine HSOF.out.mono ?_; rintro e w1 ⟨vv, rfl, ho, hb1⟩; obtain ⟨A, c, rfl⟩ := row_slice' ho)
  have hb : ∃ b, w1.heap.size = b := ⟨_, rfl⟩
  obtain ⟨b, hb⟩ := hb
  have hbB : B0 ≤ b := by have := hb1.size; have := HZ.out; omega
  have hj1 := H0.out b w1 hbB (by rw [← HZ.out]; exact hb1)
  have ho1 := own_mono ho (show B0 ≤ W.heap.size + 1 by have := HZ.out; omega)
  have hbk : ∀ g, (Value.slice A nL c).ownBlock = some g → B0 ≤ g ∧ g < b := fun g hg => by have := ho1.lt g hg; omega
  have hbw : b ≤ w1.heap.size := by omega
  have HBK := hid hbk
  have HJ1 := hid hj1
  have HO1 := hid ho1
  clear hbk hj1 ho1 ho hb hb1 c0 d0
  gi_loopw [17] (fun i wr => ∃ j : Nat, j ≤ nL ∧ i = .int .i64 (j : Int) ∧ J b j wr ∧ wr.ownsRow B0 93 3 (.slice A nL c) nL (L.flatMap specC) ∧ b ≤ wr.heap.size) (fun i _ => nL - (intOf i).toNat)
  case atStart => exact ⟨0, by omega, rfl, HJ1.out, HO1.out, hbw⟩
  case round =>
    obtain ⟨j, hj, rfl, hjw, ho, hbw⟩ := hrel
    by_cases hlt : j < nL
    · have hjl : j < L.length := by have := HNL.out; omega
      have hn0' : (L.flatMap specC)[j * 3 + 0]? = _ := flatMap_get specC 3 L j 0 hjl (fun _ _ => rfl) (by omega)
      have hn1' : (L.flatMap specC)[j * 3 + 1]? = _ := flatMap_get specC 3 L j 1 hjl (fun _ _ => rfl) (by omega)
      have hn2' : (L.flatMap specC)[j * 3 + 2]? = _ := flatMap_get specC 3 L j 2 hjl (fun _ _ => rfl) (by omega)
      have hs1 := own_sln (by omega) ho
      obtain ⟨q, off, hA, hqw, t0⟩ := hs1.rd _ _ hn0'
      subst hA
      have t1 := hs1.rd.addr _ _ hn1'
      have t2 := hs1.rd.addr _ _ hn2'
      rw [addr_add] at t1 t2
      simp only [Nat.add_zero, ← Nat.add_assoc] at t0 t1 t2
      have hji : (j : Int) < (nL : Int) := by omega
      have hj0 : (0 : Int) ≤ (j : Int) := by omega
      have hget : L[j]? = some L[j] := List.getElem?_eq_getElem hjl
      have hfd := HFD.out L[j] (List.getElem_mem hjl)
      have hbx : fldB M (L[j].num : Nat) (L[j].typ : Nat) (L[j].slot : Nat) = fldR M L[j] := rfl
      have hcc : nL ≤ c := hs1.cap
      clear hn0' hn1' hn2' hs1
      rw [hbx] at hfd
      clear hbx
      generalize L[j] = r at *
      obtain ⟨rk, si, nu, ty, sl⟩ := r
      simp only at t0 t1 t2 hfd
      obtain ⟨fb, hfb⟩ : ∃ fb, fldR M ⟨rk, si, nu, ty, sl⟩ = fb := ⟨_, rfl⟩
      rw [hfb] at hfd
      obtain ⟨fl, hfl⟩ : ∃ fl, fb.length = fl := ⟨_, rfl⟩
      rw [hfl] at hfd
      have hca : Chg (fun _ => False) wr (wr.alloc (.cells #[.int .i64 (nu : Int), .int .i64 (ty : Int), .int .i64 (sl : Int)] 93)) := (Chg.refl _ wr).alloc _
      have hja := HJN.out b j wr _ hbB hjw (hca.mono fun _ _ h => h.elim)
      have hoa := own_chgS ho hca (fun g _ h => h)
      obtain ⟨hkm, -, hka⟩ := HJC.out _ _ _ hja
      have hks := Blk.new wr 93 #[.int .i64 (nu : Int), .int .i64 (ty : Int), .int .i64 (sl : Int)]
      have HCALL := hid (hfd _ hka)
      have HGET := hid hget
      have HFB := hid hfb
      have HFL := hid hfl
      have HJA := hid hja
      have HOA := hid hoa
      clear hfd hget hfb hfl hja hoa hka hjw ho hca
      obtain ⟨hkm0, -, -⟩ := HJC.out _ _ _ HJA.out
      have hbwa : b ≤ (wr.alloc (.cells #[.int .i64 (nu : Int), .int .i64 (ty : Int), .int .i64 (sl : Int)] 93)).heap.size := by rw [World.size_alloc]; omega
      generalize hwa : wr.alloc (.cells #[.int .i64 (nu : Int), .int .i64 (ty : Int), .int .i64 (sl : Int)] 93) = wa at *
      have c0 := hkm.cell 0
      have c1 := hkm.cell 1
      have c2 := hkm.cell 2
      have c3 := hkm.cell 3
      have c4 := hkm.cell 4
      have c5 := hkm.cell 5
      have c6 := hkm.cell 6
      have c7 := hkm.cell 7
      have c8 := hkm.cell 8
      have c9 := hkm.cell 9
      have e0 := hks.cell 0
      have e1 := hks.cell 1
      have e2 := hks.cell 2
      simp only [List.getElem?_toArray, List.getElem?_cons_zero, List.getElem?_cons_succ] at c0 c1 c2 c3 c4 c5 c6 c7 c8 c9 e0 e1 e2
      clear hkm hks hkm0
      gi_wp2_with (refine ⟨trivial, ?_⟩; gi_at_call 80; refine ((callsIn_wide (n := m - 1)).2 HCALL.out).mono ?_; rintro e w3 ⟨A3, c3, rfl, hs3, hb3⟩; have hj3 := HJN.out b j _ w3 hbB HJA.out (Chg.of_new hb3); have ho3 := own_chgS (S := fun _ => False) HOA.out (Chg.of_new hb3) (fun g _ h => h); have hz3 : b ≤ w3.heap.size := Nat.le_trans hbwa hb3.size; obtain ⟨fn, tmps, assign, body, hy, hR⟩ := HY.out b j w3 #[.slice A3 fl c3] hlt hbB hz3 hj3 ⟨_, A3, c3, HGET.out, by rw [HFB.out, HFL.out], by rw [HFB.out]; exact hs3⟩; have HO3 := hid ho3; clear hs3 hb3 hj3 ho3)
      refine hR.mono ?_
      rintro e w6 (⟨rfl, hj6, hk6, hb6⟩ | ⟨rfl, hx6, hk6, hb6⟩)
      · have ho6 := own_kb HO3.out hk6 HBK.out
        have HJ6 := hid hj6
        have HO6 := hid ho6
        clear hj6 hk6 ho6
        gi_wp2
        go_roundw
        case rel => exact ⟨j + 1, by omega, by go_num, HJ6.out, HO6.out, hb6⟩
        case measure => simp [intOf]; omega
      · have HX6 := hid hx6
        clear hk6 hx6
        gi_wp2
        first | exact bodyPost_ret (results_none rfl _ _ _) rfl ⟨⟨_, rfl⟩, b, hbB, .inr HX6.out⟩ | exact bodyPost_end (results_none rfl _ _ _) rfl ⟨⟨_, rfl⟩, b, hbB, .inr HX6.out⟩ | exact ⟨⟨_, rfl⟩, b, hbB, .inr HX6.out⟩ | trace_state
    · obtain rfl : j = nL := by omega
      have HJ6 := hid hjw
      clear hjw ho
      gi_wp2
      first | exact bodyPost_ret (results_none rfl _ _ _) rfl ⟨⟨_, rfl⟩, b, hbB, .inl HJ6.out⟩ | exact bodyPost_end (results_none rfl _ _ _) rfl ⟨⟨_, rfl⟩, b, hbB, .inl HJ6.out⟩ | exact ⟨⟨_, rfl⟩, b, hbB, .inl HJ6.out⟩ | trace_state
end Go.Proofs.Ytnfodgjihdoncaa
set_option linter.unusedVariables false
namespace Go.Proofs.Ytnfodgjihdoncaa
open Go.RowKit Go.Shelf
attribute [local go_sem] Oper.semAt_some
theorem fm_len {α : Type} (f : α → List UInt8) (k : Nat) : ∀ l : List α, (∀ x ∈ l, (f x).length ≤ k) → (l.flatMap f).length ≤ k * l.length
  | [], _ => by simp
  | x :: l, h => by
    have h1 := fm_len f k l fun y hy => h y (List.mem_cons_of_mem _ hy)
    have h2 := h x (List.mem_cons_self ..)
    rw [List.flatMap_cons, List.length_append, List.length_cons, Nat.mul_add]
    omega
theorem partW_n {m : MV} {num t i : Int} (hn : ∀ i, m.num i ≤ 18446744073709551615) {x : Int × Int × Nat × List UInt8} (hx : x ∈ partW m num t i) : x.2.2.1 ≤ 18446744073709551615 := by
  unfold partW at hx
  split at hx
  · obtain ⟨s, hs, rfl⟩ := List.mem_map.1 hx
    exact Nat.zero_le _
  split at hx
  · simp only [List.mem_singleton] at hx
    subst hx
    exact Nat.zero_le _
  split at hx
  · simp only [List.mem_singleton] at hx
    subst hx
    have hr := w64_range (m.num i : Nat)
    have hz := zig_range _ hr.1 hr.2
    show (zig (wrap64 (m.num i : Nat))).toNat ≤ _
    omega
  · simp only [List.mem_singleton] at hx
    subst hx
    exact hn i
theorem fld_len {m : MV} {num t i : Int} (hn : ∀ i, m.num i ≤ 18446744073709551615) (h : MvSm m) : (fldB m num t i).length ≤ 810000 := by
  unfold fldB
  cases hd : dflB m t i with
  | true => simp
  | false =>
    have ht : 1 ≤ t ∧ t ≤ 10 := by rcases dfl_cases hd with ⟨h, -⟩ | h | ⟨h, -⟩ | h <;> omega
    rw [if_neg (by simp)]
    split
    · have hp := partW_facts (num := num) (t := t) (i := i) h
      have := fm_len wB 8100 (partW m num t i) (fun x hx => by
        obtain ⟨-, hw⟩ := partW_in ht.1 ht.2 h hx
        exact pBF_len8 ⟨x.1, x.2.1, x.2.2.1, ⟨none, 0, x.2.2.2⟩, 0⟩ (partW_n hn hx) (by dsimp only; omega) (by dsimp only; omega) (hp.2 x hx))
      have h2 : 8100 * (partW m num t i).length ≤ 8100 * 100 := Nat.mul_le_mul_left _ hp.1
      omega
    · simp
/-- What Bytes keeps between two rounds. -/
structure EJ (s q b : Nat) (w : World) (M : MV) (v : Int) (bs : List UInt8) (W : World) : Prop where
  rf : Blk W (s + 1) 33 #[.int .i64 0, .int .i64 0]
  ro : ∃ vv, Blk W (q + 1) 30 #[vv] ∧ W.ownsRow b 5 1 vv bs.length (bs.map bv)
  rm : Blk W (q + 2) 27 (mvA M)
  rv : Blk W (q + 3) 3 #[.int .i64 v]
  bel : Below s w W
theorem EJ.keep {s q b : Nat} {w W W' : World} {M : MV} {v : Int} {bs : List UInt8} {S : Nat → Prop} (h : EJ s q b w M v bs W) (hsq : s + 2 ≤ q) (hqb : q + 6 ≤ b) (hc : Chg S W W') (hS : ∀ x, S x → q + 4 ≤ x ∧ x < b) : EJ s q b w M v bs W' := by
  have g := h.rv.lt
  obtain ⟨vv, h1, h2⟩ := h.ro
  exact ⟨hc.blk h.rf (fun hx => by have := hS _ hx; omega), ⟨vv, hc.blk h1 (fun hx => by have := hS _ hx; omega), own_chgS h2 hc (fun g hg hk => by have := (h2.lt g hg).1; have := hS _ hk; omega)⟩, hc.blk h.rm (fun hx => by have := hS _ hx; omega), hc.blk h.rv (fun hx => by have := hS _ hx; omega), h.bel.trans (hc.below (B := s) (fun x hx => by have := hS x hx; omega) (by omega))⟩
theorem EJ.step {s q b : Nat} {w W w1 : World} {M : MV} {v : Int} {bs new : List UInt8} {vv v' : Value} (h : EJ s q b w M v bs W) (hsq : s + 2 ≤ q) (hqb : q + 6 ≤ b) (hv : Blk W (q + 1) 30 #[vv]) (ho : W.ownsRow b 5 1 vv bs.length (bs.map bv)) (hg : W.grownBy w1 vv.ownBlock)
    (ho' : w1.ownsRow b 5 1 v' (bs.length + new.length) (bs.map bv ++ new.map bv)) : EJ s q b w M v (bs ++ new) (w1.setCell ⟨q + 1, 0, none⟩ v') ∧ Chg (fun x => x = q + 1 ∨ b ≤ x) W (w1.setCell ⟨q + 1, 0, none⟩ v') := by
  have hb1 : Chg (fun x => b ≤ x) W w1 := Chg.of_grown hg fun g e => (ho.lt g e).1
  have hc : Chg (fun x => x = q + 1 ∨ b ≤ x) W (w1.setCell ⟨q + 1, 0, none⟩ v') := (hb1.mono fun x _ hx => .inr hx).set_ (.inl (.inl rfl)) 0 v'
  have hv1 : Blk w1 (q + 1) 30 #[vv] := hb1.blk hv (by omega)
  have hv2 := hv1.set_ 0 v'
  have g := h.rv.lt
  refine ⟨⟨hc.blk h.rf (by omega), ⟨v', by simpa using hv2, ?_⟩, hc.blk h.rm (by omega), hc.blk h.rv (by omega), h.bel.trans (hc.below (B := s) (fun x hx => by omega) (by omega))⟩, hc⟩
  have h2 := own_chgS ho' ((Chg.refl (fun x => x = q + 1) w1).set_ (.inl rfl) 0 v') (fun g hg' hk => by have := (ho'.lt g hg').1; omega)
  rw [List.length_append, List.map_append]
  exact h2
def BytesR (w : World) (M : MV) (L : List SRow) (e : Ending) (W' : World) : Prop := ∃ vv, e = .returned (.tuple #[vv, .agg #[.int .i64 (chkV M L).1, .int .i64 (chkV M L).2]]) ∧ W'.ownsRow w.heap.size 5 1 vv (encB M L).length ((encB M L).map bv) ∧ Below w.heap.size w W'
theorem take_fm (M : MV) (L : List SRow) (j : Nat) (r : SRow) (h : L[j]? = some r) : (L.take (j + 1)).flatMap (fldR M) = (L.take j).flatMap (fldR M) ++ fldR M r := by
  obtain ⟨hj, hr⟩ := List.getElem?_eq_some_iff.1 h
  rw [List.take_succ_eq_append_getElem hj, List.flatMap_append, hr]
  simp
set_option maxRecDepth 100000 in
set_option maxHeartbeats 4000000 in
theorem ebytes_in (m : Nat) (hm : 8 ≤ m) (M : MV) (v : Int) (w : World) (hok : MvOk w M) (hsm : MvSm M) (hv1 : -9223372036854775808 ≤ v) (hv2 : v ≤ 9223372036854775807) :
    CallsIn Fence.wide m Try.prog 16 #[mvV M, .int .i64 v] w (BytesR w M (ofL (M.k : Int) v)) := by
  have h1 : 1 ≤ m := by omega
  obtain ⟨i5, hi5, hi50, hi51, hi52⟩ := info_parts Try.info5
  have hchk := fun W (hW : Below w.heap.size w W) => vcheck_any M v W (hok.below hW) hv1 hv2
  have heach := fun W => eeach_in (m - 1) M v W
  have heach1 := fun l Bm Bv B0 => eeach1_in (m - 1) (by omega) M v l Bm Bv B0 hsm hv1 hv2
  have hoks := fun W (hW : Below w.heap.size w W) => hok.below hW
  have hfl : ∀ r, (fldR M r).length ≤ 810000 := fun r => fld_len hok.n hsm
  have hq40 := ofL_le40 (M.k : Int) v
  have hz0 := fun h => chkV_zero (m := M) (L := ofL (M.k : Int) v) h
  have hBR : BytesR w M (ofL (M.k : Int) v) = fun e W' => ∃ vv, e = .returned (.tuple #[vv, .agg #[.int .i64 (chkV M (ofL (M.k : Int) v)).1, .int .i64 (chkV M (ofL (M.k : Int) v)).2]]) ∧ W'.ownsRow w.heap.size 5 1 vv (encB M (ofL (M.k : Int) v)).length ((encB M (ofL (M.k : Int) v)).map bv) ∧ Below w.heap.size w W' := rfl
  have hE : encB M (ofL (M.k : Int) v) = if (chkV M (ofL (M.k : Int) v)).1 = 0 then (ofL (M.k : Int) v).flatMap (fldR M) else [] := rfl
  generalize BytesR w M (ofL (M.k : Int) v) = R at *
  generalize encB M (ofL (M.k : Int) v) = eb at *
  generalize ofL (M.k : Int) v = L at *
  have hz1 : (chkV M L).1 = 0 → (chkV M L).2 = 0 := fun h => by rw [(hz0 h).1]
  unfold FltOf at hchk
  generalize (chkV M L).1 = E1 at *
  generalize (chkV M L).2 = E2 at *
  have HCHK := hid hchk
  have HEACH := hid heach
  have HEACH1 := hid heach1
  have HOKS := hid hoks
  have HFL := hid hfl
  have HZ1 := hid hz1
  have HBR := hid hBR
  have HE := hid hE
  clear hchk heach heach1 hoks hfl hz0 hz1 hBR hE hok
  have hmv : mvV M = .agg #[.int .u8 (M.k : Int), .int .u64 (M.n0 : Int), .int .u64 (M.n1 : Int), .int .u64 (M.n2 : Int), .int .u64 (M.n3 : Int), .int .u64 (M.n4 : Int), .int .u64 (M.n5 : Int), .string M.s0, .string M.s1, .slice M.A M.l.length M.c] := rfl
  have hma : mvA M = #[.int .u8 (M.k : Int), .int .u64 (M.n0 : Int), .int .u64 (M.n1 : Int), .int .u64 (M.n2 : Int), .int .u64 (M.n3 : Int), .int .u64 (M.n4 : Int), .int .u64 (M.n5 : Int), .string M.s0, .string M.s1, .slice M.A M.l.length M.c] := rfl
  rw [hmv] at HCHK HEACH ⊢
  rw [hma] at HEACH
  have HMA := hid hma
  clear hmv hma
  generalize M.l.length = len at *
  obtain ⟨s, hsz⟩ : ∃ s, w.heap.size = s := ⟨_, rfl⟩
  rw [hsz] at HCHK HOKS HBR
  have HSZ := hid hsz
  obtain ⟨nL, hnL⟩ : ∃ n, L.length = n := ⟨_, rfl⟩
  rw [hnL] at HEACH1 hq40
  have HNL := hid hnL
  clear hnL
  -- the first two boxes
  have hz : ((w.alloc (.cells #[.int .u8 (M.k : Int), .int .u64 (M.n0 : Int), .int .u64 (M.n1 : Int), .int .u64 (M.n2 : Int), .int .u64 (M.n3 : Int), .int .u64 (M.n4 : Int), .int .u64 (M.n5 : Int), .string M.s0, .string M.s1, .slice M.A len M.c] 27)).alloc (.cells #[.int .i64 0, .int .i64 0] 33)).heap.size = s + 2 := by simp [hsz]
  have hb0 := bw_a (bw_a (Below.refl w.heap.size w) (.cells #[.int .u8 (M.k : Int), .int .u64 (M.n0 : Int), .int .u64 (M.n1 : Int), .int .u64 (M.n2 : Int), .int .u64 (M.n3 : Int), .int .u64 (M.n4 : Int), .int .u64 (M.n5 : Int), .string M.s0, .string M.s1, .slice M.A len M.c] 27)) (.cells #[.int .i64 0, .int .i64 0] 33)
  have hk0 := (Blk.new w 27 #[.int .u8 (M.k : Int), .int .u64 (M.n0 : Int), .int .u64 (M.n1 : Int), .int .u64 (M.n2 : Int), .int .u64 (M.n3 : Int), .int .u64 (M.n4 : Int), .int .u64 (M.n5 : Int), .string M.s0, .string M.s1, .slice M.A len M.c]).alloc (.cells #[.int .i64 0, .int .i64 0] 33)
  have hk1 := Blk.new (w.alloc (.cells #[.int .u8 (M.k : Int), .int .u64 (M.n0 : Int), .int .u64 (M.n1 : Int), .int .u64 (M.n2 : Int), .int .u64 (M.n3 : Int), .int .u64 (M.n4 : Int), .int .u64 (M.n5 : Int), .string M.s0, .string M.s1, .slice M.A len M.c] 27)) 33 #[.int .i64 0, .int .i64 0]
  rw [World.size_alloc] at hk1
  rw [hsz] at hb0 hk0 hk1
  refine callsIn_of_wp_marks Try.func16 rfl trivial ?_ rfl
  simp only [Try.ntmps16, List.size_toArray, List.length_cons, List.length_nil, Nat.reduceAdd, Nat.reduceSub, Array.replicate_succ, Array.replicate_zero, List.push_toArray, List.append_toArray, List.nil_append, List.cons_append]
  have hmx : Try.prog.follows .mixedOrders = true := by kernel_rfl
  by_cases he : E1 = 0
  · have h2 := HZ1.out he
    have h3 := HE.out
    rw [if_pos he] at h3
    subst he
    subst h2
    have HE2 := hid h3
    clear h3 HZ1 HE
    gi_wp2_with (first | (refine ⟨trivial, ?_⟩; gi_at_call 51; refine ((callsIn_wide (n := m - 1)).2 (HCHK.out _ hb0)).mono ?_; rintro e w1 ⟨rfl, hb1⟩; have hk0 := hk0.below hb1 (by omega); have hk1 := hk1.below hb1 (by omega); have hB1 := hb0.trans (hb1.mono (by omega)); have hw1 : s + 2 ≤ w1.heap.size := (by have := hb1.size; omega); have hl0 : s < w1.heap.size := (by omega); have hl1 : s < w1.heap.size + 1 := (by omega); have hl2 : s < w1.heap.size + 1 + 1 := (by omega); have c0 := hk0.cell 0; have c1 := hk0.cell 1; have c2 := hk0.cell 2; have c3 := hk0.cell 3; have c4 := hk0.cell 4; have c5 := hk0.cell 5; have c6 := hk0.cell 6; have c7 := hk0.cell 7; have c8 := hk0.cell 8; have c9 := hk0.cell 9; have d0 := hk1.cell 0; have d1 := hk1.cell 1; have e0 := hk1.frozen 0; have e1 := hk1.frozen 1; simp only [List.getElem?_toArray, List.getElem?_cons_zero, List.getElem?_cons_succ] at c0 c1 c2 c3 c4 c5 c6 c7 c8 c9 d0 d1) | (refine ⟨trivial, ?_⟩; gi_at_call 52; refine (HEACH.out _).mono ?_; rintro e w' ⟨rfl, rfl⟩))
    obtain ⟨q, hq⟩ : ∃ q, w1.heap.size = q := ⟨_, rfl⟩
    obtain ⟨Wa, hWa⟩ : ∃ Wa, (((w1.alloc (.cells #[.int .i64 0, .int .i64 0] 33)).alloc (.cells #[.slice none 0 0] 30)).alloc (.cells #[.int .u8 (M.k : Int), .int .u64 (M.n0 : Int), .int .u64 (M.n1 : Int), .int .u64 (M.n2 : Int), .int .u64 (M.n3 : Int), .int .u64 (M.n4 : Int), .int .u64 (M.n5 : Int), .string M.s0, .string M.s1, .slice M.A len M.c] 27)).alloc (.cells #[.int .i64 v] 3) = Wa := ⟨_, rfl⟩
    have hza : Wa.heap.size = q + 4 := by rw [← hWa]; simp [hq]
    have hba : Below q w1 Wa := by rw [← hWa, ← hq]; exact bw_a (bw_a (bw_a (bw_a (Below.refl _ w1) _) _) _) _
    have hr1 : Blk Wa (q + 1) 30 #[.slice none 0 0] := by
      have h := ((Blk.new (w1.alloc (.cells #[.int .i64 0, .int .i64 0] 33)) 30 #[.slice none 0 0]).alloc (.cells #[.int .u8 (M.k : Int), .int .u64 (M.n0 : Int), .int .u64 (M.n1 : Int), .int .u64 (M.n2 : Int), .int .u64 (M.n3 : Int), .int .u64 (M.n4 : Int), .int .u64 (M.n5 : Int), .string M.s0, .string M.s1, .slice M.A len M.c] 27)).alloc (.cells #[.int .i64 v] 3)
      rw [hWa, World.size_alloc, hq] at h; exact h
    have hr2 : Blk Wa (q + 2) 27 (mvA M) := by
      have h := (Blk.new ((w1.alloc (.cells #[.int .i64 0, .int .i64 0] 33)).alloc (.cells #[.slice none 0 0] 30)) 27 #[.int .u8 (M.k : Int), .int .u64 (M.n0 : Int), .int .u64 (M.n1 : Int), .int .u64 (M.n2 : Int), .int .u64 (M.n3 : Int), .int .u64 (M.n4 : Int), .int .u64 (M.n5 : Int), .string M.s0, .string M.s1, .slice M.A len M.c]).alloc (.cells #[.int .i64 v] 3)
      rw [hWa, World.size_alloc, World.size_alloc, hq] at h; rw [HMA.out]; exact h
    have hr3 : Blk Wa (q + 3) 3 #[.int .i64 v] := by
      have h := Blk.new (((w1.alloc (.cells #[.int .i64 0, .int .i64 0] 33)).alloc (.cells #[.slice none 0 0] 30)).alloc (.cells #[.int .u8 (M.k : Int), .int .u64 (M.n0 : Int), .int .u64 (M.n1 : Int), .int .u64 (M.n2 : Int), .int .u64 (M.n3 : Int), .int .u64 (M.n4 : Int), .int .u64 (M.n5 : Int), .string M.s0, .string M.s1, .slice M.A len M.c] 27)) 3 #[.int .i64 v]
      rw [hWa, World.size_alloc, World.size_alloc, World.size_alloc, hq] at h; exact h
    have hsq : s + 2 ≤ q := by omega
    have hj0 : ∀ b W', q + 6 ≤ b → Below (q + 4) Wa W' → EJ s q b w M v [] W' := fun b W' hb hB => by
      have hB2 := hba.trans (hB.mono (by omega))
      exact ⟨hk1.below hB2 (by omega), ⟨_, hr1.below hB (by omega), World.ownsRow_nil _ _ _ _⟩, hr2.below hB (by omega), hr3.below hB (by omega), hB1.trans (hB2.mono (by omega))⟩
    rw [hWa, hq]
    have HJ0 := hid hj0
    have HHQ := hid hq
    clear hWa hr1 hr2 hr3 hba hj0 hk0 hk1 hB1 hb1 c0 c1 c2 c3 c4 c5 c6 c7 c8 c9 d0 d1 e0 e1 hw1 hq
    refine range_b m (by omega) (q + 4) hza (gf := 79) (lb := #[.pointer (some ⟨q + 1 + 1, 0, none⟩), .pointer (some ⟨q + 1 + 1 + 1, 0, none⟩)]) rfl (enters_of Try.func79 (by kernel_rfl) rfl) nL (EArg M L) ?_
      (fun b j W' => q + 6 ≤ b ∧ EJ s q b w M v ((L.take j).flatMap (fldR M)) W') (fun b c W' => False) ?_ ?_ ?_ ?_ ?_ ?_ ?_
    · rintro j xs W ⟨r, A, c, -, rfl, -⟩
      rfl
    · rintro b j W1 W2 ⟨hb, a1⟩ hc
      exact ⟨hb, a1.keep hsq hb hc (fun x hx => by omega)⟩
    · rintro b c W1 W2 h _
      exact h.elim
    · intro b W' hb hB
      exact ⟨by omega, HJ0.out b W' (by omega) hB⟩
    · intro l2 J2 Jx2 W1 hw1 hB1 hJI hJn2 hJs hJ0 hy
      exact HEACH1.out l2 (q + 1 + 1) (q + 1 + 1 + 1) (q + 4 + 2) J2 Jx2 W1 hw1 (fun b j W h => by obtain ⟨⟨hb, h1⟩, h2⟩ := hJI b j W h; exact ⟨h1.rm, h1.rv, HOKS.out _ h1.bel⟩) hJ0 hJn2 hy
    · rintro l2 b j W1 xs hj hb hbW ⟨hb6, a1⟩ ⟨r, A, c, hr, rfl, hs⟩ hlo
      have htk := take_fm M L j r hr
      have hfl := HFL.out r
      have hbl : ((L.take j).flatMap (fldR M)).length ≤ 810000 * 40 := by
        have h1 := fm_len (fldR M) 810000 (L.take j) (fun x _ => HFL.out x)
        have h2 : (L.take j).length ≤ 40 := by rw [List.length_take]; have := HNL.out; omega
        have h3 : 810000 * (L.take j).length ≤ 810000 * 40 := Nat.mul_le_mul_left _ h2
        omega
      generalize (L.take j).flatMap (fldR M) = bs at *
      generalize fldR M r = fb at *
      obtain ⟨fl, hfle⟩ : ∃ fl, fb.length = fl := ⟨_, rfl⟩
      obtain ⟨bl, hble⟩ : ∃ bl, bs.length = bl := ⟨_, rfl⟩
      rw [hfle] at hfl ⊢
      rw [hble] at hbl
      have HTK := hid htk
      have HFLE := hid hfle
      have HBLE := hid hble
      clear htk hfle hble hr
      gi_wp2
      refine ⟨KBl.refl _ _ _, fun W2 hc2 => ?_⟩
      have hj2 := a1.keep hsq hb6 hc2 (fun x hx => by omega)
      have hs2 := hs.loop hlo hc2
      have hbW2 : b ≤ W2.heap.size := Nat.le_trans hbW hc2.size
      obtain ⟨vv, hv, ho⟩ := hj2.ro
      have c0 := hv.cell 0
      have f0 := hv.frozen 0
      simp only [List.getElem?_toArray, List.getElem?_cons_zero] at c0
      have HJ := hid hj2
      have HS := hid hs2
      have HV := hid hv
      rw [HBLE.out] at ho
      have HO := hid ho
      clear hj2 hs2 hv ho a1 hs hc2 hlo
      gi_wp2_with (gi_at_builtin; refine wpListIn_append_sl _ rfl _ _ 30 rfl b 5 i5 (.int .u8 0) 1 1 Try.underlying30 hi5 hi50 hi51 hi52 rfl (by decide) vv bl (bs.map bv) rfl HO.out A fl c (fb.map bv) rfl (by rw [List.length_map, HFLE.out]; omega) HS.out.rd HS.out.nil0 (bv_one _) (by simp only [maxLen]; omega) (by omega) (by omega) ?_; intro v' w3 hown' hgrow; obtain ⟨A', c', rfl⟩ := row_slice' hown'; have hst := EJ.step (new := fb) HJ.out hsq hb6 HV.out (by rw [HBLE.out]; exact HO.out) hgrow (by rw [HBLE.out, HFLE.out]; exact hown'); have hg1 : some (q + 1) ≠ vv.ownBlock := (fun e => by have := (HO.out.lt _ e.symm).1; omega); have hw1 := (hgrow.block (q + 1) HV.out.lt hg1).trans HV.out; have hc1 := Blk.cell hw1 0; have hf1 := Blk.frozen hw1 0; simp only [List.getElem?_toArray, List.getElem?_cons_zero] at hc1)
      obtain ⟨hj5, hc5⟩ := hst
      exact ⟨KBl.of_chg hc5 hbW2 (fun x g1 g2 => by omega), hb6, by rw [HTK.out]; exact hj5⟩
    · rintro b W1 hb ⟨hb6, a1⟩ hd
      rw [List.take_of_length_le (by have := HNL.out; omega), ← HE2.out] at a1
      obtain ⟨vv, hv, ho⟩ := a1.ro
      obtain ⟨A, c, rfl⟩ := row_slice' ho
      have c0 := hv.cell 0
      have d0 := a1.rf.cell 0
      have d1 := a1.rf.cell 1
      have e0 := a1.rf.frozen 0
      have e1 := a1.rf.frozen 1
      simp only [List.getElem?_toArray, List.getElem?_cons_zero, List.getElem?_cons_succ] at c0 d0 d1
      have HJ := hid a1
      have HO := hid ho
      have HD := hid hd
      clear a1 hv ho hd
      obtain ⟨el, hel⟩ : ∃ n, eb.length = n := ⟨_, rfl⟩
      have HEL := hid hel
      rw [hel] at c0 HO
      clear hel
      gi_wp2
      have h9 := fstore HJ.out.rf (.int .i64 0) (.int .i64 0)
      have hlt9 := (Array.getElem?_eq_some_iff.1 HD.out).1
      have hd9 := (h9.2.block (q + 4) hlt9 (by omega)).trans HD.out
      have ho9 := own_chgS HO.out h9.2 (fun g hg e => by have := (HO.out.lt g hg).1; omega)
      have hb9 := HJ.out.bel.trans (h9.2.below (B := s) (fun k hk => by omega) (by have := HJ.out.rf.lt; omega))
      have hk9 := h9.1
      clear h9
      generalize World.setCell (World.setCell W1 _ _) _ _ = W9 at *
      have hM : Marks (q + 4) W9 [q + 4] := (Marks.nil_ _ _).cons_ (Nat.le_refl _) (by simp) hd9
      refine leaves_marks (q + 4) [q + 4] _ hM fun W6 h6 => ?_
      have hk6 := h6.blk hk9 (by simp; omega)
      have r0 := hk6.cell 0
      have r1 := hk6.cell 1
      simp only [List.getElem?_toArray, List.getElem?_cons_zero, List.getElem?_cons_succ] at r0 r1
      have ho6 := own_chgS ho9 h6 (fun g hg hk => by simp at hk; have := (ho9.lt g hg).1; omega)
      have hb6' := hb9.trans (h6.below (B := s) (fun k hk => by simp at hk; omega) (by have := hk9.lt; omega))
      refine ⟨.tuple #[.slice A el c, .agg #[.int .i64 0, .int .i64 0]], by simp [results, Try.results16, go_sem, r0, r1], ?_⟩
      rw [HBR.out]
      exact ⟨_, rfl, by rw [HEL.out]; exact own_mono ho6 (by omega), hb6'⟩
    · rintro b c W1 hb h _
      exact h.elim
  · have heb : (E1 != 0) = true := by simpa using he
    have h3 := HE.out
    rw [if_neg he] at h3
    subst h3
    clear he HE HZ1
    gi_wp2_with (refine ⟨trivial, ?_⟩; gi_at_call 51; refine ((callsIn_wide (n := m - 1)).2 (HCHK.out _ hb0)).mono ?_; rintro e w1 ⟨rfl, hb1⟩; have hk0 := hk0.below hb1 (by omega); have hk1 := hk1.below hb1 (by omega); have hB1 := hb0.trans (hb1.mono (by omega)); have hw1 : s + 2 ≤ w1.heap.size := (by have := hb1.size; omega); have hl0 : s < w1.heap.size := (by omega); have hl1 : s < w1.heap.size + 1 := (by omega); have hl2 : s < w1.heap.size + 1 + 1 := (by omega); have c0 := hk0.cell 0; have c1 := hk0.cell 1; have c2 := hk0.cell 2; have c3 := hk0.cell 3; have c4 := hk0.cell 4; have c5 := hk0.cell 5; have c6 := hk0.cell 6; have c7 := hk0.cell 7; have c8 := hk0.cell 8; have c9 := hk0.cell 9; have d0 := hk1.cell 0; have d1 := hk1.cell 1; have e0 := hk1.frozen 0; have e1 := hk1.frozen 1; simp only [List.getElem?_toArray, List.getElem?_cons_zero, List.getElem?_cons_succ] at c0 c1 c2 c3 c4 c5 c6 c7 c8 c9 d0 d1)
    refine wpIn_wide.2 ?_
    have hkn := Blk.new w1 33 #[.int .i64 E1, .int .i64 E2]
    have y0 := hkn.cell 0
    have y1 := hkn.cell 1
    simp only [List.getElem?_toArray, List.getElem?_cons_zero, List.getElem?_cons_succ] at y0 y1
    have hka := hk1.alloc (.cells #[.int .i64 E1, .int .i64 E2] 33)
    have hba := hB1.trans ((bw_a (Below.refl w1.heap.size w1) (.cells #[.int .i64 E1, .int .i64 E2] 33)).mono (show s ≤ w1.heap.size by omega))
    have z0 := hka.cell 0
    have z1 := hka.cell 1
    have u0 := hka.frozen 0
    have u1 := hka.frozen 1
    simp only [List.getElem?_toArray, List.getElem?_cons_zero, List.getElem?_cons_succ] at z0 z1
    have HKA := hid hka
    have HBA := hid hba
    clear hkn hka hba hk0 hk1 hB1 hb1 hb0 c0 c1 c2 c3 c4 c5 c6 c7 c8 c9 d0 d1 e0 e1
    generalize w1.alloc (.cells #[.int .i64 E1, .int .i64 E2] 33) = w2 at *
    have hne : ¬ (w1.heap.size = s + 1) := by omega
    have hne2 : ¬ (s + 1 = w1.heap.size) := by omega
    go_region_held3 (fun w' => w'.cell? ⟨w1.heap.size, 0, none⟩ = some (.int .i64 E1) ∧ w'.cell? ⟨w1.heap.size, 1, none⟩ = some (.int .i64 E2)) (first | exact ⟨y0, y1⟩ | go_keep) (fail)
    have h9 := fstore HKA.out (.int .i64 E1) (.int .i64 E2)
    have hk9 := h9.1
    have hb9 := HBA.out.trans (h9.2.below (B := s) (fun k hk => by omega) (by have := HKA.out.lt; omega))
    clear h9
    gi_wp2
    generalize World.setCell (World.setCell w2 _ _) _ _ = W9 at *
    have r0 := hk9.cell 0
    have r1 := hk9.cell 1
    simp only [List.getElem?_toArray, List.getElem?_cons_zero, List.getElem?_cons_succ] at r0 r1
    have r0' : W9.drew.cell? ⟨s + 1, 0, none⟩ = some (.int .i64 E1) := r0
    have r1' : W9.drew.cell? ⟨s + 1, 1, none⟩ = some (.int .i64 E2) := r1
    refine ⟨.tuple #[.slice none 0 0, .agg #[.int .i64 E1, .int .i64 E2]], by simp [results, Try.results16, go_sem, r0', r1'], ?_⟩
    rw [HBR.out]
    exact ⟨_, rfl, World.ownsRow_nil _ _ _ _, ⟨hb9.os, hb9.tape, hb9.output, hb9.size, hb9.block⟩⟩
end Go.Proofs.Ytnfodgjihdoncaa
