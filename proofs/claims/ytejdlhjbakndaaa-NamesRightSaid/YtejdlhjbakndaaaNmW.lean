/- Names: what is wrong with a definition's: the steps' own names. -/
import Derived.Test.YtejdlhjbakndaaaNmH
import Derived.Test.YtejdlhjbakndaaaDgS
import Derived.Test.YtejdlhjbakndaaaNmS
import Derived.Deep.RegionHeld3
import Derived.Laws.EntriesVeiled
import Derived.StillTailTactics
import Derived.Test.YtejdlhjbakndaaaRg
set_option linter.unusedVariables false
namespace Go.Proofs.Ytejdlhjbakndaaa
open Go.RowKit
attribute [local go_sem] Oper.semAt_some
/-- What is held while a definition is looked at. -/
structure ChW (s : Nat) (D : DfV) (w : World) (L : List Dg.D) (ov : Value) (W : World) : Prop where
  db : Blk W s 24 #[.string D.nm, .string D.tx, .slice D.st.A D.st.xs.length D.st.c]
  ob : Blk W (s + 1) 28 #[ov]
  fb : Blk W (s + 2) 54 #[.func (.func 30) #[] #[.pointer (some ⟨s + 1, 0, none⟩)]]
  ow : W.ownsRow (s + 3) 53 3 ov L.length (L.flatMap dC)
  bel : Below s w W
theorem ChW.chg {s : Nat} {D : DfV} {w W W' : World} {L : List Dg.D} {ov : Value} {S : Nat → Prop} (h : ChW s D w L ov W) (hc : Chg S W W') (hS : ∀ q, S q → s + 3 ≤ q ∧ ov.ownBlock ≠ some q) (hs : w.heap.size = s) : ChW s D w L ov W' := by
  obtain ⟨db, ob, fb, ow, bel⟩ := h
  have := fb.lt
  exact ⟨hc.blk db (fun hx => by have := hS _ hx; omega), hc.blk ob (fun hx => by have := hS _ hx; omega), hc.blk fb (fun hx => by have := hS _ hx; omega), own_chgS ow hc (fun g hg hx => (hS g hx).2 hg), bel.trans (hc.below (B := s) (fun q hq => by have := hS q hq; omega) (by omega))⟩
theorem ChW.hold {s : Nat} {D : DfV} {w W : World} {L : List Dg.D} {ov : Value} (h : ChW s D w L ov W) (hl : L.length ≤ 100000) (st e : Int) (nm : ByteArray) (wr : Bool) :
    Calls Try.prog 30 #[.int .i64 st, .int .i64 e, .string nm, .bool wr, .pointer (some ⟨s + 1, 0, none⟩)] W fun en W' => (∃ v, en = .returned v) ∧ ∃ ov', ChW s D w (L ++ if wr then [(st, e, nm)] else []) ov' W' ∧ Chg (fun q => q = s + 1 ∨ some q = ov.ownBlock) W W' ∧ (ov'.ownBlock = ov.ownBlock ∨ ∀ q, ov'.ownBlock = some q → W.heap.size ≤ q) := by
  obtain ⟨db, ob, fb, ow, bel⟩ := h
  have hf := fb.lt
  refine (hold_any L ov (s + 3) (s + 1) st e nm wr W (by omega) hl ob ow).mono ?_
  rintro en W' ⟨hv, ov', ob', ow', hc, hw⟩
  have hne1 := own_blk_neH ow db (by decide)
  have hne2 := own_blk_neH ow fb (by decide)
  refine ⟨hv, ov', ⟨hc.blk db (fun hx => ?_), ob', hc.blk fb (fun hx => ?_), ow', bel.trans (hc.below (B := s) (fun q hq => ?_) (by omega))⟩, hc, hw⟩
  · rcases hx with hx | hx
    · omega
    · exact hne1 hx.symm
  · rcases hx with hx | hx
    · omega
    · exact hne2 hx.symm
  · rcases hq with hx | hx
    · omega
    · have := (ow.lt q hx.symm).1; omega
theorem own_map_ne {P : Program} {w : World} {B e s n b k : Nat} {t : TypeId} {R : Value → Option (DataW Unit × List MemPlace)} {v : Value} {xs : List Value} {M : DataW Unit} (h : w.ownsRow B e s v n xs) (hm : w.ownsMap P t R b k M) : v.ownBlock ≠ some b := by
  rcases h.2 with ⟨rfl, _⟩ | ⟨g, c, cur, rfl, _, hg, _⟩
  · simp [Value.ownBlock]
  · intro he
    have hgq : g = b := by simpa [Value.ownBlock] using he
    subst hgq
    obtain ⟨es, cl, h1, -⟩ := hm
    rw [hg] at h1
    cases h1
/-- .. and where each name stands first. -/
structure ChP (s p mB : Nat) (D : DfV) (w : World) (L : List Dg.D) (ov : Value) (W : World) : Prop where
  ch : ChW s D w L ov W
  mb : Blk W p 55 #[.map (some mB)]
  mp : ∃ Mp, W.ownsMap Try.prog 9 (plainElem (H := Unit) Try.prog 3) mB D.st.xs.length Mp ∧ PlF (nms D.st.xs) Mp
theorem ChP.chg {s p mB : Nat} {D : DfV} {w W W' : World} {L : List Dg.D} {ov : Value} {S : Nat → Prop} (h : ChP s p mB D w L ov W) (hc : Chg S W W') (hS : ∀ q, S q → s + 3 ≤ q ∧ ov.ownBlock ≠ some q ∧ q ≠ p ∧ q ≠ mB) (hs : w.heap.size = s) : ChP s p mB D w L ov W' := by
  obtain ⟨ch, mb, Mp, m1, m2⟩ := h
  have hm : mB < W.heap.size := by
    obtain ⟨es, cl, h1, -⟩ := m1
    exact (Array.getElem?_eq_some_iff.1 h1).1
  exact ⟨ch.chg hc (fun q hq => ⟨(hS q hq).1, (hS q hq).2.1⟩) hs, hc.blk mb (fun hx => (hS _ hx).2.2.1 rfl), Mp, ownsMap_kn m1 (hc.block mB hm (fun hx => (hS _ hx).2.2.2 rfl)), m2⟩
theorem ChP.hold {s p mB : Nat} {D : DfV} {w W : World} {L : List Dg.D} {ov : Value} (h : ChP s p mB D w L ov W) (hp : s + 3 ≤ p) (hm : s + 3 ≤ mB) (hl : L.length ≤ 100000) (st e : Int) (nm : ByteArray) (wr : Bool) :
    Calls Try.prog 30 #[.int .i64 st, .int .i64 e, .string nm, .bool wr, .pointer (some ⟨s + 1, 0, none⟩)] W fun en W' => (∃ v, en = .returned v) ∧ ∃ ov', ChP s p mB D w (L ++ if wr then [(st, e, nm)] else []) ov' W' ∧ (∀ g t cs, Blk W g t cs → t ≠ 53 → g ≠ s + 1 → Blk W' g t cs) ∧ Chg (fun q => q = s + 1 ∨ some q = ov.ownBlock) W W' ∧ (ov'.ownBlock = ov.ownBlock ∨ ∀ q, ov'.ownBlock = some q → W.heap.size ≤ q) := by
  obtain ⟨ch, mb, Mp, m1, m2⟩ := h
  have hml : mB < W.heap.size := by
    obtain ⟨es, cl, h1, -⟩ := m1
    exact (Array.getElem?_eq_some_iff.1 h1).1
  have hno : ∀ g t cs, Blk W g t cs → t ≠ 53 → g ≠ s + 1 → ¬ (g = s + 1 ∨ some g = ov.ownBlock) := fun g t cs hb ht hg hx => by
    rcases hx with hx | hx
    · exact hg hx
    · exact own_blk_neH ch.ow hb ht hx.symm
  have hnm : ¬ (mB = s + 1 ∨ some mB = ov.ownBlock) := fun hx => by
    rcases hx with hx | hx
    · omega
    · exact own_map_ne ch.ow m1 hx.symm
  refine (ch.hold hl st e nm wr).mono ?_
  rintro en W' ⟨hv, ov', hch, hc, hw⟩
  exact ⟨hv, ov', ⟨hch, hc.blk mb (hno _ _ _ mb (by decide) (by omega)), Mp, ownsMap_kn m1 (hc.block mB hml hnm), m2⟩, fun g t cs hb ht hg => hc.blk hb (hno g t cs hb ht hg), hc, hw⟩
namespace Nm
theorem chA_snoc (N : List ByteArray) (x : StV) : ∀ (X : List StV) (i : Nat), chA N i (X ++ [x]) = chA N i X ++ chStep N (i + X.length) x
  | [], i => by simp [chA]
  | y :: r, i => by rw [List.cons_append, chA, chA_snoc N x r, chA, List.append_assoc, List.length_cons, show i + 1 + r.length = i + (r.length + 1) by omega]
theorem chA_next (N : List ByteArray) (X : List StV) (k : Nat) (hk : k < X.length) : chA N 0 (X.take (k + 1)) = chA N 0 (X.take k) ++ chStep N k X[k] := by
  rw [List.take_succ_eq_append_getElem hk, chA_snoc, List.length_take, Nat.min_eq_left (Nat.le_of_lt hk), Nat.zero_add]
theorem chStep_len (N : List ByteArray) (i : Nat) (x : StV) : (chStep N i x).length ≤ 4 := by
  have h (c : Prop) [Decidable c] (a : Dg.D) : (if c then [a] else []).length ≤ 1 := by split <;> simp
  have h' (c : Prop) [Decidable c] (a : Dg.D) : (if c then [] else [a]).length ≤ 1 := by split <;> simp
  unfold chStep
  simp only [List.length_append]
  have := h' (rgB x.nm = true) ((i : Int), 18, x.nm)
  have := h' (rgB x.ac = true) ((i : Int), 18, x.ac)
  have := h (x.un.size ≠ 0 ∧ rgB x.un = false) ((i : Int), 18, x.un)
  have := h (ixI N x.nm < (i : Int)) ((i : Int), 6, x.nm)
  omega
theorem chA_len (N : List ByteArray) : ∀ (X : List StV) (i : Nat), (chA N i X).length ≤ 4 * X.length
  | [], i => by simp [chA]
  | x :: r, i => by
    have h := chA_len N r (i + 1)
    have h2 := chStep_len N i x
    rw [chA, List.length_append, List.length_cons]; omega
theorem chHead_len (D : DfV) : (chHead D).length ≤ 2 := by
  unfold chHead
  rw [List.length_append]
  split <;> split <;> simp
end Nm
theorem lookup_vl {H : Type} {P : Program} (w : World) {ops : Array Oper} {rest : List Oper} {o : Oper} {a : Act} {Q : Exit → Act → World → Prop}
    (hg : o.guard = none) (m x : Operand) (t : TypeId) (hop : o.op = Op.lookup t m x false)
    (k e : TypeId) (q : IntKind) (K : Maps.Keyed P k) (ht : P.underlying t = some (.map k e)) (he : P.underlying e = some (.int q)) (hz : (zeroValue e).run P w = .ok (.int q 0) w) (b n : Nat) (D : DataW H)
    (hm : a.eval m = .map (some b)) (hown : w.ownsMap P k (plainElem P e) b n D) (key : Value) (kl : Lit) (hx : a.eval x = key) (hkey : keyOf P k key = some kl) (c : Int) (hat : D.atKey kl (.lit (.int q 0)) = .lit (.int q c))
    (hK : wpList P ops Q rest (a.put o.dst (.int q c)) w) : wpList P ops Q (o :: rest) a w := by
  refine wpList_lookup_own_int w hg m x t hop k e q K ht he hz b n D hm hown key kl hx hkey ?_
  intro c' h _
  rw [hat] at h
  injection h with h
  injection h with _ h
  subst h
  exact hK
theorem str_nil25 {s : ByteArray} (h : s.size = 0) : s = ⟨#[]⟩ := by
  obtain ⟨d⟩ := s
  have : d = #[] := by simpa [ByteArray.size] using h
  rw [this]
theorem str_emp25 : (⟨#[]⟩ : ByteArray).toList = [] := by rw [Lib.toList_data]
theorem str_full25 {s : ByteArray} (h : s ≠ ⟨#[]⟩) : s.toList.isEmpty = false ∧ (s.toList == []) = false := by
  have h2 : s.toList ≠ [] := fun e => h (by
    apply Dg.bext
    rw [← Lib.toList_data, e])
  cases hs : s.toList with
  | nil => exact absurd hs h2
  | cons a r => simp
/-- Rows stay where a mark is shut. -/
theorem SlN.marks {w w' : World} {A : Option Addr} {n c size b : Nat} {xs : List Value} {d : Option (List Deferred)} (h : SlN w A n c size xs) (hc : Chg (fun q => q ∈ [b]) w w') (hb : w.heap[b]? = some (.deferred d)) : SlN w' A n c size xs :=
  ⟨h.len, h.cap, h.small, h.nil0, fun k u hk => by
    obtain ⟨g, o, e, hg, hcell⟩ := h.rd k u hk
    have hne : g ≠ b := fun e => by
      subst e
      unfold World.cell? at hcell
      rw [hb] at hcell
      simp at hcell
    have hbk := hc.block g hg (by simpa using hne)
    refine ⟨g, o, e, Nat.lt_of_lt_of_le hg hc.size, ?_⟩
    unfold World.cell? at hcell ⊢
    rw [hbk]; exact hcell⟩
namespace Nm
/-- What is told of the first mentions. -/
def menF (N : List ByteArray) (X : List StV) (j : Nat) : List Dg.D := ((mnAll 0 X).take j).flatMap fun m => chMen N (N.getD m.1 ⟨#[]⟩) m
theorem menF_next (N : List ByteArray) (X : List StV) (j : Nat) (hj : j < (mnAll 0 X).length) : menF N X (j + 1) = menF N X j ++ chMen N (N.getD ((mnAll 0 X).getD j (0, ⟨#[]⟩, false)).1 ⟨#[]⟩) ((mnAll 0 X).getD j (0, ⟨#[]⟩, false)) := by
  have hgd : (mnAll 0 X).getD j (0, ⟨#[]⟩, false) = (mnAll 0 X)[j] := by rw [List.getD_eq_getElem?_getD, List.getElem?_eq_getElem hj]; rfl
  unfold menF
  rw [hgd, List.take_succ_eq_append_getElem hj, List.flatMap_append, List.flatMap_cons, List.flatMap_nil, List.append_nil]
theorem menF_all (X : List StV) : menF (nms X) X (mnAll 0 X).length = chB (nms X) 0 X := by
  unfold menF
  rw [List.take_of_length_le (Nat.le_refl _), chB_all (nms X) X 0 (fun j hj => nms_getQ X j hj)]
theorem chMen_len (N : List ByteArray) (nm : ByteArray) (m : Nat × ByteArray × Bool) : (chMen N nm m).length ≤ 3 := by
  unfold chMen
  simp only [List.length_append]
  split <;> split <;> split <;> simp
theorem menF_len (N : List ByteArray) (X : List StV) : ∀ j, (menF N X j).length ≤ 3 * j
  | 0 => by simp [menF]
  | j + 1 => by
    have h := menF_len N X j
    by_cases hj : j < (mnAll 0 X).length
    · rw [menF_next N X j hj, List.length_append]
      have := chMen_len N (N.getD ((mnAll 0 X).getD j (0, ⟨#[]⟩, false)).1 ⟨#[]⟩) ((mnAll 0 X).getD j (0, ⟨#[]⟩, false))
      omega
    · have e : menF N X (j + 1) = menF N X j := by unfold menF; rw [List.take_of_length_le (by omega), List.take_of_length_le (by omega)]
      rw [e]; omega
theorem dok_mk {a b : Int} {s : ByteArray} (h1 : -9223372036854775808 ≤ a) (h2 : a ≤ 9223372036854775807) (h3 : -9223372036854775808 ≤ b) (h4 : b ≤ 9223372036854775807) (h5 : s.size ≤ 9223372036854775807) : DOk (a, b, s) := ⟨⟨h1, h2⟩, ⟨h3, h4⟩, h5⟩
theorem dok_ite {c : Prop} [Decidable c] {d x : Dg.D} (hd : DOk d) (h : x ∈ (if c then [d] else [])) : DOk x := by
  split at h
  · rw [List.mem_singleton.1 h]; exact hd
  · cases h
theorem dok_ite' {c : Prop} [Decidable c] {d x : Dg.D} (hd : DOk d) (h : x ∈ (if c then [] else [d])) : DOk x := by
  split at h
  · cases h
  · rw [List.mem_singleton.1 h]; exact hd
theorem ch_ok (N : List ByteArray) (D : DfV) (hD : D.nm.size ≤ maxLen) : ∀ x ∈ chHead D, DOk x := fun x h => by
  unfold maxLen at hD
  unfold chHead at h
  rcases List.mem_append.1 h with h | h
  · exact dok_ite (dok_mk (by omega) (by omega) (by omega) (by omega) (by simp [ByteArray.size])) h
  · exact dok_ite' (dok_mk (by omega) (by omega) (by omega) (by omega) hD) h
theorem chA_ok (N : List ByteArray) : ∀ (X : List StV) (i : Nat), i + X.length ≤ 1000000 → (∀ x ∈ X, x.nm.size ≤ maxLen ∧ x.ac.size ≤ maxLen ∧ x.un.size ≤ maxLen) → ∀ d ∈ chA N i X, DOk d
  | [], i, _, _, d, h => by simp [chA] at h
  | x :: r, i, hi, hz, d, h => by
    obtain ⟨z1, z2, z3⟩ := hz x (by simp)
    unfold maxLen at z1 z2 z3
    rw [chA, List.mem_append] at h
    simp only [List.length_cons] at hi
    rcases h with h | h
    · unfold chStep at h
      rcases List.mem_append.1 h with h | h
      · rcases List.mem_append.1 h with h | h
        · rcases List.mem_append.1 h with h | h
          · exact dok_ite' (dok_mk (by omega) (by omega) (by omega) (by omega) z1) h
          · exact dok_ite' (dok_mk (by omega) (by omega) (by omega) (by omega) z2) h
        · exact dok_ite (dok_mk (by omega) (by omega) (by omega) (by omega) z3) h
      · exact dok_ite (dok_mk (by omega) (by omega) (by omega) (by omega) z1) h
    · exact chA_ok N r (i + 1) (by omega) (fun y hy => hz y (List.mem_cons_of_mem _ hy)) d h
theorem men_ok (N : List ByteArray) (X : List StV) (j : Nat) (hl : X.length ≤ 1000) (hz : ∀ x ∈ X, ∀ y ∈ x.af.xs, y.size ≤ 9223372036854775807) : ∀ d ∈ menF N X j, DOk d := fun d h => by
  unfold menF at h
  obtain ⟨m, hm, hd⟩ := List.mem_flatMap.1 h
  obtain ⟨jj, hjj, rfl⟩ := List.mem_iff_getElem.1 (List.mem_of_mem_take hm)
  obtain ⟨i, k, hi, hk, -, he⟩ := mn_get X jj hjj
  rw [List.getD_eq_getElem?_getD, List.getElem?_eq_getElem hjj] at he
  simp only [Option.getD_some] at he
  rw [he] at hd
  have hy := hz _ (List.getElem_mem hi) _ (List.getElem_mem hk)
  unfold chMen at hd
  simp only at hd
  rcases List.mem_append.1 hd with h | h
  · rcases List.mem_append.1 h with h | h
    · exact dok_ite (dok_mk (by omega) (by omega) (by omega) (by omega) hy) h
    · exact dok_ite (dok_mk (by omega) (by omega) (by omega) (by omega) hy) h
  · exact dok_ite (dok_mk (by omega) (by omega) (by omega) (by omega) hy) h
end Nm
/-- What holds between two rounds over mentions. -/
def CmI (s p mB pb : Nat) (D : DfV) (w : World) (L : List Dg.D) (W : World) : Prop := ∃ ov, ChP s p mB D w L ov W ∧ Blk W pb 24 #[.string D.nm, .string D.tx, .slice D.st.A D.st.xs.length D.st.c] ∧ ∀ q, ov.ownBlock = some q → q < pb + 1 ∨ pb + 4 ≤ q
theorem CmI.keep {s p mB pb : Nat} {w W W' : World} {D : DfV} {L : List Dg.D} {S : Nat → Prop} (h : CmI s p mB pb D w L W) (hp : s + 3 ≤ pb ∧ p < pb ∧ mB < pb) (hs : w.heap.size = s) (hc : Chg S W W') (hS : ∀ q, S q → pb + 1 ≤ q ∧ q < pb + 4) : CmI s p mB pb D w L W' := by
  obtain ⟨ov, h1, h2, h3⟩ := h
  exact ⟨ov, h1.chg hc (fun q hq => by have := hS q hq; exact ⟨by omega, fun e => by have := h3 q e; omega, by omega, by omega⟩) hs, hc.blk h2 (fun hx => by have := hS _ hx; omega), h3⟩
/-- What Check answers. -/
def ChA (D : DfV) (w : World) (e : Ending) (w' : World) : Prop := ∃ A' k c', e = .returned (.slice A' k c') ∧ (Dg.srt (Nm.chHead D ++ Nm.chRef (nms D.st.xs) 0 D.st.xs)).length = k ∧ SlN w' A' k c' 3 ((Dg.srt (Nm.chHead D ++ Nm.chRef (nms D.st.xs) 0 D.st.xs)).flatMap dC) ∧ Below w.heap.size w w'
def ChR19 (s q g o i : Nat) (y nm : ByteArray) (n c : Nat) (be : Bool) (Φ : World → Prop) (a0 : Act) (w0 : World) (f : Nat → Bool) (a : Act) (w : World) : Prop := ∃ x0 x1 x2 x3 x4 x5 x6 x7 x8 x9 x10 x11 x12 x13 x14 x15 : Value, a = ((((((((((((((((a0.put (some 100) x0).put (some 101) x1).put (some 102) x2).put (some 103) x3).put (some 104) x4).put (some 105) x5).put (some 106) x6).put (some 107) x7).put (some 108) x8).put (some 109) x9).put (some 110) x10).put (some 111) x11).put (some 112) x12).put (some 113) x13).put (some 114) x14).put (some 115) x15) ∧ (f 0 = true → x0 = .func (.func 30) #[] #[.pointer (some ⟨s + 1, 0, none⟩)]) ∧ (f 1 = true → x1 = .pointer (some ⟨q, 0, none⟩)) ∧ (f 2 = true → x2 = .int .i64 (i : Int)) ∧ (f 3 = true → x3 = .pointer (some ⟨q, 1, none⟩)) ∧ (f 4 = true → x4 = .string y) ∧ (f 5 = true → x5 = .pointer (some ⟨q, 1, none⟩)) ∧ (f 6 = true → x6 = .string y) ∧ (f 7 = true → x7 = .pointer (some ⟨s, 2, none⟩)) ∧ (f 8 = true → x8 = .slice (some ⟨g, o, none⟩) n c) ∧ (f 9 = true → x9 = .pointer (some ⟨q, 0, none⟩)) ∧ (f 10 = true → x10 = .int .i64 (i : Int)) ∧ (f 11 = true → x11 = .pointer (some ⟨g, o + i * 13, none⟩)) ∧ (f 12 = true → x12 = .pointer (some ⟨g, o + i * 13, none⟩)) ∧ (f 13 = true → x13 = .string nm) ∧ (f 14 = true → x14 = .bool be) ∧ ((f 15 = false ∧ (w = w0.drew)) ∨ (f 15 = true ∧ (Φ w)))
set_option maxRecDepth 100000 in
set_option maxHeartbeats 8000000 in
theorem check_in (m : Nat) (hm : 8 ≤ m) (D : DfV) (w : World) (hst : StRow w D) (hX : ∀ x ∈ D.st.xs, TxOk w x.af ∧ x.af.xs.length ≤ 70) (hl : D.st.xs.length ≤ 30) (hz : ∀ x ∈ D.st.xs, x.nm.size ≤ maxLen ∧ x.ac.size ≤ maxLen ∧ x.un.size ≤ maxLen) (hD : D.nm.size ≤ maxLen) :
    CallsIn Fence.wide m Try.prog 12 #[.agg #[.string D.nm, .string D.tx, .slice D.st.A D.st.xs.length D.st.c]] w (ChA D w) := by
  obtain ⟨s, hsz⟩ : ∃ s, w.heap.size = s := ⟨_, rfl⟩
  -- the boxes
  obtain ⟨w3, hw3⟩ : ∃ w3, ((w.alloc (.cells #[.string D.nm, .string D.tx, .slice D.st.A D.st.xs.length D.st.c] 24)).alloc (.cells #[.slice none 0 0] 28)).alloc (.cells #[.func (.func 30) #[] #[.pointer (some ⟨s + 1, 0, none⟩)]] 54) = w3 := ⟨_, rfl⟩
  have hz3 : w3.heap.size = s + 3 := by rw [← hw3]; simp only [World.size_alloc, hsz]
  have hch : ChW s D w [] (.slice none 0 0) w3 := by
    rw [← hw3]
    refine ⟨?_, ?_, ?_, World.ownsRow_nil _ _ _ _, ?_⟩
    · have := ((Blk.new w 24 #[.string D.nm, .string D.tx, .slice D.st.A D.st.xs.length D.st.c]).alloc (.cells #[.slice none 0 0] 28)).alloc (.cells #[.func (.func 30) #[] #[.pointer (some ⟨s + 1, 0, none⟩)]] 54)
      rw [hsz] at this; exact this
    · have := (Blk.new (w.alloc (.cells #[.string D.nm, .string D.tx, .slice D.st.A D.st.xs.length D.st.c] 24)) 28 #[.slice none 0 0]).alloc (.cells #[.func (.func 30) #[] #[.pointer (some ⟨s + 1, 0, none⟩)]] 54)
      rw [World.size_alloc, hsz] at this; exact this
    · have := Blk.new ((w.alloc (.cells #[.string D.nm, .string D.tx, .slice D.st.A D.st.xs.length D.st.c] 24)).alloc (.cells #[.slice none 0 0] 28)) 54 #[.func (.func 30) #[] #[.pointer (some ⟨s + 1, 0, none⟩)]]
      rw [World.size_alloc, World.size_alloc, hsz] at this; exact this
    · have h0 := Below.refl s w
      exact ((h0.alloc (by omega) _).alloc (by rw [World.size_alloc]; omega) _).alloc (by rw [World.size_alloc, World.size_alloc]; omega) _
  have HST := hid (fun W (h : Below s w W) => StRow.below hst (by rw [hsz]; exact h))
  have HTX := hid (fun W (h : Below s w W) x (hx : x ∈ D.st.xs) => (⟨(hX x hx).1.below (by rw [hsz]; exact h), (hX x hx).2⟩ : TxOk W x.af ∧ x.af.xs.length ≤ 70))
  have HT0 := hid hX
  have HZ := hid hz
  have HDZ := hid hD
  have HPL := hid (fun W (h : Below s w W) => places_any D W (StRow.below hst (by rw [hsz]; exact h)) (by omega) (fun x hx => (hz x hx).1))
  have HMN := hid (fun W => mentions_in (m - 1) D W)
  have HLL := hid hl
  have h1 : 1 ≤ m := by omega
  have d0 := hch.db.cell 0
  have d1 := hch.db.cell 1
  have d2 := hch.db.cell 2
  have e0 := hch.fb.cell 0
  simp only [List.getElem?_toArray, List.getElem?_cons_zero, List.getElem?_cons_succ] at d0 d1 d2 e0
  have HCH := hid hch
  have HSZ := hid hsz
  have HZ3 := hid hz3
  obtain ⟨Q, hQ⟩ : ∃ Q : Ending → World → Prop, Q = ChA D w := ⟨_, rfl⟩
  rw [← hQ]
  have HQ := hid hQ
  rw [← hw3] at d0 d1 d2 e0
  have HW3 := hid hw3
  clear hch hQ hX hz hl hD hst hw3 hz3
  refine callsIn_of_wp_marks Try.func12 rfl trivial ?_ rfl
  simp only [Try.ntmps12, List.size_toArray, List.length_cons, List.length_nil, Nat.reduceAdd, Nat.reduceSub, Array.replicate_succ, Array.replicate_zero, List.push_toArray, List.append_toArray, List.nil_append, List.cons_append]
  refine wpIn_wide.2 ?_
  go_wp2_with fail
  simp only [Nat.add_assoc, Nat.reduceAdd]
  rw [HW3.out]
  clear d0 d1 d2 e0
  obtain ⟨eb, heb⟩ : ∃ eb : Bool, ((D.st.xs.length : Int) == 0) = eb := ⟨_, rfl⟩
  rw [heb]
  with_reducible refine (HCH.out.hold (by simp) (-1) 17 ⟨#[]⟩ eb).mono ?_
  rintro e w4 ⟨⟨v, rfl⟩, ov, hch4, hc4, -⟩
  have hL0 : [] ++ (if eb then [((-1 : Int), (17 : Int), (⟨#[]⟩ : ByteArray))] else []) = if D.st.xs.length = 0 then [(-1, 17, ⟨#[]⟩)] else [] := by
    rw [← heb]
    by_cases h : D.st.xs.length = 0 <;> simp [h]
  rw [hL0] at hch4
  obtain ⟨L0, hLL0⟩ : ∃ L0, (if D.st.xs.length = 0 then [((-1 : Int), (17 : Int), (⟨#[]⟩ : ByteArray))] else []) = L0 := ⟨_, rfl⟩
  have hl0 : L0.length ≤ 1 := by rw [← hLL0]; split <;> simp
  have HL0 := hid hLL0
  rw [hLL0] at hch4
  have d0 := hch4.db.cell 0
  have e0 := hch4.fb.cell 0
  simp only [List.getElem?_toArray, List.getElem?_cons_zero, List.getElem?_cons_succ] at d0 e0
  have HCH4 := hid hch4
  have CR := hid (fun W => right25_any D.nm W (by have := HDZ.out; unfold maxLen at this; omega))
  obtain ⟨rb, hrb⟩ : ∃ rb, rgB D.nm = rb := ⟨_, rfl⟩
  rw [hrb] at CR
  have CH := hid (fun W (h : ChW s D w L0 ov W) => h.hold (by omega) (-1) 18 D.nm (!rb))
  clear hL0 hLL0 hch4 hc4 heb HCH HW3
  go_wp2_with fail
  go_region_held3 (fun w' => w'.cell? ⟨s, 0, none⟩ = some (.string D.nm) ∧ w'.cell? ⟨s + 2, 0, none⟩ = some (.func (.func 30) #[] #[.pointer (some ⟨s + 1, 0, none⟩)])) (first | exact ⟨d0, e0⟩ | exact HD5.out) (first
    | (go_at_call 14; (with_reducible refine (CR.out _).mono ?_); rintro e wa ⟨rfl, rfl⟩)
    | (go_at_call 30; (with_reducible refine (CH.out _ (HCH4.out.chg (S := fun _ => False) ((Chg.refl _ _).drew) (fun q h => h.elim) HSZ.out)).mono ?_); rintro e w5 ⟨⟨v5, rfl⟩, ov5, hch5, hc5, hw5⟩; have HCH5 := hid hch5; have h5a := hch5.db.cell 0; have h5b := hch5.fb.cell 0; simp only [List.getElem?_toArray, List.getElem?_cons_zero, List.getElem?_cons_succ] at h5a h5b; have HD5 := hid (And.intro h5a h5b); clear hch5 hc5 hw5 h5a h5b))
  have hhd : L0 ++ (if (!rb) = true then [((-1 : Int), (18 : Int), D.nm)] else []) = Nm.chHead D := by
    rw [← HL0.out]
    unfold Nm.chHead
    rw [hrb]
    cases rb <;> rfl
  rw [hhd] at HCH5
  have g0 := HCH5.out.db.cell 0
  have g1 := HCH5.out.db.cell 1
  have g2 := HCH5.out.db.cell 2
  simp only [List.getElem?_toArray, List.getElem?_cons_zero, List.getElem?_cons_succ] at g0 g1 g2
  clear hhd HL0 hl0 d0 e0 HD5 CR CH HCH4 hrb
  go_wp2_with fail
  with_reducible refine (HPL.out _ HCH5.out.bel).mono ?_
  rintro e w6 ⟨Mp, rfl, hmp, hpf, hb6, hz6⟩
  obtain ⟨mB, hmB⟩ : ∃ mB, w5.heap.size + 1 = mB := ⟨_, rfl⟩
  obtain ⟨p, hp⟩ : ∃ p, w6.heap.size = p := ⟨_, rfl⟩
  rw [hmB] at hmp ⊢
  have hf5 := HCH5.out.fb.lt
  have hch6 : ChW s D w (Nm.chHead D) ov5 (w6.alloc (.cells #[.map (some mB)] 55)) := HCH5.out.chg (S := fun _ => False) ((Chg.of_below (S := fun _ => False) hb6 (fun k hk _ => hk)).alloc _) (fun q h => h.elim) HSZ.out
  have hcp : ChP s p mB D w (Nm.chHead D) ov5 (w6.alloc (.cells #[.map (some mB)] 55)) := ⟨hch6, by have := Blk.new w6 55 #[.map (some mB)]; rw [hp] at this; exact this, Mp, hmp.alloc _, hpf⟩
  have HP := hid hp
  have HPM := hid (show s + 3 ≤ p ∧ s + 3 ≤ mB by omega)
  have HCP := hid hcp
  clear hch6 hmp hpf hb6 hz6 hmB hf5 HCH5 g0 g1 g2 HPL
  have g2 := hcp.ch.db.cell 2
  simp only [List.getElem?_toArray, List.getElem?_cons_zero, List.getElem?_cons_succ] at g2
  clear hcp
  go_wp2_with fail
  obtain ⟨W0, hW0⟩ : ∃ W0, w6.alloc (.cells #[.map (some mB)] 55) = W0 := ⟨_, rfl⟩
  rw [hW0]
  rw [hW0] at HCP
  clear hp hW0 g2
  go_loopw [32] (fun i wr => ∃ (k : Nat) (ov : Value), k ≤ D.st.xs.length ∧ i = .int .i64 (k : Int) ∧ ChP s p mB D w (Nm.chHead D ++ Nm.chA (nms D.st.xs) 0 (D.st.xs.take k)) ov wr) (fun i _ => D.st.xs.length - (intOf i).toNat)
  case atStart => exact ⟨0, ov5, by omega, rfl, by simpa [Nm.chA] using HCP.out⟩
  case round =>
    obtain ⟨k, ov, hk, rfl, hcp⟩ := hrel
    have HC := hid hcp
    clear hcp
    by_cases hlt : k < D.st.xs.length
    · obtain ⟨g, o, hA, hg, e0, e1, e2, e3, e4, e5, e6, e7, e8, e9, e10, e11, e12⟩ := st_at (X := D.st.xs) (HST.out wr HC.out.ch.bel) k hlt
      have hnx := Nm.chA_next (nms D.st.xs) D.st.xs k hlt
      have hcl := Nm.chA_len (nms D.st.xs) (D.st.xs.take k) 0
      have hhl := Nm.chHead_len D
      have hzx := HZ.out _ (List.getElem_mem hlt)
      have hin : Nm.inB (nms D.st.xs) D.st.xs[k].nm = true := Nm.inB_yes (by rw [← nms_at D.st.xs k hlt]; exact List.getElem_mem _)
      have hkm : k ≤ 30 := by have := HLL.out; omega
      rw [List.length_take] at hcl
      generalize D.st.xs[k] = x at *
      obtain ⟨L, hL⟩ : ∃ L, Nm.chHead D ++ Nm.chA (nms D.st.xs) 0 (D.st.xs.take k) = L := ⟨_, rfl⟩
      have hLl : L.length ≤ 200 := by rw [← hL, List.length_append]; omega
      have hnx2 : Nm.chHead D ++ Nm.chA (nms D.st.xs) 0 (D.st.xs.take (k + 1)) = L ++ Nm.chStep (nms D.st.xs) k x := by rw [hnx, ← List.append_assoc, hL]
      rw [hL] at HC
      have HNX := hid hnx2
      have HIN := hid hin
      have HZX := hid hzx
      have HLL2 := hid hLl
      clear hnx hnx2 hin hzx hLl hL hcl hhl
      rw [hA]
      have hki : (k : Int) < (D.st.xs.length : Int) := by omega
      have hk0 : (0 : Int) ≤ (k : Int) := by omega
      clear hA
      go_wp2_with fail
      obtain ⟨qs, hqs⟩ : ∃ qs, wr.heap.size = qs := ⟨_, rfl⟩
      have hb0 := Blk.new wr 44 #[.string x.nm, .string x.ac, .string x.un, .slice x.af.A x.af.xs.length x.af.c, .int .i64 x.r1, .int .i64 x.r2, .int .i64 x.r3, .int .i64 x.lim, .int .u8 x.nd.kd, .string x.nd.tx, .slice x.nd.ks.A x.nd.ks.xs.length x.nd.ks.c, .slice x.nd.cA x.nd.cn x.nd.cc, .int .i64 x.nd.ln]
      have hc0 : ChP s p mB D w L ov (wr.alloc (.cells #[.string x.nm, .string x.ac, .string x.un, .slice x.af.A x.af.xs.length x.af.c, .int .i64 x.r1, .int .i64 x.r2, .int .i64 x.r3, .int .i64 x.lim, .int .u8 x.nd.kd, .string x.nd.tx, .slice x.nd.ks.A x.nd.ks.xs.length x.nd.ks.c, .slice x.nd.cA x.nd.cn x.nd.cc, .int .i64 x.nd.ln] 44)) := HC.out.chg (S := fun _ => False) ((Chg.refl _ wr).alloc _) (fun q h => h.elim) HSZ.out
      rw [hqs] at hb0 ⊢
      obtain ⟨w7, hw7⟩ : ∃ w7, wr.alloc (.cells #[.string x.nm, .string x.ac, .string x.un, .slice x.af.A x.af.xs.length x.af.c, .int .i64 x.r1, .int .i64 x.r2, .int .i64 x.r3, .int .i64 x.lim, .int .u8 x.nd.kd, .string x.nd.tx, .slice x.nd.ks.A x.nd.ks.xs.length x.nd.ks.c, .slice x.nd.cA x.nd.cn x.nd.cc, .int .i64 x.nd.ln] 44) = w7 := ⟨_, rfl⟩
      rw [hw7] at hb0 hc0 ⊢
      have HB1 := hid hb0
      have HC1 := hid hc0
      have HQS := hid (show s + 3 ≤ qs by have := HC.out.ch.fb.lt; omega)
      have HW7 := hid hw7
      obtain ⟨ov1, hov1⟩ : ∃ ov1, ov = ov1 := ⟨_, rfl⟩
      rw [hov1] at HC1
      clear hb0 hc0 hw7 e0 e1 e2 e3 e4 e5 e6 e7 e8 e9 e10 e11 e12 hov1 hqs
      -- x.nm
      have CR1 := hid (fun W => right25_any x.nm W (by have := HZX.out; unfold maxLen at this; omega))
      obtain ⟨rb1, hrb1⟩ : ∃ rb, rgB x.nm = rb := ⟨_, rfl⟩
      have HR1 := hid hrb1
      rw [hrb1] at CR1
      have hcd1 : ChP s p mB D w L ov1 w7.drew := HC1.out.chg (S := fun _ => False) ((Chg.refl _ w7).drew) (fun q h => h.elim) HSZ.out
      have CH1 := hid (hcd1.hold HPM.out.1 HPM.out.2 (by have := HLL2.out; (try simp only [List.length_append]); omega) (k : Int) 18 x.nm (!rb1))
      have y0 := HB1.out.cell 0
      have y1 := HC1.out.ch.fb.cell 0
      simp only [List.getElem?_toArray, List.getElem?_cons_zero, List.getElem?_cons_succ] at y0 y1
      have HY := hid (show w7.drew.cell? ⟨qs, 0, none⟩ = some (.string x.nm) ∧ w7.drew.cell? ⟨s + 2, 0, none⟩ = some (.func (.func 30) #[] #[.pointer (some ⟨s + 1, 0, none⟩)]) from And.intro y0 y1)
      clear hrb1 hcd1
      go_region_held3 (fun w' => w'.cell? ⟨qs, 0, none⟩ = some (.string x.nm) ∧ w'.cell? ⟨s + 2, 0, none⟩ = some (.func (.func 30) #[] #[.pointer (some ⟨s + 1, 0, none⟩)])) (first | exact HY.out | exact HD.out) (first
        | (go_at_call 14; (with_reducible refine (CR1.out _).mono ?_); rintro e wa ⟨rfl, rfl⟩)
        | (go_at_call 30; (with_reducible refine CH1.out.mono ?_); rintro e w8 ⟨⟨v, rfl⟩, ov2, hcn, hbn, -, -⟩; have hbq := hbn _ _ _ (show Blk w7.drew qs _ _ from HB1.out) (by decide) (by have := HQS.out; omega); have HC2 := hid hcn; have HB2 := hid hbq; have z0 := hbq.cell 0; have z1 := hcn.ch.fb.cell 0; simp only [List.getElem?_toArray, List.getElem?_cons_zero, List.getElem?_cons_succ] at z0 z1; have HD := hid (And.intro z0 z1); clear hcn hbn hbq z0 z1))
      clear HY HD y0 y1 CH1
      have hl1 : (if (!rb1) = true then [((k : Int), (18 : Int), x.nm)] else []).length ≤ 1 := by split <;> simp
      -- x.ac
      have CR2 := hid (fun W => right25_any x.ac W (by have := HZX.out; unfold maxLen at this; omega))
      obtain ⟨rb2, hrb2⟩ : ∃ rb, rgB x.ac = rb := ⟨_, rfl⟩
      have HR2 := hid hrb2
      rw [hrb2] at CR2
      have hcd2 : ChP s p mB D w (L ++ (if (!rb1) = true then [((k : Int), (18 : Int), x.nm)] else [])) ov2 w8.drew := HC2.out.chg (S := fun _ => False) ((Chg.refl _ w8).drew) (fun q h => h.elim) HSZ.out
      have CH2 := hid (hcd2.hold HPM.out.1 HPM.out.2 (by have := HLL2.out; (try simp only [List.length_append]); have := hl1; omega) (k : Int) 18 x.ac (!rb2))
      have y0 := HB2.out.cell 1
      have y1 := HC2.out.ch.fb.cell 0
      simp only [List.getElem?_toArray, List.getElem?_cons_zero, List.getElem?_cons_succ] at y0 y1
      have HY := hid (show w8.drew.cell? ⟨qs, 1, none⟩ = some (.string x.ac) ∧ w8.drew.cell? ⟨s + 2, 0, none⟩ = some (.func (.func 30) #[] #[.pointer (some ⟨s + 1, 0, none⟩)]) from And.intro y0 y1)
      clear hrb2 hcd2
      go_wp2_with fail
      go_region_held3 (fun w' => w'.cell? ⟨qs, 1, none⟩ = some (.string x.ac) ∧ w'.cell? ⟨s + 2, 0, none⟩ = some (.func (.func 30) #[] #[.pointer (some ⟨s + 1, 0, none⟩)])) (first | exact HY.out | exact HD.out) (first
        | (go_at_call 14; (with_reducible refine (CR2.out _).mono ?_); rintro e wa ⟨rfl, rfl⟩)
        | (go_at_call 30; (with_reducible refine CH2.out.mono ?_); rintro e w9 ⟨⟨v, rfl⟩, ov3, hcn, hbn, -, -⟩; have hbq := hbn _ _ _ (show Blk w8.drew qs _ _ from HB2.out) (by decide) (by have := HQS.out; omega); have HC3 := hid hcn; have HB3 := hid hbq; have z0 := hbq.cell 1; have z1 := hcn.ch.fb.cell 0; simp only [List.getElem?_toArray, List.getElem?_cons_zero, List.getElem?_cons_succ] at z0 z1; have HD := hid (And.intro z0 z1); clear hcn hbn hbq z0 z1))
      clear HY HD y0 y1 CH2
      have hl2 : (if (!rb2) = true then [((k : Int), (18 : Int), x.ac)] else []).length ≤ 1 := by split <;> simp
      by_cases hu : x.un = ⟨#[]⟩
      · as_aux_lemma =>
        have HU := hid hu
        have hue1 := str_emp25
        have hcd3 : ChP s p mB D w ((L ++ (if (!rb1) = true then [((k : Int), (18 : Int), x.nm)] else [])) ++ (if (!rb2) = true then [((k : Int), (18 : Int), x.ac)] else [])) ov3 w9.drew := HC3.out.chg (S := fun _ => False) ((Chg.refl _ w9).drew) (fun q h => h.elim) HSZ.out
        have CH3 := hid (hcd3.hold HPM.out.1 HPM.out.2 (by have := HLL2.out; (try simp only [List.length_append]); have := hl1; have := hl2; omega) (k : Int) 18 ⟨#[]⟩ false)
        have y0 := HB3.out.cell 2
        have y1 := HC3.out.ch.fb.cell 0
        simp only [List.getElem?_toArray, List.getElem?_cons_zero, List.getElem?_cons_succ] at y0 y1
        rw [HU.out] at y0
        have HY := hid (show w9.drew.cell? ⟨qs, 2, none⟩ = some (.string ⟨#[]⟩) ∧ w9.drew.cell? ⟨s + 2, 0, none⟩ = some (.func (.func 30) #[] #[.pointer (some ⟨s + 1, 0, none⟩)]) from And.intro y0 y1)
        clear  hcd3
        go_wp2_with fail
        go_still_tail 13, (by kernel_rfl)
        change wpList _ _ _ _ _ w9.drew
        go_wp2_with fail
        with_reducible refine CH3.out.mono ?_
        rintro e w10 ⟨⟨v, rfl⟩, ov4, hcn, hbn, -, -⟩
        have hbq := hbn _ _ _ (show Blk w9.drew qs _ _ from HB3.out) (by decide) (by have := HQS.out; omega)
        have HC4 := hid hcn
        have HB4 := hid hbq
        clear hcn hbn hbq HY CH3 y0 y1
        have hl3 : (if false = true then [((k : Int), (18 : Int), (⟨#[]⟩ : ByteArray))] else []).length ≤ 1 := by split <;> simp
        -- the first one
        have hcd4 := HC4.out
        obtain ⟨hch, hmb, Mp, hm1, hm2⟩ := hcd4
        have y0 := HB4.out.cell 0
        have y1 := hch.fb.cell 0
        have y2 := hmb.cell 0
        simp only [List.getElem?_toArray, List.getElem?_cons_zero, List.getElem?_cons_succ] at y0 y1 y2
        have hkey := plKey x.nm HZX.out.1
        obtain ⟨kl, hkl2⟩ : ∃ kl, Lit.string x.nm.data.toList = kl := ⟨_, rfl⟩
        rw [hkl2] at hkey
        have hat := (hm2 x.nm kl hkey).2 HIN.out
        have hixi : Nm.ixI (nms D.st.xs) x.nm = (Nm.ix (nms D.st.xs) x.nm : Int) := by unfold Nm.ixI; rw [if_pos (Nm.ix_lt.2 (Nm.inB_iff.1 HIN.out))]
        obtain ⟨J, hJ⟩ : ∃ J, Nm.ix (nms D.st.xs) x.nm = J := ⟨_, rfl⟩
        rw [hJ] at hat hixi
        obtain ⟨bl, hbl⟩ : ∃ bl : Bool, decide (J < k) = bl := ⟨_, rfl⟩
        have HM1 := hid hm1
        have CH4 := hid (HC4.out.hold HPM.out.1 HPM.out.2 (by have := HLL2.out; try simp only [List.length_append]; have := hl1; have := hl2; have := hl3; omega) (k : Int) 6 x.nm bl)
        have HIX := hid hixi
        have HBL := hid hbl
        clear hch hmb hm1 hm2 hkl2 hixi hJ
        go_wp2_with (at_lookup; refine lookup_vl _ rfl _ _ 55 rfl 9 3 .i64 plKeyed Try.underlying55 Try.underlying3 (plZero _) mB D.st.xs.length Mp rfl HM1.out _ _ rfl hkey (J : Int) hat ?_)
        with_reducible refine CH4.out.mono ?_
        rintro e w11 ⟨⟨v, rfl⟩, ov5, hc5, -, -, -⟩
        have HC5 := hid hc5
        clear y0 y1 y2 hkey hat CH4 HM1 hc5 hbl
        go_wp2_with fail
        go_roundw
        case rel => exact ⟨k + 1, ov5, by omega, by go_num, by
          rw [HNX.out]
          have h := HC5.out
          have e : (((L ++ (if (!rb1) = true then [((k : Int), (18 : Int), x.nm)] else [])) ++ (if (!rb2) = true then [((k : Int), (18 : Int), x.ac)] else [])) ++ (if false = true then [((k : Int), (18 : Int), (⟨#[]⟩ : ByteArray))] else [])) ++ (if bl = true then [((k : Int), (6 : Int), x.nm)] else []) = L ++ Nm.chStep (nms D.st.xs) k x := by
            unfold Nm.chStep
            rw [HIX.out, HR1.out, HR2.out, HU.out, ← HBL.out]
            rw [if_neg (show ¬ ((⟨#[]⟩ : ByteArray).size ≠ 0 ∧ rgB ⟨#[]⟩ = false) from fun h => h.1 rfl)]
            by_cases hb : J < k <;> cases rb1 <;> cases rb2 <;> simp [hb]
          rw [← e]; exact h⟩
        case measure => simp [intOf] <;> omega
      · as_aux_lemma =>
        have hus : x.un.size ≠ 0 := fun h => hu (str_nil25 h)
        have HUS := hid hus
        obtain ⟨hune1, hune2⟩ := str_full25 hu
        have CR3 := hid (fun W => right25_any x.un W (by have := HZX.out; unfold maxLen at this; omega))
        obtain ⟨rb3, hrb3⟩ : ∃ rb, rgB x.un = rb := ⟨_, rfl⟩
        have HR3 := hid hrb3
        rw [hrb3] at CR3
        have hcd3 : ChP s p mB D w ((L ++ (if (!rb1) = true then [((k : Int), (18 : Int), x.nm)] else [])) ++ (if (!rb2) = true then [((k : Int), (18 : Int), x.ac)] else [])) ov3 w9.drew := HC3.out.chg (S := fun _ => False) ((Chg.refl _ w9).drew) (fun q h => h.elim) HSZ.out
        have CH3 := hid (hcd3.hold HPM.out.1 HPM.out.2 (by have := HLL2.out; (try simp only [List.length_append]); have := hl1; have := hl2; omega) (k : Int) 18 x.un (!rb3))
        have y0 := HB3.out.cell 2
        have y1 := HC3.out.ch.fb.cell 0
        simp only [List.getElem?_toArray, List.getElem?_cons_zero, List.getElem?_cons_succ] at y0 y1
        have HY := hid (show w9.drew.cell? ⟨qs, 2, none⟩ = some (.string x.un) ∧ w9.drew.cell? ⟨s + 2, 0, none⟩ = some (.func (.func 30) #[] #[.pointer (some ⟨s + 1, 0, none⟩)]) from And.intro y0 y1)
        clear hrb3 hcd3
        go_wp2_with fail
        go_region_held3 (fun w' => w'.cell? ⟨qs, 2, none⟩ = some (.string x.un) ∧ w'.cell? ⟨s + 2, 0, none⟩ = some (.func (.func 30) #[] #[.pointer (some ⟨s + 1, 0, none⟩)])) (first | exact HY.out | exact HD.out) (first
          | (go_at_call 14; (with_reducible refine (CR3.out _).mono ?_); rintro e wa ⟨rfl, rfl⟩)
          | (go_at_call 30; (with_reducible refine CH3.out.mono ?_); rintro e w10 ⟨⟨v, rfl⟩, ov4, hcn, hbn, -, -⟩; have hbq := hbn _ _ _ (show Blk w9.drew qs _ _ from HB3.out) (by decide) (by have := HQS.out; omega); have HC4 := hid hcn; have HB4 := hid hbq; have z0 := hbq.cell 2; have z1 := hcn.ch.fb.cell 0; simp only [List.getElem?_toArray, List.getElem?_cons_zero, List.getElem?_cons_succ] at z0 z1; have HD := hid (And.intro z0 z1); clear hcn hbn hbq z0 z1))
        clear HY HD y0 y1 CH3
        have hl3 : (if (!rb3) = true then [((k : Int), (18 : Int), x.un)] else []).length ≤ 1 := by split <;> simp
        -- the first one
        have hcd4 := HC4.out
        obtain ⟨hch, hmb, Mp, hm1, hm2⟩ := hcd4
        have y0 := HB4.out.cell 0
        have y1 := hch.fb.cell 0
        have y2 := hmb.cell 0
        simp only [List.getElem?_toArray, List.getElem?_cons_zero, List.getElem?_cons_succ] at y0 y1 y2
        have hkey := plKey x.nm HZX.out.1
        obtain ⟨kl, hkl2⟩ : ∃ kl, Lit.string x.nm.data.toList = kl := ⟨_, rfl⟩
        rw [hkl2] at hkey
        have hat := (hm2 x.nm kl hkey).2 HIN.out
        have hixi : Nm.ixI (nms D.st.xs) x.nm = (Nm.ix (nms D.st.xs) x.nm : Int) := by unfold Nm.ixI; rw [if_pos (Nm.ix_lt.2 (Nm.inB_iff.1 HIN.out))]
        obtain ⟨J, hJ⟩ : ∃ J, Nm.ix (nms D.st.xs) x.nm = J := ⟨_, rfl⟩
        rw [hJ] at hat hixi
        obtain ⟨bl, hbl⟩ : ∃ bl : Bool, decide (J < k) = bl := ⟨_, rfl⟩
        have HM1 := hid hm1
        have CH4 := hid (HC4.out.hold HPM.out.1 HPM.out.2 (by have := HLL2.out; try simp only [List.length_append]; have := hl1; have := hl2; have := hl3; omega) (k : Int) 6 x.nm bl)
        have HIX := hid hixi
        have HBL := hid hbl
        clear hch hmb hm1 hm2 hkl2 hixi hJ
        go_wp2_with (at_lookup; refine lookup_vl _ rfl _ _ 55 rfl 9 3 .i64 plKeyed Try.underlying55 Try.underlying3 (plZero _) mB D.st.xs.length Mp rfl HM1.out _ _ rfl hkey (J : Int) hat ?_)
        with_reducible refine CH4.out.mono ?_
        rintro e w11 ⟨⟨v, rfl⟩, ov5, hc5, -, -, -⟩
        have HC5 := hid hc5
        clear y0 y1 y2 hkey hat CH4 HM1 hc5 hbl
        go_wp2_with fail
        go_roundw
        case rel => exact ⟨k + 1, ov5, by omega, by go_num, by
          rw [HNX.out]
          have h := HC5.out
          have e : (((L ++ (if (!rb1) = true then [((k : Int), (18 : Int), x.nm)] else [])) ++ (if (!rb2) = true then [((k : Int), (18 : Int), x.ac)] else [])) ++ (if (!rb3) = true then [((k : Int), (18 : Int), x.un)] else [])) ++ (if bl = true then [((k : Int), (6 : Int), x.nm)] else []) = L ++ Nm.chStep (nms D.st.xs) k x := by
            unfold Nm.chStep
            rw [HIX.out, HR1.out, HR2.out, HR3.out, ← HBL.out]
            have hus : x.un.size ≠ 0 := HUS.out
            by_cases hb : J < k <;> cases rb1 <;> cases rb2 <;> cases rb3 <;> simp [hb, hus]
          rw [← e]; exact h⟩
        case measure => simp [intOf] <;> omega
    · as_aux_lemma =>
      obtain rfl : k = D.st.xs.length := by omega
      rw [List.take_of_length_le (Nat.le_refl _)] at HC
      obtain ⟨LA, hLA⟩ : ∃ LA, Nm.chHead D ++ Nm.chA (nms D.st.xs) 0 D.st.xs = LA := ⟨_, rfl⟩
      have hLAl : LA.length ≤ 200 := by
        have h1 := Nm.chA_len (nms D.st.xs) D.st.xs 0
        have h2 := Nm.chHead_len D
        have h3 := HLL.out
        rw [← hLA, List.length_append]; omega
      have hLAok : ∀ x ∈ LA, DOk x := fun x hx => by
        rw [← hLA] at hx
        rcases List.mem_append.1 hx with h | h
        · exact Nm.ch_ok (nms D.st.xs) D HDZ.out x h
        · exact Nm.chA_ok (nms D.st.xs) D.st.xs 0 (by have := HLL.out; omega) HZ.out x h
      have hsrt := Nm.ch_srt D
      rw [hLA] at HC hsrt
      have HLA := hid hLAl
      have HOK := hid hLAok
      have HSRT := hid hsrt
      have g0 := HC.out.ch.db.cell 0
      have g1 := HC.out.ch.db.cell 1
      have g2 := HC.out.ch.db.cell 2
      simp only [List.getElem?_toArray, List.getElem?_cons_zero, List.getElem?_cons_succ] at g0 g1 g2
      clear hLA hLAl hLAok hsrt HCP
      go_wp2_with fail
      with_reducible refine ((callsIn_wide (n := m - 1)).1 (HMN.out _)).mono ?_
      rintro e w' ⟨rfl, rfl⟩
      obtain ⟨pb, hpb⟩ : ∃ pb, wr.heap.size = pb := ⟨_, rfl⟩
      rw [hpb]
      go_wp2_with fail
      refine (wpIn_wide (n := m)).1 ?_
      have hz : (wr.alloc (.cells #[.string D.nm, .string D.tx, .slice D.st.A D.st.xs.length D.st.c] 24)).heap.size = pb + 1 := by rw [World.size_alloc, hpb]
      have hbel := HC.out.ch.fb.lt
      have hpl := HC.out.mb.lt
      have hml : mB < wr.heap.size := by
        obtain ⟨Mp, ⟨es, cl, h1, -⟩, -⟩ := HC.out.mp
        exact (Array.getElem?_eq_some_iff.1 h1).1
      have hli : CmI s p mB pb D w (LA ++ Nm.menF (nms D.st.xs) D.st.xs 0) (wr.alloc (.cells #[.string D.nm, .string D.tx, .slice D.st.A D.st.xs.length D.st.c] 24)) := by
        refine ⟨ov, ?_, ?_, fun q hq => .inl ?_⟩
        · rw [show Nm.menF (nms D.st.xs) D.st.xs 0 = [] from rfl, List.append_nil]
          exact HC.out.chg (S := fun _ => False) ((Chg.refl _ wr).alloc _) (fun q h => h.elim) HSZ.out
        · have := Blk.new wr 24 #[.string D.nm, .string D.tx, .slice D.st.A D.st.xs.length D.st.c]; rw [hpb] at this; exact this
        · have := (HC.out.ch.ow.lt q hq).2; omega
      have HPB := hid (show s + 3 ≤ pb ∧ p < pb ∧ mB < pb by omega)
      generalize (wr.alloc (.cells #[.string D.nm, .string D.tx, .slice D.st.A D.st.xs.length D.st.c] 24)) = W9 at *
      have HLI := hid hli
      have HZZ := hid hz
      have HNL := hid (show ∀ j, j < (Nm.mnAll 0 D.st.xs).length → j ≤ 2100 from fun j hj => by have := Nm.mnAll_le D.st.xs 0 (fun x hx => (HT0.out x hx).2); have := HLL.out; omega)
      clear hz hli hbel hpl hml g0 g1 g2 HC hpb
      refine range_wide m (by omega) (pb + 1) HZZ.out (gf := 48) (lb := #[.pointer (some ⟨pb, 0, none⟩)]) rfl (enters_of Try.func48 (by kernel_rfl) rfl) (Nm.mnAll 0 D.st.xs).length (mnV D.st.xs) (fun _ => rfl) 1
        (fun j W' => CmI s p mB pb D w (LA ++ Nm.menF (nms D.st.xs) D.st.xs j) W') (fun c W' => False) ?_ ?_ ?_ ?_ ?_ ?_ ?_
      · exact fun j W1 W2 g hc => g.keep HPB.out HSZ.out hc (fun q hq => by omega)
      · exact fun c W1 W2 g _ => g
      · exact HLI.out
      · intro l2 J2 Jx2 W1 hw1 hJI hJn2 _ hJ0 hy
        refine mentions1_in (m - 1) (by omega) l2 pb (pb + 3) D HLL.out J2 Jx2 (fun j W h => ?_) (fun j W W' h hc => hJn2 j W W' h (hc.mono fun q _ hq => by omega)) (fun j W hj h hsz' => ?_) W1 (by omega) hJ0
        · obtain ⟨ov', h1, h2, h3⟩ := (hJI j W h).1
          exact ⟨h2, HST.out W h1.ch.bel, HTX.out W h1.ch.bel⟩
        · exact hy j W hj h (by omega)
      · rintro l2 j W1 hj hli hsz1
        have hm3 : 1 ≤ m - 1 - 1 := by omega
        obtain ⟨i, k, hi, hk, hjk, hgd⟩ := Nm.mn_get D.st.xs j hj
        have hnx := Nm.menF_next (nms D.st.xs) D.st.xs j hj
        have hlen := Nm.menF_len (nms D.st.xs) D.st.xs j
        have hj21 := HNL.out j hj
        have hgN : (nms D.st.xs).getD i ⟨#[]⟩ = D.st.xs[i].nm := by rw [List.getD_eq_getElem?_getD, List.getElem?_eq_getElem (by rw [nms_len]; exact hi), nms_at D.st.xs i hi]; rfl
        unfold mnV
        rw [hgd] at hnx ⊢
        simp only at hnx ⊢
        rw [hgN] at hnx
        have hlx := hli
        obtain ⟨ovx, hcx, -, -⟩ := hlx
        have hyz := (HTX.out W1 hcx.ch.bel _ (List.getElem_mem hi)).1.1 _ (List.getElem_mem hk)
        clear hcx
        have HST2 := hid (show ∀ W, Below s w W → ∃ g o, D.st.A = some ⟨g, o, none⟩ ∧ g < W.heap.size ∧ W.cell? ⟨g, o + i * 13, none⟩ = some (.string D.st.xs[i].nm) from fun W h => by obtain ⟨g, o, h1, h2, h3, -⟩ := st_at (X := D.st.xs) (HST.out W h) i hi; exact ⟨g, o, h1, h2, h3⟩)
        generalize Nm.inB (D.st.xs[i].af.xs.take k) D.st.xs[i].af.xs[k] = ag at *
        generalize D.st.xs[i].af.xs[k] = y at *
        generalize D.st.xs[i].nm = nm at *
        have hi30 : i < D.st.xs.length := hi
        have HNX := hid hnx
        have HLI1 := hid hli
        clear hli hnx hgd hj hjk hk hi HLI HZZ hgN
        gi_wp2
        have hca : Chg (fun _ => False) W1 (W1.alloc (.cells #[.int .i64 (i : Int), .string y] 61)) := (Chg.refl _ W1).alloc _
        refine ⟨KN.of_chg hca (by omega) (fun _ _ _ h => h), by rw [World.size_alloc]; omega, fun W2 hc2 => ?_⟩
        obtain ⟨ov1, hc1, ib, hv1⟩ := (HLI1.out.keep HPB.out HSZ.out hca (fun q hq => hq.elim)).keep HPB.out HSZ.out hc2 (fun q hq => by omega)
        have hbm := hc2.blk (Blk.new W1 61 #[.int .i64 (i : Int), .string y]) (by omega)
        have hsz2 := hc2.size
        rw [World.size_alloc] at hsz2
        obtain ⟨q, hq⟩ : ∃ q, W1.heap.size = q := ⟨_, rfl⟩
        rw [hq] at hbm hsz1 hsz2 ⊢
        obtain ⟨Mp, hm1, hm2⟩ := hc1.mp
        have y0 := hc1.mb.cell 0
        have y1 := hc1.ch.fb.cell 0
        have y2 := hbm.cell 0
        have y3 := hbm.cell 1
        simp only [List.getElem?_toArray, List.getElem?_cons_zero, List.getElem?_cons_succ] at y0 y1 y2 y3
        have hkey := plKey y hyz
        obtain ⟨kl, hkl2⟩ : ∃ kl, Lit.string y.data.toList = kl := ⟨_, rfl⟩
        rw [hkl2] at hkey
        have hhas := (hm2 y kl hkey).1
        obtain ⟨ok, hok⟩ : ∃ ok, Nm.inB (nms D.st.xs) y = ok := ⟨_, rfl⟩
        rw [hok] at hhas
        have HM1 := hid hm1
        have HC1 := hid hc1
        have IB := hid ib
        have HV1 := hid hv1
        have HBM := hid hbm
        have HOKB := hid hok
        have HLE := hid hlen
        have CH1 := hid (hc1.hold HPM.out.1 HPM.out.2 (by have := HLA.out; rw [List.length_append]; omega) (i : Int) 5 y (!ok))
        clear hm1 hm2 hc1 ib hv1 hbm hok hkl2 hca hc2 HLI1 hlen
        gi_wp2_with (gi_at_lookup; refine wpListIn_lookup_own_ok_int _ rfl _ _ 55 rfl 9 3 .i64 plKeyed Try.underlying55 Try.underlying3 (plZero _) mB D.st.xs.length Mp rfl HM1.out _ _ rfl hkey ?_; rw [hhas]; intro cc _ _)
        refine ⟨trivial, ?_⟩
        refine (CallsIn.inRound l2 ((callsIn_wide (n := m - 1 - 1 - 1)).2 CH1.out)).mono ?_
        rintro e W3 ⟨⟨v1, rfl⟩, ov2, hc2, hbn, hcg, hwn⟩
        have hbm3 := hbn _ _ _ HBM.out (by decide) (by have := HPB.out; omega)
        have hib3 := hbn _ _ _ IB.out (by decide) (by have := HPB.out; omega)
        obtain ⟨g, o, hA, hg, e0⟩ := HST2.out W3 hc2.ch.bel
        have hs23 := hcg.size
        have hv2 : ∀ q', ov2.ownBlock = some q' → q' < pb + 1 ∨ pb + 4 ≤ q' := fun q' h => by
          rcases hwn with hw | hw
          · rw [hw] at h; exact HV1.out q' h
          · have := hw q' h; omega
        have hT1 : Chg (fun q' => ¬ (pb + 1 ≤ q' ∧ q' < pb + 4)) W2 W3 := hcg.mono (fun q' _ h => by
          rcases h with h | h
          · have := HPB.out; omega
          · have := HV1.out q' h.symm; omega)
        obtain ⟨be, hbe⟩ : ∃ be : Bool, (y.toList == nm.toList) = be := ⟨_, rfl⟩
        have hcd2 : ChP s p mB D w ((LA ++ Nm.menF (nms D.st.xs) D.st.xs j) ++ (if (!ok) = true then [((i : Int), (5 : Int), y)] else [])) ov2 W3.drew := hc2.chg (S := fun _ => False) ((Chg.refl _ W3).drew) (fun q h => h.elim) HSZ.out
        have CH2 := hid (hcd2.hold HPM.out.1 HPM.out.2 (by have := HLA.out; have := HLE.out; have hb1 : (if (!ok) = true then [((i : Int), (5 : Int), y)] else []).length ≤ 1 := (by split <;> simp); rw [List.length_append, List.length_append]; omega) (i : Int) 8 y be)
        have z0 := hc2.ch.fb.cell 0
        have z1 := hbm3.cell 0
        have z2 := hbm3.cell 1
        have z3 := hc2.ch.db.cell 2
        simp only [List.getElem?_toArray, List.getElem?_cons_zero, List.getElem?_cons_succ] at z0 z1 z2 z3
        rw [hA] at z3
        have HY := hid (show W3.drew.cell? ⟨s + 2, 0, none⟩ = some (.func (.func 30) #[] #[.pointer (some ⟨s + 1, 0, none⟩)]) ∧ W3.drew.cell? ⟨q, 0, none⟩ = some (.int .i64 (i : Int)) ∧ W3.drew.cell? ⟨q, 1, none⟩ = some (.string y) ∧ W3.drew.cell? ⟨s, 2, none⟩ = some (.slice (some ⟨g, o, none⟩) D.st.xs.length D.st.c) ∧ W3.drew.cell? ⟨g, o + i * 13, none⟩ = some (.string nm) from ⟨z0, z1, z2, z3, e0⟩)
        obtain ⟨Φ, hΦ⟩ : ∃ Φ : World → Prop, Φ = fun W' => ∃ ov', ChP s p mB D w ((LA ++ Nm.menF (nms D.st.xs) D.st.xs j) ++ (if (!ok) = true then [((i : Int), (5 : Int), y)] else []) ++ (if be = true then [((i : Int), (8 : Int), y)] else [])) ov' W' ∧ Blk W' q 61 #[.int .i64 (i : Int), .string y] ∧ Blk W' pb 24 #[.string D.nm, .string D.tx, .slice D.st.A D.st.xs.length D.st.c] ∧ (∀ q', ov'.ownBlock = some q' → q' < pb + 1 ∨ pb + 4 ≤ q') ∧ Chg (fun q' => ¬ (pb + 1 ≤ q' ∧ q' < pb + 4)) W2 W' := ⟨_, rfl⟩
        have HPI := hid (show ∀ (ov' : Value) (W' : World), ChP s p mB D w ((LA ++ Nm.menF (nms D.st.xs) D.st.xs j) ++ (if (!ok) = true then [((i : Int), (5 : Int), y)] else []) ++ (if be = true then [((i : Int), (8 : Int), y)] else [])) ov' W' → (∀ g t cs, Blk W3.drew g t cs → t ≠ 53 → g ≠ s + 1 → Blk W' g t cs) → Chg (fun q' => q' = s + 1 ∨ some q' = ov2.ownBlock) W3.drew W' → (ov'.ownBlock = ov2.ownBlock ∨ ∀ q', ov'.ownBlock = some q' → W3.drew.heap.size ≤ q') → Φ W' from fun ov' W' h1 h2 h3 h4 => by
          rw [hΦ]
          refine ⟨ov', h1, h2 _ _ _ hbm3 (by decide) (by have := HPB.out; omega), h2 _ _ _ hib3 (by decide) (by have := HPB.out; omega), fun q' h => ?_, hT1.trans (((Chg.refl _ W3).drew).trans (h3.mono (fun q' _ h => ?_)))⟩
          · rcases h4 with hw | hw
            · rw [hw] at h; exact hv2 q' h
            · have h5 : W3.heap.size ≤ q' := hw q' h
              omega
          · rcases h with h | h
            · have := HPB.out; omega
            · have := hv2 q' h.symm; omega)
        have HPC := hid (show ∀ W', Φ W' → W'.cell? ⟨s + 2, 0, none⟩ = some (.func (.func 30) #[] #[.pointer (some ⟨s + 1, 0, none⟩)]) ∧ W'.cell? ⟨q, 0, none⟩ = some (.int .i64 (i : Int)) ∧ W'.cell? ⟨q, 1, none⟩ = some (.string y) ∧ W'.cell? ⟨s, 2, none⟩ = some (.slice (some ⟨g, o, none⟩) D.st.xs.length D.st.c) ∧ W'.cell? ⟨g, o + i * 13, none⟩ = some (.string nm) from fun W' h => by
          rw [hΦ] at h
          obtain ⟨ov', h1, h2, -, -, -⟩ := h
          obtain ⟨g', o', hA', -, e0'⟩ := HST2.out W' h1.ch.bel
          rw [hA] at hA'
          injection hA' with hA'
          injection hA' with hA1 hA2
          subst hA1; subst hA2
          have z0 := h1.ch.fb.cell 0
          have z1 := h2.cell 0
          have z2 := h2.cell 1
          have z3 := h1.ch.db.cell 2
          simp only [List.getElem?_toArray, List.getElem?_cons_zero, List.getElem?_cons_succ] at z0 z1 z2 z3
          rw [hA] at z3
          exact ⟨z0, z1, z2, z3, e0'⟩)
        have HPHI := hid hΦ
        have HBE := hid hbe
        have hii : (i : Int) < (D.st.xs.length : Int) := by omega
        have hi0' : (0 : Int) ≤ (i : Int) := by omega
        clear hcd2 z0 z1 z2 z3 hΦ hA hg e0 hc2 hbn hcg hwn hbm3 hib3 hv2 hT1 hs23 HM1 CH1 HST2 hkey hhas y0 y1 y2 y3
        gi_wp2
        refine wpIn_region_invB (by kernel_rfl) (by kernel_rfl) (ChR19 s q g o i y nm D.st.xs.length D.st.c be Φ) ?_ ?_ ?_
        · exact ⟨undef, undef, undef, undef, undef, undef, undef, undef, undef, undef, undef, undef, undef, undef, undef, undef, (by first | (simp only [Act.put, List.setIfInBounds_toArray, List.set_cons_succ, List.set_cons_zero]; done) | rfl), by simp, by simp, by simp, by simp, by simp, by simp, by simp, by simp, by simp, by simp, by simp, by simp, by simp, by simp, by simp, (Or.inl (⟨by simp, rfl⟩))⟩
        · intro f a' wx i o ho hf hdep hI
          have hi : i < 16 := (Array.getElem?_eq_some_iff.1 ho).1
          have hcase : i = 0 ∨ i = 1 ∨ i = 2 ∨ i = 3 ∨ i = 4 ∨ i = 5 ∨ i = 6 ∨ i = 7 ∨ i = 8 ∨ i = 9 ∨ i = 10 ∨ i = 11 ∨ i = 12 ∨ i = 13 ∨ i = 14 ∨ i = 15 := by omega
          clear hi
          rcases hcase with rfl | rfl | rfl | rfl | rfl | rfl | rfl | rfl | rfl | rfl | rfl | rfl | rfl | rfl | rfl | rfl
          all_goals
            simp only [List.getElem?_toArray, List.getElem?_cons_zero, List.getElem?_cons_succ, Option.some.injEq] at ho
            subst ho
          · -- 0
            obtain ⟨x0, x1, x2, x3, x4, x5, x6, x7, x8, x9, x10, x11, x12, x13, x14, x15, rfl, h0, h1, h2, h3, h4, h5, h6, h7, h8, h9, h10, h11, h12, h13, h14, hP⟩ := hI
            have z0 : wx.cell? ⟨s + 2, 0, none⟩ = some (.func (.func 30) #[] #[.pointer (some ⟨s + 1, 0, none⟩)]) := by
              rcases hP with haP | hbP
              · have hP := haP.2; rw [hP]; exact HY.out.1
              · have hP := hbP.2; exact (HPC.out _ hP).1
            have H0' := hid h0; have H1' := hid h1; have H2' := hid h2; have H3' := hid h3; have H4' := hid h4; have H5' := hid h5; have H6' := hid h6; have H7' := hid h7; have H8' := hid h8; have H9' := hid h9; have H10' := hid h10; have H11' := hid h11; have H12' := hid h12; have H13' := hid h13; have H14' := hid h14; clear h0 h1 h2 h3 h4 h5 h6 h7 h8 h9 h10 h11 h12 h13 h14
            have HPP := hid hP; clear hP
            try simp only [Act.put, List.setIfInBounds_toArray, List.set_cons_succ, List.set_cons_zero]
            gi_wp2
            have h0 := H0'.out; have h1 := H1'.out; have h2 := H2'.out; have h3 := H3'.out; have h4 := H4'.out; have h5 := H5'.out; have h6 := H6'.out; have h7 := H7'.out; have h8 := H8'.out; have h9 := H9'.out; have h10 := H10'.out; have h11 := H11'.out; have h12 := H12'.out; have h13 := H13'.out; have h14 := H14'.out
            refine ⟨_, x1, x2, x3, x4, x5, x6, x7, x8, x9, x10, x11, x12, x13, x14, x15, (by first | (simp only [Act.put, List.setIfInBounds_toArray, List.set_cons_succ, List.set_cons_zero]; done) | rfl), (fun _ => rfl), (fun h => h1 (by simpa using h)), (fun h => h2 (by simpa using h)), (fun h => h3 (by simpa using h)), (fun h => h4 (by simpa using h)), (fun h => h5 (by simpa using h)), (fun h => h6 (by simpa using h)), (fun h => h7 (by simpa using h)), (fun h => h8 (by simpa using h)), (fun h => h9 (by simpa using h)), (fun h => h10 (by simpa using h)), (fun h => h11 (by simpa using h)), (fun h => h12 (by simpa using h)), (fun h => h13 (by simpa using h)), (fun h => h14 (by simpa using h)), ?_⟩
            rcases HPP.out with h | h
            · exact (Or.inl (⟨(by simpa using h.1), h.2⟩))
            · exact (Or.inr (⟨(by simpa using h.1), h.2⟩))
          · -- 1
            obtain ⟨x0, x1, x2, x3, x4, x5, x6, x7, x8, x9, x10, x11, x12, x13, x14, x15, rfl, h0, h1, h2, h3, h4, h5, h6, h7, h8, h9, h10, h11, h12, h13, h14, hP⟩ := hI
            have H0' := hid h0; have H1' := hid h1; have H2' := hid h2; have H3' := hid h3; have H4' := hid h4; have H5' := hid h5; have H6' := hid h6; have H7' := hid h7; have H8' := hid h8; have H9' := hid h9; have H10' := hid h10; have H11' := hid h11; have H12' := hid h12; have H13' := hid h13; have H14' := hid h14; clear h0 h1 h2 h3 h4 h5 h6 h7 h8 h9 h10 h11 h12 h13 h14
            have HPP := hid hP; clear hP
            try simp only [Act.put, List.setIfInBounds_toArray, List.set_cons_succ, List.set_cons_zero]
            gi_wp2
            have h0 := H0'.out; have h1 := H1'.out; have h2 := H2'.out; have h3 := H3'.out; have h4 := H4'.out; have h5 := H5'.out; have h6 := H6'.out; have h7 := H7'.out; have h8 := H8'.out; have h9 := H9'.out; have h10 := H10'.out; have h11 := H11'.out; have h12 := H12'.out; have h13 := H13'.out; have h14 := H14'.out
            refine ⟨x0, _, x2, x3, x4, x5, x6, x7, x8, x9, x10, x11, x12, x13, x14, x15, (by first | (simp only [Act.put, List.setIfInBounds_toArray, List.set_cons_succ, List.set_cons_zero]; done) | rfl), (fun h => h0 (by simpa using h)), (fun _ => rfl), (fun h => h2 (by simpa using h)), (fun h => h3 (by simpa using h)), (fun h => h4 (by simpa using h)), (fun h => h5 (by simpa using h)), (fun h => h6 (by simpa using h)), (fun h => h7 (by simpa using h)), (fun h => h8 (by simpa using h)), (fun h => h9 (by simpa using h)), (fun h => h10 (by simpa using h)), (fun h => h11 (by simpa using h)), (fun h => h12 (by simpa using h)), (fun h => h13 (by simpa using h)), (fun h => h14 (by simpa using h)), ?_⟩
            rcases HPP.out with h | h
            · exact (Or.inl (⟨(by simpa using h.1), h.2⟩))
            · exact (Or.inr (⟨(by simpa using h.1), h.2⟩))
          · -- 2
            obtain ⟨x0, x1, x2, x3, x4, x5, x6, x7, x8, x9, x10, x11, x12, x13, x14, x15, rfl, h0, h1, h2, h3, h4, h5, h6, h7, h8, h9, h10, h11, h12, h13, h14, hP⟩ := hI
            try simp [Region.binds] at hdep
            obtain rfl := h1 (by first | exact hdep | exact hdep.1 | exact hdep.2 | exact hdep.2.1 | exact hdep.2.2 | exact hdep.2.2.1 | exact hdep.2.2.2 | simp_all)
            have z1 : wx.cell? ⟨q, 0, none⟩ = some (.int .i64 (i : Int)) := by
              rcases hP with haP | hbP
              · have hP := haP.2; rw [hP]; exact HY.out.2.1
              · have hP := hbP.2; exact (HPC.out _ hP).2.1
            have H0' := hid h0; have H1' := hid h1; have H2' := hid h2; have H3' := hid h3; have H4' := hid h4; have H5' := hid h5; have H6' := hid h6; have H7' := hid h7; have H8' := hid h8; have H9' := hid h9; have H10' := hid h10; have H11' := hid h11; have H12' := hid h12; have H13' := hid h13; have H14' := hid h14; clear h0 h1 h2 h3 h4 h5 h6 h7 h8 h9 h10 h11 h12 h13 h14
            have HPP := hid hP; clear hP
            try simp only [Act.put, List.setIfInBounds_toArray, List.set_cons_succ, List.set_cons_zero]
            gi_wp2
            have h0 := H0'.out; have h1 := H1'.out; have h2 := H2'.out; have h3 := H3'.out; have h4 := H4'.out; have h5 := H5'.out; have h6 := H6'.out; have h7 := H7'.out; have h8 := H8'.out; have h9 := H9'.out; have h10 := H10'.out; have h11 := H11'.out; have h12 := H12'.out; have h13 := H13'.out; have h14 := H14'.out
            refine ⟨x0, _, _, x3, x4, x5, x6, x7, x8, x9, x10, x11, x12, x13, x14, x15, (by first | (simp only [Act.put, List.setIfInBounds_toArray, List.set_cons_succ, List.set_cons_zero]; done) | rfl), (fun h => h0 (by simpa using h)), (fun _ => rfl), (fun _ => rfl), (fun h => h3 (by simpa using h)), (fun h => h4 (by simpa using h)), (fun h => h5 (by simpa using h)), (fun h => h6 (by simpa using h)), (fun h => h7 (by simpa using h)), (fun h => h8 (by simpa using h)), (fun h => h9 (by simpa using h)), (fun h => h10 (by simpa using h)), (fun h => h11 (by simpa using h)), (fun h => h12 (by simpa using h)), (fun h => h13 (by simpa using h)), (fun h => h14 (by simpa using h)), ?_⟩
            rcases HPP.out with h | h
            · exact (Or.inl (⟨(by simpa using h.1), h.2⟩))
            · exact (Or.inr (⟨(by simpa using h.1), h.2⟩))
          · -- 3
            obtain ⟨x0, x1, x2, x3, x4, x5, x6, x7, x8, x9, x10, x11, x12, x13, x14, x15, rfl, h0, h1, h2, h3, h4, h5, h6, h7, h8, h9, h10, h11, h12, h13, h14, hP⟩ := hI
            have H0' := hid h0; have H1' := hid h1; have H2' := hid h2; have H3' := hid h3; have H4' := hid h4; have H5' := hid h5; have H6' := hid h6; have H7' := hid h7; have H8' := hid h8; have H9' := hid h9; have H10' := hid h10; have H11' := hid h11; have H12' := hid h12; have H13' := hid h13; have H14' := hid h14; clear h0 h1 h2 h3 h4 h5 h6 h7 h8 h9 h10 h11 h12 h13 h14
            have HPP := hid hP; clear hP
            try simp only [Act.put, List.setIfInBounds_toArray, List.set_cons_succ, List.set_cons_zero]
            gi_wp2
            have h0 := H0'.out; have h1 := H1'.out; have h2 := H2'.out; have h3 := H3'.out; have h4 := H4'.out; have h5 := H5'.out; have h6 := H6'.out; have h7 := H7'.out; have h8 := H8'.out; have h9 := H9'.out; have h10 := H10'.out; have h11 := H11'.out; have h12 := H12'.out; have h13 := H13'.out; have h14 := H14'.out
            refine ⟨x0, x1, x2, _, x4, x5, x6, x7, x8, x9, x10, x11, x12, x13, x14, x15, (by first | (simp only [Act.put, List.setIfInBounds_toArray, List.set_cons_succ, List.set_cons_zero]; done) | rfl), (fun h => h0 (by simpa using h)), (fun h => h1 (by simpa using h)), (fun h => h2 (by simpa using h)), (fun _ => rfl), (fun h => h4 (by simpa using h)), (fun h => h5 (by simpa using h)), (fun h => h6 (by simpa using h)), (fun h => h7 (by simpa using h)), (fun h => h8 (by simpa using h)), (fun h => h9 (by simpa using h)), (fun h => h10 (by simpa using h)), (fun h => h11 (by simpa using h)), (fun h => h12 (by simpa using h)), (fun h => h13 (by simpa using h)), (fun h => h14 (by simpa using h)), ?_⟩
            rcases HPP.out with h | h
            · exact (Or.inl (⟨(by simpa using h.1), h.2⟩))
            · exact (Or.inr (⟨(by simpa using h.1), h.2⟩))
          · -- 4
            obtain ⟨x0, x1, x2, x3, x4, x5, x6, x7, x8, x9, x10, x11, x12, x13, x14, x15, rfl, h0, h1, h2, h3, h4, h5, h6, h7, h8, h9, h10, h11, h12, h13, h14, hP⟩ := hI
            try simp [Region.binds] at hdep
            obtain rfl := h3 (by first | exact hdep | exact hdep.1 | exact hdep.2 | exact hdep.2.1 | exact hdep.2.2 | exact hdep.2.2.1 | exact hdep.2.2.2 | simp_all)
            have z2 : wx.cell? ⟨q, 1, none⟩ = some (.string y) := by
              rcases hP with haP | hbP
              · have hP := haP.2; rw [hP]; exact HY.out.2.2.1
              · have hP := hbP.2; exact (HPC.out _ hP).2.2.1
            have H0' := hid h0; have H1' := hid h1; have H2' := hid h2; have H3' := hid h3; have H4' := hid h4; have H5' := hid h5; have H6' := hid h6; have H7' := hid h7; have H8' := hid h8; have H9' := hid h9; have H10' := hid h10; have H11' := hid h11; have H12' := hid h12; have H13' := hid h13; have H14' := hid h14; clear h0 h1 h2 h3 h4 h5 h6 h7 h8 h9 h10 h11 h12 h13 h14
            have HPP := hid hP; clear hP
            try simp only [Act.put, List.setIfInBounds_toArray, List.set_cons_succ, List.set_cons_zero]
            gi_wp2
            have h0 := H0'.out; have h1 := H1'.out; have h2 := H2'.out; have h3 := H3'.out; have h4 := H4'.out; have h5 := H5'.out; have h6 := H6'.out; have h7 := H7'.out; have h8 := H8'.out; have h9 := H9'.out; have h10 := H10'.out; have h11 := H11'.out; have h12 := H12'.out; have h13 := H13'.out; have h14 := H14'.out
            refine ⟨x0, x1, x2, _, _, x5, x6, x7, x8, x9, x10, x11, x12, x13, x14, x15, (by first | (simp only [Act.put, List.setIfInBounds_toArray, List.set_cons_succ, List.set_cons_zero]; done) | rfl), (fun h => h0 (by simpa using h)), (fun h => h1 (by simpa using h)), (fun h => h2 (by simpa using h)), (fun _ => rfl), (fun _ => rfl), (fun h => h5 (by simpa using h)), (fun h => h6 (by simpa using h)), (fun h => h7 (by simpa using h)), (fun h => h8 (by simpa using h)), (fun h => h9 (by simpa using h)), (fun h => h10 (by simpa using h)), (fun h => h11 (by simpa using h)), (fun h => h12 (by simpa using h)), (fun h => h13 (by simpa using h)), (fun h => h14 (by simpa using h)), ?_⟩
            rcases HPP.out with h | h
            · exact (Or.inl (⟨(by simpa using h.1), h.2⟩))
            · exact (Or.inr (⟨(by simpa using h.1), h.2⟩))
          · -- 5
            obtain ⟨x0, x1, x2, x3, x4, x5, x6, x7, x8, x9, x10, x11, x12, x13, x14, x15, rfl, h0, h1, h2, h3, h4, h5, h6, h7, h8, h9, h10, h11, h12, h13, h14, hP⟩ := hI
            have H0' := hid h0; have H1' := hid h1; have H2' := hid h2; have H3' := hid h3; have H4' := hid h4; have H5' := hid h5; have H6' := hid h6; have H7' := hid h7; have H8' := hid h8; have H9' := hid h9; have H10' := hid h10; have H11' := hid h11; have H12' := hid h12; have H13' := hid h13; have H14' := hid h14; clear h0 h1 h2 h3 h4 h5 h6 h7 h8 h9 h10 h11 h12 h13 h14
            have HPP := hid hP; clear hP
            try simp only [Act.put, List.setIfInBounds_toArray, List.set_cons_succ, List.set_cons_zero]
            gi_wp2
            have h0 := H0'.out; have h1 := H1'.out; have h2 := H2'.out; have h3 := H3'.out; have h4 := H4'.out; have h5 := H5'.out; have h6 := H6'.out; have h7 := H7'.out; have h8 := H8'.out; have h9 := H9'.out; have h10 := H10'.out; have h11 := H11'.out; have h12 := H12'.out; have h13 := H13'.out; have h14 := H14'.out
            refine ⟨x0, x1, x2, x3, x4, _, x6, x7, x8, x9, x10, x11, x12, x13, x14, x15, (by first | (simp only [Act.put, List.setIfInBounds_toArray, List.set_cons_succ, List.set_cons_zero]; done) | rfl), (fun h => h0 (by simpa using h)), (fun h => h1 (by simpa using h)), (fun h => h2 (by simpa using h)), (fun h => h3 (by simpa using h)), (fun h => h4 (by simpa using h)), (fun _ => rfl), (fun h => h6 (by simpa using h)), (fun h => h7 (by simpa using h)), (fun h => h8 (by simpa using h)), (fun h => h9 (by simpa using h)), (fun h => h10 (by simpa using h)), (fun h => h11 (by simpa using h)), (fun h => h12 (by simpa using h)), (fun h => h13 (by simpa using h)), (fun h => h14 (by simpa using h)), ?_⟩
            rcases HPP.out with h | h
            · exact (Or.inl (⟨(by simpa using h.1), h.2⟩))
            · exact (Or.inr (⟨(by simpa using h.1), h.2⟩))
          · -- 6
            obtain ⟨x0, x1, x2, x3, x4, x5, x6, x7, x8, x9, x10, x11, x12, x13, x14, x15, rfl, h0, h1, h2, h3, h4, h5, h6, h7, h8, h9, h10, h11, h12, h13, h14, hP⟩ := hI
            try simp [Region.binds] at hdep
            obtain rfl := h5 (by first | exact hdep | exact hdep.1 | exact hdep.2 | exact hdep.2.1 | exact hdep.2.2 | exact hdep.2.2.1 | exact hdep.2.2.2 | simp_all)
            have z2 : wx.cell? ⟨q, 1, none⟩ = some (.string y) := by
              rcases hP with haP | hbP
              · have hP := haP.2; rw [hP]; exact HY.out.2.2.1
              · have hP := hbP.2; exact (HPC.out _ hP).2.2.1
            have H0' := hid h0; have H1' := hid h1; have H2' := hid h2; have H3' := hid h3; have H4' := hid h4; have H5' := hid h5; have H6' := hid h6; have H7' := hid h7; have H8' := hid h8; have H9' := hid h9; have H10' := hid h10; have H11' := hid h11; have H12' := hid h12; have H13' := hid h13; have H14' := hid h14; clear h0 h1 h2 h3 h4 h5 h6 h7 h8 h9 h10 h11 h12 h13 h14
            have HPP := hid hP; clear hP
            try simp only [Act.put, List.setIfInBounds_toArray, List.set_cons_succ, List.set_cons_zero]
            gi_wp2
            have h0 := H0'.out; have h1 := H1'.out; have h2 := H2'.out; have h3 := H3'.out; have h4 := H4'.out; have h5 := H5'.out; have h6 := H6'.out; have h7 := H7'.out; have h8 := H8'.out; have h9 := H9'.out; have h10 := H10'.out; have h11 := H11'.out; have h12 := H12'.out; have h13 := H13'.out; have h14 := H14'.out
            refine ⟨x0, x1, x2, x3, x4, _, _, x7, x8, x9, x10, x11, x12, x13, x14, x15, (by first | (simp only [Act.put, List.setIfInBounds_toArray, List.set_cons_succ, List.set_cons_zero]; done) | rfl), (fun h => h0 (by simpa using h)), (fun h => h1 (by simpa using h)), (fun h => h2 (by simpa using h)), (fun h => h3 (by simpa using h)), (fun h => h4 (by simpa using h)), (fun _ => rfl), (fun _ => rfl), (fun h => h7 (by simpa using h)), (fun h => h8 (by simpa using h)), (fun h => h9 (by simpa using h)), (fun h => h10 (by simpa using h)), (fun h => h11 (by simpa using h)), (fun h => h12 (by simpa using h)), (fun h => h13 (by simpa using h)), (fun h => h14 (by simpa using h)), ?_⟩
            rcases HPP.out with h | h
            · exact (Or.inl (⟨(by simpa using h.1), h.2⟩))
            · exact (Or.inr (⟨(by simpa using h.1), h.2⟩))
          · -- 7
            obtain ⟨x0, x1, x2, x3, x4, x5, x6, x7, x8, x9, x10, x11, x12, x13, x14, x15, rfl, h0, h1, h2, h3, h4, h5, h6, h7, h8, h9, h10, h11, h12, h13, h14, hP⟩ := hI
            have H0' := hid h0; have H1' := hid h1; have H2' := hid h2; have H3' := hid h3; have H4' := hid h4; have H5' := hid h5; have H6' := hid h6; have H7' := hid h7; have H8' := hid h8; have H9' := hid h9; have H10' := hid h10; have H11' := hid h11; have H12' := hid h12; have H13' := hid h13; have H14' := hid h14; clear h0 h1 h2 h3 h4 h5 h6 h7 h8 h9 h10 h11 h12 h13 h14
            have HPP := hid hP; clear hP
            try simp only [Act.put, List.setIfInBounds_toArray, List.set_cons_succ, List.set_cons_zero]
            gi_wp2
            have h0 := H0'.out; have h1 := H1'.out; have h2 := H2'.out; have h3 := H3'.out; have h4 := H4'.out; have h5 := H5'.out; have h6 := H6'.out; have h7 := H7'.out; have h8 := H8'.out; have h9 := H9'.out; have h10 := H10'.out; have h11 := H11'.out; have h12 := H12'.out; have h13 := H13'.out; have h14 := H14'.out
            refine ⟨x0, x1, x2, x3, x4, x5, x6, _, x8, x9, x10, x11, x12, x13, x14, x15, (by first | (simp only [Act.put, List.setIfInBounds_toArray, List.set_cons_succ, List.set_cons_zero]; done) | rfl), (fun h => h0 (by simpa using h)), (fun h => h1 (by simpa using h)), (fun h => h2 (by simpa using h)), (fun h => h3 (by simpa using h)), (fun h => h4 (by simpa using h)), (fun h => h5 (by simpa using h)), (fun h => h6 (by simpa using h)), (fun _ => rfl), (fun h => h8 (by simpa using h)), (fun h => h9 (by simpa using h)), (fun h => h10 (by simpa using h)), (fun h => h11 (by simpa using h)), (fun h => h12 (by simpa using h)), (fun h => h13 (by simpa using h)), (fun h => h14 (by simpa using h)), ?_⟩
            rcases HPP.out with h | h
            · exact (Or.inl (⟨(by simpa using h.1), h.2⟩))
            · exact (Or.inr (⟨(by simpa using h.1), h.2⟩))
          · -- 8
            obtain ⟨x0, x1, x2, x3, x4, x5, x6, x7, x8, x9, x10, x11, x12, x13, x14, x15, rfl, h0, h1, h2, h3, h4, h5, h6, h7, h8, h9, h10, h11, h12, h13, h14, hP⟩ := hI
            try simp [Region.binds] at hdep
            obtain rfl := h7 (by first | exact hdep | exact hdep.1 | exact hdep.2 | exact hdep.2.1 | exact hdep.2.2 | exact hdep.2.2.1 | exact hdep.2.2.2 | simp_all)
            have z3 : wx.cell? ⟨s, 2, none⟩ = some (.slice (some ⟨g, o, none⟩) D.st.xs.length D.st.c) := by
              rcases hP with haP | hbP
              · have hP := haP.2; rw [hP]; exact HY.out.2.2.2.1
              · have hP := hbP.2; exact (HPC.out _ hP).2.2.2.1
            have H0' := hid h0; have H1' := hid h1; have H2' := hid h2; have H3' := hid h3; have H4' := hid h4; have H5' := hid h5; have H6' := hid h6; have H7' := hid h7; have H8' := hid h8; have H9' := hid h9; have H10' := hid h10; have H11' := hid h11; have H12' := hid h12; have H13' := hid h13; have H14' := hid h14; clear h0 h1 h2 h3 h4 h5 h6 h7 h8 h9 h10 h11 h12 h13 h14
            have HPP := hid hP; clear hP
            try simp only [Act.put, List.setIfInBounds_toArray, List.set_cons_succ, List.set_cons_zero]
            gi_wp2
            have h0 := H0'.out; have h1 := H1'.out; have h2 := H2'.out; have h3 := H3'.out; have h4 := H4'.out; have h5 := H5'.out; have h6 := H6'.out; have h7 := H7'.out; have h8 := H8'.out; have h9 := H9'.out; have h10 := H10'.out; have h11 := H11'.out; have h12 := H12'.out; have h13 := H13'.out; have h14 := H14'.out
            refine ⟨x0, x1, x2, x3, x4, x5, x6, _, _, x9, x10, x11, x12, x13, x14, x15, (by first | (simp only [Act.put, List.setIfInBounds_toArray, List.set_cons_succ, List.set_cons_zero]; done) | rfl), (fun h => h0 (by simpa using h)), (fun h => h1 (by simpa using h)), (fun h => h2 (by simpa using h)), (fun h => h3 (by simpa using h)), (fun h => h4 (by simpa using h)), (fun h => h5 (by simpa using h)), (fun h => h6 (by simpa using h)), (fun _ => rfl), (fun _ => rfl), (fun h => h9 (by simpa using h)), (fun h => h10 (by simpa using h)), (fun h => h11 (by simpa using h)), (fun h => h12 (by simpa using h)), (fun h => h13 (by simpa using h)), (fun h => h14 (by simpa using h)), ?_⟩
            rcases HPP.out with h | h
            · exact (Or.inl (⟨(by simpa using h.1), h.2⟩))
            · exact (Or.inr (⟨(by simpa using h.1), h.2⟩))
          · -- 9
            obtain ⟨x0, x1, x2, x3, x4, x5, x6, x7, x8, x9, x10, x11, x12, x13, x14, x15, rfl, h0, h1, h2, h3, h4, h5, h6, h7, h8, h9, h10, h11, h12, h13, h14, hP⟩ := hI
            have H0' := hid h0; have H1' := hid h1; have H2' := hid h2; have H3' := hid h3; have H4' := hid h4; have H5' := hid h5; have H6' := hid h6; have H7' := hid h7; have H8' := hid h8; have H9' := hid h9; have H10' := hid h10; have H11' := hid h11; have H12' := hid h12; have H13' := hid h13; have H14' := hid h14; clear h0 h1 h2 h3 h4 h5 h6 h7 h8 h9 h10 h11 h12 h13 h14
            have HPP := hid hP; clear hP
            try simp only [Act.put, List.setIfInBounds_toArray, List.set_cons_succ, List.set_cons_zero]
            gi_wp2
            have h0 := H0'.out; have h1 := H1'.out; have h2 := H2'.out; have h3 := H3'.out; have h4 := H4'.out; have h5 := H5'.out; have h6 := H6'.out; have h7 := H7'.out; have h8 := H8'.out; have h9 := H9'.out; have h10 := H10'.out; have h11 := H11'.out; have h12 := H12'.out; have h13 := H13'.out; have h14 := H14'.out
            refine ⟨x0, x1, x2, x3, x4, x5, x6, x7, x8, _, x10, x11, x12, x13, x14, x15, (by first | (simp only [Act.put, List.setIfInBounds_toArray, List.set_cons_succ, List.set_cons_zero]; done) | rfl), (fun h => h0 (by simpa using h)), (fun h => h1 (by simpa using h)), (fun h => h2 (by simpa using h)), (fun h => h3 (by simpa using h)), (fun h => h4 (by simpa using h)), (fun h => h5 (by simpa using h)), (fun h => h6 (by simpa using h)), (fun h => h7 (by simpa using h)), (fun h => h8 (by simpa using h)), (fun _ => rfl), (fun h => h10 (by simpa using h)), (fun h => h11 (by simpa using h)), (fun h => h12 (by simpa using h)), (fun h => h13 (by simpa using h)), (fun h => h14 (by simpa using h)), ?_⟩
            rcases HPP.out with h | h
            · exact (Or.inl (⟨(by simpa using h.1), h.2⟩))
            · exact (Or.inr (⟨(by simpa using h.1), h.2⟩))
          · -- 10
            obtain ⟨x0, x1, x2, x3, x4, x5, x6, x7, x8, x9, x10, x11, x12, x13, x14, x15, rfl, h0, h1, h2, h3, h4, h5, h6, h7, h8, h9, h10, h11, h12, h13, h14, hP⟩ := hI
            try simp [Region.binds] at hdep
            obtain rfl := h9 (by first | exact hdep | exact hdep.1 | exact hdep.2 | exact hdep.2.1 | exact hdep.2.2 | exact hdep.2.2.1 | exact hdep.2.2.2 | simp_all)
            have z1 : wx.cell? ⟨q, 0, none⟩ = some (.int .i64 (i : Int)) := by
              rcases hP with haP | hbP
              · have hP := haP.2; rw [hP]; exact HY.out.2.1
              · have hP := hbP.2; exact (HPC.out _ hP).2.1
            have H0' := hid h0; have H1' := hid h1; have H2' := hid h2; have H3' := hid h3; have H4' := hid h4; have H5' := hid h5; have H6' := hid h6; have H7' := hid h7; have H8' := hid h8; have H9' := hid h9; have H10' := hid h10; have H11' := hid h11; have H12' := hid h12; have H13' := hid h13; have H14' := hid h14; clear h0 h1 h2 h3 h4 h5 h6 h7 h8 h9 h10 h11 h12 h13 h14
            have HPP := hid hP; clear hP
            try simp only [Act.put, List.setIfInBounds_toArray, List.set_cons_succ, List.set_cons_zero]
            gi_wp2
            have h0 := H0'.out; have h1 := H1'.out; have h2 := H2'.out; have h3 := H3'.out; have h4 := H4'.out; have h5 := H5'.out; have h6 := H6'.out; have h7 := H7'.out; have h8 := H8'.out; have h9 := H9'.out; have h10 := H10'.out; have h11 := H11'.out; have h12 := H12'.out; have h13 := H13'.out; have h14 := H14'.out
            refine ⟨x0, x1, x2, x3, x4, x5, x6, x7, x8, _, _, x11, x12, x13, x14, x15, (by first | (simp only [Act.put, List.setIfInBounds_toArray, List.set_cons_succ, List.set_cons_zero]; done) | rfl), (fun h => h0 (by simpa using h)), (fun h => h1 (by simpa using h)), (fun h => h2 (by simpa using h)), (fun h => h3 (by simpa using h)), (fun h => h4 (by simpa using h)), (fun h => h5 (by simpa using h)), (fun h => h6 (by simpa using h)), (fun h => h7 (by simpa using h)), (fun h => h8 (by simpa using h)), (fun _ => rfl), (fun _ => rfl), (fun h => h11 (by simpa using h)), (fun h => h12 (by simpa using h)), (fun h => h13 (by simpa using h)), (fun h => h14 (by simpa using h)), ?_⟩
            rcases HPP.out with h | h
            · exact (Or.inl (⟨(by simpa using h.1), h.2⟩))
            · exact (Or.inr (⟨(by simpa using h.1), h.2⟩))
          · -- 11
            obtain ⟨x0, x1, x2, x3, x4, x5, x6, x7, x8, x9, x10, x11, x12, x13, x14, x15, rfl, h0, h1, h2, h3, h4, h5, h6, h7, h8, h9, h10, h11, h12, h13, h14, hP⟩ := hI
            try simp [Region.binds] at hdep
            obtain rfl := h8 (by first | exact hdep | exact hdep.1 | exact hdep.2 | exact hdep.2.1 | exact hdep.2.2 | exact hdep.2.2.1 | exact hdep.2.2.2 | simp_all)
            obtain rfl := h10 (by first | exact hdep | exact hdep.1 | exact hdep.2 | exact hdep.2.1 | exact hdep.2.2 | exact hdep.2.2.1 | exact hdep.2.2.2 | simp_all)
            have H0' := hid h0; have H1' := hid h1; have H2' := hid h2; have H3' := hid h3; have H4' := hid h4; have H5' := hid h5; have H6' := hid h6; have H7' := hid h7; have H8' := hid h8; have H9' := hid h9; have H10' := hid h10; have H11' := hid h11; have H12' := hid h12; have H13' := hid h13; have H14' := hid h14; clear h0 h1 h2 h3 h4 h5 h6 h7 h8 h9 h10 h11 h12 h13 h14
            have HPP := hid hP; clear hP
            try simp only [Act.put, List.setIfInBounds_toArray, List.set_cons_succ, List.set_cons_zero]
            gi_wp2
            have h0 := H0'.out; have h1 := H1'.out; have h2 := H2'.out; have h3 := H3'.out; have h4 := H4'.out; have h5 := H5'.out; have h6 := H6'.out; have h7 := H7'.out; have h8 := H8'.out; have h9 := H9'.out; have h10 := H10'.out; have h11 := H11'.out; have h12 := H12'.out; have h13 := H13'.out; have h14 := H14'.out
            refine ⟨x0, x1, x2, x3, x4, x5, x6, x7, _, x9, _, _, x12, x13, x14, x15, (by first | (simp only [Act.put, List.setIfInBounds_toArray, List.set_cons_succ, List.set_cons_zero]; done) | rfl), (fun h => h0 (by simpa using h)), (fun h => h1 (by simpa using h)), (fun h => h2 (by simpa using h)), (fun h => h3 (by simpa using h)), (fun h => h4 (by simpa using h)), (fun h => h5 (by simpa using h)), (fun h => h6 (by simpa using h)), (fun h => h7 (by simpa using h)), (fun _ => rfl), (fun h => h9 (by simpa using h)), (fun _ => rfl), (fun _ => rfl), (fun h => h12 (by simpa using h)), (fun h => h13 (by simpa using h)), (fun h => h14 (by simpa using h)), ?_⟩
            rcases HPP.out with h | h
            · exact (Or.inl (⟨(by simpa using h.1), h.2⟩))
            · exact (Or.inr (⟨(by simpa using h.1), h.2⟩))
          · -- 12
            obtain ⟨x0, x1, x2, x3, x4, x5, x6, x7, x8, x9, x10, x11, x12, x13, x14, x15, rfl, h0, h1, h2, h3, h4, h5, h6, h7, h8, h9, h10, h11, h12, h13, h14, hP⟩ := hI
            try simp [Region.binds] at hdep
            obtain rfl := h11 (by first | exact hdep | exact hdep.1 | exact hdep.2 | exact hdep.2.1 | exact hdep.2.2 | exact hdep.2.2.1 | exact hdep.2.2.2 | simp_all)
            have H0' := hid h0; have H1' := hid h1; have H2' := hid h2; have H3' := hid h3; have H4' := hid h4; have H5' := hid h5; have H6' := hid h6; have H7' := hid h7; have H8' := hid h8; have H9' := hid h9; have H10' := hid h10; have H11' := hid h11; have H12' := hid h12; have H13' := hid h13; have H14' := hid h14; clear h0 h1 h2 h3 h4 h5 h6 h7 h8 h9 h10 h11 h12 h13 h14
            have HPP := hid hP; clear hP
            try simp only [Act.put, List.setIfInBounds_toArray, List.set_cons_succ, List.set_cons_zero]
            gi_wp2
            have h0 := H0'.out; have h1 := H1'.out; have h2 := H2'.out; have h3 := H3'.out; have h4 := H4'.out; have h5 := H5'.out; have h6 := H6'.out; have h7 := H7'.out; have h8 := H8'.out; have h9 := H9'.out; have h10 := H10'.out; have h11 := H11'.out; have h12 := H12'.out; have h13 := H13'.out; have h14 := H14'.out
            refine ⟨x0, x1, x2, x3, x4, x5, x6, x7, x8, x9, x10, _, _, x13, x14, x15, (by first | (simp only [Act.put, List.setIfInBounds_toArray, List.set_cons_succ, List.set_cons_zero]; done) | rfl), (fun h => h0 (by simpa using h)), (fun h => h1 (by simpa using h)), (fun h => h2 (by simpa using h)), (fun h => h3 (by simpa using h)), (fun h => h4 (by simpa using h)), (fun h => h5 (by simpa using h)), (fun h => h6 (by simpa using h)), (fun h => h7 (by simpa using h)), (fun h => h8 (by simpa using h)), (fun h => h9 (by simpa using h)), (fun h => h10 (by simpa using h)), (fun _ => rfl), (fun _ => rfl), (fun h => h13 (by simpa using h)), (fun h => h14 (by simpa using h)), ?_⟩
            rcases HPP.out with h | h
            · exact (Or.inl (⟨(by simpa using h.1), h.2⟩))
            · exact (Or.inr (⟨(by simpa using h.1), h.2⟩))
          · -- 13
            obtain ⟨x0, x1, x2, x3, x4, x5, x6, x7, x8, x9, x10, x11, x12, x13, x14, x15, rfl, h0, h1, h2, h3, h4, h5, h6, h7, h8, h9, h10, h11, h12, h13, h14, hP⟩ := hI
            try simp [Region.binds] at hdep
            obtain rfl := h12 (by first | exact hdep | exact hdep.1 | exact hdep.2 | exact hdep.2.1 | exact hdep.2.2 | exact hdep.2.2.1 | exact hdep.2.2.2 | simp_all)
            have z4 : wx.cell? ⟨g, o + i * 13, none⟩ = some (.string nm) := by
              rcases hP with haP | hbP
              · have hP := haP.2; rw [hP]; exact HY.out.2.2.2.2
              · have hP := hbP.2; exact (HPC.out _ hP).2.2.2.2
            have H0' := hid h0; have H1' := hid h1; have H2' := hid h2; have H3' := hid h3; have H4' := hid h4; have H5' := hid h5; have H6' := hid h6; have H7' := hid h7; have H8' := hid h8; have H9' := hid h9; have H10' := hid h10; have H11' := hid h11; have H12' := hid h12; have H13' := hid h13; have H14' := hid h14; clear h0 h1 h2 h3 h4 h5 h6 h7 h8 h9 h10 h11 h12 h13 h14
            have HPP := hid hP; clear hP
            try simp only [Act.put, List.setIfInBounds_toArray, List.set_cons_succ, List.set_cons_zero]
            gi_wp2
            have h0 := H0'.out; have h1 := H1'.out; have h2 := H2'.out; have h3 := H3'.out; have h4 := H4'.out; have h5 := H5'.out; have h6 := H6'.out; have h7 := H7'.out; have h8 := H8'.out; have h9 := H9'.out; have h10 := H10'.out; have h11 := H11'.out; have h12 := H12'.out; have h13 := H13'.out; have h14 := H14'.out
            refine ⟨x0, x1, x2, x3, x4, x5, x6, x7, x8, x9, x10, x11, _, _, x14, x15, (by first | (simp only [Act.put, List.setIfInBounds_toArray, List.set_cons_succ, List.set_cons_zero]; done) | rfl), (fun h => h0 (by simpa using h)), (fun h => h1 (by simpa using h)), (fun h => h2 (by simpa using h)), (fun h => h3 (by simpa using h)), (fun h => h4 (by simpa using h)), (fun h => h5 (by simpa using h)), (fun h => h6 (by simpa using h)), (fun h => h7 (by simpa using h)), (fun h => h8 (by simpa using h)), (fun h => h9 (by simpa using h)), (fun h => h10 (by simpa using h)), (fun h => h11 (by simpa using h)), (fun _ => rfl), (fun _ => rfl), (fun h => h14 (by simpa using h)), ?_⟩
            rcases HPP.out with h | h
            · exact (Or.inl (⟨(by simpa using h.1), h.2⟩))
            · exact (Or.inr (⟨(by simpa using h.1), h.2⟩))
          · -- 14
            obtain ⟨x0, x1, x2, x3, x4, x5, x6, x7, x8, x9, x10, x11, x12, x13, x14, x15, rfl, h0, h1, h2, h3, h4, h5, h6, h7, h8, h9, h10, h11, h12, h13, h14, hP⟩ := hI
            try simp [Region.binds] at hdep
            obtain rfl := h6 (by first | exact hdep | exact hdep.1 | exact hdep.2 | exact hdep.2.1 | exact hdep.2.2 | exact hdep.2.2.1 | exact hdep.2.2.2 | simp_all)
            obtain rfl := h13 (by first | exact hdep | exact hdep.1 | exact hdep.2 | exact hdep.2.1 | exact hdep.2.2 | exact hdep.2.2.1 | exact hdep.2.2.2 | simp_all)
            have H0' := hid h0; have H1' := hid h1; have H2' := hid h2; have H3' := hid h3; have H4' := hid h4; have H5' := hid h5; have H6' := hid h6; have H7' := hid h7; have H8' := hid h8; have H9' := hid h9; have H10' := hid h10; have H11' := hid h11; have H12' := hid h12; have H13' := hid h13; have H14' := hid h14; clear h0 h1 h2 h3 h4 h5 h6 h7 h8 h9 h10 h11 h12 h13 h14
            have HPP := hid hP; clear hP
            try simp only [Act.put, List.setIfInBounds_toArray, List.set_cons_succ, List.set_cons_zero]
            gi_wp2
            have h0 := H0'.out; have h1 := H1'.out; have h2 := H2'.out; have h3 := H3'.out; have h4 := H4'.out; have h5 := H5'.out; have h6 := H6'.out; have h7 := H7'.out; have h8 := H8'.out; have h9 := H9'.out; have h10 := H10'.out; have h11 := H11'.out; have h12 := H12'.out; have h13 := H13'.out; have h14 := H14'.out
            refine ⟨x0, x1, x2, x3, x4, x5, _, x7, x8, x9, x10, x11, x12, _, _, x15, (by first | (simp only [Act.put, List.setIfInBounds_toArray, List.set_cons_succ, List.set_cons_zero]; done) | rfl), (fun h => h0 (by simpa using h)), (fun h => h1 (by simpa using h)), (fun h => h2 (by simpa using h)), (fun h => h3 (by simpa using h)), (fun h => h4 (by simpa using h)), (fun h => h5 (by simpa using h)), (fun _ => rfl), (fun h => h7 (by simpa using h)), (fun h => h8 (by simpa using h)), (fun h => h9 (by simpa using h)), (fun h => h10 (by simpa using h)), (fun h => h11 (by simpa using h)), (fun h => h12 (by simpa using h)), (fun _ => rfl), (fun _ => rfl), ?_⟩
            rcases HPP.out with h | h
            · exact (Or.inl (⟨(by simpa using h.1), h.2⟩))
            · exact (Or.inr (⟨(by simpa using h.1), h.2⟩))
          · -- 15
            obtain ⟨x0, x1, x2, x3, x4, x5, x6, x7, x8, x9, x10, x11, x12, x13, x14, x15, rfl, h0, h1, h2, h3, h4, h5, h6, h7, h8, h9, h10, h11, h12, h13, h14, hP⟩ := hI
            try simp [Region.binds] at hdep
            rcases hP with hP | hP
            rotate_left
            · exact absurd hP.1 (by simp [hf])
            have hQ := hP
            have hP := hQ.2
            clear hQ
            obtain rfl := h0 (by first | exact hdep | exact hdep.1 | exact hdep.2 | exact hdep.2.1 | exact hdep.2.2 | exact hdep.2.2.1 | exact hdep.2.2.2 | simp_all)
            obtain rfl := h2 (by first | exact hdep | exact hdep.1 | exact hdep.2 | exact hdep.2.1 | exact hdep.2.2 | exact hdep.2.2.1 | exact hdep.2.2.2 | simp_all)
            obtain rfl := h4 (by first | exact hdep | exact hdep.1 | exact hdep.2 | exact hdep.2.1 | exact hdep.2.2 | exact hdep.2.2.1 | exact hdep.2.2.2 | simp_all)
            obtain rfl := h14 (by first | exact hdep | exact hdep.1 | exact hdep.2 | exact hdep.2.1 | exact hdep.2.2 | exact hdep.2.2.1 | exact hdep.2.2.2 | simp_all)
            have H0' := hid h0; have H1' := hid h1; have H2' := hid h2; have H3' := hid h3; have H4' := hid h4; have H5' := hid h5; have H6' := hid h6; have H7' := hid h7; have H8' := hid h8; have H9' := hid h9; have H10' := hid h10; have H11' := hid h11; have H12' := hid h12; have H13' := hid h13; have H14' := hid h14; clear h0 h1 h2 h3 h4 h5 h6 h7 h8 h9 h10 h11 h12 h13 h14
            try simp only [Act.put, List.setIfInBounds_toArray, List.set_cons_succ, List.set_cons_zero]
            rw [hP]
            clear hP
            gi_wp2
            refine ⟨trivial, ?_⟩
            refine (CallsIn.inRound l2 ((callsIn_wide (n := m - 1 - 1 - 1)).2 CH2.out)).mono ?_
            rintro e wh ⟨⟨v, rfl⟩, ov3, hcn, hbn, hcg, hwn⟩
            have HCN := hid hcn
            have HBN := hid hbn
            have HCG := hid hcg
            have HWN := hid hwn
            clear hcn hbn hcg hwn
            gi_wp2
            have h0 := H0'.out; have h1 := H1'.out; have h2 := H2'.out; have h3 := H3'.out; have h4 := H4'.out; have h5 := H5'.out; have h6 := H6'.out; have h7 := H7'.out; have h8 := H8'.out; have h9 := H9'.out; have h10 := H10'.out; have h11 := H11'.out; have h12 := H12'.out; have h13 := H13'.out; have h14 := H14'.out
            exact ⟨_, x1, _, x3, _, x5, x6, x7, x8, x9, x10, x11, x12, x13, _, v, (by first | (simp only [Act.put, List.setIfInBounds_toArray, List.set_cons_succ, List.set_cons_zero]; done) | rfl), (fun _ => rfl), (fun h => h1 (by simpa using h)), (fun _ => rfl), (fun h => h3 (by simpa using h)), (fun _ => rfl), (fun h => h5 (by simpa using h)), (fun h => h6 (by simpa using h)), (fun h => h7 (by simpa using h)), (fun h => h8 (by simpa using h)), (fun h => h9 (by simpa using h)), (fun h => h10 (by simpa using h)), (fun h => h11 (by simpa using h)), (fun h => h12 (by simpa using h)), (fun h => h13 (by simpa using h)), (fun _ => rfl), (Or.inr (⟨(by simp), (HPI.out _ _ HCN.out HBN.out HCG.out HWN.out)⟩))⟩
        · intro f a' wx hall hI
          obtain ⟨x0, x1, x2, x3, x4, x5, x6, x7, x8, x9, x10, x11, x12, x13, x14, x15, rfl, h0, h1, h2, h3, h4, h5, h6, h7, h8, h9, h10, h11, h12, h13, h14, hP⟩ := hI
          obtain rfl := h0 (hall 0 (by simp))
          obtain rfl := h1 (hall 1 (by simp))
          obtain rfl := h2 (hall 2 (by simp))
          obtain rfl := h3 (hall 3 (by simp))
          obtain rfl := h4 (hall 4 (by simp))
          obtain rfl := h5 (hall 5 (by simp))
          obtain rfl := h6 (hall 6 (by simp))
          obtain rfl := h7 (hall 7 (by simp))
          obtain rfl := h8 (hall 8 (by simp))
          obtain rfl := h9 (hall 9 (by simp))
          obtain rfl := h10 (hall 10 (by simp))
          obtain rfl := h11 (hall 11 (by simp))
          obtain rfl := h12 (hall 12 (by simp))
          obtain rfl := h13 (hall 13 (by simp))
          obtain rfl := h14 (hall 14 (by simp))
          rcases hP with hP | hP
          · exact absurd hP.1 (by simp [hall 15 (by simp)])
          replace hP := hP.2
          clear h0 h1 h2 h3 h4 h5 h6 h7 h8 h9 h10 h11 h12 h13 h14 hall f
          try simp only [Act.put, List.setIfInBounds_toArray, List.set_cons_succ, List.set_cons_zero]
          obtain ⟨W4, hW4⟩ : ∃ W4, wx = W4 := ⟨_, rfl⟩
          rw [hW4] at hP ⊢
          rw [HPHI.out] at hP
          obtain ⟨ov3, hc3, hbm4, hib4, hv3, hT2⟩ := hP
          have CH3 := hid (hc3.hold HPM.out.1 HPM.out.2 (by have := HLA.out; have := HLE.out; have hb1 : (if (!ok) = true then [((i : Int), (5 : Int), y)] else []).length ≤ 1 := (by split <;> simp); have hb2 : (if be = true then [((i : Int), (8 : Int), y)] else []).length ≤ 1 := (by split <;> simp); simp only [List.length_append]; omega) (i : Int) 6 y ag)
          have z0 := hc3.ch.fb.cell 0
          have z1 := hbm4.cell 0
          have z2 := hbm4.cell 1
          simp only [List.getElem?_toArray, List.getElem?_cons_zero, List.getElem?_cons_succ] at z0 z1 z2
          have HIB4 := hid hib4
          have HV3 := hid hv3
          have HT2 := hid hT2
          clear hc3 hbm4 hib4 hv3 hT2 HPI HPC HPHI HY CH2 hW4
          gi_wp2
          refine ⟨trivial, ?_⟩
          refine (CallsIn.inRound l2 ((callsIn_wide (n := m - 1 - 1 - 1)).2 CH3.out)).mono ?_
          rintro e W5 ⟨⟨v5, rfl⟩, ov4, hc5, hbn5, hcg5, hwn5⟩
          have hs4 := HT2.out.size
          have hT3 : Chg (fun q' => ¬ (pb + 1 ≤ q' ∧ q' < pb + 4)) W2 W5 := HT2.out.trans (hcg5.mono (fun q' _ h => by
            rcases h with h | h
            · have := HPB.out; omega
            · have := HV3.out q' h.symm; omega))
          have hv4 : ∀ q', ov4.ownBlock = some q' → q' < pb + 1 ∨ pb + 4 ≤ q' := fun q' h => by
            rcases hwn5 with hw | hw
            · rw [hw] at h; exact HV3.out q' h
            · have := hw q' h; omega
          have hib5 := hbn5 _ _ _ HIB4.out (by decide) (by have := HPB.out; omega)
          have HC5 := hid hc5
          have HT3 := hid hT3
          have HV4 := hid hv4
          have HIB5 := hid hib5
          clear hc5 hbn5 hcg5 hwn5 hT3 hv4 hib5 z0 z1 z2 CH3
          gi_wp2
          refine ⟨KN.of_chg HT3.out (by omega) (fun q' g1 g2 h => h ⟨g1, by omega⟩), ?_⟩
          show CmI s p mB pb D w (LA ++ Nm.menF (nms D.st.xs) D.st.xs (j + 1)) W5
          have e : (LA ++ Nm.menF (nms D.st.xs) D.st.xs (j + 1)) = (LA ++ Nm.menF (nms D.st.xs) D.st.xs j) ++ (if (!ok) = true then [((i : Int), (5 : Int), y)] else []) ++ (if be = true then [((i : Int), (8 : Int), y)] else []) ++ (if ag = true then [((i : Int), (6 : Int), y)] else []) := by
            have hm : Nm.chMen (nms D.st.xs) nm (i, y, ag) = (if (!ok) = true then [((i : Int), (5 : Int), y)] else []) ++ (if be = true then [((i : Int), (8 : Int), y)] else []) ++ (if ag = true then [((i : Int), (6 : Int), y)] else []) := by
              unfold Nm.chMen
              simp only
              congr 1
              congr 1
              · rw [← HOKB.out]
                unfold Nm.ixI
                by_cases h : y ∈ nms D.st.xs
                · rw [Nm.inB_yes h, if_pos (Nm.ix_lt.2 h), if_neg (by omega)]; rfl
                · rw [Nm.inB_no h, if_neg (fun hh => h (Nm.ix_lt.1 hh)), if_pos (by omega)]; rfl
              · rw [← HBE.out]
                by_cases h : y = nm
                · rw [if_pos h, h]; simp
                · rw [if_neg h, Nm.str_ne h]; rfl
            rw [HNX.out, hm]
            simp only [List.append_assoc]
          rw [e]
          exact ⟨ov4, HC5.out, HIB5.out, HV4.out⟩
      · rintro W1 hli hd
        have hlen := Nm.menF_len (nms D.st.xs) D.st.xs (Nm.mnAll 0 D.st.xs).length
        have hml := Nm.mnAll_le D.st.xs 0 (fun x hx => (HT0.out x hx).2)
        have hmok := Nm.men_ok (nms D.st.xs) D.st.xs (Nm.mnAll 0 D.st.xs).length (by have := HLL.out; omega) (fun x hx y hy => (HT0.out x hx).1.1 y hy)
        rw [Nm.menF_all] at hli hlen hmok
        obtain ⟨ov9, hc, -, -⟩ := hli
        obtain ⟨C, hC⟩ : ∃ C, LA ++ Nm.chB (nms D.st.xs) 0 D.st.xs = C := ⟨_, rfl⟩
        have hsr := HSRT.out
        have hCl : C.length ≤ 1000000 := by have := HLA.out; have := HLL.out; rw [← hC, List.length_append]; omega
        have hCok : ∀ x ∈ C, DOk x := fun x hx => by
          rw [← hC] at hx
          rcases List.mem_append.1 hx with h | h
          · exact HOK.out x h
          · exact hmok x h
        rw [hC] at hc hsr
        obtain ⟨va, ca, hva, hsl⟩ := SlN.of_own (by omega) hc.ch.ow
        subst hva
        have hcs := dsort_any C C.length va ca W1 rfl hCl hCok hsl
        rw [hsr] at hcs
        have CS := hid hcs
        have c1 := hc.ch.ob.cell 0
        simp only [List.getElem?_toArray, List.getElem?_cons_zero] at c1
        have BEL := hid hc.ch.bel
        have HD1 := hid hd
        have hlt := (Array.getElem?_eq_some_iff.1 hd).1
        clear hcs hsl hc hsr hC hCl hCok hlen hml hmok hd
        go_wp2_with fail
        with_reducible refine CS.out.mono ?_
        rintro e W2 ⟨A', k', c', rfl, hk', hsl', hb'⟩
        have HK' := hid hk'
        have HSL := hid hsl'
        have HBB := hid hb'
        have hd2 := (hb'.block (pb + 1) hlt).trans HD1.out
        have HD2 := hid hd2
        clear hk' hsl' hb' hd2 c1 CS
        go_wp2_with fail
        have hM : Marks (pb + 1) W2 [pb + 1] := (Marks.nil_ _ _).cons_ (Nat.le_refl _) (by simp) HD2.out
        refine leaves_marks (pb + 1) [pb + 1] W2 hM fun W6 h6 => ?_
        refine ⟨.slice A' k' c', by simp [results, Try.results12, go_sem], ?_⟩
        rw [HQ.out]
        refine ⟨A', k', c', rfl, HK'.out, HSL.out.marks h6 HD2.out, ?_⟩
        rw [HSZ.out]
        have := HPB.out
        have := BEL.out.size
        have := HSZ.out
        exact (BEL.out.trans (HBB.out.mono (by omega))).trans (h6.below (B := s) (fun q hq => by simp at hq; omega) (by have := HBB.out.size; omega))
      · exact fun c W h _ => h.elim
end Go.Proofs.Ytejdlhjbakndaaa
