/- append, and where what it gives lies; rows of numbers, each in memory of its own. -/
import Derived.Test.YtejdlhjbakndaaaNmA
import Derived.Test.YtejdlhjbakndaaaM6
import Derived.Laws.OwnMore
set_option linter.unusedVariables false
namespace Go.Proofs.Ytejdlhjbakndaaa
open Go.RowKit
theorem append_whr {P : Program} {w : World} (base : Nat) (t ty e : TypeId) (i : TypeInfo) (z : Value) (size bytes : Nat) (ht : P.underlying t = some (.slice e)) (hi : P.info? e = some i) (hz : i.zero = some z)
    (hsize : i.size = size) (hby : i.bytes = bytes) (hzs : z.cells.size = size) (hsz : 0 < size)
    (v : Value) (n : Nat) (xs : List Value) (hown : w.ownsRow base e size v n xs)
    (a : Addr) (m c : Nat) (news : List Value) (hl : news.length = m * size) (hnews : ∀ j u, news[j]? = some u → w.cell? (a.add j) = some u) (h1 : ∀ u ∈ news, u.oneCell' = true)
    (h63 : n + m ≤ maxLen) (hbytes : (n + m) * bytes ≤ 140737488355328) (v' : Value) (w' : World)
    (hr : (Builtin.append_ #[t, t] ty #[v, .slice (some a) m c]).run P w = .ok v' w') : v'.ownBlock = v.ownBlock ∨ ∀ q, v'.ownBlock = some q → w.heap.size ≤ q := by
  rcases hown.2 with ⟨rfl, rfl⟩ | ⟨g, cap, cur, rfl, hbg, hg, hnc, hcm, hcs, htake⟩
  · have hx : xs = [] := List.eq_nil_of_length_eq_zero (by simpa using hown.1)
    subst hx
    obtain ⟨v2, w2, hr2, h2, -, -⟩ := run_append_own (P := P) (w := w) w.heap.size t ty e i z size bytes ht hi hz hsize hby hzs hsz (.slice none 0 0) 0 [] (World.ownsRow_nil _ _ _ _) a m c news hl hnews h1 h63 hbytes (Nat.le_refl _)
    rw [hr] at hr2
    injection hr2 with e1 e2
    subst e1
    exact .inr fun q hq => (h2.lt q hq).1
  · subst hsize
    by_cases hroom : n + m ≤ cap
    · have hfit : n * i.size + news.length ≤ cur.size := by rw [hl, hcs, ← Nat.add_mul]; exact Nat.mul_le_mul_right _ hroom
      have hr2 := run_append_room (P := P) w t ty e i ht hi g n cap cur hg a m c news hl hnews h1 hroom hfit
      rw [hr] at hr2
      injection hr2 with e1 e2
      subst e1
      exact .inl rfl
    · subst hby
      have hsmall : n + m ≤ 9223372036854775807 := by simp only [maxLen] at h63; omega
      have holds : ∀ j u, xs[j]? = some u → w.cell? ((⟨g, 0, none⟩ : Addr).add j) = some u := hown.cells (g := g) rfl
      have hr2 := run_append_grow (P := P) w t ty e i z ht hi hz ⟨g, 0, none⟩ n cap xs hown.1 holds a m c news hl hnews (by omega) (by omega) (growslice_fits (by omega) hbytes)
      rw [hr] at hr2
      injection hr2 with e1 e2
      subst e1
      exact .inr fun q hq => by injection hq with hq; rw [← hq]; exact Nat.le_refl _
/-- wpListIn_append_rd, and where the row lies. -/
theorem wpListIn_append_rdw {F : Fence} {n : Nat} {P : Program} (w : World) {ops : Array Oper} {rest : List Oper} {o : Oper} {a : Act} {Q : Exit → Act → World → Prop} (hgd : o.guard = none) (s x : Operand) (t : TypeId)
    (ho : o.op = .call { callee := .builtin .append, args := #[s, x], argTypes := #[t, t] })
    (base : Nat) (e : TypeId) (i : TypeInfo) (z : Value) (size bytes : Nat) (ht : P.underlying t = some (.slice e)) (hi : P.info? e = some i) (hz : i.zero = some z)
    (hsize : i.size = size) (hby : i.bytes = bytes) (hzs : z.cells.size = size) (hsz : 0 < size)
    (v : Value) (k : Nat) (xs : List Value) (hs : a.eval s = v) (hown : w.ownsRow base e size v k xs)
    (A : Addr) (m c : Nat) (news : List Value) (hx : a.eval x = .slice (some A) m c) (hl : news.length = m * size) (hr : Rd w (some A) news) (h1 : ∀ u ∈ news, u.oneCell' = true)
    (h63 : k + m ≤ maxLen) (hbytes : (k + m) * bytes ≤ 140737488355328) (hbase : base ≤ w.heap.size)
    (h : ∀ v' w', w'.ownsRow base e size v' (k + m) (xs ++ news) → w.grownBy w' v.ownBlock → (v'.ownBlock = v.ownBlock ∨ ∀ q, v'.ownBlock = some q → w.heap.size ≤ q) → wpListIn F n P ops Q rest (a.put o.dst v') w') : wpListIn F n P ops Q (o :: rest) a w := by
  refine wpListIn_plain hgd fun K hK' => ?_
  obtain ⟨v', w', hrun, r1, r2, r3⟩ := run_append_own (P := P) (w := w) base t o.type e i z size bytes ht hi hz hsize hby hzs hsz v k xs hown A m c news hl hr.addr h1 h63 hbytes hbase
  have h5 := append_whr base t o.type e i z size bytes ht hi hz hsize hby hzs hsz v k xs hown A m c news hl hr.addr h1 h63 hbytes v' w' hrun
  unfold Oper.wpIn
  refine ⟨?_, ?_⟩
  · simp [Oper.about, ho, resolve, Target.leads, Sem.run_pure]
  · rw [Oper.semAt_plain F _ _ (by rw [ho]; intro c hc'; cases hc')]
    simp [execOp, ho, resolve, invoke, builtin, hs, hx, hrun, Result.andThen]
    exact hK' _ _ (h v' w' r1 r2 h5)
/-- wpList_append_rd, and where the row lies. -/
theorem wpList_append_rdw {P : Program} {w : World} {ops : Array Oper} {rest : List Oper} {o : Oper} {a : Act} {Q : Exit → Act → World → Prop} (hgd : o.guard = none) (s x : Operand) (t : TypeId)
    (ho : o.op = .call { callee := .builtin .append, args := #[s, x], argTypes := #[t, t] })
    (base : Nat) (e : TypeId) (i : TypeInfo) (z : Value) (size bytes : Nat) (ht : P.underlying t = some (.slice e)) (hi : P.info? e = some i) (hz : i.zero = some z)
    (hsize : i.size = size) (hby : i.bytes = bytes) (hzs : z.cells.size = size) (hsz : 0 < size)
    (v : Value) (n : Nat) (xs : List Value) (hs : a.eval s = v) (hown : w.ownsRow base e size v n xs)
    (A : Option Addr) (m c : Nat) (news : List Value) (hx : a.eval x = .slice A m c) (hl : news.length = m * size) (hr : Rd w A news) (hn : A = none → c = 0) (h1 : ∀ u ∈ news, u.oneCell' = true)
    (h63 : n + m ≤ maxLen) (hbytes : (n + m) * bytes ≤ 140737488355328) (hbase : base ≤ w.heap.size)
    (h : ∀ v' w', w'.ownsRow base e size v' (n + m) (xs ++ news) → w.grownBy w' v.ownBlock → (v'.ownBlock = v.ownBlock ∨ ∀ q, v'.ownBlock = some q → w.heap.size ≤ q) → wpList P ops Q rest (a.put o.dst v') w') : wpList P ops Q (o :: rest) a w := by
  cases A with
  | none =>
    obtain rfl := hr.none_nil
    obtain rfl := hn rfl
    have hm : m = 0 := by
      have h0 : m * size = 0 := by simpa using hl.symm
      rcases Nat.mul_eq_zero.1 h0 with q | q <;> omega
    subst hm
    exact wpList_append_own_none hgd s x t ho base e i size ht hi v n xs hs hown hx (h v w (by simpa using hown) ⟨rfl, rfl, rfl, Nat.le_refl _, fun _ _ _ => rfl⟩ (.inl rfl))
  | some ad =>
    refine wpList_plain hgd fun K hK => ?_
    obtain ⟨v', w', hrun, h2, h3, -⟩ := run_append_own (P := P) (w := w) base t o.type e i z size bytes ht hi hz hsize hby hzs hsz v n xs hown ad m c news hl hr.addr h1 h63 hbytes hbase
    have h5 := append_whr base t o.type e i z size bytes ht hi hz hsize hby hzs hsz v n xs hown ad m c news hl hr.addr h1 h63 hbytes v' w' hrun
    unfold Oper.wp execOp
    simp only [ho, resolve, invoke, builtin, Sem.run_bind, Sem.run_pure, Result.andThen_ok, List.map_toArray, List.map_cons, List.map_nil, hs, hx, hrun]
    exact hK _ _ (h v' w' h2 h3 h5)
/-- Rows of numbers, each in memory of its own. -/
structure RwO (W : World) (B : Nat) (vs : List Value) (Ls : List (List Nat)) : Prop where
  len : vs.length = Ls.length
  own : ∀ (i : Nat) (h : i < vs.length) (h' : i < Ls.length), W.ownsRow B 3 1 vs[i] Ls[i].length (Ls[i].flatMap nvC)
  dis : ∀ (i j : Nat) (hi : i < vs.length) (hj : j < vs.length), i ≠ j → ∀ q, vs[i].ownBlock = some q → vs[j].ownBlock ≠ some q
/-- Rows of numbers, to be read. -/
def RwS (W : World) (v : Value) (Ls : List (List Nat)) : Prop := ∃ A c, ∃ vs : List Value, v = .slice A Ls.length c ∧ SlN W A Ls.length c 1 vs ∧ vs.length = Ls.length ∧ ∀ (i : Nat) (h : i < vs.length) (h' : i < Ls.length), ∃ A' c', vs[i] = .slice A' Ls[i].length c' ∧ SlN W A' Ls[i].length c' 1 (Ls[i].flatMap nvC)
theorem RwS.below {W W' : World} {v : Value} {Ls : List (List Nat)} (h : RwS W v Ls) (hb : Below W.heap.size W W') : RwS W' v Ls := by
  obtain ⟨A, c, vs, e, h1, h2, h3⟩ := h
  exact ⟨A, c, vs, e, h1.below hb, h2, fun i g g' => by obtain ⟨A', c', e', h4⟩ := h3 i g g'; exact ⟨A', c', e', h4.below hb⟩⟩
theorem RwO.rws {W : World} {B B' : Nat} {vs : List Value} {Ls : List (List Nat)} {v : Value} (h : RwO W B vs Ls) (ho : W.ownsRow B' 37 1 v Ls.length vs) : RwS W v Ls := by
  obtain ⟨A, c, e, hs⟩ := SlN.of_own (by omega) ho
  refine ⟨A, c, vs, e, hs, h.len, fun i g g' => ?_⟩
  obtain ⟨A', c', e', hs'⟩ := SlN.of_own (by omega) (h.own i g g')
  exact ⟨A', c', e', hs'⟩
theorem RwO.chg {W W' : World} {B : Nat} {vs : List Value} {Ls : List (List Nat)} {S : Nat → Prop} (h : RwO W B vs Ls) (hc : Chg S W W') (hS : ∀ (i : Nat) (g : i < vs.length) q, vs[i].ownBlock = some q → ¬ S q) : RwO W' B vs Ls :=
  ⟨h.len, fun i g g' => own_chgS (h.own i g g') hc (hS i g), h.dis⟩
theorem RwO.lt {W : World} {B : Nat} {vs : List Value} {Ls : List (List Nat)} (h : RwO W B vs Ls) (i : Nat) (g : i < vs.length) : ∀ q, vs[i].ownBlock = some q → B ≤ q ∧ q < W.heap.size := (h.own i g (by have := h.len; omega)).lt
theorem RwO.mono {W : World} {B B' : Nat} {vs : List Value} {Ls : List (List Nat)} (h : RwO W B vs Ls) (hb : B' ≤ B) : RwO W B' vs Ls := ⟨h.len, fun i g g' => own_mono (h.own i g g') hb, h.dis⟩
theorem RwO.rep (W : World) (B n : Nat) : RwO W B (List.replicate n (.slice none 0 0)) (List.replicate n []) := by
  refine ⟨by simp, fun i h h' => ?_, fun i j hi hj hne q hq => ?_⟩
  · have e1 : (List.replicate n (Value.slice none 0 0))[i] = .slice none 0 0 := by simp
    have e2 : (List.replicate n ([] : List Nat))[i] = [] := by simp
    rw [e1, e2]
    exact World.ownsRow_nil _ _ _ _
  · simp [Value.ownBlock] at hq
theorem RwO.nil_ (W : World) (B : Nat) : RwO W B [] [] := RwO.rep W B 0
/-- One row anew. -/
theorem RwO.set_ {W W' : World} {B i : Nat} {vs : List Value} {Ls : List (List Nat)} {L' : List Nat} {v' : Value} (h : RwO W B vs Ls) (hi : i < vs.length) (hc : Chg (fun q => vs[i].ownBlock = some q) W W')
    (ho : W'.ownsRow B 3 1 v' L'.length (L'.flatMap nvC)) (hw : v'.ownBlock = vs[i].ownBlock ∨ ∀ q, v'.ownBlock = some q → W.heap.size ≤ q) : RwO W' B (vs.set i v') (Ls.set i L') := by
  have hnew : ∀ (j : Nat) (hj : j < vs.length), j ≠ i → ∀ q, vs[j].ownBlock = some q → v'.ownBlock ≠ some q := fun j hj hne q hq e => by
    rcases hw with hw | hw
    · rw [hw] at e; exact h.dis j i hj hi hne q hq e
    · have := hw q e; have := (h.lt j hj q hq).2; omega
  refine ⟨by rw [List.length_set, List.length_set, h.len], fun j g g' => ?_, fun a b ha hb hne q hq => ?_⟩
  · rw [List.length_set] at g g'
    by_cases e : j = i
    · subst e
      rw [List.getElem_set_self, List.getElem_set_self]
      exact ho
    · rw [List.getElem_set_ne (fun x => e x.symm), List.getElem_set_ne (fun x => e x.symm)]
      exact own_chgS (h.own j g g') hc (fun q hq hs => h.dis j i g hi e q hq hs)
  · have ha' : a < vs.length := by simpa using ha
    have hb' : b < vs.length := by simpa using hb
    by_cases ea : a = i
    · subst ea
      have eb : ¬ a = b := hne
      rw [List.getElem_set_self] at hq
      rw [List.getElem_set_ne eb]
      exact fun e => hnew b hb' (fun x => eb x.symm) q e hq
    · rw [List.getElem_set_ne (fun x => ea x.symm)] at hq
      by_cases eb : b = i
      · subst eb
        rw [List.getElem_set_self]
        exact hnew a ha' ea q hq
      · rw [List.getElem_set_ne (fun x => eb x.symm)]
        exact h.dis a b ha' hb' hne q hq
/-- One row more. -/
theorem RwO.snoc {W : World} {B : Nat} {vs : List Value} {Ls : List (List Nat)} {L : List Nat} {v : Value} (h : RwO W B vs Ls) (ho : W.ownsRow B 3 1 v L.length (L.flatMap nvC)) (hd : ∀ (i : Nat) (g : i < vs.length) q, vs[i].ownBlock = some q → v.ownBlock ≠ some q) : RwO W B (vs ++ [v]) (Ls ++ [L]) := by
  have hl := h.len
  refine ⟨by simp [hl], fun i g g' => ?_, fun a b ha hb hne q hq => ?_⟩
  · by_cases e : i < vs.length
    · rw [List.getElem_append_left e, List.getElem_append_left (by omega)]
      exact h.own i e (by omega)
    · have e2 : i = vs.length := by simp at g; omega
      subst e2
      rw [List.getElem_append_right (Nat.le_refl _), List.getElem_append_right (by omega)]
      simp only [Nat.sub_self, List.getElem_cons_zero, hl]
      exact ho
  · rw [List.length_append, List.length_singleton] at ha hb
    by_cases ea : a < vs.length
    · rw [List.getElem_append_left ea] at hq
      by_cases eb : b < vs.length
      · rw [List.getElem_append_left eb]
        exact h.dis a b ea eb hne q hq
      · have e2 : b = vs.length := by omega
        subst e2
        rw [List.getElem_append_right (Nat.le_refl _)]
        simp only [Nat.sub_self, List.getElem_cons_zero]
        exact hd a ea q hq
    · have e2 : a = vs.length := by omega
      subst e2
      rw [List.getElem_append_right (Nat.le_refl _)] at hq
      simp only [Nat.sub_self, List.getElem_cons_zero] at hq
      have eb : b < vs.length := by omega
      rw [List.getElem_append_left eb]
      exact fun e => hd b eb q e hq
end Go.Proofs.Ytejdlhjbakndaaa
