/- A row that grows by append, with the older views of it: what is kept. -/
import Derived.Test.YtolafcmaikjioaaBase
import Derived.Test.YtolafcmaikjioaaOnly
import Derived.Laws.OwnMore
set_option linter.unusedVariables false
namespace Go.Proofs.Ytolafcmaikjioaa
open Go.RowKit
/-- Of what w had, w' has all but the blocks of S as it was. -/
structure Chg (S : Nat → Prop) (w w' : World) : Prop where
  os : w'.os = w.os
  tape : w'.tape = w.tape
  output : w'.output = w.output
  size : w.heap.size ≤ w'.heap.size
  block : ∀ k, k < w.heap.size → ¬ S k → w'.heap[k]? = w.heap[k]?
section
variable {S T : Nat → Prop} {w w' w'' : World}
theorem Chg.refl (S : Nat → Prop) (w : World) : Chg S w w := ⟨rfl, rfl, rfl, Nat.le_refl _, fun _ _ _ => rfl⟩
theorem Chg.trans (h : Chg S w w') (k : Chg S w' w'') : Chg S w w'' :=
  ⟨k.os.trans h.os, k.tape.trans h.tape, k.output.trans h.output, Nat.le_trans h.size k.size, fun i hi hq => (k.block i (Nat.lt_of_lt_of_le hi h.size) hq).trans (h.block i hi hq)⟩
theorem Chg.mono (h : Chg S w w') (hT : ∀ k, k < w.heap.size → S k → T k) : Chg T w w' := ⟨h.os, h.tape, h.output, h.size, fun k hk hq => h.block k hk fun hs => hq (hT k hk hs)⟩
theorem Chg.of_below {B : Nat} (h : Below B w w') (hS : ∀ k, k < w.heap.size → ¬ S k → k < B) : Chg S w w' := ⟨h.os, h.tape, h.output, h.size, fun k hk hq => h.block k (hS k hk hq)⟩
theorem Chg.of_new (h : Below w.heap.size w w') : Chg S w w' := .of_below h fun k hk _ => hk
theorem Chg.of_only {q : Nat} (h : Only q w w') (hq : S q) : Chg S w w' := ⟨h.os, h.tape, h.output, h.size, fun k hk hn => h.block k hk fun e => hn (e ▸ hq)⟩
theorem Chg.of_grown {row : Option Nat} (h : w.grownBy w' row) (hq : ∀ g, row = some g → S g) : Chg S w w' := ⟨h.os, h.tape, h.output, h.size, fun k hk hn => h.block k hk fun e => hn (hq k e.symm)⟩
theorem Chg.set_ (h : Chg S w w') {g : Nat} (hg : S g ∨ w.heap.size ≤ g) (i : Nat) (u : Value) : Chg S w (w'.setCell ⟨g, i, none⟩ u) := by
  refine ⟨h.os, h.tape, h.output, by simpa [World.setCell] using h.size, fun k hk hq => ?_⟩
  rw [Below.heap_setCell w' ⟨g, i, none⟩ u k (by intro e; simp only at e; subst e; rcases hg with hg | hg; exact hq hg; omega)]
  exact h.block k hk hq
theorem Chg.alloc (h : Chg S w w') (o : Obj) : Chg S w (w'.alloc o) := h.trans (.of_new ((Below.refl _ _).alloc (Nat.le_refl _) _))
theorem Chg.drewN (h : Chg S w w') (n : Nat) : Chg S w (w'.drewN n) := ⟨h.os, h.tape, h.output, h.size, h.block⟩
theorem Chg.drew (h : Chg S w w') : Chg S w w'.drew := ⟨h.os, h.tape, h.output, h.size, h.block⟩
theorem Chg.below {B : Nat} (h : Chg S w w') (hS : ∀ k, S k → B ≤ k) (hB : B ≤ w.heap.size) : Below B w w' := ⟨h.os, h.tape, h.output, h.size, fun k hk => h.block k (by omega) fun hs => by have := hS k hs; omega⟩
theorem Chg.blk {g : Nat} {t : TypeId} {cs : Array Value} (h : Chg S w w') (hb : Blk w g t cs) (hg : ¬ S g) : Blk w' g t cs := (h.block g hb.lt hg).trans hb
/-- What is read there lies in no block of S. -/
def FarS (A : Option Addr) (n : Nat) (S : Nat → Prop) : Prop := 0 < n → ∀ b off, A = some ⟨b, off, none⟩ → ¬ S b
theorem Chg.rd {A : Option Addr} {xs : List Value} {n : Nat} (h : Chg S w w') (hr : Rd w A xs) (hf : FarS A n S) (hn : xs.length = n) : Rd w' A xs := by
  intro k u hk
  have hpos : 0 < n := by have := (List.getElem?_eq_some_iff.1 hk).1; omega
  obtain ⟨b, off, rfl, hlt, hc⟩ := hr k u hk
  refine ⟨b, off, rfl, Nat.lt_of_lt_of_le hlt h.size, ?_⟩
  rw [← hc]
  exact World.cell?_of_block (h.block b hlt (hf hpos b off rfl))
theorem Chg.sl {A : Option Addr} {c n : Nat} {xs : List Value} (h : Chg S w w') (hs : Sl w A c xs) (hf : FarS A n S) (hn : xs.length = n) : Sl w' A c xs := ⟨hs.cap, hs.small, hs.nil0, h.rd hs.rd hf hn⟩
theorem FarS.far {A : Option Addr} {n : Nat} (h : FarS A n S) {q : Nat} (hq : S q) : Far A n q := fun hp b off e hb => h hp b off e (hb ▸ hq)
theorem FarS.imp {A : Option Addr} {n : Nat} (h : FarS A n S) (hT : ∀ k, T k → S k) : FarS A n T := fun hp b off e hb => h hp b off e (hT b hb)
end
/-- Older views of a row of v, and all other rows, stay as they were. -/
def Views (e : TypeId) (v : Value) (n : Nat) (w w' : World) : Prop := ∀ B v0 n0 xs0, w.ownsRow B e 1 v0 n0 xs0 → (v0.ownBlock ≠ none → v0.ownBlock = v.ownBlock → n0 ≤ n) → w'.ownsRow B e 1 v0 n0 xs0
/-- A grown row lies where it lay, or in new memory. -/
def NewOr (w : World) (v v' : Value) : Prop := v'.ownBlock = v.ownBlock ∨ ∀ g, v'.ownBlock = some g → w.heap.size ≤ g
theorem views_kept {e : TypeId} {v : Value} {n : Nat} {w w' : World} (h : Below w.heap.size w w') : Views e v n w w' := fun B v0 n0 xs0 h0 _ => own_below h0 h
/-- append onto a row of the call's own: the row, what is kept, and the older views -/
theorem run_append_views {P : Program} (w : World) (base : Nat) (t ty e : TypeId) (i : TypeInfo) (z : Value) (ht : P.underlying t = some (.slice e)) (hi : P.info? e = some i) (hz : i.zero = some z)
    (hsize : i.size = 1) (hby : i.bytes = 1) (hzs : z.cells.size = 1) (v : Value) (n : Nat) (xs : List Value) (hown : w.ownsRow base e 1 v n xs)
    (A : Option Addr) (m c : Nat) (news : List Value) (hl : news.length = m) (hr : Rd w A news) (hn : A = none → c = 0) (h1 : ∀ u ∈ news, u.oneCell' = true)
    (h63 : n + m ≤ 100000000) (hbase : base ≤ w.heap.size) :
    ∃ v' w', (Builtin.append_ #[t, t] ty #[v, .slice A m c]).run P w = .ok v' w' ∧ w'.ownsRow base e 1 v' (n + m) (xs ++ news) ∧ w.grownBy w' v.ownBlock ∧ NewOr w v v' ∧ Views e v n w w' := by
  have hm63 : n + m ≤ maxLen := by simp only [maxLen]; omega
  cases A with
  | none =>
    obtain rfl := hr.none_nil
    obtain rfl := hn rfl
    obtain rfl : m = 0 := by simpa using hl.symm
    have hr := run_append_owned_none w base t ty e i 1 ht hi v n xs hown
    exact ⟨v, w, hr, by simpa using hown, ⟨rfl, rfl, rfl, Nat.le_refl _, fun _ _ _ => rfl⟩, .inl rfl, fun _ _ _ _ h0 _ => h0⟩
  | some ad =>
    by_cases hroom : ∃ g cap, v = .slice (some ⟨g, 0, none⟩) n cap ∧ n + m ≤ cap
    · obtain ⟨g, cap, rfl, hcap⟩ := hroom
      rcases hown.2 with ⟨h, _⟩ | ⟨g', cap', cur, h, hbg, hg, hnc, hcm, hcs, htake⟩
      · simp at h
      simp only [Value.slice.injEq, Option.some.injEq, Addr.mk.injEq, and_true, true_and] at h
      obtain ⟨rfl, rfl⟩ := h
      have hlen : (xs ++ news).length = (n + m) * 1 := by rw [List.length_append, hown.1, hl]; omega
      have hxl : xs.length = n := by simpa using hown.1
      have hfit : n * i.size + news.length ≤ cur.size := by rw [hl, hcs, hsize]; omega
      have hr := run_append_room (P := P) w t ty e i ht hi g n cap cur hg ad m c news (by rw [hl, hsize]; omega) hr.addr h1 hcap hfit
      rw [hsize, Nat.mul_one] at hr
      rw [Nat.mul_one] at htake hcs
      have hrow := setRow_heap w g cur (cur.toList.take n ++ news ++ cur.toList.drop (n + news.length)).toArray e (0, 0) hg
      have hz2 : (cur.toList.take n ++ news ++ cur.toList.drop (n + news.length)).toArray.size = cap := by
        simp only [List.size_toArray, List.length_append, List.length_take, List.length_drop, Array.length_toList]; omega
      have hgb : w.grownBy (w.setRow g (cur.toList.take n ++ news ++ cur.toList.drop (n + news.length)).toArray) (some g) := ⟨rfl, rfl, rfl, by simp, fun k _ hk => setRow_other w g k _ (fun e => hk (by simp [e]))⟩
      refine ⟨_, _, hr, ⟨hlen, .inr ⟨g, cap, _, rfl, hbg, hrow, hcap, hcm, by rw [hz2, Nat.mul_one], ?_⟩⟩, hgb, .inl rfl, ?_⟩
      · rw [htake, ← hlen]; exact List.take_left
      · intro B v0 n0 xs0 h0 hle
        rcases h0.2 with ⟨h, hn0⟩ | ⟨g0, cap0, cur0, rfl, hb0, hg0, hnc0, hcm0, hcs0, htake0⟩
        · exact ⟨h0.1, .inl ⟨h, hn0⟩⟩
        · by_cases hgg : g0 = g
          · subst hgg
            have hle' := hle (by simp [Value.ownBlock]) rfl
            rw [hg] at hg0
            injection hg0 with hg0
            injection hg0 with hg0
            subst hg0
            refine ⟨h0.1, .inr ⟨g0, cap0, _, rfl, hb0, hrow, hnc0, hcm0, by rw [hz2, ← hcs0, hcs], ?_⟩⟩
            have hxs0 : cur.toList.take n0 = xs0 := by rw [← htake0, Nat.mul_one]
            show List.take (n0 * 1) (List.take n cur.toList ++ news ++ List.drop (n + news.length) cur.toList) = xs0
            rw [Nat.mul_one, ← hxs0, List.append_assoc]
            rw [List.take_append_of_le_length (by rw [List.length_take, Array.length_toList]; omega), List.take_take, Nat.min_eq_left hle']
          · exact h0.kept hgb (.inr (by simpa [Value.ownBlock] using hgg))
    · obtain ⟨v', w', hrun, h2, h3, h4⟩ := run_append_own (P := P) w base t ty e i z 1 1 ht hi hz hsize hby hzs (by omega) v n xs hown ad m c news (by rw [hl]; omega) hr.addr h1 hm63 (by omega) hbase
      have hsame : v' = v ∧ w' = w ∨ (Below w.heap.size w w' ∧ ∀ g, v'.ownBlock = some g → w.heap.size ≤ g) := by
        rcases hown.2 with ⟨rfl, rfl⟩ | ⟨g, cap, cur, rfl, hbg, hg, hnc, hcm, hcs, htake⟩
        · have hx : xs = [] := List.eq_nil_of_length_eq_zero (by simpa using hown.1)
          subst hx
          by_cases hm : m = 0
          · subst hm
            have hn : news = [] := List.eq_nil_of_length_eq_zero (by simpa using hl)
            subst hn
            have hq : (Builtin.append_ #[t, t] ty #[.slice none 0 0, .slice (some ad) 0 c]).run P w = .ok (.slice none 0 0) w := by
              simp [Builtin.append_, run_underlying ht, sizeOf, typeInfo, hi, Builtin.lenOf, Builtin.firstCells, loadCells, loadCellsFrom]
            rw [hq] at hrun
            injection hrun with e1 e2
            exact .inl ⟨e1.symm, e2.symm⟩
          · have hq := run_append_nil (P := P) w t ty e i z ht hi hz ad m c news (by rw [hl, hsize]; omega) hr.addr (by omega) (by omega) (by rw [hby]; omega)
            rw [hq] at hrun
            injection hrun with e1 e2
            subst e1; subst e2
            exact .inr ⟨⟨rfl, rfl, rfl, by simp, fun k hk => Below.heap_alloc w.drew _ k hk⟩, fun g e => by simp [Value.ownBlock] at e; omega⟩
        · have hroom' : cap < n + m := by apply Nat.lt_of_not_le; intro h; exact hroom ⟨g, cap, rfl, h⟩
          have holds : ∀ j u, xs[j]? = some u → w.cell? ((⟨g, 0, none⟩ : Addr).add j) = some u := hown.cells (g := g) rfl
          have hq := run_append_grow (P := P) w t ty e i z ht hi hz ⟨g, 0, none⟩ n cap xs (by rw [hown.1, hsize]) holds ad m c news (by rw [hl, hsize]; omega) hr.addr hroom' (by omega) (growslice_fits (by omega) (by rw [hby]; omega))
          rw [hq] at hrun
          injection hrun with e1 e2
          subst e1; subst e2
          exact .inr ⟨⟨rfl, rfl, rfl, by simp, fun k hk => Below.heap_alloc w.drew _ k hk⟩, fun g e => by simp [Value.ownBlock] at e; omega⟩
      rcases hsame with ⟨rfl, rfl⟩ | ⟨hb, hnew⟩
      · exact ⟨v', w', hrun, h2, h3, .inl rfl, fun _ _ _ _ h0 _ => h0⟩
      · exact ⟨v', w', hrun, h2, h3, .inr hnew, views_kept hb⟩
theorem wpList_append_views {P : Program} {w : World} {ops : Array Oper} {rest : List Oper} {o : Oper} {a : Act} {Q : Exit → Act → World → Prop} (hgd : o.guard = none) (s x : Operand) (t : TypeId)
    (ho : o.op = .call { callee := .builtin .append, args := #[s, x], argTypes := #[t, t] })
    (base : Nat) (e : TypeId) (i : TypeInfo) (z : Value) (ht : P.underlying t = some (.slice e)) (hi : P.info? e = some i) (hz : i.zero = some z)
    (hsize : i.size = 1) (hby : i.bytes = 1) (hzs : z.cells.size = 1)
    (v : Value) (n : Nat) (xs : List Value) (hs : a.eval s = v) (hown : w.ownsRow base e 1 v n xs)
    (A : Option Addr) (m c : Nat) (news : List Value) (hx : a.eval x = .slice A m c) (hl : news.length = m) (hr : Rd w A news) (hn : A = none → c = 0) (h1 : ∀ u ∈ news, u.oneCell' = true)
    (h63 : n + m ≤ 100000000) (hbase : base ≤ w.heap.size)
    (h : ∀ v' w', w'.ownsRow base e 1 v' (n + m) (xs ++ news) → w.grownBy w' v.ownBlock → NewOr w v v' → Views e v n w w' → wpList P ops Q rest (a.put o.dst v') w') : wpList P ops Q (o :: rest) a w := by
  refine wpList_plain hgd fun K hK => ?_
  obtain ⟨v', w', hrun, h2, h3, h4, h5⟩ := run_append_views (P := P) w base t o.type e i z ht hi hz hsize hby hzs v n xs hown A m c news hl hr hn h1 h63 hbase
  unfold Oper.wp execOp
  simp only [ho, resolve, invoke, builtin, Sem.run_bind, Sem.run_pure, Result.andThen_ok, List.map_toArray, List.map_cons, List.map_nil, hs, hx, hrun]
  exact hK _ _ (h v' w' h2 h3 h4 h5)
end Go.Proofs.Ytolafcmaikjioaa
