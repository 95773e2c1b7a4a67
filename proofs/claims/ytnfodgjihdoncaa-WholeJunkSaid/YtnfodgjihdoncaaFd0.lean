/- append, and where what it gives lies: in the row's own block, or in new memory. · A stream that comes in pieces: mathematics. -/
import Derived.Test.YtnfodgjihdoncaaM1
import Derived.Test.YtnfodgjihdoncaaRsM4
set_option linter.unusedVariables false
namespace Go.Proofs.Ytnfodgjihdoncaa
open Go.RowKit
theorem append_where {P : Program} {w : World} (base : Nat) (t ty e : TypeId) (i : TypeInfo) (z : Value) (size bytes : Nat) (ht : P.underlying t = some (.slice e)) (hi : P.info? e = some i) (hz : i.zero = some z)
    (hsize : i.size = size) (hby : i.bytes = bytes) (hzs : z.cells.size = size) (hsz : 0 < size)
    (v : Value) (n : Nat) (xs : List Value) (hown : w.ownsRow base e size v n xs)
    (a : Addr) (m c : Nat) (news : List Value) (hl : news.length = m * size) (hnews : ∀ j u, news[j]? = some u → w.cell? (a.add j) = some u) (h1 : ∀ u ∈ news, u.oneCell' = true)
    (h63 : n + m ≤ maxLen) (hbytes : (n + m) * bytes ≤ 140737488355328) (v' : Value) (w' : World)
    (hr : (Builtin.append_ #[t, t] ty #[v, .slice (some a) m c]).run P w = .ok v' w') : v'.ownBlock = v.ownBlock ∨ ∀ q, v'.ownBlock = some q → w.heap.size ≤ q := by
  rcases hown.2 with ⟨rfl, rfl⟩ | ⟨g, cap, cur, rfl, hbg, hg, hnc, hcm, hcs, htake⟩
  · have hx : xs = [] := List.eq_nil_of_length_eq_zero (by simpa using hown.1)
    subst hx
    obtain ⟨v2, w2, hr2, h2, -, -⟩ := run_append_own (P := P) (w := w) w.heap.size t ty e i z size bytes ht hi hz hsize hby hzs hsz (.slice none 0 0) 0 [] (World.ownsRow_nil _ _ _ _) a m c news hl hnews h1 h63 hbytes (Nat.le_refl _)
    rw [hr] at hr2
    injection hr2 with e1 e2
    subst e1
    exact .inr fun q hq => (h2.lt q hq).1
  · subst hsize
    by_cases hroom : n + m ≤ cap
    · have hfit : n * i.size + news.length ≤ cur.size := by rw [hl, hcs, ← Nat.add_mul]; exact Nat.mul_le_mul_right _ hroom
      have hr2 := run_append_room (P := P) w t ty e i ht hi g n cap cur hg a m c news hl hnews h1 hroom hfit
      rw [hr] at hr2
      injection hr2 with e1 e2
      subst e1
      exact .inl rfl
    · subst hby
      have hsmall : n + m ≤ 9223372036854775807 := by simp only [maxLen] at h63; omega
      have holds : ∀ j u, xs[j]? = some u → w.cell? ((⟨g, 0, none⟩ : Addr).add j) = some u := hown.cells (g := g) rfl
      have hr2 := run_append_grow (P := P) w t ty e i z ht hi hz ⟨g, 0, none⟩ n cap xs hown.1 holds a m c news hl hnews (by omega) (by omega) (growslice_fits (by omega) hbytes)
      rw [hr] at hr2
      injection hr2 with e1 e2
      subst e1
      exact .inr fun q hq => by injection hq with hq; rw [← hq]; exact Nat.le_refl _
/-- wpList_append_rd, and where the row lies. -/
theorem wpList_append_rd2 {P : Program} {w : World} {ops : Array Oper} {rest : List Oper} {o : Oper} {a : Act} {Q : Exit → Act → World → Prop} (hgd : o.guard = none) (s x : Operand) (t : TypeId)
    (ho : o.op = .call { callee := .builtin .append, args := #[s, x], argTypes := #[t, t] })
    (base : Nat) (e : TypeId) (i : TypeInfo) (z : Value) (size bytes : Nat) (ht : P.underlying t = some (.slice e)) (hi : P.info? e = some i) (hz : i.zero = some z)
    (hsize : i.size = size) (hby : i.bytes = bytes) (hzs : z.cells.size = size) (hsz : 0 < size)
    (v : Value) (n : Nat) (xs : List Value) (hs : a.eval s = v) (hown : w.ownsRow base e size v n xs)
    (A : Option Addr) (m c : Nat) (news : List Value) (hx : a.eval x = .slice A m c) (hl : news.length = m * size) (hr : Rd w A news) (hn : A = none → c = 0) (h1 : ∀ u ∈ news, u.oneCell' = true)
    (h63 : n + m ≤ maxLen) (hbytes : (n + m) * bytes ≤ 140737488355328) (hbase : base ≤ w.heap.size)
    (h : ∀ v' w', w'.ownsRow base e size v' (n + m) (xs ++ news) → w.grownBy w' v.ownBlock → (v'.ownBlock = v.ownBlock ∨ ∀ q, v'.ownBlock = some q → w.heap.size ≤ q) → wpList P ops Q rest (a.put o.dst v') w') : wpList P ops Q (o :: rest) a w := by
  cases A with
  | none =>
    obtain rfl := hr.none_nil
    obtain rfl := hn rfl
    have hm : m = 0 := by
      have h0 : m * size = 0 := by simpa using hl.symm
      rcases Nat.mul_eq_zero.1 h0 with q | q <;> omega
    subst hm
    exact wpList_append_own_none hgd s x t ho base e i size ht hi v n xs hs hown hx (h v w (by simpa using hown) ⟨rfl, rfl, rfl, Nat.le_refl _, fun _ _ _ => rfl⟩ (.inl rfl))
  | some ad =>
    refine wpList_plain hgd fun K hK => ?_
    obtain ⟨v', w', hrun, h2, h3, -⟩ := run_append_own (P := P) (w := w) base t o.type e i z size bytes ht hi hz hsize hby hzs hsz v n xs hown ad m c news hl hr.addr h1 h63 hbytes hbase
    have h5 := append_where base t o.type e i z size bytes ht hi hz hsize hby hzs hsz v n xs hown ad m c news hl hr.addr h1 h63 hbytes v' w' hrun
    unfold Oper.wp execOp
    simp only [ho, resolve, invoke, builtin, Sem.run_bind, Sem.run_pure, Result.andThen_ok, List.map_toArray, List.map_cons, List.map_nil, hs, hx, hrun]
    exact hK _ _ (h v' w' h2 h3 h5)
end Go.Proofs.Ytnfodgjihdoncaa
set_option linter.unusedVariables false
namespace Go.Proofs.Ytnfodgjihdoncaa
open Go.RowKit
theorem Fd.le (S : List UInt8) : (Rs.wk false S 0).2 ≤ S.length := (Rs.wk_facts false S 0).2.2 (by omega)
/-- What is told of a stream that goes on: what was told, and what is found in what was held, and the piece. -/
theorem Fd.step (S p : List UInt8) : Rs.wk false (S ++ p) 0 = ((Rs.wk false S 0).1 ++ (Rs.wk false (S.drop (Rs.wk false S 0).2 ++ p) 0).1.map (Fnd.shift (Rs.wk false S 0).2), (Rs.wk false S 0).2 + (Rs.wk false (S.drop (Rs.wk false S 0).2 ++ p) 0).2) := by
  have hk := Fd.le S
  have h1 := Rs.grow S p 0 (by omega)
  have h2 := Rs.shift false (S.take (Rs.wk false S 0).2) (S.drop (Rs.wk false S 0).2 ++ p) 0
  rw [List.length_take, Nat.min_eq_left hk, ← List.append_assoc, List.take_append_drop, Nat.add_zero] at h2
  rw [h1, h2]
/-- What is held behind a piece more. -/
theorem Fd.held (S p : List UInt8) : (S ++ p).drop (Rs.wk false (S ++ p) 0).2 = (S.drop (Rs.wk false S 0).2 ++ p).drop (Rs.wk false (S.drop (Rs.wk false S 0).2 ++ p) 0).2 := by
  have hk := Fd.le S
  rw [Fd.step, ← List.drop_drop]
  congr 1
  rw [List.drop_append_of_le_length hk]
theorem Fd.news (S p : List UInt8) : (Rs.wk false (S ++ p) 0).1.drop (Rs.wk false S 0).1.length = (Rs.wk false (S.drop (Rs.wk false S 0).2 ++ p) 0).1.map (Fnd.shift (Rs.wk false S 0).2) := by
  rw [Fd.step]; simp
theorem Fd.len (S p : List UInt8) : (Rs.wk false S 0).1.length ≤ (Rs.wk false (S ++ p) 0).1.length := by
  rw [Fd.step]; simp
theorem Fd.pre (S p : List UInt8) : (Rs.wk false (S ++ p) 0).1.take (Rs.wk false S 0).1.length = (Rs.wk false S 0).1 := by
  rw [Fd.step]; simp
/-- It holds less than a frame may have at most. -/
theorem Fd.less (S : List UInt8) : S.length - (Rs.wk false S 0).2 < 8201 := by
  rcases Rs.wk_known S 0 (by omega) with h | ⟨h1, h2⟩
  · omega
  · have := Fr.rE_short h2
    rw [List.length_drop] at this
    exact this
end Go.Proofs.Ytnfodgjihdoncaa
