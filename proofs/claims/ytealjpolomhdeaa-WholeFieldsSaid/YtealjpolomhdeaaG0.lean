/- Plain mathematics of layers 1 and 2: no program is named here. · Words for memory: a slice that reads as a list. · A byte's row in the table of types. · A call that writes into one block of what was there, and makes new memory. · A row that grows by append, with the older views of it: what is kept. · append onto a row of elements of any size: the row lies where it lay, or in new memory. · A region that draws its order, by an invariant over what has come up. No program is named here. · Loops within which ranges over functions begin, and the marks that these leave. · A range over a function, at the wide fence: the records are laid, kept and shut here. · A region that draws its order, by an invariant over what has come up: only edges that bind are asked of. No program is named here. · The document's One and Rune (layer 3). · The document's One (layer 3): a walk. · The document's First and Check (layer 3). · The document's Bytes (layer 3). · Runes and their bytes: back and forth (no code). · Rows of runes and their text (no code). · strings.HasPrefix: is the one the beginning of the other? · What a range over a text decodes at a place is what the document's One reads there, or a rune that stands for none (no code). · utf.First: a walk. · utf.Count, utf.Check, utf.Plain: walks. · A region that draws its order, within a fence, by an invariant over what has come up. No program is named here. -/
import Derived.WalkKit
import Derived.WalkSpells
import Derived.WalkLawsBesides
import Derived.Laws.AppendOwnNone
import Derived.Test.YtealjpolomhdeaaProg
import Derived.Laws.OwnMore
import Derived.Orders
import Derived.Tactics
import Derived.RangeFuncOwn
import Derived.OwnWalkIn
import Derived.RangeFuncNested
import Derived.RangeFuncBound
import Derived.RangeFuncCalls
import Derived.RangeFuncLeaves
import Derived.LoopNIn
import Derived.TacticsInMore
import Derived.Lib.Strings
import Derived.Lib.Slices
import Derived.Lib.Walk
import Derived.Lib.OthersKept
import Derived.WalkSmall
import Derived.OrdersIn
import Derived.TacticsIn
set_option linter.unusedVariables false
namespace Go.Proofs.Ytealjpolomhdeaa.M

/-- Get of bytes, i of which were read before, acc their number: number, size, error. -/
def getF (i acc : Nat) : List UInt8 → Nat × Nat × Nat
  | [] => (0, 0, 4)
  | x :: r =>
    if i = 9 then
      if 128 ≤ x.toNat then (0, 0, 2) else if 1 < x.toNat then (0, 0, 1) else (acc + x.toNat * 128 ^ 9, 10, 0)
    else if x.toNat < 128 then (acc + x.toNat * 128 ^ i, i + 1, 0) else getF (i + 1) (acc + (x.toNat - 128) * 128 ^ i) r
def get (b : List UInt8) : Nat × Nat × Nat := getF 0 0 b

theorem pow7 (k : Nat) : (128 : Nat) ^ k = 2 ^ (7 * k) := by rw [Nat.pow_mul]
theorem get_num {k acc y : Nat} (hk : k ≤ 9) (ha : acc < 128 ^ k) (hy : y < 128) (h9 : k = 9 → y ≤ 1) :
    acc + y * 128 ^ k ≤ 18446744073709551615 := by
  by_cases h : k = 9
  · subst h
    have := h9 rfl
    have h1 : y * 128 ^ 9 ≤ 1 * 128 ^ 9 := Nat.mul_le_mul_right _ this
    omega
  · have h8 : (128 : Nat) ^ k ≤ 128 ^ 8 := Nat.pow_le_pow_right (by omega) (by omega)
    have h1 : y * 128 ^ k ≤ 127 * 128 ^ 8 := Nat.mul_le_mul (by omega) h8
    omega
theorem get_wrap {k acc y : Nat} (hk : k ≤ 9) (ha : acc < 128 ^ k) (hy : y < 128) (h9 : k = 9 → y ≤ 1) :
    IntKind.u64.wrap ((acc : Int) + IntKind.u64.wrap ((y : Int) * 2 ^ (7 * k))) = ((acc + y * 128 ^ k : Nat) : Int) := by
  have h := get_num hk ha hy h9
  have e : (y : Int) * 2 ^ (7 * k) = ((y * 128 ^ k : Nat) : Int) := by rw [pow7]; simp
  rw [e]
  generalize y * 128 ^ k = z at *
  rw [IntWalk.u64_in (z : Int) (by omega), IntWalk.u64_in _ (by omega)]
  omega
theorem get_wrap9 {acc y : Nat} (ha : acc < 128 ^ 9) (hy : y ≤ 1) :
    IntKind.u64.wrap ((acc : Int) + (y : Int) * 9223372036854775808) = ((acc + y * 128 ^ 9 : Nat) : Int) := by
  rw [IntWalk.u64_in _ (by omega)]
  omega
theorem get_wrap' {k acc y : Nat} (hk : k < 9) (ha : acc < 128 ^ k) (hy : 128 ≤ y) (hy2 : y < 256) :
    IntKind.u64.wrap ((acc : Int) + IntKind.u64.wrap (((y : Int) - 128) * 2 ^ (7 * k))) = ((acc + (y - 128) * 128 ^ k : Nat) : Int) := by
  have h := get_wrap (y := y - 128) (Nat.le_of_lt hk) ha (by omega) (by omega)
  rw [← h, show (y : Int) - 128 = ((y - 128 : Nat) : Int) from by omega]
theorem get_acc {k acc y : Nat} (ha : acc < 128 ^ k) (hy : y < 256) : acc + (y - 128) * 128 ^ k < 128 ^ (k + 1) := by
  rw [Nat.pow_succ]
  have h1 : (y - 128) * 128 ^ k ≤ 127 * 128 ^ k := Nat.mul_le_mul_right _ (by omega)
  omega
theorem getF_at {bs : List UInt8} {k acc : Nat} (h : k < bs.length) : getF k acc (bs.drop k) =
    if k = 9 then
      if 128 ≤ bs[k].toNat then (0, 0, 2) else if 1 < bs[k].toNat then (0, 0, 1) else (acc + bs[k].toNat * 128 ^ 9, 10, 0)
    else if bs[k].toNat < 128 then (acc + bs[k].toNat * 128 ^ k, k + 1, 0) else getF (k + 1) (acc + (bs[k].toNat - 128) * 128 ^ k) (bs.drop (k + 1)) := by
  rw [List.drop_eq_getElem_cons h, getF]
theorem getF_end {bs : List UInt8} {k acc : Nat} (h : bs.length ≤ k) : getF k acc (bs.drop k) = (0, 0, 4) := by
  rw [List.drop_eq_nil_of_le h, getF]

theorem getF_facts : ∀ (b : List UInt8) (i acc : Nat), i ≤ 9 → acc < 128 ^ i →
    ((getF i acc b).2.2 = 0 → i + 1 ≤ (getF i acc b).2.1 ∧ (getF i acc b).2.1 ≤ 10 ∧ (getF i acc b).2.1 ≤ i + b.length ∧ (getF i acc b).1 ≤ 18446744073709551615) ∧
    ((getF i acc b).2.2 ≠ 0 → (getF i acc b).1 = 0 ∧ (getF i acc b).2.1 = 0 ∧ (getF i acc b).2.2 ≤ 4)
  | [], i, acc, _, _ => by simp [getF]
  | x :: r, i, acc, hi, ha => by
    have hx := x.toNat_lt
    rw [getF]
    split
    · rename_i h9; subst h9
      split
      · simp
      · split
        · simp
        · simp; omega
    · split
      · rename_i h; have := get_num (by omega) ha h (by omega)
        simp; omega
      · have := getF_facts r (i + 1) (acc + (x.toNat - 128) * 128 ^ i) (by omega) (get_acc ha (by omega))
        simp only [List.length_cons]
        refine ⟨fun h => ?_, this.2⟩
        have := this.1 h
        omega
theorem get_facts (b : List UInt8) :
    ((get b).2.2 = 0 → 1 ≤ (get b).2.1 ∧ (get b).2.1 ≤ 10 ∧ (get b).2.1 ≤ b.length ∧ (get b).1 ≤ 18446744073709551615) ∧
    ((get b).2.2 ≠ 0 → (get b).1 = 0 ∧ (get b).2.1 = 0 ∧ (get b).2.2 ≤ 4) := by
  have := getF_facts b 0 0 (by omega) (by simp)
  simpa [get] using this

/-- All of bytes, so many numbers read before, at a place: numbers, error, place. -/
def allF : Nat → List Nat → Nat → List UInt8 → List Nat × Nat × Nat
  | _, acc, _, [] => (acc, 0, 0)
  | 0, acc, _, _ => (acc, 0, 0)
  | f + 1, acc, p, x :: r =>
    if (get (x :: r)).2.2 ≠ 0 then ([], (get (x :: r)).2.2, p) else allF f (acc ++ [(get (x :: r)).1]) (p + (get (x :: r)).2.1) ((x :: r).drop (get (x :: r)).2.1)
def all (b : List UInt8) : List Nat × Nat × Nat := allF b.length [] 0 b
end Go.Proofs.Ytealjpolomhdeaa.M
set_option linter.unusedVariables false
namespace Go.Proofs.Ytealjpolomhdeaa
open Go.RowKit

theorem hid {p : Prop} (h : p) : Hid p := h
/-- The slice at A reads, in w, as the cells xs. -/
def Rd (w : World) (A : Option Addr) (xs : List Value) : Prop :=
  ∀ k u, xs[k]? = some u → ∃ b off, A = some ⟨b, off, none⟩ ∧ b < w.heap.size ∧ w.cell? ⟨b, off + k, none⟩ = some u
/-- A byte of a number (a name that simp leaves alone). -/
def b8 (n : Nat) : UInt8 := UInt8.ofNat n
theorem b8_toNat {n : Nat} (h : n < 256) : (b8 n).toNat = n := by unfold b8; rw [UInt8.toNat_ofNat']; omega
theorem b8_self (x : UInt8) : b8 x.toNat = x := by unfold b8; exact UInt8.ofNat_toNat
def bv (x : UInt8) : Value := .int .u8 (x.toNat : Int)
theorem bv_b8 (n : Nat) (h : n < 256) : bv (b8 n) = .int .u8 (n : Int) := by simp only [bv, b8_toNat h]
def BRd (w : World) (A : Option Addr) (bs : List UInt8) : Prop := Rd w A (bs.map bv)

theorem Rd.below {w w' : World} {A : Option Addr} {xs : List Value} (h : Rd w A xs) (hb : Below w.heap.size w w') : Rd w' A xs := by
  intro k u hk
  obtain ⟨b, off, rfl, hlt, hc⟩ := h k u hk
  exact ⟨b, off, rfl, Nat.lt_of_lt_of_le hlt hb.size, (hb.cell (p := ⟨b, off + k, none⟩) hlt).trans hc⟩

theorem BRd.at_ {w : World} {A : Option Addr} {bs : List UInt8} (h : BRd w A bs) {k : Nat} (hk : k < bs.length) :
    ∃ b off, A = some ⟨b, off, none⟩ ∧ b < w.heap.size ∧ w.cell? ⟨b, off + k, none⟩ = some (.int .u8 (bs[k].toNat : Int)) :=
  h k (bv bs[k]) (by simp [hk])

def nv (n : Nat) : Value := .int .u64 (n : Int)
def NRd (w : World) (A : Option Addr) (ns : List Nat) : Prop := Rd w A (ns.map nv)
theorem NRd.at_ {w : World} {A : Option Addr} {ns : List Nat} (h : NRd w A ns) {k : Nat} (hk : k < ns.length) :
    ∃ b off, A = some ⟨b, off, none⟩ ∧ b < w.heap.size ∧ w.cell? ⟨b, off + k, none⟩ = some (.int .u64 (ns[k] : Int)) :=
  h k (nv ns[k]) (by simp [hk])
theorem Rd.drewN {w : World} {A : Option Addr} {xs : List Value} (h : Rd w A xs) (n : Nat) : Rd (w.drewN n) A xs := h

/-- A slice with its capacity: what the walk wants of one. -/
structure Sl (w : World) (A : Option Addr) (c : Nat) (xs : List Value) : Prop where
  cap : xs.length ≤ c
  small : c ≤ 9223372036854775807
  nil0 : A = none → c = 0
  rd : Rd w A xs
theorem Sl.below {w w' : World} {A : Option Addr} {c : Nat} {xs : List Value} (h : Sl w A c xs) (hb : Below w.heap.size w w') : Sl w' A c xs := ⟨h.cap, h.small, h.nil0, h.rd.below hb⟩
theorem Sl.nil_ (w : World) : Sl w none 0 [] := ⟨by simp, by omega, fun _ => rfl, fun k u h => by simp at h⟩
theorem Sl.drewN {w : World} {A : Option Addr} {c : Nat} {xs : List Value} (h : Sl w A c xs) (n : Nat) : Sl (w.drewN n) A c xs := ⟨h.cap, h.small, h.nil0, h.rd⟩
/-- A row of the call's own is such a slice. -/
theorem Sl.of_own {w : World} {base e : Nat} {v : Value} {n : Nat} {xs : List Value} (h : w.ownsRow base e 1 v n xs) : ∃ A c, v = .slice A n c ∧ n = xs.length ∧ Sl w A c xs := by
  have hn : xs.length = n := by simpa using h.1
  rcases h.2 with ⟨rfl, rfl⟩ | ⟨g, cap, cur, rfl, hb, hg, hnc, hcm, hcs, htake⟩
  · obtain rfl : xs = [] := List.eq_nil_of_length_eq_zero hn
    exact ⟨none, 0, rfl, rfl, Sl.nil_ w⟩
  · refine ⟨_, cap, rfl, hn.symm, ⟨by omega, hcm, (fun h => by cases h), fun k u hk => ⟨g, 0, rfl, (Array.getElem?_eq_some_iff.1 hg).1, ?_⟩⟩⟩
    have := h.cells (g := g) rfl k u hk
    have hadd : (⟨g, 0, none⟩ : Addr).add k = ⟨g, 0 + k, none⟩ := by unfold Addr.add; split <;> simp_all
    rwa [hadd] at this
/-- A block of cells that is known whole. -/
def Blk (w : World) (g : Nat) (t : TypeId) (cs : Array Value) : Prop := w.heap[g]? = some (.cells cs t (0, 0))
section
variable {w w' : World} {g : Nat} {t : TypeId} {cs : Array Value}
theorem Blk.lt (h : Blk w g t cs) : g < w.heap.size := (Array.getElem?_eq_some_iff.1 h).1
theorem Blk.cell (h : Blk w g t cs) (i : Nat) : w.cell? ⟨g, i, none⟩ = cs[i]? := by unfold Blk at h; simp [World.cell?, h]
theorem Blk.frozen (h : Blk w g t cs) (i : Nat) : w.frozen? ⟨g, i, none⟩ = false := by unfold Blk at h; simp [World.frozen?, h]
theorem Blk.new (w : World) (t : TypeId) (cs : Array Value) : Blk (w.alloc (.cells cs t)) w.heap.size t cs := heap_alloc_new w _
theorem Blk.alloc (h : Blk w g t cs) (o : Obj) : Blk (w.alloc o) g t cs := (Below.heap_alloc w o g h.lt).trans h
theorem Blk.below {B : Nat} (h : Blk w g t cs) (hb : Below B w w') (hg : g < B) : Blk w' g t cs := (hb.block g hg).trans h
theorem Blk.set_ (h : Blk w g t cs) (i : Nat) (u : Value) : Blk (w.setCell ⟨g, i, none⟩ u) g t (cs.setIfInBounds i u) := by
  unfold Blk at h ⊢; simp [World.setCell, Array.getElem?_modify, h]
theorem Blk.far (h : Blk w g t cs) {p : Addr} (hp : g ≠ p.block) (u : Value) : Blk (w.setCell p u) g t cs := (Below.heap_setCell w p u g hp).trans h
end
theorem addr_add (b off k : Nat) : (⟨b, off, none⟩ : Addr).add k = ⟨b, off + k, none⟩ := by unfold Addr.add; split <;> simp_all
theorem Rd.addr {w : World} {a : Addr} {xs : List Value} (h : Rd w (some a) xs) : ∀ j u, xs[j]? = some u → w.cell? (a.add j) = some u := by
  intro j u hj
  obtain ⟨b, off, he, _, hc⟩ := h j u hj
  injection he with he
  rw [he, addr_add]; exact hc
theorem Rd.none_nil {w : World} {xs : List Value} (h : Rd w none xs) : xs = [] := by
  cases xs with
  | nil => rfl
  | cons x r => obtain ⟨b, off, he, _⟩ := h 0 x rfl; cases he
theorem Rd.nil_ (w : World) (A : Option Addr) : Rd w A [] := fun k u h => by simp at h
theorem Rd.drop {w : World} {b off : Nat} {xs : List Value} (h : Rd w (some ⟨b, off, none⟩) xs) (k : Nat) : Rd w (some ⟨b, off + k, none⟩) (xs.drop k) := by
  intro j u hj
  rw [List.getElem?_drop] at hj
  obtain ⟨b', off', he, hlt, hc⟩ := h (k + j) u hj
  injection he with he; injection he with h1 h2; subst h1; subst h2
  exact ⟨b, off + k, rfl, hlt, by rw [Nat.add_assoc]; exact hc⟩
theorem Rd.take {w : World} {A : Option Addr} {xs : List Value} (h : Rd w A xs) (k : Nat) : Rd w A (xs.take k) := by
  intro j u hj
  rw [List.getElem?_take] at hj
  split at hj
  · exact h j u hj
  · cases hj
/-- append onto a row of the call's own, whatever slice the source is -/
theorem wpList_append_rd {P : Program} {w : World} {ops : Array Oper} {rest : List Oper} {o : Oper} {a : Act} {Q : Exit → Act → World → Prop} (hgd : o.guard = none) (s x : Operand) (t : TypeId)
    (ho : o.op = .call { callee := .builtin .append, args := #[s, x], argTypes := #[t, t] })
    (base : Nat) (e : TypeId) (i : TypeInfo) (z : Value) (size bytes : Nat) (ht : P.underlying t = some (.slice e)) (hi : P.info? e = some i) (hz : i.zero = some z)
    (hsize : i.size = size) (hby : i.bytes = bytes) (hzs : z.cells.size = size) (hsz : 0 < size)
    (v : Value) (n : Nat) (xs : List Value) (hs : a.eval s = v) (hown : w.ownsRow base e size v n xs)
    (A : Option Addr) (m c : Nat) (news : List Value) (hx : a.eval x = .slice A m c) (hl : news.length = m * size) (hr : Rd w A news) (hn : A = none → c = 0) (h1 : ∀ u ∈ news, u.oneCell' = true)
    (h63 : n + m ≤ maxLen) (hbytes : (n + m) * bytes ≤ 140737488355328) (hbase : base ≤ w.heap.size)
    (h : ∀ v' w', w'.ownsRow base e size v' (n + m) (xs ++ news) → w.grownBy w' v.ownBlock → wpList P ops Q rest (a.put o.dst v') w') : wpList P ops Q (o :: rest) a w := by
  cases A with
  | none =>
    obtain rfl := hr.none_nil
    obtain rfl := hn rfl
    have hm : m = 0 := by
      have h0 : m * size = 0 := by simpa using hl.symm
      rcases Nat.mul_eq_zero.1 h0 with q | q <;> omega
    subst hm
    exact wpList_append_own_none hgd s x t ho base e i size ht hi v n xs hs hown hx (h v w (by simpa using hown) ⟨rfl, rfl, rfl, Nat.le_refl _, fun _ _ _ => rfl⟩)
  | some ad => exact wpList_append_own w hgd s x t ho base e i z size bytes ht hi hz hsize hby hzs hsz v n xs hs hown ad m c news hx hl hr.addr h1 h63 hbytes hbase fun v' w' h2 h3 _ => h v' w' h2 h3
theorem bw_t {a b c : World} (h : Below a.heap.size a b) (k : Below b.heap.size b c) : Below a.heap.size a c := h.trans (k.mono h.size)
theorem bw_d {a b : World} (h : Below a.heap.size a b) (n : Nat) : Below a.heap.size a (b.drewN n) := ⟨h.os, h.tape, h.output, h.size, h.block⟩
theorem bw_a {a b : World} (h : Below a.heap.size a b) (o : Obj) : Below a.heap.size a (b.alloc o) := h.alloc h.size o
theorem bw_g {a b c : World} {row : Option Nat} (h : Below a.heap.size a b) (hg : b.grownBy c row) (hr : ∀ k, row = some k → a.heap.size ≤ k) : Below a.heap.size a c := h.grown hg h.size hr
theorem bv_one (bs : List UInt8) : ∀ u ∈ bs.map bv, u.oneCell' = true := by
  intro u hu; obtain ⟨b, _, rfl⟩ := List.mem_map.1 hu; simp [bv, Value.oneCell']
theorem Rd.of_blk {w : World} {g : Nat} {t : TypeId} {cs : Array Value} (h : Blk w g t cs) : Rd w (some ⟨g, 0, none⟩) cs.toList := by
  intro k u hk
  exact ⟨g, 0, rfl, h.lt, by rw [h.cell]; simpa using hk⟩
theorem Rd.new (w : World) (t : TypeId) (cs : Array Value) : Rd (w.alloc (.cells cs t)) (some ⟨w.heap.size, 0, none⟩) cs.toList := Rd.of_blk (Blk.new w t cs)
theorem own_mono {w : World} {base base' e size n : Nat} {v : Value} {xs : List Value} (h : w.ownsRow base e size v n xs) (hb : base' ≤ base) : w.ownsRow base' e size v n xs := by
  refine ⟨h.1, h.2.imp_right ?_⟩
  rintro ⟨g, cap, cur, hv, hg, r⟩
  exact ⟨g, cap, cur, hv, Nat.le_trans hb hg, r⟩
theorem own_below {w w' : World} {base e size n : Nat} {v : Value} {xs : List Value} (h : w.ownsRow base e size v n xs) (hb : Below w.heap.size w w') : w'.ownsRow base e size v n xs :=
  h.kept (row := none) ⟨hb.os, hb.tape, hb.output, hb.size, fun k hk _ => hb.block k hk⟩ (by cases hv : v.ownBlock <;> simp)
theorem own_two {w : World} {b1 e1 s1 n1 b2 e2 s2 n2 : Nat} {v1 v2 : Value} {xs1 xs2 : List Value} (h1 : w.ownsRow b1 e1 s1 v1 n1 xs1) (h2 : w.ownsRow b2 e2 s2 v2 n2 xs2) (hne : e1 ≠ e2) :
    v1.ownBlock = none ∨ v1.ownBlock ≠ v2.ownBlock := by
  rcases h1.2 with ⟨rfl, _⟩ | ⟨g1, c1, cur1, rfl, _, hg1, _⟩
  · exact .inl rfl
  rcases h2.2 with ⟨rfl, _⟩ | ⟨g2, c2, cur2, rfl, _, hg2, _⟩
  · exact .inr (by simp [Value.ownBlock])
  · refine .inr fun he => ?_
    have hg : g1 = g2 := by simpa [Value.ownBlock] using he
    subst hg
    rw [hg1] at hg2
    injection hg2 with hg2
    injection hg2 with _ ht
    exact hne ht
theorem own_setBelow {w : World} {base e size n : Nat} {v : Value} {xs : List Value} (h : w.ownsRow base e size v n xs) {p : Addr} (hp : p.block < base) (u : Value) : (w.setCell p u).ownsRow base e size v n xs := ownsRow_setCell_below h hp u
theorem eq_of_take {α : Type} {xs ys : List α} {k : Nat} (hl : xs.length = ys.length) (hk : xs.length ≤ k) (h : xs.take k = ys.take k) : xs = ys := by
  rwa [List.take_of_length_le hk, List.take_of_length_le (by omega)] at h
theorem ne_of_get {α : Type} {xs ys : List α} {k : Nat} (h1 : k < xs.length) (h2 : k < ys.length) (h : xs[k] ≠ ys[k]) : xs ≠ ys := by
  rintro rfl; exact h rfl
theorem ret_bool {a b : Bool} (h : a = b) : Ending.returned (.bool a) = .returned (.bool b) := by rw [h]
theorem ret_int {k : IntKind} {a b : Int} (h : a = b) : Ending.returned (.int k a) = .returned (.int k b) := by rw [h]
end Go.Proofs.Ytealjpolomhdeaa
set_option linter.unusedVariables false
namespace Go.Proofs.Ytealjpolomhdeaa
theorem Try.info5 : (Try.prog.info? 5).map (fun i => (i.zero, i.size, i.bytes)) = some (some (.int .u8 0), 1, 1) := by kernel_rfl
end Go.Proofs.Ytealjpolomhdeaa
set_option linter.unusedVariables false
namespace Go.Proofs.Ytealjpolomhdeaa
open Go.RowKit
/-- Of what w had, w' has all but block q as it was. -/
structure Only (q : Nat) (w w' : World) : Prop where
  os : w'.os = w.os
  tape : w'.tape = w.tape
  output : w'.output = w.output
  size : w.heap.size ≤ w'.heap.size
  block : ∀ k, k < w.heap.size → k ≠ q → w'.heap[k]? = w.heap[k]?
section
variable {q : Nat} {w w' w'' : World}
theorem Only.refl (q : Nat) (w : World) : Only q w w := ⟨rfl, rfl, rfl, Nat.le_refl _, fun _ _ _ => rfl⟩
theorem Only.trans (h : Only q w w') (k : Only q w' w'') : Only q w w'' :=
  ⟨k.os.trans h.os, k.tape.trans h.tape, k.output.trans h.output, Nat.le_trans h.size k.size, fun i hi hq => (k.block i (Nat.lt_of_lt_of_le hi h.size) hq).trans (h.block i hi hq)⟩
theorem Only.of_below (h : Below w.heap.size w w') : Only q w w' := ⟨h.os, h.tape, h.output, h.size, fun k hk _ => h.block k hk⟩
theorem Only.alloc (h : Only q w w') (o : Obj) : Only q w (w'.alloc o) := h.trans (.of_below ((Below.refl _ _).alloc (Nat.le_refl _) _))
theorem Only.drewN (h : Only q w w') (n : Nat) : Only q w (w'.drewN n) := ⟨h.os, h.tape, h.output, h.size, h.block⟩
theorem Only.set_ (h : Only q w w') (i : Nat) (u : Value) : Only q w (w'.setCell ⟨q, i, none⟩ u) := by
  refine ⟨h.os, h.tape, h.output, by simpa [World.setCell] using h.size, fun k hk hq => ?_⟩
  rw [Below.heap_setCell w' ⟨q, i, none⟩ u k hq]
  exact h.block k hk hq
theorem Only.new_ (h : Only q w w') {g : Nat} (hg : w.heap.size ≤ g) (i : Nat) (u : Value) : Only q w (w'.setCell ⟨g, i, none⟩ u) := by
  refine ⟨h.os, h.tape, h.output, by simpa [World.setCell] using h.size, fun k hk hq => ?_⟩
  rw [Below.heap_setCell w' ⟨g, i, none⟩ u k (by show k ≠ g; omega)]
  exact h.block k hk hq
theorem Only.grown (h : Only q w w') {row : Option Nat} (hg : w'.grownBy w'' row) (hr : ∀ k, row = some k → w.heap.size ≤ k) : Only q w w'' := by
  refine ⟨hg.os.trans h.os, hg.tape.trans h.tape, hg.output.trans h.output, Nat.le_trans h.size hg.size, fun k hk hq => ?_⟩
  rw [hg.block k (Nat.lt_of_lt_of_le hk h.size) (fun e => by have := hr k e.symm; omega)]
  exact h.block k hk hq
theorem Only.below {B : Nat} (h : Only q w w') (hq : B ≤ q) (hB : B ≤ w.heap.size) : Below B w w' :=
  ⟨h.os, h.tape, h.output, h.size, fun k hk => h.block k (by omega) (by omega)⟩
theorem Only.blk {g : Nat} {t : TypeId} {cs : Array Value} (h : Only q w w') (hb : Blk w g t cs) (hg : g ≠ q) : Blk w' g t cs := (h.block g hb.lt hg).trans hb
/-- What is read there lies in another block. -/
def Far (A : Option Addr) (n q : Nat) : Prop := 0 < n → ∀ b off, A = some ⟨b, off, none⟩ → b ≠ q
theorem Only.rd {A : Option Addr} {xs : List Value} {n : Nat} (h : Only q w w') (hr : Rd w A xs) (hf : Far A n q) (hn : xs.length = n) : Rd w' A xs := by
  intro k u hk
  have hpos : 0 < n := by have := (List.getElem?_eq_some_iff.1 hk).1; omega
  obtain ⟨b, off, rfl, hlt, hc⟩ := hr k u hk
  refine ⟨b, off, rfl, Nat.lt_of_lt_of_le hlt h.size, ?_⟩
  rw [← hc]
  exact World.cell?_of_block (h.block b hlt (hf hpos b off rfl))
theorem Only.sl {A : Option Addr} {c n : Nat} {xs : List Value} (h : Only q w w') (hs : Sl w A c xs) (hf : Far A n q) (hn : xs.length = n) : Sl w' A c xs := ⟨hs.cap, hs.small, hs.nil0, h.rd hs.rd hf hn⟩
end
theorem Only.of_grown {q : Nat} {w w' : World} (h : w.grownBy w' (some q)) : Only q w w' := ⟨h.os, h.tape, h.output, h.size, fun k hk hq => h.block k hk (by simpa using hq)⟩
end Go.Proofs.Ytealjpolomhdeaa
set_option linter.unusedVariables false
namespace Go.Proofs.Ytealjpolomhdeaa
open Go.RowKit
/-- Of what w had, w' has all but the blocks of S as it was. -/
structure Chg (S : Nat → Prop) (w w' : World) : Prop where
  os : w'.os = w.os
  tape : w'.tape = w.tape
  output : w'.output = w.output
  size : w.heap.size ≤ w'.heap.size
  block : ∀ k, k < w.heap.size → ¬ S k → w'.heap[k]? = w.heap[k]?
section
variable {S T : Nat → Prop} {w w' w'' : World}
theorem Chg.refl (S : Nat → Prop) (w : World) : Chg S w w := ⟨rfl, rfl, rfl, Nat.le_refl _, fun _ _ _ => rfl⟩
theorem Chg.trans (h : Chg S w w') (k : Chg S w' w'') : Chg S w w'' :=
  ⟨k.os.trans h.os, k.tape.trans h.tape, k.output.trans h.output, Nat.le_trans h.size k.size, fun i hi hq => (k.block i (Nat.lt_of_lt_of_le hi h.size) hq).trans (h.block i hi hq)⟩
theorem Chg.mono (h : Chg S w w') (hT : ∀ k, k < w.heap.size → S k → T k) : Chg T w w' := ⟨h.os, h.tape, h.output, h.size, fun k hk hq => h.block k hk fun hs => hq (hT k hk hs)⟩
theorem Chg.of_below {B : Nat} (h : Below B w w') (hS : ∀ k, k < w.heap.size → ¬ S k → k < B) : Chg S w w' := ⟨h.os, h.tape, h.output, h.size, fun k hk hq => h.block k (hS k hk hq)⟩
theorem Chg.of_new (h : Below w.heap.size w w') : Chg S w w' := .of_below h fun k hk _ => hk
theorem Chg.of_only {q : Nat} (h : Only q w w') (hq : S q) : Chg S w w' := ⟨h.os, h.tape, h.output, h.size, fun k hk hn => h.block k hk fun e => hn (e ▸ hq)⟩
theorem Chg.of_grown {row : Option Nat} (h : w.grownBy w' row) (hq : ∀ g, row = some g → S g) : Chg S w w' := ⟨h.os, h.tape, h.output, h.size, fun k hk hn => h.block k hk fun e => hn (hq k e.symm)⟩
theorem Chg.set_ (h : Chg S w w') {g : Nat} (hg : S g ∨ w.heap.size ≤ g) (i : Nat) (u : Value) : Chg S w (w'.setCell ⟨g, i, none⟩ u) := by
  refine ⟨h.os, h.tape, h.output, by simpa [World.setCell] using h.size, fun k hk hq => ?_⟩
  rw [Below.heap_setCell w' ⟨g, i, none⟩ u k (by intro e; simp only at e; subst e; rcases hg with hg | hg; exact hq hg; omega)]
  exact h.block k hk hq
theorem Chg.alloc (h : Chg S w w') (o : Obj) : Chg S w (w'.alloc o) := h.trans (.of_new ((Below.refl _ _).alloc (Nat.le_refl _) _))
theorem Chg.drewN (h : Chg S w w') (n : Nat) : Chg S w (w'.drewN n) := ⟨h.os, h.tape, h.output, h.size, h.block⟩
theorem Chg.drew (h : Chg S w w') : Chg S w w'.drew := ⟨h.os, h.tape, h.output, h.size, h.block⟩
theorem Chg.below {B : Nat} (h : Chg S w w') (hS : ∀ k, S k → B ≤ k) (hB : B ≤ w.heap.size) : Below B w w' := ⟨h.os, h.tape, h.output, h.size, fun k hk => h.block k (by omega) fun hs => by have := hS k hs; omega⟩
theorem Chg.blk {g : Nat} {t : TypeId} {cs : Array Value} (h : Chg S w w') (hb : Blk w g t cs) (hg : ¬ S g) : Blk w' g t cs := (h.block g hb.lt hg).trans hb
/-- What is read there lies in no block of S. -/
def FarS (A : Option Addr) (n : Nat) (S : Nat → Prop) : Prop := 0 < n → ∀ b off, A = some ⟨b, off, none⟩ → ¬ S b
theorem Chg.rd {A : Option Addr} {xs : List Value} {n : Nat} (h : Chg S w w') (hr : Rd w A xs) (hf : FarS A n S) (hn : xs.length = n) : Rd w' A xs := by
  intro k u hk
  have hpos : 0 < n := by have := (List.getElem?_eq_some_iff.1 hk).1; omega
  obtain ⟨b, off, rfl, hlt, hc⟩ := hr k u hk
  refine ⟨b, off, rfl, Nat.lt_of_lt_of_le hlt h.size, ?_⟩
  rw [← hc]
  exact World.cell?_of_block (h.block b hlt (hf hpos b off rfl))
theorem Chg.sl {A : Option Addr} {c n : Nat} {xs : List Value} (h : Chg S w w') (hs : Sl w A c xs) (hf : FarS A n S) (hn : xs.length = n) : Sl w' A c xs := ⟨hs.cap, hs.small, hs.nil0, h.rd hs.rd hf hn⟩
theorem FarS.far {A : Option Addr} {n : Nat} (h : FarS A n S) {q : Nat} (hq : S q) : Far A n q := fun hp b off e hb => h hp b off e (hb ▸ hq)
theorem FarS.imp {A : Option Addr} {n : Nat} (h : FarS A n S) (hT : ∀ k, T k → S k) : FarS A n T := fun hp b off e hb => h hp b off e (hT b hb)
end
/-- Older views of a row of v, and all other rows, stay as they were. -/
def Views (e : TypeId) (v : Value) (n : Nat) (w w' : World) : Prop := ∀ B v0 n0 xs0, w.ownsRow B e 1 v0 n0 xs0 → (v0.ownBlock ≠ none → v0.ownBlock = v.ownBlock → n0 ≤ n) → w'.ownsRow B e 1 v0 n0 xs0
/-- A grown row lies where it lay, or in new memory. -/
def NewOr (w : World) (v v' : Value) : Prop := v'.ownBlock = v.ownBlock ∨ ∀ g, v'.ownBlock = some g → w.heap.size ≤ g
theorem views_kept {e : TypeId} {v : Value} {n : Nat} {w w' : World} (h : Below w.heap.size w w') : Views e v n w w' := fun B v0 n0 xs0 h0 _ => own_below h0 h
end Go.Proofs.Ytealjpolomhdeaa
set_option linter.unusedVariables false
namespace Go.Proofs.Ytealjpolomhdeaa
open Go.RowKit
end Go.Proofs.Ytealjpolomhdeaa
set_option linter.unusedVariables false
namespace Go.Proofs.Ytealjpolomhdeaa
theorem wpOp_of_list {P : Program} {ops : Array Oper} {Q : Exit → Act → World → Prop} {i : Nat} {o : Oper} {K : Act → World → Prop} {a : Act} {w : World} (ho : ops[i]? = some o) (h : wpList P ops (Exit.then K Q) [o] a w) : wpOp P ops Q i K a w := by
  unfold wpOp
  simp only [ho]
  unfold wpList at h
  split
  · rename_i hw
    simp only [hw, if_true] at h
    rcases h with h | ⟨h1, h2⟩
    · left
      unfold Oper.wp at *
      generalize (execOp a.eval o).run P w = r at *
      cases r with
      | ok n w' =>
        cases n <;> simp only [Oper.upon] at h ⊢ <;> first
          | exact h
          | exact Calls.mono h (fun e w'' he => by cases e <;> first | exact he | (obtain ⟨a2, w2, h2⟩ := he; exact ⟨a2, w2, h2⟩))
          | exact Rows.mono h (fun _ _ he => he)
      | halt x w' => cases x <;> simp only [Oper.upon] at h ⊢ <;> exact h
    · exact .inr ⟨h1, by obtain ⟨a2, w2, h3⟩ := h2; exact ⟨a2, w2, h3⟩⟩
  · rename_i hw
    simp only [hw] at h
    exact h
end Go.Proofs.Ytealjpolomhdeaa
set_option linter.unusedVariables false
namespace Go.Proofs.Ytealjpolomhdeaa
open Go.RowKit
/-- Marks: blocks from B on, each of which collected no call. -/
def Marks (B : Nat) (W : World) (Ds : List Nat) : Prop := Ds.Nodup ∧ ∀ D ∈ Ds, B ≤ D ∧ W.heap[D]? = some (.deferred (some []))
def marksOf (Ds : List Nat) : List Deferred := Ds.map fun D => { target := .collected D, args := #[] }
theorem Marks.nil_ (B : Nat) (W : World) : Marks B W [] := ⟨List.nodup_nil, fun D h => by simp at h⟩
theorem Marks.lt {B : Nat} {W : World} {Ds : List Nat} (h : Marks B W Ds) {D : Nat} (hD : D ∈ Ds) : D < W.heap.size := (Array.getElem?_eq_some_iff.1 (h.2 D hD).2).1
theorem Marks.cons_ {B : Nat} {W : World} {Ds : List Nat} (h : Marks B W Ds) {D : Nat} (hD : B ≤ D) (hn : D ∉ Ds) (hk : W.heap[D]? = some (.deferred (some []))) : Marks B W (D :: Ds) :=
  ⟨List.nodup_cons.2 ⟨hn, h.1⟩, fun x hx => by rcases List.mem_cons.1 hx with rfl | hx; exact ⟨hD, hk⟩; exact h.2 x hx⟩
theorem Marks.chg {B : Nat} {W W' : World} {Ds : List Nat} {S : Nat → Prop} (h : Marks B W Ds) (hc : Chg S W W') (hS : ∀ D ∈ Ds, ¬ S D) : Marks B W' Ds :=
  ⟨h.1, fun D hD => ⟨(h.2 D hD).1, (hc.block D (h.lt hD) (hS D hD)).trans (h.2 D hD).2⟩⟩
theorem chg_putObj {S : Nat → Prop} {W : World} {l : Nat} (o : Obj) (hl : S l) : Chg S W (W.putObj l o) := Chg.of_grown (grownBy_putObj' W l o) fun g e => by cases e; exact hl
/-- Whoever leaves with such marks leaves as without. -/
theorem leaves_marks {F : Fence} {n : Nat} {P : Program} {fn : Func} {tmps : Array Value} {R : Ending → World → Prop} (B : Nat) : ∀ (Ds : List Nat) (W : World), Marks B W Ds →
    (∀ W', Chg (fun k => k ∈ Ds) W W' → LeavesInM F n P fn tmps R [] .returning W') → LeavesInM F n P fn tmps R (marksOf Ds) .returning W
  | [], W, _, h => h W (Chg.refl _ _)
  | D :: Ds, W, hm, h => by
    obtain ⟨hnd, hall⟩ := hm
    have hD := hall D (List.mem_cons_self ..)
    refine ⟨by simp, .inl ⟨D, _, rfl, run_takeDeferred hD.2, ?_⟩⟩
    have hc : Chg (fun k => k ∈ D :: Ds) W (W.putObj D (.deferred none)) := chg_putObj _ (List.mem_cons_self ..)
    have hc1 : Chg (fun k => k = D) W (W.putObj D (.deferred none)) := chg_putObj _ rfl
    refine leaves_marks B Ds _ (Marks.chg ⟨(List.nodup_cons.1 hnd).2, fun x hx => hall x (List.mem_cons_of_mem _ hx)⟩ hc1 fun x hx e => ?_) fun W' hW' => h W' (hc.trans (hW'.mono fun k _ hk => List.mem_cons_of_mem _ hk))
    subst e
    exact (List.nodup_cons.1 hnd).1 hx
end Go.Proofs.Ytealjpolomhdeaa
set_option linter.unusedVariables false
namespace Go.Proofs.Ytealjpolomhdeaa
open Go.RowKit
/-- Some blocks lie as they lay. -/
def KN (z n : Nat) (W W' : World) : Prop := ∀ q, z ≤ q → q < z + n → W'.heap[q]? = W.heap[q]?
theorem KN.of_chg {z n : Nat} {W W' : World} {S : Nat → Prop} (h : Chg S W W') (hz : z + n ≤ W.heap.size) (h0 : ∀ q, z ≤ q → q < z + n → ¬ S q) : KN z n W W' := fun q h1 h2 => h.block q (by omega) (h0 q h1 h2)
theorem KN.trans {z n : Nat} {W W' W'' : World} (h : KN z n W W') (k : KN z n W' W'') : KN z n W W'' := fun q h1 h2 => (k q h1 h2).trans (h q h1 h2)
theorem KN.refl (z n : Nat) (W : World) : KN z n W W := fun _ _ _ => rfl
theorem KN.sub {z n a k : Nat} {W W' : World} (h : KN z n W W') (h1 : z ≤ a) (h2 : a + k ≤ z + n) : KN a k W W' := fun q g1 g2 => h q (by omega) (by omega)
/-- How a round's body ends. -/
def rPost (z n : Nat) (I : Nat → World → Prop) (Ix : Code → World → Prop) (j : Nat) (W : World) : Exit → Act → World → Prop
  | .normal, _, W' => KN z n W W' ∧ I (j + 1) W'
  | .ret, _, W' => KN z n W W' ∧ Ix .ret W'
  | .exit id, _, W' => KN z n W W' ∧ Ix (.exit id) W'
  | .goto t, _, W' => KN z n W W' ∧ Ix (.goto t) W'
  | .panic _, _, _ => False
  | .outgrown, _, _ => False
set_option maxRecDepth 100000 in
set_option maxHeartbeats 2000000 in
theorem range_wide {P : Program} {g : Operand} {ps : Array Tmp} {assign body : Code} {Q : Exit → Act → World → Prop} {a : Act} {w : World} (m : Nat) (hm : 2 ≤ m) (z : Nat) (hz : w.heap.size = z)
    {gf : Nat} {lb : Array Value} (hg : a.eval g = .func (.func gf) #[] lb) (eg : ∀ args w, (callFunc gf args).run P w = .ok (.enter gf args) w)
    (N : Nat) (enc : Nat → Array Value) (hps : ∀ j, (enc j).size = ps.size) (own : Nat) (I : Nat → World → Prop) (Ix : Code → World → Prop)
    (hI : ∀ j W W', I j W → Chg (fun q => z ≤ q ∧ q < z + 2 + own) W W' → I j W') (hIx : ∀ c W W', Ix c W → Chg (fun q => z ≤ q ∧ q < z + 2 + own) W W' → Ix c W') (h0 : I 0 w)
    (hseq : ∀ (l : Nat) (J : Nat → World → Prop) (Jx : World → Prop) (W : World), W.heap.size = z + 2 → (∀ j W, J j W → I j W ∧ z + 2 ≤ W.heap.size) → (∀ j W W', J j W → Chg (fun q => z + 2 ≤ q ∧ q < z + 2 + own) W W' → J j W') → (∀ W W', Jx W → Chg (fun q => z + 2 ≤ q ∧ q < z + 2 + own) W W' → Jx W') → J 0 W →
      (∀ j W, j < N → J j W → z + 2 + own ≤ W.heap.size → YieldAt Fence.wide (m - 1 - 1) P l (enc j) W fun e W' => (e = .returned (.bool true) ∧ J (j + 1) W' ∧ KN (z + 2) own W W') ∨ (e = .returned (.bool false) ∧ Jx W' ∧ KN (z + 2) own W W')) →
      CallsIn Fence.wide (m - 1) P gf (#[.func (.yield l) #[] #[]] ++ lb) W fun e W' => (∃ v, e = .returned v) ∧ (J N W' ∨ Jx W'))
    (hbody : ∀ (l j : Nat) (W : World), j < N → I j W → z + 2 + own ≤ W.heap.size →
      assign.wpIn (Fence.wide.inRound l) (m - 1 - 1) P (Exit.then (fun a₁ W₁ => KN z (2 + own) W W₁ ∧ z + 2 + own ≤ W₁.heap.size ∧ ∀ W₂, Chg (fun q => q = z + 1) W₁ W₂ → body.wpIn (Fence.wide.inRound l) (m - 1 - 1) P (rPost z (2 + own) I Ix j W₂) a₁ W₂) (fun _ _ _ => False))
        { tmps := (ps.zip (enc j)).foldl (fun t (p, v) => t.setIfInBounds p v) a.tmps, defers := [] } W)
    (hdone : ∀ W, I N W → W.heap[z]? = some (.deferred (some [])) → Q .normal { a with defers := { target := .collected z, args := #[] } :: a.defers } W)
    (hstop : ∀ c W, Ix c W → W.heap[z]? = some (.deferred (some [])) → c.wpIn Fence.wide m P Q { a with defers := { target := .collected z, args := #[] } :: a.defers } W) :
    (Code.rangeFunc g ps assign body).wpIn Fence.wide m P Q a w := by
  refine wpIn_rangeFunc fun fn _ => ?_
  obtain ⟨rec, hrec⟩ : ∃ rec : LoopState → Option Code → Loop, rec = fun st pe => { state := st, pending := pe, fn, tmps := a.tmps, params := ps, assign := assign, body := body, defers := z } := ⟨_, rfl⟩
  obtain ⟨W1, hW1⟩ : ∃ W1, (w.alloc (.deferred (some []))).alloc (.loop (rec .ready none)) = W1 := ⟨_, rfl⟩
  have hz1 : W1.heap.size = z + 2 := by rw [← hW1]; simp [hz]
  have hL1 : W1.heap[z + 1]? = some (.loop (rec .ready none)) := by
    rw [← hW1]; have := World.alloc_heap_new (w.alloc (.deferred (some []))) (.loop (rec .ready none)); rwa [World.size_alloc, hz] at this
  have hK1 : W1.heap[z]? = some (.deferred (some [])) := by
    have h := World.alloc_heap_new w (.deferred (some []))
    rw [hz] at h
    rw [← hW1]; exact (Below.heap_alloc _ _ _ (by simp [hz])).trans h
  have hC1 : ∀ S, Chg S w W1 := fun S => by rw [← hW1]; exact ((Chg.refl S w).alloc _).alloc _
  refine ⟨z + 1, [{ target := .collected z, args := #[] }], W1, { target := .fn (.func gf) lb, args := #[.func (.yield (z + 1)) #[] #[]] }, W1, gf, #[.func (.yield (z + 1)) #[] #[]] ++ lb, W1, ?_, ?_, fun _ _ => trivial, ?_, fun _ => by omega, ?_⟩
  · have h := run_enterLoop_outer (P := P) (w := w) fn a.tmps ps assign body
    rw [hz] at h
    rw [← hW1, hrec]
    exact h
  · unfold resolve rangeCall
    dsimp only
    rw [hg]
    simp [go_sem]
  · simp [invoke, go_sem, eg]
  · have hy : ∀ (W : World) (xs : Array Value), xs.size = ps.size → W.heap[z + 1]? = some (.loop (rec .ready none)) → (Instr.yield (z + 1) xs).run P W = .ok (.round (z + 1) fn ((ps.zip xs).foldl (fun t (p, v) => t.setIfInBounds p v) a.tmps) assign body) W := fun W xs hs h => by
      have h := run_yield (P := P) (args := xs) h (by rw [hrec]; exact hs)
      rw [hrec] at h
      simpa using h
    have hput : ∀ (W : World) (o : Obj) (j : Nat), I j W → I j (W.putObj (z + 1) o) := fun W o j h => hI j _ _ h (chg_putObj o (by omega))
    refine (hseq (z + 1) (fun j W => I j W ∧ z + 2 ≤ W.heap.size ∧ W.heap[z + 1]? = some (.loop (rec .ready none)) ∧ W.heap[z]? = some (.deferred (some []))) (fun W => ∃ c, Ix c W ∧ W.heap[z + 1]? = some (.loop (rec .done (some c))) ∧ W.heap[z]? = some (.deferred (some [])))
      W1 hz1 (fun j W h => ⟨h.1, h.2.1⟩) (fun j W W' h hc => ⟨hI j _ _ h.1 (hc.mono fun _ _ hf => by omega), Nat.le_trans h.2.1 hc.size, (hc.block _ (by have := h.2.1; omega) (fun hf => by omega)).trans h.2.2.1, (hc.block _ (by have := h.2.1; omega) (fun hf => by omega)).trans h.2.2.2⟩) (fun W W' ⟨c, h1, h2, h3⟩ hc => ⟨c, hIx c _ _ h1 (hc.mono fun _ _ hf => by omega), (hc.block _ (Array.getElem?_eq_some_iff.1 h2).1 (fun hf => by omega)).trans h2, (hc.block _ (Array.getElem?_eq_some_iff.1 h3).1 (fun hf => by omega)).trans h3⟩) ⟨hI 0 _ _ h0 (hC1 _), by omega, hL1, hK1⟩ ?hY).mono ?fin
    case hY =>
      rintro j W hj ⟨hij, hsz, hr, hd⟩ hown
      refine ⟨fn, _, assign, body, hy W _ (hps j) hr, roundIn_of_wpIn trivial ?_⟩
      refine wpIn_mono (hbody (z + 1) j W hj hij hown) ?_
      intro e a1 W₁ hq
      cases e <;> try exact hq
      obtain ⟨hk, hs1, hb⟩ := hq
      have hr1 := (hk (z + 1) (by omega) (by omega)).trans hr
      have hd1 := (hk z (by omega) (by omega)).trans hd
      have hbr := run_beginRound (P := P) hr1 (by rw [hrec])
      refine ⟨_, hbr, ?_⟩
      obtain ⟨W2, hW2⟩ : ∃ W2, W₁.putObj (z + 1) (.loop { rec .ready none with state := .busy }) = W2 := ⟨_, rfl⟩
      have hc2 : Chg (fun q => q = z + 1) W₁ W2 := by rw [← hW2]; exact chg_putObj _ rfl
      have hr2 : W2.heap[z + 1]? = some (.loop { rec .ready none with state := .busy }) := by rw [← hW2]; exact World.putObj_heap_same (Array.getElem?_eq_some_iff.1 hr1).1
      have hd2 := (hc2.block z (by omega) (by omega)).trans hd1
      rw [hW2]
      refine wpIn_mono (hb W2 hc2) ?_
      have fin : ∀ (W' : World) (jump : Option Code), KN z (2 + own) W2 W' → ∃ W3, (Instr.endRound (z + 1) jump).run P W' = .ok (.bool jump.isNone) W3 ∧ Chg (fun q => z ≤ q ∧ q < z + 2 + own) W' W3 ∧ KN (z + 2) own W W3 ∧ W3.heap[z + 1]? = some (.loop (rec (if jump.isNone then .ready else .done) jump)) ∧ W3.heap[z]? = some (.deferred (some [])) ∧ z + 2 ≤ W3.heap.size := by
        intro W' jump hk'
        have hr' := (hk' (z + 1) (by omega) (by omega)).trans hr2
        have hl' := (Array.getElem?_eq_some_iff.1 hr').1
        have hend := run_endRound (P := P) jump hr'
        have hcp := fun o => chg_putObj (W := W') (l := z + 1) (S := fun q => q = z + 1) o rfl
        refine ⟨_, hend, chg_putObj _ (by omega), ?_, ?_, ((hcp _).block z (by omega) (by omega)).trans ((hk' z (by omega) (by omega)).trans hd2), Nat.le_trans (by omega) (hcp _).size⟩
        · intro q g1 g2
          rw [show (W'.putObj (z + 1) _).heap[q]? = W'.heap[q]? from World.putObj_heap_other (by omega)]
          rw [hk' q (by omega) (by omega), hc2.block q (by omega) (by omega)]
          exact hk q (by omega) (by omega)
        simp only [hrec]
        exact World.putObj_heap_same hl'
      intro e a' W' hq
      cases e with
      | normal =>
        obtain ⟨hk', hi'⟩ := hq
        obtain ⟨W3, he3, hc3, hkn, hr3, hd3, hs3⟩ := fin W' none hk'
        exact ⟨_, W3, he3, .inl ⟨rfl, ⟨hI _ _ _ hi' hc3, hs3, hr3, hd3⟩, hkn⟩⟩
      | ret =>
        obtain ⟨hk', hi'⟩ := hq
        obtain ⟨W3, he3, hc3, hkn, hr3, hd3, hs3⟩ := fin W' (some .ret) hk'
        exact ⟨_, W3, he3, .inr ⟨rfl, ⟨.ret, hIx _ _ _ hi' hc3, hr3, hd3⟩, hkn⟩⟩
      | exit id =>
        obtain ⟨hk', hi'⟩ := hq
        obtain ⟨W3, he3, hc3, hkn, hr3, hd3, hs3⟩ := fin W' (some (.exit id)) hk'
        exact ⟨_, W3, he3, .inr ⟨rfl, ⟨.exit id, hIx _ _ _ hi' hc3, hr3, hd3⟩, hkn⟩⟩
      | goto t =>
        obtain ⟨hk', hi'⟩ := hq
        obtain ⟨W3, he3, hc3, hkn, hr3, hd3, hs3⟩ := fin W' (some (.goto t)) hk'
        exact ⟨_, W3, he3, .inr ⟨rfl, ⟨.goto t, hIx _ _ _ hi' hc3, hr3, hd3⟩, hkn⟩⟩
      | panic c => exact hq.elim
      | outgrown => exact hq.elim
    case fin =>
      rintro e W2 ⟨⟨v, rfl⟩, (⟨hij, hs, hr, hd⟩ | ⟨c, hix, hr, hd⟩)⟩
      · refine ⟨none, _, by have := run_endLoop (P := P) hr (by rw [hrec]; simp); rw [hrec] at this; exact this, ?_⟩
        exact hdone _ (hput _ _ _ hij) (((chg_putObj (S := fun q => q = z + 1) _ rfl).block z (by omega) (by omega)).trans hd)
      · refine ⟨some c, _, by have := run_endLoop (P := P) hr (by rw [hrec]; simp); rw [hrec] at this; exact this, ?_⟩
        have hlz := (Array.getElem?_eq_some_iff.1 hd).1
        exact hstop c _ (hIx _ _ _ hix (chg_putObj _ (by omega))) (((chg_putObj (S := fun q => q = z + 1) _ rfl).block z hlz (by omega)).trans hd)
theorem own_chgS {S : Nat → Prop} {w w' : World} {B e sz n : Nat} {v : Value} {xs : List Value} (h : w.ownsRow B e sz v n xs) (hc : Chg S w w') (hS : ∀ g, v.ownBlock = some g → ¬ S g) : w'.ownsRow B e sz v n xs := by
  refine ⟨h.1, h.2.imp_right ?_⟩
  rintro ⟨g, cap, cur, rfl, hg, hc1, r⟩
  exact ⟨g, cap, cur, rfl, hg, (hc.block g (Array.getElem?_eq_some_iff.1 hc1).1 (hS g rfl)).trans hc1, r⟩
theorem wpListIn_append_rd {F : Fence} {n : Nat} {P : Program} (w : World) {ops : Array Oper} {rest : List Oper} {o : Oper} {a : Act} {Q : Exit → Act → World → Prop} (hgd : o.guard = none) (s x : Operand) (t : TypeId)
    (ho : o.op = .call { callee := .builtin .append, args := #[s, x], argTypes := #[t, t] })
    (base : Nat) (e : TypeId) (i : TypeInfo) (z : Value) (size bytes : Nat) (ht : P.underlying t = some (.slice e)) (hi : P.info? e = some i) (hz : i.zero = some z)
    (hsize : i.size = size) (hby : i.bytes = bytes) (hzs : z.cells.size = size) (hsz : 0 < size)
    (v : Value) (k : Nat) (xs : List Value) (hs : a.eval s = v) (hown : w.ownsRow base e size v k xs)
    (A : Addr) (m c : Nat) (news : List Value) (hx : a.eval x = .slice (some A) m c) (hl : news.length = m * size) (hr : Rd w (some A) news) (h1 : ∀ u ∈ news, u.oneCell' = true)
    (h63 : k + m ≤ maxLen) (hbytes : (k + m) * bytes ≤ 140737488355328) (hbase : base ≤ w.heap.size)
    (h : ∀ v' w', w'.ownsRow base e size v' (k + m) (xs ++ news) → w.grownBy w' v.ownBlock → wpListIn F n P ops Q rest (a.put o.dst v') w') : wpListIn F n P ops Q (o :: rest) a w :=
  wpListIn_append_own w hgd s x t ho base e i z size bytes ht hi hz hsize hby hzs hsz v k xs hs hown A m c news hx hl hr.addr h1 h63 hbytes hbase fun v' w' h2 h3 _ => h v' w' h2 h3
end Go.Proofs.Ytealjpolomhdeaa
set_option linter.unusedVariables false
namespace Go.Proofs.Ytealjpolomhdeaa
/-- Each operation waits for earlier ones alone. -/
def regUpB (md : Region.Mode) (ops : Array Oper) : Bool := (List.range ops.size).all fun i => ((ops[i]?).map fun o => o.after.all fun e => !Region.binds md e || decide (e.on < i)).getD true
theorem regUpB_spec {md : Region.Mode} {ops : Array Oper} (h : regUpB md ops = true) {i : Nat} {o : Oper} (ho : ops[i]? = some o) : ∀ e ∈ o.after, Region.binds md e = true → e.on < i := by
  have hi : i < ops.size := (Array.getElem?_eq_some_iff.1 ho).1
  unfold regUpB at h
  rw [List.all_eq_true] at h
  have h1 := h i (List.mem_range.2 hi)
  rw [ho] at h1
  intro e he hb
  simp only [Option.map_some, Option.getD_some] at h1
  have h2 := (Array.all_eq_true'.1 h1) e he
  rw [hb] at h2
  simpa using h2
theorem wpAny_invB {P : Program} {md : Region.Mode} {ops : Array Oper} {Q : Exit → Act → World → Prop} (hup : regUpB md ops = true) (I : (Nat → Bool) → Act → World → Prop)
    (hstep : ∀ f a w i o, ops[i]? = some o → f i = false → (∀ e ∈ o.after, Region.binds md e = true → f e.on = true) → I f a w → wpList P ops (Exit.then (fun a' w' => I (fun k => decide (k = i) || f k) a' w') Q) [o] a w)
    (hdone : ∀ f a w, (∀ i, i < ops.size → f i = true) → I f a w → Q .normal a w) :
    ∀ (fuel : Nat) (listed : Array Bool) (a : Act) (w : World), listed.size = ops.size → ((List.range ops.size).filter fun i => !listed.getD i true).length ≤ fuel → I (fun k => listed.getD k true) a w → wpAny P md ops Q fuel listed a w := by
  have hall : ∀ (listed : Array Bool), listed.size = ops.size → Region.ready md ops listed = [] → ∀ i, i < ops.size → listed.getD i true = true := by
    intro listed hsz hr i
    induction i using Nat.strongRecOn with
    | _ i ih =>
      intro hi
      cases hb : listed.getD i true with
      | true => rfl
      | false =>
        exfalso
        have ho : ops[i]? = some ops[i] := Array.getElem?_eq_getElem hi
        have : i ∈ Region.ready md ops listed := mem_ready.2 ⟨hb, ops[i], ho, fun e he hb2 => by
          have h1 := regUpB_spec hup ho e he hb2
          have h2 := ih e.on h1 (by omega)
          have h3 : e.on < listed.size := by omega
          simp only [Array.getD_eq_getD_getElem?, Array.getElem?_eq_getElem h3, Option.getD_some] at h2 ⊢
          exact h2⟩
        rw [hr] at this
        cases this
  intro fuel
  induction fuel with
  | zero =>
    intro listed a w hsz hc hI
    have hnil : Region.ready md ops listed = [] := by
      cases hr : Region.ready md ops listed with
      | nil => rfl
      | cons x xs =>
        have hx : x ∈ Region.ready md ops listed := by rw [hr]; exact List.mem_cons_self ..
        obtain ⟨h1, o, h2, -⟩ := mem_ready.1 hx
        have h3 : x ∈ (List.range ops.size).filter fun i => !listed.getD i true := List.mem_filter.2 ⟨List.mem_range.2 (Array.getElem?_eq_some_iff.1 h2).1, by rw [h1]; rfl⟩
        have := List.length_pos_of_mem h3
        omega
    exact ⟨hnil, hdone _ a w (hall listed hsz hnil) hI⟩
  | succ fuel ih =>
    intro listed a w hsz hc hI
    refine ⟨fun hr => hdone _ a w (hall listed hsz hr) hI, fun i hi => ?_⟩
    obtain ⟨h1, o, h2, h3⟩ := mem_ready.1 hi
    have hlt : i < ops.size := (Array.getElem?_eq_some_iff.1 h2).1
    refine wpOp_mono (fun a' w' h => ?_) (wpOp_of_list h2 (hstep _ a w i o h2 h1 (fun e he hb => by
      have h4 := h3 e he hb
      have h5 := regUpB_spec hup h2 e he hb
      have h6 : e.on < listed.size := by omega
      simp only [Array.getD_eq_getD_getElem?, Array.getElem?_eq_getElem h6, Option.getD_some] at h4 ⊢
      exact h4) hI))
    have hfn : (fun k => decide (k = i) || listed.getD k true) = fun k => (listed.setIfInBounds i true).getD k true := by
      funext k
      by_cases hk : k = i
      · subst hk
        simp [Array.getD_eq_getD_getElem?, hsz, hlt]
      · rw [getD_set_ne true (fun e => hk e.symm)]
        simp [hk]
    refine ih _ a' w' (by simpa using hsz) ?_ (by rw [← hfn]; exact h)
    have hf : ((List.range ops.size).filter fun k => !(listed.setIfInBounds i true).getD k true) = ((List.range ops.size).filter fun k => !listed.getD k true).filter fun k => !decide (k = i) := by
      rw [List.filter_filter]
      congr 1
      funext k
      rw [← congrFun hfn k]
      cases decide (k = i) <;> simp
    have hmem : i ∈ (List.range ops.size).filter fun k => !listed.getD k true := List.mem_filter.2 ⟨List.mem_range.2 hlt, by rw [h1]; rfl⟩
    have hlt2 : (((List.range ops.size).filter fun k => !listed.getD k true).filter fun k => !decide (k = i)).length < ((List.range ops.size).filter fun k => !listed.getD k true).length :=
      List.length_filter_lt_length_iff_exists.2 ⟨i, hmem, by simp⟩
    rw [hf]
    omega
/-- A region that draws its order: an invariant over what has come up, from the frame and the world at its head. -/
theorem wp_region_invB {P : Program} {ops : Array Oper} {Q : Exit → Act → World → Prop} {id : Nat} {a : Act} {w : World} (hm : P.follows .mixedOrders = true) (hup : regUpB .any ops = true) (I : Act → World → (Nat → Bool) → Act → World → Prop)
    (h0 : I a w (fun k => decide (ops.size ≤ k)) a w.drew)
    (hstep : ∀ f a' w' i o, ops[i]? = some o → f i = false → (∀ e ∈ o.after, Region.binds .any e = true → f e.on = true) → I a w f a' w' → wpList P ops (Exit.then (fun a'' w'' => I a w (fun k => decide (k = i) || f k) a'' w'') Q) [o] a' w')
    (hdone : ∀ f a' w', (∀ i, i < ops.size → f i = true) → I a w f a' w' → Q .normal a' w') : (Code.region id ops true).wp P Q a w := by
  refine wp_region_any hm (wpAny_invB hup (I a w) hstep hdone ops.size _ a _ (by simp) ?_ ?_)
  · exact Nat.le_trans (List.length_filter_le _ _) (by simp)
  · have e : (fun k => (Array.replicate ops.size false).getD k true) = fun k => decide (ops.size ≤ k) := by
      funext k
      by_cases hk : k < ops.size
      · simp [Array.getD_eq_getD_getElem?, hk]
      · simp [Array.getD_eq_getD_getElem?, hk]; omega
    rw [e]
    exact h0
end Go.Proofs.Ytealjpolomhdeaa
set_option linter.unusedVariables false
namespace Go.Proofs.Ytealjpolomhdeaa
open Go.RowKit
/-- Is it a rune? -/
def runeI (n : Int) : Bool := decide (0 ≤ n ∧ n ≤ 1114111 ∧ (n < 55296 ∨ 57343 < n))
/-- The bytes behind the first one of a rune. -/
def conts : Nat → Nat → List UInt8 → Option Nat
  | 0, n, _ => some n
  | _ + 1, _, [] => none
  | k + 1, n, d :: r => if d.toNat < 128 ∨ 192 ≤ d.toNat then none else conts k (n * 64 + d.toNat - 128) r
def tl (k n least : Nat) (r : List UInt8) : Nat × Nat :=
  if r.length < k then (0, 0) else
  match conts k n r with
  | none => (0, 0)
  | some m => if m < least ∨ ¬ runeI m then (0, 0) else (k + 1, m)
/-- How many bytes the rune with which the bytes begin has, and it. -/
def oneL : List UInt8 → Nat × Nat
  | [] => (0, 0)
  | c :: r =>
    if c.toNat < 128 then (1, c.toNat) else
    if c.toNat < 192 then (0, 0) else
    if c.toNat < 224 then tl 1 (c.toNat - 192) 128 r else
    if c.toNat < 240 then tl 2 (c.toNat - 224) 2048 r else
    if c.toNat < 248 then tl 3 (c.toNat - 240) 65536 r else (0, 0)

end Go.Proofs.Ytealjpolomhdeaa
set_option linter.unusedVariables false
namespace Go.Proofs.Ytealjpolomhdeaa
open Go.RowKit
end Go.Proofs.Ytealjpolomhdeaa
set_option linter.unusedVariables false
namespace Go.Proofs.Ytealjpolomhdeaa
open Go.RowKit
theorem tl_le {k n l : Nat} {r : List UInt8} : (tl k n l r).1 ≤ r.length + 1 := by
  unfold tl
  split
  · simp
  · split
    · simp
    · split <;> simp; omega
theorem oneL_le (bs : List UInt8) : (oneL bs).1 ≤ bs.length := by
  cases bs with
  | nil => simp [oneL]
  | cons c r =>
    have h1 := @tl_le 1 (c.toNat - 192) 128 r
    have h2 := @tl_le 2 (c.toNat - 224) 2048 r
    have h3 := @tl_le 3 (c.toNat - 240) 65536 r
    simp only [oneL, List.length_cons]
    (repeat' split) <;> simp <;> omega
/-- The runes ahead of the first bytes that are none's, and where those begin. -/
def scan (bs : List UInt8) (at' : Nat) : List Nat × Option Nat :=
  match bs with
  | [] => ([], none)
  | c :: r =>
    if _h : (oneL (c :: r)).1 = 0 then ([], some at') else
    let q := scan ((c :: r).drop (oneL (c :: r)).1) (at' + (oneL (c :: r)).1)
    ((oneL (c :: r)).2 :: q.1, q.2)
  termination_by bs.length
  decreasing_by simp; omega
theorem scan_nil (a : Nat) : scan [] a = ([], none) := by rw [scan]
theorem scan_bad {c : UInt8} {r : List UInt8} {a : Nat} (h : (oneL (c :: r)).1 = 0) : scan (c :: r) a = ([], some a) := by rw [scan, dif_pos h]
theorem scan_more {c : UInt8} {r : List UInt8} {a : Nat} (h : (oneL (c :: r)).1 ≠ 0) : scan (c :: r) a = ((oneL (c :: r)).2 :: (scan ((c :: r).drop (oneL (c :: r)).1) (a + (oneL (c :: r)).1)).1, (scan ((c :: r).drop (oneL (c :: r)).1) (a + (oneL (c :: r)).1)).2) := by rw [scan, dif_neg h]
def placeI : Option Nat → Int
  | none => -1
  | some n => n

def checkI (n : Nat) (bad : Option Nat) (most : Int) : Int := if most < n then 2 else if bad.isSome then 9 else 0
end Go.Proofs.Ytealjpolomhdeaa
set_option linter.unusedVariables false
namespace Go.Proofs.Ytealjpolomhdeaa
open Go.RowKit
/-- A rune's bytes. -/
def runeB (n : Nat) : List UInt8 :=
  if n < 128 then [b8 n] else
  if n < 2048 then [b8 (192 + n / 64), b8 (128 + n % 64)] else
  if n < 65536 then [b8 (224 + n / 4096), b8 (128 + n / 64 % 64), b8 (128 + n % 64)] else
  [b8 (240 + n / 262144), b8 (128 + n / 4096 % 64), b8 (128 + n / 64 % 64), b8 (128 + n % 64)]

end Go.Proofs.Ytealjpolomhdeaa
set_option linter.unusedVariables false
namespace Go.Proofs.Ytealjpolomhdeaa
open Go.RowKit
theorem runeI_nat {n : Nat} : runeI (n : Int) = true ↔ n ≤ 1114111 ∧ (n < 55296 ∨ 57343 < n) := by simp [runeI]; omega
theorem one_back {n : Nat} (h : runeI (n : Int) = true) (rest : List UInt8) : oneL (runeB n ++ rest) = ((runeB n).length, n) := by
  have hr := runeI_nat.1 h
  unfold runeB
  by_cases a1 : n < 128
  · rw [if_pos a1]; simp [oneL, b8_toNat (show n < 256 by omega), a1]
  rw [if_neg a1]
  by_cases a2 : n < 2048
  · rw [if_pos a2]
    have e1 := b8_toNat (show 192 + n / 64 < 256 by omega)
    have e2 := b8_toNat (show 128 + n % 64 < 256 by omega)
    simp only [List.cons_append, List.nil_append, oneL, e1]
    rw [if_neg (by omega), if_neg (by omega), if_pos (by omega), tl, if_neg (by simp)]
    simp only [conts, e2]
    rw [if_neg (by omega), show (192 + n / 64 - 192) * 64 + (128 + n % 64) - 128 = n from by omega]
    simp [h]; omega
  rw [if_neg a2]
  by_cases a3 : n < 65536
  · rw [if_pos a3]
    have e1 := b8_toNat (show 224 + n / 4096 < 256 by omega)
    have e2 := b8_toNat (show 128 + n / 64 % 64 < 256 by omega)
    have e3 := b8_toNat (show 128 + n % 64 < 256 by omega)
    simp only [List.cons_append, List.nil_append, oneL, e1]
    rw [if_neg (by omega), if_neg (by omega), if_neg (by omega), if_pos (by omega), tl, if_neg (by simp)]
    simp only [conts, e2, e3]
    rw [if_neg (by omega), if_neg (by omega), show ((224 + n / 4096 - 224) * 64 + (128 + n / 64 % 64) - 128) * 64 + (128 + n % 64) - 128 = n from by omega]
    simp [h]; omega
  · rw [if_neg a3]
    have e1 := b8_toNat (show 240 + n / 262144 < 256 by omega)
    have e2 := b8_toNat (show 128 + n / 4096 % 64 < 256 by omega)
    have e3 := b8_toNat (show 128 + n / 64 % 64 < 256 by omega)
    have e4 := b8_toNat (show 128 + n % 64 < 256 by omega)
    simp only [List.cons_append, List.nil_append, oneL, e1]
    rw [if_neg (by omega), if_neg (by omega), if_neg (by omega), if_neg (by omega), if_pos (by omega), tl, if_neg (by simp)]
    simp only [conts, e2, e3, e4]
    rw [if_neg (by omega), if_neg (by omega), if_neg (by omega), show (((240 + n / 262144 - 240) * 64 + (128 + n / 4096 % 64) - 128) * 64 + (128 + n / 64 % 64) - 128) * 64 + (128 + n % 64) - 128 = n from by omega]
    dsimp only
    rw [if_neg (by simp [h]; omega)]
    simp
theorem b8_eq {n : Nat} {c : UInt8} (h : n = c.toNat) : b8 n = c := by rw [h, b8_self]
theorem tl_some {k n l : Nat} {r : List UInt8} (h : (tl k n l r).1 ≠ 0) : k ≤ r.length ∧ ∃ m, conts k n r = some m ∧ l ≤ m ∧ runeI (m : Int) = true ∧ tl k n l r = (k + 1, m) := by
  unfold tl at h ⊢
  split at h
  · simp at h
  rename_i hk
  cases hc : conts k n r with
  | none => rw [hc] at h; simp at h
  | some m =>
    rw [hc] at h
    dsimp only at h
    split at h
    · simp at h
    rename_i hm
    refine ⟨by omega, m, rfl, by omega, ?_, ?_⟩
    · by_cases q : runeI (m : Int) = true
      · exact q
      · exact absurd (Or.inr q) hm
    · rw [if_neg hk]; dsimp only; rw [if_neg hm]
theorem conts1 {n m : Nat} {k : Nat} {d : UInt8} {r : List UInt8} (h : conts (k + 1) n (d :: r) = some m) : 128 ≤ d.toNat ∧ d.toNat < 192 ∧ conts k (n * 64 + d.toNat - 128) r = some m := by
  rw [conts] at h
  split at h
  · cases h
  · exact ⟨by omega, by omega, h⟩
/-- What is read as a rune has that rune's bytes. -/
theorem one_forth {bs : List UInt8} (h : (oneL bs).1 ≠ 0) : runeI ((oneL bs).2 : Int) = true ∧ bs.take (oneL bs).1 = runeB (oneL bs).2 := by
  cases bs with
  | nil => simp [oneL] at h
  | cons c r =>
    have hx := c.toNat_lt
    by_cases a1 : c.toNat < 128
    · have e : oneL (c :: r) = (1, c.toNat) := by simp only [oneL]; rw [if_pos a1]
      rw [e]
      exact ⟨runeI_nat.2 (by omega), by simp [runeB, a1, b8_self]⟩
    by_cases a2 : c.toNat < 192
    · have e : oneL (c :: r) = (0, 0) := by simp only [oneL]; rw [if_neg a1, if_pos a2]
      rw [e] at h; simp at h
    by_cases a3 : c.toNat < 224
    · have e : oneL (c :: r) = tl 1 (c.toNat - 192) 128 r := by simp only [oneL]; rw [if_neg a1, if_neg a2, if_pos a3]
      rw [e] at h ⊢
      obtain ⟨hk, m, hc, hl, hr, ht⟩ := tl_some h
      rw [ht]
      match r, hk, hc with
      | d :: r, _, hc =>
        obtain ⟨d1, d2, hc⟩ := conts1 hc
        simp only [conts, Option.some.injEq] at hc
        refine ⟨hr, ?_⟩
        rw [runeB, if_neg (by omega), if_pos (by omega)]
        simp [b8_eq (show 192 + m / 64 = c.toNat by omega), b8_eq (show 128 + m % 64 = d.toNat by omega)]
    by_cases a4 : c.toNat < 240
    · have e : oneL (c :: r) = tl 2 (c.toNat - 224) 2048 r := by simp only [oneL]; rw [if_neg a1, if_neg a2, if_neg a3, if_pos a4]
      rw [e] at h ⊢
      obtain ⟨hk, m, hc, hl, hr, ht⟩ := tl_some h
      rw [ht]
      match r, hk, hc with
      | d :: d' :: r, _, hc =>
        obtain ⟨d1, d2, hc⟩ := conts1 hc
        obtain ⟨d3, d4, hc⟩ := conts1 hc
        simp only [conts, Option.some.injEq] at hc
        refine ⟨hr, ?_⟩
        rw [runeB, if_neg (by omega), if_neg (by omega), if_pos (by omega)]
        simp [b8_eq (show 224 + m / 4096 = c.toNat by omega), b8_eq (show 128 + m / 64 % 64 = d.toNat by omega), b8_eq (show 128 + m % 64 = d'.toNat by omega)]
    by_cases a5 : c.toNat < 248
    · have e : oneL (c :: r) = tl 3 (c.toNat - 240) 65536 r := by simp only [oneL]; rw [if_neg a1, if_neg a2, if_neg a3, if_neg a4, if_pos a5]
      rw [e] at h ⊢
      obtain ⟨hk, m, hc, hl, hr, ht⟩ := tl_some h
      rw [ht]
      match r, hk, hc with
      | d :: d' :: d'' :: r, _, hc =>
        obtain ⟨d1, d2, hc⟩ := conts1 hc
        obtain ⟨d3, d4, hc⟩ := conts1 hc
        obtain ⟨d5, d6, hc⟩ := conts1 hc
        simp only [conts, Option.some.injEq] at hc
        refine ⟨hr, ?_⟩
        rw [runeB, if_neg (by omega), if_neg (by omega), if_neg (by omega)]
        simp [b8_eq (show 240 + m / 262144 = c.toNat by omega), b8_eq (show 128 + m / 4096 % 64 = d.toNat by omega), b8_eq (show 128 + m / 64 % 64 = d'.toNat by omega), b8_eq (show 128 + m % 64 = d''.toNat by omega)]
    · have e : oneL (c :: r) = (0, 0) := by simp only [oneL]; rw [if_neg a1, if_neg a2, if_neg a3, if_neg a4, if_neg a5]
      rw [e] at h; simp at h
end Go.Proofs.Ytealjpolomhdeaa
set_option linter.unusedVariables false
namespace Go.Proofs.Ytealjpolomhdeaa
open Go.RowKit
theorem runeB_pos (n : Nat) : 0 < (runeB n).length := by
  unfold runeB; (repeat' split) <;> simp
end Go.Proofs.Ytealjpolomhdeaa
set_option linter.unusedVariables false
namespace Go.Proofs.Ytealjpolomhdeaa
open Go.RowKit
set_option maxHeartbeats 1000000 in
theorem prefix_any (s p : ByteArray) (w : World) :
    Calls Try.prog 131 #[.string s, .string p] w fun e w' => e = .returned (.bool (p.data.toList.isPrefixOf s.data.toList)) ∧ w = w' := by
  have h0 : p.data.toList.isPrefixOf s.data.toList = Lib.hasPrefix s.data.toList p.data.toList := rfl
  rw [h0, ← Lib.hasPrefix_of_take, ← Lib.size_eq, ← Lib.size_eq]
  go_enter Try.func131, Try.ntmps131
  go_wp2
  · rename_i h
    go_ret
    refine ⟨ret_bool ?_, rfl⟩
    show ((s.extract 0 p.size).toList == p.toList) = _
    rw [Lib.extract_toList, Lib.toList_data]
    simp [h]
  · rename_i h
    go_ret
    refine ⟨ret_bool ?_, rfl⟩
    simp [h]
end Go.Proofs.Ytealjpolomhdeaa
set_option linter.unusedVariables false
namespace Go.Proofs.Ytealjpolomhdeaa
open Go.RowKit
def atL (l : List UInt8) (k : Nat) : Nat := (l.getD k 0).toNat
def contL (l : List UInt8) (k : Nat) : Bool := decide (k < l.length) && atL l k / 64 == 2
def decL (l : List UInt8) : Nat × Nat :=
  if atL l 0 < 128 then (atL l 0, 1)
  else if atL l 0 / 32 == 6 && contL l 1 then
    if (atL l 0 % 32) * 64 + atL l 1 % 64 ≥ 128 then ((atL l 0 % 32) * 64 + atL l 1 % 64, 2) else (65533, 1)
  else if atL l 0 / 16 == 14 && contL l 1 && contL l 2 then
    if (atL l 0 % 16) * 4096 + (atL l 1 % 64) * 64 + atL l 2 % 64 ≥ 2048 && Utf8.valid ((atL l 0 % 16) * 4096 + (atL l 1 % 64) * 64 + atL l 2 % 64 : Nat) then ((atL l 0 % 16) * 4096 + (atL l 1 % 64) * 64 + atL l 2 % 64, 3) else (65533, 1)
  else if atL l 0 / 8 == 30 && contL l 1 && contL l 2 && contL l 3 then
    if (atL l 0 % 8) * 262144 + (atL l 1 % 64) * 4096 + (atL l 2 % 64) * 64 + atL l 3 % 64 ≥ 65536 && Utf8.valid ((atL l 0 % 8) * 262144 + (atL l 1 % 64) * 4096 + (atL l 2 % 64) * 64 + atL l 3 % 64 : Nat) then ((atL l 0 % 8) * 262144 + (atL l 1 % 64) * 4096 + (atL l 2 % 64) * 64 + atL l 3 % 64, 4) else (65533, 1)
  else (65533, 1)
theorem get_drop (s : ByteArray) (bs : List UInt8) (p k : Nat) (hs : s.data.toList = bs) : (s.get! (p + k)).toNat = atL (bs.drop p) k := by
  subst hs
  unfold atL
  congr 1
  rw [List.getD_eq_getElem?_getD, List.getElem?_drop, Array.getElem?_toList]
  show s.data[p + k]! = _
  rw [getElem!_def]
  cases s.data[p + k]? <;> rfl
theorem decode_decL (s : ByteArray) (bs : List UInt8) (p : Nat) (hs : s.data.toList = bs) : Utf8.decode s p = decL (bs.drop p) := by
  have h := fun k => get_drop s bs p k hs
  have hsz : s.size = bs.length := by rw [← hs]; simp
  have hc : ∀ k, 1 ≤ k → decide (p + k < s.size) = decide (k < (bs.drop p).length) := by
    intro k hk
    rw [List.length_drop, hsz, decide_eq_decide]; omega
  simp only [Utf8.decode, h, decL, contL, Utf8.runeError, hc 1 (by omega), hc 2 (by omega), hc 3 (by omega)]
  rfl
theorem valid_runeI (n : Nat) : Utf8.valid (n : Int) = runeI (n : Int) := by
  unfold Utf8.valid runeI
  rw [Bool.eq_iff_iff]; simp; omega
theorem tl_one {n l : Nat} {d : UInt8} {r : List UInt8} (h : ¬ (d.toNat < 128 ∨ 192 ≤ d.toNat)) : tl 1 n l (d :: r) = if n * 64 + d.toNat - 128 < l ∨ ¬ runeI (n * 64 + d.toNat - 128 : Nat) then (0, 0) else (2, n * 64 + d.toNat - 128) := by
  rw [tl, if_neg (by simp), show conts 1 n (d :: r) = some (n * 64 + d.toNat - 128) from by rw [conts, if_neg h, conts]]
theorem tl_step {k n l : Nat} {d : UInt8} {r : List UInt8} (h : ¬ (d.toNat < 128 ∨ 192 ≤ d.toNat)) : (tl (k + 1) n l (d :: r)) = if (tl k (n * 64 + d.toNat - 128) l r).1 = 0 then (0, 0) else ((tl k (n * 64 + d.toNat - 128) l r).1 + 1, (tl k (n * 64 + d.toNat - 128) l r).2) := by
  have hc : conts (k + 1) n (d :: r) = conts k (n * 64 + d.toNat - 128) r := by rw [conts, if_neg h]
  unfold tl
  rw [hc]
  by_cases hk : r.length < k
  · rw [if_pos (by simpa using hk), if_pos hk]; rfl
  · rw [if_neg (by simpa using hk), if_neg hk]
    cases conts k (n * 64 + d.toNat - 128) r with
    | none => rfl
    | some m =>
      dsimp only
      by_cases hm : m < l ∨ ¬ runeI (m : Int) = true
      · simp only [hm, if_true]
      · simp only [hm, if_false]; simp
theorem tl_bad {k n l : Nat} {d : UInt8} {r : List UInt8} (h : d.toNat < 128 ∨ 192 ≤ d.toNat) : tl (k + 1) n l (d :: r) = (0, 0) := by
  rw [tl]
  split
  · rfl
  · rw [show conts (k + 1) n (d :: r) = none from by rw [conts, if_pos h]]
theorem contL_of {l : List UInt8} {k : Nat} {d : UInt8} (h : l[k]? = some d) : contL l k = decide (128 ≤ d.toNat ∧ d.toNat < 192) := by
  have hk := (List.getElem?_eq_some_iff.1 h).1
  have e : atL l k = d.toNat := by rw [atL, List.getD_eq_getElem?_getD, h]; rfl
  have hd := d.toNat_lt
  rw [contL, e, Bool.eq_iff_iff]; simp [hk]; omega
theorem atL_of {l : List UInt8} {k : Nat} {d : UInt8} (h : l[k]? = some d) : atL l k = d.toNat := by rw [atL, List.getD_eq_getElem?_getD, h]; rfl
theorem contL_no {l : List UInt8} {k : Nat} (h : l.length ≤ k) : contL l k = false := by simp [contL]; omega
theorem tl_short {k n l : Nat} {r : List UInt8} (h : r.length < k) : tl k n l r = (0, 0) := by rw [tl, if_pos h]
theorem dec_pair (m l k : Nat) (b : Bool) (hb : b = decide (l ≤ m ∧ runeI (m : Int) = true)) (hk : k ≠ 0) : (if b = true then (m, k) else (65533, 1)) = if (if m < l ∨ ¬ runeI (m : Int) = true then (0, 0) else (k, m)).1 = 0 then (65533, 1) else ((if m < l ∨ ¬ runeI (m : Int) = true then (0, 0) else (k, m)).2, (if m < l ∨ ¬ runeI (m : Int) = true then (0, 0) else (k, m)).1) := by
  subst hb
  by_cases h : m < l ∨ ¬ runeI (m : Int) = true
  · rw [if_pos h, if_neg (by rw [decide_eq_true_eq]; rintro ⟨h1, h2⟩; rcases h with h | h; omega; exact h h2)]; rfl
  · have h1 : l ≤ m := by omega
    have h2 : runeI (m : Int) = true := by
      cases hr : runeI (m : Int)
      · exact absurd (Or.inr (by simp [hr])) h
      · rfl
    rw [if_neg h, if_pos (by simp [h1, h2])]; simp [hk]
theorem dec_one (c : UInt8) (r : List UInt8) : decL (c :: r) = if (oneL (c :: r)).1 = 0 then (65533, 1) else ((oneL (c :: r)).2, (oneL (c :: r)).1) := by
  have hx := c.toNat_lt
  have e0 : atL (c :: r) 0 = c.toNat := rfl
  by_cases a1 : c.toNat < 128
  · have e : oneL (c :: r) = (1, c.toNat) := by simp only [oneL]; rw [if_pos a1]
    rw [e, decL, e0, if_pos a1]; rfl
  by_cases a2 : c.toNat < 192
  · have e : oneL (c :: r) = (0, 0) := by simp only [oneL]; rw [if_neg a1, if_pos a2]
    have b1 : (c.toNat / 32 == 6) = false := by simp; omega
    have b2 : (c.toNat / 16 == 14) = false := by simp; omega
    have b3 : (c.toNat / 8 == 30) = false := by simp; omega
    rw [e, decL, e0, if_neg a1, b1, b2, b3]; rfl
  by_cases a3 : c.toNat < 224
  · have e : oneL (c :: r) = tl 1 (c.toNat - 192) 128 r := by simp only [oneL]; rw [if_neg a1, if_neg a2, if_pos a3]
    have b1 : (c.toNat / 32 == 6) = true := by simp; omega
    have b2 : (c.toNat / 16 == 14) = false := by simp; omega
    have b3 : (c.toNat / 8 == 30) = false := by simp; omega
    rw [e, decL, e0, if_neg a1, b1, b2, b3]
    simp only [Bool.false_and, Bool.true_and, Bool.false_eq_true, if_false]
    match r with
    | [] => rw [tl_short (by simp), contL_no (by simp)]; rfl
    | d :: r =>
      have hd := d.toNat_lt
      rw [contL_of (k := 1) (d := d) rfl, atL_of (k := 1) (d := d) rfl]
      by_cases h1 : d.toNat < 128 ∨ 192 ≤ d.toNat
      · rw [tl_bad h1, if_neg (by simp; omega)]; rfl
      rw [if_pos (by simp; omega), tl_one h1, show c.toNat % 32 * 64 + d.toNat % 64 = (c.toNat - 192) * 64 + d.toNat - 128 from by omega]
      have hm : (c.toNat - 192) * 64 + d.toNat - 128 ≤ 2047 := by omega
      generalize (c.toNat - 192) * 64 + d.toNat - 128 = m at *
      have hr : runeI (m : Int) = true := runeI_nat.2 (by omega)
      rw [← dec_pair m 128 2 (decide (128 ≤ m)) (by rw [decide_eq_decide]; simp [hr]) (by omega)]
      simp
  by_cases a4 : c.toNat < 240
  · have e : oneL (c :: r) = tl 2 (c.toNat - 224) 2048 r := by simp only [oneL]; rw [if_neg a1, if_neg a2, if_neg a3, if_pos a4]
    have b1 : (c.toNat / 32 == 6) = false := by simp; omega
    have b2 : (c.toNat / 16 == 14) = true := by simp; omega
    have b3 : (c.toNat / 8 == 30) = false := by simp; omega
    rw [e, decL, e0, if_neg a1, b1, b2, b3]
    simp only [Bool.false_and, Bool.true_and, Bool.false_eq_true, if_false]
    match r with
    | [] => rw [tl_short (by simp), contL_no (by simp)]; rfl
    | [d] => rw [tl_short (by simp), contL_no (k := 2) (by simp), Bool.and_false]; rfl
    | d :: d' :: r =>
      have hd := d.toNat_lt
      have hd' := d'.toNat_lt
      rw [contL_of (k := 1) (d := d) rfl, atL_of (k := 1) (d := d) rfl, contL_of (k := 2) (d := d') rfl, atL_of (k := 2) (d := d') rfl]
      by_cases h1 : d.toNat < 128 ∨ 192 ≤ d.toNat
      · rw [tl_bad h1, if_neg (by simp; omega)]; rfl
      rw [tl_step h1]
      by_cases h2 : d'.toNat < 128 ∨ 192 ≤ d'.toNat
      · rw [tl_bad h2, if_neg (by simp; omega)]; rfl
      rw [if_pos (by simp; omega), tl_one h2, show c.toNat % 16 * 4096 + d.toNat % 64 * 64 + d'.toNat % 64 = ((c.toNat - 224) * 64 + d.toNat - 128) * 64 + d'.toNat - 128 from by omega]
      generalize ((c.toNat - 224) * 64 + d.toNat - 128) * 64 + d'.toNat - 128 = m at *
      rw [valid_runeI, dec_pair m 2048 3 _ (by rw [Bool.eq_iff_iff]; simp) (by omega)]
      by_cases hb : m < 2048 ∨ ¬ runeI (m : Int) = true
      · rw [if_pos hb, if_pos hb]; rfl
      · rw [if_neg hb, if_neg hb]; rfl
  by_cases a5 : c.toNat < 248
  · have e : oneL (c :: r) = tl 3 (c.toNat - 240) 65536 r := by simp only [oneL]; rw [if_neg a1, if_neg a2, if_neg a3, if_neg a4, if_pos a5]
    have b1 : (c.toNat / 32 == 6) = false := by simp; omega
    have b2 : (c.toNat / 16 == 14) = false := by simp; omega
    have b3 : (c.toNat / 8 == 30) = true := by simp; omega
    rw [e, decL, e0, if_neg a1, b1, b2, b3]
    simp only [Bool.false_and, Bool.true_and, Bool.false_eq_true, if_false]
    match r with
    | [] => rw [tl_short (by simp), contL_no (by simp)]; rfl
    | [d] => rw [tl_short (by simp), contL_no (k := 2) (by simp), Bool.and_false]; rfl
    | [d, d'] => rw [tl_short (by simp), contL_no (k := 3) (by simp), Bool.and_false]; rfl
    | d :: d' :: d'' :: r =>
      have hd := d.toNat_lt
      have hd' := d'.toNat_lt
      have hd'' := d''.toNat_lt
      rw [contL_of (k := 1) (d := d) rfl, atL_of (k := 1) (d := d) rfl, contL_of (k := 2) (d := d') rfl, atL_of (k := 2) (d := d') rfl, contL_of (k := 3) (d := d'') rfl, atL_of (k := 3) (d := d'') rfl]
      by_cases h1 : d.toNat < 128 ∨ 192 ≤ d.toNat
      · rw [tl_bad h1, if_neg (by simp; omega)]; rfl
      rw [tl_step h1]
      by_cases h2 : d'.toNat < 128 ∨ 192 ≤ d'.toNat
      · rw [tl_bad h2, if_neg (by simp; omega)]; rfl
      rw [tl_step h2]
      by_cases h3 : d''.toNat < 128 ∨ 192 ≤ d''.toNat
      · rw [tl_bad h3, if_neg (by simp; omega)]; rfl
      rw [if_pos (by simp; omega), tl_one h3, show c.toNat % 8 * 262144 + d.toNat % 64 * 4096 + d'.toNat % 64 * 64 + d''.toNat % 64 = (((c.toNat - 240) * 64 + d.toNat - 128) * 64 + d'.toNat - 128) * 64 + d''.toNat - 128 from by omega]
      generalize (((c.toNat - 240) * 64 + d.toNat - 128) * 64 + d'.toNat - 128) * 64 + d''.toNat - 128 = m at *
      rw [valid_runeI, dec_pair m 65536 4 _ (by rw [Bool.eq_iff_iff]; simp) (by omega)]
      by_cases hb : m < 65536 ∨ ¬ runeI (m : Int) = true
      · rw [if_pos hb, if_pos hb]; rfl
      · rw [if_neg hb, if_neg hb]; rfl
  · have e : oneL (c :: r) = (0, 0) := by simp only [oneL]; rw [if_neg a1, if_neg a2, if_neg a3, if_neg a4, if_neg a5]
    have b1 : (c.toNat / 32 == 6) = false := by simp; omega
    have b2 : (c.toNat / 16 == 14) = false := by simp; omega
    have b3 : (c.toNat / 8 == 30) = false := by simp; omega
    rw [e, decL, e0, if_neg a1, b1, b2, b3]; rfl
/-- What a range over a text gives at a place. -/
theorem decode_at (s : ByteArray) (bs : List UInt8) (p : Nat) (c : UInt8) (r : List UInt8) (hs : s.data.toList = bs) (hd : bs.drop p = c :: r) :
    Utf8.decode s p = if (oneL (c :: r)).1 = 0 then (65533, 1) else ((oneL (c :: r)).2, (oneL (c :: r)).1) := by
  rw [decode_decL s bs p hs, hd, dec_one]
/-- A rune's bytes, as the model encodes them. -/
theorem encode_rune {n : Nat} (h : runeI (n : Int) = true) : (Utf8.encode (n : Int)).data.toList = runeB n := by
  have hv : Utf8.valid (n : Int) = true := by rw [valid_runeI]; exact h
  unfold Utf8.encode
  simp only [hv, if_true, Int.toNat_natCast]
  by_cases a1 : n < 128
  · rw [if_pos a1, runeB, if_pos a1]; simp only [b8]
  by_cases a2 : n < 2048
  · rw [if_neg a1, if_pos a2, runeB, if_neg a1, if_pos a2]; simp only [b8]
  by_cases a3 : n < 65536
  · rw [if_neg a1, if_neg a2, if_pos a3, runeB, if_neg a1, if_neg a2, if_pos a3]; simp only [b8]
  · rw [if_neg a1, if_neg a2, if_neg a3, runeB, if_neg a1, if_neg a2, if_neg a3]; simp only [b8]
end Go.Proofs.Ytealjpolomhdeaa
set_option linter.unusedVariables false
namespace Go.Proofs.Ytealjpolomhdeaa
open Go.RowKit
theorem ext_drop (s : ByteArray) (bs : List UInt8) (p e : Nat) (hs : s.data.toList = bs) (he : bs.length ≤ e) : (s.extract p e).data.toList = bs.drop p := by
  subst hs
  simp only [ByteArray.data_extract, Array.toList_extract, List.extract_eq_take_drop]
  exact List.take_of_length_le (by rw [List.length_drop]; omega)
theorem below_iter (w : World) (s : ByteArray) (p : Nat) : Below w.heap.size w (w.iter s p) := (Below.refl _ w).alloc (Nat.le_refl _) _
theorem prefix_good {c : UInt8} {r : List UInt8} (h : (oneL (c :: r)).1 ≠ 0) : (Utf8.encode ((oneL (c :: r)).2 : Int)).data.toList.isPrefixOf (c :: r) = true := by
  obtain ⟨h1, h2⟩ := one_forth h
  rw [encode_rune h1, ← h2]
  simp [List.isPrefixOf_iff_prefix, List.take_prefix]
theorem prefix_bad {c : UInt8} {r : List UInt8} (h : (oneL (c :: r)).1 = 0) : (Utf8.encode 65533).data.toList.isPrefixOf (c :: r) = false := by
  have hr : runeI ((65533 : Nat) : Int) = true := by decide
  have he := encode_rune hr
  rw [show ((65533 : Nat) : Int) = 65533 from rfl] at he
  rw [he]
  cases hp : (runeB 65533).isPrefixOf (c :: r)
  · rfl
  · obtain ⟨t, ht⟩ := List.isPrefixOf_iff_prefix.1 hp
    have := one_back hr t
    rw [ht] at this
    rw [this] at h
    have hpos := runeB_pos 65533
    simp only at h
    omega
set_option maxRecDepth 100000 in
set_option maxHeartbeats 1000000 in
theorem first_any (s : ByteArray) (bs : List UInt8) (w : World) (hs : s.data.toList = bs) (hl : bs.length ≤ 9223372036854775807) :
    Calls Try.prog 107 #[.string s] w fun e w' => e = .returned (.int .i64 (placeI (scan bs 0).2)) ∧ Below w.heap.size w w' := by
  have hsz : s.size = bs.length := by rw [← hs]; simp
  have HSB := hid hs
  clear hs
  generalize hn : bs.length = n at *
  have HN := hid hn
  clear hn
  go_enter Try.func107, Try.ntmps107
  go_wp2
  go_loopw [] (fun wr => ∃ pos, wr = w.iter s pos ∧ pos ≤ n ∧ (scan bs 0).2 = (scan (bs.drop pos) pos).2) (fun wr => s.size - wr.iterPos w.heap.size)
  case atStart => exact ⟨0, rfl, by omega, by simp⟩
  case round =>
    obtain ⟨pos, rfl, hpn, hsc⟩ := hrel
    have HC := hid hsc
    clear hsc
    by_cases hp : pos < s.size
    · have hnx : ∀ ty, (Instr.next (.pointer (some ⟨w.heap.size, 0, none⟩)) true ty).run Try.prog (w.iter s pos) = _ := fun ty => run_next_any w s pos ty hp
      obtain ⟨c, r, hd⟩ : ∃ c r, bs.drop pos = c :: r := by
        cases hq : bs.drop pos with
        | nil => have := congrArg List.length hq; have := HN.out; simp at *; omega
        | cons c r => exact ⟨c, r, rfl⟩
      have ho := oneL_le (bs.drop pos)
      rw [List.length_drop, HN.out, hd] at ho
      have hdec := decode_at s bs pos c r HSB.out hd
      have hext := ext_drop s bs pos n HSB.out (by have := HN.out; omega)
      rw [hd] at hext
      have hb := @scan_bad c r pos
      have hm := @scan_more c r pos
      have pg := @prefix_good c r
      have pb := @prefix_bad c r
      have HD := hid hd
      have HE := hid hext
      clear hd hext
      generalize hq : oneL (c :: r) = q at *
      obtain ⟨o, v⟩ := q
      simp only at ho hb hm hdec pg pb
      have HQ := hid hq
      have HB := hid hb
      have HM := hid hm
      clear hq hb hm
      by_cases ho0 : o = 0
      · rw [if_pos ho0] at hdec
        have PB := hid (pb ho0)
        rw [hdec] at hnx
        have HO := hid ho0
        clear pg pb hdec ho0
        go_wp2_with fail
        refine (prefix_any _ _ _).mono ?_
        rw [HE.out, PB.out]
        rintro e w1 ⟨rfl, rfl⟩
        go_wp2
        go_ret
        rw [HC.out, HD.out, HB.out HO.out]
        exact ⟨rfl, below_iter w s _⟩
      · rw [if_neg ho0] at hdec
        have PG := hid (pg ho0)
        rw [hdec] at hnx
        have HO := hid ho0
        clear pg pb hdec ho0
        go_wp2_with fail
        refine (prefix_any _ _ _).mono ?_
        rw [HE.out, PG.out]
        rintro e w1 ⟨rfl, rfl⟩
        go_wp2
        go_roundw
        case rel => exact ⟨pos + o, rfl, by omega, by rw [HC.out, HD.out, HM.out HO.out, ← HD.out, List.drop_drop]⟩
        case measure => have := HO.out; simp; omega
    · have hnx : ∀ ty, (Instr.next (.pointer (some ⟨w.heap.size, 0, none⟩)) true ty).run Try.prog (w.iter s pos) = _ := fun ty => run_next_end w s pos ty hp
      go_wp2
      go_ret
      rw [HC.out, List.drop_eq_nil_of_le (by have := HN.out; omega), scan_nil]
      exact ⟨rfl, below_iter w s pos⟩
end Go.Proofs.Ytealjpolomhdeaa
set_option linter.unusedVariables false
namespace Go.Proofs.Ytealjpolomhdeaa
open Go.RowKit
set_option maxRecDepth 100000 in
set_option maxHeartbeats 1000000 in
theorem check_any (s : ByteArray) (bs : List UInt8) (most : Int) (w : World) (hs : s.data.toList = bs) (hl : bs.length ≤ 9223372036854775807) (h1 : -9223372036854775808 ≤ most) (h2 : most ≤ 9223372036854775807) :
    Calls Try.prog 79 #[.string s, .int .i64 most] w fun e w' => e = .returned (.int .i64 (checkI bs.length (scan bs 0).2 most)) ∧ Below w.heap.size w w' := by
  have hsz : s.size = bs.length := by rw [← hs]; simp
  have HF := hid (first_any s bs w hs hl)
  have HSB := hid hs
  clear hs
  generalize (scan bs 0).2 = f at *
  generalize hn : bs.length = n at *
  by_cases hm : most < n
  · go_enter Try.func79, Try.ntmps79
    go_wp2
    go_ret
    exact ⟨ret_int (by simp [checkI, hm]), Below.refl _ _⟩
  · cases f with
    | none =>
      go_enter Try.func79, Try.ntmps79
      go_wp2_with fail
      refine HF.out.mono ?_
      rintro e w1 ⟨rfl, hb1⟩
      simp only [placeI]
      go_wp2
      go_ret
      exact ⟨ret_int (by simp [checkI, hm]), hb1⟩
    | some k =>
      go_enter Try.func79, Try.ntmps79
      go_wp2_with fail
      refine HF.out.mono ?_
      rintro e w1 ⟨rfl, hb1⟩
      simp only [placeI]
      go_wp2
      go_ret
      exact ⟨ret_int (by simp [checkI, hm]), hb1⟩
end Go.Proofs.Ytealjpolomhdeaa
set_option linter.unusedVariables false
namespace Go.Proofs.Ytealjpolomhdeaa
theorem wpOpIn_of_list {F : Fence} {n : Nat} {P : Program} {ops : Array Oper} {Q : Exit → Act → World → Prop} {i : Nat} {o : Oper} {K : Act → World → Prop} {a : Act} {w : World} (ho : ops[i]? = some o) (h : wpListIn F n P ops (Exit.then K Q) [o] a w) : wpOpIn F n P ops Q i K a w := by
  unfold wpOpIn
  simp only [ho]
  unfold wpListIn at h
  split
  · rename_i hw
    simp only [hw, if_true] at h
    unfold Oper.wpIn at *
    refine ⟨h.1, ?_⟩
    have h := h.2
    generalize (o.semAt F.round a.eval).run P w = r at *
    cases r with
    | ok x w' =>
      cases x <;> simp only [Oper.uponIn] at h ⊢ <;>
        first
          | exact h
          | exact ⟨h.1, CallsIn.mono h.2 (fun e w'' he => by cases e <;> exact he)⟩
          | exact ⟨h.1, RowsIn.mono h.2 (fun _ _ he => he)⟩
          | exact ⟨h.1, RoundIn.mono h.2 (fun e w'' he => by cases e <;> exact he)⟩
    | halt x w' => cases x <;> simp only [Oper.uponIn] at h ⊢ <;> exact h
  · rename_i hw
    simp only [hw] at h
    exact h
theorem wpAnyIn_invB {F : Fence} {n : Nat} {P : Program} {md : Region.Mode} {ops : Array Oper} {Q : Exit → Act → World → Prop} (hup : regUpB md ops = true) (I : (Nat → Bool) → Act → World → Prop)
    (hstep : ∀ f a w i o, ops[i]? = some o → f i = false → (∀ e ∈ o.after, Region.binds md e = true → f e.on = true) → I f a w → wpListIn F n P ops (Exit.then (fun a' w' => I (fun k => decide (k = i) || f k) a' w') Q) [o] a w)
    (hdone : ∀ f a w, (∀ i, i < ops.size → f i = true) → I f a w → Q .normal a w) :
    ∀ (fuel : Nat) (listed : Array Bool) (a : Act) (w : World), listed.size = ops.size → ((List.range ops.size).filter fun i => !listed.getD i true).length ≤ fuel → I (fun k => listed.getD k true) a w → wpAnyIn F n P md ops Q fuel listed a w := by
  have hall : ∀ (listed : Array Bool), listed.size = ops.size → Region.ready md ops listed = [] → ∀ i, i < ops.size → listed.getD i true = true := by
    intro listed hsz hr i
    induction i using Nat.strongRecOn with
    | _ i ih =>
      intro hi
      cases hb : listed.getD i true with
      | true => rfl
      | false =>
        exfalso
        have ho : ops[i]? = some ops[i] := Array.getElem?_eq_getElem hi
        have : i ∈ Region.ready md ops listed := mem_ready.2 ⟨hb, ops[i], ho, fun e he hb2 => by
          have h1 := regUpB_spec hup ho e he hb2
          have h2 := ih e.on h1 (by omega)
          have h3 : e.on < listed.size := by omega
          simp only [Array.getD_eq_getD_getElem?, Array.getElem?_eq_getElem h3, Option.getD_some] at h2 ⊢
          exact h2⟩
        rw [hr] at this
        cases this
  intro fuel
  induction fuel with
  | zero =>
    intro listed a w hsz hc hI
    have hnil : Region.ready md ops listed = [] := by
      cases hr : Region.ready md ops listed with
      | nil => rfl
      | cons x xs =>
        have hx : x ∈ Region.ready md ops listed := by rw [hr]; exact List.mem_cons_self ..
        obtain ⟨h1, o, h2, -⟩ := mem_ready.1 hx
        have h3 : x ∈ (List.range ops.size).filter fun i => !listed.getD i true := List.mem_filter.2 ⟨List.mem_range.2 (Array.getElem?_eq_some_iff.1 h2).1, by rw [h1]; rfl⟩
        have := List.length_pos_of_mem h3
        omega
    exact ⟨hnil, hdone _ a w (hall listed hsz hnil) hI⟩
  | succ fuel ih =>
    intro listed a w hsz hc hI
    refine ⟨fun hr => hdone _ a w (hall listed hsz hr) hI, fun i hi => ?_⟩
    obtain ⟨h1, o, h2, h3⟩ := mem_ready.1 hi
    have hlt : i < ops.size := (Array.getElem?_eq_some_iff.1 h2).1
    refine wpOpIn_mono (fun a' w' h => ?_) (wpOpIn_of_list h2 (hstep _ a w i o h2 h1 (fun e he hb => by
      have h4 := h3 e he hb
      have h5 := regUpB_spec hup h2 e he hb
      have h6 : e.on < listed.size := by omega
      simp only [Array.getD_eq_getD_getElem?, Array.getElem?_eq_getElem h6, Option.getD_some] at h4 ⊢
      exact h4) hI))
    have hfn : (fun k => decide (k = i) || listed.getD k true) = fun k => (listed.setIfInBounds i true).getD k true := by
      funext k
      by_cases hk : k = i
      · subst hk
        simp [Array.getD_eq_getD_getElem?, hsz, hlt]
      · rw [getD_set_ne true (fun e => hk e.symm)]
        simp [hk]
    refine ih _ a' w' (by simpa using hsz) ?_ (by rw [← hfn]; exact h)
    have hf : ((List.range ops.size).filter fun k => !(listed.setIfInBounds i true).getD k true) = ((List.range ops.size).filter fun k => !listed.getD k true).filter fun k => !decide (k = i) := by
      rw [List.filter_filter]
      congr 1
      funext k
      rw [← congrFun hfn k]
      cases decide (k = i) <;> simp
    have hmem : i ∈ (List.range ops.size).filter fun k => !listed.getD k true := List.mem_filter.2 ⟨List.mem_range.2 hlt, by rw [h1]; rfl⟩
    have hlt2 : (((List.range ops.size).filter fun k => !listed.getD k true).filter fun k => !decide (k = i)).length < ((List.range ops.size).filter fun k => !listed.getD k true).length :=
      List.length_filter_lt_length_iff_exists.2 ⟨i, hmem, by simp⟩
    rw [hf]
    omega
/-- A region that draws its order: an invariant over what has come up, from the frame and the world at its head. -/
theorem wpIn_region_invB {F : Fence} {n : Nat} {P : Program} {ops : Array Oper} {Q : Exit → Act → World → Prop} {id : Nat} {a : Act} {w : World} (hm : P.follows .mixedOrders = true) (hup : regUpB .any ops = true) (I : Act → World → (Nat → Bool) → Act → World → Prop)
    (h0 : I a w (fun k => decide (ops.size ≤ k)) a w.drew)
    (hstep : ∀ f a' w' i o, ops[i]? = some o → f i = false → (∀ e ∈ o.after, Region.binds .any e = true → f e.on = true) → I a w f a' w' → wpListIn F n P ops (Exit.then (fun a'' w'' => I a w (fun k => decide (k = i) || f k) a'' w'') Q) [o] a' w')
    (hdone : ∀ f a' w', (∀ i, i < ops.size → f i = true) → I a w f a' w' → Q .normal a' w') : (Code.region id ops true).wpIn F n P Q a w := by
  refine wpIn_region_any hm (wpAnyIn_invB hup (I a w) hstep hdone ops.size _ a _ (by simp) ?_ ?_)
  · exact Nat.le_trans (List.length_filter_le _ _) (by simp)
  · have e : (fun k => (Array.replicate ops.size false).getD k true) = fun k => decide (ops.size ≤ k) := by
      funext k
      by_cases hk : k < ops.size
      · simp [Array.getD_eq_getD_getElem?, hk]
      · simp [Array.getD_eq_getD_getElem?, hk]; omega
    rw [e]
    exact h0
end Go.Proofs.Ytealjpolomhdeaa
